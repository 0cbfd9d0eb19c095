/-
  Texts of this seat, laid together.
-/
import Derived.Test.YtnlepnfdgdbkoaaGreatDoorYStepL
import Derived.Test.YtnlepnfdgdbkoaaGreatDoorYZc
namespace Go.Proofs.YtnlepnfdgdbkoaaGreatDoor
open Go.RowKit M
set_option linter.unusedVariables false
set_option linter.unusedSimpArgs false
def collL (keys raw : List Int) (n : Nat) : List R := (List.range n).map fun (s : Nat) => rowFromV (keys.getD s 0) ((raw.drop (s * 8)).take 8)
theorem collL_len (keys raw : List Int) (n : Nat) : (collL keys raw n).length = n := by simp [collL]
theorem collL_at (keys raw : List Int) (n j : Nat) (h : j < n) : (collL keys raw n).getD j zeroR = rowFromV (keys.getD j 0) ((raw.drop (j * 8)).take 8) := by
  unfold collL
  rw [List.getD_eq_getElem?_getD, List.getElem?_map, List.getElem?_range h]; rfl
theorem collL_fit (keys raw : List Int) (n : Nat) : FitR (collL keys raw n) := fun j hj => by
  rw [collL_len] at hj
  rw [collL_at keys raw n j hj]
  exact rowFrom_fit _ _
theorem collL_report (r : J) : oneV (sortV ((collL r.keys r.raw (rowsN r)).filter fun r => !quietV r)) = rowsV r := by
  rw [report_sorted _ (fun x hr h => by
    obtain ⟨s, _, rfl⟩ := List.mem_map.1 hr
    exact rowFrom_kind _ _ h)]
  unfold collL rowsV rowsT
  rw [List.foldl_map]
theorem arg_part {w : World} {b off cap : Nat} {raw : List Int} (hb : b < w.heap.size) (hc : ∀ j, j < raw.length → w.cell? ⟨b, off + j, none⟩ = some (.int .i64 (raw.getD j 0))) (hcap : raw.length ≤ cap) (hm : cap ≤ maxLen) (k n : Nat) (hk : k + n ≤ raw.length) : IntsArg w (.slice (some ⟨b, off + k, none⟩) n (cap - k)) ((raw.drop k).take n) := by
  have e : ((raw.drop k).take n).length = n := by rw [List.length_take, List.length_drop]; omega
  refine ⟨_, cap - k, by rw [e], by omega, by omega, fun _ => ⟨b, off + k, rfl, hb, fun j hj => ?_⟩⟩
  rw [e] at hj
  rw [Nat.add_assoc, hc (k + j) (by omega), List.getD_eq_getElem?_getD, List.getD_eq_getElem?_getD, List.getElem?_take_of_lt hj, List.getElem?_drop]
theorem Fit.part {raw : List Int} (h : Fit raw) (k n : Nat) : Fit ((raw.drop k).take n) := fun z hz => h z (List.mem_of_mem_drop (List.mem_of_mem_take hz))
set_option maxRecDepth 100000 in
set_option maxHeartbeats 8000000 in
theorem iCollected_any (w : World) (r : J) (vk vr : Value) (hk : IntsArg w vk r.keys) (hr : IntsArg w vr r.raw) (hfk : Fit r.keys) (hfr : Fit r.raw) (hk4 : r.keys.length ≤ 4) (hr32 : r.raw.length ≤ 1048576) :
    Calls Tryz.prog 112 #[vk, vr] w (MadeR w (rowsV r)) := by
  obtain ⟨i0, hi, hz0, hz1, hz2⟩ := info_parts info_row
  have HE := Lib.hid (collL_report r)
  have hn4 : rowsN r ≤ 4 := by unfold rowsN; omega
  have hnk : rowsN r ≤ r.keys.length := by unfold rowsN; omega
  have hnr : rowsN r * 8 ≤ r.raw.length := by unfold rowsN; omega
  obtain ⟨Ak, ck, rfl, hk1, hk2, hk3⟩ := hk
  obtain ⟨Ar, cr, rfl, hr1, hr2, hr3⟩ := hr
  obtain ⟨q, hq⟩ : ∃ q : Nat, r.raw.length / 8 = q := ⟨_, rfl⟩
  have hq1 : (r.raw.length : Int) / 8 = (q : Int) := by omega
  have hq2 : (r.raw.length : Int).tdiv 8 = (q : Int) := by rw [Int.tdiv_eq_ediv_of_nonneg (by omega)]; exact hq1
  have hmin : min (r.keys.length : Int) (q : Int) = (rowsN r : Int) := by unfold rowsN; rw [hq]; omega
  have hif : (if (q : Int) < (r.keys.length : Int) then (q : Int) else (r.keys.length : Int)) = (rowsN r : Int) := by unfold rowsN; rw [hq]; split <;> omega
  clear hq
  have HCA := Lib.hid (fun j (hj : j < rowsN r) => collL_at r.keys r.raw (rowsN r) j hj)
  have HCL := Lib.hid (collL_len r.keys r.raw (rowsN r))
  have HCF := Lib.hid (collL_fit r.keys r.raw (rowsN r))
  generalize rowsN r = n at *
  have HPS := Lib.hid (partR_set (collL r.keys r.raw n))
  generalize collL r.keys r.raw n = cl at *
  have hn2 : (n : Int) ≤ 4 := by omega
  go_enter Tryz.func112, Tryz.ntmps112
  go_wp2_with (refine wpList_make_full _ rfl _ _ 37 rfl w.heap.size 55 i0 zeroR.v 10 Tryz.underlying37 hi hz0 hz1 .i64 .i64 _ _ n rfl rfl rfl rfl ?c1 ?c2 ?c3 ?_; rotate_left 3; intro w1 hown hg; have HO := Lib.hid hown; have HG := Lib.hid hg; clear hown hg)
  case c1 => rw [hz2]; omega
  case c2 => unfold maxLen; omega
  case c3 => exact Nat.le_refl _
  clear hi hz0 hz1 hz2
  go_loopw [16] (fun i wr => ∃ j : Nat, j ≤ n ∧ i = .int .i64 j ∧ OwnR wr w.heap.size (.slice (some ⟨w.heap.size, 0, none⟩) n n) (partR cl j) ∧ Below w.heap.size w wr) (fun i _ => n - (intOf i).toNat)
  case atStart =>
    refine ⟨0, Nat.zero_le _, rfl, ?_, below_made' HG.out⟩
    have := HO.out
    rw [zero_cells] at this
    unfold OwnR
    rw [partR_zero, HCL.out, List.length_replicate]
    exact this
  case round =>
    obtain ⟨j, hj, rfl, ho, hbl⟩ := hrel
    clear HO HG
    have HPL := Lib.hid (show (partR cl j).length = n by rw [partR_length, HCL.out])
    by_cases hlt : j < n
    · obtain ⟨kb, ko, rfl, hkb, hkc⟩ := hk3 (by omega)
      obtain ⟨rb, ro, rfl, hrb, hrc⟩ := hr3 (by omega)
      have hkc1 : wr.cell? ⟨kb, ko + j, none⟩ = some (.int .i64 (r.keys.getD j 0)) := (hbl.cell (p := ⟨kb, ko + j, none⟩) hkb).trans (hkc j (by omega))
      have HRJ := fun W (hW : Below w.heap.size w W) => Lib.hid (iRowFrom_any W (r.keys.getD j 0) _ _ (arg_part (w := W) (Nat.lt_of_lt_of_le hrb hW.size) (fun i hi => (hW.cell (p := ⟨rb, ro + i, none⟩) hrb).trans (hrc i hi)) hr1 hr2 (j * 8) 8 (by omega)) (hfr.part _ _) (hfk.at j).1 (hfk.at j).2)
      have HP := Lib.hid (HPS.out j (by rw [HCL.out]; exact hlt))
      rw [HCA.out j hlt] at HP
      have HO2 := Lib.hid ho
      have HB := Lib.hid hbl
      clear ho hbl hkc hrc hk3 hr3
      have hltz : (j : Int) < (n : Int) := by omega
      have i1 : (j : Int) < (r.keys.length : Int) := by omega
      have w1 : IntKind.i64.wrap ((j : Int) * 8) = ((j * 8 : Nat) : Int) := by rw [IntKind.wrap_i64]; omega
      have w2 : IntKind.i64.wrap ((j : Int) + 1) = ((j + 1 : Nat) : Int) := by rw [IntKind.wrap_i64]; omega
      have w3 : IntKind.i64.wrap (((j + 1 : Nat) : Int) * 8) = ((j * 8 + 8 : Nat) : Int) := by rw [IntKind.wrap_i64]; omega
      have w3' : IntKind.i64.wrap (((j : Int) + 1) * 8) = ((j * 8 + 8 : Nat) : Int) := by rw [IntKind.wrap_i64]; omega
      generalize rowFromV (r.keys.getD j 0) ((r.raw.drop (j * 8)).take 8) = rr at *
      obtain ⟨key, kind, sum, st, last, n', mn, mx, total, dropped⟩ := rr
      unfold R.v at HRJ
      simp only at HRJ
      have HRL := Lib.hid hr1
      have HRM := Lib.hid hr2
      go_upto_region 5 with fail
      have hkn : kb ≠ w.heap.size := by omega
      obtain ⟨kz, hkz⟩ : ∃ kz, r.keys.getD j 0 = kz := ⟨_, rfl⟩
      rw [hkz] at hkc1 HRJ
      clear hkz
      have qd : wr.drew.cell? ⟨kb, ko + j, none⟩ = some (.int .i64 kz) := hkc1
      replace HO2 := Lib.hid (HO2.out.below (below_drew _ _))
      replace HB := Lib.hid (HB.out.trans (below_drew _ _))
      refine wp_region_held_drew (S := fun X : World => X.cell? ⟨kb, ko + j, none⟩ = some (.int .i64 kz)) (by kernel_rfl) qd (fun hHeld => ?_)
      clear hHeld
      generalize hX0 : wr.drew = X0 at *
      refine' wpAnyH_take (i := 0) (v := .slice (some ⟨w.heap.size, 0, none⟩) n n) rfl (by kernel_rfl) (by kernel_rfl) (by kernel_rfl) (fun _ _ _ h => h) (Or.inl ⟨by rfl, fun W h => by go_simp⟩) qd ?_
      try simp only [Act.put, List.getElem_toArray, List.getElem_cons_succ, List.getElem_cons_zero, List.setIfInBounds_toArray, List.set_cons_zero, List.set_cons_succ]
      refine' wpAnyH_take (i := 1) (v := .int .i64 (j : Int)) rfl (by kernel_rfl) (by kernel_rfl) (by kernel_rfl) (fun _ _ _ h => h) (Or.inl ⟨by rfl, fun W h => by go_simp⟩) qd ?_
      try simp only [Act.put, List.getElem_toArray, List.getElem_cons_succ, List.getElem_cons_zero, List.setIfInBounds_toArray, List.set_cons_zero, List.set_cons_succ]
      refine' wpAnyH_take (i := 2) (v := .slice (some ⟨kb, ko, none⟩) r.keys.length ck) rfl (by kernel_rfl) (by kernel_rfl) (by kernel_rfl) (fun _ _ _ h => h) (Or.inl ⟨by rfl, fun W h => by go_simp⟩) qd ?_
      try simp only [Act.put, List.getElem_toArray, List.getElem_cons_succ, List.getElem_cons_zero, List.setIfInBounds_toArray, List.set_cons_zero, List.set_cons_succ]
      refine' wpAnyH_take (i := 3) (v := .int .i64 (j : Int)) rfl (by kernel_rfl) (by kernel_rfl) (by kernel_rfl) (fun _ _ _ h => h) (Or.inl ⟨by rfl, fun W h => by go_simp⟩) qd ?_
      try simp only [Act.put, List.getElem_toArray, List.getElem_cons_succ, List.getElem_cons_zero, List.setIfInBounds_toArray, List.set_cons_zero, List.set_cons_succ]
      refine' wpAnyH_take (i := 4) (v := .pointer (some ⟨kb, ko + j, none⟩)) rfl (by kernel_rfl) (by kernel_rfl) (by kernel_rfl) (fun _ _ _ h => h) (Or.inl ⟨by rfl, fun W h => by go_simp⟩) qd ?_
      try simp only [Act.put, List.getElem_toArray, List.getElem_cons_succ, List.getElem_cons_zero, List.setIfInBounds_toArray, List.set_cons_zero, List.set_cons_succ]
      refine' wpAnyH_take (i := 5) (v := .int .i64 kz) rfl (by kernel_rfl) (by kernel_rfl) (by kernel_rfl) (fun _ _ _ h => h) (Or.inl ⟨by rfl, fun W h => by have q : W.cell? ⟨kb, ko + j, none⟩ = some (.int .i64 kz) := h; go_simp⟩) qd ?_
      try simp only [Act.put, List.getElem_toArray, List.getElem_cons_succ, List.getElem_cons_zero, List.setIfInBounds_toArray, List.set_cons_zero, List.set_cons_succ]
      refine' wpAnyH_take (i := 6) (v := .slice (some ⟨rb, ro, none⟩) r.raw.length cr) rfl (by kernel_rfl) (by kernel_rfl) (by kernel_rfl) (fun _ _ _ h => h) (Or.inl ⟨by rfl, fun W h => by go_simp⟩) qd ?_
      try simp only [Act.put, List.getElem_toArray, List.getElem_cons_succ, List.getElem_cons_zero, List.setIfInBounds_toArray, List.set_cons_zero, List.set_cons_succ]
      refine' wpAnyH_take (i := 7) (v := .int .i64 (j : Int)) rfl (by kernel_rfl) (by kernel_rfl) (by kernel_rfl) (fun _ _ _ h => h) (Or.inl ⟨by rfl, fun W h => by go_simp⟩) qd ?_
      try simp only [Act.put, List.getElem_toArray, List.getElem_cons_succ, List.getElem_cons_zero, List.setIfInBounds_toArray, List.set_cons_zero, List.set_cons_succ]
      refine' wpAnyH_take (i := 8) (v := .int .i64 ((j * 8 : Nat) : Int)) rfl (by kernel_rfl) (by kernel_rfl) (by kernel_rfl) (fun _ _ _ h => h) (Or.inl ⟨by rfl, fun W h => by go_simp⟩) qd ?_
      try simp only [Act.put, List.getElem_toArray, List.getElem_cons_succ, List.getElem_cons_zero, List.setIfInBounds_toArray, List.set_cons_zero, List.set_cons_succ]
      refine' wpAnyH_take (i := 9) (v := .int .i64 (j : Int)) rfl (by kernel_rfl) (by kernel_rfl) (by kernel_rfl) (fun _ _ _ h => h) (Or.inl ⟨by rfl, fun W h => by go_simp⟩) qd ?_
      try simp only [Act.put, List.getElem_toArray, List.getElem_cons_succ, List.getElem_cons_zero, List.setIfInBounds_toArray, List.set_cons_zero, List.set_cons_succ]
      refine' wpAnyH_take (i := 10) (v := .int .i64 ((j + 1 : Nat) : Int)) rfl (by kernel_rfl) (by kernel_rfl) (by kernel_rfl) (fun _ _ _ h => h) (Or.inl ⟨by rfl, fun W h => by go_simp⟩) qd ?_
      try simp only [Act.put, List.getElem_toArray, List.getElem_cons_succ, List.getElem_cons_zero, List.setIfInBounds_toArray, List.set_cons_zero, List.set_cons_succ]
      refine' wpAnyH_take (i := 11) (v := .int .i64 ((j * 8 + 8 : Nat) : Int)) rfl (by kernel_rfl) (by kernel_rfl) (by kernel_rfl) (fun _ _ _ h => h) (Or.inl ⟨by rfl, fun W h => by go_simp⟩) qd ?_
      try simp only [Act.put, List.getElem_toArray, List.getElem_cons_succ, List.getElem_cons_zero, List.setIfInBounds_toArray, List.set_cons_zero, List.set_cons_succ]
      have hs1 : (0 : Int) ≤ (j : Int) * 8 + 8 := by omega
      have hs2 : (j : Int) * 8 + 8 ≤ (cr : Int) := by have := HRL.out; omega
      have hs3 : (0 : Int) ≤ (j : Int) * 8 := by omega
      have hs4 : (j : Int) * 8 ≤ max ((j : Int) * 8 + 8) 0 := by omega
      have hs5 : ¬ cr = j * 8 := by have := HRL.out; omega
      have e1 : ((j : Int) * 8).toNat = j * 8 := by omega
      have e2 : ((j : Int) * 8 + 8).toNat = j * 8 + 8 := by omega
      refine' wpAnyH_take (i := 12) (v := .slice (some ⟨rb, ro + j * 8, none⟩) 8 (cr - j * 8)) rfl (by kernel_rfl) (by kernel_rfl) (by kernel_rfl) (fun _ _ _ h => h) (Or.inl ⟨by rfl, fun W h => by go_simp; intro hx; exact absurd hx (by omega)⟩) qd ?_
      try simp only [Act.put, List.getElem_toArray, List.getElem_cons_succ, List.getElem_cons_zero, List.setIfInBounds_toArray, List.set_cons_zero, List.set_cons_succ]
      refine wpAnyH_ready (rs := [13]) (by kernel_rfl) (by simp) ?_
      refine AllReadyH.cons rfl (fun K hK => ?_) AllReadyH.nil
      go_simp
      refine (HRJ _ HB.out).out.mono ?_
      rintro e w2 ⟨rfl, hb2⟩
      have HO3 := Lib.hid (HO2.out.below hb2)
      have HB2 := Lib.hid (HB.out.trans (hb2.mono HB.out.size))
      replace qd : w2.cell? ⟨kb, ko + j, none⟩ = some (.int .i64 kz) := (hb2.cell (p := ⟨kb, ko + j, none⟩) (cell_lt qd)).trans qd
      clear HO2 HB
      refine hK.out _ _ qd (fun hHeld => ?_)
      clear hK K hHeld hb2 HRJ
      try simp only [Act.put, List.getElem_toArray, List.getElem_cons_succ, List.getElem_cons_zero, List.setIfInBounds_toArray, List.set_cons_zero, List.set_cons_succ]
      refine' wpAnyH_take (i := 14) (v := .pointer (some ⟨w.heap.size, j * 10, none⟩)) rfl (by kernel_rfl) (by kernel_rfl) (by kernel_rfl) (fun _ _ _ h => h) (Or.inl ⟨by rfl, fun W h => by go_simp⟩) qd ?_
      try simp only [Act.put, List.getElem_toArray, List.getElem_cons_succ, List.getElem_cons_zero, List.setIfInBounds_toArray, List.set_cons_zero, List.set_cons_succ]
      obtain ⟨z0, z1, z2, z3, z4, z5, z6, z7, z8, z9⟩ := (HO3.out.at HPL.out j hlt).get
      have zf := HO3.out.frz HPL.out
      refine wpAnyH_ready (rs := [15]) (by kernel_rfl) (by simp) ?_
      refine AllReadyH.cons rfl (fun K hK => ?_) AllReadyH.nil
      go_simp
      refine hK.out _ _ (by go_simp) (fun hHeld => ?_)
      clear hK K hHeld z0 z1 z2 z3 z4 z5 z6 z7 z8 z9 zf
      try simp only [Act.put, List.getElem_toArray, List.getElem_cons_succ, List.getElem_cons_zero, List.setIfInBounds_toArray, List.set_cons_zero, List.set_cons_succ]
      refine wpAnyH_done (by kernel_rfl) ?_ _
      have hst := HO3.out.put HPL.out j hlt ⟨key, kind, sum, st, last, n', mn, mx, total, dropped⟩
      go_wp2_with fail
      go_roundw
      case rel =>
        rw [HP.out] at hst
        exact ⟨j + 1, by omega, by go_num, hst.1, HB2.out.grown hst.2 HB2.out.size (by intro _ h; cases h; exact Nat.le_refl _)⟩
      case measure => simp [intOf]; omega
    · obtain rfl : j = n := by omega
      have e : partR cl j = cl := by rw [← HCL.out]; exact partR_all _
      rw [e] at ho
      have HRO := Lib.hid (iReportOf_any wr w.heap.size w.heap.size j j cl ho HCL.out (by omega) HCF.out)
      rw [HE.out] at HRO
      have HB := Lib.hid hbl
      clear ho hbl e HPS HCA HCF
      have hltz : ¬ ((j : Nat) : Int) < (j : Int) := by omega
      go_wp2_with fail
      refine HRO.out.mono ?_
      rintro e w2 ⟨v, rfl, ho, hb⟩
      have HO2 := Lib.hid (OwnR.lower ho HB.out.size)
      have HB2 := Lib.hid (HB.out.trans (hb.mono HB.out.size))
      clear ho hb HB
      go_wp2_with fail
      go_ret
      exact ⟨_, rfl, HO2.out, HB2.out⟩
end Go.Proofs.YtnlepnfdgdbkoaaGreatDoor
