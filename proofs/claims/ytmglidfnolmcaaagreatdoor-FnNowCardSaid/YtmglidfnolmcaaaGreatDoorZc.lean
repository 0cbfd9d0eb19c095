/-
  Several small texts of this proof, one behind another: each says ahead of itself what it proves.
-/
import Derived.Test.YtmglidfnolmcaaaGreatDoorDrG
import Derived.Test.YtmglidfnolmcaaaGreatDoorDrN
import Derived.Test.YtmglidfnolmcaaaGreatDoorDrU
import Derived.Test.YtmglidfnolmcaaaGreatDoorDrD
import Derived.Test.YtmglidfnolmcaaaGreatDoorDrE
/-
  Chapter 8, the program's ReportIn: it answers the report of a buffer, a row of rows of its own, and turns nothing that was there.
-/
namespace Go.Proofs.YtmglidfnolmcaaaGreatDoor
open Go.RowKit M
set_option linter.unusedVariables false
set_option linter.unusedSimpArgs false
/-- A call hands back a new row of rows of its own that is not nil. -/
def NewR (w : World) (rs : List R) (e : Ending) (w' : World) : Prop := ∃ g cap, e = .returned (.slice (some ⟨g, 0, none⟩) rs.length cap) ∧ OwnR w' w.heap.size (.slice (some ⟨g, 0, none⟩) rs.length cap) rs ∧ Below w.heap.size w w'
set_option maxRecDepth 100000 in
set_option maxHeartbeats 4000000 in
theorem iCloneR_any (w : World) (base g n cap : Nat) (rs : List R) (h : OwnR w base (.slice (some ⟨g, 0, none⟩) n cap) rs) (hn : rs.length = n) (h19 : n ≤ 1000) :
    Calls Tryz.prog 104 #[.slice (some ⟨g, 0, none⟩) n cap] w (NewR w rs) := by
  obtain ⟨i0, hi, hz0, hz1, hz2⟩ := info_parts info_row
  obtain ⟨hc1, hc2⟩ := h.capLe hn
  have hlt := h.inB.2
  have HO := Lib.hid h
  have HN := Lib.hid hn
  clear h hn
  have hnil : ∀ (w : World), (binOp .eql 35 (.slice (some ⟨g, 0, none⟩) n cap) (.slice none 0 0)).run Tryz.prog w = .ok (.bool false) w := fun w => Lib.run_eql_slice_nil w _ _ (some ⟨g, 0, none⟩) n cap 0 0 Tryz.underlying35
  go_enter Tryz.func104, Tryz.ntmps104
  go_wp2_with (at_builtin; refine wpList_append_own _ rfl _ _ 35 rfl w.heap.size 33 i0 zeroR.v 10 88 Tryz.underlying35 hi hz0 hz1 hz2 rfl (by decide) _ _ _ rfl (World.ownsRow_made w #[] 0 (Nat.le_refl _) (Nat.zero_le _) rfl) ⟨g, 0, none⟩ n cap (cellsR rs) rfl ?qc1 ?qc2 ?qc3 ?qc4 ?qc5 ?qc6 ?_)
  case qc1 => rw [cellsR_length, HN.out]
  case qc2 =>
    intro j u hj
    have hjn : j < rs.length * 10 := by
      have := (List.getElem?_eq_some_iff.1 hj).1
      rwa [cellsR_length] at this
    have e : j = j / 10 * 10 + j % 10 := by omega
    have hrow := HO.out.at HN.out (j / 10) (by rw [HN.out] at hjn; omega) (j % 10) (by omega)
    rw [← cellsR_at rs (j / 10) (j % 10) (by omega) (by omega), ← e] at hrow
    rw [Addr.add_lit, Nat.zero_add]
    exact Lib.cell?_alloc_some _ (hrow.trans hj)
  case qc3 => exact cellsR_one rs
  case qc4 => unfold maxLen; omega
  case qc5 => omega
  case qc6 => simp
  intro v' w1 hown hgrow hnil2
  have HV := Lib.hid hown
  have HG := Lib.hid hgrow
  have HNI := Lib.hid hnil2
  clear hown hgrow hnil2 hnil hi hz0 hz1 hz2
  go_wp2
  go_ret
  have hv : w1.ownsRow w.heap.size 33 10 v' n (cellsR rs) := by simpa using HV.out
  have hb : Below w.heap.size w w1 := ((Below.refl _ w).alloc (Nat.le_refl _) _).grown HG.out (by simp) (by intro k hk; simp [Value.ownBlock] at hk; omega)
  rcases hv.2 with ⟨e, _⟩ | ⟨g', cap', cur, e, _⟩
  · exact absurd e HNI.out
  · subst e
    refine ⟨g', cap', by rw [HN.out]; rfl, ?_, hb⟩
    unfold OwnR
    rw [HN.out]
    exact hv
theorem FitR.filter {rs : List R} (h : FitR rs) : ∀ r ∈ rs, r.Fit := fun r hr => by
  obtain ⟨j, hj, e⟩ := List.getElem_of_mem hr
  have := h j hj
  rw [List.getD_eq_getElem?_getD, List.getElem?_eq_getElem hj, Option.getD_some, e] at this
  exact this
set_option maxRecDepth 100000 in
set_option maxHeartbeats 4000000 in
theorem iReportOf_any (w : World) (base g n cap : Nat) (rs : List R) (h : OwnR w base (.slice (some ⟨g, 0, none⟩) n cap) rs) (hn : rs.length = n) (h19 : n ≤ 19) (hf : FitR rs) :
    Calls Tryz.prog 88 #[.slice (some ⟨g, 0, none⟩) n cap] w (MadeR w (oneV (sortV (rs.filter fun r => !quietV r)))) := by
  have HC := Lib.hid (iCloneR_any w base g n cap rs h hn (by omega))
  have HN := Lib.hid hn
  have HF := Lib.hid hf
  clear h hn hf
  go_enter Tryz.func88, Tryz.ntmps88
  go_wp2_with fail
  refine HC.out.mono ?_
  rintro e w1 ⟨g1, cap1, rfl, ho1, hb1⟩
  rw [HN.out] at ho1
  have HD := Lib.hid (iDel_any w1 w.heap.size g1 n cap1 rs ho1 HN.out HF.out)
  have HB1 := Lib.hid hb1
  have hge := ho1.inB.1
  clear ho1 hb1 HC
  rw [HN.out]
  go_wp2_with fail
  refine HD.out.mono ?_
  rintro e w2 ⟨n2, hn2, rfl, ho2, hg2⟩
  have hl2 : n2 ≤ 19 := by
    have := List.length_filter_le (fun r => !quietV r) rs
    rw [HN.out] at this; omega
  have HS := Lib.hid (iSort_any w2 w.heap.size g1 n2 cap1 _ ho2 hn2.symm hl2)
  have HB2 := Lib.hid (HB1.out.grown hg2 HB1.out.size (by intro _ h; cases h; exact hge))
  have HN2 := Lib.hid hn2
  clear ho2 hg2 HD HB1 hn2
  go_wp2_with fail
  refine HS.out.mono ?_
  rintro e w3 ⟨rfl, ho3, hg3⟩
  have HK := Lib.hid (iCompact_any w3 w.heap.size g1 n2 cap1 _ ho3 (by rw [sortV_length]; exact HN2.out.symm))
  have HB3 := Lib.hid (HB2.out.grown hg3 HB2.out.size (by intro _ h; cases h; exact hge))
  clear ho3 hg3 HS HB2
  go_wp2_with fail
  refine HK.out.mono ?_
  rintro e w4 ⟨n4, hn4, rfl, ho4, hg4⟩
  have HO4 := Lib.hid ho4
  have HB4 := Lib.hid (HB3.out.grown hg4 HB3.out.size (by intro _ h; cases h; exact hge))
  clear ho4 hg4 HK HB3 hn4
  go_wp2_with fail
  go_ret
  exact ⟨_, rfl, HO4.out, HB4.out⟩
theorem inW_small {x : Int} (h0 : -1000000000000000 ≤ x) (h1 : x ≤ 1000000000000000) : inW x := by unfold inW; omega
theorem drop_fit {r : R} (h : r.Fit) (t : Int) : (dropRow r t).Fit := by
  unfold dropRow
  split
  · obtain ⟨g0, g1, g2, g3, g4, g5, g6, g7, g8⟩ := h
    rename_i hc
    exact ⟨g0, g1, g2, g3, g4, g5, g6, g7, by show inW (if t - 3 < 65535 then t - 3 else 65535); split <;> exact inW_small (by omega) (by omega)⟩
  · exact h
theorem rowFrom_fit (tag : Int) (raw : List Int) : (rowFromV tag raw).Fit := by
  have hz : zeroR.Fit := by constructor <;> (try unfold inW) <;> (try simp only [zeroR]) <;> first | (unfold maxLen; decide) | omega
  cases hu : untagV tag with
  | none => rw [rowFrom_none hu]; exact hz
  | some x =>
    by_cases hl : raw.length = 8
    · obtain ⟨key, kd⟩ := x
      obtain ⟨_, hko, hk1, hk3⟩ := tag_untag hu
      have hk : key.size ≤ maxLen := by have := keyOkV_iff.1 hko; unfold maxLen; omega
      rw [rowFrom_some hu hl]
      have hk : kd = 1 ∨ kd = 2 ∨ kd = 3 := by omega
      rcases hk with rfl | rfl | rfl
      · have := sumT_bd raw 2
        show (countRow key raw).Fit
        constructor <;> (try unfold inW) <;> (try simp only [countRow, zeroR]) <;> first | assumption | omega
      · show (gaugeRow key raw).Fit
        have hv : 0 ≤ ungV (raw.getD 3 0) ∧ ungV (raw.getD 3 0) ≤ 65535 := by unfold ungV; split <;> omega
        constructor <;> (try unfold inW) <;> (try simp only [gaugeRow, zeroR]) <;> first | assumption | omega
      · show (timerRow key raw).Fit
        refine drop_fit (ring_fit ?_ _ _) _
        constructor <;> (try unfold inW) <;> (try simp only [zeroR]) <;> first | assumption | omega
    · rw [rowFrom_len hu hl]; exact hz
theorem rowIn_fit (zs : List Int) (b s : Int) : (rowInV zs b s).Fit := by
  unfold rowInV
  split
  · exact rowFrom_fit _ _
  · constructor <;> (try unfold inW) <;> (try simp only [zeroR]) <;> first | (unfold maxLen; decide) | omega
theorem ring_kind (r : R) (raw : List Int) (k : Nat) : (ringV r raw k).kind = r.kind := by
  have hs : ∀ (r : R) (v : Int), (sampledV r v).kind = r.kind := fun r v => by unfold sampledV; repeat' split
                                                                               all_goals rfl
  induction k with
  | zero => rfl
  | succ k ih => unfold ringV; split; rw [hs, ih]; exact ih
theorem rowFrom_kind (tag : Int) (raw : List Int) (h : quietV (rowFromV tag raw) = false) : (rowFromV tag raw).kind ≠ 0 := by
  cases hu : untagV tag with
  | none => rw [rowFrom_none hu] at h; cases h
  | some x =>
    by_cases hl : raw.length = 8
    · obtain ⟨key, kd⟩ := x
      obtain ⟨_, hko, hk1, hk3⟩ := tag_untag hu
      rw [rowFrom_some hu hl]
      have hk : kd = 1 ∨ kd = 2 ∨ kd = 3 := by omega
      rcases hk with rfl | rfl | rfl
      · show (1 : Int) ≠ 0; decide
      · show (2 : Int) ≠ 0; decide
      · show (timerRow key raw).kind ≠ 0
        unfold timerRow dropRow
        split
        · show (ringV _ _ _).kind ≠ 0
          rw [ring_kind]; show (3 : Int) ≠ 0; decide
        · rw [ring_kind]; show (3 : Int) ≠ 0; decide
    · rw [rowFrom_len hu hl] at h; cases h
theorem rowIn_kind (zs : List Int) (b s : Int) (h : quietV (rowInV zs b s) = false) : (rowInV zs b s).kind ≠ 0 := by
  unfold rowInV at *
  split at h
  · rename_i hc; rw [if_pos hc]; exact rowFrom_kind _ _ h
  · cases h
theorem OwnR.lower {w : World} {base base' : Nat} {v : Value} {rs : List R} (h : OwnR w base v rs) (hb : base' ≤ base) : OwnR w base' v rs := by
  refine ⟨h.1, ?_⟩
  rcases h.2 with k | ⟨g, cap, cur, k1, k2, k3⟩
  · exact .inl k
  · exact .inr ⟨g, cap, cur, k1, Nat.le_trans hb k2, k3⟩
/-- The rows of the four slots of a buffer. -/
def slotsR (zs : List Int) (b : Int) : List R := (List.range 4).map fun (s : Nat) => rowInV zs b s
theorem slotsR_len (zs : List Int) (b : Int) : (slotsR zs b).length = 4 := by simp [slotsR]
theorem slotsR_at (zs : List Int) (b : Int) (j : Nat) (h : j < 4) : (slotsR zs b).getD j zeroR = rowInV zs b j := by
  unfold slotsR
  rw [List.getD_eq_getElem?_getD, List.getElem?_map, List.getElem?_range h]; rfl
theorem slots_fit (zs : List Int) (b : Int) : FitR (slotsR zs b) := fun j hj => by
  rw [slotsR_len] at hj
  rw [slotsR_at zs b j hj]
  exact rowIn_fit _ _ _
theorem slots_report (zs : List Int) (b : Int) : oneV (sortV ((slotsR zs b).filter fun r => !quietV r)) = reportInV zs b := by
  rw [report_sorted _ (fun r hr h => by
    obtain ⟨s, _, rfl⟩ := List.mem_map.1 hr
    exact rowIn_kind _ _ _ h)]
  unfold slotsR reportInV reportT
  rw [List.foldl_map]
  by_cases hc : okC zs = true ∧ bufOk b = true
  · rw [if_pos hc]
  · rw [if_neg hc]
    have e : ∀ s : Nat, rowInV zs b s = zeroR := fun s => if_neg (fun x => hc ⟨x.1, x.2.1⟩)
    have e2 : ∀ l : List R, addV l zeroR = l := fun l => if_neg (fun x => x.1 rfl)
    simp only [e, e2]
    rfl
set_option maxRecDepth 100000 in
set_option maxHeartbeats 4000000 in
theorem iReportIn_any (w : World) (v : Value) (zs : List Int) (b : Int) (h : Ints w v zs) (h0 : -9223372036854775808 ≤ b) (h1 : b ≤ 9223372036854775807) : Calls Tryz.prog 49 #[v, .int .i64 b] w (MadeR w (reportInV zs b)) := by
  obtain ⟨i0, hi, hz0, hz1, hz2⟩ := info_parts info_row
  have HR := fun W (s : Nat) (hs : s < 4) (h : Ints W v zs) => Lib.hid (iRowIn_any W v zs b s h h0 h1 (by omega) (by omega))
  have HI := Lib.hid h
  have HE := Lib.hid (slots_report zs b)
  have HSL := Lib.hid (slotsR_len zs b)
  have HSF := Lib.hid (slots_fit zs b)
  have HSA := Lib.hid (slotsR_at zs b)
  have HPS := Lib.hid (partR_set (slotsR zs b))
  clear h
  go_enter Tryz.func49, Tryz.ntmps49
  go_wp2_with (refine wpList_make_full _ rfl _ _ 35 rfl w.heap.size 33 i0 zeroR.v 10 Tryz.underlying35 hi hz0 hz1 .i64 .i64 _ _ 4 rfl rfl rfl rfl ?c1 ?c2 ?c3 ?_; rotate_left 3; intro w1 hown hg; have HO := Lib.hid hown; have HG := Lib.hid hg; clear hown hg)
  case c1 => rw [hz2]; omega
  case c2 => unfold maxLen; omega
  case c3 => exact Nat.le_refl _
  clear hi hz0 hz1 hz2
  go_loopw [10] (fun i wr => ∃ j : Nat, j ≤ 4 ∧ i = .int .i64 j ∧ OwnR wr w.heap.size (.slice (some ⟨w.heap.size, 0, none⟩) 4 4) (partR (slotsR zs b) j) ∧ Below w.heap.size w wr) (fun i _ => 4 - (intOf i).toNat)
  case atStart =>
    refine ⟨0, Nat.zero_le _, rfl, ?_, below_made' HG.out⟩
    have := HO.out
    rw [zero_cells] at this
    unfold OwnR
    rw [partR_zero, HSL.out, List.length_replicate]
    exact this
  case round =>
    obtain ⟨j, hj, rfl, ho, hbl⟩ := hrel
    clear HO HG
    have HPL := Lib.hid (show (partR (slotsR zs b) j).length = 4 by rw [partR_length, HSL.out])
    by_cases hlt : j < 4
    · have HRJ := Lib.hid (HR wr j hlt (HI.out.below hbl)).out
      have HP := Lib.hid (HPS.out j (by rw [HSL.out]; exact hlt))
      rw [HSA.out j hlt] at HP
      have HO2 := Lib.hid ho
      have HB := Lib.hid hbl
      clear ho hbl HR
      have hltz : (j : Int) < 4 := by omega
      generalize rowInV zs b (j : Int) = r at *
      obtain ⟨key, kind, sum, st, last, n', mn, mx, total, dropped⟩ := r
      unfold R.v at HRJ
      simp only at HRJ
      go_wp2_with fail
      refine HRJ.out.mono ?_
      rintro e w2 ⟨rfl, hb2⟩
      have HO3 := Lib.hid (HO2.out.below hb2)
      have HB2 := Lib.hid (HB.out.trans (hb2.mono HB.out.size))
      obtain ⟨z0, z1, z2, z3, z4, z5, z6, z7, z8, z9⟩ := (HO3.out.at HPL.out j hlt).get
      have zf := HO3.out.frz HPL.out
      clear hb2 HO2 HB
      go_wp2_with fail
      go_roundw
      case rel =>
        have hst := HO3.out.put HPL.out j hlt ⟨key, kind, sum, st, last, n', mn, mx, total, dropped⟩
        rw [HP.out] at hst
        exact ⟨j + 1, by omega, by go_num, hst.1, HB2.out.grown hst.2 HB2.out.size (by intro _ h; cases h; exact Nat.le_refl _)⟩
      case measure => simp [intOf]; omega
    · obtain rfl : j = 4 := by omega
      have e : partR (slotsR zs b) 4 = slotsR zs b := by rw [← HSL.out]; exact partR_all _
      rw [e] at ho
      have HRO := Lib.hid (iReportOf_any wr w.heap.size w.heap.size 4 4 (slotsR zs b) ho HSL.out (by omega) HSF.out)
      rw [HE.out] at HRO
      have HB := Lib.hid hbl
      clear ho hbl e HR HPS HSA HSF
      have hltz : ¬ ((4 : Nat) : Int) < 4 := by omega
      go_wp2_with fail
      refine HRO.out.mono ?_
      rintro e w2 ⟨v2, rfl, ho2, hb2⟩
      have HO2 := Lib.hid ho2
      have HB2 := Lib.hid hb2
      clear ho2 hb2 HRO
      go_wp2_with fail
      go_ret
      exact ⟨v2, rfl, OwnR.lower HO2.out HB.out.size, HB.out.trans (HB2.out.mono HB.out.size)⟩
end Go.Proofs.YtmglidfnolmcaaaGreatDoor
/-
  Chapter 8, the program's functions together.
-/
namespace Go.Proofs.YtmglidfnolmcaaaGreatDoor
end Go.Proofs.YtmglidfnolmcaaaGreatDoor
