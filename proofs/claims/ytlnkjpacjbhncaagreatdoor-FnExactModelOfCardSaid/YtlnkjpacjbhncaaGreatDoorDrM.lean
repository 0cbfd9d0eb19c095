/-
  The rows that are quiet struck from an own row of rows, in place.
-/
import Derived.Test.YtlnkjpacjbhncaaGreatDoorDrK
namespace Go.Proofs.YtlnkjpacjbhncaaGreatDoor
open Go.RowKit M
set_option linter.unusedVariables false
set_option linter.unusedSimpArgs false
/-- A call hands back the own row in block g, now holding rs; nothing else that was there is turned. -/
def InPlace (w : World) (base g cap : Nat) (rs : List R) (e : Ending) (w' : World) : Prop := ∃ n : Nat, n = rs.length ∧ e = .returned (.slice (some ⟨g, 0, none⟩) n cap) ∧ OwnR w' base (.slice (some ⟨g, 0, none⟩) n cap) rs ∧ w.grownBy w' (some g)
theorem grown_below {w w' : World} {g : Option Nat} (h : Below w.heap.size w w') : w.grownBy w' g := ⟨h.os, h.tape, h.output, h.size, fun i hi _ => h.block i hi⟩
theorem OwnR.inB {w : World} {base g n cap : Nat} {rs : List R} (h : OwnR w base (.slice (some ⟨g, 0, none⟩) n cap) rs) : base ≤ g ∧ g < w.heap.size := World.ownsRow.lt h g rfl
theorem OwnR.capLe {w : World} {base g n cap : Nat} {rs : List R} (h : OwnR w base (.slice (some ⟨g, 0, none⟩) n cap) rs) (hn : rs.length = n) : n ≤ cap ∧ cap ≤ maxLen := by
  subst hn
  rcases h.2 with ⟨e, _⟩ | ⟨g', cap', cur, e1, hb, hg, hn, hm, hc, ht⟩
  · cases e
  · injection e1 with e2 e3 e4; subst e4; exact ⟨hn, hm⟩
def keepQ (rs : List R) (j : Nat) : Bool := !quietV (rs.getD j zeroR)
theorem keepQ_all (rs : List R) : keptL (keepQ rs) rs rs.length = rs.filter fun r => !quietV r := keptL_filter (fun r => !quietV r) rs
theorem filter_none {rs : List R} (h : quietAt rs rs.length) : (rs.filter fun r => !quietV r) = rs := by
  rw [← keepQ_all, keptL_all (Nat.le_refl _) (fun j hj => by unfold keepQ; rw [h j hj]; rfl), List.take_length]
set_option maxRecDepth 100000 in
set_option maxHeartbeats 8000000 in
theorem iDel_any (w : World) (base g n cap : Nat) (rs : List R) (h : OwnR w base (.slice (some ⟨g, 0, none⟩) n cap) rs) (hn : rs.length = n) (hf : FitR rs) :
    Calls Tryz.prog 63 #[.slice (some ⟨g, 0, none⟩) n cap, .func (.func 65) #[] #[]] w (InPlace w base g cap (rs.filter fun r => !quietV r)) := by
  have HX := Lib.hid (iIdx_any w _ rs h.arg hf)
  obtain ⟨hc1, hc2⟩ := h.capLe hn
  have hg := h.inB.2
  have HO := Lib.hid h
  have HNL := Lib.hid hn
  have HF := Lib.hid hf
  unfold maxLen at hc2
  clear h hf hn
  go_enter Tryz.func63, Tryz.ntmps63
  go_wp2_with fail
  refine HX.out.mono ?_
  rintro e w2 ⟨hcase, hb2⟩
  have HO2 := Lib.hid (HO.out.below hb2)
  have HG2 := Lib.hid (grown_below (g := some g) hb2)
  rcases hcase with ⟨rfl, hq⟩ | ⟨k, hk, rfl, hq, hqk⟩
  · have HE := Lib.hid (filter_none hq)
    clear hq HX hb2
    go_wp2_with fail
    go_ret
    exact ⟨n, by rw [HE.out, HNL.out], rfl, by rw [HE.out]; exact HO2.out, HG2.out⟩
  · rw [HNL.out] at hk
    have hne : ((k : Int) == -1) = false := by rw [beq_eq_false_iff_ne]; omega
    have hs := strikeV_start (kp := keepQ rs) (l := rs) (k := k) (by rw [HNL.out]; exact hk) (fun j hj => by unfold keepQ; rw [hq j hj]; rfl) (by unfold keepQ; rw [hqk]; rfl)
    have HS := Lib.hid hs
    clear hs hq hqk HX hb2
    go_wp2_with fail
    go_loopw [5, 6] (fun i j wr => ∃ m : Nat, m ≤ n ∧ j = .int .i64 m ∧ i = .int .i64 ((keptL (keepQ rs) rs m).length : Nat) ∧ (keptL (keepQ rs) rs m).length < m ∧ OwnR wr base (.slice (some ⟨g, 0, none⟩) n cap) (strikeV (keepQ rs) rs m) ∧ w.grownBy wr (some g)) (fun _ j _ => n - (intOf j).toNat)
    case atStart =>
      have e : (keptL (keepQ rs) rs (k + 1)).length = k := by rw [HS.out.1, List.length_take, HNL.out]; omega
      exact ⟨k + 1, by omega, by go_num, by rw [e], by omega, by rw [HS.out.2]; exact HO2.out, HG2.out⟩
    case round =>
      obtain ⟨m, hm, rfl, rfl, hkm, ho, hgr⟩ := hrel
      clear HO2 HG2 HS
      have hsl : (strikeV (keepQ rs) rs m).length = n := by rw [strikeV_length (by rw [HNL.out]; exact hm), HNL.out]
      have HO2 := Lib.hid ho
      have HG2 := Lib.hid hgr
      have HSL := Lib.hid hsl
      by_cases hlt : m < n
      · have hrow := ho.at hsl m hlt
        rw [strikeV_high m (by omega)] at hrow
        have hfj := HF.out m (by rw [HNL.out]; exact hlt)
        have HC := fun W => Lib.hid (iQuiet_any W (rs.getD m zeroR) hfj)
        have HK := Lib.hid (fun (q : quietV (rs.getD m zeroR) = false) => strikeV_keep (kp := keepQ rs) (l := rs) (m := m) (by rw [HNL.out]; exact hlt) (by unfold keepQ; rw [q]; rfl))
        have HKN := Lib.hid (fun (q : quietV (rs.getD m zeroR) = true) => strikeV_skip (kp := keepQ rs) (l := rs) (m := m) (by unfold keepQ; rw [q]; rfl))
        generalize hL : (keptL (keepQ rs) rs m).length = L at *
        generalize rs.getD m zeroR = r at *
        have HL := Lib.hid hL
        clear hfj ho hgr hsl hL
        obtain ⟨x0, x1, x2, x3, x4, x5, x6, x7, x8, x9⟩ := hrow.get
        clear hrow
        have hLn : L < n := by omega
        have hltz : (m : Int) < (n : Int) := by omega
        have hLz : (L : Int) < (n : Int) := by omega
        cases hq : quietV r with
        | true =>
          rw [hq] at HC
          have HK2 := Lib.hid (HKN.out hq)
          clear hq HK HKN
          obtain ⟨key, kind, sum, st, last, n', mn, mx, total, dropped⟩ := r
          unfold R.v at HC
          simp only at *
          go_wp2_with fail
          refine (HC _).out.mono ?_
          rintro e w3 ⟨rfl, hb3⟩
          have HO3 := Lib.hid ((HO2.out.alloc (.cells (rowCells ⟨key, kind, sum, st, last, n', mn, mx, total, dropped⟩) 60)).below hb3)
          have HG3 := Lib.hid (grownR_trans HG2.out (grown_below (g := some g) (((Below.refl _ _).alloc (Nat.le_refl _) (.cells (rowCells ⟨key, kind, sum, st, last, n', mn, mx, total, dropped⟩) 60)).trans (hb3.mono (by simp [go_sem])))))
          clear hb3
          go_wp2_with fail
          go_roundw
          case rel => exact ⟨m + 1, by omega, by go_num, by rw [HK2.out.1, HL.out], by rw [HK2.out.1, HL.out]; omega, by rw [HK2.out.2]; exact HO3.out, HG3.out⟩
          case measure => simp [intOf]; omega
        | false =>
          rw [hq] at HC
          have HK2 := Lib.hid (HK.out hq)
          clear hq HK HKN
          obtain ⟨key, kind, sum, st, last, n', mn, mx, total, dropped⟩ := r
          unfold R.v at HC
          simp only at *
          go_wp2_with fail
          refine (HC _).out.mono ?_
          rintro e w3 ⟨rfl, hb3⟩
          have hx3 := (rowAt_new wr _ ⟨key, kind, sum, st, last, n', mn, mx, total, dropped⟩ rfl).below hb3
          have HO3 := Lib.hid ((HO2.out.alloc (.cells (rowCells ⟨key, kind, sum, st, last, n', mn, mx, total, dropped⟩) 60)).below hb3)
          have HG3 := Lib.hid (grownR_trans HG2.out (grown_below (g := some g) (((Below.refl _ _).alloc (Nat.le_refl _) (.cells (rowCells ⟨key, kind, sum, st, last, n', mn, mx, total, dropped⟩) 60)).trans (hb3.mono (by simp [go_sem])))))
          obtain ⟨z0, z1, z2, z3, z4, z5, z6, z7, z8, z9⟩ := (HO3.out.at HSL.out L hLn).get
          have zf := HO3.out.frz HSL.out
          clear hb3 x0 x1 x2 x3 x4 x5 x6 x7 x8 x9
          obtain ⟨x0, x1, x2, x3, x4, x5, x6, x7, x8, x9, xf⟩ := hx3.get
          clear hx3
          go_wp2_with fail
          go_roundw
          case rel =>
            have hst := HO3.out.put HSL.out L hLn ⟨key, kind, sum, st, last, n', mn, mx, total, dropped⟩
            exact ⟨m + 1, by omega, by go_num, by rw [HK2.out.1]; go_num, by rw [HK2.out.1]; omega, by rw [HK2.out.2]; exact hst.1, grownR_trans HG3.out hst.2⟩
          case measure => simp [intOf]; omega
      · have hmn : m = n := by omega
        subst hmn
        have hE := strikeV_done (keepQ rs) rs m
        have hF : keptL (keepQ rs) rs m = rs.filter fun r => !quietV r := by rw [← keepQ_all, HNL.out]
        rw [hF] at hE hkm
        rw [hF]
        have hcl := fun ty c => clear_rows ho hsl (rs.filter fun r => !quietV r).length hkm ty c
        have HCUT := Lib.hid (fun cs => ho.cut hsl (rs.filter fun r => !quietV r).length (Nat.le_of_lt hkm) cs)
        rw [hE] at HCUT
        clear ho hgr hsl hE hF HO2
        have HLL := Lib.hid (rfl : (rs.filter fun r => !quietV r).length = (rs.filter fun r => !quietV r).length)
        generalize hL : (rs.filter fun r => !quietV r).length = L at *
        have HL := Lib.hid hL
        clear hL HLL
        go_wp2_with fail
        go_ret
        exact ⟨L, HL.out.symm, rfl, (HCUT.out _).1, grownR_trans HG2.out (HCUT.out _).2⟩
end Go.Proofs.YtlnkjpacjbhncaaGreatDoor
