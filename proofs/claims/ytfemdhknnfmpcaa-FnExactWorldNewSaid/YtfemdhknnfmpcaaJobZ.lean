/-
  The exact laws' budget behind the record Job, and behind rows of it.
-/
import Derived.Test.YtfemdhknnfmpcaaJobC
namespace Go.Proofs.Ytfemdhknnfmpcaa
open Go.RowKit M
set_option linter.unusedVariables false
set_option linter.unusedSimpArgs false
def szInt (n : Nat) (l : Int) : Int := if l - (n : Int) < 0 then -1 else l - (n : Int)
theorem szInt_le {n : Nat} {l : Int} (h : 0 ≤ szInt n l) : (n : Int) + szInt n l ≤ l := by unfold szInt at *; split at h <;> (first | omega | (rename_i h2; rw [if_neg h2]; omega))
/-- A budget spent one after another. -/
def szBind (x : Int) (g : Int → Int) : Int := if x < 0 then -1 else g x
theorem szV_tot {rs : List R} {l : Int} (h : 0 ≤ szV rs l) : (rs.length : Int) + szV rs l ≤ l := by
  have hL : ∀ (rs : List R) (l : Int), szL rs l ≤ l ∨ szL rs l = -1 := by
    intro rs
    induction rs with
    | nil => exact fun l => .inl (Int.le_refl _)
    | cons r rs ih =>
      intro l
      unfold szL
      split
      · exact .inr rfl
      · rcases ih (l - (r.key.size : Int)) with h | h
        · exact .inl (by omega)
        · exact .inr h
  unfold szV at *
  split at h
  · omega
  · rename_i h2
    rw [if_neg h2]
    rcases hL rs (l - (rs.length : Int)) with h3 | h3 <;> omega
theorem szIntS_any (w : World) (v : Value) (zs : List Int) (left : Int) (h : IntsArg w v zs) (h0 : 0 ≤ left) (h1 : left ≤ 1048576) : Calls Try.prog 51 #[v, .int .i64 left] w (Gives (.int .i64 (szInt zs.length left)) w) := by
  obtain ⟨A, cap, rfl, h2, h3, _⟩ := h
  unfold maxLen at h3
  by_cases hn : left - (zs.length : Int) < 0
  · have E := Lib.hid (show szInt zs.length left = -1 from if_pos hn)
    have d1 : decide (left - (zs.length : Int) < 0) = true := decide_eq_true hn
    generalize zs.length = n at *
    go_enter Try.func51, Try.ntmps51
    go_wp2_with fail
    go_ret
    exact ⟨ret_i E.out.symm, Below.refl _ _⟩
  · have E := Lib.hid (show szInt zs.length left = left - (zs.length : Int) from if_neg hn)
    have d1 : decide (left - (zs.length : Int) < 0) = false := decide_eq_false hn
    generalize zs.length = n at *
    go_enter Try.func51, Try.ntmps51
    go_wp2_with fail
    go_ret
    exact ⟨ret_i E.out.symm, Below.refl _ _⟩
/-- What is left of a budget behind the record. -/
def szJobV (r : J) (l : Int) : Int := szBind (szBind (szBind (szInt r.op.key.size l) (szInt r.keys.length)) (szInt r.raw.length)) (fun x => x)
theorem szJobV_le {r : J} {l : Int} (h : 0 ≤ szJobV r l) : (r.keys.length : Int) + (r.raw.length : Int) + szJobV r l ≤ l := by
  unfold szJobV szBind at *
  by_cases a0 : szInt r.op.key.size l < 0
  · rw [if_pos a0] at h; simp at h
  have b0 := szInt_le (n := r.op.key.size) (l := l) (by omega)
  rw [if_neg a0] at h ⊢
  by_cases a1 : szInt r.keys.length (szInt r.op.key.size l) < 0
  · rw [if_pos a1] at h; simp at h
  have b1 := szInt_le (l := (szInt r.op.key.size l)) (show 0 ≤ szInt r.keys.length (szInt r.op.key.size l) by omega)
  rw [if_neg a1] at h ⊢
  by_cases a2 : szInt r.raw.length (szInt r.keys.length (szInt r.op.key.size l)) < 0
  · rw [if_pos a2] at h; simp at h
  have b2 := szInt_le (l := (szInt r.keys.length (szInt r.op.key.size l))) (show 0 ≤ szInt r.raw.length (szInt r.keys.length (szInt r.op.key.size l)) by omega)
  rw [if_neg a2] at h ⊢
  dsimp only at h ⊢
  omega
set_option maxRecDepth 100000 in
set_option maxHeartbeats 4000000 in
theorem szJob_any (w : World) (r : J) (vkeys vraw : Value) (left : Int) (h : jobIn w r vkeys vraw) (hk : r.op.key.size ≤ maxLen) (h0 : 0 ≤ left) (h1 : left ≤ 1048576) : Calls Try.prog 20 #[.agg (jobVals r vkeys vraw), .int .i64 left] w (Gives (.int .i64 (szJobV r left)) w) := by
  obtain ⟨hkeys, hraw⟩ := h
  have HT := fun W => Lib.hid (szOp_any W r.op left hk h0 h1)
  have Zkeys := fun W h x h0 h1 => Lib.hid (szIntS_any W vkeys r.keys x h h0 h1)
  have Hkeys := Lib.hid hkeys
  obtain ⟨akeys, ckeys, rfl, _, _, _⟩ := hkeys
  have Zraw := fun W h x h0 h1 => Lib.hid (szIntS_any W vraw r.raw x h h0 h1)
  have Hraw := Lib.hid hraw
  obtain ⟨araw, craw, rfl, _, _, _⟩ := hraw
  have HE := Lib.hid (show szJobV r left = _ from rfl)
  have HB := Lib.hid ((Below.refl w.heap.size w).alloc (Nat.le_refl _) (.cells (jobVals r (.slice akeys r.keys.length ckeys) (.slice araw r.raw.length craw)) 38))
  have e0 : (if left - (r.op.key.size : Int) < 0 then -1 else left - (r.op.key.size : Int)) = szInt r.op.key.size left := rfl
  rw [e0] at HT
  have l0 := fun h => szInt_le (n := r.op.key.size) (l := left) h
  have l1 := fun x h => szInt_le (n := r.keys.length) (l := x) h
  have l2 := fun x h => szInt_le (n := r.raw.length) (l := x) h
  have HV := Lib.hid (show szJobV r left = szBind (szBind (szBind (szInt r.op.key.size left) (szInt r.keys.length)) (szInt r.raw.length)) (fun x => x) from rfl)
  clear HE e0
  generalize szJobV r left = out at *
  generalize szInt r.op.key.size left = x0 at *
  generalize szInt r.keys.length = gkeys at *
  generalize szInt r.raw.length = graw at *
  obtain ⟨busy, ⟨op_kind, op_key, op_what, op_val⟩, serial, pc, k, slot, what, e, stamp, old, flips, steps, code, keys, raw⟩ := r
  unfold jobVals at *
  unfold O.v at HT
  simp only at *
  generalize keys.length = nkeys at *
  generalize raw.length = nraw at *
  by_cases a0 : x0 < 0
  case pos =>
    have d0 : decide (x0 < 0) = true := decide_eq_true a0
    go_enter Try.func20, Try.ntmps20
    go_wp2_with fail
    refine (HT _).out.mono ?_
    rintro e w1 ⟨rfl, hb1⟩
    have HB1 := Lib.hid (HB.out.trans (hb1.mono HB.out.size))
    have G1 := (Blk.new w w.heap.size 38 #[.bool busy, .int .i64 op_kind, .string op_key, .int .i64 op_what, .int .i64 op_val, .int .i64 serial, .int .i64 pc, .int .i64 k, .int .i64 slot, .int .i64 what, .int .i64 e, .int .i64 stamp, .int .i64 old, .int .i64 flips, .int .i64 steps, .int .i64 code, .slice akeys nkeys ckeys, .slice araw nraw craw] rfl).below hb1
    have q1 := G1.get 16
    simp at q1
    clear hb1
    have hm1 : (-1 : Int) < 0 := by decide
    go_wp2_with fail
    go_ret
    exact ⟨ret_i (by rw [HV.out]; simp only [szBind, if_pos (show x0 < 0 by omega), if_pos hm1]), HB1.out⟩
  have d0 : decide (x0 < 0) = false := decide_eq_false a0
  have z0 := l0 (by omega)
  obtain ⟨x1, hx1⟩ : ∃ x, gkeys x0 = x := ⟨_, rfl⟩
  have y1 := l1 x0
  rw [hx1] at y1
  by_cases a1 : x1 < 0
  case pos =>
    have d1 : decide (x1 < 0) = true := decide_eq_true a1
    go_enter Try.func20, Try.ntmps20
    go_wp2_with fail
    refine (HT _).out.mono ?_
    rintro e w1 ⟨rfl, hb1⟩
    have HB1 := Lib.hid (HB.out.trans (hb1.mono HB.out.size))
    have G1 := (Blk.new w w.heap.size 38 #[.bool busy, .int .i64 op_kind, .string op_key, .int .i64 op_what, .int .i64 op_val, .int .i64 serial, .int .i64 pc, .int .i64 k, .int .i64 slot, .int .i64 what, .int .i64 e, .int .i64 stamp, .int .i64 old, .int .i64 flips, .int .i64 steps, .int .i64 code, .slice akeys nkeys ckeys, .slice araw nraw craw] rfl).below hb1
    have q1 := G1.get 16
    simp at q1
    clear hb1
    go_wp2_with fail
    refine (Zkeys _ (Hkeys.out.below HB1.out) x0 (by omega) (by omega)).out.mono ?_
    rintro e w2 ⟨rfl, hb2⟩
    have HB2 := Lib.hid (HB1.out.trans (hb2.mono HB1.out.size))
    have G2 := G1.below hb2
    have q2 := G2.get 17
    simp at q2
    clear hb2
    rw [hx1]
    have hm1 : (-1 : Int) < 0 := by decide
    go_wp2_with fail
    go_ret
    exact ⟨ret_i (by rw [HV.out]; simp only [szBind, hx1, if_neg (show ¬ x0 < 0 by omega), if_pos (show x1 < 0 by omega), if_pos hm1]), HB2.out⟩
  have d1 : decide (x1 < 0) = false := decide_eq_false a1
  have z1 := y1 (by omega)
  obtain ⟨x2, hx2⟩ : ∃ x, graw x1 = x := ⟨_, rfl⟩
  have y2 := l2 x1
  rw [hx2] at y2
  by_cases a2 : x2 < 0
  case pos =>
    have d2 : decide (x2 < 0) = true := decide_eq_true a2
    go_enter Try.func20, Try.ntmps20
    go_wp2_with fail
    refine (HT _).out.mono ?_
    rintro e w1 ⟨rfl, hb1⟩
    have HB1 := Lib.hid (HB.out.trans (hb1.mono HB.out.size))
    have G1 := (Blk.new w w.heap.size 38 #[.bool busy, .int .i64 op_kind, .string op_key, .int .i64 op_what, .int .i64 op_val, .int .i64 serial, .int .i64 pc, .int .i64 k, .int .i64 slot, .int .i64 what, .int .i64 e, .int .i64 stamp, .int .i64 old, .int .i64 flips, .int .i64 steps, .int .i64 code, .slice akeys nkeys ckeys, .slice araw nraw craw] rfl).below hb1
    have q1 := G1.get 16
    simp at q1
    clear hb1
    go_wp2_with fail
    refine (Zkeys _ (Hkeys.out.below HB1.out) x0 (by omega) (by omega)).out.mono ?_
    rintro e w2 ⟨rfl, hb2⟩
    have HB2 := Lib.hid (HB1.out.trans (hb2.mono HB1.out.size))
    have G2 := G1.below hb2
    have q2 := G2.get 17
    simp at q2
    clear hb2
    rw [hx1]
    go_wp2_with fail
    refine (Zraw _ (Hraw.out.below HB2.out) x1 (by omega) (by omega)).out.mono ?_
    rintro e w3 ⟨rfl, hb3⟩
    have HB3 := Lib.hid (HB2.out.trans (hb3.mono HB2.out.size))
    have G3 := G2.below hb3
    have q3 := G3.get 17
    simp at q3
    clear hb3
    rw [hx2]
    have hm1 : (-1 : Int) < 0 := by decide
    go_wp2_with fail
    go_ret
    exact ⟨ret_i (by rw [HV.out]; simp only [szBind, hx1, hx2, if_neg (show ¬ x0 < 0 by omega), if_neg (show ¬ x1 < 0 by omega), if_pos (show x2 < 0 by omega), if_pos hm1]), HB3.out⟩
  have d2 : decide (x2 < 0) = false := decide_eq_false a2
  have z2 := y2 (by omega)
  go_enter Try.func20, Try.ntmps20
  go_wp2_with fail
  refine (HT _).out.mono ?_
  rintro e w1 ⟨rfl, hb1⟩
  have HB1 := Lib.hid (HB.out.trans (hb1.mono HB.out.size))
  have G1 := (Blk.new w w.heap.size 38 #[.bool busy, .int .i64 op_kind, .string op_key, .int .i64 op_what, .int .i64 op_val, .int .i64 serial, .int .i64 pc, .int .i64 k, .int .i64 slot, .int .i64 what, .int .i64 e, .int .i64 stamp, .int .i64 old, .int .i64 flips, .int .i64 steps, .int .i64 code, .slice akeys nkeys ckeys, .slice araw nraw craw] rfl).below hb1
  have q1 := G1.get 16
  simp at q1
  clear hb1
  go_wp2_with fail
  refine (Zkeys _ (Hkeys.out.below HB1.out) x0 (by omega) (by omega)).out.mono ?_
  rintro e w2 ⟨rfl, hb2⟩
  have HB2 := Lib.hid (HB1.out.trans (hb2.mono HB1.out.size))
  have G2 := G1.below hb2
  have q2 := G2.get 17
  simp at q2
  clear hb2
  rw [hx1]
  go_wp2_with fail
  refine (Zraw _ (Hraw.out.below HB2.out) x1 (by omega) (by omega)).out.mono ?_
  rintro e w3 ⟨rfl, hb3⟩
  have HB3 := Lib.hid (HB2.out.trans (hb3.mono HB2.out.size))
  have G3 := G2.below hb3
  have q3 := G3.get 17
  simp at q3
  clear hb3
  rw [hx2]
  have hm1 : (-1 : Int) < 0 := by decide
  go_wp2_with fail
  go_ret
  exact ⟨ret_i (by rw [HV.out]; simp only [szBind, hx1, hx2, if_neg (show ¬ x0 < 0 by omega), if_neg (show ¬ x1 < 0 by omega), if_neg (show ¬ x2 < 0 by omega), if_pos hm1]), HB3.out⟩
/-- What is left of a budget behind such records. -/
def szLJob : List J → Int → Int
  | [], l => l
  | r :: rs, l => if szJobV r l < 0 then -1 else szLJob rs (szJobV r l)
def szJobSV (ls : List J) (l : Int) : Int := if l - (ls.length : Int) < 0 then -1 else szLJob ls (l - (ls.length : Int))
theorem szLJob_drop (ls : List J) (j : Nat) (hj : j < ls.length) (c : Int) : szLJob (ls.drop j) c = if szJobV (ls.getD j zeroJ) c < 0 then -1 else szLJob (ls.drop (j + 1)) (szJobV (ls.getD j zeroJ) c) := by
  rw [List.drop_eq_getElem_cons hj, List.getD_eq_getElem?_getD, List.getElem?_eq_getElem hj]
  rfl
theorem szLJob_le : ∀ (ls : List J) (l : Int), 0 ≤ szLJob ls l → szLJob ls l ≤ l ∧ ∀ j, j < ls.length → 0 ≤ szJobV (ls.getD j zeroJ) l ∨ ∃ x, x ≤ l ∧ 0 ≤ szJobV (ls.getD j zeroJ) x := by
  intro ls
  induction ls with
  | nil => exact fun l _ => ⟨Int.le_refl _, fun j hj => absurd hj (Nat.not_lt_zero _)⟩
  | cons r rs ih =>
    intro l h
    have e : szLJob (r :: rs) l = if szJobV r l < 0 then -1 else szLJob rs (szJobV r l) := rfl
    rw [e] at h ⊢
    by_cases h2 : szJobV r l < 0
    · rw [if_pos h2] at h; simp at h
    · rw [if_neg h2] at h ⊢
      have h3 := szJobV_le (r := r) (l := l) (by omega)
      have h4 := ih _ h
      refine ⟨by omega, fun j hj => ?_⟩
      cases j with
      | zero => exact .inl (by rw [List.getD_cons_zero]; omega)
      | succ j =>
        rw [List.getD_cons_succ]
        rcases h4.2 j (by simpa using hj) with h5 | ⟨x, hx, h5⟩
        · exact .inr ⟨_, by omega, h5⟩
        · exact .inr ⟨x, by omega, h5⟩
set_option maxRecDepth 100000 in
set_option maxHeartbeats 2000000 in
theorem szJobS_any (w : World) (v : Value) (l : List J) (left : Int) (h : ArgT 18 jobDat zeroJ w v l) (hk : ∀ j, j < l.length → (l.getD j zeroJ).op.key.size ≤ maxLen) (h0 : 0 ≤ left) (h1 : left ≤ 1048576) :
    Calls Try.prog 72 #[v, .int .i64 left] w (Gives (.int .i64 (szJobSV l left)) w) := by
  obtain ⟨A, cap, rfl, h2, h3, h4⟩ := h
  have HC := Lib.hid h4
  have HK := Lib.hid hk
  have HL := Lib.hid (fun j (hj : j < l.length) => szLJob_drop l j hj)
  have HE := Lib.hid (show l.drop l.length = [] by simp)
  unfold maxLen at h3
  clear h4 hk
  by_cases hb : left - (l.length : Int) < 0
  · have HV := Lib.hid (show szJobSV l left = -1 from if_pos hb)
    have d1 : decide (left - (l.length : Int) < 0) = true := decide_eq_true hb
    generalize l.length = n at *
    go_enter Try.func72, Try.ntmps72
    go_wp2_with fail
    go_ret
    exact ⟨ret_i HV.out.symm, Below.refl _ _⟩
  · have HV := Lib.hid (show szJobSV l left = szLJob (l.drop 0) (left - (l.length : Int)) by unfold szJobSV; rw [if_neg hb, List.drop_zero])
    have d1 : decide (left - (l.length : Int) < 0) = false := decide_eq_false hb
    have hn : l.length ≤ 1048576 := by omega
    generalize hln : l.length = n at *
    clear hln
    go_enter Try.func72, Try.ntmps72
    go_wp2_with fail
    go_loopw [1, 5] (fun c i wr => ∃ (j : Nat) (x : Int), j ≤ n ∧ i = .int .i64 j ∧ c = .int .i64 x ∧ 0 ≤ x ∧ x ≤ 1048576 ∧ szLJob (l.drop 0) (left - (n : Int)) = szLJob (l.drop j) x ∧ Below w.heap.size w wr) (fun _ i _ => n - (intOf i).toNat)
    case atStart => exact ⟨0, _, Nat.zero_le _, rfl, rfl, by omega, by omega, rfl, Below.refl _ _⟩
    case round =>
      obtain ⟨j, x, hj, rfl, rfl, hx0, hx1, he, hbl⟩ := hrel
      have HB := Lib.hid hbl
      have HX := Lib.hid he
      clear hbl he
      by_cases hlt : j < n
      · obtain ⟨b, off, hA, h3', hC⟩ := HC.out (by omega)
        obtain ⟨vkeys, vraw, hrng, hin⟩ := job_at ((hC j hlt).below h3' HB.out)
        have HS := Lib.hid (HL.out j hlt x)
        have HR := Lib.hid (szJob_any wr (l.getD j zeroJ) vkeys vraw x hin (HK.out j hlt) hx0 hx1)
        have HT := Lib.hid (fun h => szJobV_le (r := l.getD j zeroJ) (l := x) h)
        have HG := Lib.hid hrng
        subst hA
        clear hC hin hrng
        generalize l.getD j zeroJ = r at *
        generalize szJobV r x = y at *
        have hul := Try.underlying38
        have hjn : (j : Int) < (n : Int) := by omega
        by_cases hneg : y < 0
        · rw [if_pos hneg] at HS
          have d2 : decide (y < 0) = true := decide_eq_true hneg
          go_wp2_with ((with_reducible show wpList _ _ _ _ _ _); refine wpList_load_mid rfl 38 _ rfl b (off + j * 18) rfl (jobVals r vkeys vraw).toList _ HG.out hul rfl (by kernel_rfl) ?_)
          refine HR.out.mono ?_
          rintro e w2 ⟨rfl, hb2⟩
          go_wp2_with fail
          go_ret
          exact ⟨ret_i (by rw [HV.out, HX.out, HS.out]), HB.out.trans (hb2.mono HB.out.size)⟩
        · rw [if_neg hneg] at HS
          have ht := HT.out (by omega)
          have d2 : decide (y < 0) = false := decide_eq_false hneg
          go_wp2_with ((with_reducible show wpList _ _ _ _ _ _); refine wpList_load_mid rfl 38 _ rfl b (off + j * 18) rfl (jobVals r vkeys vraw).toList _ HG.out hul rfl (by kernel_rfl) ?_)
          refine HR.out.mono ?_
          rintro e w2 ⟨rfl, hb2⟩
          go_wp2_with fail
          go_roundw
          case rel => exact ⟨j + 1, _, by omega, by go_num, rfl, by omega, by omega, by rw [HX.out, HS.out], HB.out.trans (hb2.mono HB.out.size)⟩
          case measure => simp [intOf]; omega
      · have hjn : j = n := by omega
        subst hjn
        go_wp2_with fail
        go_ret
        exact ⟨ret_i (by rw [HV.out, HX.out, HE.out]; rfl), HB.out⟩
end Go.Proofs.Ytfemdhknnfmpcaa
