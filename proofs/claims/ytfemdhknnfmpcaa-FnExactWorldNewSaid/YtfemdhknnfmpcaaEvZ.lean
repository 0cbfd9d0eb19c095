/-
  The exact laws' budget behind the record Ev, and behind rows of it.
-/
import Derived.Test.YtfemdhknnfmpcaaEvC
import Derived.Test.YtfemdhknnfmpcaaJobZ
namespace Go.Proofs.Ytfemdhknnfmpcaa
open Go.RowKit M
set_option linter.unusedVariables false
set_option linter.unusedSimpArgs false
/-- What is left of a budget behind the record. -/
def szEvV (r : E) (l : Int) : Int := szBind (szBind (szInt r.op.key.size l) (szV r.rows)) (fun x => x)
theorem szEvV_le {r : E} {l : Int} (h : 0 ≤ szEvV r l) : (r.rows.length : Int) + szEvV r l ≤ l := by
  unfold szEvV szBind at *
  by_cases a0 : szInt r.op.key.size l < 0
  · rw [if_pos a0] at h; simp at h
  have b0 := szInt_le (n := r.op.key.size) (l := l) (by omega)
  rw [if_neg a0] at h ⊢
  by_cases a1 : szV r.rows (szInt r.op.key.size l) < 0
  · rw [if_pos a1] at h; simp at h
  have b1 := szV_tot (l := (szInt r.op.key.size l)) (show 0 ≤ szV r.rows (szInt r.op.key.size l) by omega)
  rw [if_neg a1] at h ⊢
  dsimp only at h ⊢
  omega
set_option maxRecDepth 100000 in
set_option maxHeartbeats 4000000 in
theorem szEv_any (w : World) (r : E) (vrows : Value) (left : Int) (h : evIn w r vrows) (hk : r.op.key.size ≤ maxLen) (hr : ∀ j, j < r.rows.length → (r.rows.getD j zeroR).key.size ≤ maxLen) (h0 : 0 ≤ left) (h1 : left ≤ 1048576) : Calls Try.prog 104 #[.agg (evVals r vrows), .int .i64 left] w (Gives (.int .i64 (szEvV r left)) w) := by
  have hrows := h
  clear h
  have HT := fun W => Lib.hid (szOp_any W r.op left hk h0 h1)
  have Zrows := fun W h x h0 h1 => Lib.hid (szRowS_any W vrows r.rows x h hr h0 h1)
  have Hrows := Lib.hid hrows
  obtain ⟨arows, crows, rfl, _, _, _⟩ := hrows
  have HE := Lib.hid (show szEvV r left = _ from rfl)
  have HB := Lib.hid ((Below.refl w.heap.size w).alloc (Nat.le_refl _) (.cells (evVals r (.slice arows r.rows.length crows)) 112))
  have e0 : (if left - (r.op.key.size : Int) < 0 then -1 else left - (r.op.key.size : Int)) = szInt r.op.key.size left := rfl
  rw [e0] at HT
  have l0 := fun h => szInt_le (n := r.op.key.size) (l := left) h
  have l1 := fun x h => szV_tot (rs := r.rows) (l := x) h
  have HV := Lib.hid (show szEvV r left = szBind (szBind (szInt r.op.key.size left) (szV r.rows)) (fun x => x) from rfl)
  clear HE e0
  generalize szEvV r left = out at *
  generalize szInt r.op.key.size left = x0 at *
  generalize szV r.rows = grows at *
  obtain ⟨kind, who, serial, at_, ⟨op_kind, op_key, op_what, op_val⟩, code, win, steps, flips, rows⟩ := r
  unfold evVals at *
  unfold O.v at HT
  simp only at *
  generalize rows.length = nrows at *
  by_cases a0 : x0 < 0
  case pos =>
    have d0 : decide (x0 < 0) = true := decide_eq_true a0
    go_enter Try.func104, Try.ntmps104
    go_wp2_with fail
    refine (HT _).out.mono ?_
    rintro e w1 ⟨rfl, hb1⟩
    have HB1 := Lib.hid (HB.out.trans (hb1.mono HB.out.size))
    have G1 := (Blk.new w w.heap.size 112 #[.int .i64 kind, .int .i64 who, .int .i64 serial, .int .i64 at_, .int .i64 op_kind, .string op_key, .int .i64 op_what, .int .i64 op_val, .int .i64 code, .int .i64 win, .int .i64 steps, .int .i64 flips, .slice arows nrows crows] rfl).below hb1
    have q1 := G1.get 12
    simp at q1
    clear hb1
    have hm1 : (-1 : Int) < 0 := by decide
    go_wp2_with fail
    go_ret
    exact ⟨ret_i (by rw [HV.out]; simp only [szBind, if_pos (show x0 < 0 by omega), if_pos hm1]), HB1.out⟩
  have d0 : decide (x0 < 0) = false := decide_eq_false a0
  have z0 := l0 (by omega)
  obtain ⟨x1, hx1⟩ : ∃ x, grows x0 = x := ⟨_, rfl⟩
  have y1 := l1 x0
  rw [hx1] at y1
  by_cases a1 : x1 < 0
  case pos =>
    have d1 : decide (x1 < 0) = true := decide_eq_true a1
    go_enter Try.func104, Try.ntmps104
    go_wp2_with fail
    refine (HT _).out.mono ?_
    rintro e w1 ⟨rfl, hb1⟩
    have HB1 := Lib.hid (HB.out.trans (hb1.mono HB.out.size))
    have G1 := (Blk.new w w.heap.size 112 #[.int .i64 kind, .int .i64 who, .int .i64 serial, .int .i64 at_, .int .i64 op_kind, .string op_key, .int .i64 op_what, .int .i64 op_val, .int .i64 code, .int .i64 win, .int .i64 steps, .int .i64 flips, .slice arows nrows crows] rfl).below hb1
    have q1 := G1.get 12
    simp at q1
    clear hb1
    go_wp2_with fail
    refine (Zrows _ (Hrows.out.below HB1.out) x0 (by omega) (by omega)).out.mono ?_
    rintro e w2 ⟨rfl, hb2⟩
    have HB2 := Lib.hid (HB1.out.trans (hb2.mono HB1.out.size))
    have G2 := G1.below hb2
    have q2 := G2.get 12
    simp at q2
    clear hb2
    rw [hx1]
    have hm1 : (-1 : Int) < 0 := by decide
    go_wp2_with fail
    go_ret
    exact ⟨ret_i (by rw [HV.out]; simp only [szBind, hx1, if_neg (show ¬ x0 < 0 by omega), if_pos (show x1 < 0 by omega), if_pos hm1]), HB2.out⟩
  have d1 : decide (x1 < 0) = false := decide_eq_false a1
  have z1 := y1 (by omega)
  go_enter Try.func104, Try.ntmps104
  go_wp2_with fail
  refine (HT _).out.mono ?_
  rintro e w1 ⟨rfl, hb1⟩
  have HB1 := Lib.hid (HB.out.trans (hb1.mono HB.out.size))
  have G1 := (Blk.new w w.heap.size 112 #[.int .i64 kind, .int .i64 who, .int .i64 serial, .int .i64 at_, .int .i64 op_kind, .string op_key, .int .i64 op_what, .int .i64 op_val, .int .i64 code, .int .i64 win, .int .i64 steps, .int .i64 flips, .slice arows nrows crows] rfl).below hb1
  have q1 := G1.get 12
  simp at q1
  clear hb1
  go_wp2_with fail
  refine (Zrows _ (Hrows.out.below HB1.out) x0 (by omega) (by omega)).out.mono ?_
  rintro e w2 ⟨rfl, hb2⟩
  have HB2 := Lib.hid (HB1.out.trans (hb2.mono HB1.out.size))
  have G2 := G1.below hb2
  have q2 := G2.get 12
  simp at q2
  clear hb2
  rw [hx1]
  have hm1 : (-1 : Int) < 0 := by decide
  go_wp2_with fail
  go_ret
  exact ⟨ret_i (by rw [HV.out]; simp only [szBind, hx1, if_neg (show ¬ x0 < 0 by omega), if_neg (show ¬ x1 < 0 by omega), if_pos hm1]), HB2.out⟩
/-- What is left of a budget behind such records. -/
def szLEv : List E → Int → Int
  | [], l => l
  | r :: rs, l => if szEvV r l < 0 then -1 else szLEv rs (szEvV r l)
def szEvSV (ls : List E) (l : Int) : Int := if l - (ls.length : Int) < 0 then -1 else szLEv ls (l - (ls.length : Int))
theorem szLEv_drop (ls : List E) (j : Nat) (hj : j < ls.length) (c : Int) : szLEv (ls.drop j) c = if szEvV (ls.getD j zeroE) c < 0 then -1 else szLEv (ls.drop (j + 1)) (szEvV (ls.getD j zeroE) c) := by
  rw [List.drop_eq_getElem_cons hj, List.getD_eq_getElem?_getD, List.getElem?_eq_getElem hj]
  rfl
theorem szLEv_le : ∀ (ls : List E) (l : Int), 0 ≤ szLEv ls l → szLEv ls l ≤ l ∧ ∀ j, j < ls.length → 0 ≤ szEvV (ls.getD j zeroE) l ∨ ∃ x, x ≤ l ∧ 0 ≤ szEvV (ls.getD j zeroE) x := by
  intro ls
  induction ls with
  | nil => exact fun l _ => ⟨Int.le_refl _, fun j hj => absurd hj (Nat.not_lt_zero _)⟩
  | cons r rs ih =>
    intro l h
    have e : szLEv (r :: rs) l = if szEvV r l < 0 then -1 else szLEv rs (szEvV r l) := rfl
    rw [e] at h ⊢
    by_cases h2 : szEvV r l < 0
    · rw [if_pos h2] at h; simp at h
    · rw [if_neg h2] at h ⊢
      have h3 := szEvV_le (r := r) (l := l) (by omega)
      have h4 := ih _ h
      refine ⟨by omega, fun j hj => ?_⟩
      cases j with
      | zero => exact .inl (by rw [List.getD_cons_zero]; omega)
      | succ j =>
        rw [List.getD_cons_succ]
        rcases h4.2 j (by simpa using hj) with h5 | ⟨x, hx, h5⟩
        · exact .inr ⟨_, by omega, h5⟩
        · exact .inr ⟨x, by omega, h5⟩
set_option maxRecDepth 100000 in
set_option maxHeartbeats 2000000 in
theorem szEvS_any (w : World) (v : Value) (l : List E) (left : Int) (h : ArgT 13 evDat zeroE w v l) (hk : ∀ j, j < l.length → (l.getD j zeroE).op.key.size ≤ maxLen ∧ ∀ i, i < (l.getD j zeroE).rows.length → ((l.getD j zeroE).rows.getD i zeroR).key.size ≤ maxLen) (h0 : 0 ≤ left) (h1 : left ≤ 1048576) :
    Calls Try.prog 73 #[v, .int .i64 left] w (Gives (.int .i64 (szEvSV l left)) w) := by
  obtain ⟨A, cap, rfl, h2, h3, h4⟩ := h
  have HC := Lib.hid h4
  have HK := Lib.hid hk
  have HL := Lib.hid (fun j (hj : j < l.length) => szLEv_drop l j hj)
  have HE := Lib.hid (show l.drop l.length = [] by simp)
  unfold maxLen at h3
  clear h4 hk
  by_cases hb : left - (l.length : Int) < 0
  · have HV := Lib.hid (show szEvSV l left = -1 from if_pos hb)
    have d1 : decide (left - (l.length : Int) < 0) = true := decide_eq_true hb
    generalize l.length = n at *
    go_enter Try.func73, Try.ntmps73
    go_wp2_with fail
    go_ret
    exact ⟨ret_i HV.out.symm, Below.refl _ _⟩
  · have HV := Lib.hid (show szEvSV l left = szLEv (l.drop 0) (left - (l.length : Int)) by unfold szEvSV; rw [if_neg hb, List.drop_zero])
    have d1 : decide (left - (l.length : Int) < 0) = false := decide_eq_false hb
    have hn : l.length ≤ 1048576 := by omega
    generalize hln : l.length = n at *
    clear hln
    go_enter Try.func73, Try.ntmps73
    go_wp2_with fail
    go_loopw [1, 5] (fun c i wr => ∃ (j : Nat) (x : Int), j ≤ n ∧ i = .int .i64 j ∧ c = .int .i64 x ∧ 0 ≤ x ∧ x ≤ 1048576 ∧ szLEv (l.drop 0) (left - (n : Int)) = szLEv (l.drop j) x ∧ Below w.heap.size w wr) (fun _ i _ => n - (intOf i).toNat)
    case atStart => exact ⟨0, _, Nat.zero_le _, rfl, rfl, by omega, by omega, rfl, Below.refl _ _⟩
    case round =>
      obtain ⟨j, x, hj, rfl, rfl, hx0, hx1, he, hbl⟩ := hrel
      have HB := Lib.hid hbl
      have HX := Lib.hid he
      clear hbl he
      by_cases hlt : j < n
      · obtain ⟨b, off, hA, h3', hC⟩ := HC.out (by omega)
        obtain ⟨vrows, hrng, hin⟩ := ev_at ((hC j hlt).below h3' HB.out)
        have HS := Lib.hid (HL.out j hlt x)
        have HR := Lib.hid (szEv_any wr (l.getD j zeroE) vrows x hin (HK.out j hlt).1 (HK.out j hlt).2 hx0 hx1)
        have HT := Lib.hid (fun h => szEvV_le (r := l.getD j zeroE) (l := x) h)
        have HG := Lib.hid hrng
        subst hA
        clear hC hin hrng
        generalize l.getD j zeroE = r at *
        generalize szEvV r x = y at *
        have hul := Try.underlying112
        have hjn : (j : Int) < (n : Int) := by omega
        by_cases hneg : y < 0
        · rw [if_pos hneg] at HS
          have d2 : decide (y < 0) = true := decide_eq_true hneg
          go_wp2_with ((with_reducible show wpList _ _ _ _ _ _); refine wpList_load_mid rfl 112 _ rfl b (off + j * 13) rfl (evVals r vrows).toList _ HG.out hul rfl (by kernel_rfl) ?_)
          refine HR.out.mono ?_
          rintro e w2 ⟨rfl, hb2⟩
          go_wp2_with fail
          go_ret
          exact ⟨ret_i (by rw [HV.out, HX.out, HS.out]), HB.out.trans (hb2.mono HB.out.size)⟩
        · rw [if_neg hneg] at HS
          have ht := HT.out (by omega)
          have d2 : decide (y < 0) = false := decide_eq_false hneg
          go_wp2_with ((with_reducible show wpList _ _ _ _ _ _); refine wpList_load_mid rfl 112 _ rfl b (off + j * 13) rfl (evVals r vrows).toList _ HG.out hul rfl (by kernel_rfl) ?_)
          refine HR.out.mono ?_
          rintro e w2 ⟨rfl, hb2⟩
          go_wp2_with fail
          go_roundw
          case rel => exact ⟨j + 1, _, by omega, by go_num, rfl, by omega, by omega, by rw [HX.out, HS.out], HB.out.trans (hb2.mono HB.out.size)⟩
          case measure => simp [intOf]; omega
      · have hjn : j = n := by omega
        subst hjn
        go_wp2_with fail
        go_ret
        exact ⟨ret_i (by rw [HV.out, HX.out, HE.out]; rfl), HB.out⟩
end Go.Proofs.Ytfemdhknnfmpcaa
