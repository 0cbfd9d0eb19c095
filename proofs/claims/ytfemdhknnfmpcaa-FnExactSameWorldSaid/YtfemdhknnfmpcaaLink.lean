/-
  A chain 'a && b && ..' of comparisons, walked a link at a time: of the slots only those are kept that the chain goes on with.
-/
import Derived.Test.YtfemdhknnfmpcaaZa
import Derived.BigFrame
namespace Go.Proofs.Ytfemdhknnfmpcaa
open Go.RowKit
set_option linter.unusedVariables false
set_option linter.unusedSimpArgs false
/-- What is known of the slots: two pointers, and the truth of the chain so far. -/
structure At (a : Act) (n A B : Nat) (pA pB : Value) (m : Nat) (b : Bool) : Prop where
  size : a.tmps.size = n
  hA : a.eval (.tmp A) = pA
  hB : a.eval (.tmp B) = pB
  hm : a.tmps[m]? = some (.bool b)
  df : a.defers = []
theorem ev_tmp (a : Act) (x : Nat) : a.eval (.tmp x) = a.tmps[x]?.getD undef := by
  show a.tmps.getD x undef = _
  rw [Array.getD_eq_getD_getElem?]
theorem put_eval (a : Act) (d x : Nat) (v : Value) (h : x ≠ d) : (a.put (some d) v).eval (.tmp x) = a.eval (.tmp x) := by
  show (a.tmps.setIfInBounds d v).getD x undef = a.tmps.getD x undef
  rw [Array.getD_eq_getD_getElem?, Array.getD_eq_getD_getElem?, Array.getElem?_setIfInBounds_ne (fun e => h e.symm)]
theorem put_own (a : Act) (d : Nat) (v : Value) (h : d < a.tmps.size) : (a.put (some d) v).eval (.tmp d) = v := by
  show (a.tmps.setIfInBounds d v).getD d undef = v
  rw [Array.getD_eq_getD_getElem?, Array.getElem?_setIfInBounds_self_of_lt h]; rfl
theorem put_size (a : Act) (d : Nat) (v : Value) : (a.put (some d) v).tmps.size = a.tmps.size := Array.size_setIfInBounds
theorem At.put {a : Act} {n A B : Nat} {pA pB : Value} {m : Nat} {b : Bool} (h : At a n A B pA pB m b) (d : Nat) (v : Value) (hd : A ≠ d ∧ B ≠ d ∧ m ≠ d) : At (a.put (some d) v) n A B pA pB m b :=
  ⟨(put_size a d v).trans h.size, (put_eval a d A v hd.1).trans h.hA, (put_eval a d B v hd.2.1).trans h.hB, (show (a.tmps.setIfInBounds d v)[m]? = _ by rw [Array.getElem?_setIfInBounds_ne (fun e => hd.2.2 e.symm)]; exact h.hm), h.df⟩
theorem At.turn {a : Act} {n A B : Nat} {pA pB : Value} {m : Nat} {b : Bool} (h : At a n A B pA pB m b) (d : Nat) (q : Bool) (hd : A ≠ d ∧ B ≠ d ∧ d < n) : At (a.put (some d) (.bool q)) n A B pA pB d q :=
  ⟨(put_size a d _).trans h.size, (put_eval a d A _ hd.1).trans h.hA, (put_eval a d B _ hd.2.1).trans h.hB, (show (a.tmps.setIfInBounds d _)[d]? = _ from Array.getElem?_setIfInBounds_self_of_lt (by rw [h.size]; exact hd.2.2)), h.df⟩
theorem At.bool {a : Act} {n A B : Nat} {pA pB : Value} {m : Nat} {b : Bool} (h : At a n A B pA pB m b) : a.eval (.tmp m) = .bool b := by
  show a.tmps.getD m undef = _
  rw [Array.getD_eq_getD_getElem?, h.hm]; rfl
theorem At.wants {a : Act} {n A B : Nat} {pA pB : Value} {m : Nat} {b : Bool} (h : At a n A B pA pB m b) {ops : Array Oper} {o : Oper} {j : Nat} {c : Bool} (g : o.guard = some (j, c)) (hj : (ops[j]?).bind (·.dst) = some m) : Region.wanted o (yielded ops a.tmps) = (b == c) := by
  unfold Region.wanted yielded
  rw [g]
  simp only [hj, Option.bind_some, h.hm]
  cases b <;> cases c <;> rfl
section
variable {P : Program} {ops : Array Oper} {Q : Exit → Act → World → Prop} {rest : List Oper} {a : Act} {w : World} {n A B m : Nat} {pA pB : Value} {b : Bool}
/-- An operation that yields a value. -/
theorem wpList_val {o : Oper} {v : Value} (hw : Region.wanted o (yielded ops a.tmps) = true) (hr : (execOp a.eval o).run P w = .ok (.value v) w) (k : wpList P ops Q rest (a.put o.dst v) w) : wpList P ops Q (o :: rest) a w :=
  Go.BigFrame.wpList_want hw fun K hK => by
    unfold Oper.wp
    rw [hr]
    exact hK _ _ k
theorem wanted_plain {o : Oper} (g : o.guard = none) (ys : Nat → Option Bool) : Region.wanted o ys = true := by unfold Region.wanted; rw [g]
/-- One comparison of two cells of the two boxes, ahead of the choice. -/
theorem link {o1 o2 o3 o4 o5 o6 : Oper} {j d1 d2 d3 d4 d5 d6 : Nat} {v1 x v2 y : Value} {q : Bool}
    (g1 : o1.guard = some (j, true)) (g2 : o2.guard = some (j, true)) (g3 : o3.guard = some (j, true)) (g4 : o4.guard = some (j, true)) (g5 : o5.guard = some (j, true)) (g6 : o6.guard = none)
    (e1 : o1.dst = some d1) (e2 : o2.dst = some d2) (e3 : o3.dst = some d3) (e4 : o4.dst = some d4) (e5 : o5.dst = some d5) (e6 : o6.dst = some d6)
    (hj : (ops[j]?).bind (·.dst) = some m)
    (hd : (A ≠ d1 ∧ B ≠ d1 ∧ m ≠ d1) ∧ (A ≠ d2 ∧ B ≠ d2 ∧ m ≠ d2) ∧ (A ≠ d3 ∧ B ≠ d3 ∧ m ≠ d3) ∧ (A ≠ d4 ∧ B ≠ d4 ∧ m ≠ d4) ∧ (A ≠ d5 ∧ B ≠ d5 ∧ m ≠ d5) ∧ (A ≠ d6 ∧ B ≠ d6 ∧ d6 < n))
    (hs : d1 < n ∧ d2 < n ∧ d3 < n ∧ d4 < n ∧ d5 < n) (hx : d2 ≠ d3 ∧ d2 ≠ d4)
    (r1 : ∀ a : Act, a.eval (.tmp A) = pA → (execOp a.eval o1).run P w = .ok (.value v1) w)
    (r2 : ∀ a : Act, a.eval (.tmp d1) = v1 → (execOp a.eval o2).run P w = .ok (.value x) w)
    (r3 : ∀ a : Act, a.eval (.tmp B) = pB → (execOp a.eval o3).run P w = .ok (.value v2) w)
    (r4 : ∀ a : Act, a.eval (.tmp d3) = v2 → (execOp a.eval o4).run P w = .ok (.value y) w)
    (r5 : ∀ a : Act, a.eval (.tmp d2) = x → a.eval (.tmp d4) = y → (execOp a.eval o5).run P w = .ok (.value (.bool q)) w)
    (r6 : ∀ (a : Act) (c : Value) (b : Bool), a.eval (.tmp m) = .bool b → a.eval (.tmp d5) = c → (execOp a.eval o6).run P w = .ok (.value (if b = true then c else .bool false)) w)
    (h : At a n A B pA pB m b) (k : ∀ a', At a' n A B pA pB d6 (b && q) → wpList P ops Q rest a' w) : wpList P ops Q (o1 :: o2 :: o3 :: o4 :: o5 :: o6 :: rest) a w := by
  obtain ⟨n1, n2, n3, n4, n5, n6⟩ := hd
  obtain ⟨s1, s2, s3, s4, s5⟩ := hs
  cases b with
  | false =>
    refine wpList_skip (by rw [h.wants g1 hj]; rfl) ?_
    rw [e1]
    have h1 := h.put d1 undef n1
    refine wpList_skip (by rw [h1.wants g2 hj]; rfl) ?_
    rw [e2]
    have h2 := h1.put d2 undef n2
    refine wpList_skip (by rw [h2.wants g3 hj]; rfl) ?_
    rw [e3]
    have h3 := h2.put d3 undef n3
    refine wpList_skip (by rw [h3.wants g4 hj]; rfl) ?_
    rw [e4]
    have h4 := h3.put d4 undef n4
    refine wpList_skip (by rw [h4.wants g5 hj]; rfl) ?_
    rw [e5]
    have h5 := h4.put d5 undef n5
    refine wpList_val (wanted_plain g6 _) (r6 _ _ false h5.bool rfl) ?_
    rw [e6]
    exact k _ (h5.turn d6 false n6)
  | true =>
    refine wpList_val (by rw [h.wants g1 hj]; rfl) (r1 _ h.hA) ?_
    rw [e1]
    have h1 := h.put d1 v1 n1
    refine wpList_val (by rw [h1.wants g2 hj]; rfl) (r2 _ (put_own _ _ _ (by rw [h.size]; exact s1))) ?_
    rw [e2]
    have h2 := h1.put d2 x n2
    refine wpList_val (by rw [h2.wants g3 hj]; rfl) (r3 _ h2.hB) ?_
    rw [e3]
    have h3 := h2.put d3 v2 n3
    refine wpList_val (by rw [h3.wants g4 hj]; rfl) (r4 _ (put_own _ _ _ (by rw [h2.size]; exact s3))) ?_
    rw [e4]
    have h4 := h3.put d4 y n4
    refine wpList_val (by rw [h4.wants g5 hj]; rfl) (r5 _ ?_ (put_own _ _ _ (by rw [h3.size]; exact s4))) ?_
    · rw [put_eval _ _ _ _ hx.2, put_eval _ _ _ _ hx.1]
      exact put_own _ _ _ (by rw [h1.size]; exact s2)
    rw [e5]
    have h5 := h4.put d5 (.bool q) n5
    refine wpList_val (wanted_plain g6 _) (r6 _ (.bool q) true h5.bool (put_own _ _ _ (by rw [h4.size]; exact s5))) ?_
    rw [e6]
    exact k _ (h5.turn d6 q n6)
/-- One comparison by a call. -/
theorem linkC {o1 o2 o3 o4 o5 o6 : Oper} {j d1 d2 d3 d4 d5 d6 : Nat} {v1 x v2 y : Value} {q : Bool} {f : FuncId}
    (g1 : o1.guard = some (j, true)) (g2 : o2.guard = some (j, true)) (g3 : o3.guard = some (j, true)) (g4 : o4.guard = some (j, true)) (g5 : o5.guard = some (j, true)) (g6 : o6.guard = none)
    (e1 : o1.dst = some d1) (e2 : o2.dst = some d2) (e3 : o3.dst = some d3) (e4 : o4.dst = some d4) (e5 : o5.dst = some d5) (e6 : o6.dst = some d6)
    (hj : (ops[j]?).bind (·.dst) = some m)
    (hd : (A ≠ d1 ∧ B ≠ d1 ∧ m ≠ d1) ∧ (A ≠ d2 ∧ B ≠ d2 ∧ m ≠ d2) ∧ (A ≠ d3 ∧ B ≠ d3 ∧ m ≠ d3) ∧ (A ≠ d4 ∧ B ≠ d4 ∧ m ≠ d4) ∧ (A ≠ d5 ∧ B ≠ d5 ∧ m ≠ d5) ∧ (A ≠ d6 ∧ B ≠ d6 ∧ d6 < n))
    (hs : d1 < n ∧ d2 < n ∧ d3 < n ∧ d4 < n ∧ d5 < n) (hx : d2 ≠ d3 ∧ d2 ≠ d4)
    (r1 : ∀ a : Act, a.eval (.tmp A) = pA → (execOp a.eval o1).run P w = .ok (.value v1) w)
    (r2 : ∀ a : Act, a.eval (.tmp d1) = v1 → (execOp a.eval o2).run P w = .ok (.value x) w)
    (r3 : ∀ a : Act, a.eval (.tmp B) = pB → (execOp a.eval o3).run P w = .ok (.value v2) w)
    (r4 : ∀ a : Act, a.eval (.tmp d3) = v2 → (execOp a.eval o4).run P w = .ok (.value y) w)
    (r5 : ∀ a : Act, a.eval (.tmp d2) = x → a.eval (.tmp d4) = y → (execOp a.eval o5).run P w = .ok (.enter f #[x, y]) w)
    (hc : Calls P f #[x, y] w (Gives (.bool q) w))
    (r6 : ∀ (a : Act) (w : World) (c : Value) (b : Bool), a.eval (.tmp m) = .bool b → a.eval (.tmp d5) = c → (execOp a.eval o6).run P w = .ok (.value (if b = true then c else .bool false)) w)
    (h : At a n A B pA pB m b) (k : ∀ a' w', At a' n A B pA pB d6 (b && q) → Below w.heap.size w w' → wpList P ops Q rest a' w') : wpList P ops Q (o1 :: o2 :: o3 :: o4 :: o5 :: o6 :: rest) a w := by
  obtain ⟨n1, n2, n3, n4, n5, n6⟩ := hd
  obtain ⟨s1, s2, s3, s4, s5⟩ := hs
  cases b with
  | false =>
    refine wpList_skip (by rw [h.wants g1 hj]; rfl) ?_
    rw [e1]
    have h1 := h.put d1 undef n1
    refine wpList_skip (by rw [h1.wants g2 hj]; rfl) ?_
    rw [e2]
    have h2 := h1.put d2 undef n2
    refine wpList_skip (by rw [h2.wants g3 hj]; rfl) ?_
    rw [e3]
    have h3 := h2.put d3 undef n3
    refine wpList_skip (by rw [h3.wants g4 hj]; rfl) ?_
    rw [e4]
    have h4 := h3.put d4 undef n4
    refine wpList_skip (by rw [h4.wants g5 hj]; rfl) ?_
    rw [e5]
    have h5 := h4.put d5 undef n5
    refine wpList_val (wanted_plain g6 _) (r6 _ _ _ false h5.bool rfl) ?_
    rw [e6]
    exact k _ _ (h5.turn d6 false n6) (Below.refl _ _)
  | true =>
    refine wpList_val (by rw [h.wants g1 hj]; rfl) (r1 _ h.hA) ?_
    rw [e1]
    have h1 := h.put d1 v1 n1
    refine wpList_val (by rw [h1.wants g2 hj]; rfl) (r2 _ (put_own _ _ _ (by rw [h.size]; exact s1))) ?_
    rw [e2]
    have h2 := h1.put d2 x n2
    refine wpList_val (by rw [h2.wants g3 hj]; rfl) (r3 _ h2.hB) ?_
    rw [e3]
    have h3 := h2.put d3 v2 n3
    refine wpList_val (by rw [h3.wants g4 hj]; rfl) (r4 _ (put_own _ _ _ (by rw [h2.size]; exact s3))) ?_
    rw [e4]
    have h4 := h3.put d4 y n4
    refine Go.BigFrame.wpList_want (by rw [h4.wants g5 hj]; rfl) fun K hK => ?_
    unfold Oper.wp
    rw [r5 _ (by rw [put_eval _ _ _ _ hx.2, put_eval _ _ _ _ hx.1]; exact put_own _ _ _ (by rw [h1.size]; exact s2)) (put_own _ _ _ (by rw [h3.size]; exact s4)), Oper.upon_enter]
    refine hc.mono ?_
    rintro e w' ⟨rfl, hb⟩
    refine hK _ _ ?_
    rw [e5]
    have h5 := h4.put d5 (.bool q) n5
    refine wpList_val (wanted_plain g6 _) (r6 _ _ (.bool q) true h5.bool (put_own _ _ _ (by rw [h4.size]; exact s5))) ?_
    rw [e6]
    exact k _ _ (h5.turn d6 q n6) hb
/-- The truth so far goes into another slot. -/
theorem linkM {o : Oper} {d : Nat} (g : o.guard = none) (e : o.dst = some d) (hd : A ≠ d ∧ B ≠ d ∧ d < n)
    (r : ∀ (a : Act) (b : Bool), a.eval (.tmp m) = .bool b → (execOp a.eval o).run P w = .ok (.value (.bool b)) w)
    (h : At a n A B pA pB m b) (k : ∀ a', At a' n A B pA pB d b → wpList P ops Q rest a' w) : wpList P ops Q (o :: rest) a w := by
  refine wpList_val (wanted_plain g _) (r _ _ h.bool) ?_
  rw [e]
  exact k _ (h.turn d b hd)
/-- The slots under one name. -/
theorem at_gen (h : At a n A B pA pB m b) (k : ∀ a', At a' n A B pA pB m b → wpList P ops Q rest a' w) : wpList P ops Q rest a w := k a h
/-- The first comparison of a chain: nothing guards it. -/
theorem link0 {o1 o2 o3 o4 o5 o6 : Oper} {d1 d2 d3 d4 d5 d6 : Nat} {v1 x v2 y : Value} {q : Bool}
    (g1 : o1.guard = none) (g2 : o2.guard = none) (g3 : o3.guard = none) (g4 : o4.guard = none) (g5 : o5.guard = none) (g6 : o6.guard = none)
    (e1 : o1.dst = some d1) (e2 : o2.dst = some d2) (e3 : o3.dst = some d3) (e4 : o4.dst = some d4) (e5 : o5.dst = some d5) (e6 : o6.dst = some d6)
    (hd : (A ≠ d1 ∧ B ≠ d1 ∧ m ≠ d1) ∧ (A ≠ d2 ∧ B ≠ d2 ∧ m ≠ d2) ∧ (A ≠ d3 ∧ B ≠ d3 ∧ m ≠ d3) ∧ (A ≠ d4 ∧ B ≠ d4 ∧ m ≠ d4) ∧ (A ≠ d5 ∧ B ≠ d5 ∧ m ≠ d5) ∧ (A ≠ d6 ∧ B ≠ d6 ∧ d6 < n))
    (hs : d1 < n ∧ d2 < n ∧ d3 < n ∧ d4 < n ∧ d5 < n) (hx : d2 ≠ d3 ∧ d2 ≠ d4)
    (r1 : ∀ a : Act, a.eval (.tmp A) = pA → (execOp a.eval o1).run P w = .ok (.value v1) w)
    (r2 : ∀ a : Act, a.eval (.tmp d1) = v1 → (execOp a.eval o2).run P w = .ok (.value x) w)
    (r3 : ∀ a : Act, a.eval (.tmp B) = pB → (execOp a.eval o3).run P w = .ok (.value v2) w)
    (r4 : ∀ a : Act, a.eval (.tmp d3) = v2 → (execOp a.eval o4).run P w = .ok (.value y) w)
    (r5 : ∀ a : Act, a.eval (.tmp d2) = x → a.eval (.tmp d4) = y → (execOp a.eval o5).run P w = .ok (.value (.bool q)) w)
    (r6 : ∀ (a : Act) (b : Bool), a.eval (.tmp d5) = .bool b → (execOp a.eval o6).run P w = .ok (.value (.bool b)) w)
    (h : At a n A B pA pB m b) (k : ∀ a', At a' n A B pA pB d6 q → wpList P ops Q rest a' w) : wpList P ops Q (o1 :: o2 :: o3 :: o4 :: o5 :: o6 :: rest) a w := by
  obtain ⟨n1, n2, n3, n4, n5, n6⟩ := hd
  obtain ⟨s1, s2, s3, s4, s5⟩ := hs
  refine wpList_val (wanted_plain g1 _) (r1 _ h.hA) ?_
  rw [e1]
  have h1 := h.put d1 v1 n1
  refine wpList_val (wanted_plain g2 _) (r2 _ (put_own _ _ _ (by rw [h.size]; exact s1))) ?_
  rw [e2]
  have h2 := h1.put d2 x n2
  refine wpList_val (wanted_plain g3 _) (r3 _ h2.hB) ?_
  rw [e3]
  have h3 := h2.put d3 v2 n3
  refine wpList_val (wanted_plain g4 _) (r4 _ (put_own _ _ _ (by rw [h2.size]; exact s3))) ?_
  rw [e4]
  have h4 := h3.put d4 y n4
  refine wpList_val (wanted_plain g5 _) (r5 _ ?_ (put_own _ _ _ (by rw [h3.size]; exact s4))) ?_
  · rw [put_eval _ _ _ _ hx.2, put_eval _ _ _ _ hx.1]
    exact put_own _ _ _ (by rw [h1.size]; exact s2)
  rw [e5]
  have h5 := h4.put d5 (.bool q) n5
  refine wpList_val (wanted_plain g6 _) (r6 _ q (put_own _ _ _ (by rw [h4.size]; exact s5))) ?_
  rw [e6]
  exact k _ (h5.turn d6 q n6)
end
end Go.Proofs.Ytfemdhknnfmpcaa
