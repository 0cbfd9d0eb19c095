/-
  Chapter 10's comparisons in plain words: jobs, events, worlds that are alike, field by field and element by element.
-/
import Derived.Test.YtbhhhakfjmaglaaGreatZa
import Derived.Test.YtbhhhakfjmaglaaGreatOpS
import Derived.Test.YtbhhhakfjmaglaaGreatZb
namespace Go.Proofs.YtbhhhakfjmaglaaGreat
open Go.RowKit M
set_option linter.unusedVariables false
set_option linter.unusedSimpArgs false
section
variable {α : Type}
/-- The first j elements are alike. -/
def EqAt (z : α) (xs ys : List α) (j : Nat) : Prop := ∀ m, m < j → xs.getD m z = ys.getD m z
theorem EqAt.zero (z : α) (xs ys : List α) : EqAt z xs ys 0 := fun m h => absurd h (Nat.not_lt_zero _)
theorem EqAt.next {z : α} {xs ys : List α} {j : Nat} (h : EqAt z xs ys j) (k : xs.getD j z = ys.getD j z) : EqAt z xs ys (j + 1) := fun m hm => by
  by_cases e : m = j
  · subst e; exact k
  · exact h m (by omega)
theorem EqAt.all {z : α} {xs ys : List α} (hl : xs.length = ys.length) (h : EqAt z xs ys xs.length) : xs = ys := by
  apply List.ext_getElem hl
  intro i h1 h2
  have := h i h1
  rw [List.getD_eq_getElem?_getD, List.getD_eq_getElem?_getD, List.getElem?_eq_getElem h1, List.getElem?_eq_getElem h2] at this
  exact this
theorem eq_yes [DecidableEq α] {z : α} {xs ys : List α} (hl : xs.length = ys.length) (h : EqAt z xs ys xs.length) : decide (xs = ys) = true := decide_eq_true (h.all hl)
theorem eq_len [DecidableEq α] {xs ys : List α} (hl : xs.length ≠ ys.length) : decide (xs = ys) = false := decide_eq_false fun e => hl (by rw [e])
theorem eq_ne [DecidableEq α] {z : α} {xs ys : List α} {j : Nat} (h : xs.getD j z ≠ ys.getD j z) : decide (xs = ys) = false := decide_eq_false fun e => h (by rw [e])
/-- Rows whose elements are alike in f's sense. -/
def sameL (f : α → α → Bool) (z : α) (xs ys : List α) : Bool := decide (xs.length = ys.length) && (List.range xs.length).all fun j => f (xs.getD j z) (ys.getD j z)
def SameTo (f : α → α → Bool) (z : α) (xs ys : List α) (j : Nat) : Prop := ∀ m, m < j → f (xs.getD m z) (ys.getD m z) = true
theorem SameTo.zero (f : α → α → Bool) (z : α) (xs ys : List α) : SameTo f z xs ys 0 := fun m h => absurd h (Nat.not_lt_zero _)
theorem SameTo.next {f : α → α → Bool} {z : α} {xs ys : List α} {j : Nat} (h : SameTo f z xs ys j) (k : f (xs.getD j z) (ys.getD j z) = true) : SameTo f z xs ys (j + 1) := fun m hm => by
  by_cases e : m = j
  · subst e; exact k
  · exact h m (by omega)
theorem sameL_len {f : α → α → Bool} {z : α} {xs ys : List α} (h : xs.length ≠ ys.length) : sameL f z xs ys = false := by unfold sameL; rw [decide_eq_false h]; rfl
theorem sameL_no {f : α → α → Bool} {z : α} {xs ys : List α} {j : Nat} (hj : j < xs.length) (h : f (xs.getD j z) (ys.getD j z) = false) : sameL f z xs ys = false := by
  unfold sameL
  have : ((List.range xs.length).all fun j => f (xs.getD j z) (ys.getD j z)) = false := by
    rw [List.all_eq_false]
    exact ⟨j, List.mem_range.2 hj, by rw [h]; simp⟩
  rw [this, Bool.and_false]
theorem sameL_yes {f : α → α → Bool} {z : α} {xs ys : List α} (hl : xs.length = ys.length) (h : SameTo f z xs ys xs.length) : sameL f z xs ys = true := by
  unfold sameL
  rw [decide_eq_true hl, Bool.true_and, List.all_eq_true]
  exact fun j hj => h j (List.mem_range.1 hj)
end
def sameJV (a b : J) : Bool :=
  decide (a.busy = b.busy) && (decide (a.op = b.op) && (decide (a.serial = b.serial) && (decide (a.pc = b.pc) && (decide (a.k = b.k) && (decide (a.slot = b.slot) && (decide (a.what = b.what) && (decide (a.e = b.e) && (decide (a.stamp = b.stamp) && (decide (a.old = b.old) && (decide (a.flips = b.flips) && (decide (a.steps = b.steps) && (decide (a.code = b.code) && (decide (a.keys = b.keys) && decide (a.raw = b.raw))))))))))))))
def sameEV (a b : E) : Bool :=
  decide (a.kind = b.kind) && (decide (a.who = b.who) && (decide (a.serial = b.serial) && (decide (a.at_ = b.at_) && (decide (a.op = b.op) && (decide (a.code = b.code) && (decide (a.win = b.win) && (decide (a.steps = b.steps) && (decide (a.flips = b.flips) && sameRV a.rows b.rows))))))))
def sameQV (a b : List O) : Bool := decide (a = b)
def sameSV (a b : S) : Bool :=
  decide (a.cells = b.cells) && (sameL sameJV zeroJ a.jobs b.jobs && (sameL sameQV [] a.todo b.todo && (sameL sameEV zeroE a.log b.log && (decide (a.serial = b.serial) && decide (a.now = b.now)))))
set_option maxRecDepth 100000 in
set_option maxHeartbeats 4000000 in
theorem neq_op (w : World) (r s : O) (h : r ≠ s) : (binOp .neq 29 r.v s.v).run Tryz.prog w = .ok (.bool true) w := by
  obtain ⟨kind, key, what, val⟩ := r
  obtain ⟨kind', key', what', val'⟩ := s
  unfold O.v
  simp only at *
  rw [run_neq_struct, run_equalIn_struct _ _ _ _ _ (by kernel_rfl) stood_op]
  by_cases e0 : kind = kind'
  · subst e0
    by_cases e1 : key = key'
    · subst e1
      simp [go_sem]
      rintro rfl rfl
      exact h rfl
    · have e := txt_ne e1
      simp [go_sem, e]
  · simp [go_sem, e0]
theorem eqn_op (w : World) (r : O) : (binOp .neq 29 r.v r.v).run Tryz.prog w = .ok (.bool false) w := by
  obtain ⟨kind, key, what, val⟩ := r
  unfold O.v
  rw [run_neq_struct, run_equalIn_struct _ _ _ _ _ (by kernel_rfl) stood_op]
  simp [go_sem]
end Go.Proofs.YtbhhhakfjmaglaaGreat
