/-
  The range test of the model (is x from low to high?) as a contract: it returns the test's outcome and leaves the world alone.
-/
import Derived.Test.YthfbacaamhkjpaaChecked
import Derived.Test.YthfbacaamhkjpaaMath
import Derived.WalkKit
import Derived.BigGuardPart
import Derived.Lib.Hide
namespace Go.Proofs.Ythfbacaamhkjpaa
open Go.RowKit
theorem l1In_yes (x a b : Int) (w : World) (h1 : a ≤ x) (h2 : x ≤ b) :
    Calls Try.prog 20 #[.int .i64 x, .int .i64 a, .int .i64 b] w fun e w' => e = .returned (.bool true) ∧ w = w' := by
  go_enter Try.func20, Try.ntmps20
  go_wp2
  go_ret
  exact ⟨rfl, rfl⟩
theorem l1In_no (x a b : Int) (w : World) (h : x < a ∨ b < x) :
    Calls Try.prog 20 #[.int .i64 x, .int .i64 a, .int .i64 b] w fun e w' => e = .returned (.bool false) ∧ w = w' := by
  by_cases h1 : a ≤ x
  · have h2 : decide (x ≤ b) = false := by simp; omega
    go_enter Try.func20, Try.ntmps20
    go_wp2
    go_ret
    exact ⟨rfl, rfl⟩
  · go_enter Try.func20, Try.ntmps20
    go_wp2
    go_ret
    exact ⟨rfl, rfl⟩
theorem l1In_any (x a b : Int) (w : World) :
    Calls Try.prog 20 #[.int .i64 x, .int .i64 a, .int .i64 b] w fun e w' => e = .returned (.bool (decide (a ≤ x ∧ x ≤ b))) ∧ w = w' := by
  by_cases h : a ≤ x ∧ x ≤ b
  · rw [decide_eq_true h]; exact l1In_yes x a b w h.1 h.2
  · rw [decide_eq_false h]; exact l1In_no x a b w (by omega)
end Go.Proofs.Ythfbacaamhkjpaa
