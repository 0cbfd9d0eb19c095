/-
  Is x an index below n? The program's test, as a contract: it returns the outcome and leaves the world alone.
-/
import Derived.Test.YthfbacaamhkjpaaGive
import Derived.Test.YthfbacaamhkjpaaMath
namespace Go.Proofs.Ythfbacaamhkjpaa
open Go.RowKit M
set_option linter.unusedVariables false
theorem isIdx_yes (x n : Int) (w : World) (h1 : 0 ≤ x) (h2 : x < n) :
    Calls Try.prog 24 #[.int .i64 x, .int .i64 n] w fun e w' => e = .returned (.bool true) ∧ w = w' := by
  go_enter Try.func24, Try.ntmps24
  go_wp2
  go_ret
  exact ⟨rfl, rfl⟩
theorem isIdx_no (x n : Int) (w : World) (h : x < 0 ∨ n ≤ x) :
    Calls Try.prog 24 #[.int .i64 x, .int .i64 n] w fun e w' => e = .returned (.bool false) ∧ w = w' := by
  by_cases h1 : 0 ≤ x
  · have h2 : decide (x < n) = false := by simp; omega
    go_enter Try.func24, Try.ntmps24
    go_wp2
    go_ret
    exact ⟨rfl, rfl⟩
  · go_enter Try.func24, Try.ntmps24
    go_wp2
    go_ret
    exact ⟨rfl, rfl⟩
end Go.Proofs.Ythfbacaamhkjpaa
