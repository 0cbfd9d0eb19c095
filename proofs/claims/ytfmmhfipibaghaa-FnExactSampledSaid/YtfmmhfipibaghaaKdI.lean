/-
  Chapter 5, the program's functions: each answers what the plain words say. They turn nothing that was there.
-/
import Derived.Test.YtfmmhfipibaghaaKdS
import Derived.Test.YtfmmhfipibaghaaKeyI
namespace Go.Proofs.Ytfmmhfipibaghaa
open Go.RowKit M
set_option linter.unusedVariables false
theorem isValue_yes (k : Int) (w : World) (h0 : 0 ≤ k) (h1 : k ≤ 65535) : Calls Try.prog 37 #[.int .i64 k] w (Same w (.bool true)) := by
  go_enter Try.func37, Try.ntmps37
  go_wp2
  go_ret
  exact ⟨rfl, rfl⟩
theorem isValue_no (k : Int) (w : World) (h : ¬ (0 ≤ k ∧ k ≤ 65535)) : Calls Try.prog 37 #[.int .i64 k] w (Same w (.bool false)) := by
  by_cases h0 : 0 ≤ k
  · have h1 : decide (k ≤ 65535) = false := by rw [decide_eq_false]; omega
    go_enter Try.func37, Try.ntmps37
    go_wp2
    go_ret
    exact ⟨rfl, rfl⟩
  · have h1 : decide (0 ≤ k) = false := by rw [decide_eq_false]; omega
    go_enter Try.func37, Try.ntmps37
    go_wp2
    go_ret
    exact ⟨rfl, rfl⟩
end Go.Proofs.Ytfmmhfipibaghaa
