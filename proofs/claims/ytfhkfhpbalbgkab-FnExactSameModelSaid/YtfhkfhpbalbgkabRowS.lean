/-
  Chapter 7, the model's functions on one row: each answers what the plain words say. They turn nothing that was there.
-/
import Derived.Test.YtfhkfhpbalbgkabZa
namespace Go.Proofs.Ytfhkfhpbalbgkab
open Go.RowKit M
set_option linter.unusedVariables false
set_option linter.unusedSimpArgs false
theorem beq0 (x : Int) : (x == 0) = decide (x = 0) := by by_cases h : x = 0 <;> simp [h]
end Go.Proofs.Ytfhkfhpbalbgkab
