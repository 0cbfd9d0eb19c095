/-
  Chapter 7, the model's RowOk answers what the plain words say. It turns nothing that was there.
-/
import Derived.Test.YtfhkfhpbalbgkabRowS
namespace Go.Proofs.Ytfhkfhpbalbgkab
open Go.RowKit M
set_option linter.unusedVariables false
set_option linter.unusedSimpArgs false
theorem rowOk_key {r : R} (h : keyOkV r.key = false) : rowOkV r = false := by unfold rowOkV; rw [h]; rfl
theorem rowOk_1 {r : R} (h : keyOkV r.key = true) (hk : r.kind = 1) : rowOkV r = countV r := by unfold rowOkV; rw [h, if_pos hk]; rfl
theorem rowOk_2 {r : R} (h : keyOkV r.key = true) (hk : r.kind = 2) : rowOkV r = gaugeRV r := by unfold rowOkV; rw [h, if_neg (by omega), if_pos hk]; rfl
theorem rowOk_3 {r : R} (h : keyOkV r.key = true) (hk : r.kind = 3) : rowOkV r = (decide (r.sum = 0 ∧ r.set = false ∧ r.last = 0) && timerV r) := by unfold rowOkV; rw [h, if_neg (by omega), if_neg (by omega), if_pos hk]; rfl
theorem rowOk_no {r : R} (hk : ¬ (r.kind = 1 ∨ r.kind = 2 ∨ r.kind = 3)) : rowOkV r = false := by unfold rowOkV; rw [if_neg (by omega), if_neg (by omega), if_neg (by omega), Bool.and_false]
end Go.Proofs.Ytfhkfhpbalbgkab
