/-
  Chapter 10, the model's OpOk: it answers what the plain words say, and turns nothing that was there.
-/
import Derived.Test.YtfhkfhpbalbgkabZa
import Derived.Test.YtfhkfhpbalbgkabRowS
namespace Go.Proofs.Ytfhkfhpbalbgkab
open Go.RowKit M
set_option linter.unusedVariables false
set_option linter.unusedSimpArgs false
instance decO : DecidableEq O := fun a b =>
  if h : a.kind = b.kind ∧ a.key = b.key ∧ a.what = b.what ∧ a.val = b.val then
    .isTrue (by
      obtain ⟨h0, h1, h2, h3⟩ := h
      cases a; cases b
      simp only at *
      subst h0; subst h1; subst h2; subst h3
      rfl)
  else .isFalse (fun e => h (by subst e; exact ⟨rfl, rfl, rfl, rfl⟩))
theorem opOk_1 {o : O} (h : o.kind = 1) : opOkV o = (keyOkV o.key && (decide (1 ≤ o.what ∧ o.what ≤ 3) && decide (o.val = 0))) := if_pos h
theorem opOk_2 {o : O} (h : o.kind = 2) : opOkV o = (keyOkV o.key && (decide (o.what = 0) && decide (0 ≤ o.val ∧ o.val ≤ 65535))) := by unfold opOkV; rw [if_neg (by omega), if_pos h]
theorem opOk_3 {o : O} (h : o.kind = 3) : opOkV o = isFlushO o := by unfold opOkV; rw [if_neg (by omega), if_neg (by omega), if_pos h]
theorem opOk_no {o : O} (h1 : o.kind ≠ 1) (h2 : o.kind ≠ 2) (h3 : o.kind ≠ 3) : opOkV o = false := by unfold opOkV; rw [if_neg h1, if_neg h2, if_neg h3]
theorem flush_eq (o : O) : isFlushO o = decide (o = ⟨3, ⟨#[]⟩, 0, 0⟩) := by
  obtain ⟨kind, key, what, val⟩ := o
  unfold isFlushO
  congr 1
  simp
end Go.Proofs.Ytfhkfhpbalbgkab
