/-
  Chapter 7, the program's RowOk answers what the plain words say. It turns nothing that was there.
-/
import Derived.Test.YtfhkfhpbalbgkabRowJ
import Derived.Test.YtfhkfhpbalbgkabRowP
import Derived.Test.YtfhkfhpbalbgkabZb
import Derived.Test.YtfhkfhpbalbgkabZa
namespace Go.Proofs.Ytfhkfhpbalbgkab
open Go.RowKit M
set_option linter.unusedVariables false
set_option linter.unusedSimpArgs false
theorem rowOk_own {r : R} (h : ownV r ≠ r) : rowOkV r = false := by
  cases hr : rowOkV r with
  | false => rfl
  | true =>
    exfalso; apply h
    have hk := (Bool.and_eq_true _ _ ▸ hr : _ ∧ _)
    by_cases k1 : r.kind = 1
    · have hc := rowOk_1 hk.1 k1
      rw [hr] at hc
      have := (of_decide_eq_true (hc.symm : countV r = true))
      obtain ⟨_, h1, h2, h3, h4, h5, h6, h7⟩ := this
      rw [own_1 k1]
      obtain ⟨key, kind, sum, st, last, n, mn, mx, total, dropped⟩ := r
      simp only at *
      subst h1; subst h2; subst h3; subst h4; subst h5; subst h6; subst h7; rfl
    · by_cases k2 : r.kind = 2
      · have hc := rowOk_2 hk.1 k2
        rw [hr] at hc
        have := (of_decide_eq_true (hc.symm : gaugeRV r = true))
        obtain ⟨_, _, h1, h2, h3, h4, h5, h6⟩ := this
        rw [own_2 k2]
        obtain ⟨key, kind, sum, st, last, n, mn, mx, total, dropped⟩ := r
        simp only at *
        subst h1; subst h2; subst h3; subst h4; subst h5; subst h6; rfl
      · by_cases k3 : r.kind = 3
        · have hc := rowOk_3 hk.1 k3
          rw [hr] at hc
          obtain ⟨h1, h2, h3⟩ := of_decide_eq_true (Bool.and_eq_true _ _ ▸ hc.symm : _ ∧ _).1
          rw [own_3 k3]
          obtain ⟨key, kind, sum, st, last, n, mn, mx, total, dropped⟩ := r
          simp only at *
          subst h1; subst h2; subst h3; rfl
        · rw [rowOk_no (by omega)] at hr; cases hr
theorem isW_decide (x : Int) : isW x = decide (0 ≤ x ∧ x ≤ 281474976710655) := by unfold isW; simp
theorem cnt_own {key : ByteArray} {sum : Int} (hk : keyOkV key = true) : rowOkV ⟨key, 1, sum, false, 0, 0, 0, 0, 0, 0⟩ = isW sum := by rw [rowOk_1 hk rfl, isW_decide]; unfold countV; simp
theorem gau_own {key : ByteArray} {st : Bool} {last : Int} (hk : keyOkV key = true) : rowOkV ⟨key, 2, 0, st, last, 0, 0, 0, 0, 0⟩ = decide ((0 ≤ last ∧ last ≤ 65535) ∧ (st = true ∨ last = 0)) := by rw [rowOk_2 hk rfl]; unfold gaugeRV; simp
theorem tim_own {key : ByteArray} {n mn mx total dropped : Int} (hk : keyOkV key = true) : rowOkV ⟨key, 3, 0, false, 0, n, mn, mx, total, dropped⟩ = timerV ⟨key, 3, 0, false, 0, n, mn, mx, total, dropped⟩ := by rw [rowOk_3 hk rfl]; simp
end Go.Proofs.Ytfhkfhpbalbgkab
