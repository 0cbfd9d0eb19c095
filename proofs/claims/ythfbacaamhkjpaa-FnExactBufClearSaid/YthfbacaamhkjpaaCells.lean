/-
  Chapter 2 in plain words: when a row of cells is valid, when a cell can be looked at; what each operation makes of the row.
-/
import Derived.Test.YthfbacaamhkjpaaIntC
namespace Go.Proofs.Ythfbacaamhkjpaa
open Go.RowKit M
set_option linter.unusedVariables false
/-- A number that a cell can hold. -/
def isW (z : Int) : Bool := decide (0 ≤ z) && decide (z ≤ 281474976710655)
theorem isW_iff {z : Int} : isW z = true ↔ 0 ≤ z ∧ z ≤ 281474976710655 := by simp [isW]
theorem isW_no {z : Int} : isW z = false ↔ z < 0 ∨ 281474976710655 < z := by
  rw [← Bool.not_eq_true, isW_iff]; omega
/-- The cells are valid. -/
def okC (zs : List Int) : Bool := decide (zs.length = 71) && zs.all isW
/-- Cell i can be looked at. -/
def atC (zs : List Int) (i : Int) : Bool := okC zs && (decide (0 ≤ i) && decide (i ≤ 70))
theorem okC_len {zs : List Int} (h : okC zs = true) : zs.length = 71 := by simp [okC] at h; exact h.1
theorem okC_at {zs : List Int} (h : okC zs = true) (j : Nat) (hj : j < 71) : 0 ≤ zs.getD j 0 ∧ zs.getD j 0 ≤ 281474976710655 := by
  have hl := okC_len h
  simp only [okC, Bool.and_eq_true, List.all_eq_true] at h
  have := h.2 (zs.getD j 0) (by rw [List.getD_eq_getElem?_getD, List.getElem?_eq_getElem (by omega)]; exact List.getElem_mem (by omega))
  exact isW_iff.1 this
theorem atC_iff {zs : List Int} {i : Int} : atC zs i = true ↔ okC zs = true ∧ 0 ≤ i ∧ i ≤ 70 := by simp [atC]
theorem atC_no {zs : List Int} {i : Int} : atC zs i = false ↔ okC zs = false ∨ i < 0 ∨ 70 < i := by
  rw [← Bool.not_eq_true, atC_iff, ← Bool.not_eq_true]
  by_cases h : okC zs = true
  · simp only [h, true_and, not_true_eq_false, false_or]; omega
  · simp [h]
theorem okC_set {zs : List Int} (h : okC zs = true) (j : Nat) (n : Int) (hn : isW n = true) : okC (zs.set j n) = true := by
  simp only [okC, Bool.and_eq_true, decide_eq_true_eq, List.all_eq_true, List.length_set] at h ⊢
  refine ⟨h.1, fun x hx => ?_⟩
  rcases List.mem_or_eq_of_mem_set hx with h' | rfl
  · exact h.2 x h'
  · exact hn
theorem all_getD {zs : List Int} {p : Int → Bool} (h : ∀ j, j < zs.length → p (zs.getD j 0) = true) : zs.all p = true := by
  rw [List.all_eq_true]
  intro x hx
  obtain ⟨j, hj, rfl⟩ := List.getElem_of_mem hx
  have := h j hj
  rw [List.getD_eq_getElem?_getD, List.getElem?_eq_getElem hj] at this
  exact this
theorem all_no {zs : List Int} {p : Int → Bool} {j : Nat} (hj : j < zs.length) (h : p (zs.getD j 0) = false) : zs.all p = false := by
  rw [← Bool.not_eq_true, List.all_eq_true]
  intro k
  have := k (zs.getD j 0) (by rw [List.getD_eq_getElem?_getD, List.getElem?_eq_getElem hj]; exact List.getElem_mem hj)
  rw [h] at this; cases this
end Go.Proofs.Ythfbacaamhkjpaa
