/-
  Contracts of chapter 2, the model's and the program's: looking at a cell; copying the row.
-/
import Derived.Test.YthfbacaamhkjpaaCellA
import Derived.Test.YthfbacaamhkjpaaCopyS
import Derived.Test.YthfbacaamhkjpaaShelf
import Derived.Test.YthfbacaamhkjpaaGive
namespace Go.Proofs.Ythfbacaamhkjpaa
open Go.RowKit M
set_option linter.unusedVariables false
/-- slices.Clone of a row hands back a new one. -/
theorem clone_any (w : World) (v : Value) (zs : List Int) (h : Ints w v zs) (hl : zs.length ≤ 1048576) :
    Calls Try.prog 16 #[v] w (MadeI w zs) := by
  obtain ⟨b, off, cap, rfl, h1, h2, h3, h4⟩ := h
  refine (Try.slices_Clone_int b off zs.length cap zs w (Nat.le_refl _) (by omega) h4).mono ?_
  rintro e w' ⟨v', rfl, ho, hne, hb⟩
  rw [List.take_length] at ho
  exact ⟨v', rfl, OwnI.of_row ho rfl hne, hb⟩
end Go.Proofs.Ythfbacaamhkjpaa
