/-
  A law's own row in a block (the boxed argument): read behind a call.
-/
import Derived.Test.YtfmmhfipibaghaaRowV
import Derived.WalkKit
import Derived.Lib.Hide
namespace Go.Proofs.Ytfmmhfipibaghaa
open Go.RowKit M
set_option linter.unusedVariables false
def RowL (w : World) (g : Nat) (r : R) : Prop := w.heap[g]? = some (.cells (rowCells r) 30 (0, 0))
theorem RowL.lt {w : World} {g : Nat} {r : R} (h : RowL w g r) : g < w.heap.size := by
  rcases Nat.lt_or_ge g w.heap.size with h1 | h1
  · exact h1
  · unfold RowL at h; rw [Array.getElem?_eq_none h1] at h; cases h
theorem RowL.below {w w' : World} {g : Nat} {r : R} (h : RowL w g r) (hb : Below w.heap.size w w') : RowL w' g r := (hb.block g h.lt).trans h
theorem RowL.get {w : World} {g : Nat} {r : R} (h : RowL w g r) :
    w.cell? ⟨g, 0, none⟩ = some (.string r.key) ∧ w.cell? ⟨g, 1, none⟩ = some (.int .i64 r.kind) ∧ w.cell? ⟨g, 2, none⟩ = some (.int .i64 r.sum) ∧ w.cell? ⟨g, 3, none⟩ = some (.bool r.set) ∧ w.cell? ⟨g, 4, none⟩ = some (.int .i64 r.last) ∧
    w.cell? ⟨g, 5, none⟩ = some (.int .i64 r.n) ∧ w.cell? ⟨g, 6, none⟩ = some (.int .i64 r.mn) ∧ w.cell? ⟨g, 7, none⟩ = some (.int .i64 r.mx) ∧ w.cell? ⟨g, 8, none⟩ = some (.int .i64 r.total) ∧ w.cell? ⟨g, 9, none⟩ = some (.int .i64 r.dropped) := by
  unfold RowL at h
  refine ⟨?_, ?_, ?_, ?_, ?_, ?_, ?_, ?_, ?_, ?_⟩ <;> (rw [cell_of_row w g _ _ _ _ h]; rfl)
theorem rowL_new (w : World) (r : R) : RowL (w.alloc (.cells (rowCells r) 30)) w.heap.size r := heap_alloc_new w _
theorem RowL.alloc {w : World} {g : Nat} {r : R} (h : RowL w g r) (o : Obj) : RowL (w.alloc o) g r := h.below ((Below.refl _ _).alloc (Nat.le_refl _) o)
end Go.Proofs.Ytfmmhfipibaghaa
