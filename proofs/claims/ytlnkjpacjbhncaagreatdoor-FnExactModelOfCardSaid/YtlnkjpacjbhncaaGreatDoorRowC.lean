/-
  The exact laws' helpers on one row: its copy, its size, comparing two.
-/
import Derived.Test.YtlnkjpacjbhncaaGreatDoorZa
namespace Go.Proofs.YtlnkjpacjbhncaaGreatDoor
open Go.RowKit M
set_option linter.unusedVariables false
set_option maxRecDepth 100000 in
set_option maxHeartbeats 800000 in
theorem eqRow_same (w : World) (r : R) : Calls Tryz.prog 50 #[r.v, r.v] w (Gives (.bool true) w) := by
  obtain ⟨key, kind, sum, st, last, n, mn, mx, total, dropped⟩ := r
  unfold R.v
  simp only
  go_enter Tryz.func50, Tryz.ntmps50
  go_wp2_with fail
  go_ret
  exact ⟨rfl, ((Below.refl _ _).alloc (Nat.le_refl _) _).alloc (by simp [go_sem]) _⟩
/-- Block g holds the row. -/
def RowAt (w : World) (g : Nat) (r : R) : Prop := w.heap[g]? = some (.cells (rowCells r) 60 (0, 0))
theorem RowAt.lt {w : World} {g : Nat} {r : R} (h : RowAt w g r) : g < w.heap.size := by
  rcases Nat.lt_or_ge g w.heap.size with h1 | h1
  · exact h1
  · unfold RowAt at h; rw [Array.getElem?_eq_none h1] at h; cases h
theorem RowAt.below {w w' : World} {g : Nat} {r : R} (h : RowAt w g r) (hb : Below w.heap.size w w') : RowAt w' g r := (hb.block g h.lt).trans h
theorem RowAt.get {w : World} {g : Nat} {r : R} (h : RowAt w g r) :
    w.cell? ⟨g, 0, none⟩ = some (.string r.key) ∧ w.cell? ⟨g, 1, none⟩ = some (.int .i64 r.kind) ∧ w.cell? ⟨g, 2, none⟩ = some (.int .i64 r.sum) ∧ w.cell? ⟨g, 3, none⟩ = some (.bool r.set) ∧ w.cell? ⟨g, 4, none⟩ = some (.int .i64 r.last) ∧
    w.cell? ⟨g, 5, none⟩ = some (.int .i64 r.n) ∧ w.cell? ⟨g, 6, none⟩ = some (.int .i64 r.mn) ∧ w.cell? ⟨g, 7, none⟩ = some (.int .i64 r.mx) ∧ w.cell? ⟨g, 8, none⟩ = some (.int .i64 r.total) ∧ w.cell? ⟨g, 9, none⟩ = some (.int .i64 r.dropped) ∧ (∀ k, w.frozen? ⟨g, k, none⟩ = false) := by
  unfold RowAt at h
  refine ⟨?_, ?_, ?_, ?_, ?_, ?_, ?_, ?_, ?_, ?_, fun k => by simp [World.frozen?, h]⟩ <;> (rw [cell_of_row w g _ _ _ _ h]; rfl)
theorem rowAt_new (w : World) (g : Nat) (r : R) (hg : g = w.heap.size) : RowAt (w.alloc (.cells (rowCells r) 60)) g r := by subst hg; exact heap_alloc_new w _
theorem RowAt.alloc {w : World} {g : Nat} {r : R} (h : RowAt w g r) (o : Obj) : RowAt (w.alloc o) g r := h.below ((Below.refl _ _).alloc (Nat.le_refl _) o)
/-- Ten stores into one block of the call's own. -/
theorem below_row {B : Nat} {w w2 : World} {g : Nat} (h : Below B w w2) (hg : B ≤ g) (v0 v1 v2 v3 v4 v5 v6 v7 v8 v9 : Value) :
    Below B w ((((((((((w2.setCell ⟨g, 0, none⟩ v0).setCell ⟨g, 1, none⟩ v1).setCell ⟨g, 2, none⟩ v2).setCell ⟨g, 3, none⟩ v3).setCell ⟨g, 4, none⟩ v4).setCell ⟨g, 5, none⟩ v5).setCell ⟨g, 6, none⟩ v6).setCell ⟨g, 7, none⟩ v7).setCell ⟨g, 8, none⟩ v8).setCell ⟨g, 9, none⟩ v9) :=
  (((((((((h.setCell hg _).setCell hg _).setCell hg _).setCell hg _).setCell hg _).setCell hg _).setCell hg _).setCell hg _).setCell hg _).setCell hg _
end Go.Proofs.YtlnkjpacjbhncaaGreatDoor
