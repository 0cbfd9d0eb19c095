/-
  The exact laws' helpers on one row: its copy, its size, comparing two.
-/
import Derived.Test.YtjiaogbkmpjciaaZa
namespace Go.Proofs.Ytjiaogbkmpjciaa
open Go.RowKit M
set_option linter.unusedVariables false
set_option maxRecDepth 100000 in
theorem toRow_any (w : World) (r : R) : Calls Try.prog 56 #[r.v] w (Gives r.v w) := by
  obtain ⟨key, kind, sum, st, last, n, mn, mx, total, dropped⟩ := r
  unfold R.v
  simp only
  go_enter Try.func56, Try.ntmps56
  go_wp2_with fail
  exact bodyPost_ret (v := .agg #[.string key, .int .i64 kind, .int .i64 sum, .bool st, .int .i64 last, .int .i64 n, .int .i64 mn, .int .i64 mx, .int .i64 total, .int .i64 dropped]) (by simp [results, Try.results56, go_sem]) rfl ⟨rfl, (((Below.refl _ _).alloc (Nat.le_refl _) _).alloc (by simp [go_sem]) _).alloc (by simp [go_sem]; omega) _⟩
/-- What is left of a budget behind a row's key. -/
theorem szRow_any (w : World) (r : R) (left : Int) (hk : r.key.size ≤ maxLen) (h0 : 0 ≤ left) (h1 : left ≤ 1048576) : Calls Try.prog 55 #[r.v, .int .i64 left] w (Gives (.int .i64 (if left - (r.key.size : Int) < 0 then -1 else left - (r.key.size : Int))) w) := by
  obtain ⟨key, kind, sum, st, last, n, mn, mx, total, dropped⟩ := r
  unfold R.v
  simp only at *
  unfold maxLen at hk
  by_cases h : left - (key.size : Int) < 0
  · have hd : decide (left - (key.size : Int) < 0) = true := by rw [decide_eq_true]; exact h
    rw [if_pos h]
    go_enter Try.func55, Try.ntmps55
    go_wp2_with fail
    go_ret
    exact ⟨rfl, (Below.refl _ _).alloc (Nat.le_refl _) _⟩
  · have hd : decide (left - (key.size : Int) < 0) = false := by rw [decide_eq_false]; exact h
    rw [if_neg h]
    go_enter Try.func55, Try.ntmps55
    go_wp2_with fail
    go_ret
    exact ⟨rfl, (Below.refl _ _).alloc (Nat.le_refl _) _⟩
set_option maxRecDepth 100000 in
set_option maxHeartbeats 800000 in
theorem eqRow_same (w : World) (r : R) : Calls Try.prog 57 #[r.v, r.v] w (Gives (.bool true) w) := by
  obtain ⟨key, kind, sum, st, last, n, mn, mx, total, dropped⟩ := r
  unfold R.v
  simp only
  go_enter Try.func57, Try.ntmps57
  go_wp2_with fail
  go_ret
  exact ⟨rfl, ((Below.refl _ _).alloc (Nat.le_refl _) _).alloc (by simp [go_sem]) _⟩
/-- Block g holds the row. -/
def RowAt (w : World) (g : Nat) (r : R) : Prop := w.heap[g]? = some (.cells (rowCells r) 81 (0, 0))
theorem RowAt.lt {w : World} {g : Nat} {r : R} (h : RowAt w g r) : g < w.heap.size := by
  rcases Nat.lt_or_ge g w.heap.size with h1 | h1
  · exact h1
  · unfold RowAt at h; rw [Array.getElem?_eq_none h1] at h; cases h
theorem RowAt.below {w w' : World} {g : Nat} {r : R} (h : RowAt w g r) (hb : Below w.heap.size w w') : RowAt w' g r := (hb.block g h.lt).trans h
theorem RowAt.get {w : World} {g : Nat} {r : R} (h : RowAt w g r) :
    w.cell? ⟨g, 0, none⟩ = some (.string r.key) ∧ w.cell? ⟨g, 1, none⟩ = some (.int .i64 r.kind) ∧ w.cell? ⟨g, 2, none⟩ = some (.int .i64 r.sum) ∧ w.cell? ⟨g, 3, none⟩ = some (.bool r.set) ∧ w.cell? ⟨g, 4, none⟩ = some (.int .i64 r.last) ∧
    w.cell? ⟨g, 5, none⟩ = some (.int .i64 r.n) ∧ w.cell? ⟨g, 6, none⟩ = some (.int .i64 r.mn) ∧ w.cell? ⟨g, 7, none⟩ = some (.int .i64 r.mx) ∧ w.cell? ⟨g, 8, none⟩ = some (.int .i64 r.total) ∧ w.cell? ⟨g, 9, none⟩ = some (.int .i64 r.dropped) ∧ (∀ k, w.frozen? ⟨g, k, none⟩ = false) := by
  unfold RowAt at h
  refine ⟨?_, ?_, ?_, ?_, ?_, ?_, ?_, ?_, ?_, ?_, fun k => by simp [World.frozen?, h]⟩ <;> (rw [cell_of_row w g _ _ _ _ h]; rfl)
theorem rowAt_new (w : World) (g : Nat) (r : R) (hg : g = w.heap.size) : RowAt (w.alloc (.cells (rowCells r) 81)) g r := by subst hg; exact heap_alloc_new w _
theorem RowAt.alloc {w : World} {g : Nat} {r : R} (h : RowAt w g r) (o : Obj) : RowAt (w.alloc o) g r := h.below ((Below.refl _ _).alloc (Nat.le_refl _) o)
/-- Ten stores into one block of the call's own. -/
theorem below_row {B : Nat} {w w2 : World} {g : Nat} (h : Below B w w2) (hg : B ≤ g) (v0 v1 v2 v3 v4 v5 v6 v7 v8 v9 : Value) :
    Below B w ((((((((((w2.setCell ⟨g, 0, none⟩ v0).setCell ⟨g, 1, none⟩ v1).setCell ⟨g, 2, none⟩ v2).setCell ⟨g, 3, none⟩ v3).setCell ⟨g, 4, none⟩ v4).setCell ⟨g, 5, none⟩ v5).setCell ⟨g, 6, none⟩ v6).setCell ⟨g, 7, none⟩ v7).setCell ⟨g, 8, none⟩ v8).setCell ⟨g, 9, none⟩ v9) :=
  (((((((((h.setCell hg _).setCell hg _).setCell hg _).setCell hg _).setCell hg _).setCell hg _).setCell hg _).setCell hg _).setCell hg _).setCell hg _
end Go.Proofs.Ytjiaogbkmpjciaa
