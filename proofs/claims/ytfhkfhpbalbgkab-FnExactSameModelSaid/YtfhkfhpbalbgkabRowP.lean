/-
  Chapter 7, the program's functions on one row, first part: what is quiet, which fields a kind has, when a timer's numbers are right. They turn nothing that was there.
-/
import Derived.Test.YtfhkfhpbalbgkabRowO
import Derived.Test.YtfhkfhpbalbgkabZb
import Derived.Test.YtfhkfhpbalbgkabZa
import Derived.BigRegion
namespace Go.Proofs.Ytfhkfhpbalbgkab
open Go.RowKit M
set_option linter.unusedVariables false
set_option linter.unusedSimpArgs false
theorem ret_w {v u : Value} (h : u = v) : Ending.returned v = .returned u := by rw [h]
/-- The row with the fields of its kind alone. -/
def ownV (r : R) : R :=
  if r.kind = 1 then ⟨r.key, r.kind, r.sum, false, 0, 0, 0, 0, 0, 0⟩ else if r.kind = 2 then ⟨r.key, r.kind, 0, r.set, r.last, 0, 0, 0, 0, 0⟩
  else if r.kind = 3 then ⟨r.key, r.kind, 0, false, 0, r.n, r.mn, r.mx, r.total, r.dropped⟩ else ⟨r.key, r.kind, 0, false, 0, 0, 0, 0, 0, 0⟩
theorem own_1 {r : R} (h : r.kind = 1) : ownV r = ⟨r.key, r.kind, r.sum, false, 0, 0, 0, 0, 0, 0⟩ := if_pos h
theorem own_2 {r : R} (h : r.kind = 2) : ownV r = ⟨r.key, r.kind, 0, r.set, r.last, 0, 0, 0, 0, 0⟩ := by unfold ownV; rw [if_neg (by omega), if_pos h]
theorem own_3 {r : R} (h : r.kind = 3) : ownV r = ⟨r.key, r.kind, 0, false, 0, r.n, r.mn, r.mx, r.total, r.dropped⟩ := by unfold ownV; rw [if_neg (by omega), if_neg (by omega), if_pos h]
theorem own_0 {r : R} (h1 : r.kind ≠ 1) (h2 : r.kind ≠ 2) (h3 : r.kind ≠ 3) : ownV r = ⟨r.key, r.kind, 0, false, 0, 0, 0, 0, 0, 0⟩ := by unfold ownV; rw [if_neg h1, if_neg h2, if_neg h3]
theorem below_set {B : Nat} {w0 w : World} (h : Below B w0 w) (g i : Nat) (hg : B ≤ g) (v : Value) : Below B w0 (w.setCell ⟨g, i, none⟩ v) := h.setCell hg v
theorem wp_two {C : Go.Code} {Q : Exit → Act → World → Prop} {a : Act} {w0 W : World} {B g o : Nat} (x z : R) (hx : RowAt W g x) (hz : RowAt W o z) (hb : Below B w0 W)
    (k : ∀ u : World, RowAt u g x → RowAt u o z → Below B w0 u → Code.wp Try.prog C Q a u) : Code.wp Try.prog C Q a W := k W hx hz hb
theorem wp_two_drew {C : Go.Code} {Q : Exit → Act → World → Prop} {a : Act} {w0 W : World} {B g o : Nat} (x z : R) (hx : RowAt W g x) (hz : RowAt W o z) (hb : Below B w0 W)
    (k : ∀ u : World, RowAt u g x → RowAt u o z → Below B w0 u → Code.wp Try.prog C Q a u) : Code.wp Try.prog C Q a W.drew := k W.drew (hx.below (below_drew _ _)) (hz.below (below_drew _ _)) (hb.trans (below_drew _ _))
/-- Three rows laid into new blocks, one after another. -/
theorem wp_three {C : Go.Code} {Q : Exit → Act → World → Prop} {a : Act} {w : World} (r z x : R)
    (k : ∀ u : World, RowAt u w.heap.size r → RowAt u (w.heap.size + 1) z → RowAt u (w.heap.size + 1 + 1) x → w.heap.size + 1 + 1 < u.heap.size → Below w.heap.size w u → Code.wp Try.prog C Q a u) :
    Code.wp Try.prog C Q a (((w.alloc (.cells (rowCells r) 36)).alloc (.cells (rowCells z) 36)).alloc (.cells (rowCells x) 36)) :=
  k _ (((rowAt_new w _ r rfl).alloc _).alloc _) ((rowAt_new (w.alloc _) _ z (by simp [go_sem])).alloc _) (rowAt_new ((w.alloc _).alloc _) _ x (by simp [go_sem])) (by simp [go_sem]) ((((Below.refl _ _).alloc (Nat.le_refl _) _).alloc (by simp [go_sem]) _).alloc (by simp [go_sem]; omega) _)
end Go.Proofs.Ytfhkfhpbalbgkab
