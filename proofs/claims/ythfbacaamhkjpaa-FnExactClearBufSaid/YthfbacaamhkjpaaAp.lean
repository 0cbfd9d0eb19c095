/-
  Rows that lie in blocks of their own: apart from one another; what a mark on one leaves of another.
-/
import Derived.Test.YthfbacaamhkjpaaIntA
import Derived.Test.YthfbacaamhkjpaaTxt
import Derived.Test.YthfbacaamhkjpaaRws
import Derived.Test.YthfbacaamhkjpaaHeap
namespace Go.Proofs.Ythfbacaamhkjpaa
open Go.RowKit M
set_option linter.unusedVariables false
theorem OwnI.lt {w : World} {b : Nat} {v : Value} {l : List Int} (h : OwnI w b v l) : ∀ k, v.ownBlock = some k → k < w.heap.size := fun k hk => (World.ownsRow.lt h.1 k hk).2
theorem OwnT.lt {w : World} {b : Nat} {v : Value} {l : List ByteArray} (h : OwnT w b v l) : ∀ k, v.ownBlock = some k → k < w.heap.size := fun k hk => (World.ownsRow.lt h k hk).2
theorem OwnI.keptA {w w' : World} {base : Nat} {v u : Value} {zs : List Int} (h : OwnI w base v zs) (hg : w.grownBy w' u.ownBlock) (ha : Ap v u) : OwnI w' base v zs := by
  obtain ⟨g, hgv, _⟩ := h.block
  rcases ha with h' | h'
  · rw [hgv] at h'; cases h'
  · exact h.kept hg h'
theorem OwnT.keptA {w w' : World} {base : Nat} {v u : Value} {l : List ByteArray} (h : OwnT w base v l) (hg : w.grownBy w' u.ownBlock) (ha : Ap v u) : OwnT w' base v l := h.kept hg ha
end Go.Proofs.Ythfbacaamhkjpaa
