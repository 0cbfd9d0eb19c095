/-
  Chapter 4, the model's UnpackKey: it answers what the plain words say and turns nothing that was there.
-/
import Derived.Test.YthfbacaamhkjpaaKeyS
import Derived.Test.YthfbacaamhkjpaaOwn
namespace Go.Proofs.Ythfbacaamhkjpaa
open Go.RowKit M
set_option linter.unusedVariables false
theorem OwnB.shape {w : World} {base : Nat} {v : Value} {l : List UInt8} (h : OwnB w base v l) (hl : l ≠ []) : ∃ g cap, v = .slice (some ⟨g, 0, none⟩) l.length cap := by
  rcases h.2 with ⟨_, h0⟩ | ⟨g, cap, cur, rfl, _⟩
  · exact absurd (List.eq_nil_of_length_eq_zero h0) hl
  · exact ⟨g, cap, rfl⟩
/-- A row of one byte that was just built. -/
theorem OwnB.one (w : World) (base : Nat) (hb : base ≤ w.heap.size) (c : UInt8) : OwnB (w.alloc (.cells #[b2v c] 5)) base (.slice (some ⟨w.heap.size, 0, none⟩) 1 1) [c] :=
  World.ownsRow_lit w #[b2v c] 1 hb (by unfold maxLen; omega) rfl
end Go.Proofs.Ythfbacaamhkjpaa
