/-
  Texts of this seat, laid together.
-/
import Derived.Test.YtnlepnfdgdbkoaaGreatDoorYZa
import Derived.Test.YtnlepnfdgdbkoaaGreatDoorYMi
import Derived.Test.YtnlepnfdgdbkoaaGreatDoorYMf
import Derived.Test.YtnlepnfdgdbkoaaGreatDoorYMd
import Derived.Test.YtnlepnfdgdbkoaaGreatDoorYZb
import Derived.BigQuiet
section
namespace Go.Proofs.YtnlepnfdgdbkoaaGreatDoor
open Go.RowKit M
set_option linter.unusedVariables false
set_option linter.unusedSimpArgs false
def InHeld (w0 : World) (o : Nat) (w : World) : Prop := Below w0.heap.size w0 w ∧ RowAt w o zeroR
theorem InHeld.bel {w0 w1 : World} {o : Nat} (h : InHeld w0 o w1) : Below w0.heap.size w0 w1 := h.1
theorem InHeld.next {w0 w1 w2 : World} {o : Nat} (h : InHeld w0 o w1) (hb : Below w1.heap.size w1 w2) : InHeld w0 o w2 := ⟨h.1.trans (hb.mono h.1.size), h.2.below hb⟩
end Go.Proofs.YtnlepnfdgdbkoaaGreatDoor
end
section
namespace Go.Proofs.YtnlepnfdgdbkoaaGreatDoor
open Go.RowKit M
set_option linter.unusedVariables false
set_option linter.unusedSimpArgs false
theorem OwnR.base {w : World} {b b' : Nat} {v : Value} {l : List R} (h : OwnR w b v l) (hb : b' ≤ b) : OwnR w b' v l := by
  rcases h.2 with ⟨h1, h2⟩ | ⟨g, cap, cur, h1, h2, h3⟩
  · exact ⟨h.1, .inl ⟨h1, h2⟩⟩
  · exact ⟨h.1, .inr ⟨g, cap, cur, h1, Nat.le_trans hb h2, h3⟩⟩
end Go.Proofs.YtnlepnfdgdbkoaaGreatDoor
end
section
namespace Go.Proofs.YtnlepnfdgdbkoaaGreatDoor
open Go.RowKit M
set_option linter.unusedVariables false
set_option linter.unusedSimpArgs false
theorem addV_yes {l : List R} {r : R} (h : r.kind ≠ 0) (k : quietV r = false) : addV l r = putV l r := if_pos ⟨h, k⟩
theorem addV_no {l : List R} {r : R} (h : ¬ (r.kind ≠ 0 ∧ quietV r = false)) : addV l r = l := if_neg h
end Go.Proofs.YtnlepnfdgdbkoaaGreatDoor
end
section
namespace Go.Proofs.YtnlepnfdgdbkoaaGreatDoor
open Go.RowKit M
set_option linter.unusedVariables false
set_option linter.unusedSimpArgs false
def OwnC (w : World) (base g cap : Nat) (zs : List Int) : Prop := OwnI w base (.slice (some ⟨g, 0, none⟩) 71 cap) zs
theorem OwnC.put {w : World} {base g cap : Nat} {zs : List Int} (h : OwnC w base g cap zs) (j : Nat) (z : Int) : OwnC (w.setCell ⟨g, j, none⟩ (.int .i64 z)) base g cap (zs.set j z) ∧ w.grownBy (w.setCell ⟨g, j, none⟩ (.int .i64 z)) (some g) := OwnI.set h j z
theorem OwnC.get {w : World} {base g cap : Nat} {zs : List Int} (h : OwnC w base g cap zs) (j : Nat) (hj : j < 71) : w.cell? ⟨g, j, none⟩ = some (.int .i64 (zs.getD j 0)) := OwnI.cell h j hj
theorem OwnC.frz {w : World} {base g cap : Nat} {zs : List Int} (h : OwnC w base g cap zs) (j : Nat) : w.frozen? ⟨g, j, none⟩ = false := OwnI.frz h j
theorem OwnI.base {w : World} {b b' : Nat} {v : Value} {l : List Int} (h : OwnI w b v l) (hb : b' ≤ b) : OwnI w b' v l := by
  refine ⟨?_, h.2⟩
  rcases h.1.2 with ⟨h1, h2⟩ | ⟨g, cap, cur, h1, h2, h3⟩
  · exact ⟨h.1.1, .inl ⟨h1, h2⟩⟩
  · exact ⟨h.1.1, .inr ⟨g, cap, cur, h1, Nat.le_trans hb h2, h3⟩⟩
end Go.Proofs.YtnlepnfdgdbkoaaGreatDoor
end
