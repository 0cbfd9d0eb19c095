/-
  Chapter 10's law on two worlds: what it keeps.
-/
import Derived.Test.YtcfdnfckilpppaaZc
import Derived.Test.YtcfdnfckilpppaaZd
namespace Go.Proofs.Ytcfdnfckilpppaa
open Go.RowKit M
set_option linter.unusedVariables false
structure Law2 (w0 : World) (g0 g1 : Nat) (z0 z1 : S) (vc0 vj0 vt0 vl0 vc1 vj1 vt1 vl1 : Value) (w : World) : Prop where
  g0 : Blk w g0 27 (worVals z0 vc0 vj0 vt0 vl0)
  g1 : Blk w g1 27 (worVals z1 vc1 vj1 vt1 vl1)
  a0 : WorIn w z0 vc0 vj0 vt0 vl0
  a1 : WorIn w z1 vc1 vj1 vt1 vl1
  b : Below w0.heap.size w0 w
theorem Law2.next {w0 w w' : World} {g0 g1 : Nat} {z0 z1 : S} {vc0 vj0 vt0 vl0 vc1 vj1 vt1 vl1 : Value} (h : Law2 w0 g0 g1 z0 z1 vc0 vj0 vt0 vl0 vc1 vj1 vt1 vl1 w) (hb : Below w.heap.size w w') : Law2 w0 g0 g1 z0 z1 vc0 vj0 vt0 vl0 vc1 vj1 vt1 vl1 w' :=
  ⟨h.g0.below hb, h.g1.below hb, h.a0.below hb, h.a1.below hb, h.b.trans (hb.mono h.b.size)⟩
/-- A copy that was worked on: its box, what it reads as. -/
structure LawX (gx : Nat) (z : S) (xc xj xt xl : Value) (w : World) : Prop where
  y : Blk w gx 34 (worVals z xc xj xt xl)
  x : WorIn w z xc xj xt xl
theorem LawX.next {w w' : World} {gx : Nat} {z : S} {xc xj xt xl : Value} (h : LawX gx z xc xj xt xl w) (hb : Below w.heap.size w w') : LawX gx z xc xj xt xl w' := ⟨h.y.below hb, h.x.below hb⟩
theorem wor_one (w : World) (z : S) (xc xj xt xl : Value) (h : WorIn w z xc xj xt xl) : Array.all (worVals z xc xj xt xl) (·.oneCell') = true := by
  obtain ⟨⟨A1, c1, rfl, _⟩, ⟨A2, c2, rfl, _⟩, ⟨A3, c3, rfl, _⟩, ⟨A4, c4, rfl, _⟩⟩ := h
  simp [worVals, Value.oneCell']
end Go.Proofs.Ytcfdnfckilpppaa
