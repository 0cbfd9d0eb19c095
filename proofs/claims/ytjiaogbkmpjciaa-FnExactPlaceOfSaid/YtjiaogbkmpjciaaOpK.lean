/-
  The exact laws' marks on rows of Op, and the look whether they are held.
-/
import Derived.Test.YtjiaogbkmpjciaaZa
namespace Go.Proofs.Ytjiaogbkmpjciaa
open Go.RowKit M
set_option linter.unusedVariables false
set_option linter.unusedSimpArgs false
/-- A record marked from k on. -/
def markOp (k : Int) : O := ⟨k, markV (k + 1), k + 2, k + 3⟩
def marksOp (k : Int) (n : Nat) : List O := (List.range n).map fun j : Nat => markOp (k + 4 * (j : Int))
theorem marksOp_length (k : Int) (n : Nat) : (marksOp k n).length = n := by simp [marksOp]
theorem marksOp_getD (k : Int) (n j : Nat) (h : j < n) : (marksOp k n).getD j zeroO = markOp (k + 4 * j) := by simp [marksOp, List.getD_eq_getElem?_getD, h]
def OwnOpF (w : World) (base : Nat) (v : Value) (l : List O) : Prop := w.ownsRow base 44 4 v l.length (cellsF opCells l)
def MarkedOp (w : World) (base : Nat) (v : Value) (k : Int) (n : Nat) (e : Ending) (w' : World) : Prop := e = .returned (.int .i64 (k + 4 * n)) ∧ OwnOpF w' base v (marksOp k n) ∧ w.grownBy w' v.ownBlock
end Go.Proofs.Ytjiaogbkmpjciaa
