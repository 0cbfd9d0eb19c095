/-
  A function that answers a value and leaves the world alone; one that answers a value and turns nothing that was there.
-/
import Derived.Test.YthfbacaamhkjpaaChecked
import Derived.WalkKit
import Derived.Lib.Hide
namespace Go.Proofs.Ythfbacaamhkjpaa
open Go.RowKit
set_option linter.unusedVariables false
/-- A function answers v, and turns nothing that was there. -/
def Gives (v : Value) (w : World) (e : Ending) (w' : World) : Prop := e = .returned v ∧ Below w.heap.size w w'
theorem gives_same {v : Value} {w w' : World} {e : Ending} (h : e = .returned v ∧ w = w') : Gives v w e w' := ⟨h.1, by rw [h.2]; exact Below.refl _ _⟩
/-- A function answers v, and the world is as before. -/
def Same (w : World) (v : Value) (e : Ending) (w' : World) : Prop := e = .returned v ∧ w = w'
theorem ret_i {a b : Int} (h : a = b) : Ending.returned (.int .i64 a) = .returned (.int .i64 b) := by rw [h]
theorem ret_ii {a b c d : Int} (h : a = c) (k : b = d) : Ending.returned (.tuple #[.int .i64 a, .int .i64 b]) = .returned (.tuple #[.int .i64 c, .int .i64 d]) := by rw [h, k]
theorem below_drew (B : Nat) (w : World) : Below B w w.drew := ⟨rfl, rfl, rfl, Nat.le_refl _, fun _ _ => rfl⟩
end Go.Proofs.Ythfbacaamhkjpaa
