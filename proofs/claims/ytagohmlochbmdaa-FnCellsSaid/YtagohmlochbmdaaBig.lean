/-
  A function that answers a value and turns nothing that was there; the test of a code's length.
-/
import Derived.Test.YtagohmlochbmdaaChecked
import Derived.WalkKit
import Derived.Lib.Hide
namespace Go.Proofs.Ytagohmlochbmdaa
open Go.RowKit
set_option linter.unusedVariables false
/-- A function answers v, and turns nothing that was there. -/
def Gives (v : Value) (w : World) (e : Ending) (w' : World) : Prop := e = .returned v ∧ Below w.heap.size w w'
theorem gives_same {v : Value} {w w' : World} {e : Ending} (h : e = .returned v ∧ w = w') : Gives v w e w' := ⟨h.1, by rw [h.2]; exact Below.refl _ _⟩
theorem nBig (A : Option Addr) (len cap : Nat) (W : World) : Calls Try.prog 11 #[.slice A len cap] W (Gives (.bool (decide ((1048576 : Int) < (len : Int)))) W) := by
  go_enter Try.func11, Try.ntmps11
  go_wp2
  go_ret
  exact ⟨rfl, Below.refl _ _⟩
end Go.Proofs.Ytagohmlochbmdaa
