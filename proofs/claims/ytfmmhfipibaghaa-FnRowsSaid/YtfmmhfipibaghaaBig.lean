/-
  The test of a code's length.
-/
import Derived.Test.YtfmmhfipibaghaaGive
import Derived.WalkKit
import Derived.Lib.Hide
namespace Go.Proofs.Ytfmmhfipibaghaa
open Go.RowKit
set_option linter.unusedVariables false
theorem nBig (A : Option Addr) (len cap : Nat) (W : World) : Calls Try.prog 10 #[.slice A len cap] W (Gives (.bool (decide ((1048576 : Int) < (len : Int)))) W) := by
  go_enter Try.func10, Try.ntmps10
  go_wp2
  go_ret
  exact ⟨rfl, Below.refl _ _⟩
end Go.Proofs.Ytfmmhfipibaghaa
