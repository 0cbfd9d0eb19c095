/-
  The test of a code's length.
-/
import Derived.Test.YtcgjbfalandffaaDoorGive
import Derived.WalkKit
import Derived.Lib.Hide
namespace Go.Proofs.YtcgjbfalandffaaDoor
open Go.RowKit
set_option linter.unusedVariables false
theorem nBig (A : Option Addr) (len cap : Nat) (W : World) : Calls Tryd.prog 5 #[.slice A len cap] W (Gives (.bool (decide ((1048576 : Int) < (len : Int)))) W) := by
  go_enter Tryd.func5, Tryd.ntmps5
  go_wp2
  go_ret
  exact ⟨rfl, Below.refl _ _⟩
end Go.Proofs.YtcgjbfalandffaaDoor
