/-
  Is x an index below n? The program's test, as a contract: it returns the outcome and leaves the world alone.
-/
import Derived.Test.YtcgjbfalandffaaDoorGive
import Derived.Test.YtcgjbfalandffaaDoorMath
namespace Go.Proofs.YtcgjbfalandffaaDoor
open Go.RowKit M
set_option linter.unusedVariables false
end Go.Proofs.YtcgjbfalandffaaDoor
