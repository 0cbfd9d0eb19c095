/-
  Is x an index below n? The program's test, as a contract: it returns the outcome and leaves the world alone.
-/
import Derived.Test.YtcgjbfalandffaaGive
import Derived.Test.YtcgjbfalandffaaMath
namespace Go.Proofs.Ytcgjbfalandffaa
open Go.RowKit M
set_option linter.unusedVariables false
end Go.Proofs.Ytcgjbfalandffaa
