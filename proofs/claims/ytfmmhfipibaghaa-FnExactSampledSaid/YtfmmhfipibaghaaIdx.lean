/-
  Is x an index below n? The program's test, as a contract: it returns the outcome and leaves the world alone.
-/
import Derived.Test.YtfmmhfipibaghaaGive
import Derived.Test.YtfmmhfipibaghaaMath
namespace Go.Proofs.Ytfmmhfipibaghaa
open Go.RowKit M
set_option linter.unusedVariables false
end Go.Proofs.Ytfmmhfipibaghaa
