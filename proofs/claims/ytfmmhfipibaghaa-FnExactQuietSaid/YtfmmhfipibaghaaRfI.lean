/-
  The program's ReadFixed: the number that the first width bytes encode, and true; or 0 and false where width is not from 1 to 7 or the string is shorter. It does not turn the world.
-/
import Derived.Test.YtfmmhfipibaghaaIn
import Derived.Test.YtfmmhfipibaghaaMath
import Derived.WalkKit
import Derived.Lib.Hide
import Derived.Test.YtfmmhfipibaghaaChecked
import Derived.BigGuardPart
namespace Go.Proofs.Ytfmmhfipibaghaa
open Go.RowKit M
end Go.Proofs.Ytfmmhfipibaghaa
