/-
  Chapter 5, the model's functions: each answers what the plain words say. They turn nothing that was there.
-/
import Derived.Test.YtfmmhfipibaghaaKdV
import Derived.Test.YtfmmhfipibaghaaKeyT
import Derived.Test.YtfmmhfipibaghaaTxt
namespace Go.Proofs.Ytfmmhfipibaghaa
open Go.RowKit M
set_option linter.unusedVariables false
end Go.Proofs.Ytfmmhfipibaghaa
