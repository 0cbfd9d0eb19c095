/-
  Chapter 4, the model's functions: each answers what the plain words say.
-/
import Derived.Test.YthfbacaamhkjpaaKeyV
import Derived.Test.YthfbacaamhkjpaaIn
import Derived.Test.YthfbacaamhkjpaaGive
namespace Go.Proofs.Ythfbacaamhkjpaa
open Go.RowKit M
set_option linter.unusedVariables false
end Go.Proofs.Ythfbacaamhkjpaa
