/-
  Chapter 5, the model's functions: each answers what the plain words say. They turn nothing that was there.
-/
import Derived.Test.YthfbacaamhkjpaaKdV
import Derived.Test.YthfbacaamhkjpaaKeyT
import Derived.Test.YthfbacaamhkjpaaTxt
namespace Go.Proofs.Ythfbacaamhkjpaa
open Go.RowKit M
set_option linter.unusedVariables false
end Go.Proofs.Ythfbacaamhkjpaa
