/-
  Chapter 7, the program's functions on one row, first part: what is quiet, which fields a kind has, when a timer's numbers are right. They turn nothing that was there.
-/
import Derived.Test.YtfhkfhpbalbgkabRowO
import Derived.Test.YtfhkfhpbalbgkabZb
import Derived.Test.YtfhkfhpbalbgkabZa
namespace Go.Proofs.Ytfhkfhpbalbgkab
open Go.RowKit M
set_option linter.unusedVariables false
set_option linter.unusedSimpArgs false
end Go.Proofs.Ytfhkfhpbalbgkab
