/-
  The exact laws' copy of the record Job.
-/
import Derived.Test.YtjiaogbkmpjciaaZb
import Derived.Test.YtjiaogbkmpjciaaOpC
import Derived.Test.YtjiaogbkmpjciaaZa
import Derived.Test.YtjiaogbkmpjciaaRwsC
namespace Go.Proofs.Ytjiaogbkmpjciaa
open Go.RowKit M
set_option linter.unusedVariables false
set_option linter.unusedSimpArgs false
end Go.Proofs.Ytjiaogbkmpjciaa
