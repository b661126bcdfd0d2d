/- Walks of the specification's side: the fault of a table, the sum of its sizes. -/
import Derived.Test.YtieldfcgdgggnajWc
import Derived.Test.YtieldfcgdgggnajMath
namespace Go.Proofs.Ytieldfcgdgggnaj
open Go.RowKit
set_option linter.unusedVariables false

end Go.Proofs.Ytieldfcgdgggnaj
