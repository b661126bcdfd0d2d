/- Walks of the specification's side: the fault of a table, the sum of its sizes. -/
import Derived.Test.YtjkmidmgaaclfaaWc
import Derived.Test.YtjkmidmgaaclfaaMath
namespace Go.Proofs.Ytjkmidmgaaclfaa
open Go.RowKit
set_option linter.unusedVariables false

end Go.Proofs.Ytjkmidmgaaclfaa
