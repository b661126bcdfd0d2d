/- Walks of the specification's side: the fault of a table, the sum of its sizes. -/
import Derived.Test.YthlbedndifeggaaWc
import Derived.Test.YthlbedndifeggaaMath
namespace Go.Proofs.Ythlbedndifeggaa
open Go.RowKit
set_option linter.unusedVariables false

end Go.Proofs.Ythlbedndifeggaa
