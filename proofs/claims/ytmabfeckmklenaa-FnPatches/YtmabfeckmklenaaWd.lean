/- Walks of the specification's side: the fault of a table, the sum of its sizes. -/
import Derived.Test.YtmabfeckmklenaaWc
import Derived.Test.YtmabfeckmklenaaMath
namespace Go.Proofs.Ytmabfeckmklenaa
open Go.RowKit
set_option linter.unusedVariables false

end Go.Proofs.Ytmabfeckmklenaa
