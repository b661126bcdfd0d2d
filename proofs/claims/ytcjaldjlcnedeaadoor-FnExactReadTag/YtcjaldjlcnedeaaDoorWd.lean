/- Walks of the specification's side: the fault of a table, the sum of its sizes. -/
import Derived.Test.YtcjaldjlcnedeaaDoorWc
import Derived.Test.YtcjaldjlcnedeaaDoorMath
namespace Go.Proofs.YtcjaldjlcnedeaaDoor
open Go.RowKit
set_option linter.unusedVariables false

end Go.Proofs.YtcjaldjlcnedeaaDoor
