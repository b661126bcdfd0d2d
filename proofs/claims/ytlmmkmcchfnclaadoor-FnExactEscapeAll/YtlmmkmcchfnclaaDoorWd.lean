/- Walks of the specification's side: the fault of a table, the sum of its sizes. -/
import Derived.Test.YtlmmkmcchfnclaaDoorWc
import Derived.Test.YtlmmkmcchfnclaaDoorMath
namespace Go.Proofs.YtlmmkmcchfnclaaDoor
open Go.RowKit
set_option linter.unusedVariables false

end Go.Proofs.YtlmmkmcchfnclaaDoor
