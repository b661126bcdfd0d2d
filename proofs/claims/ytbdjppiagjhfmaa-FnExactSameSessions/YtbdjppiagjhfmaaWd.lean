/- Walks of the specification's side: the fault of a table, the sum of its sizes. -/
import Derived.Test.YtbdjppiagjhfmaaWc
import Derived.Test.YtbdjppiagjhfmaaMath
namespace Go.Proofs.Ytbdjppiagjhfmaa
open Go.RowKit
set_option linter.unusedVariables false

end Go.Proofs.Ytbdjppiagjhfmaa
