/- Walks of the specification's side: the fault of a table, the sum of its sizes. -/
import Derived.Test.YtphilngnkigcfaaWc
import Derived.Test.YtphilngnkigcfaaMath
namespace Go.Proofs.Ytphilngnkigcfaa
open Go.RowKit
set_option linter.unusedVariables false

end Go.Proofs.Ytphilngnkigcfaa
