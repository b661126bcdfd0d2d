/- Walks of the specification's side: the fault of a table, the sum of its sizes. -/
import Derived.Test.YtphilngnkigcfabWc
import Derived.Test.YtphilngnkigcfabMath
namespace Go.Proofs.Ytphilngnkigcfab
open Go.RowKit
set_option linter.unusedVariables false

end Go.Proofs.Ytphilngnkigcfab
