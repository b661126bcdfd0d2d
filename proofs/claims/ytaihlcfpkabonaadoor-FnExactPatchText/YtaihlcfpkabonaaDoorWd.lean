/- Walks of the specification's side: the fault of a table, the sum of its sizes. -/
import Derived.Test.YtaihlcfpkabonaaDoorWc
import Derived.Test.YtaihlcfpkabonaaDoorMath
namespace Go.Proofs.YtaihlcfpkabonaaDoor
open Go.RowKit
set_option linter.unusedVariables false

end Go.Proofs.YtaihlcfpkabonaaDoor
