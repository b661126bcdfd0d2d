/- Walks of the specification's side: the fault of a table, the sum of its sizes. -/
import Derived.Test.YtollpcadmchpgaaWc
import Derived.Test.YtollpcadmchpgaaMath
namespace Go.Proofs.Ytollpcadmchpgaa
open Go.RowKit
set_option linter.unusedVariables false

end Go.Proofs.Ytollpcadmchpgaa
