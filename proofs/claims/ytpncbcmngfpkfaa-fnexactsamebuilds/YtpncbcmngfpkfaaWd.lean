/- Walks of the specification's side: the fault of a table, the sum of its sizes. -/
import Derived.Test.YtpncbcmngfpkfaaWc
import Derived.Test.YtpncbcmngfpkfaaMath
namespace Go.Proofs.Ytpncbcmngfpkfaa
open Go.RowKit
set_option linter.unusedVariables false

end Go.Proofs.Ytpncbcmngfpkfaa
