/- Walks: the text of a table, the program's side. -/
import Derived.Test.YtpncbcmngfpkfaaWj
namespace Go.Proofs.Ytpncbcmngfpkfaa
open Go.RowKit
set_option linter.unusedVariables false

end Go.Proofs.Ytpncbcmngfpkfaa
