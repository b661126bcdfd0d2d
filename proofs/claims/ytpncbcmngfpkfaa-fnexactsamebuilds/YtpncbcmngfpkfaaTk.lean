/- An attribute of a token: the program. -/
import Derived.Test.YtpncbcmngfpkfaaTj
namespace Go.Proofs.Ytpncbcmngfpkfaa
open Go.RowKit
set_option linter.unusedVariables false
set_option linter.unusedSimpArgs false

end Go.Proofs.Ytpncbcmngfpkfaa
