/- The model's SameTokens: the loop. -/
import Derived.Test.YtpncbcmngfpkfaaTr
namespace Go.Proofs.Ytpncbcmngfpkfaa
open Go.RowKit
set_option linter.unusedVariables false
set_option linter.unusedSimpArgs false

end Go.Proofs.Ytpncbcmngfpkfaa
