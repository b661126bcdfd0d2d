/- The model's SameTokens, whole. -/
import Derived.Test.YtpncbcmngfpkfaaTq
namespace Go.Proofs.Ytpncbcmngfpkfaa
open Go.RowKit
set_option linter.unusedVariables false
set_option linter.unusedSimpArgs false

end Go.Proofs.Ytpncbcmngfpkfaa
