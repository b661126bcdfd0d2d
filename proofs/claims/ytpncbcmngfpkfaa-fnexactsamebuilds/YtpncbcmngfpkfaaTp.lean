/- Walks: lists of tokens that are the same are told so; the model's SameTokens. -/
import Derived.Test.YtpncbcmngfpkfaaTo
import Derived.BigGuard
import Derived.Laws.BytesString
import Derived.Laws.IdiomStrings
namespace Go.Proofs.Ytpncbcmngfpkfaa
open Go.RowKit
set_option linter.unusedVariables false
set_option linter.unusedSimpArgs false

end Go.Proofs.Ytpncbcmngfpkfaa
