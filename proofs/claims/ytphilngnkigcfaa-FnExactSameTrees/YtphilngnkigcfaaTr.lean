/- The model's SameTokens, whole. -/
import Derived.Test.YtphilngnkigcfaaTq
namespace Go.Proofs.Ytphilngnkigcfaa
open Go.RowKit
set_option linter.unusedVariables false
set_option linter.unusedSimpArgs false

end Go.Proofs.Ytphilngnkigcfaa
