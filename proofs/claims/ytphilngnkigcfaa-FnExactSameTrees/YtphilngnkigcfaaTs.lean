/- The model's SameTokens: the loop. -/
import Derived.Test.YtphilngnkigcfaaTr
namespace Go.Proofs.Ytphilngnkigcfaa
open Go.RowKit
set_option linter.unusedVariables false
set_option linter.unusedSimpArgs false

end Go.Proofs.Ytphilngnkigcfaa
