/- An attribute of a token: the program. -/
import Derived.Test.YtphilngnkigcfaaTj
namespace Go.Proofs.Ytphilngnkigcfaa
open Go.RowKit
set_option linter.unusedVariables false
set_option linter.unusedSimpArgs false

end Go.Proofs.Ytphilngnkigcfaa
