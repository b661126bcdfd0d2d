/- An attribute of a token: the program. -/
import Derived.Test.YtphilngnkigcfabTj
namespace Go.Proofs.Ytphilngnkigcfab
open Go.RowKit
set_option linter.unusedVariables false
set_option linter.unusedSimpArgs false

end Go.Proofs.Ytphilngnkigcfab
