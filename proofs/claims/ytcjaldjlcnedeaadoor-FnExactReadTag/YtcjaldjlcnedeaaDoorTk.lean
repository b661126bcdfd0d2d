/- An attribute of a token: the program. -/
import Derived.Test.YtcjaldjlcnedeaaDoorTj
namespace Go.Proofs.YtcjaldjlcnedeaaDoor
open Go.RowKit
set_option linter.unusedVariables false
set_option linter.unusedSimpArgs false

end Go.Proofs.YtcjaldjlcnedeaaDoor
