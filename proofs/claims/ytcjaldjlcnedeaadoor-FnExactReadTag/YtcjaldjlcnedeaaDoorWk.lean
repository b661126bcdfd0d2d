/- Walks: the text of a table, the program's side. -/
import Derived.Test.YtcjaldjlcnedeaaDoorWj
namespace Go.Proofs.YtcjaldjlcnedeaaDoor
open Go.RowKit
set_option linter.unusedVariables false

end Go.Proofs.YtcjaldjlcnedeaaDoor
