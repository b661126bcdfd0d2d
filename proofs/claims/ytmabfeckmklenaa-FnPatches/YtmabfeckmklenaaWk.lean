/- Walks: the text of a table, the program's side. -/
import Derived.Test.YtmabfeckmklenaaWj
namespace Go.Proofs.Ytmabfeckmklenaa
open Go.RowKit
set_option linter.unusedVariables false

end Go.Proofs.Ytmabfeckmklenaa
