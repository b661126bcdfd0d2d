/- Walks: the text of a table, the program's side. -/
import Derived.Test.YtphilngnkigcfaaWj
namespace Go.Proofs.Ytphilngnkigcfaa
open Go.RowKit
set_option linter.unusedVariables false

end Go.Proofs.Ytphilngnkigcfaa
