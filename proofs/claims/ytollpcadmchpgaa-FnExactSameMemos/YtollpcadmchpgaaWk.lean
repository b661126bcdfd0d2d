/- Walks: the text of a table, the program's side. -/
import Derived.Test.YtollpcadmchpgaaWj
namespace Go.Proofs.Ytollpcadmchpgaa
open Go.RowKit
set_option linter.unusedVariables false

end Go.Proofs.Ytollpcadmchpgaa
