/- Walks: a new table, both sides. -/
import Derived.Test.YtollpcadmchpgaaWg
import Derived.Test.YtollpcadmchpgaaApp
namespace Go.Proofs.Ytollpcadmchpgaa
open Go.RowKit
set_option linter.unusedVariables false

/-- The pieces of a new table. -/
def newPcs (l : List Int) : List PC := if l.length = 0 then [] else [⟨false, 0, l.length⟩]
/-- A new table. -/
def newT (l : List Int) : TB := ⟨l, [], newPcs l⟩

end Go.Proofs.Ytollpcadmchpgaa
