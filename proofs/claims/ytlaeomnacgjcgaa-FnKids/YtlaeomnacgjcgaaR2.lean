/- Walks of small callees: the measure of a table, a piece copied and compared. -/
import Derived.Test.YtlaeomnacgjcgaaProg
import Derived.Test.YtlaeomnacgjcgaaR1
import Derived.WalkKit
import Derived.WalkSpells
import Derived.WalkLawsBesides
set_option linter.unusedVariables false
set_option linter.unusedSimpArgs false
namespace Go.Proofs.Ytlaeomnacgjcgaa
open Go.RowKit

theorem Try.info5 : (Try.prog.info? 5).map (fun i => (i.zero, i.size, i.bytes)) = some (some (.int .u8 0), 1, 1) := by kernel_rfl

end Go.Proofs.Ytlaeomnacgjcgaa
