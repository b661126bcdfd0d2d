/- Walks of small callees: the measure of a table, a piece copied and compared. -/
import Derived.Test.YteakocifjmkmjaaGreatDoorProg
import Derived.Test.YteakocifjmkmjaaGreatDoorLem
import Derived.WalkKit
import Derived.WalkSpells
import Derived.WalkLawsBesides
namespace Go.Proofs.YteakocifjmkmjaaGreatDoor
open Go.RowKit
set_option linter.unusedVariables false

theorem Tryz.info5 : (Tryz.prog.info? 5).map (fun i => (i.zero, i.size, i.bytes)) = some (some (.int .u8 0), 1, 1) := by kernel_rfl

end Go.Proofs.YteakocifjmkmjaaGreatDoor
