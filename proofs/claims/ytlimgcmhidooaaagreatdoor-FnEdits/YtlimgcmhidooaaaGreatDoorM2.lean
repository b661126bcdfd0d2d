/- Walks of small callees: the measure of a table, a piece copied and compared. -/
import Derived.Test.YtlimgcmhidooaaaGreatDoorProg
import Derived.Test.YtlimgcmhidooaaaGreatDoorM1
import Derived.WalkKit
import Derived.WalkSpells
import Derived.WalkLawsBesides
set_option linter.unusedVariables false
set_option linter.unusedSimpArgs false
namespace Go.Proofs.YtlimgcmhidooaaaGreatDoor
open Go.RowKit
theorem Tryz.info5 : (Tryz.prog.info? 5).map (fun i => (i.zero, i.size, i.bytes)) = some (some (.int .u8 0), 1, 1) := by kernel_rfl

end Go.Proofs.YtlimgcmhidooaaaGreatDoor
