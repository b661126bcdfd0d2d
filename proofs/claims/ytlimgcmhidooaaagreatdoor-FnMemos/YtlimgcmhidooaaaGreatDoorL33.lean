/- Where an edit meets: the loop, over contracts. -/
import Derived.Test.YtlimgcmhidooaaaGreatDoorL32
import Derived.Deep.LoopGhost
import Derived.Test.YtlimgcmhidooaaaGreatDoorL31
set_option linter.unusedVariables false
set_option linter.unusedSimpArgs false
namespace Go.Proofs.YtlimgcmhidooaaaGreatDoor
open Go.RowKit

end Go.Proofs.YtlimgcmhidooaaaGreatDoor

namespace Go.Proofs.YtlimgcmhidooaaaGreatDoor
open Go.RowKit

end Go.Proofs.YtlimgcmhidooaaaGreatDoor

namespace Go.Proofs.YtlimgcmhidooaaaGreatDoor
open Go.RowKit

end Go.Proofs.YtlimgcmhidooaaaGreatDoor
