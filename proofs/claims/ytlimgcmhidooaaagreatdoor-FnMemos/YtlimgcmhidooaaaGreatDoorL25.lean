/- One byte fed by the program, from whatever is held on. -/
import Derived.Test.YtlimgcmhidooaaaGreatDoorL24
import Derived.BigGuard
set_option linter.unusedVariables false
set_option linter.unusedSimpArgs false
namespace Go.Proofs.YtlimgcmhidooaaaGreatDoor
open Go.RowKit

end Go.Proofs.YtlimgcmhidooaaaGreatDoor
