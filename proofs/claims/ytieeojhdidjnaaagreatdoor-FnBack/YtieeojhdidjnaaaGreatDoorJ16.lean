/- An attribute of a token: the program. -/
import Derived.Test.YtieeojhdidjnaaaGreatDoorJ14
set_option linter.unusedVariables false
set_option linter.unusedSimpArgs false
namespace Go.Proofs.YtieeojhdidjnaaaGreatDoor
open Go.RowKit

end Go.Proofs.YtieeojhdidjnaaaGreatDoor
