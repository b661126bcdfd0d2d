/- The model's side: a token's form, and its code. -/
import Derived.Test.YthcajggbcanmdaaGreatDoorW4
import Derived.BigGuard
set_option linter.unusedVariables false
set_option linter.unusedSimpArgs false
namespace Go.Proofs.YthcajggbcanmdaaGreatDoor
open Go.RowKit

end Go.Proofs.YthcajggbcanmdaaGreatDoor
