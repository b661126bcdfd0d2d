/- Bytes spliced: the codes, a copy of as many as there is room for, a row cleared. -/
import Derived.Test.YtdloogkjnjklcaaGreatDoorE14
import Derived.Test.YtdloogkjnjklcaaGreatDoorE18
import Derived.Lib.SliceRun
import Derived.Test.YtdloogkjnjklcaaGreatDoorE29
set_option linter.unusedVariables false
set_option linter.unusedSimpArgs false
namespace Go.Proofs.YtdloogkjnjklcaaGreatDoor
open Go.RowKit

end Go.Proofs.YtdloogkjnjklcaaGreatDoor

namespace Go.Proofs.YtdloogkjnjklcaaGreatDoor
open Go.RowKit

end Go.Proofs.YtdloogkjnjklcaaGreatDoor

namespace Go.Proofs.YtdloogkjnjklcaaGreatDoor
open Go.RowKit

end Go.Proofs.YtdloogkjnjklcaaGreatDoor
