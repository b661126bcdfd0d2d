/- Walks of small callees: the measure of a table, a piece copied and compared. -/
import Derived.Test.YtaihlcfpkabonaaProg
import Derived.Test.YtaihlcfpkabonaaLem
import Derived.WalkKit
import Derived.WalkSpells
import Derived.WalkLawsBesides
namespace Go.Proofs.Ytaihlcfpkabonaa
open Go.RowKit
set_option linter.unusedVariables false

theorem Try.info5 : (Try.prog.info? 5).map (fun i => (i.zero, i.size, i.bytes)) = some (some (.int .u8 0), 1, 1) := by kernel_rfl

end Go.Proofs.Ytaihlcfpkabonaa
