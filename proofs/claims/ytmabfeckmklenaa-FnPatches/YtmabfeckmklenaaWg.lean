/- Walks: memory of one's own is marked, and the marks are held. -/
import Derived.Test.YtmabfeckmklenaaWf
import Derived.Test.YtmabfeckmklenaaOwn
namespace Go.Proofs.Ytmabfeckmklenaa
open Go.RowKit
set_option linter.unusedVariables false

theorem ret_num {a b : Int} (h : a = b) : Ending.returned (.int .i64 a) = .returned (.int .i64 b) := by rw [h]

end Go.Proofs.Ytmabfeckmklenaa
