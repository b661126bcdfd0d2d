/- Walks: memory of one's own is marked, and the marks are held. -/
import Derived.Test.YtollpcadmchpgaaWf
import Derived.Test.YtollpcadmchpgaaOwn
namespace Go.Proofs.Ytollpcadmchpgaa
open Go.RowKit
set_option linter.unusedVariables false

theorem ret_num {a b : Int} (h : a = b) : Ending.returned (.int .i64 a) = .returned (.int .i64 b) := by rw [h]

end Go.Proofs.Ytollpcadmchpgaa
