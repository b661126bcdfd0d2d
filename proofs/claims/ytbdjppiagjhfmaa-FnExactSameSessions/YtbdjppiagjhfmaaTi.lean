/- The program's TokenFault, and the law on it. -/
import Derived.Test.YtbdjppiagjhfmaaTh
namespace Go.Proofs.Ytbdjppiagjhfmaa
open Go.RowKit
set_option linter.unusedVariables false
set_option linter.unusedSimpArgs false

end Go.Proofs.Ytbdjppiagjhfmaa
