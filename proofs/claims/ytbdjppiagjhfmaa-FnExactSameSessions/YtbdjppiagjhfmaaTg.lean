/- The program's side: a token's form. -/
import Derived.Test.YtbdjppiagjhfmaaTf
namespace Go.Proofs.Ytbdjppiagjhfmaa
open Go.RowKit
set_option linter.unusedVariables false

end Go.Proofs.Ytbdjppiagjhfmaa
