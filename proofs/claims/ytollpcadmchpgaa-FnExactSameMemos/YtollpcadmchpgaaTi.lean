/- The program's TokenFault, and the law on it. -/
import Derived.Test.YtollpcadmchpgaaTh
namespace Go.Proofs.Ytollpcadmchpgaa
open Go.RowKit
set_option linter.unusedVariables false
set_option linter.unusedSimpArgs false

end Go.Proofs.Ytollpcadmchpgaa
