/- The program's side: a token's form. -/
import Derived.Test.YtollpcadmchpgaaTf
namespace Go.Proofs.Ytollpcadmchpgaa
open Go.RowKit
set_option linter.unusedVariables false

end Go.Proofs.Ytollpcadmchpgaa
