/- An attribute of a token: the program. -/
import Derived.Test.YtollpcadmchpgaaTj
namespace Go.Proofs.Ytollpcadmchpgaa
open Go.RowKit
set_option linter.unusedVariables false
set_option linter.unusedSimpArgs false

end Go.Proofs.Ytollpcadmchpgaa
