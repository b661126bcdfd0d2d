/- Walks: attributes and tokens that are the same are told so. -/
import Derived.Test.YtlmmkmcchfnclaaDoorTc
namespace Go.Proofs.YtlmmkmcchfnclaaDoor
open Go.RowKit
set_option linter.unusedVariables false

end Go.Proofs.YtlmmkmcchfnclaaDoor
