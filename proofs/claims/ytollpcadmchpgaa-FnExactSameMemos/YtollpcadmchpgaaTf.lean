/- The model's side: a token's form, and its code. -/
import Derived.Test.YtollpcadmchpgaaTe
import Derived.BigGuard
namespace Go.Proofs.Ytollpcadmchpgaa
open Go.RowKit
set_option linter.unusedVariables false

/-- A token of a kind that there is, with nothing that its kind has not. -/
def tform (t : TK) : Bool := decide (1 ≤ t.kd) && decide (t.kd ≤ 4) && (decide (t.kd = 1) || decide (t.by_ = 0)) && (decide (t.kd = 2) || decide (t.kd = 3) || (t.nm.toList == [])) && (decide (t.kd = 2) || (decide (t.at_.length = 0) && !t.sh))

/-- The code of a token. -/
def tfault (t : TK) : Int := if tform t = true then (if 0 ≤ t.by_ ∧ t.by_ ≤ 255 then (if (t.kd = 2 ∨ t.kd = 3) ∧ nmB t.nm = false then 5 else afault t.at_) else 3) else 1

end Go.Proofs.Ytollpcadmchpgaa
