/- The model's side: a token's form, and its code. -/
import Derived.Test.YtlaeomnacgjcgaaS7
import Derived.BigGuard
set_option linter.unusedVariables false
set_option linter.unusedSimpArgs false
namespace Go.Proofs.Ytlaeomnacgjcgaa
open Go.RowKit

theorem l1In_any (v lo hi : Int) (w : World) : Calls Try.prog 37 #[.int .i64 v, .int .i64 lo, .int .i64 hi] w fun e w' => e = .returned (.bool (decide (lo ≤ v) && decide (v ≤ hi))) ∧ w' = w := by
  by_cases h1 : lo ≤ v
  · by_cases h2 : v ≤ hi
    · go_enter Try.func37, Try.ntmps37
      go_wp2
      go_ret
      exact ⟨by simp [h1, h2], rfl⟩
    · go_enter Try.func37, Try.ntmps37
      go_wp2
      go_ret
      exact ⟨by simp; omega, rfl⟩
  · go_enter Try.func37, Try.ntmps37
    go_wp2
    go_ret
    exact ⟨by simp; omega, rfl⟩

def tform (t : TK) : Bool := decide (1 ≤ t.kd) && decide (t.kd ≤ 4) && (decide (t.kd = 1) || decide (t.by_ = 0)) && (decide (t.kd = 2) || decide (t.kd = 3) || (t.nm.toList == [])) && (decide (t.kd = 2) || (decide (t.at_.length = 0) && !t.sh))

def tfault (t : TK) : Int := if tform t = true then (if 0 ≤ t.by_ ∧ t.by_ ≤ 255 then (if (t.kd = 2 ∨ t.kd = 3) ∧ nmB t.nm = false then 5 else afault t.at_) else 3) else 1

end Go.Proofs.Ytlaeomnacgjcgaa
