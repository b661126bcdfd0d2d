/- Void tags: both sides, and the law on IsVoid. -/
import Derived.Test.YtngdcpmolbpoeaaWa
namespace Go.Proofs.Ytngdcpmolbpoeaa
open Go.RowKit
set_option linter.unusedVariables false

/-- br or img. -/
def voidB (s : ByteArray) : Bool := (s.toList == [98, 114]) || (s.toList == [105, 109, 103])

theorem l6Void_any (s : ByteArray) (w : World) :
    Calls Try.prog 37 #[.string s] w fun e w' => e = .returned (.bool (voidB s)) ∧ w' = w := by
  cases h1 : (s.toList == [98, 114])
  · cases h2 : (s.toList == [105, 109, 103])
    all_goals go_enter Try.func37, Try.ntmps37
    all_goals go_wp2
    all_goals go_ret
    all_goals exact ⟨by simp [voidB, h1, h2], rfl⟩
  · go_enter Try.func37, Try.ntmps37
    go_wp2
    go_ret
    exact ⟨by simp [voidB, h1], rfl⟩

theorem implVoid_any (s : ByteArray) (w : World) :
    Calls Try.prog 52 #[.string s] w fun e w' => e = .returned (.bool (voidB s)) ∧ w' = w := by
  cases h1 : (s.toList == [98, 114])
  · cases h2 : (s.toList == [105, 109, 103])
    all_goals go_enter Try.func52, Try.ntmps52
    all_goals go_wp2
    all_goals go_ret
    all_goals exact ⟨by simp [voidB, h1, h2], rfl⟩
  · go_enter Try.func52, Try.ntmps52
    go_wp2
    go_ret
    exact ⟨by simp [voidB, h1], rfl⟩

end Go.Proofs.Ytngdcpmolbpoeaa
