/- A truth value as a number. -/
import Derived.Test.YthhdfbgjdfoalaaGreatDoorWb
namespace Go.Proofs.YthhdfbgjdfoalaaGreatDoor
open Go.RowKit
set_option linter.unusedVariables false
set_option linter.unusedSimpArgs false

theorem bool2u_any (b : Bool) (w : World) :
    Calls Tryz.prog 269 #[.bool b] w fun e w' => e = .returned (.int .u64 (if b = true then 1 else 0)) ∧ w' = w := by
  cases b
  all_goals go_enter Tryz.func269, Tryz.ntmps269
  all_goals go_wp2
  all_goals go_ret
  all_goals exact ⟨rfl, rfl⟩

end Go.Proofs.YthhdfbgjdfoalaaGreatDoor
