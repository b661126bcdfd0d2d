/- Walks of small callees: the measure of a table, a piece copied and compared. -/
import Derived.Test.YtahkneghmgmnbaaProg
import Derived.Test.YtahkneghmgmnbaaLem
import Derived.WalkKit
import Derived.WalkSpells
import Derived.WalkLawsBesides
namespace Go.Proofs.Ytahkneghmgmnbaa
open Go.RowKit
set_option linter.unusedVariables false

set_option maxHeartbeats 400000 in
theorem storeOf_any (a b c : Value) (d : Bool) (w : World) :
    Calls Try.prog 46 #[.agg #[a, b, c], .bool d] w fun e w' => e = .returned (if d then b else a) ∧ Below w.heap.size w w' := by
  cases d <;> go_enter Try.func46, Try.ntmps46
  all_goals go_wp2
  all_goals go_ret
  all_goals exact ⟨rfl, (Below.refl _ _).alloc (Nat.le_refl _) _⟩

theorem Try.info5 : (Try.prog.info? 5).map (fun i => (i.zero, i.size, i.bytes)) = some (some (.int .u8 0), 1, 1) := by kernel_rfl

end Go.Proofs.Ytahkneghmgmnbaa
