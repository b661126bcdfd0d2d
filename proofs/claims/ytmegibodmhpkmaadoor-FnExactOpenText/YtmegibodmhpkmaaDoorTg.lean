/- The program's side: a token's form. -/
import Derived.Test.YtmegibodmhpkmaaDoorTf
namespace Go.Proofs.YtmegibodmhpkmaaDoor
open Go.RowKit
set_option linter.unusedVariables false

set_option maxHeartbeats 3200000 in
theorem hasForm_any (t : TK) (a : Option Addr) (c : Nat) (w : World) :
    Calls Tryd.prog 29 #[.agg #[.int .i64 t.kd, .int .i64 t.by_, .string t.nm, .slice a t.at_.length c, .bool t.sh]] w fun e w' => e = .returned (.bool (tform t)) ∧ Below w.heap.size w w' := by
  have HB := Hid.mk' (below_new w (.cells #[.int .i64 t.kd, .int .i64 t.by_, .string t.nm, .slice a t.at_.length c, .bool t.sh] 38))
  by_cases k1 : 1 ≤ t.kd ∧ t.kd ≤ 4
  · have kk : t.kd = 1 ∨ t.kd = 2 ∨ t.kd = 3 ∨ t.kd = 4 := by omega
    rcases kk with e | e | e | e
    all_goals
      rw [e]
      have E := Hid.mk' e
      clear e k1
      go_enter Tryd.func29, Tryd.ntmps29
      go_wp2_with go_big_skip
    all_goals go_ret
    all_goals
      have e := E.out
      refine ⟨?_, (below_new w _)⟩
      by_cases hz : t.by_ = 0 <;> first | contradiction | (simp [tform, *])
  · have E : Hid (tform t = false) := Hid.mk' (by
      unfold tform
      rw [show (decide (1 ≤ t.kd) && decide (t.kd ≤ 4)) = false by simp; omega]
      simp)
    have n1 : ¬ t.kd = 1 := by omega
    have n2 : ¬ t.kd = 2 := by omega
    have n3 : ¬ t.kd = 3 := by omega
    have n4 : ¬ t.kd = 4 := by omega
    clear k1
    go_enter Tryd.func29, Tryd.ntmps29
    go_wp2_with go_big_skip
    go_ret
    exact ⟨by rw [E.out]; rfl, below_new w _⟩

end Go.Proofs.YtmegibodmhpkmaaDoor
