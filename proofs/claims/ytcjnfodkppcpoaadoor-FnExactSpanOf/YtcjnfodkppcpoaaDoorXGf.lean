/- Both sides' TreeFault, and the law on it. -/
import Derived.Test.YtcjnfodkppcpoaaDoorXGe
import Derived.Test.YtcjnfodkppcpoaaDoorXGl
namespace Go.Proofs.YtcjnfodkppcpoaaDoor
open Go.RowKit
set_option linter.unusedVariables false
set_option linter.unusedSimpArgs false

set_option maxHeartbeats 1600000 in
theorem l6Fault_any (a : Option Addr) (c : Nat) (l : List ND) (w : World) (ha : NsAt w a l) (hl : (l.length : Int) + nssz l ≤ 1048576) :
    Calls Tryd.prog 33 #[.slice a l.length c] w fun e w' => e = .returned (.int .i64 (treeF l)) ∧ Below w.heap.size w w' := by
  by_cases h60 : (l.length : Int) > 60
  · have E : Hid (treeF l = 2) := Hid.mk' (by unfold treeF; rw [if_pos (by omega)])
    go_enter Tryd.func33, Tryd.ntmps33
    go_wp2
    go_ret
    exact ⟨by rw [E.out]; rfl, Below.refl _ _⟩
  have HA := Hid.mk' ha
  clear ha
  go_enter Tryd.func33, Tryd.ntmps33
  go_wp2
  go_loopw [3] (fun i wr => ∃ k : Nat, k ≤ l.length ∧ i = .int .i64 k ∧ (∀ j, j < k → oneF l j = 0) ∧ Below w.heap.size w wr) (fun i _ => l.length - (intOf i).toNat)
  case atStart => exact ⟨0, Nat.zero_le _, rfl, fun j h => absurd h (Nat.not_lt_zero _), Below.refl _ _⟩
  case round =>
    obtain ⟨k, hk, rfl, hz, hbl⟩ := hrel
    have HZ := Hid.mk' hz
    have HB := Hid.mk' hbl
    by_cases hlt : k < l.length
    · have ci : (k : Int) < (l.length : Int) := by omega
      have KO := l6One_any a c l k wr (HA.out.below hbl) hlt (ways_of hz) hl
      clear hz hbl
      by_cases h0 : oneF l k = 0
      · have H0 := Hid.mk' h0
        rw [h0] at KO
        have KO := Hid.mk' KO
        clear h0
        go_wp2_with fail
        refine KO.out.mono ?_
        rintro e w1 ⟨rfl, hb⟩
        have HB := Hid.mk' (HB.out.trans (hb.mono HB.out.size))
        clear hb KO
        go_wp2
        go_roundw
        case rel => exact ⟨k + 1, by omega, by go_num, fun j hj => by
          by_cases h : j = k
          · subst h; exact H0.out
          · exact HZ.out j (by omega), HB.out⟩
        case measure => simp [intOf]; omega
      · have E : Hid (treeF l = oneF l k) := Hid.mk' (treeF_hit (by omega) hlt HZ.out rfl h0)
        have KO := Hid.mk' KO
        generalize hf : oneF l k = f at *
        go_wp2_with fail
        refine KO.out.mono ?_
        rintro e w1 ⟨rfl, hb⟩
        have HB := Hid.mk' (HB.out.trans (hb.mono HB.out.size))
        clear hb KO
        go_wp2
        go_ret
        exact ⟨by rw [E.out]; rfl, HB.out⟩
    · have ci : ¬ (k : Int) < (l.length : Int) := by omega
      have e : k = l.length := by omega
      subst e
      have E : Hid (treeF l = 0) := Hid.mk' (treeF_none (by omega) HZ.out)
      clear hz hbl
      go_wp2
      go_ret
      exact ⟨by rw [E.out]; rfl, HB.out⟩

end Go.Proofs.YtcjnfodkppcpoaaDoor
