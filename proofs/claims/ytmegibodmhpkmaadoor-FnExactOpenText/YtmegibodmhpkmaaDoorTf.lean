/- The model's side: a token's form, and its code. -/
import Derived.Test.YtmegibodmhpkmaaDoorTe
import Derived.BigGuard
namespace Go.Proofs.YtmegibodmhpkmaaDoor
open Go.RowKit
set_option linter.unusedVariables false

theorem l1In_any (v lo hi : Int) (w : World) : Calls Tryd.prog 25 #[.int .i64 v, .int .i64 lo, .int .i64 hi] w fun e w' => e = .returned (.bool (decide (lo ≤ v) && decide (v ≤ hi))) ∧ w' = w := by
  by_cases h1 : lo ≤ v
  · by_cases h2 : v ≤ hi
    · go_enter Tryd.func25, Tryd.ntmps25
      go_wp2
      go_ret
      exact ⟨by simp [h1, h2], rfl⟩
    · go_enter Tryd.func25, Tryd.ntmps25
      go_wp2
      go_ret
      exact ⟨by simp; omega, rfl⟩
  · go_enter Tryd.func25, Tryd.ntmps25
    go_wp2
    go_ret
    exact ⟨by simp; omega, rfl⟩

/-- A token of a kind that there is, with nothing that its kind has not. -/
def tform (t : TK) : Bool := decide (1 ≤ t.kd) && decide (t.kd ≤ 4) && (decide (t.kd = 1) || decide (t.by_ = 0)) && (decide (t.kd = 2) || decide (t.kd = 3) || (t.nm.toList == [])) && (decide (t.kd = 2) || (decide (t.at_.length = 0) && !t.sh))

set_option maxHeartbeats 3200000 in
theorem l4Form_any (t : TK) (g : Nat) (a : Option Addr) (c : Nat) (w : World) (h : w.rowIs g 38 5 (r5 (.int .i64 t.kd) (.int .i64 t.by_) (.string t.nm) (.slice a t.at_.length c) (.bool t.sh))) :
    Calls Tryd.prog 24 #[.pointer (some ⟨g, 0, none⟩)] w fun e w' => e = .returned (.bool (tform t)) ∧ w' = w := by
  have K := l1In_any t.kd 1 4 w
  obtain ⟨c0, c1, c2, c3, c4, c5⟩ := cells5 h
  clear h
  by_cases k1 : 1 ≤ t.kd ∧ t.kd ≤ 4
  · have kk : t.kd = 1 ∨ t.kd = 2 ∨ t.kd = 3 ∨ t.kd = 4 := by omega
    rw [show (decide (1 ≤ t.kd) && decide (t.kd ≤ 4)) = true by simp [k1]] at K
    rcases kk with e | e | e | e
    all_goals
      rw [e] at c0 K
      have K := Hid.mk' K
      have E := Hid.mk' e
      clear e k1
      go_enter Tryd.func24, Tryd.ntmps24
      go_wp2_with (first | go_big_skip | (go_at_call 25; refine K.out.mono ?_; rintro e w1 ⟨rfl, rfl⟩))
    all_goals go_ret
    all_goals
      have e := E.out
      exact ⟨by simp [tform, *], rfl⟩
  · rw [show (decide (1 ≤ t.kd) && decide (t.kd ≤ 4)) = false by simp; omega] at K
    have K := Hid.mk' K
    have E : Hid (tform t = false) := Hid.mk' (by
      unfold tform
      rw [show (decide (1 ≤ t.kd) && decide (t.kd ≤ 4)) = false by simp; omega]
      simp)
    have n1 : ¬ t.kd = 1 := by omega
    have n2 : ¬ t.kd = 2 := by omega
    have n3 : ¬ t.kd = 3 := by omega
    clear k1
    go_enter Tryd.func24, Tryd.ntmps24
    go_wp2_with (first | go_big_skip | (go_at_call 25; refine K.out.mono ?_; rintro e w1 ⟨rfl, rfl⟩))
    all_goals go_ret
    all_goals exact ⟨by rw [E.out]; rfl, rfl⟩

/-- The code of a token. -/
def tfault (t : TK) : Int := if tform t = true then (if 0 ≤ t.by_ ∧ t.by_ ≤ 255 then (if (t.kd = 2 ∨ t.kd = 3) ∧ nmB t.nm = false then 5 else afault t.at_) else 3) else 1

set_option maxHeartbeats 3200000 in
theorem l4Fault_any (t : TK) (g : Nat) (a : Option Addr) (c : Nat) (w : World) (h : w.rowIs g 38 5 (r5 (.int .i64 t.kd) (.int .i64 t.by_) (.string t.nm) (.slice a t.at_.length c) (.bool t.sh))) (ha : AAt w a t.at_) (hc : t.at_.length ≤ c) (hn : (t.nm.size : Int) ≤ 1048576) (hl : (t.at_.length : Int) + asz t.at_ ≤ 1048576) :
    Calls Tryd.prog 16 #[.pointer (some ⟨g, 0, none⟩)] w fun e w' => e = .returned (.int .i64 (tfault t)) ∧ Below w.heap.size w w' := by
  have KF := l4Form_any t g a c w h
  have KI := l1In_any t.by_ 0 255 w
  have KN := l4Name_any t.nm w (by omega)
  have KA := Hid.mk' (l4Attrs_any a c t.at_ w ha hc hl)
  obtain ⟨c0, c1, c2, c3, c4, c5⟩ := cells5 h
  clear h ha
  cases hf : tform t with
  | false =>
    rw [hf] at KF
    have KF := Hid.mk' KF
    have E : Hid (tfault t = 1) := Hid.mk' (by unfold tfault; rw [hf]; rfl)
    clear KI KN
    go_enter Tryd.func16, Tryd.ntmps16
    go_wp2_with fail
    refine KF.out.mono ?_
    rintro e w1 ⟨rfl, rfl⟩
    go_wp2
    go_ret
    exact ⟨by rw [E.out]; rfl, Below.refl _ _⟩
  | true =>
    rw [hf] at KF
    have KF := Hid.mk' KF
    by_cases hb : 0 ≤ t.by_ ∧ t.by_ ≤ 255
    · rw [show (decide (0 ≤ t.by_) && decide (t.by_ ≤ 255)) = true by simp [hb]] at KI
      have KI := Hid.mk' KI
      by_cases hk : t.kd = 2 ∨ t.kd = 3
      · cases hnm : nmB t.nm with
        | false =>
          rw [hnm] at KN
          have KN := Hid.mk' KN
          have E : Hid (tfault t = 5) := Hid.mk' (by unfold tfault; rw [if_pos hf, if_pos hb, if_pos ⟨hk, hnm⟩])
          clear hb
          rcases hk with e | e
          all_goals
            rw [e] at c0
            clear e
            go_enter Tryd.func16, Tryd.ntmps16
            go_wp2_with (first | go_big_skip | (go_at_call 24; refine KF.out.mono ?_; rintro e w1 ⟨rfl, rfl⟩) | (go_at_call 25; refine KI.out.mono ?_; rintro e w1 ⟨rfl, rfl⟩) | (go_at_call 26; refine KN.out.mono ?_; rintro e w1 ⟨rfl, rfl⟩))
            go_ret
            exact ⟨by rw [E.out]; rfl, Below.refl _ _⟩
        | true =>
          rw [hnm] at KN
          have KN := Hid.mk' KN
          have E : Hid (tfault t = afault t.at_) := Hid.mk' (by unfold tfault; rw [if_pos hf, if_pos hb, if_neg (by rw [hnm]; simp)])
          clear hb
          rcases hk with e | e
          all_goals
            rw [e] at c0
            clear e
            go_enter Tryd.func16, Tryd.ntmps16
            go_wp2_with (first | go_big_skip | (go_at_call 24; refine KF.out.mono ?_; rintro e w1 ⟨rfl, rfl⟩) | (go_at_call 25; refine KI.out.mono ?_; rintro e w1 ⟨rfl, rfl⟩) | (go_at_call 26; refine KN.out.mono ?_; rintro e w1 ⟨rfl, rfl⟩) | (go_at_call 27; refine KA.out.mono ?_; rintro e w1 ⟨rfl, hbb⟩; have HB := Hid.mk' hbb; clear hbb))
            go_ret
            exact ⟨by rw [E.out]; rfl, HB.out⟩
      · have n2 : ¬ t.kd = 2 := fun e => hk (.inl e)
        have n3 : ¬ t.kd = 3 := fun e => hk (.inr e)
        have E : Hid (tfault t = afault t.at_) := Hid.mk' (by unfold tfault; rw [if_pos hf, if_pos hb, if_neg (fun h => hk h.1)])
        clear hb hk KN
        go_enter Tryd.func16, Tryd.ntmps16
        go_wp2_with (first | go_big_skip | (go_at_call 24; refine KF.out.mono ?_; rintro e w1 ⟨rfl, rfl⟩) | (go_at_call 25; refine KI.out.mono ?_; rintro e w1 ⟨rfl, rfl⟩) | (go_at_call 27; refine KA.out.mono ?_; rintro e w1 ⟨rfl, hbb⟩; have HB := Hid.mk' hbb; clear hbb))
        go_ret
        exact ⟨by rw [E.out]; rfl, HB.out⟩
    · rw [show (decide (0 ≤ t.by_) && decide (t.by_ ≤ 255)) = false by simp; omega] at KI
      have KI := Hid.mk' KI
      have E : Hid (tfault t = 3) := Hid.mk' (by unfold tfault; rw [if_pos hf, if_neg hb])
      clear hb KN
      go_enter Tryd.func16, Tryd.ntmps16
      go_wp2_with (first | (go_at_call 24; refine KF.out.mono ?_; rintro e w1 ⟨rfl, rfl⟩) | (go_at_call 25; refine KI.out.mono ?_; rintro e w1 ⟨rfl, rfl⟩))
      go_ret
      exact ⟨by rw [E.out]; rfl, Below.refl _ _⟩

end Go.Proofs.YtmegibodmhpkmaaDoor
