/- The program's TokenFault, and the law on it. -/
import Derived.Test.YtmegibodmhpkmaaDoorTh
namespace Go.Proofs.YtmegibodmhpkmaaDoor
open Go.RowKit
set_option linter.unusedVariables false
set_option linter.unusedSimpArgs false

set_option maxHeartbeats 3200000 in
theorem implTF_any (t : TK) (a : Option Addr) (c : Nat) (w : World) (ha : AAt w a t.at_) (hn : (t.nm.size : Int) ≤ 1048576) (hl : (t.at_.length : Int) + asz t.at_ ≤ 1048576) :
    Calls Tryd.prog 20 #[.agg #[.int .i64 t.kd, .int .i64 t.by_, .string t.nm, .slice a t.at_.length c, .bool t.sh]] w fun e w' => e = .returned (.int .i64 (tfault t)) ∧ Below w.heap.size w w' := by
  have N0 := below_new w (.cells #[.int .i64 t.kd, .int .i64 t.by_, .string t.nm, .slice a t.at_.length c, .bool t.sh] 38)
  have KF := Hid.mk' (hasForm_any t a c (w.alloc (.cells #[.int .i64 t.kd, .int .i64 t.by_, .string t.nm, .slice a t.at_.length c, .bool t.sh] 38)))
  have HP := Hid.mk' (row5 w 38 (.int .i64 t.kd) (.int .i64 t.by_) (.string t.nm) (.slice a t.at_.length c) (.bool t.sh))
  have HA := Hid.mk' (ha.below N0)
  have HB := Hid.mk' N0
  clear ha N0
  go_enter Tryd.func20, Tryd.ntmps20
  go_wp2_with fail
  refine KF.out.mono ?_
  rintro e w1 ⟨rfl, hb⟩
  have HA := Hid.mk' (HA.out.below hb)
  have HP := Hid.mk' (rowB HP.out hb)
  have HB := Hid.mk' (HB.out.trans (hb.mono HB.out.size))
  obtain ⟨c0, c1, c2, c3, c4, c5⟩ := cells5 HP.out
  clear hb KF HP
  have KN := isName_any t.nm w1 (by omega)
  have KA := Hid.mk' (attrsFault_any a c t.at_ w1 HA.out hl)
  cases hf : tform t with
  | false =>
    have E : Hid (tfault t = 1) := Hid.mk' (by unfold tfault; rw [hf]; rfl)
    clear KN
    go_wp2
    go_ret
    exact ⟨by rw [E.out]; rfl, HB.out⟩
  | true =>
    by_cases hb : 0 ≤ t.by_ ∧ t.by_ ≤ 255
    · have y1 : ¬ t.by_ < 0 := by omega
      have y2 : ¬ t.by_ > 255 := by omega
      by_cases hk : t.kd = 2 ∨ t.kd = 3
      · cases hnm : nmB t.nm with
        | false =>
          rw [hnm] at KN
          have KN := Hid.mk' KN
          have E : Hid (tfault t = 5) := Hid.mk' (by unfold tfault; rw [if_pos hf, if_pos hb, if_pos ⟨hk, hnm⟩])
          clear hb
          rcases hk with e | e
          all_goals
            rw [e] at c0
            clear e
            go_wp2_with (first | go_big_skip | (go_at_call 30; refine KN.out.mono ?_; rintro e w2 ⟨rfl, rfl⟩))
            go_ret
            exact ⟨by rw [E.out]; rfl, HB.out⟩
        | true =>
          rw [hnm] at KN
          have KN := Hid.mk' KN
          have E : Hid (tfault t = afault t.at_) := Hid.mk' (by unfold tfault; rw [if_pos hf, if_pos hb, if_neg (by rw [hnm]; simp)])
          clear hb
          rcases hk with e | e
          all_goals
            rw [e] at c0
            clear e
            go_wp2_with (first | go_big_skip | (go_at_call 30; refine KN.out.mono ?_; rintro e w2 ⟨rfl, rfl⟩) | (go_at_call 31; refine KA.out.mono ?_; rintro e w2 ⟨rfl, hbb⟩; have HB := Hid.mk' (HB.out.trans (hbb.mono HB.out.size)); clear hbb))
            go_ret
            exact ⟨by rw [E.out]; rfl, HB.out⟩
      · have n2 : ¬ t.kd = 2 := fun e => hk (.inl e)
        have n3 : ¬ t.kd = 3 := fun e => hk (.inr e)
        have E : Hid (tfault t = afault t.at_) := Hid.mk' (by unfold tfault; rw [if_pos hf, if_pos hb, if_neg (fun h => hk h.1)])
        clear hb hk KN
        go_wp2_with (first | go_big_skip | (go_at_call 31; refine KA.out.mono ?_; rintro e w2 ⟨rfl, hbb⟩; have HB := Hid.mk' (HB.out.trans (hbb.mono HB.out.size)); clear hbb))
        go_ret
        exact ⟨by rw [E.out]; rfl, HB.out⟩
    · have E : Hid (tfault t = 3) := Hid.mk' (by unfold tfault; rw [if_pos hf, if_neg hb])
      clear KN
      by_cases y1 : t.by_ < 0
      · clear hb
        go_wp2_with go_big_skip
        go_ret
        exact ⟨by rw [E.out]; rfl, HB.out⟩
      · have y2 : t.by_ > 255 := by omega
        clear hb
        go_wp2_with go_big_skip
        go_ret
        exact ⟨by rw [E.out]; rfl, HB.out⟩

end Go.Proofs.YtmegibodmhpkmaaDoor
