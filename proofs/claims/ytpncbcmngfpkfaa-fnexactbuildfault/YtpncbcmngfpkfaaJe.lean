/- The model's BuildFault, and the law on it. -/
import Derived.Test.YtpncbcmngfpkfaaJd
namespace Go.Proofs.Ytpncbcmngfpkfaa
open Go.RowKit
set_option linter.unusedVariables false
set_option linter.unusedSimpArgs false

set_option maxHeartbeats 3200000 in
theorem l7Fault_any (s : BS) (g : Nat) (a p : Option Addr) (c d : Nat) (w : World) (hr : w.rowIs g 30 3 (r3 (.slice a s.nd.length c) (.slice p s.op.length d) (.bool s.lg))) (ha : SAt w a p s) (hl : (s.nd.length : Int) + nssz s.nd + s.op.length ≤ 1048576) :
    Calls Try.prog 14 #[.pointer (some ⟨g, 0, none⟩)] w fun e w' => e = .returned (.int .i64 (bldF s)) ∧ Below w.heap.size w w' := by
  have KF := l6Fault_any a c s.nd w ha.1 (by omega)
  have HR := Hid.mk' hr
  have HA := Hid.mk' ha
  obtain ⟨x0, x1, x2, x3⟩ := cells3 hr
  clear ha hr
  by_cases h0 : treeF s.nd = 0
  rotate_left
  · have KF := Hid.mk' KF
    have E : Hid (bldF s = treeF s.nd) := Hid.mk' (by unfold bldF; rw [if_neg h0])
    generalize treeF s.nd = tf at *
    go_enter Try.func14, Try.ntmps14
    go_wp2_with fail
    refine KF.out.mono ?_
    rintro e w1 ⟨rfl, hb⟩
    have HB := Hid.mk' hb
    clear hb KF x0 x1 x2 x3
    go_wp2
    go_ret
    exact ⟨by rw [E.out]; rfl, HB.out⟩
  rw [h0] at KF
  have KF := Hid.mk' KF
  have H0 := Hid.mk' h0
  have E0 : Hid (bldF s = if s.lg = true ∧ (0 < s.nd.length ∨ 0 < s.op.length) then 1 else restF s.nd s.op) := Hid.mk' (by unfold bldF; rw [if_pos H0.out])
  clear h0
  go_enter Try.func14, Try.ntmps14
  go_wp2_with fail
  refine KF.out.mono ?_
  rintro e w1 ⟨rfl, hb⟩
  have HB := Hid.mk' hb
  have HR := Hid.mk' (rowB HR.out hb)
  have HA := Hid.mk' (HA.out.below hb)
  clear hb KF x0 x1 x2 x3
  obtain ⟨x0, x1, x2, x3⟩ := cells3 HR.out
  have KO := l7Opened_any s g a p c d w1 HR.out HA.out hl
  by_cases hbad : s.lg = true ∧ (0 < s.nd.length ∨ 0 < s.op.length)
  · have E : Hid (bldF s = 1) := Hid.mk' (by rw [E0.out, if_pos hbad])
    obtain ⟨hlg, hor⟩ := hbad
    rw [hlg] at x2
    clear hlg KO
    by_cases hn : 0 < s.nd.length
    · have hn' : decide (0 < s.nd.length) = true := decide_eq_true hn
      clear hn hor
      go_wp2_with (first | go_big_skip)
      go_ret
      exact ⟨by rw [E.out]; rfl, HB.out⟩
    · have ho' : decide (0 < s.op.length) = true := decide_eq_true (by omega)
      have hn' : decide (0 < s.nd.length) = false := decide_eq_false hn
      clear hn hor
      go_wp2_with (first | go_big_skip)
      go_ret
      exact ⟨by rw [E.out]; rfl, HB.out⟩
  have E1 : Hid (bldF s = restF s.nd s.op) := Hid.mk' (by rw [E0.out, if_neg hbad])
  have KT : Hid (∀ w', Below w1.heap.size w1 w' → Calls Try.prog 28 #[.slice p s.op.length d] w' fun e w'' => e = .returned (.int .i64 (aheadI s.op s.op.length)) ∧ w'' = w') := fun w' hb => l7Top_any p d s.op w' (HA.out.2.below hb) (by omega)
  have KI : Hid (∀ w', Below w1.heap.size w1 w' → Calls Try.prog 27 #[.slice a s.nd.length c, .int .i64 ((s.nd.length : Int) - 1), .int .i64 (aheadI s.op s.op.length)] w' fun e w'' => e = .returned (.bool (inW (wayU (upF s.nd) s.nd.length) (aheadI s.op s.op.length))) ∧ w'' = w') := fun w' hb => l6In_any a c s.nd s.nd.length (aheadI s.op s.op.length) w' (HA.out.1.below hb) (Nat.le_refl _) (treeF_ways H0.out) (by omega)
  have F9 : Hid (bldF s = restF s.nd s.op) := E1
  have lgc : (s.lg = false) ∨ (s.lg = true ∧ decide (0 < s.nd.length) = false ∧ decide (0 < s.op.length) = false) := by
    cases hlg : s.lg with
    | false => exact .inl rfl
    | true => exact .inr ⟨rfl, decide_eq_false fun h => hbad ⟨hlg, .inl h⟩, decide_eq_false fun h => hbad ⟨hlg, .inr h⟩⟩
  clear hbad E0 E1
  by_cases ho : opensF s.nd s.op = 0
  rotate_left
  · have E : Hid (bldF s = opensF s.nd s.op) := Hid.mk' (by rw [F9.out]; exact restF_hit rfl ho)
    have KO := Hid.mk' KO
    generalize opensF s.nd s.op = oc at *
    rcases lgc with hlg | ⟨hlg, hn', ho'⟩
    all_goals
      rw [hlg] at x2
      clear hlg
      go_wp2_with (first | go_big_skip | fail)
      refine KO.out.mono ?_
      rintro e w2 ⟨rfl, hw⟩
      obtain rfl := hw.symm
      go_wp2
      go_ret
      exact ⟨by rw [E.out]; rfl, HB.out⟩
  have HO := Hid.mk' ho
  rw [ho] at KO
  have KO := Hid.mk' KO
  clear ho
  by_cases h7 : 7 < s.op.length
  · have E : Hid (bldF s = 2) := Hid.mk' (by rw [F9.out]; exact restF_many HO.out h7)
    have h7' : (s.op.length : Int) > 7 := by omega
    clear h7
    rcases lgc with hlg | ⟨hlg, hn', ho'⟩
    all_goals
      rw [hlg] at x2
      clear hlg
      go_wp2_with (first | go_big_skip | fail)
      refine KO.out.mono ?_
      rintro e w2 ⟨rfl, hw⟩
      obtain rfl := hw.symm
      go_wp2
      go_ret
      exact ⟨by rw [E.out]; rfl, HB.out⟩
  have RE := Hid.mk' (restF_end H0.out HO.out h7)
  have h7' : ¬ (s.op.length : Int) > 7 := by omega
  clear h7
  by_cases hz : 0 < s.op.length
  · have hz' : decide (0 < s.op.length) = true := decide_eq_true hz
    have hlg : s.lg = false := by
      rcases lgc with hlg | ⟨_, _, ho'⟩
      · exact hlg
      · rw [ho'] at hz'; cases hz'
    rw [hlg] at x2
    clear hlg lgc hz
    cases hi : inW (wayU (upF s.nd) s.nd.length) (aheadI s.op s.op.length) with
    | true =>
      rw [hi] at KI RE
      have E : Hid (bldF s = 0) := Hid.mk' (by rw [F9.out, RE.out]; rfl)
      clear hi
      generalize aheadI s.op s.op.length = ah at *
      go_wp2_with (first | go_big_skip | fail)
      refine KO.out.mono ?_
      rintro e w2 ⟨rfl, hw⟩
      obtain rfl := hw.symm
      go_wp2_with fail
      go_quiet (first | (go_at_call 28; refine Calls.quiet_of_same (KT.out _ ?_); first | exact Below.refl _ _ | exact (Below.refl _ _).drew | exact below_drewN (Below.refl _ _) _) | (go_at_call 27; refine Calls.quiet_of_same (KI.out _ ?_); first | exact Below.refl _ _ | exact (Below.refl _ _).drew | exact below_drewN (Below.refl _ _) _))
      go_wp2
      go_ret
      exact ⟨by rw [E.out]; rfl, below_drewN HB.out _⟩
    | false =>
      rw [hi] at KI RE
      have E : Hid (bldF s = 1) := Hid.mk' (by rw [F9.out, RE.out]; rfl)
      clear hi
      generalize aheadI s.op s.op.length = ah at *
      go_wp2_with (first | go_big_skip | fail)
      refine KO.out.mono ?_
      rintro e w2 ⟨rfl, hw⟩
      obtain rfl := hw.symm
      go_wp2_with fail
      go_quiet (first | (go_at_call 28; refine Calls.quiet_of_same (KT.out _ ?_); first | exact Below.refl _ _ | exact (Below.refl _ _).drew | exact below_drewN (Below.refl _ _) _) | (go_at_call 27; refine Calls.quiet_of_same (KI.out _ ?_); first | exact Below.refl _ _ | exact (Below.refl _ _).drew | exact below_drewN (Below.refl _ _) _))
      go_wp2
      go_ret
      exact ⟨by rw [E.out]; rfl, below_drewN HB.out _⟩
  · have e9 : aheadI s.op s.op.length = -1 := by unfold aheadI; rw [if_pos (by omega)]
    have E : Hid (bldF s = 0) := Hid.mk' (by rw [F9.out, RE.out, e9, inW_none H0.out]; rfl)
    have hz' : decide (0 < s.op.length) = false := decide_eq_false hz
    clear hz KI KT e9
    rcases lgc with hlg | ⟨hlg, hn', ho'⟩
    all_goals
      rw [hlg] at x2
      clear hlg
      go_wp2_with (first | go_big_skip | fail)
      refine KO.out.mono ?_
      rintro e w2 ⟨rfl, hw⟩
      obtain rfl := hw.symm
      go_wp2_with fail
      go_quiet (fail)
      go_wp2
      go_ret
      exact ⟨by rw [E.out]; rfl, below_drewN HB.out _⟩

set_option maxHeartbeats 800000 in
theorem specBF_any (s : BS) (a p : Option Addr) (c d : Nat) (w : World) (ha : SAt w a p s) (hl : (s.nd.length : Int) + nssz s.nd + s.op.length ≤ 1048576) :
    Calls Try.prog 6 #[.agg #[.slice a s.nd.length c, .slice p s.op.length d, .bool s.lg]] w fun e w' => e = .returned (.int .i64 (bldF s)) ∧ Below w.heap.size w w' := by
  have N0 := below_new w (.cells #[.slice a s.nd.length c, .slice p s.op.length d, .bool s.lg] 30)
  have KF := Hid.mk' (l7Fault_any s w.heap.size a p c d _ (row3 w 30 (.slice a s.nd.length c) (.slice p s.op.length d) (.bool s.lg)) (ha.below N0) hl)
  have HN := Hid.mk' N0
  clear ha N0
  go_enter Try.func6, Try.ntmps6
  go_wp2_with fail
  refine KF.out.mono ?_
  rintro e w1 ⟨rfl, hb⟩
  have HB := Hid.mk' (HN.out.trans (hb.mono HN.out.size))
  clear hb KF
  go_wp2
  go_ret
  exact ⟨rfl, HB.out⟩

set_option maxRecDepth 100000 in
set_option maxHeartbeats 8000000 in
theorem lawBF_any (s : BS) (a p : Option Addr) (c c' : Nat) (w : World) (ha : SAt w a p s) (wa : WideN s.nd) (na : (s.nd.length : Int) ≤ 9223372036854775807) (ma : (s.op.length : Int) ≤ 9223372036854775807) :
    Calls Try.prog 3 #[.agg #[.slice a s.nd.length c, .slice p s.op.length c', .bool s.lg]] w fun e w' => e = .returned (.bool true) ∧ Below w.heap.size w w' := by
  have N0 := below_new w (.cells #[.slice a s.nd.length c, .slice p s.op.length c', .bool s.lg] 25)
  have KS := szBuild_any s a p c c' 1048576 _ (ha.below N0).1 wa na ma (by omega) (by omega)
  have HP := Hid.mk' (row3 w 25 (.slice a s.nd.length c) (.slice p s.op.length c') (.bool s.lg))
  have HA := Hid.mk' (ha.below N0)
  have HB := Hid.mk' N0
  clear ha N0 wa
  generalize hW : w.alloc (.cells #[.slice a s.nd.length c, .slice p s.op.length c', .bool s.lg] 25) = W at *
  obtain ⟨c0, c1, c2, c3⟩ := cells3 HP.out
  by_cases big : 1048576 < (s.nd.length : Int) + nssz s.nd + s.op.length
  · rw [if_pos big] at KS
    have KS := Hid.mk' KS
    go_enter Try.func3, Try.ntmps3
    go_wp2_with fail
    refine KS.out.mono ?_
    rintro e w1 ⟨rfl, hb⟩
    have HB := Hid.mk' (HB.out.trans (hb.mono HB.out.size))
    clear hb KS
    go_wp2
    go_ret
    exact ⟨rfl, HB.out⟩
  rw [if_neg big] at KS
  have KS := Hid.mk' KS
  have zz : ¬ (1048576 - (s.nd.length : Int) - nssz s.nd - s.op.length < 0) := by omega
  have hl : (s.nd.length : Int) + nssz s.nd + s.op.length ≤ 1048576 := by omega
  go_enter Try.func3, Try.ntmps3
  go_wp2_with fail
  clear hW
  refine KS.out.mono ?_
  rintro e w1 ⟨rfl, hb⟩
  have HP := Hid.mk' (rowB HP.out hb)
  have HA := Hid.mk' (HA.out.below hb)
  have HB := Hid.mk' (HB.out.trans (hb.mono HB.out.size))
  clear hb KS c0 c1 c2 c3 big
  obtain ⟨c0, c1, c2, c3⟩ := cells3 HP.out
  go_wp2_with fail
  clear zz
  refine (toBuild_at s a p c c' w1 HA.out hl).mono ?_
  rintro e w2 ⟨g1, h1, rfl, t1, hb⟩
  have HP := Hid.mk' (rowB HP.out hb)
  have HA := Hid.mk' (HA.out.below hb)
  have HB := Hid.mk' (HB.out.trans (hb.mono HB.out.size))
  have T1 := Hid.mk' t1
  clear hb t1 c0 c1 c2 c3
  go_wp2_with fail
  refine (specBF_any s _ _ _ _ w2 T1.out hl).mono ?_
  rintro e w3 ⟨rfl, hb⟩
  have HP := Hid.mk' (rowB HP.out hb)
  have HA := Hid.mk' (HA.out.below hb)
  have HB := Hid.mk' (HB.out.trans (hb.mono HB.out.size))
  clear hb T1
  obtain ⟨c0, c1, c2, c3⟩ := cells3 HP.out
  go_wp2_with fail
  refine (toBuild_at s a p c c' w3 HA.out hl).mono ?_
  rintro e w4 ⟨g2, h2, rfl, t2, hb⟩
  have N4 := below_new w4 (.cells #[.slice (some ⟨g2, 0, none⟩) s.nd.length s.nd.length, .slice (some ⟨h2, 0, none⟩) s.op.length s.op.length, .bool s.lg] 30)
  have M4 := hb.trans (N4.mono hb.size)
  have HP := Hid.mk' (rowB HP.out M4)
  have HA := Hid.mk' (HA.out.below M4)
  have HB := Hid.mk' (HB.out.trans (M4.mono HB.out.size))
  have T2 := Hid.mk' (t2.below N4)
  have HX := Hid.mk' (row3 w4 30 (.slice (some ⟨g2, 0, none⟩) s.nd.length s.nd.length) (.slice (some ⟨h2, 0, none⟩) s.op.length s.op.length) (.bool s.lg))
  clear hb t2 N4 M4 c0 c1 c2 c3
  generalize hW4 : w4.alloc (.cells #[.slice (some ⟨g2, 0, none⟩) s.nd.length s.nd.length, .slice (some ⟨h2, 0, none⟩) s.op.length s.op.length, .bool s.lg] 30) = W4 at *
  obtain ⟨d0, d1, d2, d3⟩ := cells3 HX.out
  go_wp2_with fail
  clear hW4
  refine (implBF_any s _ _ _ _ W4 T2.out hl).mono ?_
  rintro e w5 ⟨rfl, hb⟩
  have HP := Hid.mk' (rowB HP.out hb)
  have HX := Hid.mk' (rowB HX.out hb)
  have HA := Hid.mk' (HA.out.below hb)
  have T2 := Hid.mk' (T2.out.below hb)
  have HB := Hid.mk' (HB.out.trans (hb.mono HB.out.size))
  clear hb d0 d1 d2 d3
  obtain ⟨c0, c1, c2, c3⟩ := cells3 HP.out
  obtain ⟨d0, d1, d2, d3⟩ := cells3 HX.out
  generalize bldF s = tf at *
  go_wp2
  go_region_held3 (fun w' => w'.cell? ⟨w.heap.size, 0, none⟩ = some (.slice a s.nd.length c) ∧ w'.cell? ⟨w.heap.size, 1, none⟩ = some (.slice p s.op.length c') ∧ w'.cell? ⟨w.heap.size, 2, none⟩ = some (.bool s.lg) ∧ w'.cell? ⟨w4.heap.size, 0, none⟩ = some (.slice (some ⟨g2, 0, none⟩) s.nd.length s.nd.length) ∧ w'.cell? ⟨w4.heap.size, 1, none⟩ = some (.slice (some ⟨h2, 0, none⟩) s.op.length s.op.length) ∧ w'.cell? ⟨w4.heap.size, 2, none⟩ = some (.bool s.lg)) (simp [*])
    (first | (go_at_call 7; refine (toBuild_at s a p c c' _ (HA.out.below (Below.refl _ _).drew) hl).mono ?_; rintro e w9 ⟨g9, h9, rfl, t9, hb9⟩; replace hb9 := undrew hb9; obtain ⟨hx1, hx2⟩ := bcell hb9; have z1 := hb9.size; have z2 : w.heap.size < w9.heap.size := (by omega); have z3 : w4.heap.size < w9.heap.size := (by omega)) | (go_at_call 9; refine (eqBuild_any s _ _ _ _ _ _ _ _ _ (T2.out.below hb9).1 t9.1 (T2.out.below hb9).2 t9.2 hl).mono ?_; rintro e wA ⟨rfl, hbA⟩; obtain ⟨hx3, hx4⟩ := bcell hbA))
  have HB := Hid.mk' (HB.out.trans ((hb9.trans (hbA.mono hb9.size)).mono HB.out.size))
  clear hx1 hx2 hx3 hx4 z1 z2 z3 hb9 hbA t9 c0 c1 c2 c3 d0 d1 d2 d3
  go_wp2
  go_ret
  exact ⟨rfl, HB.out⟩

end Go.Proofs.Ytpncbcmngfpkfaa
