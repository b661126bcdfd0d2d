/- The model's BuildFault, and the law on it. -/
import Derived.Test.YtpncbcmngfpkfaaU5
import Derived.Test.YtpncbcmngfpkfaaU1
import Derived.ShutString
import Derived.ChangeOld
import Derived.ChangeMaps5
import Derived.Lib.SmallJoins
import Derived.Deep.SlicePairs
import Derived.Test.YtpncbcmngfpkfaaU2
namespace Go.Proofs.Ytpncbcmngfpkfaa
open Go.RowKit
set_option linter.unusedVariables false
set_option linter.unusedSimpArgs false

set_option maxHeartbeats 3200000 in
theorem l7Fault_any (s : BS) (g : Nat) (a p : Option Addr) (c d : Nat) (w : World) (hr : w.rowIs g 30 3 (r3 (.slice a s.nd.length c) (.slice p s.op.length d) (.bool s.lg))) (ha : SAt w a p s) (hl : (s.nd.length : Int) + nssz s.nd + s.op.length ≤ 1048576) :
    Calls Try.prog 14 #[.pointer (some ⟨g, 0, none⟩)] w fun e w' => e = .returned (.int .i64 (bldF s)) ∧ Below w.heap.size w w' := by
  have KF := l6Fault_any a c s.nd w ha.1 (by omega)
  have HR := Hid.mk' hr
  have HA := Hid.mk' ha
  obtain ⟨x0, x1, x2, x3⟩ := cells3 hr
  clear ha hr
  by_cases h0 : treeF s.nd = 0
  rotate_left
  · have KF := Hid.mk' KF
    have E : Hid (bldF s = treeF s.nd) := Hid.mk' (by unfold bldF; rw [if_neg h0])
    generalize treeF s.nd = tf at *
    go_enter Try.func14, Try.ntmps14
    go_wp2_with fail
    refine KF.out.mono ?_
    rintro e w1 ⟨rfl, hb⟩
    have HB := Hid.mk' hb
    clear hb KF x0 x1 x2 x3
    go_wp2
    go_ret
    exact ⟨by rw [E.out]; rfl, HB.out⟩
  rw [h0] at KF
  have KF := Hid.mk' KF
  have H0 := Hid.mk' h0
  have E0 : Hid (bldF s = if s.lg = true ∧ (0 < s.nd.length ∨ 0 < s.op.length) then 1 else restF s.nd s.op) := Hid.mk' (by unfold bldF; rw [if_pos H0.out])
  clear h0
  go_enter Try.func14, Try.ntmps14
  go_wp2_with fail
  refine KF.out.mono ?_
  rintro e w1 ⟨rfl, hb⟩
  have HB := Hid.mk' hb
  have HR := Hid.mk' (rowB HR.out hb)
  have HA := Hid.mk' (HA.out.below hb)
  clear hb KF x0 x1 x2 x3
  obtain ⟨x0, x1, x2, x3⟩ := cells3 HR.out
  have KO := l7Opened_any s g a p c d w1 HR.out HA.out hl
  by_cases hbad : s.lg = true ∧ (0 < s.nd.length ∨ 0 < s.op.length)
  · have E : Hid (bldF s = 1) := Hid.mk' (by rw [E0.out, if_pos hbad])
    obtain ⟨hlg, hor⟩ := hbad
    rw [hlg] at x2
    clear hlg KO
    by_cases hn : 0 < s.nd.length
    · have hn' : decide (0 < s.nd.length) = true := decide_eq_true hn
      clear hn hor
      go_wp2_with (first | go_big_skip)
      go_ret
      exact ⟨by rw [E.out]; rfl, HB.out⟩
    · have ho' : decide (0 < s.op.length) = true := decide_eq_true (by omega)
      have hn' : decide (0 < s.nd.length) = false := decide_eq_false hn
      clear hn hor
      go_wp2_with (first | go_big_skip)
      go_ret
      exact ⟨by rw [E.out]; rfl, HB.out⟩
  have E1 : Hid (bldF s = restF s.nd s.op) := Hid.mk' (by rw [E0.out, if_neg hbad])
  have KT : Hid (∀ w', Below w1.heap.size w1 w' → Calls Try.prog 28 #[.slice p s.op.length d] w' fun e w'' => e = .returned (.int .i64 (aheadI s.op s.op.length)) ∧ w'' = w') := fun w' hb => l7Top_any p d s.op w' (HA.out.2.below hb) (by omega)
  have KI : Hid (∀ w', Below w1.heap.size w1 w' → Calls Try.prog 27 #[.slice a s.nd.length c, .int .i64 ((s.nd.length : Int) - 1), .int .i64 (aheadI s.op s.op.length)] w' fun e w'' => e = .returned (.bool (inW (wayU (upF s.nd) s.nd.length) (aheadI s.op s.op.length))) ∧ w'' = w') := fun w' hb => l6In_any a c s.nd s.nd.length (aheadI s.op s.op.length) w' (HA.out.1.below hb) (Nat.le_refl _) (treeF_ways H0.out) (by omega)
  have F9 : Hid (bldF s = restF s.nd s.op) := E1
  have lgc : (s.lg = false) ∨ (s.lg = true ∧ decide (0 < s.nd.length) = false ∧ decide (0 < s.op.length) = false) := by
    cases hlg : s.lg with
    | false => exact .inl rfl
    | true => exact .inr ⟨rfl, decide_eq_false fun h => hbad ⟨hlg, .inl h⟩, decide_eq_false fun h => hbad ⟨hlg, .inr h⟩⟩
  clear hbad E0 E1
  by_cases ho : opensF s.nd s.op = 0
  rotate_left
  · have E : Hid (bldF s = opensF s.nd s.op) := Hid.mk' (by rw [F9.out]; exact restF_hit rfl ho)
    have KO := Hid.mk' KO
    generalize opensF s.nd s.op = oc at *
    rcases lgc with hlg | ⟨hlg, hn', ho'⟩
    all_goals
      rw [hlg] at x2
      clear hlg
      go_wp2_with (first | go_big_skip | fail)
      refine KO.out.mono ?_
      rintro e w2 ⟨rfl, hw⟩
      obtain rfl := hw.symm
      go_wp2
      go_ret
      exact ⟨by rw [E.out]; rfl, HB.out⟩
  have HO := Hid.mk' ho
  rw [ho] at KO
  have KO := Hid.mk' KO
  clear ho
  by_cases h7 : 7 < s.op.length
  · have E : Hid (bldF s = 2) := Hid.mk' (by rw [F9.out]; exact restF_many HO.out h7)
    have h7' : (s.op.length : Int) > 7 := by omega
    clear h7
    rcases lgc with hlg | ⟨hlg, hn', ho'⟩
    all_goals
      rw [hlg] at x2
      clear hlg
      go_wp2_with (first | go_big_skip | fail)
      refine KO.out.mono ?_
      rintro e w2 ⟨rfl, hw⟩
      obtain rfl := hw.symm
      go_wp2
      go_ret
      exact ⟨by rw [E.out]; rfl, HB.out⟩
  have RE := Hid.mk' (restF_end H0.out HO.out h7)
  have h7' : ¬ (s.op.length : Int) > 7 := by omega
  clear h7
  by_cases hz : 0 < s.op.length
  · have hz' : decide (0 < s.op.length) = true := decide_eq_true hz
    have hlg : s.lg = false := by
      rcases lgc with hlg | ⟨_, _, ho'⟩
      · exact hlg
      · rw [ho'] at hz'; cases hz'
    rw [hlg] at x2
    clear hlg lgc hz
    cases hi : inW (wayU (upF s.nd) s.nd.length) (aheadI s.op s.op.length) with
    | true =>
      rw [hi] at KI RE
      have E : Hid (bldF s = 0) := Hid.mk' (by rw [F9.out, RE.out]; rfl)
      clear hi
      generalize aheadI s.op s.op.length = ah at *
      go_wp2_with (first | go_big_skip | fail)
      refine KO.out.mono ?_
      rintro e w2 ⟨rfl, hw⟩
      obtain rfl := hw.symm
      go_wp2_with fail
      go_quiet (first | (go_at_call 28; refine Calls.quiet_of_same (KT.out _ ?_); first | exact Below.refl _ _ | exact (Below.refl _ _).drew | exact below_drewN (Below.refl _ _) _) | (go_at_call 27; refine Calls.quiet_of_same (KI.out _ ?_); first | exact Below.refl _ _ | exact (Below.refl _ _).drew | exact below_drewN (Below.refl _ _) _))
      go_wp2
      go_ret
      exact ⟨by rw [E.out]; rfl, below_drewN HB.out _⟩
    | false =>
      rw [hi] at KI RE
      have E : Hid (bldF s = 1) := Hid.mk' (by rw [F9.out, RE.out]; rfl)
      clear hi
      generalize aheadI s.op s.op.length = ah at *
      go_wp2_with (first | go_big_skip | fail)
      refine KO.out.mono ?_
      rintro e w2 ⟨rfl, hw⟩
      obtain rfl := hw.symm
      go_wp2_with fail
      go_quiet (first | (go_at_call 28; refine Calls.quiet_of_same (KT.out _ ?_); first | exact Below.refl _ _ | exact (Below.refl _ _).drew | exact below_drewN (Below.refl _ _) _) | (go_at_call 27; refine Calls.quiet_of_same (KI.out _ ?_); first | exact Below.refl _ _ | exact (Below.refl _ _).drew | exact below_drewN (Below.refl _ _) _))
      go_wp2
      go_ret
      exact ⟨by rw [E.out]; rfl, below_drewN HB.out _⟩
  · have e9 : aheadI s.op s.op.length = -1 := by unfold aheadI; rw [if_pos (by omega)]
    have E : Hid (bldF s = 0) := Hid.mk' (by rw [F9.out, RE.out, e9, inW_none H0.out]; rfl)
    have hz' : decide (0 < s.op.length) = false := decide_eq_false hz
    clear hz KI KT e9
    rcases lgc with hlg | ⟨hlg, hn', ho'⟩
    all_goals
      rw [hlg] at x2
      clear hlg
      go_wp2_with (first | go_big_skip | fail)
      refine KO.out.mono ?_
      rintro e w2 ⟨rfl, hw⟩
      obtain rfl := hw.symm
      go_wp2_with fail
      go_quiet (fail)
      go_wp2
      go_ret
      exact ⟨by rw [E.out]; rfl, below_drewN HB.out _⟩

set_option maxHeartbeats 800000 in
theorem specBF_any (s : BS) (a p : Option Addr) (c d : Nat) (w : World) (ha : SAt w a p s) (hl : (s.nd.length : Int) + nssz s.nd + s.op.length ≤ 1048576) :
    Calls Try.prog 6 #[.agg #[.slice a s.nd.length c, .slice p s.op.length d, .bool s.lg]] w fun e w' => e = .returned (.int .i64 (bldF s)) ∧ Below w.heap.size w w' := by
  have N0 := below_new w (.cells #[.slice a s.nd.length c, .slice p s.op.length d, .bool s.lg] 30)
  have KF := Hid.mk' (l7Fault_any s w.heap.size a p c d _ (row3 w 30 (.slice a s.nd.length c) (.slice p s.op.length d) (.bool s.lg)) (ha.below N0) hl)
  have HN := Hid.mk' N0
  clear ha N0
  go_enter Try.func6, Try.ntmps6
  go_wp2_with fail
  refine KF.out.mono ?_
  rintro e w1 ⟨rfl, hb⟩
  have HB := Hid.mk' (HN.out.trans (hb.mono HN.out.size))
  clear hb KF
  go_wp2
  go_ret
  exact ⟨rfl, HB.out⟩

set_option maxRecDepth 100000 in
set_option maxHeartbeats 8000000 in
theorem lawBF_any (s : BS) (a p : Option Addr) (c c' : Nat) (w : World) (ha : SAt w a p s) (wa : WideN s.nd) (na : (s.nd.length : Int) ≤ 9223372036854775807) (ma : (s.op.length : Int) ≤ 9223372036854775807) :
    Calls Try.prog 3 #[.agg #[.slice a s.nd.length c, .slice p s.op.length c', .bool s.lg]] w fun e w' => e = .returned (.bool true) ∧ Below w.heap.size w w' := by
  have N0 := below_new w (.cells #[.slice a s.nd.length c, .slice p s.op.length c', .bool s.lg] 25)
  have KS := szBuild_any s a p c c' 1048576 _ (ha.below N0).1 wa na ma (by omega) (by omega)
  have HP := Hid.mk' (row3 w 25 (.slice a s.nd.length c) (.slice p s.op.length c') (.bool s.lg))
  have HA := Hid.mk' (ha.below N0)
  have HB := Hid.mk' N0
  clear ha N0 wa
  generalize hW : w.alloc (.cells #[.slice a s.nd.length c, .slice p s.op.length c', .bool s.lg] 25) = W at *
  obtain ⟨c0, c1, c2, c3⟩ := cells3 HP.out
  by_cases big : 1048576 < (s.nd.length : Int) + nssz s.nd + s.op.length
  · rw [if_pos big] at KS
    have KS := Hid.mk' KS
    go_enter Try.func3, Try.ntmps3
    go_wp2_with fail
    refine KS.out.mono ?_
    rintro e w1 ⟨rfl, hb⟩
    have HB := Hid.mk' (HB.out.trans (hb.mono HB.out.size))
    clear hb KS
    go_wp2
    go_ret
    exact ⟨rfl, HB.out⟩
  rw [if_neg big] at KS
  have KS := Hid.mk' KS
  have zz : ¬ (1048576 - (s.nd.length : Int) - nssz s.nd - s.op.length < 0) := by omega
  have hl : (s.nd.length : Int) + nssz s.nd + s.op.length ≤ 1048576 := by omega
  go_enter Try.func3, Try.ntmps3
  go_wp2_with fail
  clear hW
  refine KS.out.mono ?_
  rintro e w1 ⟨rfl, hb⟩
  have HP := Hid.mk' (rowB HP.out hb)
  have HA := Hid.mk' (HA.out.below hb)
  have HB := Hid.mk' (HB.out.trans (hb.mono HB.out.size))
  clear hb KS c0 c1 c2 c3 big
  obtain ⟨c0, c1, c2, c3⟩ := cells3 HP.out
  go_wp2_with fail
  clear zz
  refine (toBuild_at s a p c c' w1 HA.out hl).mono ?_
  rintro e w2 ⟨g1, h1, rfl, t1, hb⟩
  have HP := Hid.mk' (rowB HP.out hb)
  have HA := Hid.mk' (HA.out.below hb)
  have HB := Hid.mk' (HB.out.trans (hb.mono HB.out.size))
  have T1 := Hid.mk' t1
  clear hb t1 c0 c1 c2 c3
  go_wp2_with fail
  refine (specBF_any s _ _ _ _ w2 T1.out hl).mono ?_
  rintro e w3 ⟨rfl, hb⟩
  have HP := Hid.mk' (rowB HP.out hb)
  have HA := Hid.mk' (HA.out.below hb)
  have HB := Hid.mk' (HB.out.trans (hb.mono HB.out.size))
  clear hb T1
  obtain ⟨c0, c1, c2, c3⟩ := cells3 HP.out
  go_wp2_with fail
  refine (toBuild_at s a p c c' w3 HA.out hl).mono ?_
  rintro e w4 ⟨g2, h2, rfl, t2, hb⟩
  have N4 := below_new w4 (.cells #[.slice (some ⟨g2, 0, none⟩) s.nd.length s.nd.length, .slice (some ⟨h2, 0, none⟩) s.op.length s.op.length, .bool s.lg] 30)
  have M4 := hb.trans (N4.mono hb.size)
  have HP := Hid.mk' (rowB HP.out M4)
  have HA := Hid.mk' (HA.out.below M4)
  have HB := Hid.mk' (HB.out.trans (M4.mono HB.out.size))
  have T2 := Hid.mk' (t2.below N4)
  have HX := Hid.mk' (row3 w4 30 (.slice (some ⟨g2, 0, none⟩) s.nd.length s.nd.length) (.slice (some ⟨h2, 0, none⟩) s.op.length s.op.length) (.bool s.lg))
  clear hb t2 N4 M4 c0 c1 c2 c3
  generalize hW4 : w4.alloc (.cells #[.slice (some ⟨g2, 0, none⟩) s.nd.length s.nd.length, .slice (some ⟨h2, 0, none⟩) s.op.length s.op.length, .bool s.lg] 30) = W4 at *
  obtain ⟨d0, d1, d2, d3⟩ := cells3 HX.out
  go_wp2_with fail
  clear hW4
  refine (implBF_any s _ _ _ _ W4 T2.out hl).mono ?_
  rintro e w5 ⟨rfl, hb⟩
  have HP := Hid.mk' (rowB HP.out hb)
  have HX := Hid.mk' (rowB HX.out hb)
  have HA := Hid.mk' (HA.out.below hb)
  have T2 := Hid.mk' (T2.out.below hb)
  have HB := Hid.mk' (HB.out.trans (hb.mono HB.out.size))
  clear hb d0 d1 d2 d3
  obtain ⟨c0, c1, c2, c3⟩ := cells3 HP.out
  obtain ⟨d0, d1, d2, d3⟩ := cells3 HX.out
  generalize bldF s = tf at *
  go_wp2
  go_region_held3 (fun w' => w'.cell? ⟨w.heap.size, 0, none⟩ = some (.slice a s.nd.length c) ∧ w'.cell? ⟨w.heap.size, 1, none⟩ = some (.slice p s.op.length c') ∧ w'.cell? ⟨w.heap.size, 2, none⟩ = some (.bool s.lg) ∧ w'.cell? ⟨w4.heap.size, 0, none⟩ = some (.slice (some ⟨g2, 0, none⟩) s.nd.length s.nd.length) ∧ w'.cell? ⟨w4.heap.size, 1, none⟩ = some (.slice (some ⟨h2, 0, none⟩) s.op.length s.op.length) ∧ w'.cell? ⟨w4.heap.size, 2, none⟩ = some (.bool s.lg)) (simp [*])
    (first | (go_at_call 7; refine (toBuild_at s a p c c' _ (HA.out.below (Below.refl _ _).drew) hl).mono ?_; rintro e w9 ⟨g9, h9, rfl, t9, hb9⟩; replace hb9 := undrew hb9; obtain ⟨hx1, hx2⟩ := bcell hb9; have z1 := hb9.size; have z2 : w.heap.size < w9.heap.size := (by omega); have z3 : w4.heap.size < w9.heap.size := (by omega)) | (go_at_call 9; refine (eqBuild_any s _ _ _ _ _ _ _ _ _ (T2.out.below hb9).1 t9.1 (T2.out.below hb9).2 t9.2 hl).mono ?_; rintro e wA ⟨rfl, hbA⟩; obtain ⟨hx3, hx4⟩ := bcell hbA))
  have HB := Hid.mk' (HB.out.trans ((hb9.trans (hbA.mono hb9.size)).mono HB.out.size))
  clear hx1 hx2 hx3 hx4 z1 z2 z3 hb9 hbA t9 c0 c1 c2 c3 d0 d1 d2 d3
  go_wp2
  go_ret
  exact ⟨rfl, HB.out⟩

end Go.Proofs.Ytpncbcmngfpkfaa

/- From the reading of an argument to tokens that lie in memory. -/
namespace Go.Proofs.Ytpncbcmngfpkfaa
open Go.ChangeShapes Go.WideShapes Go.ChangeAt Go.RowKit Go.Deep
set_option linter.unusedVariables false

theorem own : ownKnob Try.prog.godebug = none := by kernel_rfl

theorem laidOut : laidOutB Try.prog = true := by kernel_rfl

theorem Try.cells5 : Try.prog.cellsOf 5 = 1 := by kernel_rfl

theorem Try.cells4 : Try.prog.cellsOf 4 = 1 := by kernel_rfl

theorem Try.cells2 : Try.prog.cellsOf 2 = 1 := by kernel_rfl

theorem Try.cells9 : Try.prog.cellsOf 9 = 1 := by kernel_rfl

theorem Try.cells91 : Try.prog.cellsOf 91 = 2 := by kernel_rfl

theorem Try.cells52 : Try.prog.cellsOf 52 = 1 := by kernel_rfl

theorem Try.cells51 : Try.prog.cellsOf 51 = 1 := by kernel_rfl

theorem cell_lt {w : World} {a : Addr} {v : Value} (h : w.cell? a = some v) : a.block < w.heap.size := by
  unfold World.cell? at h
  by_cases hb : a.block < w.heap.size
  · exact hb
  · rw [Array.getElem?_eq_none (by omega)] at h
    simp at h

/-- An address at which cells lie is plain. -/
theorem plain_addr {w : World} {a : Addr} {v : Value} (h : w.cell? a = some v) : ∃ b o, a = ⟨b, o, none⟩ := by
  obtain ⟨b, o, s⟩ := a
  have hs := World.cell?_spot h
  simp at hs
  subst hs
  exact ⟨b, o, rfl⟩

theorem open_bytes {H : Type} {enc : TypeId × Value → H} {W : World} {spare : Nat → Bool} {held : Bool} {fuel : Nat} {v : Value} {x : DataW H × List MemPlace} (h : DataW.trod enc Try.prog W 0 spare held fuel 52 [v] = some x) :
    ∃ a c l, v = .slice a l.length c ∧ BAt W a l ∧ (l.length : Int) ≤ 9223372036854775807 ∧ ∀ k, k < l.length → 0 ≤ l.getD k 0 ∧ l.getD k 0 ≤ 255 := by
  rcases open_ints Try.underlying52 Try.underlying5 Try.cells5 h with ⟨hcs, _⟩ | ⟨a, len, cap, zs, hcs, _, hl, hm, hz, _, hcell, hwz⟩
  · simp at hcs
    subst hcs
    exact ⟨none, 0, [], rfl, .inl rfl, by simp, by simp⟩
  · simp at hcs
    subst hcs
    have hlz : len ≤ zs.length := by rw [hz]; split <;> omega
    have hlen : (zs.take len).length = len := by rw [List.length_take]; omega
    unfold maxLen at hm
    refine ⟨some a, cap, zs.take len, by rw [hlen], ?_, by rw [hlen]; omega, fun k hk => ?_⟩
    · by_cases h0 : len = 0
      · left; subst h0; simp
      · right
        have c0 := hcell 0 (by omega)
        have e0 : a.add 0 = a := by unfold Addr.add; split <;> simp_all
        rw [e0] at c0
        obtain ⟨b, o, rfl⟩ := plain_addr c0
        refine ⟨b, o, rfl, cell_lt c0, fun k hk => ?_⟩
        rw [hlen] at hk
        have ck := hcell k (by omega)
        rw [Addr.add_mid] at ck
        rw [ck]
        unfold bv
        congr 2
        simp [hk]
    · rw [hlen] at hk
      have e : (zs.take len).getD k 0 = zs[k]'(by omega) := by simp [hk, show k < zs.length from by omega]
      rw [e]
      exact bounds_u8 (hwz _ (List.getElem_mem _))

set_option maxRecDepth 100000 in
theorem open_attrs {H : Type} {enc : TypeId × Value → H} {W : World} {spare : Nat → Bool} {held : Bool} {fuel : Nat} {v : Value} {x : DataW H × List MemPlace} (h : DataW.trod enc Try.prog W 0 spare held fuel 51 [v] = some x) :
    ∃ a c l, v = .slice a l.length c ∧ AAt W a l ∧ (l.length : Int) ≤ 9223372036854775807 ∧ Wide l := by
  rcases Deep.open_slice Try.underlying51 h with ⟨hcs, _⟩ | ⟨a, len, cap, m, n, D, Pl, hcs, _, hl, hm, hmm, _, hx⟩
  · simp at hcs
    subst hcs
    exact ⟨none, 0, [], rfl, .inl rfl, by simp, fun k hk => absurd hk (Nat.not_lt_zero _)⟩
  · simp at hcs
    subst hcs
    have hlm : len ≤ m := by rw [hmm]; split <;> omega
    have each : ∀ i, i < len → ∃ p : AT, W.cell? (a.add (i * 2)) = some (.string p.nm) ∧ (∃ q c, W.cell? (a.add (i * 2 + 1)) = some (.slice q p.vl.length c) ∧ BAt W q p.vl) ∧ (p.nm.size : Int) ≤ 9223372036854775807 ∧ (p.vl.length : Int) ≤ 9223372036854775807 := by
      intro i hi
      obtain ⟨cs', h1, h2⟩ := hx i (by omega)
      rw [Try.cells91] at h1
      obtain ⟨_, hlen, hcell⟩ := World.cells?_some h1
      obtain ⟨y0, y1, n', _, _, t0, t1⟩ := trod_struct2 Try.underlying91 h2
      match cs', hlen with
      | [u0, u1], _ =>
        simp [Try.cells9, Try.cells52] at t0 t1
        obtain ⟨s, e0, _, ws⟩ := DataW.trod_string Try.underlying9 t0
        obtain ⟨q, c, l, rfl, hb, hm2, _⟩ := open_bytes t1
        simp at e0
        subst e0
        have q0 := hcell 0 (by omega)
        have q1 := hcell 1 (by omega)
        rw [Deep.add_add] at q0 q1
        exact ⟨⟨s, l⟩, by simpa using q0, ⟨q, c, by simpa using q1, hb⟩, by unfold maxLen at ws; show (s.size : Int) ≤ 9223372036854775807; omega, hm2⟩
    obtain ⟨q, hq⟩ := @Deep.choose_lt AT ⟨⟨⟨#[]⟩, []⟩⟩ _ _ each
    have hlen : ((List.range len).map q).length = len := by simp
    have hpc : ∀ k, k < len → atK ((List.range len).map q) k = q k := fun k hk => by unfold atK; simp [hk]
    unfold maxLen at hm
    refine ⟨some a, cap, (List.range len).map q, by rw [hlen], ?_, by rw [hlen]; omega, fun k hk => ?_⟩
    · by_cases h0 : len = 0
      · left; subst h0; simp
      · right
        have c0 := (hq 0 (by omega)).1
        have e0 : a.add (0 * 2) = a := by unfold Addr.add; split <;> simp_all
        rw [e0] at c0
        obtain ⟨b, o, rfl⟩ := plain_addr c0
        refine ⟨b, o, rfl, cell_lt c0, fun k hk => ?_⟩
        rw [hlen] at hk
        obtain ⟨k0, ⟨p, c, k1, k2⟩, _⟩ := hq k hk
        rw [Addr.add_mid] at k0 k1
        rw [hpc k hk]
        exact ⟨k0, p, c, k1, k2⟩
    · rw [hlen] at hk
      rw [hpc k hk]
      exact (hq k hk).2.2

theorem array5 {α : Type} {cs : Array α} (h : cs.size = 5) : ∃ c0 c1 c2 c3 c4, cs = #[c0, c1, c2, c3, c4] := by
  obtain ⟨l⟩ := cs
  match l, h with
  | [c0, c1, c2, c3, c4], _ => exact ⟨c0, c1, c2, c3, c4, rfl⟩

end Go.Proofs.Ytpncbcmngfpkfaa

/- From the reading of an argument to lists of nodes that lie in memory. -/
namespace Go.Proofs.Ytpncbcmngfpkfaa
open Go.ChangeShapes Go.WideShapes Go.ChangeAt Go.RowKit Go.Deep
set_option linter.unusedVariables false
set_option linter.constructorNameAsVariable false
set_option maxRecDepth 100000

theorem Try.cells54 : Try.prog.cellsOf 54 = 4 := by kernel_rfl

theorem slice_cap {H : Type} {enc : TypeId × Value → H} {W : World} {spare : Nat → Bool} {held : Bool} {fuel : Nat} {t e : TypeId} (ht : Try.prog.underlying t = some (.slice e)) {a : Option Addr} {n c : Nat} {x : DataW H × List MemPlace} (h : DataW.trod enc Try.prog W 0 spare held fuel t [.slice a n c] = some x) : n ≤ c := by
  rcases Deep.open_slice ht h with ⟨hcs, _⟩ | ⟨a', len, cap, m, n', D, Pl, hcs, _, hl, _⟩
  · simp at hcs; omega
  · simp at hcs; omega

theorem open_nodes {H : Type} {enc : TypeId × Value → H} {W : World} {spare : Nat → Bool} {held : Bool} {fuel : Nat} {v : Value} {x : DataW H × List MemPlace} (h : DataW.trod enc Try.prog W 0 spare held fuel 22 [v] = some x) :
    ∃ a c l, v = .slice a l.length c ∧ NsAt W a l ∧ WideN l ∧ (l.length : Int) ≤ 9223372036854775807 := by
  rcases Deep.open_slice Try.underlying22 h with ⟨hcs, _⟩ | ⟨a, len, cap, m, n, D, Pl, hcs, _, hl, hm, hmm, _, hx⟩
  · simp at hcs
    subst hcs
    exact ⟨none, 0, [], rfl, .inl rfl, fun k hk => absurd hk (Nat.not_lt_zero _), by simp⟩
  · simp at hcs
    subst hcs
    have hlm : len ≤ m := by rw [hmm]; split <;> omega
    have each : ∀ i, i < len → ∃ t : ND, W.cell? (a.add (i * 4)) = some (.int .i64 t.up) ∧ W.cell? (a.add (i * 4 + 1)) = some (.string t.tg) ∧ (∃ q c, W.cell? (a.add (i * 4 + 2)) = some (.slice q t.at_.length c) ∧ t.at_.length ≤ c ∧ AAt W q t.at_) ∧ (∃ q c, W.cell? (a.add (i * 4 + 3)) = some (.slice q t.tx.length c) ∧ BAt W q t.tx) ∧ Wide t.at_ ∧ (t.tg.size : Int) ≤ 9223372036854775807 ∧ (t.at_.length : Int) ≤ 9223372036854775807 ∧ (t.tx.length : Int) ≤ 9223372036854775807 := by
      intro i hi
      obtain ⟨cs', h1, h2⟩ := hx i (by omega)
      rw [Try.cells54] at h1
      obtain ⟨_, hlen, hcell⟩ := World.cells?_some h1
      obtain ⟨xs, n', _, _, hl', hlen', hfs⟩ := DataW.trod_struct Try.underlying54 h2
      match cs', hlen with
      | [u0, u1, u2, u3], _ =>
      match xs, hlen' with
      | [z0, z1, z2, z3], _ =>
        have t0 := hfs 0 _ rfl
        have t1 := hfs 1 _ rfl
        have t2 := hfs 2 _ rfl
        have t3 := hfs 3 _ rfl
        simp [Try.cells2, Try.cells9, Try.cells52, Try.cells51] at t0 t1 t2 t3
        obtain ⟨up, e0, _, _⟩ := DataW.trod_int Try.underlying2 t0
        obtain ⟨tg, e1, _, ws⟩ := DataW.trod_string Try.underlying9 t1
        obtain ⟨q, c, l, rfl, ha, hll, hw⟩ := open_attrs t2
        have hcap := slice_cap Try.underlying51 t2
        obtain ⟨q', c', l', rfl, hb, hm2, _⟩ := open_bytes t3
        simp at e0 e1
        subst e0 e1
        have q0 := hcell 0 (by omega)
        have q1 := hcell 1 (by omega)
        have q2 := hcell 2 (by omega)
        have q3 := hcell 3 (by omega)
        rw [Deep.add_add] at q0 q1 q2 q3
        exact ⟨⟨up, tg, l, l'⟩, by simpa using q0, by simpa using q1, ⟨q, c, by simpa using q2, hcap, ha⟩, ⟨q', c', by simpa using q3, hb⟩, hw, by unfold maxLen at ws; show (tg.size : Int) ≤ 9223372036854775807; omega, hll, hm2⟩
    obtain ⟨q, hq⟩ := @Deep.choose_lt ND ⟨⟨0, ⟨#[]⟩, [], []⟩⟩ _ _ each
    have hlen : ((List.range len).map q).length = len := by simp
    have hpc : ∀ k, k < len → ndK ((List.range len).map q) k = q k := fun k hk => by unfold ndK; simp [hk]
    unfold maxLen at hm
    refine ⟨some a, cap, (List.range len).map q, by rw [hlen], ?_, fun k hk => ?_, by rw [hlen]; omega⟩
    · by_cases h0 : len = 0
      · left; subst h0; simp
      · right
        have c0 := (hq 0 (by omega)).1
        have e0 : a.add (0 * 4) = a := by unfold Addr.add; split <;> simp_all
        rw [e0] at c0
        obtain ⟨b, o, rfl⟩ := plain_addr c0
        refine ⟨b, o, rfl, cell_lt c0, fun k hk => ?_⟩
        rw [hlen] at hk
        obtain ⟨k0, k1, ⟨p, c, k2, k3, k4⟩, ⟨p', c', k5, k6⟩, _⟩ := hq k hk
        rw [Addr.add_mid] at k0 k1 k2 k5
        rw [hpc k hk]
        exact ⟨k0, k1, ⟨p, c, k2, k3, k4⟩, ⟨p', c', k5, k6⟩⟩
    · rw [hlen] at hk
      rw [hpc k hk]
      exact (hq k hk).2.2.2.2

/-- What a law is told of a list of nodes that came in. -/
theorem open_nodesV {H : Type} {enc : TypeId × Value → H} {W : World} {base : Nat} {spare : Nat → Bool} {held : Bool} {v : Value} {d : DataW H} {p : List MemPlace}
    (hv : Value.okWide Try.prog W .any base 22 v) (h : DataW.Trod enc Try.prog W 0 spare held 22 v d p) :
    ∃ a c l, v = .slice a l.length c ∧ NsAt W a l ∧ WideN l ∧ (l.length : Int) ≤ 9223372036854775807 := by
  obtain ⟨a0, len, cap, rfl⟩ := okWide_slice Try.underlying22 hv
  obtain ⟨fuel, hf⟩ := h
  exact open_nodes (by simpa [Value.cells] using hf)

end Go.Proofs.Ytpncbcmngfpkfaa

/- From the reading of an argument to a state of a builder that lies in memory. -/
namespace Go.Proofs.Ytpncbcmngfpkfaa
open Go.ChangeShapes Go.WideShapes Go.ChangeAt Go.RowKit Go.Deep
set_option linter.unusedVariables false
set_option linter.constructorNameAsVariable false
set_option maxRecDepth 100000

theorem Try.cells25 : Try.prog.cellsOf 25 = 3 := by kernel_rfl

theorem Try.cells22 : Try.prog.cellsOf 22 = 1 := by kernel_rfl

theorem Try.cells23 : Try.prog.cellsOf 23 = 1 := by kernel_rfl

theorem open_i64s {H : Type} {enc : TypeId × Value → H} {W : World} {spare : Nat → Bool} {held : Bool} {fuel : Nat} {v : Value} {x : DataW H × List MemPlace} (h : DataW.trod enc Try.prog W 0 spare held fuel 23 [v] = some x) :
    ∃ a c l, v = .slice a l.length c ∧ IAt W a l ∧ (l.length : Int) ≤ 9223372036854775807 := by
  rcases open_ints Try.underlying23 Try.underlying2 Try.cells2 h with ⟨hcs, _⟩ | ⟨a, len, cap, zs, hcs, _, hl, hm, hz, _, hcell, hwz⟩
  · simp at hcs
    subst hcs
    exact ⟨none, 0, [], rfl, .inl rfl, by simp⟩
  · simp at hcs
    subst hcs
    have hlz : len ≤ zs.length := by rw [hz]; split <;> omega
    have hlen : (zs.take len).length = len := by rw [List.length_take]; omega
    unfold maxLen at hm
    refine ⟨some a, cap, zs.take len, by rw [hlen], ?_, by rw [hlen]; omega⟩
    by_cases h0 : len = 0
    · left; subst h0; simp
    · right
      have c0 := hcell 0 (by omega)
      have e0 : a.add 0 = a := by unfold Addr.add; split <;> simp_all
      rw [e0] at c0
      obtain ⟨b, o, rfl⟩ := plain_addr c0
      refine ⟨b, o, rfl, cell_lt c0, fun k hk => ?_⟩
      rw [hlen] at hk
      have ck := hcell k (by omega)
      rw [Addr.add_mid] at ck
      rw [ck]
      unfold wv
      congr 2
      simp [hk]

/-- What a law is told of a state that came in. -/
theorem open_build {H : Type} {enc : TypeId × Value → H} {W : World} {base : Nat} {spare : Nat → Bool} {held : Bool} {v : Value} {d : DataW H} {p : List MemPlace}
    (hv : Value.okWide Try.prog W .any base 25 v) (h : DataW.Trod enc Try.prog W 0 spare held 25 v d p) :
    ∃ s a q c c', v = .agg #[.slice a s.nd.length c, .slice q s.op.length c', .bool s.lg] ∧ SAt W a q s ∧ WideN s.nd ∧ (s.nd.length : Int) ≤ 9223372036854775807 ∧ (s.op.length : Int) ≤ 9223372036854775807 := by
  obtain ⟨cs, rfl, hsz⟩ := okWide_struct Try.underlying25 hv
  obtain ⟨fuel, hf⟩ := h
  obtain ⟨xs, n, _, _, hl, hlen, hall⟩ := DataW.trod_struct Try.underlying25 hf
  have h0 := hall 0 _ rfl
  have h1 := hall 1 _ rfl
  have h2 := hall 2 _ rfl
  rw [Try.cells25] at hsz
  obtain ⟨l⟩ := cs
  match l, hsz, xs, hlen with
  | [c0, c1, c2], _, [y0, y1, y2], _ =>
    simp [Try.cells22, Try.cells23, Try.cells4, Value.cells] at h0 h1 h2
    obtain ⟨a, c, l, rfl, hb, hw, hm⟩ := open_nodes h0
    obtain ⟨q, c', o, rfl, hq, hm2⟩ := open_i64s h1
    obtain ⟨b, hb2, _⟩ := DataW.trod_bool Try.underlying4 h2
    simp at hb2
    subst hb2
    exact ⟨⟨l, o, b⟩, a, q, c, c', rfl, ⟨hb, hq⟩, hw, hm, hm2⟩

end Go.Proofs.Ytpncbcmngfpkfaa
