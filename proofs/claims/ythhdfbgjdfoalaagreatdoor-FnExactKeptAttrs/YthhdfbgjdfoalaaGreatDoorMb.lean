/- Walks: how many quarters; is it a width: both sides, and the law. -/
import Derived.Test.YthhdfbgjdfoalaaGreatDoorMa
import Derived.BigGuard
namespace Go.Proofs.YthhdfbgjdfoalaaGreatDoor
open Go.RowKit
open Ieee
set_option linter.unusedVariables false

theorem mul4_some (r : Nat) (h : r < 4666723172467343360) : ∃ p, double.mul r 4616189618054758400 = some p ∧ p < 9218868437227405312 := by
  by_cases c0 : r = 0
  · subst c0; exact ⟨0, mul4_zero, by decide⟩
  by_cases c1 : r < 4503599627370496
  · obtain ⟨p, h1, _, h2⟩ := mul4_sub r (by omega) c1
    exact ⟨p, h1, by omega⟩
  · exact ⟨_, mul4_norm r (by omega) (by omega), by omega⟩

theorem isQuarters_any (n : Nat) (w : World) (h : n < 18446744073709551616) :
    Calls Tryz.prog 143 #[.float .f64 n] w fun e w' => e = .returned (.bool (implQ (n % 9223372036854775808))) ∧ w' = w := by
  have K := Hid.mk' (abs_any n w h)
  unfold implQ
  have hr : n % 9223372036854775808 < 9223372036854775808 := Nat.mod_lt _ (by decide)
  generalize n % 9223372036854775808 = r at *
  have L := lt_tenK r hr
  by_cases c : r < 4666723172467343360
  · obtain ⟨p, hp, hlt⟩ := mul4_some r c
    rw [decide_eq_true c] at L
    have KT := Hid.mk' (trunc_any p w hlt)
    have hm : ∀ w : World, (binOp .mul 159 (.float .f64 r) (.float .f64 4616189618054758400)).run Tryz.prog w = .ok (.float .f64 p) w := fun w => run_float_arith w _ _ _ _ _ _ hp
    have ho : (FloatKind.f64.format.order r 4666723172467343360 == some .lt) = true := L
    rw [L, hp]
    simp only [Bool.true_and]
    clear L hp
    go_enter Tryz.func143, Tryz.ntmps143
    go_wp2_with fail
    refine K.out.mono ?_
    rintro e w1 ⟨rfl, rfl⟩
    go_wp2_with fail
    refine KT.out.mono ?_
    rintro e w2 ⟨rfl, rfl⟩
    go_wp2
    go_ret
    exact ⟨rfl, rfl⟩
  · rw [decide_eq_false c] at L
    have ho : (FloatKind.f64.format.order r 4666723172467343360 == some .lt) = false := L
    rw [L]
    simp only [Bool.false_and]
    clear L
    go_enter Tryz.func143, Tryz.ntmps143
    go_wp2_with fail
    refine K.out.mono ?_
    rintro e w1 ⟨rfl, rfl⟩
    go_wp2
    go_ret
    exact ⟨rfl, rfl⟩

theorem l1In_any (v lo hi : Int) (w : World) :
    Calls Tryz.prog 139 #[.int .i64 v, .int .i64 lo, .int .i64 hi] w fun e w' => e = .returned (.bool (decide (lo ≤ v) && decide (v ≤ hi))) ∧ w' = w := by
  by_cases d1 : lo ≤ v
  · rw [show (decide (lo ≤ v) && decide (v ≤ hi)) = decide (v ≤ hi) from by simp [d1]]
    go_enter Tryz.func139, Tryz.ntmps139
    go_wp2
    go_ret
    exact ⟨rfl, rfl⟩
  · have d4 : decide (lo ≤ v) = false := by simpa using d1
    rw [show (decide (lo ≤ v) && decide (v ≤ hi)) = false from by simp [d4]]
    clear d1
    go_enter Tryz.func139, Tryz.ntmps139
    go_wp2
    go_ret
    exact ⟨rfl, rfl⟩

theorem l3Quarters_any (n : Nat) (w : World) (h : n < 9223372036854775808) :
    Calls Tryz.prog 119 #[.int .i64 (n : Int)] w fun e w' => e = .returned (.int .i64 (quarters n)) ∧ w' = w := by
  unfold quarters
  by_cases c0 : n = 0
  · subst c0
    go_enter Tryz.func119, Tryz.ntmps119
    go_wp2
    go_ret
    exact ⟨rfl, rfl⟩
  rw [if_neg c0]
  have e0 : ((n : Int) == 0) = false := by rw [beq_eq_false_iff_ne]; omega
  by_cases c1 : 1021 ≤ n / 4503599627370496 ∧ n / 4503599627370496 ≤ 1037
  · rw [if_pos c1]
    obtain ⟨k, hk⟩ : ∃ k, n / 4503599627370496 = 1021 + k := ⟨n / 4503599627370496 - 1021, by omega⟩
    obtain ⟨m, hm⟩ : ∃ m, 4503599627370496 + n % 4503599627370496 = m := ⟨_, rfl⟩
    obtain ⟨u, hu⟩ : ∃ u, 2 ^ (52 - k) = u := ⟨_, rfl⟩
    rw [hk, show 1021 + k - 1021 = k from by omega, hm, hu]
    have k16 : k ≤ 16 := by omega
    have u0 : 0 < u := by rw [← hu]; exact Nat.two_pow_pos _
    have eu : (4503599627370496 : Int) / 2 ^ k = (u : Int) := by
      have e : 2 ^ (52 - k) * 2 ^ k = 4503599627370496 := by rw [← Nat.pow_add, show 52 - k + k = 52 from by omega]
      rw [hu] at e
      have e' : (4503599627370496 : Int) = (u : Int) * 2 ^ k := by
        have := congrArg (fun x : Nat => (x : Int)) e
        simpa using this.symm
      rw [e', Int.mul_ediv_cancel _ (by
        have : (0 : Int) < 2 ^ k := Int.pow_pos (by decide)
        omega)]
    have hE : (n : Int) / 4503599627370496 = 1021 + (k : Int) := by omega
    have em : 4503599627370496 + (n : Int) % 4503599627370496 = (m : Int) := by omega
    have m1 : m < 9007199254740992 := by omega
    have u1 : ¬ (u : Int) = 0 := by omega
    have K : Hid (∀ x : Int, x = k → Calls Tryz.prog 139 #[.int .i64 x, .int .i64 0, .int .i64 16] w fun e w' => e = .returned (.bool true) ∧ w' = w) := by
      intro x hx
      have h := l1In_any x 0 16 w
      rw [show (decide (0 ≤ x) && decide (x ≤ 16)) = true from by simp; omega] at h
      exact h
    obtain ⟨r, hr⟩ : ∃ r, m % u = r := ⟨_, rfl⟩
    obtain ⟨q, hq⟩ : ∃ q, m / u = q := ⟨_, rfl⟩
    have er : (m : Int) % (u : Int) = (r : Int) := by rw [← hr]; omega
    have ed : (m : Int) / (u : Int) = (q : Int) := by rw [← hq]; omega
    have qb : q < 9007199254740992 := by rw [← hq]; exact Nat.lt_of_le_of_lt (Nat.div_le_self _ _) m1
    rw [hr, hq]
    clear hu hk hm c0 c1 hr hq
    by_cases d1 : r = 0
    · by_cases d2 : q ≤ 39999
      · rw [if_pos ⟨d1, d2⟩]
        have d3 : ¬ (39999 : Int) < (q : Int) := by omega
        have d4 : (r : Int) = 0 := by omega
        go_enter Tryz.func119, Tryz.ntmps119
        go_wp2_with fail
        refine (K.out _ (by omega)).mono ?_
        rintro e w1 ⟨rfl, rfl⟩
        clear K
        go_wp2
        go_ret
        exact ⟨rfl, rfl⟩
      · rw [if_neg (fun x => d2 x.2)]
        have d3 : (39999 : Int) < (q : Int) := by omega
        have d4 : (r : Int) = 0 := by omega
        go_enter Tryz.func119, Tryz.ntmps119
        go_wp2_with fail
        refine (K.out _ (by omega)).mono ?_
        rintro e w1 ⟨rfl, rfl⟩
        clear K
        go_wp2
        go_ret
        exact ⟨rfl, rfl⟩
    · rw [if_neg (fun x => d1 x.1)]
      have d4 : ((r : Int) != 0) = true := by rw [bne_iff_ne]; omega
      go_enter Tryz.func119, Tryz.ntmps119
      go_wp2_with fail
      refine (K.out _ (by omega)).mono ?_
      rintro e w1 ⟨rfl, rfl⟩
      clear K
      go_wp2
      go_ret
      exact ⟨rfl, rfl⟩
  · rw [if_neg c1]
    have K : Hid (∀ x : Int, x = ((n / 4503599627370496 : Nat) : Int) - 1021 → Calls Tryz.prog 139 #[.int .i64 x, .int .i64 0, .int .i64 16] w fun e w' => e = .returned (.bool false) ∧ w' = w) := by
      intro x hx
      have h := l1In_any x 0 16 w
      rw [show (decide (0 ≤ x) && decide (x ≤ 16)) = false from by
        cases h : (decide (0 ≤ x) && decide (x ≤ 16)) with
        | false => rfl
        | true => simp at h; omega] at h
      exact h
    go_enter Tryz.func119, Tryz.ntmps119
    go_wp2_with fail
    refine (K.out _ (by omega)).mono ?_
    rintro e w1 ⟨rfl, rfl⟩
    go_wp2
    go_ret
    exact ⟨rfl, rfl⟩

/-- Is it a width. -/
def width (b : Int) : Bool := decide (0 ≤ quarters (rung b)) && (decide (0 ≤ b) || decide (rung b = 0))

set_option maxRecDepth 100000 in
theorem l3Width_any (b : Int) (w : World) (h1 : -9223372036854775808 ≤ b) (h2 : b ≤ 9223372036854775807) :
    Calls Tryz.prog 99 #[.int .i64 b] w fun e w' => e = .returned (.bool (width b)) ∧ w' = w := by
  have hl := rung_lt h1 h2
  have K := Hid.mk' (size_any b w h1 h2)
  have KQ := Hid.mk' (l3Quarters_any (rung b) w hl)
  unfold width
  have hz : decide (rung b = 0) = ((rung b : Int) == 0) := by
    by_cases c : rung b = 0
    · rw [c]; rfl
    · rw [decide_eq_false c]; symm; rw [beq_eq_false_iff_ne]; omega
  have hhigh : 9218868437227405312 ≤ rung b → quarters (rung b) = -1 := fun h => quarters_high _ (by omega)
  rw [hz]
  clear hz
  generalize rung b = n at *
  by_cases c : n < 9218868437227405312
  · have ci : (n : Int) < 9218868437227405312 := by omega
    clear hhigh
    generalize quarters n = q at *
    by_cases d : 0 ≤ q
    · by_cases d3 : 0 ≤ b
      · rw [show (decide (0 ≤ q) && (decide (0 ≤ b) || ((n : Int) == 0))) = true from by simp [d, d3]]
        go_enter Tryz.func99, Tryz.ntmps99
        go_wp2_with fail
        refine K.out.mono ?_
        rintro e w1 ⟨rfl, rfl⟩
        go_wp2_with fail
        refine KQ.out.mono ?_
        rintro e w2 ⟨rfl, rfl⟩
        go_wp2
        go_ret
        exact ⟨by simp, rfl⟩
      · have d4 : decide (0 ≤ b) = false := decide_eq_false d3
        rw [show (decide (0 ≤ q) && (decide (0 ≤ b) || ((n : Int) == 0))) = ((n : Int) == 0) from by simp [d, d3]]
        go_enter Tryz.func99, Tryz.ntmps99
        go_wp2_with fail
        refine K.out.mono ?_
        rintro e w1 ⟨rfl, rfl⟩
        go_wp2_with fail
        refine KQ.out.mono ?_
        rintro e w2 ⟨rfl, rfl⟩
        go_wp2
        go_ret
        exact ⟨rfl, rfl⟩
    · rw [show (decide (0 ≤ q) && (decide (0 ≤ b) || ((n : Int) == 0))) = false from by simp [d]]
      have dq : decide (0 ≤ q) = false := decide_eq_false d
      clear d c hl
      go_enter Tryz.func99, Tryz.ntmps99
      go_wp2_with fail
      refine K.out.mono ?_
      rintro e w1 ⟨rfl, rfl⟩
      go_wp2_with fail
      refine KQ.out.mono ?_
      rintro e w2 ⟨rfl, rfl⟩
      clear ci
      go_wp2_with go_big_skip
      go_ret
      exact ⟨rfl, rfl⟩
  · have ci : decide ((n : Int) < 9218868437227405312) = false := decide_eq_false (by omega)
    rw [hhigh (by omega), show (decide ((0 : Int) ≤ -1) && (decide (0 ≤ b) || ((n : Int) == 0))) = false from rfl]
    clear hhigh c hl
    go_enter Tryz.func99, Tryz.ntmps99
    go_wp2_with fail
    refine K.out.mono ?_
    rintro e w1 ⟨rfl, rfl⟩
    go_wp2_with go_big_skip
    go_ret
    exact ⟨rfl, rfl⟩

theorem ge_zero {b : Int} (h1 : -9223372036854775808 ≤ b) (h2 : b ≤ 9223372036854775807) (hf : rung b < 9218868437227405312) :
    (double.order (bw b) 0 == some .gt || double.order (bw b) 0 == some .eq) = (decide (0 ≤ b) || decide (rung b = 0)) := by
  obtain ⟨m, i, hr, hm⟩ : ∃ m i, double.read (rung b) = .number false m i ∧ (m = 0 ↔ rung b = 0) := by
    by_cases c : rung b < 4503599627370496
    · exact ⟨_, _, read_sub _ c, Iff.rfl⟩
    · exact ⟨_, _, read_norm _ (by omega) hf, by omega⟩
  have hl := rung_lt h1 h2
  unfold Format.order
  rw [show double.read 0 = .number false 0 (-1074) from by decide]
  have hp := Nat.two_pow_pos (i - min i (-1074)).toNat
  by_cases c : b < 0
  · have e : bw b = 9223372036854775808 + rung b := by unfold bw rung; rw [if_pos c, if_pos c]; omega
    rw [e, read_minus _ hl, hr, decide_eq_false (by omega : ¬ 0 ≤ b)]
    simp only [Datum.opposite, Datum.order, signed, shl, Nat.zero_mul, Bool.not_false, if_true, Bool.false_eq_true, if_false, Bool.false_or]
    by_cases c0 : m = 0
    · rw [decide_eq_true (hm.1 c0), c0, Nat.zero_mul]; rfl
    · rw [decide_eq_false (fun x => c0 (hm.2 x))]
      have hpos := Nat.mul_pos (Nat.pos_of_ne_zero c0) hp
      rw [Int.compare_eq_lt.2 (by omega)]; rfl
  · have e : bw b = rung b := by unfold bw rung; rw [if_neg c, if_neg c]
    rw [e, hr, decide_eq_true (by omega : 0 ≤ b)]
    simp only [Datum.order, signed, shl, Nat.zero_mul, Bool.false_eq_true, if_false, Bool.true_or]
    by_cases c0 : m = 0
    · rw [c0, Nat.zero_mul]; rfl
    · have hpos := Nat.mul_pos (Nat.pos_of_ne_zero c0) hp
      rw [Int.compare_eq_gt.2 (by omega)]; rfl

theorem implWidth_any (b : Int) (w : World) (h1 : -9223372036854775808 ≤ b) (h2 : b ≤ 9223372036854775807) :
    Calls Tryz.prog 124 #[.int .i64 b] w fun e w' => e = .returned (.bool (width b)) ∧ w' = w := by
  have hl := rung_lt h1 h2
  have KF := Hid.mk' (floatOf_any b w h1 h2)
  have KQ := isQuarters_any (bw b) w (bw_lt h1 h2)
  rw [bw_mod h1 h2, implQ_eq _ hl] at KQ
  have G := ge_zero h1 h2
  have hi := quarters_high (rung b)
  unfold width
  by_cases d : 0 ≤ quarters (rung b)
  · have hf : rung b < 9218868437227405312 := by
      rcases Nat.lt_or_ge (rung b) 4666723172467343360 with c | c
      · omega
      · have := hi c; omega
    rw [← G hf, decide_eq_true d, Bool.true_and]
    rw [decide_eq_true d] at KQ
    have KK := Hid.mk' KQ
    clear KQ G hi d hf
    go_enter Tryz.func124, Tryz.ntmps124
    go_wp2_with fail
    refine KF.out.mono ?_
    rintro e w1 ⟨rfl, rfl⟩
    go_wp2_with fail
    refine KK.out.mono ?_
    rintro e w2 ⟨rfl, rfl⟩
    go_wp2
    go_ret
    exact ⟨rfl, rfl⟩
  · rw [decide_eq_false d, Bool.false_and]
    rw [decide_eq_false d] at KQ
    have KK := Hid.mk' KQ
    clear KQ G hi d
    go_enter Tryz.func124, Tryz.ntmps124
    go_wp2_with fail
    refine KF.out.mono ?_
    rintro e w1 ⟨rfl, rfl⟩
    go_wp2_with fail
    refine KK.out.mono ?_
    rintro e w2 ⟨rfl, rfl⟩
    go_wp2
    go_ret
    exact ⟨rfl, rfl⟩

end Go.Proofs.YthhdfbgjdfoalaaGreatDoor
