/- Walks: how many quarters; is it a width: both sides, and the law. -/
import Derived.Test.YtjofghkmommpoaaDoorMa
import Derived.BigGuard
namespace Go.Proofs.YtjofghkmommpoaaDoor
open Go.RowKit
open Ieee
set_option linter.unusedVariables false

theorem mul4_some (r : Nat) (h : r < 4666723172467343360) : ∃ p, double.mul r 4616189618054758400 = some p ∧ p < 9218868437227405312 := by
  by_cases c0 : r = 0
  · subst c0; exact ⟨0, mul4_zero, by decide⟩
  by_cases c1 : r < 4503599627370496
  · obtain ⟨p, h1, _, h2⟩ := mul4_sub r (by omega) c1
    exact ⟨p, h1, by omega⟩
  · exact ⟨_, mul4_norm r (by omega) (by omega), by omega⟩

theorem isQuarters_any (n : Nat) (w : World) (h : n < 18446744073709551616) :
    Calls Tryd.prog 20 #[.float .f64 n] w fun e w' => e = .returned (.bool (implQ (n % 9223372036854775808))) ∧ w' = w := by
  have K := Hid.mk' (abs_any n w h)
  unfold implQ
  have hr : n % 9223372036854775808 < 9223372036854775808 := Nat.mod_lt _ (by decide)
  generalize n % 9223372036854775808 = r at *
  have L := lt_tenK r hr
  by_cases c : r < 4666723172467343360
  · obtain ⟨p, hp, hlt⟩ := mul4_some r c
    rw [decide_eq_true c] at L
    have KT := Hid.mk' (trunc_any p w hlt)
    have hm : ∀ w : World, (binOp .mul 31 (.float .f64 r) (.float .f64 4616189618054758400)).run Tryd.prog w = .ok (.float .f64 p) w := fun w => run_float_arith w _ _ _ _ _ _ hp
    have ho : (FloatKind.f64.format.order r 4666723172467343360 == some .lt) = true := L
    rw [L, hp]
    simp only [Bool.true_and]
    clear L hp
    go_enter Tryd.func20, Tryd.ntmps20
    go_wp2_with fail
    refine K.out.mono ?_
    rintro e w1 ⟨rfl, rfl⟩
    go_wp2_with fail
    refine KT.out.mono ?_
    rintro e w2 ⟨rfl, rfl⟩
    go_wp2
    go_ret
    exact ⟨rfl, rfl⟩
  · rw [decide_eq_false c] at L
    have ho : (FloatKind.f64.format.order r 4666723172467343360 == some .lt) = false := L
    rw [L]
    simp only [Bool.false_and]
    clear L
    go_enter Tryd.func20, Tryd.ntmps20
    go_wp2_with fail
    refine K.out.mono ?_
    rintro e w1 ⟨rfl, rfl⟩
    go_wp2
    go_ret
    exact ⟨rfl, rfl⟩

/-- Is it a width. -/
def width (b : Int) : Bool := decide (0 ≤ quarters (rung b)) && (decide (0 ≤ b) || decide (rung b = 0))

theorem ge_zero {b : Int} (h1 : -9223372036854775808 ≤ b) (h2 : b ≤ 9223372036854775807) (hf : rung b < 9218868437227405312) :
    (double.order (bw b) 0 == some .gt || double.order (bw b) 0 == some .eq) = (decide (0 ≤ b) || decide (rung b = 0)) := by
  obtain ⟨m, i, hr, hm⟩ : ∃ m i, double.read (rung b) = .number false m i ∧ (m = 0 ↔ rung b = 0) := by
    by_cases c : rung b < 4503599627370496
    · exact ⟨_, _, read_sub _ c, Iff.rfl⟩
    · exact ⟨_, _, read_norm _ (by omega) hf, by omega⟩
  have hl := rung_lt h1 h2
  unfold Format.order
  rw [show double.read 0 = .number false 0 (-1074) from by decide]
  have hp := Nat.two_pow_pos (i - min i (-1074)).toNat
  by_cases c : b < 0
  · have e : bw b = 9223372036854775808 + rung b := by unfold bw rung; rw [if_pos c, if_pos c]; omega
    rw [e, read_minus _ hl, hr, decide_eq_false (by omega : ¬ 0 ≤ b)]
    simp only [Datum.opposite, Datum.order, signed, shl, Nat.zero_mul, Bool.not_false, if_true, Bool.false_eq_true, if_false, Bool.false_or]
    by_cases c0 : m = 0
    · rw [decide_eq_true (hm.1 c0), c0, Nat.zero_mul]; rfl
    · rw [decide_eq_false (fun x => c0 (hm.2 x))]
      have hpos := Nat.mul_pos (Nat.pos_of_ne_zero c0) hp
      rw [Int.compare_eq_lt.2 (by omega)]; rfl
  · have e : bw b = rung b := by unfold bw rung; rw [if_neg c, if_neg c]
    rw [e, hr, decide_eq_true (by omega : 0 ≤ b)]
    simp only [Datum.order, signed, shl, Nat.zero_mul, Bool.false_eq_true, if_false, Bool.true_or]
    by_cases c0 : m = 0
    · rw [c0, Nat.zero_mul]; rfl
    · have hpos := Nat.mul_pos (Nat.pos_of_ne_zero c0) hp
      rw [Int.compare_eq_gt.2 (by omega)]; rfl

end Go.Proofs.YtjofghkmommpoaaDoor
