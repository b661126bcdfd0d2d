/- IsInf with a sign; numbers in decimal, the model's. -/
import Derived.Test.YthhdfbgjdfoalaaGreatDoorFi
import Derived.Deep.RegionHeld3
namespace Go.Proofs.YthhdfbgjdfoalaaGreatDoor
open Go.RowKit Go.Joins
open Ieee
set_option linter.unusedVariables false
set_option linter.unusedSimpArgs false

theorem gt_max_minus (r : Nat) (h : r < 9223372036854775808) : (double.order (9223372036854775808 + r) 9218868437227405311 == some .gt) = false := by
  unfold Format.order
  rw [show double.read 9218868437227405311 = .number false 9007199254740991 971 from by decide, read_minus _ h]
  have key : ∀ (m : Nat) (i : Int), (((Datum.number false m i).opposite).order (.number false 9007199254740991 971) == some .gt) = false := by
    intro m i
    simp only [Datum.opposite, Datum.order, signed, shl, Bool.not_false, if_true, Bool.false_eq_true, if_false]
    generalize m * 2 ^ (i - min i 971).toNat = a
    generalize 9007199254740991 * 2 ^ ((971 : Int) - min i 971).toNat = p
    have : compare (-((a : Nat) : Int)) ((p : Nat) : Int) ≠ .gt := by rw [Ne, Int.compare_eq_gt]; omega
    cases hc : compare (-((a : Nat) : Int)) ((p : Nat) : Int) with
    | gt => exact absurd hc this
    | eq => rfl
    | lt => rfl
  by_cases c0 : r < 4503599627370496
  · rw [read_sub r c0, key]
  by_cases c1 : r < 9218868437227405312
  · rw [read_norm r (by omega) c1, key]
  by_cases c2 : r = 9218868437227405312
  · subst c2; rw [read_inf]; decide
  · rw [read_nan r (by omega) h]; rfl

theorem isInfP_any (b : Int) (w : World) (h1 : -9223372036854775808 ≤ b) (h2 : b ≤ 9223372036854775807) :
    Calls Tryz.prog 146 #[.float .f64 (bw b), .int .i64 1] w fun e w' => e = .returned (.bool (decide (0 ≤ b) && decide (rung b = 9218868437227405312))) ∧ w' = w := by
  have e : (double.order (bw b) 9218868437227405311 == some .gt) = (decide (0 ≤ b) && decide (rung b = 9218868437227405312)) := by
    by_cases c : b < 0
    · rw [show bw b = 9223372036854775808 + rung b by unfold bw rung; rw [if_pos c, if_pos c]; omega, gt_max_minus _ (rung_lt h1 h2), decide_eq_false (by omega : ¬ 0 ≤ b)]; rfl
    · rw [show bw b = rung b by unfold bw rung; rw [if_neg c, if_neg c], gt_max _ (rung_lt h1 h2), decide_eq_true (by omega : 0 ≤ b)]; rfl
  rw [← e]
  go_enter Tryz.func146, Tryz.ntmps146
  go_wp2
  go_ret
  exact ⟨rfl, rfl⟩

theorem xor_up (r : Nat) (h : r < 9223372036854775808) : r ^^^ 9223372036854775808 = 9223372036854775808 + r := by
  have e : 9223372036854775808 + r = 2 ^ 63 * 1 ||| r := by
    have := Nat.two_pow_add_eq_or_of_lt (i := 63) (b := r) (by omega) 1
    rw [← this]
  rw [e, Nat.mul_one, show (9223372036854775808 : Nat) = 2 ^ 63 by decide]
  apply Nat.eq_of_testBit_eq
  intro i
  rw [Nat.testBit_xor, Nat.testBit_or, Nat.testBit_two_pow]
  by_cases hi : 63 = i
  · subst hi
    rw [Nat.testBit_lt_two_pow (show r < 2 ^ 63 by omega)]
    rfl
  · simp [hi]
theorem isInfM_any (b : Int) (w : World) (h1 : -9223372036854775808 ≤ b) (h2 : b ≤ 9223372036854775807) :
    Calls Tryz.prog 146 #[.float .f64 (bw b), .int .i64 (-1)] w fun e w' => e = .returned (.bool (decide (b < 0) && decide (rung b = 9218868437227405312))) ∧ w' = w := by
  have hl := rung_lt h1 h2
  obtain ⟨y, hy⟩ : ∃ y, y = Op.negFloat .f64 (bw b) := ⟨_, rfl⟩
  have hu : (Op.unary UnOp.neg (.float .f64 (bw b))).run Tryz.prog w = .ok (.float .f64 y) w := by rw [hy]; rfl
  have e : (double.order y 9218868437227405311 == some .gt) = (decide (b < 0) && decide (rung b = 9218868437227405312)) := by
    have ey : y = bw b ^^^ 9223372036854775808 := by rw [hy]; rfl
    by_cases c : b < 0
    · have eb : bw b = 9223372036854775808 + rung b := by unfold bw rung; rw [if_pos c, if_pos c]; omega
      have : y = rung b := by rw [ey, eb, ← xor_up _ hl, Nat.xor_assoc, Nat.xor_self, Nat.xor_zero]
      rw [this, gt_max _ hl, decide_eq_true c]; rfl
    · have eb : bw b = rung b := by unfold bw rung; rw [if_neg c, if_neg c]
      rw [ey, eb, xor_up _ hl, gt_max_minus _ hl, decide_eq_false c]; rfl
  rw [← e]
  clear e hy
  go_enter Tryz.func146, Tryz.ntmps146
  go_wp2
  go_ret
  exact ⟨rfl, rfl⟩

end Go.Proofs.YthhdfbgjdfoalaaGreatDoor
