/- Walks: MeasureParts, both sides, and the law. -/
import Derived.Test.YthhdfbgjdfoalaaGreatDoorMd
namespace Go.Proofs.YthhdfbgjdfoalaaGreatDoor
open Go.RowKit
open Ieee
set_option linter.unusedVariables false

theorem order_self (d : Datum) : d.order d = if d.isNaN then none else some .eq := by
  cases d with
  | number s m i => simp only [Datum.order, Datum.isNaN]; rw [Int.compare_eq_eq.2 rfl]; rfl
  | infinity s => cases s <;> rfl
  | nan s t => rfl

theorem isNaN_rung (r : Nat) (h : r < 9223372036854775808) : (double.read r).isNaN = decide (9218868437227405312 < r) := by
  by_cases c0 : r < 4503599627370496
  · rw [read_sub r c0, decide_eq_false (by omega)]; rfl
  by_cases c1 : r < 9218868437227405312
  · rw [read_norm r (by omega) c1, decide_eq_false (by omega)]; rfl
  by_cases c2 : r = 9218868437227405312
  · subst c2; rw [read_inf]; rfl
  · rw [read_nan r (by omega) h, decide_eq_true (by omega)]; rfl

theorem nan_word {b : Int} (h1 : -9223372036854775808 ≤ b) (h2 : b ≤ 9223372036854775807) : (double.order (bw b) (bw b) != some .eq) = decide (9218868437227405312 < rung b) := by
  have hl := rung_lt h1 h2
  have hn : (double.read (bw b)).isNaN = decide (9218868437227405312 < rung b) := by
    by_cases c : b < 0
    · rw [show bw b = 9223372036854775808 + rung b from by unfold bw rung; rw [if_pos c, if_pos c]; omega, read_minus _ hl, ← isNaN_rung _ hl]
      cases double.read (rung b) <;> rfl
    · rw [show bw b = rung b from by unfold bw rung; rw [if_neg c, if_neg c], isNaN_rung _ hl]
  unfold Format.order
  rw [order_self, hn]
  cases decide (9218868437227405312 < rung b) <;> rfl

theorem gt_max (r : Nat) (h : r < 9223372036854775808) : (double.order r 9218868437227405311 == some .gt) = decide (r = 9218868437227405312) := by
  unfold Format.order
  rw [show double.read 9218868437227405311 = .number false 9007199254740991 971 from by decide]
  have key : ∀ (m : Nat) (i : Int), m ≤ 9007199254740991 → i ≤ 971 → ((Datum.number false m i).order (.number false 9007199254740991 971) == some .gt) = false := by
    intro m i hm hi
    simp only [Datum.order, signed, shl, Bool.false_eq_true, if_false]
    rw [show min i 971 = i from by omega, Int.sub_self, Int.toNat_zero, Nat.pow_zero, Nat.mul_one]
    have h1 := Nat.two_pow_pos ((971 : Int) - i).toNat
    have h2 : 9007199254740991 ≤ 9007199254740991 * 2 ^ ((971 : Int) - i).toNat := Nat.le_mul_of_pos_right _ h1
    generalize 9007199254740991 * 2 ^ ((971 : Int) - i).toNat = p at h2 ⊢
    have : compare ((m : Nat) : Int) ((p : Nat) : Int) ≠ .gt := by rw [Ne, Int.compare_eq_gt]; omega
    cases hc : compare ((m : Nat) : Int) ((p : Nat) : Int) with
    | gt => exact absurd hc this
    | eq => rfl
    | lt => rfl
  by_cases c0 : r < 4503599627370496
  · rw [read_sub r c0, key _ _ (by omega) (by decide), decide_eq_false (by omega)]
  by_cases c1 : r < 9218868437227405312
  · rw [read_norm r (by omega) c1, key _ _ (by omega) (by omega), decide_eq_false (by omega)]
  by_cases c2 : r = 9218868437227405312
  · subst c2; rw [read_inf]; decide
  · rw [read_nan r (by omega) h, decide_eq_false c2]; rfl

theorem isNaN_any (b : Int) (w : World) (h1 : -9223372036854775808 ≤ b) (h2 : b ≤ 9223372036854775807) :
    Calls Tryz.prog 145 #[.float .f64 (bw b)] w fun e w' => e = .returned (.bool (decide (9218868437227405312 < rung b))) ∧ w' = w := by
  have h := nan_word h1 h2
  rw [← h]
  go_enter Tryz.func145, Tryz.ntmps145
  go_wp2
  go_ret
  exact ⟨rfl, rfl⟩

theorem isInf_any (b : Int) (w : World) (h1 : -9223372036854775808 ≤ b) (h2 : b ≤ 9223372036854775807) :
    Calls Tryz.prog 146 #[.float .f64 (bw b), .int .i64 0] w fun e w' => e = .returned (.bool (decide (rung b = 9218868437227405312))) ∧ w' = w := by
  have K := abs_any (bw b) w (bw_lt h1 h2)
  rw [bw_mod h1 h2] at K
  have KK := Hid.mk' K
  rw [← gt_max (rung b) (rung_lt h1 h2)]
  clear K
  go_enter Tryz.func146, Tryz.ntmps146
  go_wp2_with fail
  refine KK.out.mono ?_
  rintro e w1 ⟨rfl, rfl⟩
  go_wp2
  go_ret
  exact ⟨rfl, rfl⟩

theorem signbit_any (b : Int) (w : World) (h1 : -9223372036854775808 ≤ b) (h2 : b ≤ 9223372036854775807) :
    Calls Tryz.prog 167 #[.float .f64 (bw b)] w fun e w' => e = .returned (.bool (decide (b < 0))) ∧ w' = w := by
  have h : IntKind.i64.wrap (bw b : Int) = b := by
    rw [IntKind.wrap_i64]
    unfold bw
    split <;> omega
  go_enter Tryz.func167, Tryz.ntmps167
  go_wp2
  go_ret
  exact ⟨rfl, rfl⟩

theorem modf_any (n p : Nat) (w : World) (h : n < 9218868437227405312) (hs : double.sub n (tr n) = some p) (hp : p < 9223372036854775808) :
    Calls Tryz.prog 166 #[.float .f64 n] w fun e w' => e = .returned (.tuple #[.float .f64 (tr n), .float .f64 p]) ∧ w' = w := by
  have K := Hid.mk' (trunc_any n w h)
  have D : ∀ W : World, (binOp .sub 159 (.float .f64 n) (.float .f64 (tr n))).run Tryz.prog W = .ok (.float .f64 p) W := fun W => run_float_arith W _ _ _ _ _ _ hs
  have K2 := Hid.mk' (copysign_pos p n w hp (by omega))
  generalize tr n = t at *
  go_enter Tryz.func166, Tryz.ntmps166
  go_wp2_with fail
  refine K.out.mono ?_
  rintro e w1 ⟨rfl, rfl⟩
  go_wp2_with fail
  refine K2.out.mono ?_
  rintro e w2 ⟨rfl, rfl⟩
  go_wp2
  go_ret2
  exact ⟨rfl, rfl⟩

/-- What a number of quarters is in parts. -/
theorem parts_of (n : Nat) (h : 0 ≤ quarters n) : ∃ a j : Nat, quarters n = 4 * a + j ∧ j < 4 ∧ a ≤ 9999 ∧ n < 9218868437227405312 ∧ double.sub n (tr n) = some (wj j) ∧ floatToIntVal .f64 (tr n) .i64 = some (a : Int) := by
  by_cases h0 : n = 0
  · subst h0
    exact ⟨0, 0, by decide, by decide, by decide, by decide, by decide +kernel, by decide +kernel⟩
  · obtain ⟨q, k, e, k15, g1, g2, q1, rfl⟩ := quarters_pos n h h0
    refine ⟨q / 4, q % 4, by rw [e]; omega, by omega, by omega, ?_, sub_wq q k k15 g1 g2, int_tr_wq q k k15 g1 g2⟩
    have := (wq_facts q k k15 g1 g2).2.2.2
    omega

def partsC (b : Int) : Int := if 9218868437227405312 ≤ rung b then 4 else if quarters (rung b) < 0 then 3 else 0
def partsM (b : Int) : Bool := if 9218868437227405312 ≤ rung b then false else if quarters (rung b) < 0 then false else decide (b < 0)
def partsW (b : Int) : Int := if 9218868437227405312 ≤ rung b then 0 else if quarters (rung b) < 0 then 0 else quarters (rung b) / 4
def partsQ (b : Int) : Int := if 9218868437227405312 ≤ rung b then 0 else if quarters (rung b) < 0 then 0 else quarters (rung b) % 4

set_option maxHeartbeats 800000 in
theorem implParts_any (b : Int) (w : World) (h1 : -9223372036854775808 ≤ b) (h2 : b ≤ 9223372036854775807) :
    Calls Tryz.prog 147 #[.int .i64 b] w fun e w' => e = .returned (.agg #[.int .i64 (partsC b), .bool (partsM b), .int .i64 (partsW b), .int .i64 (partsQ b)]) ∧ Below w.heap.size w w' := by
  have hl := rung_lt h1 h2
  have KF : Hid (∀ W : World, Calls Tryz.prog 126 #[.int .i64 b] W fun e w' => e = .returned (.float .f64 (bw b)) ∧ w' = W) := fun W => floatOf_any b W h1 h2
  have KN : ∀ W : World, Calls Tryz.prog 145 #[.float .f64 (bw b)] W fun e w' => e = .returned (.bool (decide (9218868437227405312 < rung b))) ∧ w' = W := fun W => isNaN_any b W h1 h2
  have KI : ∀ W : World, Calls Tryz.prog 146 #[.float .f64 (bw b), .int .i64 0] W fun e w' => e = .returned (.bool (decide (rung b = 9218868437227405312))) ∧ w' = W := fun W => isInf_any b W h1 h2
  have KQ : ∀ W : World, Calls Tryz.prog 143 #[.float .f64 (bw b)] W fun e w' => e = .returned (.bool (decide (0 ≤ quarters (rung b)))) ∧ w' = W := fun W => by
    have k := isQuarters_any (bw b) W (bw_lt h1 h2)
    rw [bw_mod h1 h2, implQ_eq _ hl] at k
    exact k
  have KA : Hid (∀ W : World, Calls Tryz.prog 125 #[.float .f64 (bw b)] W fun e w' => e = .returned (.float .f64 (rung b)) ∧ w' = W) := fun W => by
    have k := abs_any (bw b) W (bw_lt h1 h2)
    rw [bw_mod h1 h2] at k
    exact k
  have KS : Hid (∀ W : World, Calls Tryz.prog 167 #[.float .f64 (bw b)] W fun e w' => e = .returned (.bool (decide (b < 0))) ∧ w' = W) := fun W => signbit_any b W h1 h2
  have PO := parts_of (rung b)
  unfold partsC partsM partsW partsQ
  generalize rung b = n at *
  by_cases c : 9218868437227405312 ≤ n
  · rw [if_pos c, if_pos c, if_pos c, if_pos c]
    clear PO KQ KA KS
    by_cases c1 : 9218868437227405312 < n
    · rw [decide_eq_true c1] at KN
      have HN := Hid.mk' KN
      clear KN KI c c1 hl
      go_enter Tryz.func147, Tryz.ntmps147
      go_wp2_with fail
      refine (KF.out _).mono ?_
      rintro e w1 ⟨rfl, rfl⟩
      go_wp2_with fail
      refine (HN.out _).mono ?_
      rintro e w2 ⟨rfl, rfl⟩
      go_wp2
      exact bodyPost_ret (v := .agg #[.int .i64 4, .bool false, .int .i64 0, .int .i64 0]) (by simp [results, Tryz.results147, go_sem, *]) rfl ⟨rfl, (Below.refl _ _).alloc (Nat.le_refl _) _⟩
    · rw [decide_eq_false c1] at KN
      have HN := Hid.mk' KN
      rw [decide_eq_true (by omega)] at KI
      have HI := Hid.mk' KI
      clear KN KI c c1 hl
      go_enter Tryz.func147, Tryz.ntmps147
      go_wp2_with fail
      refine (KF.out _).mono ?_
      rintro e w1 ⟨rfl, rfl⟩
      go_wp2_with fail
      refine (HN.out _).mono ?_
      rintro e w2 ⟨rfl, rfl⟩
      go_wp2_with fail
      refine (HI.out _).mono ?_
      rintro e w3 ⟨rfl, rfl⟩
      go_wp2
      exact bodyPost_ret (v := .agg #[.int .i64 4, .bool false, .int .i64 0, .int .i64 0]) (by simp [results, Tryz.results147, go_sem, *]) rfl ⟨rfl, (Below.refl _ _).alloc (Nat.le_refl _) _⟩
  rw [if_neg c, if_neg c, if_neg c, if_neg c]
  rw [decide_eq_false (by omega)] at KN
  rw [decide_eq_false (by omega)] at KI
  have HN := Hid.mk' KN
  have HI := Hid.mk' KI
  clear KN KI
  by_cases d : quarters n < 0
  · rw [if_pos d, if_pos d, if_pos d, if_pos d]
    rw [decide_eq_false (by omega)] at KQ
    have HQ := Hid.mk' KQ
    clear PO c d hl KQ KA KS
    go_enter Tryz.func147, Tryz.ntmps147
    go_wp2_with fail
    refine (KF.out _).mono ?_
    rintro e w1 ⟨rfl, rfl⟩
    go_wp2_with fail
    refine (HN.out _).mono ?_
    rintro e w2 ⟨rfl, rfl⟩
    go_wp2_with fail
    refine (HI.out _).mono ?_
    rintro e w3 ⟨rfl, rfl⟩
    go_wp2_with fail
    refine (HQ.out _).mono ?_
    rintro e w4 ⟨rfl, rfl⟩
    go_wp2
    exact bodyPost_ret (v := .agg #[.int .i64 3, .bool false, .int .i64 0, .int .i64 0]) (by simp [results, Tryz.results147, go_sem, *]) rfl ⟨rfl, (Below.refl _ _).alloc (Nat.le_refl _) _⟩
  · rw [if_neg d, if_neg d, if_neg d, if_neg d]
    rw [decide_eq_true (by omega)] at KQ
    have HQ := Hid.mk' KQ
    obtain ⟨a, j, e, hj, ha, hn, hs, hw⟩ := PO (by omega)
    obtain ⟨m1, m2, m3⟩ := wj_mul j hj
    rw [show quarters n / 4 = (a : Int) from by omega, show quarters n % 4 = (j : Int) from by omega]
    have KM : Hid (∀ W : World, Calls Tryz.prog 166 #[.float .f64 n] W fun e w' => e = .returned (.tuple #[.float .f64 (tr n), .float .f64 (wj j)]) ∧ w' = W) := fun W => modf_any n (wj j) W hn hs m3
    have MU : ∀ W : World, (binOp .mul 159 (.float .f64 (wj j)) (.float .f64 4616189618054758400)).run Tryz.prog W = .ok (.float .f64 (FloatKind.f64.nearest (j : Int))) W := fun W => run_float_arith W _ _ _ _ _ _ m1
    have C1 : ∀ W : World, (convert 159 2 (.float .f64 (tr n))).run Tryz.prog W = .ok (.int .i64 a) W := fun W => run_convert_float_int W _ _ _ _ _ _ (by kernel_rfl) Tryz.underlying2 hw
    have C2 : ∀ W : World, (convert 159 2 (.float .f64 (FloatKind.f64.nearest (j : Int)))).run Tryz.prog W = .ok (.int .i64 j) W := fun W => run_convert_float_int W _ _ _ _ _ _ (by kernel_rfl) Tryz.underlying2 m2
    generalize tr n = t at *
    generalize FloatKind.f64.nearest (j : Int) = f at *
    generalize wj j = p at *
    clear PO c d hl KQ e hj ha hn hs hw m1 m2 m3
    go_enter Tryz.func147, Tryz.ntmps147
    go_wp2_with fail
    refine (KF.out _).mono ?_
    rintro e w1 ⟨rfl, rfl⟩
    go_wp2_with fail
    refine (HN.out _).mono ?_
    rintro e w2 ⟨rfl, rfl⟩
    go_wp2_with fail
    refine (HI.out _).mono ?_
    rintro e w3 ⟨rfl, rfl⟩
    go_wp2_with fail
    refine (HQ.out _).mono ?_
    rintro e w4 ⟨rfl, rfl⟩
    go_wp2_with fail
    refine (KA.out _).mono ?_
    rintro e w5 ⟨rfl, rfl⟩
    go_wp2_with fail
    refine (KM.out _).mono ?_
    rintro e w6 ⟨rfl, rfl⟩
    go_wp2_with fail
    refine (KS.out _).mono ?_
    rintro e w7 ⟨rfl, rfl⟩
    go_wp2
    exact bodyPost_ret (v := .agg #[.int .i64 0, .bool (decide (b < 0)), .int .i64 a, .int .i64 j]) (by simp [results, Tryz.results147, go_sem, *]) rfl ⟨rfl, (Below.refl _ _).alloc (Nat.le_refl _) _⟩

end Go.Proofs.YthhdfbgjdfoalaaGreatDoor
