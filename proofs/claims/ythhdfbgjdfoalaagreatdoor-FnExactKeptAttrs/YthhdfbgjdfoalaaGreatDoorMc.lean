/- Walks: the bits of so many quarters, both sides, and the law. -/
import Derived.Test.YthhdfbgjdfoalaaGreatDoorMb
namespace Go.Proofs.YthhdfbgjdfoalaaGreatDoor
open Go.RowKit
open Ieee
set_option linter.unusedVariables false

/-- The word of so many quarters. -/
def wordQ (q : Nat) : Nat := if q = 0 then 0 else wq q q.log2

theorem wordQ_lt (q : Nat) (h : q ≤ 39999) : wordQ q < 4674736413210574848 := by
  unfold wordQ
  split
  · decide
  · rename_i c
    have g1 : 2 ^ q.log2 ≤ q := Nat.log2_self_le c
    have g2 : q < 2 ^ (q.log2 + 1) := Nat.lt_log2_self
    have k15 : q.log2 ≤ 15 := by
      have := (Nat.log2_lt c (k := 16)).2 (by omega)
      omega
    exact (wq_facts q q.log2 k15 g1 g2).2.2.2

theorem wj_word (j : Nat) (h : j < 4) : wordQ j = wj j ∧ double.add 0 (wj j) = some (wj j) ∧ double.div (double.nearest false j 0) 4616189618054758400 = some (wj j) := by
  have : j = 0 ∨ j = 1 ∨ j = 2 ∨ j = 3 := by omega
  rcases this with rfl | rfl | rfl | rfl <;> decide +kernel

theorem add_word (x j : Nat) (hx : x ≤ 9999) (hj : j < 4) : double.add (double.nearest false x 0) (wj j) = some (wordQ (4 * x + j)) := by
  by_cases c : x = 0
  · subst c
    rw [show double.nearest false 0 0 = 0 from rfl, (wj_word j hj).2.1, show 4 * 0 + j = j from by omega, (wj_word j hj).1]
  · have g1 : 2 ^ x.log2 ≤ x := Nat.log2_self_le c
    have g2 : x < 2 ^ (x.log2 + 1) := Nat.lt_log2_self
    have k13 : x.log2 ≤ 13 := by
      have := (Nat.log2_lt c (k := 14)).2 (by omega)
      omega
    rw [add_q x x.log2 j g1 g2 k13 hj]
    unfold wordQ
    rw [if_neg (by omega)]
    have : (4 * x + j).log2 = x.log2 + 2 := log2_le_of (by rw [Nat.pow_add]; omega) (by rw [show x.log2 + 2 + 1 = x.log2 + 1 + 2 from by omega, Nat.pow_add]; omega)
    rw [this]

theorem float_nat (x : Nat) : floatOfInt .f64 (x : Int) = double.nearest false x 0 := by
  unfold floatOfInt FloatKind.nearest
  have h : ¬ (x : Int) < 0 := by omega
  rw [Int.natAbs_natCast, decide_eq_false h]
  rfl

theorem or_sign (n : Nat) (h : n < 9223372036854775808) : bits .or .u64 (n : Int) 9223372036854775808 = ((n + 9223372036854775808 : Nat) : Int) := by
  have e := u64_or_nat n 9223372036854775808 (by omega) (by decide)
  rw [show ((9223372036854775808 : Nat) : Int) = 9223372036854775808 from rfl] at e
  rw [e]
  have h2 := Nat.two_pow_add_eq_or_of_lt (i := 63) h 1
  rw [Nat.or_comm, show (9223372036854775808 : Nat) = 2 ^ 63 * 1 from by decide, ← h2, Nat.add_comm]

theorem or_zero (n : Nat) (h : n < 9223372036854775808) : bits .or .u64 (n : Int) 0 = (n : Int) := by
  have e := u64_or_nat n 0 (by omega) (by decide)
  rw [show ((0 : Nat) : Int) = 0 from rfl, Nat.or_zero] at e
  exact e

theorem and_sign (n : Nat) (h : n < 9223372036854775808) : bits .and .u64 (n : Int) 9223372036854775808 = 0 := by
  have e := u64_and_nat n 9223372036854775808 (by omega) (by decide)
  rw [show ((9223372036854775808 : Nat) : Int) = 9223372036854775808 from rfl] at e
  have h2 : n &&& 9223372036854775808 = 0 := by
    have hn : n = n &&& 9223372036854775807 := by rw [and_mask]; omega
    rw [hn, Nat.and_assoc, show 9223372036854775807 &&& 9223372036854775808 = 0 from by decide, Nat.and_zero]
  rw [e, h2]
  rfl

theorem copysign_neg (n : Nat) (w : World) (h : n < 9223372036854775808) :
    Calls Tryz.prog 164 #[.float .f64 n, .float .f64 13830554455654793216] w fun e w' => e = .returned (.float .f64 (n + 9223372036854775808)) ∧ w' = w := by
  have h1 := abs_bits n (by omega)
  rw [Nat.mod_eq_of_lt h] at h1
  have h2 := or_sign n h
  have h3 : bits .and .u64 13830554455654793216 9223372036854775808 = 9223372036854775808 := by decide
  go_enter Tryz.func164, Tryz.ntmps164
  go_wp2
  go_ret
  exact ⟨rfl, rfl⟩

theorem copysign_pos (n s : Nat) (w : World) (h : n < 9223372036854775808) (hs : s < 9223372036854775808) :
    Calls Tryz.prog 164 #[.float .f64 n, .float .f64 s] w fun e w' => e = .returned (.float .f64 n) ∧ w' = w := by
  have h1 := abs_bits n (by omega)
  rw [Nat.mod_eq_of_lt h] at h1
  have h2 := or_zero n h
  have h3 := and_sign s hs
  go_enter Tryz.func164, Tryz.ntmps164
  go_wp2
  go_ret
  exact ⟨rfl, rfl⟩

theorem signed_any (b : Bool) (n : Nat) (w : World) (h : n < 9223372036854775808) :
    Calls Tryz.prog 142 #[.bool b, .float .f64 n] w fun e w' => e = .returned (.float .f64 (if b then n + 9223372036854775808 else n)) ∧ w' = w := by
  cases b with
  | true =>
    have K := Hid.mk' (copysign_neg n w h)
    go_enter Tryz.func142, Tryz.ntmps142
    go_wp2_with fail
    refine K.out.mono ?_
    rintro e w1 ⟨rfl, rfl⟩
    go_wp2
    go_ret
    exact ⟨rfl, rfl⟩
  | false =>
    go_enter Tryz.func142, Tryz.ntmps142
    go_wp2
    go_ret
    exact ⟨rfl, rfl⟩

/-- The bits of a word with a sign. -/
def signBits (b : Bool) (n : Nat) : Int := if b then (n : Int) - 9223372036854775808 else n

theorem l3Sign_any (b : Bool) (n : Nat) (w : World) (h : n < 9223372036854775808) :
    Calls Tryz.prog 116 #[.int .i64 (n : Int), .bool b] w fun e w' => e = .returned (.int .i64 (signBits b n)) ∧ w' = w := by
  cases b with
  | true =>
    go_enter Tryz.func116, Tryz.ntmps116
    go_wp2
    go_ret
    exact ⟨by show Ending.returned (.int .i64 ((n : Int) - 4611686018427387904 - 4611686018427387904)) = Ending.returned (.int .i64 ((n : Int) - 9223372036854775808)); rw [show (n : Int) - 4611686018427387904 - 4611686018427387904 = (n : Int) - 9223372036854775808 from by omega], rfl⟩
  | false =>
    go_enter Tryz.func116, Tryz.ntmps116
    go_wp2
    go_ret
    exact ⟨rfl, rfl⟩

set_option maxHeartbeats 400000 in
theorem l3Bits_any (q : Nat) (w : World) (hq : q ≤ 39999) :
    Calls Tryz.prog 118 #[.int .i64 (q : Int)] w fun e w' => e = .returned (.int .i64 (wordQ q)) ∧ w' = w := by
  by_cases c0 : q = 0
  · subst c0
    go_enter Tryz.func118, Tryz.ntmps118
    go_wp2
    go_ret
    exact ⟨rfl, rfl⟩
  have e0 : ((q : Int) == 0) = false := by rw [beq_eq_false_iff_ne]; omega
  go_enter Tryz.func118, Tryz.ntmps118
  go_wp2
  go_loopw [3, 4] (fun e n wr => ∃ k p : Nat, p = 2 ^ k ∧ k ≤ 15 ∧ p ≤ q ∧ n = .int .i64 p ∧ e = .int .i64 (1021 + k) ∧ wr = w) (fun _ n _ => q - (intOf n).toNat)
  case atStart => exact ⟨0, 1, rfl, by omega, by omega, rfl, rfl, rfl⟩
  case round =>
    obtain ⟨k, p, hp, hk, hle, rfl, rfl, rfl⟩ := hrel
    have p0 : 0 < p := by rw [hp]; exact Nat.two_pow_pos _
    by_cases c : 2 * p ≤ q
    · have ci : 2 * (p : Int) ≤ (q : Int) := by omega
      have H := Hid.mk' hp
      clear hp
      go_wp2
      go_roundw
      case rel =>
        have k2 : k + 1 ≤ 15 := by
          rcases Nat.lt_or_ge k 15 with d | d
          · omega
          · have : k = 15 := by omega
            have e := H.out
            rw [this] at e
            have e2 : (2 : Nat) ^ 15 = 32768 := by decide
            omega
        exact ⟨k + 1, 2 * p, by rw [Nat.pow_succ, ← H.out]; omega, k2, c, by go_num, by go_num, trivial⟩
      case measure => simp [intOf]; omega
    · have ci : ¬ 2 * (p : Int) ≤ (q : Int) := by omega
      have hw : wordQ q = wq q k := by
        unfold wordQ
        rw [if_neg c0, log2_le_of (m := q) (L := k) (by omega) (by rw [Nat.pow_succ]; omega)]
      obtain ⟨u, hu⟩ : ∃ u, 2 ^ (52 - k) = u := ⟨_, rfl⟩
      have e1 : p * u = 4503599627370496 := by rw [hp, ← hu, ← Nat.pow_add, show k + (52 - k) = 52 from by omega]
      have eu : (4503599627370496 : Int) / (p : Int) = (u : Int) := by
        have e' : (4503599627370496 : Int) = (p : Int) * (u : Int) := by
          have := congrArg (fun x : Nat => (x : Int)) e1
          simpa using this.symm
        rw [e', Int.mul_ediv_cancel_left _ (by omega)]
      have ep : ¬ (p : Int) = 0 := by omega
      obtain ⟨f, hf⟩ : ∃ f : Nat, ((q : Int) - (p : Int)) * (u : Int) = (f : Int) := ⟨(q - p) * u, by rw [Int.natCast_mul, Int.natCast_sub hle]⟩
      have hsum : f + 4503599627370496 = q * u := by
        have e2 : ((f + 4503599627370496 : Nat) : Int) = ((q * u : Nat) : Int) := by
          rw [Int.natCast_add, ← hf, Int.sub_mul, Int.natCast_mul]
          have e' : (4503599627370496 : Int) = (p : Int) * (u : Int) := by
            have := congrArg (fun x : Nat => (x : Int)) e1
            simpa using this.symm
          rw [show ((4503599627370496 : Nat) : Int) = (p : Int) * (u : Int) from e']
          omega
        exact Int.ofNat.inj e2
      have fb : f < 4503599627370496 := by
        have hr := (mul_two_pow_range (q := q) (L := k) (by omega) (by rw [Nat.pow_succ]; omega) (by omega)).2
        rw [hu] at hr
        omega
      have fin : Hid ((1021 + (k : Int)) * 4503599627370496 + (f : Int) = ((wordQ q : Nat) : Int)) := by
        show _ = _
        rw [hw]
        unfold wq
        rw [hu, ← hsum]
        omega
      clear hw hsum hu e1 hp
      go_wp2
      go_ret
      exact ⟨by show Ending.returned (.int .i64 ((1021 + (k : Int)) * 4503599627370496 + (f : Int))) = _; rw [fin.out], rfl⟩

end Go.Proofs.YthhdfbgjdfoalaaGreatDoor
