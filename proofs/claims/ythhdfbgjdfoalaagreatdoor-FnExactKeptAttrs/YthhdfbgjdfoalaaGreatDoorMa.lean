/- Walks: bits and floats, both sides; is it a width. -/
import Derived.Test.YthhdfbgjdfoalaaGreatDoorChecked
import Derived.Test.YthhdfbgjdfoalaaGreatDoorFl
import Derived.Test.YthhdfbgjdfoalaaGreatDoorLem
import Derived.WalkKit
import Derived.WalkLawsBesides
import Derived.KernelRfl
namespace Go.Proofs.YthhdfbgjdfoalaaGreatDoor
open Go.RowKit
open Ieee
set_option linter.unusedVariables false

/-- The word of 64 bits that an int64 has. -/
def bw (b : Int) : Nat := if b < 0 then (b + 18446744073709551616).toNat else b.toNat
/-- The same without its sign. -/
def rung (b : Int) : Nat := if b < 0 then (b + 9223372036854775808).toNat else b.toNat

theorem bw_lt {b : Int} (h1 : -9223372036854775808 ≤ b) (h2 : b ≤ 9223372036854775807) : bw b < 18446744073709551616 := by unfold bw; split <;> omega
theorem rung_lt {b : Int} (h1 : -9223372036854775808 ≤ b) (h2 : b ≤ 9223372036854775807) : rung b < 9223372036854775808 := by unfold rung; split <;> omega
theorem bw_mod {b : Int} (h1 : -9223372036854775808 ≤ b) (h2 : b ≤ 9223372036854775807) : bw b % 9223372036854775808 = rung b := by unfold bw rung; split <;> omega
theorem bw_cast {b : Int} (h1 : -9223372036854775808 ≤ b) (h2 : b ≤ 9223372036854775807) : IntKind.u64.wrap b = (bw b : Int) := by
  rw [IntKind.wrap_u64]
  unfold bw; split <;> omega

theorem and_mask (n : Nat) : n &&& 9223372036854775807 = n % 9223372036854775808 := Nat.and_two_pow_sub_one_eq_mod n 63

theorem abs_bits (n : Nat) (h : n < 18446744073709551616) : bits .andNot .u64 (n : Int) 9223372036854775808 = ((n % 9223372036854775808 : Nat) : Int) := by
  have e := u64_andNot_nat n 9223372036854775808 h (by decide)
  rw [show ((9223372036854775808 : Nat) : Int) = 9223372036854775808 from rfl] at e
  rw [e, show 18446744073709551615 - 9223372036854775808 = 9223372036854775807 from by decide, and_mask]

theorem size_bits {b : Int} (h1 : -9223372036854775808 ≤ b) (h2 : b ≤ 9223372036854775807) : bits .and .i64 b 9223372036854775807 = (rung b : Int) := by
  have e : bits .and .i64 b 9223372036854775807 = IntKind.i64.wrap (((BitVec.ofInt 64 b &&& BitVec.ofInt 64 9223372036854775807).toNat : Nat) : Int) := rfl
  rw [e, BitVec.toNat_and]
  have e1 : (BitVec.ofInt 64 9223372036854775807).toNat = 9223372036854775807 := by decide
  have e2 : (BitVec.ofInt 64 b).toNat = bw b := by
    rw [BitVec.toNat_ofInt]
    unfold bw
    split <;> omega
  rw [e1, e2, and_mask, bw_mod h1 h2]
  have := rung_lt h1 h2
  rw [IntKind.wrap_i64]
  omega

@[go_sem] theorem run_from (n : Int) (w : World) : (callFunc 144 #[.int .u64 n]).run Tryz.prog w = .ok (.value (.float .f64 n.toNat)) w := by
  rw [run_callFunc_extern Tryz.func144 (by kernel_rfl) (by kernel_rfl) (by kernel_rfl) (e := Extern.MathFloatBits.float64frombits) (by kernel_rfl)]
  rfl
@[go_sem] theorem run_bits (n : Nat) (w : World) : (callFunc 128 #[.float .f64 n]).run Tryz.prog w = .ok (.value (.int .u64 (n : Int))) w := by
  rw [run_callFunc_extern Tryz.func128 (by kernel_rfl) (by kernel_rfl) (by kernel_rfl) (e := Extern.MathFloatBits.float64bits) (by kernel_rfl)]
  rfl
theorem run_trunc (n : Nat) (h : n < 9218868437227405312) (w : World) : (callFunc 193 #[.float .f64 n]).run Tryz.prog w = .ok (.value (.float .f64 (tr n))) w := by
  rw [run_callFunc_extern Tryz.func193 (by kernel_rfl) (by kernel_rfl) (by kernel_rfl) (e := Extern.MathFloor.toIntegral "math.archTrunc" .zero) (by kernel_rfl)]
  have hn : ∃ s m i, double.read n = .number s m i := by
    by_cases c : n < 4503599627370496
    · exact ⟨_, _, _, read_sub n c⟩
    · exact ⟨_, _, _, read_norm n (by omega) h⟩
  obtain ⟨s, m, i, e⟩ := hn
  have key : ∀ d : Datum, d = .number s m i → (match d with | .nan s t => (if FloatKind.f64.format.quiet t = t then pure (.float .f64 n) else do
      let kept ← choose (.extern "math.Floor,Ceil,Trunc,RoundToEven.signallingNaN kept" 2)
      pure (.float .f64 (if kept == 1 then n else FloatKind.f64.encode (.nan s (FloatKind.f64.format.quiet t)))) : Sem Value) | d => pure (.float .f64 (FloatKind.f64.encode (d.integral .zero)))) = pure (.float .f64 (FloatKind.f64.encode (d.integral .zero))) := by
    intro d hd
    subst hd
    rfl
  have e2 : Extern.MathFloor.toIntegral "math.archTrunc" .zero #[.float .f64 n] = pure (.float .f64 (FloatKind.f64.encode ((FloatKind.f64.decode n).integral .zero))) := key (FloatKind.f64.decode n) e
  rw [e2]
  rfl

theorem floatOf_any (b : Int) (w : World) (h1 : -9223372036854775808 ≤ b) (h2 : b ≤ 9223372036854775807) :
    Calls Tryz.prog 126 #[.int .i64 b] w fun e w' => e = .returned (.float .f64 (bw b)) ∧ w' = w := by
  have hw := bw_cast h1 h2
  go_enter Tryz.func126, Tryz.ntmps126
  go_wp2
  go_ret
  exact ⟨rfl, rfl⟩

theorem abs_any (n : Nat) (w : World) (h : n < 18446744073709551616) :
    Calls Tryz.prog 125 #[.float .f64 n] w fun e w' => e = .returned (.float .f64 (n % 9223372036854775808)) ∧ w' = w := by
  have hw := abs_bits n h
  go_enter Tryz.func125, Tryz.ntmps125
  go_wp2
  go_ret
  exact ⟨rfl, rfl⟩

theorem trunc_any (n : Nat) (w : World) (h : n < 9218868437227405312) :
    Calls Tryz.prog 165 #[.float .f64 n] w fun e w' => e = .returned (.float .f64 (tr n)) ∧ w' = w := by
  have hw := run_trunc n h
  go_enter Tryz.func165, Tryz.ntmps165
  go_wp2
  go_ret
  exact ⟨rfl, rfl⟩

theorem size_any (b : Int) (w : World) (h1 : -9223372036854775808 ≤ b) (h2 : b ≤ 9223372036854775807) :
    Calls Tryz.prog 101 #[.int .i64 b] w fun e w' => e = .returned (.int .i64 (rung b)) ∧ w' = w := by
  have hw := size_bits h1 h2
  go_enter Tryz.func101, Tryz.ntmps101
  go_wp2
  go_ret
  exact ⟨rfl, rfl⟩

end Go.Proofs.YthhdfbgjdfoalaaGreatDoor
