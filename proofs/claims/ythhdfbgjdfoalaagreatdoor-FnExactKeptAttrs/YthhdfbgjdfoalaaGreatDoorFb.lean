/- The small callees of the shortest decimal. -/
import Derived.Test.YthhdfbgjdfoalaaGreatDoorFa
import Derived.Test.YthhdfbgjdfoalaaGreatDoorShp
import Derived.Test.YthhdfbgjdfoalaaGreatDoorFu
namespace Go.Proofs.YthhdfbgjdfoalaaGreatDoor
open Go.RowKit
set_option linter.unusedVariables false
set_option linter.unusedSimpArgs false

theorem log10_any (x : Int) (w : World) (h1 : -60 ≤ x) (h2 : x ≤ 60) :
    Calls Tryz.prog 222 #[.int .i64 x] w fun e w' => e = .returned (.int .i64 (x * 78913 / 262144)) ∧ w' = w := by
  go_enter Tryz.func222, Tryz.ntmps222
  go_wp2
  go_ret
  exact ⟨rfl, rfl⟩

theorem log2_any (x : Int) (w : World) (h1 : -60 ≤ x) (h2 : x ≤ 60) :
    Calls Tryz.prog 243 #[.int .i64 x] w fun e w' => e = .returned (.int .i64 (x * 108853 / 32768)) ∧ w' = w := by
  go_enter Tryz.func243, Tryz.ntmps243
  go_wp2
  go_ret
  exact ⟨rfl, rfl⟩

theorem skewed_any (x : Int) (w : World) (h1 : -60 ≤ x) (h2 : x ≤ 60) :
    Calls Tryz.prog 241 #[.int .i64 x] w fun e w' => e = .returned (.int .i64 ((x * 631305 - 261663) / 2097152)) ∧ w' = w := by
  go_enter Tryz.func241, Tryz.ntmps241
  go_wp2
  go_ret
  exact ⟨rfl, rfl⟩

theorem nudge_any (x : Nat) (w : World) (h2 : x < 18446744073709551616) :
    Calls Tryz.prog 245 #[.int .u64 x, .int .i64 0] w fun e w' => e = .returned (.int .u64 x) ∧ w' = w := by
  go_enter Tryz.func245, Tryz.ntmps245
  go_wp2
  go_ret
  exact ⟨rfl, rfl⟩

theorem ceil_any (x : Nat) (w : World) (h2 : x < 18446744073709551600) :
    Calls Tryz.prog 246 #[.int .u64 x] w fun e w' => e = .returned (.int .u64 (((x + 3) / 4 : Nat) : Int)) ∧ w' = w := by
  go_enter Tryz.func246, Tryz.ntmps246
  go_wp2
  go_ret
  exact ⟨by simp, rfl⟩

theorem floor_any (x : Nat) (w : World) (h2 : x < 18446744073709551600) :
    Calls Tryz.prog 247 #[.int .u64 x] w fun e w' => e = .returned (.int .u64 ((x / 4 : Nat) : Int)) ∧ w' = w := by
  go_enter Tryz.func247, Tryz.ntmps247
  go_wp2
  go_ret
  exact ⟨by simp, rfl⟩

set_option maxRecDepth 100000 in
set_option maxHeartbeats 3200000 in
theorem uscale_any (x g hi s : Nat) (T : TypeId) (w : World) (hr : w.rowIs g T 3 (r3 (.int .u64 hi) (.int .u64 0) (.int .i64 s))) (hx : x < 18446744073709551616) (hh : hi < 18446744073709551616) (hs : s = 5 ∨ s = 6 ∨ s = 7 ∨ s = 8) :
    Calls Tryz.prog 244 #[.int .u64 x, .pointer (some ⟨g, 0, none⟩)] w fun e w' => e = .returned (.int .u64 (usc x hi s)) ∧ Below w.heap.size w w' := by
  have K1 := Hid.mk' (Tryz.bits_Mul64 x hi hx hh w)
  have K2' := Tryz.bits_Mul64 x 0 hx (by omega) w
  rw [Nat.mul_zero] at K2'
  have K2 : Hid (Calls Tryz.prog 276 #[.int .u64 x, .int .u64 0] w fun e w' => e = .returned (.tuple #[.int .u64 0, .int .u64 0]) ∧ w' = w) := Hid.mk' K2'
  have KF := Hid.mk' (bool2u_any false w)
  have KB : Hid (∀ (b : Bool) (W : World), Calls Tryz.prog 269 #[.bool b] W fun e w' => e = .returned (.int .u64 (if b = true then 1 else 0)) ∧ w' = W) := fun b W => bool2u_any b W
  have c0 : w.cell? ⟨g, 0, none⟩ = some (.int .u64 hi) := hr.cell (by omega)
  have c1 : w.cell? ⟨g, 1, none⟩ = some (.int .u64 0) := hr.cell (by omega)
  have c2 : w.cell? ⟨g, 2, none⟩ = some (.int .i64 s) := hr.cell (by omega)
  have c3 := hr.lt
  have hH : x * hi / 18446744073709551616 < 18446744073709551616 := by
    have : x * hi < 18446744073709551616 * 18446744073709551616 := Nat.mul_lt_mul'' hx hh
    exact Nat.div_lt_of_lt_mul this
  have hM : x * hi % 18446744073709551616 < 18446744073709551616 := Nat.mod_lt _ (by decide)
  have HU : Hid (usc x hi s = if x * hi / 18446744073709551616 / 2 ^ s * 2 ^ s = x * hi / 18446744073709551616 then (x * hi / 18446744073709551616 / 2 ^ s) ||| (if 1 < x * hi % 18446744073709551616 then 1 else 0) else (x * hi / 18446744073709551616 / 2 ^ s) ||| 1) := Hid.mk' rfl
  clear hr K2'
  generalize usc x hi s = U at *
  generalize x * hi / 18446744073709551616 = H at *
  generalize x * hi % 18446744073709551616 = M at *
  rcases hs with rfl | rfl | rfl | rfl
  · have o1 : bits .or .u64 ((H : Int) / 32) 1 = (((H / 32) ||| 1 : Nat) : Int) := by
      have e := u64_or_nat (H / 32) 1 (by omega) (by decide)
      rw [show (((H / 32 : Nat)) : Int) = (H : Int) / 32 by omega] at e
      exact e
    have o0 : bits .or .u64 ((H : Int) / 32) 0 = (((H / 32) ||| 0 : Nat) : Int) := by
      have e := u64_or_nat (H / 32) 0 (by omega) (by decide)
      rw [show (((H / 32 : Nat)) : Int) = (H : Int) / 32 by omega] at e
      exact e
    have hb : bits .and .i64 5 63 = 5 := by decide
    have e2 : (2 : Nat) ^ 5 = 32 := by decide
    rw [e2] at HU
    have b1 : (0 : Int) ≤ (H : Int) / 32 * 32 := by omega
    have b2 : (H : Int) / 32 * 32 ≤ 18446744073709551615 := by omega
    have m0 : ¬ (M : Int) < 0 := by omega
    by_cases hz : H / 32 * 32 = H
    · have hn : (((H : Int) / 32 * 32) != (H : Int)) = false := by rw [bne_eq_false_iff_eq]; omega
      rw [if_pos hz] at HU
      by_cases m1 : (M : Int) > 1
      · rw [if_pos (by omega)] at HU
        clear hz
        go_enter Tryz.func244, Tryz.ntmps244
        go_wp2_with (first | (go_at_call_of 276 (Value.int IntKind.u64 (hi : Int)); refine K1.out.mono ?_; rintro e w1 ⟨rfl, hw⟩; obtain rfl := hw.symm) | (go_at_call 276; refine K2.out.mono ?_; rintro e w1 ⟨rfl, hw⟩; obtain rfl := hw.symm) | (go_at_call 269; refine KF.out.mono ?_; rintro e w1 ⟨rfl, hw⟩; obtain rfl := hw.symm))
        go_quiet ((go_at_call 269; exact Calls.quiet_of_same (KB.out _ _)))
        go_wp2
        go_ret
        exact ⟨by rw [HU.out, ← o1]; first | rfl | simp, below_drewN (Below.refl _ _) _⟩
      · rw [if_neg (by omega)] at HU
        have md : decide (1 < (M : Int)) = false := by rw [decide_eq_false_iff_not]; omega
        have md2 : decide ((M : Int) > 1) = false := md
        clear hz m1
        go_enter Tryz.func244, Tryz.ntmps244
        go_wp2_with (first | (go_at_call_of 276 (Value.int IntKind.u64 (hi : Int)); refine K1.out.mono ?_; rintro e w1 ⟨rfl, hw⟩; obtain rfl := hw.symm) | (go_at_call 276; refine K2.out.mono ?_; rintro e w1 ⟨rfl, hw⟩; obtain rfl := hw.symm) | (go_at_call 269; refine KF.out.mono ?_; rintro e w1 ⟨rfl, hw⟩; obtain rfl := hw.symm))
        go_quiet ((go_at_call 269; exact Calls.quiet_of_same (KB.out _ _)))
        go_wp2
        go_ret
        exact ⟨by first | (rw [HU.out, ← o0]; rfl) | (rw [HU.out, Nat.or_zero]; simp), below_drewN (Below.refl _ _) _⟩
    · have hn : (((H : Int) / 32 * 32) != (H : Int)) = true := by rw [bne_iff_ne]; omega
      rw [if_neg hz] at HU
      clear hz
      go_enter Tryz.func244, Tryz.ntmps244
      go_wp2_with fail
      refine K1.out.mono ?_
      rintro e w1 ⟨rfl, hw⟩
      obtain rfl := hw.symm
      go_wp2
      go_ret
      exact ⟨by rw [HU.out, ← o1]; rfl, Below.refl _ _⟩
  · have o1 : bits .or .u64 ((H : Int) / 64) 1 = (((H / 64) ||| 1 : Nat) : Int) := by
      have e := u64_or_nat (H / 64) 1 (by omega) (by decide)
      rw [show (((H / 64 : Nat)) : Int) = (H : Int) / 64 by omega] at e
      exact e
    have o0 : bits .or .u64 ((H : Int) / 64) 0 = (((H / 64) ||| 0 : Nat) : Int) := by
      have e := u64_or_nat (H / 64) 0 (by omega) (by decide)
      rw [show (((H / 64 : Nat)) : Int) = (H : Int) / 64 by omega] at e
      exact e
    have hb : bits .and .i64 6 63 = 6 := by decide
    have e2 : (2 : Nat) ^ 6 = 64 := by decide
    rw [e2] at HU
    have b1 : (0 : Int) ≤ (H : Int) / 64 * 64 := by omega
    have b2 : (H : Int) / 64 * 64 ≤ 18446744073709551615 := by omega
    have m0 : ¬ (M : Int) < 0 := by omega
    by_cases hz : H / 64 * 64 = H
    · have hn : (((H : Int) / 64 * 64) != (H : Int)) = false := by rw [bne_eq_false_iff_eq]; omega
      rw [if_pos hz] at HU
      by_cases m1 : (M : Int) > 1
      · rw [if_pos (by omega)] at HU
        clear hz
        go_enter Tryz.func244, Tryz.ntmps244
        go_wp2_with (first | (go_at_call_of 276 (Value.int IntKind.u64 (hi : Int)); refine K1.out.mono ?_; rintro e w1 ⟨rfl, hw⟩; obtain rfl := hw.symm) | (go_at_call 276; refine K2.out.mono ?_; rintro e w1 ⟨rfl, hw⟩; obtain rfl := hw.symm) | (go_at_call 269; refine KF.out.mono ?_; rintro e w1 ⟨rfl, hw⟩; obtain rfl := hw.symm))
        go_quiet ((go_at_call 269; exact Calls.quiet_of_same (KB.out _ _)))
        go_wp2
        go_ret
        exact ⟨by rw [HU.out, ← o1]; first | rfl | simp, below_drewN (Below.refl _ _) _⟩
      · rw [if_neg (by omega)] at HU
        have md : decide (1 < (M : Int)) = false := by rw [decide_eq_false_iff_not]; omega
        have md2 : decide ((M : Int) > 1) = false := md
        clear hz m1
        go_enter Tryz.func244, Tryz.ntmps244
        go_wp2_with (first | (go_at_call_of 276 (Value.int IntKind.u64 (hi : Int)); refine K1.out.mono ?_; rintro e w1 ⟨rfl, hw⟩; obtain rfl := hw.symm) | (go_at_call 276; refine K2.out.mono ?_; rintro e w1 ⟨rfl, hw⟩; obtain rfl := hw.symm) | (go_at_call 269; refine KF.out.mono ?_; rintro e w1 ⟨rfl, hw⟩; obtain rfl := hw.symm))
        go_quiet ((go_at_call 269; exact Calls.quiet_of_same (KB.out _ _)))
        go_wp2
        go_ret
        exact ⟨by first | (rw [HU.out, ← o0]; rfl) | (rw [HU.out, Nat.or_zero]; simp), below_drewN (Below.refl _ _) _⟩
    · have hn : (((H : Int) / 64 * 64) != (H : Int)) = true := by rw [bne_iff_ne]; omega
      rw [if_neg hz] at HU
      clear hz
      go_enter Tryz.func244, Tryz.ntmps244
      go_wp2_with fail
      refine K1.out.mono ?_
      rintro e w1 ⟨rfl, hw⟩
      obtain rfl := hw.symm
      go_wp2
      go_ret
      exact ⟨by rw [HU.out, ← o1]; rfl, Below.refl _ _⟩
  · have o1 : bits .or .u64 ((H : Int) / 128) 1 = (((H / 128) ||| 1 : Nat) : Int) := by
      have e := u64_or_nat (H / 128) 1 (by omega) (by decide)
      rw [show (((H / 128 : Nat)) : Int) = (H : Int) / 128 by omega] at e
      exact e
    have o0 : bits .or .u64 ((H : Int) / 128) 0 = (((H / 128) ||| 0 : Nat) : Int) := by
      have e := u64_or_nat (H / 128) 0 (by omega) (by decide)
      rw [show (((H / 128 : Nat)) : Int) = (H : Int) / 128 by omega] at e
      exact e
    have hb : bits .and .i64 7 63 = 7 := by decide
    have e2 : (2 : Nat) ^ 7 = 128 := by decide
    rw [e2] at HU
    have b1 : (0 : Int) ≤ (H : Int) / 128 * 128 := by omega
    have b2 : (H : Int) / 128 * 128 ≤ 18446744073709551615 := by omega
    have m0 : ¬ (M : Int) < 0 := by omega
    by_cases hz : H / 128 * 128 = H
    · have hn : (((H : Int) / 128 * 128) != (H : Int)) = false := by rw [bne_eq_false_iff_eq]; omega
      rw [if_pos hz] at HU
      by_cases m1 : (M : Int) > 1
      · rw [if_pos (by omega)] at HU
        clear hz
        go_enter Tryz.func244, Tryz.ntmps244
        go_wp2_with (first | (go_at_call_of 276 (Value.int IntKind.u64 (hi : Int)); refine K1.out.mono ?_; rintro e w1 ⟨rfl, hw⟩; obtain rfl := hw.symm) | (go_at_call 276; refine K2.out.mono ?_; rintro e w1 ⟨rfl, hw⟩; obtain rfl := hw.symm) | (go_at_call 269; refine KF.out.mono ?_; rintro e w1 ⟨rfl, hw⟩; obtain rfl := hw.symm))
        go_quiet ((go_at_call 269; exact Calls.quiet_of_same (KB.out _ _)))
        go_wp2
        go_ret
        exact ⟨by rw [HU.out, ← o1]; first | rfl | simp, below_drewN (Below.refl _ _) _⟩
      · rw [if_neg (by omega)] at HU
        have md : decide (1 < (M : Int)) = false := by rw [decide_eq_false_iff_not]; omega
        have md2 : decide ((M : Int) > 1) = false := md
        clear hz m1
        go_enter Tryz.func244, Tryz.ntmps244
        go_wp2_with (first | (go_at_call_of 276 (Value.int IntKind.u64 (hi : Int)); refine K1.out.mono ?_; rintro e w1 ⟨rfl, hw⟩; obtain rfl := hw.symm) | (go_at_call 276; refine K2.out.mono ?_; rintro e w1 ⟨rfl, hw⟩; obtain rfl := hw.symm) | (go_at_call 269; refine KF.out.mono ?_; rintro e w1 ⟨rfl, hw⟩; obtain rfl := hw.symm))
        go_quiet ((go_at_call 269; exact Calls.quiet_of_same (KB.out _ _)))
        go_wp2
        go_ret
        exact ⟨by first | (rw [HU.out, ← o0]; rfl) | (rw [HU.out, Nat.or_zero]; simp), below_drewN (Below.refl _ _) _⟩
    · have hn : (((H : Int) / 128 * 128) != (H : Int)) = true := by rw [bne_iff_ne]; omega
      rw [if_neg hz] at HU
      clear hz
      go_enter Tryz.func244, Tryz.ntmps244
      go_wp2_with fail
      refine K1.out.mono ?_
      rintro e w1 ⟨rfl, hw⟩
      obtain rfl := hw.symm
      go_wp2
      go_ret
      exact ⟨by rw [HU.out, ← o1]; rfl, Below.refl _ _⟩
  · have o1 : bits .or .u64 ((H : Int) / 256) 1 = (((H / 256) ||| 1 : Nat) : Int) := by
      have e := u64_or_nat (H / 256) 1 (by omega) (by decide)
      rw [show (((H / 256 : Nat)) : Int) = (H : Int) / 256 by omega] at e
      exact e
    have o0 : bits .or .u64 ((H : Int) / 256) 0 = (((H / 256) ||| 0 : Nat) : Int) := by
      have e := u64_or_nat (H / 256) 0 (by omega) (by decide)
      rw [show (((H / 256 : Nat)) : Int) = (H : Int) / 256 by omega] at e
      exact e
    have hb : bits .and .i64 8 63 = 8 := by decide
    have e2 : (2 : Nat) ^ 8 = 256 := by decide
    rw [e2] at HU
    have b1 : (0 : Int) ≤ (H : Int) / 256 * 256 := by omega
    have b2 : (H : Int) / 256 * 256 ≤ 18446744073709551615 := by omega
    have m0 : ¬ (M : Int) < 0 := by omega
    by_cases hz : H / 256 * 256 = H
    · have hn : (((H : Int) / 256 * 256) != (H : Int)) = false := by rw [bne_eq_false_iff_eq]; omega
      rw [if_pos hz] at HU
      by_cases m1 : (M : Int) > 1
      · rw [if_pos (by omega)] at HU
        clear hz
        go_enter Tryz.func244, Tryz.ntmps244
        go_wp2_with (first | (go_at_call_of 276 (Value.int IntKind.u64 (hi : Int)); refine K1.out.mono ?_; rintro e w1 ⟨rfl, hw⟩; obtain rfl := hw.symm) | (go_at_call 276; refine K2.out.mono ?_; rintro e w1 ⟨rfl, hw⟩; obtain rfl := hw.symm) | (go_at_call 269; refine KF.out.mono ?_; rintro e w1 ⟨rfl, hw⟩; obtain rfl := hw.symm))
        go_quiet ((go_at_call 269; exact Calls.quiet_of_same (KB.out _ _)))
        go_wp2
        go_ret
        exact ⟨by rw [HU.out, ← o1]; first | rfl | simp, below_drewN (Below.refl _ _) _⟩
      · rw [if_neg (by omega)] at HU
        have md : decide (1 < (M : Int)) = false := by rw [decide_eq_false_iff_not]; omega
        have md2 : decide ((M : Int) > 1) = false := md
        clear hz m1
        go_enter Tryz.func244, Tryz.ntmps244
        go_wp2_with (first | (go_at_call_of 276 (Value.int IntKind.u64 (hi : Int)); refine K1.out.mono ?_; rintro e w1 ⟨rfl, hw⟩; obtain rfl := hw.symm) | (go_at_call 276; refine K2.out.mono ?_; rintro e w1 ⟨rfl, hw⟩; obtain rfl := hw.symm) | (go_at_call 269; refine KF.out.mono ?_; rintro e w1 ⟨rfl, hw⟩; obtain rfl := hw.symm))
        go_quiet ((go_at_call 269; exact Calls.quiet_of_same (KB.out _ _)))
        go_wp2
        go_ret
        exact ⟨by first | (rw [HU.out, ← o0]; rfl) | (rw [HU.out, Nat.or_zero]; simp), below_drewN (Below.refl _ _) _⟩
    · have hn : (((H : Int) / 256 * 256) != (H : Int)) = true := by rw [bne_iff_ne]; omega
      rw [if_neg hz] at HU
      clear hz
      go_enter Tryz.func244, Tryz.ntmps244
      go_wp2_with fail
      refine K1.out.mono ?_
      rintro e w1 ⟨rfl, hw⟩
      obtain rfl := hw.symm
      go_wp2
      go_ret
      exact ⟨by rw [HU.out, ← o1]; rfl, Below.refl _ _⟩

end Go.Proofs.YthhdfbgjdfoalaaGreatDoor
