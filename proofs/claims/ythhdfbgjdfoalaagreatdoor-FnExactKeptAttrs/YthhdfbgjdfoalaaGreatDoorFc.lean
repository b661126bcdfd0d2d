/- The shortest decimal of a number of quarters. -/
import Derived.Test.YthhdfbgjdfoalaaGreatDoorFb
import Derived.Test.YthhdfbgjdfoalaaGreatDoorOwn
namespace Go.Proofs.YthhdfbgjdfoalaaGreatDoor
open Go.RowKit
set_option linter.unusedVariables false
set_option linter.unusedSimpArgs false

/-- The rows of the table of powers that are met. -/
def PT (w : World) : Prop := 11 < w.heap.size ∧ ∀ p : Nat, 12 ≤ p → p ≤ 17 → w.cell? ⟨11, (p + 348) * 2, none⟩ = some (.int .u64 (tabHi p)) ∧ w.cell? ⟨11, (p + 348) * 2 + 1, none⟩ = some (.int .u64 0)

theorem PT.below {w w' : World} (h : PT w) (hb : Below w.heap.size w w') : PT w' :=
  ⟨Nat.lt_of_lt_of_le h.1 hb.size, fun p h1 h2 => ⟨(hb.cell h.1).trans (h.2 p h1 h2).1, (hb.cell h.1).trans (h.2 p h1 h2).2⟩⟩

theorem tabHi_lt (p : Nat) : tabHi p < 18446744073709551616 := by
  unfold tabHi
  repeat (split; decide)
  decide

set_option maxRecDepth 100000 in
set_option maxHeartbeats 3200000 in
theorem prescale_any (g p : Nat) (e lp : Int) (v0 v1 v2 : Value) (w : World) (hp : PT w) (h1 : 12 ≤ p) (h2 : p ≤ 17) (hr : w.rowIs g 289 3 (r3 v0 v1 v2)) (he1 : -100 ≤ e) (he2 : e ≤ 100) (hl1 : 0 ≤ lp) (hl2 : lp ≤ 100) :
    Calls Tryz.prog 242 #[.pointer (some ⟨g, 0, none⟩), .int .i64 e, .int .i64 p, .int .i64 lp] w fun e' w' => e' = .returned (.tuple #[]) ∧ w'.rowIs g 289 3 (r3 (.int .u64 (tabHi p)) (.int .u64 0) (.int .i64 (-(e + lp + 3)))) ∧ KeptIn g (g + 1) w w' := by
  obtain ⟨t0, t1⟩ := hp.2 p h1 h2
  have g8 := hp.1
  generalize tabHi p = H at *
  have i1 : (0 : Int) ≤ (p : Int) + 348 := by omega
  have i2 : (p : Int) + 348 < 696 := by omega
  have c0 : w.cell? ⟨g, 0, none⟩ = some v0 := hr.cell (by omega)
  have c1 : w.cell? ⟨g, 1, none⟩ = some v1 := hr.cell (by omega)
  have c2 : w.cell? ⟨g, 2, none⟩ = some v2 := hr.cell (by omega)
  have f0 := hr.frozen 0
  have f1 := hr.frozen 1
  have f2 := hr.frozen 2
  have c3 := hr.lt
  go_enter Tryz.func242, Tryz.ntmps242
  go_wp2
  refine bodyPost_end (results_none rfl _ _ _) rfl ?_
  exact ⟨rfl, (((hr.set 0 _).set 1 _).set 2 _).congr (fun j hj => by
    have : j = 0 ∨ j = 1 ∨ j = 2 := by omega
    rcases this with rfl | rfl | rfl <;> simp [r3]), kept3 w g 0 1 2 _ _ _⟩

theorem usc_lt (x hi s : Nat) (hx : x < 18446744073709551616) (hh : hi < 18446744073709551616) (hs : 5 ≤ s) : usc x hi s < 576460752303423488 := by
  have hH : x * hi / 18446744073709551616 < 18446744073709551616 := by
    have : x * hi < 18446744073709551616 * 18446744073709551616 := Nat.mul_lt_mul'' hx hh
    exact Nat.div_lt_of_lt_mul this
  have h2 : x * hi / 18446744073709551616 / 2 ^ s < 2 ^ 59 := by
    have h3 : x * hi / 18446744073709551616 / 2 ^ s ≤ x * hi / 18446744073709551616 / 2 ^ 5 := Nat.div_le_div_left (Nat.pow_le_pow_right (by decide) hs) (by decide)
    have h4 : x * hi / 18446744073709551616 / 2 ^ 5 < 2 ^ 59 := by
      rw [Nat.div_lt_iff_lt_mul (by decide)]
      exact hH
    omega
  have e : (576460752303423488 : Nat) = 2 ^ 59 := by decide
  unfold usc
  rw [e]
  split
  · split
    · exact Nat.or_lt_two_pow h2 (by decide)
    · exact Nat.or_lt_two_pow h2 (by decide)
  · exact Nat.or_lt_two_pow h2 (by decide)

set_option maxRecDepth 100000 in
set_option maxHeartbeats 6400000 in
theorem shortElse (M k p lp s d : Nat) (E : Int) (w : World) (hp : PT w) (hE : E = (k : Int) - 65) (k15 : k ≤ 15) (hM0 : 9223372036854775808 ≤ M) (hM1 : M ≤ 18446744073709550000) (hM2 : M % 4096 = 0) (hc : ¬ M = 9223372036854775808)
    (ep : p = pP k false) (el : lp = lpP p) (es : s = sP k p) (h1 : 12 ≤ p) (h2 : p ≤ 17) (hs : s = 5 ∨ s = 6 ∨ s = 7 ∨ s = 8)
    (hfp : ((k : Int) - 54) * 78913 / 262144 = -(p : Int)) (hlp : (p : Int) * 108853 / 32768 = lp) (hss : -(E + (lp : Int) + 3) = s)
    (hd : usc (M + 1024) (tabHi p) s / 4 / 10 = d) (hmin : (usc (M - 1024) (tabHi p) s + 3) / 4 ≤ d * 10) :
    Calls Tryz.prog 227 #[.int .u64 M, .int .i64 E] w fun e w' => e = .returned (.tuple #[.int .u64 d, .int .i64 (1 - (p : Int))]) ∧ Below w.heap.size w w' := by
  have hodd : bits .and .i64 ((M : Int) / 2048) 1 = 0 := by
    have e : bits .and .i64 ((M : Int) / 2048) 1 = IntKind.i64.wrap (((BitVec.ofInt 64 ((M : Int) / 2048) &&& BitVec.ofInt 64 1).toNat : Nat) : Int) := rfl
    rw [e, BitVec.toNat_and]
    have e1 : (BitVec.ofInt 64 1).toNat = 1 := by decide
    have e2 : (BitVec.ofInt 64 ((M : Int) / 2048)).toNat = M / 2048 := by
      rw [BitVec.toNat_ofInt]
      omega
    rw [e1, e2, Nat.and_one_is_mod]
    have e3 : M / 2048 % 2 = 0 := by omega
    rw [e3]; rfl
  have U1 := usc_lt (M - 1024) (tabHi p) s (by omega) (tabHi_lt p) (by omega)
  have U2 := usc_lt (M + 1024) (tabHi p) s (by omega) (tabHi_lt p) (by omega)
  have N0 := below_new w (.cells #[.int .u64 0, .int .u64 0, .int .i64 0] 289)
  have KF := log10_any (E + 11) w (by omega) (by omega)
  rw [show (E + 11) * 78913 / 262144 = -(p : Int) by rw [← hfp, hE]; congr 1; omega] at KF
  have KL := log2_any (p : Int) (w.alloc (.cells #[.int .u64 0, .int .u64 0, .int .i64 0] 289)) (by omega) (by omega)
  rw [hlp] at KL
  have KP := prescale_any w.heap.size p E lp (.int .u64 0) (.int .u64 0) (.int .i64 0) _ (hp.below N0) h1 h2 (row3 w 289 (.int .u64 0) (.int .u64 0) (.int .i64 0)) (by omega) (by omega) (by omega) (by omega)
  rw [hss] at KP
  have KFh := Hid.mk' KF
  have KLh := Hid.mk' KL
  have KPh := Hid.mk' KP
  have HN := Hid.mk' N0
  have KU : Hid (∀ (x : Nat) (W : World), W.rowIs w.heap.size 289 3 (r3 (.int .u64 (tabHi p)) (.int .u64 0) (.int .i64 s)) → x < 18446744073709551616 → Calls Tryz.prog 244 #[.int .u64 x, .pointer (some ⟨w.heap.size, 0, none⟩)] W fun e w' => e = .returned (.int .u64 (usc x (tabHi p) s)) ∧ Below W.heap.size W w') := fun x W hr hx => uscale_any x w.heap.size (tabHi p) s _ W hr hx (tabHi_lt p) hs
  have X1 : Hid (((M - 1024 : Nat) : Int) = (M : Int) - 1024) := Hid.mk' (by omega)
  have X2 : Hid (((M + 1024 : Nat) : Int) = (M : Int) + 1024) := Hid.mk' (by omega)
  have HD := Hid.mk' hd
  have HMN := Hid.mk' hmin
  have he1 : E > -1085 := by omega
  have he2 : E ≥ -1085 := by omega
  have he3 : -1000 ≤ E ∧ E ≤ 1000 := by omega
  have hm : ((M : Int) == 9223372036854775808) = false := by rw [beq_eq_false_iff_ne]; omega
  clear N0 KF KL KP hfp hlp hss hd hmin ep el es hE hp hM2 hc
  generalize hW : w.alloc (.cells #[.int .u64 0, .int .u64 0, .int .i64 0] 289) = W at *
  go_enter Tryz.func227, Tryz.ntmps227
  go_wp2_with fail
  refine KFh.out.mono ?_
  rintro e w1 ⟨rfl, hw⟩
  obtain rfl := hw.symm
  go_wp2_with fail
  refine KLh.out.mono ?_
  rintro e w1 ⟨rfl, hw⟩
  obtain rfl := hw.symm
  go_wp2_with fail
  clear hW
  refine KPh.out.mono ?_
  rintro e w2 ⟨rfl, hr2, hk2⟩
  have HR := Hid.mk' hr2
  have HB := Hid.mk' (HN.out.trans (hk2.below (Nat.le_refl _) HN.out.size))
  have KA := Hid.mk' (KU.out (M - 1024) w2 hr2 (by omega))
  rw [X1.out] at KA
  clear hr2 hk2 KFh KLh KPh
  go_wp2_with fail
  refine KA.out.mono ?_
  rintro e w3 ⟨rfl, hb⟩
  have HR := Hid.mk' (rowB HR.out hb)
  have HB := Hid.mk' (HB.out.trans (hb.mono HB.out.size))
  have KB := Hid.mk' (KU.out (M + 1024) w3 HR.out (by omega))
  rw [X2.out] at KB
  clear hb KA
  generalize usc (M - 1024) (tabHi p) s = u1 at *
  generalize usc (M + 1024) (tabHi p) s = u2 at *
  go_wp2_with (first | (go_at_call 245; refine (nudge_any _ _ (by omega)).mono ?_; rintro e w1 ⟨rfl, hw⟩; obtain rfl := hw.symm) | (go_at_call 246; refine (ceil_any _ _ (by omega)).mono ?_; rintro e w1 ⟨rfl, hw⟩; obtain rfl := hw.symm))
  refine KB.out.mono ?_
  rintro e w4 ⟨rfl, hb⟩
  have HB := Hid.mk' (HB.out.trans (hb.mono HB.out.size))
  clear hb KB
  have q2 : (u2 : Int) / 4 / 10 * 10 ≥ ((u1 : Int) + 3) / 4 := by have := HMN.out; have := HD.out; omega
  have q3 : (u2 : Int) / 4 / 10 * 10 ≤ 18446744073709551615 := by omega
  go_wp2_with (first | (go_at_call 245; refine (nudge_any _ _ (by omega)).mono ?_; rintro e w1 ⟨rfl, hw⟩; obtain rfl := hw.symm) | (go_at_call 247; refine (floor_any _ _ (by omega)).mono ?_; rintro e w1 ⟨rfl, hw⟩; obtain rfl := hw.symm))
  go_ret2
  exact ⟨by
    have e1 : (u2 : Int) / 4 / 10 = d := by have := HD.out; omega
    have e2 : -((p : Int) - 1) = 1 - (p : Int) := by omega
    rw [← e1, ← e2]
    rfl, HB.out⟩

set_option maxRecDepth 100000 in
set_option maxHeartbeats 6400000 in
theorem shortFoot (M k p lp s d : Nat) (E : Int) (w : World) (hp : PT w) (hE : E = (k : Int) - 65) (k15 : k ≤ 15) (hM0 : 9223372036854775808 ≤ M) (hM1 : M ≤ 18446744073709550000) (hM2 : M % 4096 = 0) (hc : M = 9223372036854775808)
    (ep : p = pP k true) (el : lp = lpP p) (es : s = sP k p) (h1 : 12 ≤ p) (h2 : p ≤ 17) (hs : s = 5 ∨ s = 6 ∨ s = 7 ∨ s = 8)
    (hfp : (((k : Int) - 54) * 631305 - 261663) / 2097152 = -(p : Int)) (hlp : (p : Int) * 108853 / 32768 = lp) (hss : -(E + (lp : Int) + 3) = s)
    (hd : usc (M + 1024) (tabHi p) s / 4 / 10 = d) (hmin : (usc (M - 512) (tabHi p) s + 3) / 4 ≤ d * 10) :
    Calls Tryz.prog 227 #[.int .u64 M, .int .i64 E] w fun e w' => e = .returned (.tuple #[.int .u64 d, .int .i64 (1 - (p : Int))]) ∧ Below w.heap.size w w' := by
  have hodd : bits .and .i64 ((M : Int) / 2048) 1 = 0 := by
    have e : bits .and .i64 ((M : Int) / 2048) 1 = IntKind.i64.wrap (((BitVec.ofInt 64 ((M : Int) / 2048) &&& BitVec.ofInt 64 1).toNat : Nat) : Int) := rfl
    rw [e, BitVec.toNat_and]
    have e1 : (BitVec.ofInt 64 1).toNat = 1 := by decide
    have e2 : (BitVec.ofInt 64 ((M : Int) / 2048)).toNat = M / 2048 := by
      rw [BitVec.toNat_ofInt]
      omega
    rw [e1, e2, Nat.and_one_is_mod]
    have e3 : M / 2048 % 2 = 0 := by omega
    rw [e3]; rfl
  have U1 := usc_lt (M - 512) (tabHi p) s (by omega) (tabHi_lt p) (by omega)
  have U2 := usc_lt (M + 1024) (tabHi p) s (by omega) (tabHi_lt p) (by omega)
  have N0 := below_new w (.cells #[.int .u64 0, .int .u64 0, .int .i64 0] 289)
  have KF := skewed_any (E + 11) w (by omega) (by omega)
  rw [show ((E + 11) * 631305 - 261663) / 2097152 = -(p : Int) by rw [← hfp, hE]; congr 1; omega] at KF
  have KL := log2_any (p : Int) (w.alloc (.cells #[.int .u64 0, .int .u64 0, .int .i64 0] 289)) (by omega) (by omega)
  rw [hlp] at KL
  have KP := prescale_any w.heap.size p E lp (.int .u64 0) (.int .u64 0) (.int .i64 0) _ (hp.below N0) h1 h2 (row3 w 289 (.int .u64 0) (.int .u64 0) (.int .i64 0)) (by omega) (by omega) (by omega) (by omega)
  rw [hss] at KP
  have KFh := Hid.mk' KF
  have KLh := Hid.mk' KL
  have KPh := Hid.mk' KP
  have HN := Hid.mk' N0
  have KU : Hid (∀ (x : Nat) (W : World), W.rowIs w.heap.size 289 3 (r3 (.int .u64 (tabHi p)) (.int .u64 0) (.int .i64 s)) → x < 18446744073709551616 → Calls Tryz.prog 244 #[.int .u64 x, .pointer (some ⟨w.heap.size, 0, none⟩)] W fun e w' => e = .returned (.int .u64 (usc x (tabHi p) s)) ∧ Below W.heap.size W w') := fun x W hr hx => uscale_any x w.heap.size (tabHi p) s _ W hr hx (tabHi_lt p) hs
  have X1 : Hid (((M - 512 : Nat) : Int) = (M : Int) - 512) := Hid.mk' (by omega)
  have X2 : Hid (((M + 1024 : Nat) : Int) = (M : Int) + 1024) := Hid.mk' (by omega)
  have HD := Hid.mk' hd
  have HMN := Hid.mk' hmin
  have he1 : E > -1085 := by omega
  have he2 : E ≥ -1085 := by omega
  have he3 : -1000 ≤ E ∧ E ≤ 1000 := by omega
  have hm : ((M : Int) == 9223372036854775808) = true := by rw [beq_iff_eq]; omega
  clear N0 KF KL KP hfp hlp hss hd hmin ep el es hE hp hM2 hc
  generalize hW : w.alloc (.cells #[.int .u64 0, .int .u64 0, .int .i64 0] 289) = W at *
  go_enter Tryz.func227, Tryz.ntmps227
  go_wp2_with fail
  refine KFh.out.mono ?_
  rintro e w1 ⟨rfl, hw⟩
  obtain rfl := hw.symm
  go_wp2_with fail
  refine KLh.out.mono ?_
  rintro e w1 ⟨rfl, hw⟩
  obtain rfl := hw.symm
  go_wp2_with fail
  clear hW
  refine KPh.out.mono ?_
  rintro e w2 ⟨rfl, hr2, hk2⟩
  have HR := Hid.mk' hr2
  have HB := Hid.mk' (HN.out.trans (hk2.below (Nat.le_refl _) HN.out.size))
  have KA := Hid.mk' (KU.out (M - 512) w2 hr2 (by omega))
  rw [X1.out] at KA
  clear hr2 hk2 KFh KLh KPh
  go_wp2_with fail
  refine KA.out.mono ?_
  rintro e w3 ⟨rfl, hb⟩
  have HR := Hid.mk' (rowB HR.out hb)
  have HB := Hid.mk' (HB.out.trans (hb.mono HB.out.size))
  have KB := Hid.mk' (KU.out (M + 1024) w3 HR.out (by omega))
  rw [X2.out] at KB
  clear hb KA
  generalize usc (M - 512) (tabHi p) s = u1 at *
  generalize usc (M + 1024) (tabHi p) s = u2 at *
  go_wp2_with (first | (go_at_call 245; refine (nudge_any _ _ (by omega)).mono ?_; rintro e w1 ⟨rfl, hw⟩; obtain rfl := hw.symm) | (go_at_call 246; refine (ceil_any _ _ (by omega)).mono ?_; rintro e w1 ⟨rfl, hw⟩; obtain rfl := hw.symm))
  refine KB.out.mono ?_
  rintro e w4 ⟨rfl, hb⟩
  have HB := Hid.mk' (HB.out.trans (hb.mono HB.out.size))
  clear hb KB
  have q2 : (u2 : Int) / 4 / 10 * 10 ≥ ((u1 : Int) + 3) / 4 := by have := HMN.out; have := HD.out; omega
  have q3 : (u2 : Int) / 4 / 10 * 10 ≤ 18446744073709551615 := by omega
  go_wp2_with (first | (go_at_call 245; refine (nudge_any _ _ (by omega)).mono ?_; rintro e w1 ⟨rfl, hw⟩; obtain rfl := hw.symm) | (go_at_call 247; refine (floor_any _ _ (by omega)).mono ?_; rintro e w1 ⟨rfl, hw⟩; obtain rfl := hw.symm))
  go_ret2
  exact ⟨by
    have e1 : (u2 : Int) / 4 / 10 = d := by have := HD.out; omega
    have e2 : -((p : Int) - 1) = 1 - (p : Int) := by omega
    rw [← e1, ← e2]
    rfl, HB.out⟩

theorem pfacts : ∀ k, k < 16 → ∀ b : Bool, (b = true ∨ 1 ≤ k) → 12 ≤ pP k b ∧ pP k b ≤ 17 ∧ (sP k (pP k b) = 5 ∨ sP k (pP k b) = 6 ∨ sP k (pP k b) = 7 ∨ sP k (pP k b) = 8) ∧ ((pP k b : Int) * 108853 / 32768 = (lpP (pP k b) : Int)) ∧ (-(((k : Int) - 65) + (lpP (pP k b) : Int) + 3) = (sP k (pP k b) : Int)) ∧ (if b = true then (((k : Int) - 54) * 631305 - 261663) / 2097152 else ((k : Int) - 54) * 78913 / 262144) = -(pP k b : Int) := by decide

theorem mfacts (q k : Nat) (k15 : k ≤ 15) (g1 : 2 ^ k ≤ q) (g2 : q < 2 ^ (k + 1)) : 9223372036854775808 ≤ q * 2 ^ (63 - k) ∧ q * 2 ^ (63 - k) ≤ 18446744073709550000 ∧ q * 2 ^ (63 - k) % 4096 = 0 := by
  rcases le15 k15 with rfl | rfl | rfl | rfl | rfl | rfl | rfl | rfl | rfl | rfl | rfl | rfl | rfl | rfl | rfl | rfl <;> simp at * <;> omega

/-- The shortest decimal of q quarters: its digits and its power. -/
def footB (q : Nat) : Bool := q * 2 ^ (63 - q.log2) == 9223372036854775808
def pQ (q : Nat) : Nat := pP q.log2 (footB q)
def dQ (q : Nat) : Nat := q * 25 * 10 ^ (pQ q - 3)

set_option maxRecDepth 100000 in
theorem shortFloat_any (q k : Nat) (w : World) (hp : PT w) (k15 : k ≤ 15) (g1 : 2 ^ k ≤ q) (g2 : q < 2 ^ (k + 1)) (hq : q ≤ 39999) :
    Calls Tryz.prog 227 #[.int .u64 ((q * 2 ^ (63 - k) : Nat) : Int), .int .i64 ((k : Int) - 65)] w fun e w' => e = .returned (.tuple #[.int .u64 (dQ q), .int .i64 (1 - (pQ q : Int))]) ∧ Below w.heap.size w w' := by
  have el : q.log2 = k := log2_le_of g1 g2
  have q1 : 1 ≤ q := Nat.le_trans (Nat.one_le_two_pow) g1
  have ok := short_at q q1 hq
  unfold shortOk at ok
  obtain ⟨m0, m1, m2⟩ := mfacts q k k15 g1 g2
  have eP : pQ q = pP k (footB q) := by unfold pQ; rw [el]
  have eF : footB q = (q * 2 ^ (63 - k) == 9223372036854775808) := by unfold footB; rw [el]
  simp only [el] at ok
  rw [← eF, ← eP] at ok
  rw [Bool.and_eq_true, Bool.and_eq_true, beq_iff_eq, decide_eq_true_eq, decide_eq_true_eq] at ok
  obtain ⟨⟨o1, o2⟩, _⟩ := ok
  have o3 : q * 250 * 10 ^ (pQ q - 3) = dQ q * 10 := by
    unfold dQ
    rw [Nat.mul_right_comm (q * 25), Nat.mul_assoc q 25 10]
  rw [o3] at o2
  have hb : footB q = true ∨ 1 ≤ k := by
    by_cases h : 1 ≤ k
    · exact .inr h
    · have k0 : k = 0 := by omega
      subst k0
      have : q = 1 := by simp at g1 g2; omega
      subst this
      exact .inl (by decide)
  obtain ⟨f1, f2, f3, f4, f5, f6⟩ := pfacts k (by omega) (footB q) hb
  rw [← eP] at f1 f2 f3 f4 f5 f6
  cases hf : footB q with
  | true =>
    rw [hf] at f6 o2 eF eP
    rw [if_pos rfl] at f6
    unfold dmin at o2
    rw [if_pos rfl] at o2
    exact shortFoot (q * 2 ^ (63 - k)) k (pQ q) (lpP (pQ q)) (sP k (pQ q)) (dQ q) ((k : Int) - 65) w hp rfl k15 m0 m1 m2 (beq_iff_eq.1 eF.symm) eP rfl rfl f1 f2 f3 f6 f4 f5 o1 o2
  | false =>
    rw [hf] at f6 o2 eF eP
    rw [if_neg (by decide)] at f6
    unfold dmin at o2
    rw [if_neg (by decide)] at o2
    exact shortElse (q * 2 ^ (63 - k)) k (pQ q) (lpP (pQ q)) (sP k (pQ q)) (dQ q) ((k : Int) - 65) w hp rfl k15 m0 m1 m2 (beq_eq_false_iff_ne.1 eF.symm) eP rfl rfl f1 f2 f3 f6 f4 f5 o1 o2

end Go.Proofs.YthhdfbgjdfoalaaGreatDoor
