/- ftoa64 at 'f', -1. -/
import Derived.Test.YthhdfbgjdfoalaaGreatDoorFf
import Derived.Test.YthhdfbgjdfoalaaGreatDoorFg
import Derived.Deep.RegionHeld3
import Derived.Lib.SmallJoins
namespace Go.Proofs.YthhdfbgjdfoalaaGreatDoor
open Go.RowKit Go.Joins
set_option linter.unusedVariables false
set_option linter.unusedSimpArgs false

@[go_sem] theorem run_bitsI (n : Nat) (w : World) : (callFunc 214 #[.float .f64 n]).run Tryz.prog w = .ok (.value (.int .u64 (n : Int))) w := by
  rw [run_callFunc_extern Tryz.func214 (by kernel_rfl) (by kernel_rfl) (by kernel_rfl) (e := Extern.MathFloatBits.float64bits) (by kernel_rfl)]
  rfl

theorem row32 (w : World) : (w.alloc (.cells #[Value.int .u8 0, Value.int .u8 0, Value.int .u8 0, Value.int .u8 0, Value.int .u8 0, Value.int .u8 0, Value.int .u8 0, Value.int .u8 0, Value.int .u8 0, Value.int .u8 0, Value.int .u8 0, Value.int .u8 0, Value.int .u8 0, Value.int .u8 0, Value.int .u8 0, Value.int .u8 0, Value.int .u8 0, Value.int .u8 0, Value.int .u8 0, Value.int .u8 0, Value.int .u8 0, Value.int .u8 0, Value.int .u8 0, Value.int .u8 0, Value.int .u8 0, Value.int .u8 0, Value.int .u8 0, Value.int .u8 0, Value.int .u8 0, Value.int .u8 0, Value.int .u8 0, Value.int .u8 0] 259)).rowIs w.heap.size 259 32 (fun _ => .int .u8 0) :=
  World.rowIs_alloc w _ _ _ (fun i hi => by
    have h : i < 32 := hi
    show (Array.replicate 32 (Value.int .u8 0))[i]? = _
    rw [Array.getElem?_replicate, if_pos h])
theorem GrF.below {w0 w w' : World} {v : Value} {l : List Int} (h : GrF w0 v l w) (hb : Below w.heap.size w w') : GrF w0 v l w' :=
  ⟨h.own.kept (row := none) ⟨hb.os, hb.tape, hb.output, hb.size, fun k hk _ => hb.block k hk⟩ (by cases hv : v.ownBlock <;> simp), h.bl.trans (hb.mono h.sz), Nat.le_trans h.sz hb.size⟩
abbrev TabW (w : World) : Prop := Lib.TabIs Tryz.prog w "internal/strconv.uint64pow10" .u64 Lib.pow10Tab
theorem tab_below {w w' : World} (h : TabW w) (hb : Below w.heap.size w w') : TabW w' := var_stays (g := 8) (by kernel_rfl) h hb (Nat.le_refl _)
theorem fmtL_congr (neg : Bool) (dp nd : Nat) (dv dw : Nat → Nat) (h : ∀ t, t < nd → dv t = dw t) : fmtL neg dp nd dv = fmtL neg dp nd dw := by
  unfold fmtL
  have e1 : (List.range (min nd dp)).map (fun i => (dv i : Int)) = (List.range (min nd dp)).map (fun i => (dw i : Int)) :=
    List.map_congr_left (fun i hi => by have := List.mem_range.1 hi; rw [h i (by omega)])
  have e2 : (List.range (nd - dp)).map (fun i => (dv (dp + i) : Int)) = (List.range (nd - dp)).map (fun i => (dw (dp + i) : Int)) :=
    List.map_congr_left (fun i hi => by have := List.mem_range.1 hi; rw [h (dp + i) (by omega)])
  rw [e1, e2]

theorem and_exp (a : Nat) (h : a < 4096) : bits .and .i64 (a : Int) 2047 = ((a % 2048 : Nat) : Int) := by
  have e : bits .and .i64 (a : Int) 2047 = IntKind.i64.wrap (((BitVec.ofInt 64 (a : Int) &&& BitVec.ofInt 64 2047).toNat : Nat) : Int) := rfl
  rw [e, BitVec.toNat_and]
  have e1 : (BitVec.ofInt 64 2047).toNat = 2047 := by decide
  have e2 : (BitVec.ofInt 64 (a : Int)).toNat = a := by
    rw [BitVec.toNat_ofInt]
    omega
  rw [e1, e2, show a &&& 2047 = a % 2048 from Nat.and_two_pow_sub_one_eq_mod a 11, IntKind.wrap_i64]
  omega
theorem and_mant (a : Nat) (h : a < 18446744073709551616) : bits .and .u64 (a : Int) 4503599627370495 = ((a % 4503599627370496 : Nat) : Int) := by
  have e : bits .and .u64 (a : Int) 4503599627370495 = IntKind.u64.wrap (((BitVec.ofInt 64 (a : Int) &&& BitVec.ofInt 64 4503599627370495).toNat : Nat) : Int) := rfl
  rw [e, BitVec.toNat_and]
  have e1 : (BitVec.ofInt 64 4503599627370495).toNat = 4503599627370495 := by decide
  have e2 : (BitVec.ofInt 64 (a : Int)).toNat = a := by
    rw [BitVec.toNat_ofInt]
    omega
  rw [e1, e2, show a &&& 4503599627370495 = a % 4503599627370496 from Nat.and_two_pow_sub_one_eq_mod a 52, IntKind.wrap_u64]
  omega
theorem or_lead (a : Nat) (h : a < 4503599627370496) : bits .or .u64 (a : Int) 4503599627370496 = ((4503599627370496 + a : Nat) : Int) := by
  have e := u64_or_nat a 4503599627370496 (by omega) (by decide)
  have e2 : a ||| 4503599627370496 = 4503599627370496 + a := by
    have := Nat.two_pow_add_eq_or_of_lt (i := 52) (b := a) (by omega) 1
    rw [Nat.or_comm] at this
    simpa using this.symm
  rw [e2] at e
  exact e
theorem len53 (M : Nat) (h1 : 4503599627370496 ≤ M) (h2 : M < 9007199254740992) : Lib.bitLen M = 53 := by
  rw [Lib.bitLen_shift 52 M h1 (by omega), show M / 2 ^ 52 = 1 by omega]
  decide

set_option maxRecDepth 100000 in
set_option maxHeartbeats 6400000 in
theorem ftoa_pos (q k n : Nat) (neg : Bool) (w0 w : World) (v : Value) (hn : n = (if neg = true then 9223372036854775808 else 0) + wq q k) (k15 : k ≤ 15) (g1 : 2 ^ k ≤ q) (g2 : q < 2 ^ (k + 1)) (hq : q ≤ 39999) (hp : PT w) (htab : Lib.TabIs Tryz.prog w "internal/strconv.uint64pow10" .u64 Lib.pow10Tab) (hG : GrF w0 v [] w) :
    Calls Tryz.prog 196 #[v, .float .f64 n, .int .u8 102, .int .i64 (-1)] w fun e w' => ∃ v', e = .returned v' ∧ GrF w0 v' ((if neg = true then [45] else []) ++ (digL (q / 4) ++ fracL (q % 4))) w' := by
  obtain ⟨f1, f2, f3, f4⟩ := wq_facts q k k15 g1 g2
  obtain ⟨m1, m2⟩ := mul_two_pow_range (q := q) (L := k) g1 g2 (by omega)
  have hn2 : n % 4503599627370496 = wq q k % 4503599627370496 := by rw [hn]; split <;> omega
  have hn3 : n / 4503599627370496 % 2048 = 1021 + k := by rw [hn]; split <;> omega
  have hn4 : n < 18446744073709551616 := by rw [hn]; split <;> omega
  have hs : (((n : Int) / 9223372036854775808) != 0) = neg := by
    cases neg
    · rw [bne_eq_false_iff_eq]; rw [if_neg (by decide)] at hn; omega
    · rw [bne_iff_ne]; rw [if_pos rfl] at hn; omega
  have hE := and_exp (n / 4503599627370496) (by omega)
  rw [hn3, show ((n / 4503599627370496 : Nat) : Int) = (n : Int) / 4503599627370496 by omega] at hE
  have hA := and_mant n hn4
  have hO := or_lead (n % 4503599627370496) (Nat.mod_lt _ (by decide))
  rw [hn2, f2] at hO
  rw [hn2] at hA
  have KL : Hid (∀ W : World, Calls Tryz.prog 218 #[.int .u64 ((q * 2 ^ (52 - k) : Nat) : Int)] W fun e w' => e = .returned (.int .i64 53) ∧ w' = W) := fun W => by
    have h := Tryz.bits_Len64 ((q * 2 ^ (52 - k) : Nat) : Int) W (by omega) (by omega)
    rw [Int.toNat_natCast, len53 _ m1 m2] at h
    exact h
  have q1 : 1 ≤ q := Nat.le_trans (Nat.one_le_two_pow) g1
  obtain ⟨a1, a2, a3, a4, a5, a6, a7⟩ := fmt_at q q1 hq
  have eM : ((q * 2 ^ (63 - k) : Nat) : Int) = ((q * 2 ^ (52 - k) : Nat) : Int) * 2048 := by
    rw [show 63 - k = 52 - k + 11 by omega, Nat.pow_add, ← Nat.mul_assoc]
    omega
  have eX : (k : Int) - 65 = ((1021 + k : Nat) : Int) + -1023 - 11 - 52 := by omega
  obtain ⟨u1, u2, u3⟩ := mfacts q k k15 g1 g2
  have bM : ((q * 2 ^ (52 - k) : Nat) : Int) * 2048 ≤ 18446744073709550000 := by rw [← eM]; omega
  have KS : Hid (∀ W : World, PT W → Calls Tryz.prog 227 #[.int .u64 (((q * 2 ^ (52 - k) : Nat) : Int) * 2048), .int .i64 (((1021 + k : Nat) : Int) + -1023 - 11 - 52)] W fun e w' => e = .returned (.tuple #[.int .u64 (dQ q), .int .i64 (1 - (pQ q : Int))]) ∧ Below W.heap.size W w') := fun W hW => by
    rw [← eM, ← eX]
    exact shortFloat_any q k W hW k15 g1 g2 hq
  have HP := Hid.mk' hp
  have HT := Hid.mk' htab
  have HG := Hid.mk' hG
  have A1 := Hid.mk' a1
  have A2 := Hid.mk' a2
  have A7 := Hid.mk' a7
  obtain ⟨L, hL⟩ : ∃ L, L = (if neg = true then [45] else []) ++ (digL (q / 4) ++ fracL (q % 4)) := ⟨_, rfl⟩
  rw [← hL]
  replace hL := Hid.mk' hL
  have hx1 : (((1021 + k : Nat) : Int) == 2047) = false := by rw [beq_eq_false_iff_ne]; omega
  have hx2 : (((1021 + k : Nat) : Int) == 0) = false := by rw [beq_eq_false_iff_ne]; omega
  have hx3 : ((1021 + k : Nat) : Int) ≤ 1100 := by omega
  have hx4 : 1000 ≤ ((1021 + k : Nat) : Int) := by omega
  have hM0 : 1 ≤ ((q * 2 ^ (52 - k) : Nat) : Int) := by omega
  have hM : (((q * 2 ^ (52 - k) : Nat) : Int) == 0) = false := by rw [beq_eq_false_iff_ne]; omega
  have hn5 : (n : Int) ≤ 18446744073709551615 := by omega
  clear eM eX hp htab hG a1 a2 a7 u1 u2 u3 f1 f2 f3 f4 hn2 hn3 hn g1 g2 k15 q1
  generalize ((1021 + k : Nat) : Int) = x at *
  generalize ((q * 2 ^ (52 - k) : Nat) : Int) = M at *
  generalize ((wq q k % 4503599627370496 : Nat) : Int) = mm at *
  go_enter Tryz.func196, Tryz.ntmps196
  go_wp2_with fail
  go_quiet (fail)
  have N1 : Below w.heap.size w ((w.drewN nq).alloc (.cells #[Value.int .u8 0, Value.int .u8 0, Value.int .u8 0, Value.int .u8 0, Value.int .u8 0, Value.int .u8 0, Value.int .u8 0, Value.int .u8 0, Value.int .u8 0, Value.int .u8 0, Value.int .u8 0, Value.int .u8 0, Value.int .u8 0, Value.int .u8 0, Value.int .u8 0, Value.int .u8 0, Value.int .u8 0, Value.int .u8 0, Value.int .u8 0, Value.int .u8 0, Value.int .u8 0, Value.int .u8 0, Value.int .u8 0, Value.int .u8 0, Value.int .u8 0, Value.int .u8 0, Value.int .u8 0, Value.int .u8 0, Value.int .u8 0, Value.int .u8 0, Value.int .u8 0, Value.int .u8 0] 259)) := (below_draws _ w nq).alloc (Nat.le_refl _) _
  have R1 : ((w.drewN nq).alloc (.cells #[Value.int .u8 0, Value.int .u8 0, Value.int .u8 0, Value.int .u8 0, Value.int .u8 0, Value.int .u8 0, Value.int .u8 0, Value.int .u8 0, Value.int .u8 0, Value.int .u8 0, Value.int .u8 0, Value.int .u8 0, Value.int .u8 0, Value.int .u8 0, Value.int .u8 0, Value.int .u8 0, Value.int .u8 0, Value.int .u8 0, Value.int .u8 0, Value.int .u8 0, Value.int .u8 0, Value.int .u8 0, Value.int .u8 0, Value.int .u8 0, Value.int .u8 0, Value.int .u8 0, Value.int .u8 0, Value.int .u8 0, Value.int .u8 0, Value.int .u8 0, Value.int .u8 0, Value.int .u8 0] 259)).rowIs w.heap.size 259 32 (fun _ => .int .u8 0) := row32 (w.drewN nq)
  have N1h := Hid.mk' N1
  have R1h := Hid.mk' R1
  clear N1 R1
  go_wp2_with fail
  generalize hW : (w.drewN nq).alloc (.cells #[Value.int .u8 0, Value.int .u8 0, Value.int .u8 0, Value.int .u8 0, Value.int .u8 0, Value.int .u8 0, Value.int .u8 0, Value.int .u8 0, Value.int .u8 0, Value.int .u8 0, Value.int .u8 0, Value.int .u8 0, Value.int .u8 0, Value.int .u8 0, Value.int .u8 0, Value.int .u8 0, Value.int .u8 0, Value.int .u8 0, Value.int .u8 0, Value.int .u8 0, Value.int .u8 0, Value.int .u8 0, Value.int .u8 0, Value.int .u8 0, Value.int .u8 0, Value.int .u8 0, Value.int .u8 0, Value.int .u8 0, Value.int .u8 0, Value.int .u8 0, Value.int .u8 0, Value.int .u8 0] 259) = W at N1h R1h ⊢
  refine (KL.out _).mono ?_
  rintro e w1 ⟨rfl, hw⟩
  obtain rfl := hw.symm
  have HP := Hid.mk' (HP.out.below N1h.out)
  have HT := Hid.mk' (tab_below HT.out N1h.out)
  have HG2 := Hid.mk' (HG.out.below N1h.out)
  clear hW
  go_wp2_with fail
  refine (KS.out _ HP.out).mono ?_
  rintro e w3 ⟨rfl, hb3⟩
  have HT3 := Hid.mk' (tab_below HT.out hb3)
  have HG3 := Hid.mk' (HG2.out.below hb3)
  have R3 := Hid.mk' (rowB R1h.out hb3)
  clear hb3 KS KL HP HT HG2
  go_wp2_with fail
  have KN : Hid (∀ W : World, W.heap = w3.heap → Calls Tryz.prog 221 #[.int .u64 (dQ q)] W fun e w' => e = .returned (.int .i64 (ndQ q)) ∧ w' = W) := fun W hW =>
    Tryz.internal_strconv_numDigits (dQ q) A2.out A1.out W (show W.var? Tryz.prog _ = _ from (World.var?_heap hW _).trans HT3.out)
  have KD : Hid (∀ W : World, W.heap = w3.heap → W.os = w3.os → W.tape = w3.tape → W.output = w3.output → Calls Tryz.prog 220 #[.slice (some ⟨w.heap.size, 0, none⟩) 32 32, .int .u64 (dQ q), .int .i64 (1 - (pQ q : Int)), .int .i64 (ndQ q)] W fun e w' => e = .returned (.tuple #[.int .i64 (dpQ q), .int .i64 (nQ q)]) ∧ w'.rowIs w.heap.size 259 32 (bufF (dQ q) (ndQ q)) ∧ KeptIn w.heap.size (w.heap.size + 1) w3 w') := fun W hW hW1 hW2 hW3 => by
    have R : W.rowIs w.heap.size 259 32 (fun _ => .int .u8 0) := R3.out.of_block (by rw [hW])
    have h := setDigits_any w.heap.size (dQ q) (ndQ q) (1 - (pQ q : Int)) W R (Lib.nDigits_pos _) (by omega) (Lib.lt_pow_nDigits _) A1.out (by have := a3; have := a5; omega) (by omega)
    refine h.mono ?_
    rintro e w' ⟨rfl, h1, h2⟩
    refine ⟨?_, h1, ⟨h2.os.trans hW1, h2.tape.trans hW2, h2.output.trans hW3, by rw [← hW]; exact h2.size, fun k hk hh => by rw [← hW]; exact h2.block k (by rw [hW]; exact hk) hh⟩⟩
    have e : (ndQ q : Int) + (1 - (pQ q : Int)) = (dpQ q : Int) := by unfold dpQ; omega
    rw [e]
    rfl
  go_region_held3 (fun w' => True) (trivial) (first
    | (go_at_call 221; refine (KN.out _ (by rfl)).mono ?_; rintro e w1 ⟨rfl, hw⟩; obtain rfl := hw.symm)
    | (go_at_call 220; refine (KD.out _ (by rfl) (by rfl) (by rfl) (by rfl)).mono ?_; rintro e w4 ⟨rfl, R4, K4⟩))
  have HF : Hid (FB w0 w.heap.size (fun t => if t < ndQ q then dAt (dQ q) (ndQ q) t else 0) v [] w4) := by
    have h3 := HG3.out
    have hl := HG.out.own.lt
    have hne : ∀ b, v.ownBlock = some b → b ≠ w.heap.size := fun b hb => by have := (hl b hb).2; omega
    refine ⟨⟨h3.own.kept (row := some w.heap.size) ⟨K4.os, K4.tape, K4.output, K4.size, fun k hk hh => K4.block k hk (by have : k ≠ w.heap.size := fun e => hh (by rw [e]); omega)⟩ (.inr (fun e => hne _ e rfl)), h3.bl.trans (K4.below HG.out.sz h3.sz), Nat.le_trans h3.sz K4.size⟩, R4.congr (fun t ht => ?_), hne⟩
    unfold bufF
    split <;> rfl
  have KF := Hid.mk' (fmtF_any w0 w4 v w.heap.size (dpQ q) (nQ q) _ neg HF.out (Nat.le_trans (stripN_le _ _ _) a5) a4 a6)
  have E7 : Hid (fmtL neg (dpQ q) (nQ q) (fun t => if t < ndQ q then dAt (dQ q) (ndQ q) t else 0) = L) := Hid.mk' (by
    rw [hL.out, fmtL_congr neg (dpQ q) (nQ q) _ (dAt (dQ q) (ndQ q)) (fun t ht => if_pos (Nat.lt_of_lt_of_le ht (stripN_le _ _ _))), ← A7.out]
    cases neg
    · rfl
    · rw [fmtL_neg]; rfl)
  have hd0 : (dpQ q : Int) ≤ 30 := by omega
  have hd1 : (nQ q : Int) ≤ 30 := by have := stripN_le (dQ q) (ndQ q) (ndQ q); unfold nQ; omega
  clear HF KN KD R3 R4 K4 A7 a3 a4 a5 a6 HG3
  generalize dpQ q = dp at *
  generalize nQ q = nd at *
  go_wp2_with fail
  refine KF.out.mono ?_
  rintro e w5 ⟨v', rfl, h5⟩
  rw [E7.out] at h5
  have H5 := Hid.mk' h5.gr
  clear h5
  go_wp2_with fail
  go_ret
  exact ⟨_, rfl, H5.out⟩

end Go.Proofs.YthhdfbgjdfoalaaGreatDoor
