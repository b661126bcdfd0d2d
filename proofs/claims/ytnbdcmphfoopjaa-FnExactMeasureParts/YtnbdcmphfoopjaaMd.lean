/- Walks: BitsOf, both sides, and the law. -/
import Derived.Test.YtnbdcmphfoopjaaMc
namespace Go.Proofs.Ytnbdcmphfoopjaa
open Go.RowKit
open Ieee
set_option linter.unusedVariables false

theorem below_two {B : Nat} {w w' : World} (h : Below B w w') {c o1 o2 : Nat} {v1 v2 : Value} (hc : B ≤ c) : Below B w ((w'.setCell ⟨c, o1, none⟩ v1).setCell ⟨c, o2, none⟩ v2) :=
  (h.setCell (p := ⟨c, o1, none⟩) hc _).setCell (p := ⟨c, o2, none⟩) hc _

abbrev bitsIn (x y : Int) : Prop := (0 ≤ x ∧ x ≤ 9999) ∧ 0 ≤ y ∧ y ≤ 3
def bitsC (x y : Int) : Int := if bitsIn x y then 0 else 3
def bitsV (b : Bool) (x y : Int) : Int := if bitsIn x y then signBits b (wordQ (4 * x + y).toNat) else 0

theorem in_true {v lo hi : Int} (h : lo ≤ v ∧ v ≤ hi) (w : World) : Calls Try.prog 20 #[.int .i64 v, .int .i64 lo, .int .i64 hi] w fun e w' => e = .returned (.bool true) ∧ w' = w := by
  have k := l1In_any v lo hi w
  rw [show (decide (lo ≤ v) && decide (v ≤ hi)) = true from by simp [h]] at k
  exact k
theorem in_false {v lo hi : Int} (h : ¬ (lo ≤ v ∧ v ≤ hi)) (w : World) : Calls Try.prog 20 #[.int .i64 v, .int .i64 lo, .int .i64 hi] w fun e w' => e = .returned (.bool false) ∧ w' = w := by
  have k := l1In_any v lo hi w
  rw [show (decide (lo ≤ v) && decide (v ≤ hi)) = false from by
    cases e : (decide (lo ≤ v) && decide (v ≤ hi)) with
    | false => rfl
    | true => exact absurd (by simpa using e) h] at k
  exact k

set_option maxHeartbeats 400000 in
theorem specBits_any (b : Bool) (x y : Int) (w : World) :
    Calls Try.prog 8 #[.bool b, .int .i64 x, .int .i64 y] w fun e w' => e = .returned (.agg #[.int .i64 (bitsC x y), .int .i64 (bitsV b x y)]) ∧ Below w.heap.size w w' := by
  unfold bitsC bitsV
  by_cases hx : 0 ≤ x ∧ x ≤ 9999
  · have K1 : Hid (∀ W : World, Calls Try.prog 20 #[.int .i64 x, .int .i64 0, .int .i64 9999] W fun e w' => e = .returned (.bool true) ∧ w' = W) := fun W => in_true hx W
    by_cases hy : 0 ≤ y ∧ y ≤ 3
    · have K2 : Hid (∀ W : World, Calls Try.prog 20 #[.int .i64 y, .int .i64 0, .int .i64 3] W fun e w' => e = .returned (.bool true) ∧ w' = W) := fun W => in_true hy W
      rw [if_pos ⟨hx, hy⟩, if_pos ⟨hx, hy⟩]
      obtain ⟨q, hq⟩ : ∃ q : Nat, 4 * x + y = (q : Int) := ⟨(4 * x + y).toNat, by omega⟩
      have q1 : q ≤ 39999 := by omega
      rw [hq, Int.toNat_natCast]
      have wl := wordQ_lt q q1
      have K3 : Hid (∀ W : World, Calls Try.prog 22 #[.int .i64 (q : Int)] W fun e w' => e = .returned (.int .i64 (wordQ q)) ∧ w' = W) := fun W => l3Bits_any q W q1
      have K4 : Hid (∀ W : World, Calls Try.prog 21 #[.int .i64 (wordQ q), .bool b] W fun e w' => e = .returned (.int .i64 (signBits b (wordQ q))) ∧ w' = W) := fun W => l3Sign_any b (wordQ q) W (by omega)
      generalize signBits b (wordQ q) = sb at *
      go_enter Try.func8, Try.ntmps8
      go_wp2_with fail
      refine (K1.out _).mono ?_
      rintro e w1 ⟨rfl, rfl⟩
      go_wp2_with fail
      refine (K2.out _).mono ?_
      rintro e w2 ⟨rfl, rfl⟩
      go_wp2_with fail
      refine (K3.out _).mono ?_
      rintro e w3 ⟨rfl, rfl⟩
      go_wp2_with fail
      refine (K4.out _).mono ?_
      rintro e w4 ⟨rfl, rfl⟩
      go_wp2
      exact bodyPost_ret (v := .agg #[.int .i64 0, .int .i64 sb]) (by simp [results, Try.results8, go_sem, *]) rfl ⟨rfl, (Below.refl _ _).alloc (Nat.le_refl _) _⟩
    · have K2 : Hid (∀ W : World, Calls Try.prog 20 #[.int .i64 y, .int .i64 0, .int .i64 3] W fun e w' => e = .returned (.bool false) ∧ w' = W) := fun W => in_false hy W
      rw [if_neg (fun h => hy h.2), if_neg (fun h => hy h.2)]
      go_enter Try.func8, Try.ntmps8
      go_wp2_with fail
      refine (K1.out _).mono ?_
      rintro e w1 ⟨rfl, rfl⟩
      go_wp2_with fail
      refine (K2.out _).mono ?_
      rintro e w2 ⟨rfl, rfl⟩
      go_wp2
      exact bodyPost_ret (v := .agg #[.int .i64 3, .int .i64 0]) (by simp [results, Try.results8, go_sem, *]) rfl ⟨rfl, (Below.refl _ _).alloc (Nat.le_refl _) _⟩
  · have K1 : Hid (∀ W : World, Calls Try.prog 20 #[.int .i64 x, .int .i64 0, .int .i64 9999] W fun e w' => e = .returned (.bool false) ∧ w' = W) := fun W => in_false hx W
    rw [if_neg (fun h => hx h.1), if_neg (fun h => hx h.1)]
    go_enter Try.func8, Try.ntmps8
    go_wp2_with fail
    refine (K1.out _).mono ?_
    rintro e w1 ⟨rfl, rfl⟩
    go_wp2
    exact bodyPost_ret (v := .agg #[.int .i64 3, .int .i64 0]) (by simp [results, Try.results8, go_sem, *]) rfl ⟨rfl, (Below.refl _ _).alloc (Nat.le_refl _) _⟩

set_option maxHeartbeats 400000 in
theorem implBits_any (b : Bool) (x y : Int) (w : World) :
    Calls Try.prog 9 #[.bool b, .int .i64 x, .int .i64 y] w fun e w' => e = .returned (.agg #[.int .i64 (bitsC x y), .int .i64 (bitsV b x y)]) ∧ Below w.heap.size w w' := by
  unfold bitsC bitsV
  by_cases h : bitsIn x y
  · rw [if_pos h, if_pos h]
    obtain ⟨⟨x1, x2⟩, y1, y2⟩ := h
    obtain ⟨n, rfl⟩ : ∃ n : Nat, x = (n : Int) := ⟨x.toNat, by omega⟩
    obtain ⟨j, rfl⟩ : ∃ j : Nat, y = (j : Int) := ⟨y.toNat, by omega⟩
    rw [show ((4 : Int) * (n : Int) + (j : Int)).toNat = 4 * n + j from by omega]
    have q1 : 4 * n + j ≤ 39999 := by omega
    have wl := wordQ_lt (4 * n + j) q1
    have A : ∀ W : World, (binOp .add 33 (.float .f64 (floatOfInt .f64 (n : Int))) (.float .f64 (wj j))).run Try.prog W = .ok (.float .f64 (wordQ (4 * n + j))) W := fun W => run_float_arith W _ _ _ _ _ _ (by rw [float_nat]; exact add_word n j (by omega) (by omega))
    have D : ∀ W : World, (binOp .quo 33 (.float .f64 (floatOfInt .f64 (j : Int))) (.float .f64 4616189618054758400)).run Try.prog W = .ok (.float .f64 (wj j)) W := fun W => run_float_arith W _ _ _ _ _ _ (by rw [float_nat]; exact (wj_word j (by omega)).2.2)
    have K : Hid (∀ W : World, Calls Try.prog 24 #[.bool b, .float .f64 (wordQ (4 * n + j))] W fun e w' => e = .returned (.float .f64 (if b then wordQ (4 * n + j) + 9223372036854775808 else wordQ (4 * n + j))) ∧ w' = W) := fun W => signed_any b _ W (by omega)
    have fin : IntKind.i64.wrap (((if b then wordQ (4 * n + j) + 9223372036854775808 else wordQ (4 * n + j)) : Nat) : Int) = signBits b (wordQ (4 * n + j)) := by
      rw [IntKind.wrap_i64]
      unfold signBits
      cases b <;> simp <;> omega
    have g1 : ¬ (n : Int) < 0 := by omega
    have g2 : ¬ (9999 : Int) < (n : Int) := by omega
    have g3 : ¬ (j : Int) < 0 := by omega
    have g4 : ¬ (4 : Int) ≤ (j : Int) := by omega
    generalize wordQ (4 * n + j) = wd at *
    generalize (if b then wd + 9223372036854775808 else wd) = sg at *
    generalize signBits b wd = sb at *
    clear q1 wl x1 x2 y1 y2
    go_enter Try.func9, Try.ntmps9
    go_wp2_with fail
    refine (K.out _).mono ?_
    rintro e w1 ⟨rfl, rfl⟩
    go_wp2
    exact bodyPost_ret (v := .agg #[.int .i64 0, .int .i64 sb]) (by simp [results, Try.results9, go_sem, *]) rfl ⟨rfl, (Below.refl _ _).alloc (Nat.le_refl _) _⟩
  · rw [if_neg h, if_neg h]
    unfold bitsIn at h
    by_cases h1 : x < 0
    · clear h
      go_enter Try.func9, Try.ntmps9
      go_wp2_with go_big_skip
      exact bodyPost_ret (v := .agg #[.int .i64 3, .int .i64 0]) (by simp [results, Try.results9, go_sem, *]) rfl ⟨rfl, (Below.refl _ _).alloc (Nat.le_refl _) _⟩
    by_cases h2 : 9999 < x
    · clear h
      go_enter Try.func9, Try.ntmps9
      go_wp2_with go_big_skip
      exact bodyPost_ret (v := .agg #[.int .i64 3, .int .i64 0]) (by simp [results, Try.results9, go_sem, *]) rfl ⟨rfl, (Below.refl _ _).alloc (Nat.le_refl _) _⟩
    by_cases h3 : y < 0
    · clear h
      go_enter Try.func9, Try.ntmps9
      go_wp2_with go_big_skip
      exact bodyPost_ret (v := .agg #[.int .i64 3, .int .i64 0]) (by simp [results, Try.results9, go_sem, *]) rfl ⟨rfl, (Below.refl _ _).alloc (Nat.le_refl _) _⟩
    have h4 : 4 ≤ y := by omega
    clear h
    go_enter Try.func9, Try.ntmps9
    go_wp2_with go_big_skip
    exact bodyPost_ret (v := .agg #[.int .i64 3, .int .i64 0]) (by simp [results, Try.results9, go_sem, *]) rfl ⟨rfl, (Below.refl _ _).alloc (Nat.le_refl _) _⟩

theorem eqIntResult_any (x y : Int) (w : World) :
    Calls Try.prog 10 #[.agg #[.int .i64 x, .int .i64 y], .agg #[.int .i64 x, .int .i64 y]] w fun e w' => e = .returned (.bool true) ∧ Below w.heap.size w w' := by
  go_enter Try.func10, Try.ntmps10
  go_wp2
  go_ret
  exact ⟨rfl, ((Below.refl _ _).alloc (Nat.le_refl _) _).alloc (by simp) _⟩

theorem bcell {W w1 : World} (hb : Below W.heap.size W w1) : (∀ b o, b < W.heap.size → w1.cell? ⟨b, o, none⟩ = W.cell? ⟨b, o, none⟩) ∧ (∀ b o, b < W.heap.size → w1.frozen? ⟨b, o, none⟩ = W.frozen? ⟨b, o, none⟩) :=
  ⟨fun b o h => hb.cell (p := ⟨b, o, none⟩) h, fun b o h => hb.frozen (p := ⟨b, o, none⟩) h⟩

theorem lawBitsOf_any (b : Bool) (x y : Int) (w : World) (b1 : -9223372036854775808 ≤ x) (b2 : x ≤ 9223372036854775807) (b3 : -9223372036854775808 ≤ y) (b4 : y ≤ 9223372036854775807) :
    Calls Try.prog 4 #[.bool b, .int .i64 x, .int .i64 y] w fun e w' => e = .returned (.bool true) ∧ Below w.heap.size w w' := by
  have K1 := Hid.mk' (specBits_any b x y w)
  have K2 : Hid (∀ W : World, Calls Try.prog 9 #[.bool b, .int .i64 x, .int .i64 y] W fun e w' => e = .returned (.agg #[.int .i64 (bitsC x y), .int .i64 (bitsV b x y)]) ∧ Below W.heap.size W w') := fun W => implBits_any b x y W
  generalize bitsC x y = c at *
  generalize bitsV b x y = v at *
  go_enter Try.func4, Try.ntmps4
  go_wp2_with fail
  refine K1.out.mono ?_
  rintro e w1 ⟨rfl, hb1⟩
  have B1 := Hid.mk' (hb1.alloc hb1.size (.cells #[.int .i64 c, .int .i64 v] 28))
  have y1 := hb1.size
  clear K1 hb1
  go_wp2_with fail
  refine (K2.out _).mono ?_
  rintro e w2 ⟨rfl, hb2⟩
  have B2 := Hid.mk' (B1.out.trans (hb2.mono (by simp; omega)))
  obtain ⟨hc2, hf2⟩ := bcell hb2
  simp at hc2 hf2
  have y2 := hb2.size
  simp at y2
  have B3 := Hid.mk' (B2.out.alloc (by omega) (.cells #[.int .i64 c, .int .i64 v] 28))
  have j1 : w1.heap.size < w2.heap.size := by omega
  have j2 : ¬ w1.heap.size = w2.heap.size := by omega
  clear K2 hb2 B1 B2
  go_wp2_with fail
  refine (eqIntResult_any c v _).mono ?_
  rintro e w3 ⟨rfl, hb3⟩
  have B4 := Hid.mk' (B3.out.trans (hb3.mono (by simp; omega)))
  clear hb3 B3
  go_wp2
  go_ret
  exact ⟨rfl, B4.out⟩

end Go.Proofs.Ytnbdcmphfoopjaa
