/- Walks: BitsOf, both sides, and the law. -/
import Derived.Test.YteakocifjmkmjaaGreatDoorMc
import Derived.Test.YteakocifjmkmjaaGreatDoorWb
namespace Go.Proofs.YteakocifjmkmjaaGreatDoor
open Go.RowKit
open Ieee
set_option linter.unusedVariables false

theorem below_two {B : Nat} {w w' : World} (h : Below B w w') {c o1 o2 : Nat} {v1 v2 : Value} (hc : B ≤ c) : Below B w ((w'.setCell ⟨c, o1, none⟩ v1).setCell ⟨c, o2, none⟩ v2) :=
  (h.setCell (p := ⟨c, o1, none⟩) hc _).setCell (p := ⟨c, o2, none⟩) hc _

abbrev bitsIn (x y : Int) : Prop := (0 ≤ x ∧ x ≤ 9999) ∧ 0 ≤ y ∧ y ≤ 3
def bitsC (x y : Int) : Int := if bitsIn x y then 0 else 3
def bitsV (b : Bool) (x y : Int) : Int := if bitsIn x y then signBits b (wordQ (4 * x + y).toNat) else 0

theorem in_true {v lo hi : Int} (h : lo ≤ v ∧ v ≤ hi) (w : World) : Calls Tryz.prog 38 #[.int .i64 v, .int .i64 lo, .int .i64 hi] w fun e w' => e = .returned (.bool true) ∧ w' = w := by
  have k := l1In_any v lo hi w
  rw [show (decide (lo ≤ v) && decide (v ≤ hi)) = true from by simp [h]] at k
  exact k
theorem in_false {v lo hi : Int} (h : ¬ (lo ≤ v ∧ v ≤ hi)) (w : World) : Calls Tryz.prog 38 #[.int .i64 v, .int .i64 lo, .int .i64 hi] w fun e w' => e = .returned (.bool false) ∧ w' = w := by
  have k := l1In_any v lo hi w
  rw [show (decide (lo ≤ v) && decide (v ≤ hi)) = false from by
    cases e : (decide (lo ≤ v) && decide (v ≤ hi)) with
    | false => rfl
    | true => exact absurd (by simpa using e) h] at k
  exact k

set_option maxHeartbeats 400000 in
theorem specBits_any (b : Bool) (x y : Int) (w : World) :
    Calls Tryz.prog 12 #[.bool b, .int .i64 x, .int .i64 y] w fun e w' => e = .returned (.agg #[.int .i64 (bitsC x y), .int .i64 (bitsV b x y)]) ∧ Below w.heap.size w w' := by
  unfold bitsC bitsV
  by_cases hx : 0 ≤ x ∧ x ≤ 9999
  · have K1 : Hid (∀ W : World, Calls Tryz.prog 38 #[.int .i64 x, .int .i64 0, .int .i64 9999] W fun e w' => e = .returned (.bool true) ∧ w' = W) := fun W => in_true hx W
    by_cases hy : 0 ≤ y ∧ y ≤ 3
    · have K2 : Hid (∀ W : World, Calls Tryz.prog 38 #[.int .i64 y, .int .i64 0, .int .i64 3] W fun e w' => e = .returned (.bool true) ∧ w' = W) := fun W => in_true hy W
      rw [if_pos ⟨hx, hy⟩, if_pos ⟨hx, hy⟩]
      obtain ⟨q, hq⟩ : ∃ q : Nat, 4 * x + y = (q : Int) := ⟨(4 * x + y).toNat, by omega⟩
      have q1 : q ≤ 39999 := by omega
      rw [hq, Int.toNat_natCast]
      have wl := wordQ_lt q q1
      have K3 : Hid (∀ W : World, Calls Tryz.prog 40 #[.int .i64 (q : Int)] W fun e w' => e = .returned (.int .i64 (wordQ q)) ∧ w' = W) := fun W => l3Bits_any q W q1
      have K4 : Hid (∀ W : World, Calls Tryz.prog 39 #[.int .i64 (wordQ q), .bool b] W fun e w' => e = .returned (.int .i64 (signBits b (wordQ q))) ∧ w' = W) := fun W => l3Sign_any b (wordQ q) W (by omega)
      generalize signBits b (wordQ q) = sb at *
      go_enter Tryz.func12, Tryz.ntmps12
      go_wp2_with fail
      refine (K1.out _).mono ?_
      rintro e w1 ⟨rfl, rfl⟩
      go_wp2_with fail
      refine (K2.out _).mono ?_
      rintro e w2 ⟨rfl, rfl⟩
      go_wp2_with fail
      refine (K3.out _).mono ?_
      rintro e w3 ⟨rfl, rfl⟩
      go_wp2_with fail
      refine (K4.out _).mono ?_
      rintro e w4 ⟨rfl, rfl⟩
      go_wp2
      exact bodyPost_ret (v := .agg #[.int .i64 0, .int .i64 sb]) (by simp [results, Tryz.results12, go_sem, *]) rfl ⟨rfl, (Below.refl _ _).alloc (Nat.le_refl _) _⟩
    · have K2 : Hid (∀ W : World, Calls Tryz.prog 38 #[.int .i64 y, .int .i64 0, .int .i64 3] W fun e w' => e = .returned (.bool false) ∧ w' = W) := fun W => in_false hy W
      rw [if_neg (fun h => hy h.2), if_neg (fun h => hy h.2)]
      go_enter Tryz.func12, Tryz.ntmps12
      go_wp2_with fail
      refine (K1.out _).mono ?_
      rintro e w1 ⟨rfl, rfl⟩
      go_wp2_with fail
      refine (K2.out _).mono ?_
      rintro e w2 ⟨rfl, rfl⟩
      go_wp2
      exact bodyPost_ret (v := .agg #[.int .i64 3, .int .i64 0]) (by simp [results, Tryz.results12, go_sem, *]) rfl ⟨rfl, (Below.refl _ _).alloc (Nat.le_refl _) _⟩
  · have K1 : Hid (∀ W : World, Calls Tryz.prog 38 #[.int .i64 x, .int .i64 0, .int .i64 9999] W fun e w' => e = .returned (.bool false) ∧ w' = W) := fun W => in_false hx W
    rw [if_neg (fun h => hx h.1), if_neg (fun h => hx h.1)]
    go_enter Tryz.func12, Tryz.ntmps12
    go_wp2_with fail
    refine (K1.out _).mono ?_
    rintro e w1 ⟨rfl, rfl⟩
    go_wp2
    exact bodyPost_ret (v := .agg #[.int .i64 3, .int .i64 0]) (by simp [results, Tryz.results12, go_sem, *]) rfl ⟨rfl, (Below.refl _ _).alloc (Nat.le_refl _) _⟩

set_option maxHeartbeats 400000 in
theorem implBits_any (b : Bool) (x y : Int) (w : World) :
    Calls Tryz.prog 11 #[.bool b, .int .i64 x, .int .i64 y] w fun e w' => e = .returned (.agg #[.int .i64 (bitsC x y), .int .i64 (bitsV b x y)]) ∧ Below w.heap.size w w' := by
  unfold bitsC bitsV
  by_cases h : bitsIn x y
  · rw [if_pos h, if_pos h]
    obtain ⟨⟨x1, x2⟩, y1, y2⟩ := h
    obtain ⟨n, rfl⟩ : ∃ n : Nat, x = (n : Int) := ⟨x.toNat, by omega⟩
    obtain ⟨j, rfl⟩ : ∃ j : Nat, y = (j : Int) := ⟨y.toNat, by omega⟩
    rw [show ((4 : Int) * (n : Int) + (j : Int)).toNat = 4 * n + j from by omega]
    have q1 : 4 * n + j ≤ 39999 := by omega
    have wl := wordQ_lt (4 * n + j) q1
    have A : ∀ W : World, (binOp .add 43 (.float .f64 (floatOfInt .f64 (n : Int))) (.float .f64 (wj j))).run Tryz.prog W = .ok (.float .f64 (wordQ (4 * n + j))) W := fun W => run_float_arith W _ _ _ _ _ _ (by rw [float_nat]; exact add_word n j (by omega) (by omega))
    have D : ∀ W : World, (binOp .quo 43 (.float .f64 (floatOfInt .f64 (j : Int))) (.float .f64 4616189618054758400)).run Tryz.prog W = .ok (.float .f64 (wj j)) W := fun W => run_float_arith W _ _ _ _ _ _ (by rw [float_nat]; exact (wj_word j (by omega)).2.2)
    have K : Hid (∀ W : World, Calls Tryz.prog 37 #[.bool b, .float .f64 (wordQ (4 * n + j))] W fun e w' => e = .returned (.float .f64 (if b then wordQ (4 * n + j) + 9223372036854775808 else wordQ (4 * n + j))) ∧ w' = W) := fun W => signed_any b _ W (by omega)
    have fin : IntKind.i64.wrap (((if b then wordQ (4 * n + j) + 9223372036854775808 else wordQ (4 * n + j)) : Nat) : Int) = signBits b (wordQ (4 * n + j)) := by
      rw [IntKind.wrap_i64]
      unfold signBits
      cases b <;> simp <;> omega
    have g1 : ¬ (n : Int) < 0 := by omega
    have g2 : ¬ (9999 : Int) < (n : Int) := by omega
    have g3 : ¬ (j : Int) < 0 := by omega
    have g4 : ¬ (4 : Int) ≤ (j : Int) := by omega
    generalize wordQ (4 * n + j) = wd at *
    generalize (if b then wd + 9223372036854775808 else wd) = sg at *
    generalize signBits b wd = sb at *
    clear q1 wl x1 x2 y1 y2
    go_enter Tryz.func11, Tryz.ntmps11
    go_wp2_with fail
    refine (K.out _).mono ?_
    rintro e w1 ⟨rfl, rfl⟩
    go_wp2
    exact bodyPost_ret (v := .agg #[.int .i64 0, .int .i64 sb]) (by simp [results, Tryz.results11, go_sem, *]) rfl ⟨rfl, (Below.refl _ _).alloc (Nat.le_refl _) _⟩
  · rw [if_neg h, if_neg h]
    unfold bitsIn at h
    by_cases h1 : x < 0
    · clear h
      go_enter Tryz.func11, Tryz.ntmps11
      go_wp2_with go_big_skip
      exact bodyPost_ret (v := .agg #[.int .i64 3, .int .i64 0]) (by simp [results, Tryz.results11, go_sem, *]) rfl ⟨rfl, (Below.refl _ _).alloc (Nat.le_refl _) _⟩
    by_cases h2 : 9999 < x
    · clear h
      go_enter Tryz.func11, Tryz.ntmps11
      go_wp2_with go_big_skip
      exact bodyPost_ret (v := .agg #[.int .i64 3, .int .i64 0]) (by simp [results, Tryz.results11, go_sem, *]) rfl ⟨rfl, (Below.refl _ _).alloc (Nat.le_refl _) _⟩
    by_cases h3 : y < 0
    · clear h
      go_enter Tryz.func11, Tryz.ntmps11
      go_wp2_with go_big_skip
      exact bodyPost_ret (v := .agg #[.int .i64 3, .int .i64 0]) (by simp [results, Tryz.results11, go_sem, *]) rfl ⟨rfl, (Below.refl _ _).alloc (Nat.le_refl _) _⟩
    have h4 : 4 ≤ y := by omega
    clear h
    go_enter Tryz.func11, Tryz.ntmps11
    go_wp2_with go_big_skip
    exact bodyPost_ret (v := .agg #[.int .i64 3, .int .i64 0]) (by simp [results, Tryz.results11, go_sem, *]) rfl ⟨rfl, (Below.refl _ _).alloc (Nat.le_refl _) _⟩

end Go.Proofs.YteakocifjmkmjaaGreatDoor
