/- Schemes: the mathematics, and the small walks of both sides. -/
import Derived.Test.YtlhjkjhppjogbaaDoorSpl
import Derived.Test.YtlhjkjhppjogbaaDoorNa
import Derived.Test.YtlhjkjhppjogbaaDoorWb
import Derived.Test.YtlhjkjhppjogbaaDoorCq
import Derived.Test.YtlhjkjhppjogbaaDoorShp
import Derived.Laws.BytesString
import Derived.Laws.IdiomStrings
import Derived.BigGuard
namespace Go.Proofs.YtlhjkjhppjogbaaDoor
open Go.RowKit
set_option linter.unusedVariables false
set_option linter.unusedSimpArgs false

/-- Where the first colon stands (behind all, if there is none). -/
def colN : List Int → Nat
  | [] => 0
  | x :: r => if x = 58 then 0 else colN r + 1

def colI (l : List Int) : Int := if colN l < l.length then (colN l : Int) else -1

theorem colN_le : ∀ l : List Int, colN l ≤ l.length
  | [] => Nat.le_refl _
  | x :: r => by
    unfold colN
    split
    · omega
    · have := colN_le r; simp only [List.length_cons]; omega

theorem colN_eq : ∀ (l : List Int) (k : Nat), k < l.length → l.getD k 0 = 58 → (∀ j, j < k → ¬ l.getD j 0 = 58) → colN l = k
  | [], k, h, _, _ => absurd h (Nat.not_lt_zero _)
  | x :: r, 0, _, h, _ => by
    unfold colN
    rw [if_pos (by simpa using h)]
  | x :: r, k + 1, h, h1, h2 => by
    unfold colN
    rw [if_neg (by simpa using h2 0 (by omega)), colN_eq r k (by simpa using h) (by simpa using h1) (fun j hj => by simpa using h2 (j + 1) (by omega))]

theorem colN_none : ∀ (l : List Int), (∀ j, j < l.length → ¬ l.getD j 0 = 58) → colN l = l.length
  | [], _ => rfl
  | x :: r, h => by
    unfold colN
    rw [if_neg (by simpa using h 0 (by simp)), colN_none r (fun j hj => by simpa using h (j + 1) (by simpa using hj))]
    rfl

theorem byte58 {x : Int} (h0 : 0 ≤ x) (h1 : x ≤ 255) : (UInt8.ofNat x.toNat == 58) = decide (x = 58) := by
  obtain ⟨n, rfl⟩ : ∃ n : Nat, x = n := ⟨x.toNat, by omega⟩
  rw [Bool.eq_iff_iff, beq_iff_eq, decide_eq_true_eq]
  constructor
  · intro h
    have := congrArg UInt8.toNat h
    simp at this
    omega
  · intro h
    have : n = 58 := by omega
    subst this
    rfl

theorem indexByte_is : ∀ (l : List Int), (∀ x ∈ l, 0 ≤ x ∧ x ≤ 255) → Lib.indexByte (Lib.bytesOf l) 58 = colI l
  | [], _ => rfl
  | x :: r, h => by
    have hx := h x (by simp)
    have ih := indexByte_is r (fun y hy => h y (by simp [hy]))
    have e : Lib.bytesOf (x :: r) = UInt8.ofNat x.toNat :: Lib.bytesOf r := rfl
    rw [e]
    unfold Lib.indexByte
    rw [byte58 hx.1 hx.2]
    by_cases h58 : x = 58
    · simp [h58, colI, colN]
    · have c : colN (x :: r) = colN r + 1 := by rw [colN, if_neg h58]
      rw [decide_eq_false h58, ih]
      by_cases hl : colN r < r.length
      · have e1 : colI r = (colN r : Int) := by unfold colI; rw [if_pos hl]
        have e2 : colI (x :: r) = (colN r : Int) + 1 := by
          unfold colI
          rw [c, if_pos (by simp only [List.length_cons]; omega)]
          omega
        have e3 : ((colN r : Int) == -1) = false := by rw [beq_eq_false_iff_ne]; omega
        rw [e1, e2, e3]
        rfl
      · have e1 : colI r = -1 := by unfold colI; rw [if_neg hl]
        have e2 : colI (x :: r) = -1 := by
          unfold colI
          rw [c, if_neg (by simp only [List.length_cons]; omega)]
        rw [e1, e2]
        rfl

/-- No letter. -/
def noLet (x : Int) : Bool := !(decide (97 ≤ x ∧ x ≤ 122) || decide (65 ≤ x ∧ x ≤ 90))
/-- A to Z as a to z. -/
def lowI (x : Int) : Int := if 65 ≤ x ∧ x ≤ 90 then x + 32 else x

/-- The scheme of bytes (none: there is none). -/
def schS (l : List Int) : List Int := if colN l < l.length ∧ (l.take (colN l)).any noLet = false then (l.take (colN l)).map lowI else []

theorem Tryd.info5' : (Tryd.prog.info? 5).map (fun i => (i.zero, i.size, i.bytes)) = some (some (.int .u8 0), 1, 1) := by kernel_rfl

theorem bget {w : World} {a : Option Addr} {l : List Int} (h : BAt w a l) {k : Nat} (hk : k < l.length) : ∃ b o, a = some ⟨b, o, none⟩ ∧ b < w.heap.size ∧ w.cell? ⟨b, o + k, none⟩ = some (.int .u8 (l.getD k 0)) := by
  rcases h with h | ⟨b, o, e, hs, hc⟩
  · rw [h] at hk; exact absurd hk (Nat.not_lt_zero _)
  · exact ⟨b, o, e, hs, hc k hk⟩

set_option maxHeartbeats 800000 in
theorem l8Colon_any (a : Option Addr) (c : Nat) (l : List Int) (w : World) (ha : BAt w a l) (hl : (l.length : Int) ≤ 1048576) :
    Calls Tryd.prog 14 #[.slice a l.length c] w fun e w' => e = .returned (.int .i64 (colI l)) ∧ w' = w := by
  have HA := Hid.mk' ha
  clear ha
  go_enter Tryd.func14, Tryd.ntmps14
  go_wp2
  go_loop [3] (fun i => ∃ k : Nat, k ≤ l.length ∧ i = .int .i64 k ∧ ∀ j, j < k → ¬ l.getD j 0 = 58) (fun i => l.length - (intOf i).toNat)
  case atStart => exact ⟨0, Nat.zero_le _, rfl, fun j hj => absurd hj (Nat.not_lt_zero _)⟩
  case round =>
    obtain ⟨k, hk, rfl, hf⟩ := hrel
    have HF := Hid.mk' hf
    clear hf
    by_cases hlt : k < l.length
    · have ci : (k : Int) < (l.length : Int) := by omega
      obtain ⟨b, o, rfl, hbs, h1⟩ := bget HA.out hlt
      have HE := Hid.mk' (fun h58 => colN_eq l k hlt h58 HF.out)
      have HS : Hid (¬ l.getD k 0 = 58 → ∀ j, j < k + 1 → ¬ l.getD j 0 = 58) := Hid.mk' fun h j hj => by
        by_cases e : j = k
        · subst e; exact h
        · exact HF.out j (by omega)
      generalize l.getD k 0 = x at *
      by_cases h58 : x = 58
      · have E : Hid (colI l = (k : Int)) := Hid.mk' (by unfold colI; rw [HE.out h58, if_pos hlt])
        have hb : (x == 58) = true := by rw [beq_iff_eq]; exact h58
        clear h58
        go_wp2
        go_ret
        exact ⟨by rw [E.out]; rfl, rfl⟩
      · have HS := Hid.mk' (HS.out h58)
        have hb : (x == 58) = false := by rw [beq_eq_false_iff_ne]; exact h58
        clear h58
        go_wp2
        go_round
        case rel => exact ⟨k + 1, by omega, by go_num, HS.out⟩
        case measure => simp [intOf]; omega
    · have ci : ¬ (k : Int) < (l.length : Int) := by omega
      have e : k = l.length := by omega
      subst e
      have E : Hid (colI l = -1) := Hid.mk' (by unfold colI; rw [colN_none l HF.out, if_neg (by omega)])
      go_wp2
      go_ret
      exact ⟨by rw [E.out]; rfl, rfl⟩

theorem noLet_of {x : Int} (b1 : x < 97 ∨ x > 122) (b2 : x < 65 ∨ x > 90) : noLet x = true := by
  unfold noLet
  rw [decide_eq_false (by omega), decide_eq_false (by omega)]; rfl
theorem noLet_low {x : Int} (h : 97 ≤ x ∧ x ≤ 122) : noLet x = false := by unfold noLet; rw [decide_eq_true h]; rfl
theorem noLet_up {x : Int} (h : 65 ≤ x ∧ x ≤ 90) : noLet x = false := by unfold noLet; rw [decide_eq_true h]; simp

theorem isNoLetter_any (x : Int) (w : World) :
    Calls Tryd.prog 12 #[.int .u8 x] w fun e w' => e = .returned (.bool (noLet x)) ∧ w' = w := by
  by_cases b1 : x < 97
  · by_cases b3 : x < 65
    · have E := Hid.mk' (noLet_of (.inl b1) (.inl b3))
      go_enter Tryd.func12, Tryd.ntmps12
      go_wp2_with go_big_skip
      go_ret
      exact ⟨by rw [E.out]; rfl, rfl⟩
    · by_cases b4 : x > 90
      · have E := Hid.mk' (noLet_of (.inl b1) (.inr b4))
        go_enter Tryd.func12, Tryd.ntmps12
        go_wp2_with go_big_skip
        go_ret
        exact ⟨by rw [E.out]; rfl, rfl⟩
      · have E := Hid.mk' (noLet_up (x := x) (by omega))
        go_enter Tryd.func12, Tryd.ntmps12
        go_wp2_with go_big_skip
        go_ret
        exact ⟨by rw [E.out]; rfl, rfl⟩
  · by_cases b2 : x > 122
    · have b3 : ¬ x < 65 := by omega
      have b4 : x > 90 := by omega
      have E := Hid.mk' (noLet_of (.inr b2) (.inr b4))
      go_enter Tryd.func12, Tryd.ntmps12
      go_wp2_with go_big_skip
      go_ret
      exact ⟨by rw [E.out]; rfl, rfl⟩
    · have E := Hid.mk' (noLet_low (x := x) (by omega))
      go_enter Tryd.func12, Tryd.ntmps12
      go_wp2_with go_big_skip
      go_ret
      exact ⟨by rw [E.out]; rfl, rfl⟩

theorem any_take {l : List Int} {k : Nat} {p : Int → Bool} (hk : k < l.length) : (l.take (k + 1)).any p = ((l.take k).any p || p (l.getD k 0)) := by
  have e : l.take (k + 1) = l.take k ++ [l.getD k 0] := by
    rw [List.take_succ_eq_append_getElem hk]
    simp [hk]
  rw [e, List.any_append]
  simp

theorem any_at {l : List Int} {k : Nat} {p : Int → Bool} (hk : k < l.length) (h : p (l.getD k 0) = true) : l.any p = true := by
  rw [List.any_eq_true]
  exact ⟨l[k], List.getElem_mem hk, by have e : l.getD k 0 = l[k] := by simp [hk]
                                       rw [← e]; exact h⟩

set_option maxHeartbeats 800000 in
theorem indexF_any (a : Option Addr) (c : Nat) (l : List Int) (w : World) (ha : BAt w a l) (hl : (l.length : Int) ≤ 1048576) :
    Calls Tryd.prog 17 #[.slice a l.length c, .func (.func 12) #[] #[]] w fun e w' => ∃ z : Int, e = .returned (.int .i64 z) ∧ decide (0 ≤ z) = l.any noLet ∧ w' = w := by
  have HA := Hid.mk' ha
  clear ha
  go_enter Tryd.func17, Tryd.ntmps17
  go_wp2
  go_loop [8] (fun i => ∃ k : Nat, k ≤ l.length ∧ i = .int .i64 k ∧ (l.take k).any noLet = false) (fun i => l.length - (intOf i).toNat)
  case atStart => exact ⟨0, Nat.zero_le _, rfl, rfl⟩
  case round =>
    obtain ⟨k, hk, rfl, hf⟩ := hrel
    have HF := Hid.mk' hf
    clear hf
    by_cases hlt : k < l.length
    · have ci : (k : Int) < (l.length : Int) := by omega
      obtain ⟨b, o, rfl, hbs, h1⟩ := bget HA.out hlt
      have HT := Hid.mk' (any_take (p := noLet) hlt)
      have HX := Hid.mk' (any_at (p := noLet) hlt)
      have KN := isNoLetter_any (l.getD k 0) w
      generalize l.getD k 0 = x at *
      cases he : noLet x with
      | true =>
        rw [he] at KN
        have KN := Hid.mk' KN
        have E := Hid.mk' (HX.out he)
        go_wp2_with fail
        refine KN.out.mono ?_
        rintro e w1 ⟨rfl, hw⟩
        obtain rfl := hw.symm
        go_wp2
        go_ret
        exact ⟨k, rfl, by rw [E.out]; simp, rfl⟩
      | false =>
        rw [he] at KN
        have KN := Hid.mk' KN
        have E : Hid ((l.take (k + 1)).any noLet = false) := Hid.mk' (by rw [HT.out, HF.out, he]; rfl)
        go_wp2_with fail
        refine KN.out.mono ?_
        rintro e w1 ⟨rfl, hw⟩
        obtain rfl := hw.symm
        go_wp2
        go_round
        case rel => exact ⟨k + 1, by omega, by go_num, E.out⟩
        case measure => simp [intOf]; omega
    · have ci : ¬ (k : Int) < (l.length : Int) := by omega
      have e : k = l.length := by omega
      have E : Hid (l.any noLet = false) := Hid.mk' (by have := HF.out; rw [e, List.take_length] at this; exact this)
      go_wp2
      go_ret
      exact ⟨-1, rfl, by rw [E.out]; rfl, rfl⟩

theorem containsF_any (a : Option Addr) (c : Nat) (l : List Int) (w : World) (ha : BAt w a l) (hl : (l.length : Int) ≤ 1048576) :
    Calls Tryd.prog 11 #[.slice a l.length c, .func (.func 12) #[] #[]] w fun e w' => e = .returned (.bool (l.any noLet)) ∧ w' = w := by
  have K := Hid.mk' (indexF_any a c l w ha hl)
  clear ha
  go_enter Tryd.func11, Tryd.ntmps11
  go_wp2_with fail
  refine K.out.mono ?_
  rintro e w1 ⟨z, rfl, hz, rfl⟩
  have HZ := Hid.mk' hz
  clear hz
  go_wp2
  go_ret
  exact ⟨by rw [← HZ.out]; simp, rfl⟩

end Go.Proofs.YtlhjkjhppjogbaaDoor
