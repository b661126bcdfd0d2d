/- The difference of two texts: what both have at their beginnings and ends. -/
import Derived.Test.YtmabfeckmklenaaXpg
import Derived.Test.YtmabfeckmklenaaSpa
namespace Go.Proofs.Ytmabfeckmklenaa
open Go.RowKit
set_option linter.unusedVariables false
set_option linter.unusedSimpArgs false

/-- How many bytes two lists begin alike with. -/
def cpl : List Int → List Int → Nat
  | x :: r, y :: s => if x = y then cpl r s + 1 else 0
  | _, _ => 0

theorem cpl_le : ∀ (a b : List Int), cpl a b ≤ a.length ∧ cpl a b ≤ b.length
  | [], _ => by simp [cpl]
  | x :: r, [] => by simp [cpl]
  | x :: r, y :: s => by
    have := cpl_le r s
    unfold cpl
    split
    · simp only [List.length_cons]; omega
    · simp

theorem cpl_nil (a : List Int) : cpl a [] = 0 := by cases a <;> rfl

theorem drop_i {l : List Int} {k : Nat} (hk : k < l.length) : l.drop k = l.getD k 0 :: l.drop (k + 1) := by
  rw [List.drop_eq_getElem_cons hk]
  simp [hk]

theorem cpl_same {a b : List Int} {k A : Nat} (h : k + cpl (a.drop k) (b.drop k) = A) (ha : k < a.length) (hb : k < b.length) (e : a.getD k 0 = b.getD k 0) : k + 1 + cpl (a.drop (k + 1)) (b.drop (k + 1)) = A := by
  rw [drop_i ha, drop_i hb] at h
  unfold cpl at h
  rw [if_pos e] at h
  omega

theorem cpl_other {a b : List Int} {k A : Nat} (h : k + cpl (a.drop k) (b.drop k) = A) (ha : k < a.length) (hb : k < b.length) (e : a.getD k 0 ≠ b.getD k 0) : k = A := by
  rw [drop_i ha, drop_i hb] at h
  unfold cpl at h
  rw [if_neg e] at h
  omega

theorem cpl_out {a b : List Int} {k A : Nat} (h : k + cpl (a.drop k) (b.drop k) = A) (ho : ¬ k < a.length ∨ ¬ k < b.length) : k = A := by
  rcases ho with ho | ho
  · rw [List.drop_eq_nil_of_le (by omega)] at h
    simpa [cpl] using h
  · rw [show b.drop k = [] from List.drop_eq_nil_of_le (by omega), cpl_nil] at h
    simpa using h

theorem rev_at {l : List Int} {k : Nat} (hk : k < l.length) : l.reverse.getD k 0 = l.getD (l.length - 1 - k) 0 := by
  have h2 : l.length - 1 - k < l.length := by omega
  simp [hk, h2]

/-- What stands at a place of bytes, and whether anything does. -/
def tipV (l : List Int) (i : Int) : Value := if 0 ≤ i ∧ i < l.length then .agg #[.bool true, .int .u8 (l.getD i.toNat 0)] else .agg #[.bool false, .int .u8 0]

theorem tipAt_any (a : Option Addr) (c : Nat) (l : List Int) (i : Int) (w : World) (ha : BAt w a l) :
    Calls Try.prog 42 #[.slice a l.length c, .int .i64 i] w fun e w' => e = .returned (tipV l i) ∧ Below w.heap.size w w' := by
  have N0 := below_new w (.cells #[.bool false, .int .u8 0] 71)
  have RB := Hid.mk' (rowp2 w 71 (.bool false) (.int .u8 0))
  have HN := Hid.mk' N0
  have HA := Hid.mk' (ha.below N0)
  clear ha N0
  generalize hW : w.alloc (.cells #[.bool false, .int .u8 0] 71) = W at *
  obtain ⟨b0, b1, b2⟩ := cells2 RB.out
  have f0 := RB.out.frozen 0
  have f1 := RB.out.frozen 1
  by_cases h1 : i < 0
  · have E : Hid (tipV l i = .agg #[.bool false, .int .u8 0]) := Hid.mk' (by unfold tipV; rw [if_neg (by omega)])
    go_enter Try.func42, Try.ntmps42
    go_wp2_with fail
    clear hW
    go_wp2
    refine bodyPost_ret (v := .agg #[.bool false, .int .u8 0]) (by simp [results, Try.results42, go_sem, *]) rfl ?_
    exact ⟨by rw [E.out], (HN.out.setCell (p := ⟨w.heap.size, 0, none⟩) (Nat.le_refl _) _).setCell (p := ⟨w.heap.size, 1, none⟩) (Nat.le_refl _) _⟩
  by_cases h2 : (l.length : Int) ≤ i
  · have E : Hid (tipV l i = .agg #[.bool false, .int .u8 0]) := Hid.mk' (by unfold tipV; rw [if_neg (by omega)])
    go_enter Try.func42, Try.ntmps42
    go_wp2_with fail
    clear hW
    go_wp2
    refine bodyPost_ret (v := .agg #[.bool false, .int .u8 0]) (by simp [results, Try.results42, go_sem, *]) rfl ?_
    exact ⟨by rw [E.out], (HN.out.setCell (p := ⟨w.heap.size, 0, none⟩) (Nat.le_refl _) _).setCell (p := ⟨w.heap.size, 1, none⟩) (Nat.le_refl _) _⟩
  obtain ⟨k, rfl⟩ := Int.eq_ofNat_of_zero_le (show 0 ≤ i by omega)
  have hk : k < l.length := by omega
  have E : Hid (tipV l k = .agg #[.bool true, .int .u8 (l.getD k 0)]) := Hid.mk' (by unfold tipV; rw [if_pos (by omega), Int.toNat_natCast])
  rcases HA.out with h0 | ⟨b, o, rfl, hbs, hc⟩
  · rw [h0] at hk; exact absurd hk (Nat.not_lt_zero _)
  have hq := hc k hk
  unfold bv at hq
  clear hc
  generalize hx : l.getD k 0 = x at *
  go_enter Try.func42, Try.ntmps42
  go_wp2_with fail
  clear hW
  go_wp2
  refine bodyPost_ret (v := .agg #[.bool true, .int .u8 x]) (by simp [results, Try.results42, go_sem, *]) rfl ?_
  exact ⟨by rw [E.out], (HN.out.setCell (p := ⟨w.heap.size, 0, none⟩) (Nat.le_refl _) _).setCell (p := ⟨w.heap.size, 1, none⟩) (Nat.le_refl _) _⟩

end Go.Proofs.Ytmabfeckmklenaa
