/- Plain mathematics: what was escaped is read back, and has no mark in it. -/
import Derived.Test.YthckoaddajpgcaaDoorXb
import Derived.Test.YthckoaddajpgcaaDoorDc
import Derived.Test.YthckoaddajpgcaaDoorEt
namespace Go.Proofs.YthckoaddajpgcaaDoor
open Go.RowKit
set_option linter.unusedVariables false

theorem bytes_cons {x : Int} {r : List Int} (h : ∀ y ∈ x :: r, 0 ≤ y ∧ y ≤ 255) : (0 ≤ x ∧ x ≤ 255) ∧ ∀ y ∈ r, 0 ≤ y ∧ y ≤ 255 :=
  ⟨h x (by simp), fun y hy => h y (by simp [hy])⟩

theorem dec_step (f : Nat) (p R : List UInt8) (b n : Nat) (hp : p.length = n) (h : refOf (p ++ R) = (b, n)) (hn : ¬ n = 0) : dec (f + 1) (p ++ R) = (b : Int) :: dec f R := by
  cases p with
  | nil => simp at hp; omega
  | cons c q =>
    have h2 : refOf (c :: (q ++ R)) = (b, n) := h
    show dec (f + 1) (c :: (q ++ R)) = _
    rw [dec, h2, if_neg hn]
    congr 2
    show ((c :: q) ++ R).drop n = R
    rw [← hp, List.drop_left]

theorem dec_esc : ∀ (D : List Int), (∀ y ∈ D, 0 ≤ y ∧ y ≤ 255) → ∀ f, (escAll D).length ≤ f → dec f (escAll D) = D
  | [], _, f, _ => by cases f <;> rfl
  | x :: r, h, f, hf => by
    obtain ⟨hx, hr⟩ := bytes_cons h
    have e : escAll (x :: r) = (escB x).data.toList ++ escAll r := rfl
    rw [e] at hf ⊢
    rw [List.length_append] at hf
    by_cases c1 : x = 60
    · subst c1
      have e2 : (escB 60).data.toList = [38, 108, 116, 59] := rfl
      rw [e2] at hf ⊢
      obtain ⟨g, rfl⟩ : ∃ g, f = g + 1 := ⟨f - 1, by simp at hf; omega⟩
      rw [dec_step g _ _ 60 4 rfl rfl (by decide), dec_esc r hr g (by simp at hf; omega)]
      rfl
    by_cases c2 : x = 62
    · subst c2
      have e2 : (escB 62).data.toList = [38, 103, 116, 59] := rfl
      rw [e2] at hf ⊢
      obtain ⟨g, rfl⟩ : ∃ g, f = g + 1 := ⟨f - 1, by simp at hf; omega⟩
      rw [dec_step g _ _ 62 4 rfl rfl (by decide), dec_esc r hr g (by simp at hf; omega)]
      rfl
    by_cases c3 : x = 38
    · subst c3
      have e2 : (escB 38).data.toList = [38, 97, 109, 112, 59] := rfl
      rw [e2] at hf ⊢
      obtain ⟨g, rfl⟩ : ∃ g, f = g + 1 := ⟨f - 1, by simp at hf; omega⟩
      rw [dec_step g _ _ 38 5 rfl rfl (by decide), dec_esc r hr g (by simp at hf; omega)]
      rfl
    by_cases c4 : x = 34
    · subst c4
      have e2 : (escB 34).data.toList = [38, 113, 117, 111, 116, 59] := rfl
      rw [e2] at hf ⊢
      obtain ⟨g, rfl⟩ : ∃ g, f = g + 1 := ⟨f - 1, by simp at hf; omega⟩
      rw [dec_step g _ _ 34 6 rfl rfl (by decide), dec_esc r hr g (by simp at hf; omega)]
      rfl
    · have e2 : (escB x).data.toList = [UInt8.ofNat x.toNat] := by unfold escB; rw [if_neg c1, if_neg c2, if_neg c3, if_neg c4]
      have e3 : (UInt8.ofNat x.toNat).toNat = x.toNat := by rw [UInt8.toNat_ofNat']; omega
      rw [e2] at hf ⊢
      obtain ⟨g, rfl⟩ : ∃ g, f = g + 1 := ⟨f - 1, by simp at hf; omega⟩
      have h0 : refOf (UInt8.ofNat x.toNat :: escAll r) = (0, 0) := by
        show (if (UInt8.ofNat x.toNat).toNat = 38 then _ else ((0, 0) : Nat × Nat)) = _
        rw [if_neg (by rw [e3]; omega)]
      show dec (g + 1) (UInt8.ofNat x.toNat :: escAll r) = _
      rw [dec, h0, if_pos rfl, e3, dec_esc r hr g (by simp at hf; omega), Int.toNat_of_nonneg hx.1]

/-- No byte that begins or ends a mark. -/
def calm (c : UInt8) : Bool := decide (c.toNat ≠ 60) && decide (c.toNat ≠ 62) && decide (c.toNat ≠ 34)

theorem calm_esc : ∀ (D : List Int), (∀ y ∈ D, 0 ≤ y ∧ y ≤ 255) → ∀ c ∈ escAll D, calm c = true
  | [], _, c, hc => by simp [escAll] at hc
  | x :: r, h, c, hc => by
    obtain ⟨hx, hr⟩ := bytes_cons h
    have e : escAll (x :: r) = (escB x).data.toList ++ escAll r := rfl
    rw [e] at hc
    rcases List.mem_append.1 hc with hc | hc
    · by_cases c1 : x = 60
      · subst c1
        have hc : c ∈ [38, 108, 116, 59] := hc
        simp at hc
        rcases hc with rfl | rfl | rfl | rfl <;> decide
      by_cases c2 : x = 62
      · subst c2
        have hc : c ∈ [38, 103, 116, 59] := hc
        simp at hc
        rcases hc with rfl | rfl | rfl | rfl <;> decide
      by_cases c3 : x = 38
      · subst c3
        have hc : c ∈ [38, 97, 109, 112, 59] := hc
        simp at hc
        rcases hc with rfl | rfl | rfl | rfl | rfl <;> decide
      by_cases c4 : x = 34
      · subst c4
        have hc : c ∈ [38, 113, 117, 111, 116, 59] := hc
        simp at hc
        rcases hc with rfl | rfl | rfl | rfl | rfl | rfl <;> decide
      · have e2 : (escB x).data.toList = [UInt8.ofNat x.toNat] := by unfold escB; rw [if_neg c1, if_neg c2, if_neg c3, if_neg c4]
        have e3 : (UInt8.ofNat x.toNat).toNat = x.toNat := by rw [UInt8.toNat_ofNat']; omega
        rw [e2] at hc
        rw [List.mem_singleton.1 hc]
        unfold calm
        rw [e3]
        simp
        omega
    · exact calm_esc r hr c hc

theorem dec_of_esc (D : List Int) (h : ∀ y ∈ D, 0 ≤ y ∧ y ≤ 255) (hl : D.length ≤ 240) : decC (escAll D) = 0 ∧ decV (escAll D) = D := by
  have h1 := escAll_len D
  unfold decC decV
  rw [if_neg (by omega), if_neg (by omega)]
  exact ⟨rfl, dec_esc D h _ (Nat.le_refl _)⟩

theorem bytes_mem {D : List Int} (h : ∀ y ∈ D, 0 ≤ y ∧ y ≤ 255) : Bytes D := fun k hk => by
  rw [List.getD_eq_getElem?_getD, List.getElem?_eq_getElem hk]
  exact h _ (List.getElem_mem hk)

end Go.Proofs.YthckoaddajpgcaaDoor
