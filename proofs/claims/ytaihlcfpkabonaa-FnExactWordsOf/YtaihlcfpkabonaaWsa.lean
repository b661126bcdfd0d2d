/- The words of a line: how the model cuts, and what the program's fields are: the same. -/
import Derived.Lib.FieldsP
import Derived.Lib.MapLaws
namespace Go.Proofs.Ytaihlcfpkabonaa
open Go.Lib
set_option linter.unusedVariables false

/-- Does a piece end at place k? -/
def atC (s : ByteArray) (c : Nat) (k : Nat) : Bool := decide (k = s.size) || ((s.get! k).toNat == c)
/-- Where the open piece begins, ahead of place k. -/
def frC (s : ByteArray) (c : Nat) : Nat → Nat
  | 0 => 0
  | k + 1 => if atC s c k then k + 1 else frC s c k
/-- The pieces that ended ahead of place k. -/
def ctC (s : ByteArray) (c : Nat) : Nat → List ByteArray
  | 0 => []
  | k + 1 => if atC s c k then ctC s c k ++ [s.extract (frC s c k) k] else ctC s c k
def cutC (s : ByteArray) (c : Nat) : List ByteArray := ctC s c (s.size + 1)
def neB (x : ByteArray) : Bool := !(x.size == 0)
def wordsL (s : ByteArray) : List ByteArray := (cutC s 32).filter neB

theorem frC_le (s : ByteArray) (c : Nat) : ∀ k, frC s c k ≤ k
  | 0 => Nat.le_refl _
  | k + 1 => by
    unfold frC
    split
    · omega
    · exact Nat.le_succ_of_le (frC_le s c k)

theorem extract_ne {s : ByteArray} {a b : Nat} (h : a < b) (hb : b ≤ s.size) : neB (s.extract a b) = true := by
  unfold neB
  rw [ByteArray.size_extract]
  simp
  omega
theorem extract_no {s : ByteArray} {a : Nat} : neB (s.extract a a) = false := by
  unfold neB
  rw [ByteArray.size_extract]
  simp
  omega
theorem neB_empty : neB ByteArray.empty = false := rfl

/-- Over bytes that are no blank nothing turns. -/
theorem skipC (s : ByteArray) (c pos : Nat) : ∀ n, (∀ j, j < n → atC s c (pos + j) = false) → frC s c (pos + n) = frC s c pos ∧ ctC s c (pos + n) = ctC s c pos
  | 0, _ => ⟨rfl, rfl⟩
  | n + 1, h => by
    obtain ⟨h1, h2⟩ := skipC s c pos n (fun j hj => h j (by omega))
    have h0 := h n (by omega)
    refine ⟨?_, ?_⟩
    · rw [← h1, ← Nat.add_assoc]
      conv => lhs; unfold frC
      simp [h0]
    · rw [← h2, ← Nat.add_assoc]
      conv => lhs; unfold ctC
      simp [h0]

/-- A decoded blank is one byte; a rune that is none has no blank among its bytes. -/
theorem rune_blank (s : ByteArray) (pos : Nat) (h : pos < s.size) :
    ((Utf8.decode s pos).1 = 32 → (Utf8.decode s pos).2 = 1 ∧ (s.get! pos).toNat = 32) ∧
    ((Utf8.decode s pos).1 ≠ 32 → ∀ j, j < (Utf8.decode s pos).2 → (s.get! (pos + j)).toNat ≠ 32) ∧
    1 ≤ (Utf8.decode s pos).2 ∧ pos + (Utf8.decode s pos).2 ≤ s.size := by
  rw [decode_at]
  have hw := decodeN_le_n' (s.size - pos) (s.get! pos).toNat (s.get! (pos + 1)).toNat (s.get! (pos + 2)).toNat (s.get! (pos + 3)).toNat (by omega)
  have hs := decodeN_shape (s.size - pos) (s.get! pos).toNat (s.get! (pos + 1)).toNat (s.get! (pos + 2)).toNat (s.get! (pos + 3)).toNat
  have hz : (s.get! pos).toNat = 32 → decodeN (s.size - pos) (s.get! pos).toNat (s.get! (pos + 1)).toNat (s.get! (pos + 2)).toNat (s.get! (pos + 3)).toNat = (32, 1) := by
    intro e
    unfold decodeN
    rw [e]
    simp
  generalize hD : decodeN (s.size - pos) (s.get! pos).toNat (s.get! (pos + 1)).toNat (s.get! (pos + 2)).toNat (s.get! (pos + 3)).toNat = D at *
  have one : D.2 = 1 → (D.1 = 32 → (s.get! pos).toNat = 32) → (D.1 = 32 → D.2 = 1 ∧ (s.get! pos).toNat = 32) ∧ (D.1 ≠ 32 → ∀ j, j < D.2 → (s.get! (pos + j)).toNat ≠ 32) := by
    intro h1 h2
    refine ⟨fun e => ⟨h1, h2 e⟩, fun e j hj e2 => ?_⟩
    have : j = 0 := by omega
    subst this
    exact e (by rw [hz e2])
  rcases hs with ⟨a, e⟩ | ⟨a, b, c, d, e⟩ | ⟨a, b, c, d, e1, e2, e⟩ | ⟨a, b, c, d, e1, e2, e3, e⟩ | e
  · refine ⟨(one (by rw [e]) (by rw [e]; exact id)).1, (one (by rw [e]) (by rw [e]; exact id)).2, by rw [e]; exact Nat.le_refl _, by omega⟩
  · refine ⟨fun x => by rw [e] at x; simp only at x; omega, fun x j hj => ?_, by rw [e]; simp, by omega⟩
    rw [e] at hj
    simp only at hj
    rcases (show j = 0 ∨ j = 1 by omega) with rfl | rfl
    · simp only [Nat.add_zero]; omega
    · omega
  · refine ⟨fun x => by rw [e] at x; simp only at x; omega, fun x j hj => ?_, by rw [e]; simp, by omega⟩
    rw [e] at hj
    simp only at hj
    rcases (show j = 0 ∨ j = 1 ∨ j = 2 by omega) with rfl | rfl | rfl
    · simp only [Nat.add_zero]; omega
    · omega
    · omega
  · refine ⟨fun x => by rw [e] at x; simp only at x; omega, fun x j hj => ?_, by rw [e]; simp, by omega⟩
    rw [e] at hj
    simp only at hj
    rcases (show j = 0 ∨ j = 1 ∨ j = 2 ∨ j = 3 by omega) with rfl | rfl | rfl | rfl
    · simp only [Nat.add_zero]; omega
    · omega
    · omega
    · omega
  · refine ⟨(one (by rw [e]) (by rw [e]; intro x; exact absurd x (by decide))).1, (one (by rw [e]) (by rw [e]; intro x; exact absurd x (by decide))).2, by rw [e]; exact Nat.le_refl _, by omega⟩

def blankP (x : Nat) : Bool := x == 32

theorem spans_cut (s : ByteArray) : ∀ (f pos : Nat) (st : Option Nat) (acc : List (Nat × Nat)), s.size ≤ pos + f → pos ≤ s.size →
    acc.map (fun x => s.extract x.1 x.2) = (ctC s 32 pos).filter neB → (st.getD pos = frC s 32 pos) → (∀ a, st = some a → a < pos) →
    (closeSpans s (spansFromP blankP s f pos st acc)).map (fun x => s.extract x.1 x.2) = wordsL s := by
  intro f
  induction f with
  | zero =>
    intro pos st acc hf hp ha hs hl
    have hp : pos = s.size := by omega
    subst hp
    unfold spansFromP closeSpans wordsL cutC ctC
    have hat : atC s 32 s.size = true := by simp [atC]
    rw [if_pos hat]
    cases st with
    | none =>
      simp only [Option.getD_none] at hs
      rw [← hs, List.filter_append, ← ha]
      simp [neB_empty]
    | some a =>
      simp only [Option.getD_some] at hs
      rw [← hs, List.filter_append, ← ha]
      simp [extract_ne (hl a rfl) (Nat.le_refl _)]
  | succ f ih =>
    intro pos st acc hf hp ha hs hl
    unfold spansFromP
    by_cases h : pos < s.size
    · rw [if_pos h]
      obtain ⟨r1, r2, r3, r4⟩ := rune_blank s pos h
      by_cases e : (Utf8.decode s pos).1 = 32
      · have hb : blankP (Utf8.decode s pos).1 = true := by simp [blankP, e]
        rw [if_pos hb]
        obtain ⟨r5, r6⟩ := r1 e
        rw [r5]
        have hat : atC s 32 pos = true := by simp [atC, r6]
        have hfr : frC s 32 (pos + 1) = pos + 1 := by unfold frC; rw [if_pos hat]
        have hct : ctC s 32 (pos + 1) = ctC s 32 pos ++ [s.extract (frC s 32 pos) pos] := by
          conv => lhs; unfold ctC
          rw [if_pos hat]
        cases st with
        | none =>
          simp only [Option.getD_none] at hs
          refine ih (pos + 1) none acc (by omega) (by omega) ?_ (by rw [hfr]; rfl) (by intro a ha; cases ha)
          rw [hct, ← hs, List.filter_append, ← ha]
          simp [neB_empty]
        | some a =>
          simp only [Option.getD_some] at hs
          refine ih (pos + 1) none (acc ++ [(a, pos)]) (by omega) (by omega) ?_ (by rw [hfr]; rfl) (by intro a ha; cases ha)
          rw [hct, ← hs, List.filter_append, ← ha]
          simp [extract_ne (hl a rfl) (by omega : pos ≤ s.size)]
      · have hb : ¬ blankP (Utf8.decode s pos).1 = true := by simp [blankP, e]
        rw [if_neg hb]
        have hsk := skipC s 32 pos (Utf8.decode s pos).2 (fun j hj => by
          have := r2 e j hj
          simp [atC, this]
          omega)
        cases st with
        | none =>
          simp only [Option.getD_none] at hs
          refine ih _ (some pos) acc (by omega) r4 ?_ ?_ ?_
          · rw [hsk.2]; exact ha
          · rw [hsk.1, ← hs]; rfl
          · intro a h1; cases h1; omega
        | some a =>
          simp only [Option.getD_some] at hs
          refine ih _ (some a) acc (by omega) r4 ?_ ?_ ?_
          · rw [hsk.2]; exact ha
          · rw [hsk.1, ← hs]; rfl
          · intro b h1; cases h1; have := hl a rfl; omega
    · have hp : pos = s.size := by omega
      rw [if_neg h]
      have := ih pos st acc (by omega) (by omega) ha hs hl
      rw [spansFromP_end _ _ _ _ _ _ h] at this
      exact this

theorem fields_words (s : ByteArray) : goFieldsP blankP s = wordsL s := by
  unfold goFieldsP spansOfP
  exact spans_cut s s.size 0 none [] (by omega) (by omega) (by simp [ctC]) (by simp [frC]) (by intro a h; cases h)

theorem ctC_len (s : ByteArray) (c : Nat) : ∀ k, (ctC s c k).length ≤ k
  | 0 => Nat.le_refl _
  | k + 1 => by
    unfold ctC
    split
    · rw [List.length_append]; have := ctC_len s c k; simp; omega
    · have := ctC_len s c k; omega
theorem ctC_few (s : ByteArray) (c : Nat) : ∀ k, k ≤ s.size → ((ctC s c k).filter neB).length ≤ frC s c k
  | 0, _ => by simp [ctC]
  | k + 1, hk => by
    have h := ctC_few s c k (by omega)
    have hf := frC_le s c k
    rw [show ctC s c (k + 1) = (if atC s c k then ctC s c k ++ [s.extract (frC s c k) k] else ctC s c k) from rfl, show frC s c (k + 1) = (if atC s c k then k + 1 else frC s c k) from rfl]
    split
    · rw [List.filter_append, List.length_append]
      by_cases e : frC s c k = k
      · have : (List.filter neB [s.extract (frC s c k) k]).length ≤ 1 := Nat.le_trans (List.length_filter_le _ _) (by simp)
        omega
      · have : (List.filter neB [s.extract (frC s c k) k]).length ≤ 1 := Nat.le_trans (List.length_filter_le _ _) (by simp)
        omega
    · exact h
theorem wordsL_len (s : ByteArray) : (wordsL s).length ≤ s.size := by
  have h := ctC_few s 32 s.size (Nat.le_refl _)
  have hf := frC_le s 32 s.size
  unfold wordsL cutC
  conv => lhs; unfold ctC
  rw [if_pos (by simp [atC]), List.filter_append, List.length_append]
  by_cases e : frC s 32 s.size = s.size
  · rw [e, List.filter_cons_of_neg (by rw [extract_no]; simp)]
    simp; omega
  · have : (List.filter neB [s.extract (frC s 32 s.size) s.size]).length ≤ 1 := Nat.le_trans (List.length_filter_le _ _) (by simp)
    omega
theorem ctC_sz (s : ByteArray) (c : Nat) : ∀ k, ∀ x ∈ ctC s c k, x.size ≤ s.size
  | 0 => by simp [ctC]
  | k + 1 => by
    unfold ctC
    split
    · intro x hx
      rcases List.mem_append.1 hx with h | h
      · exact ctC_sz s c k x h
      · simp at h; subst h; rw [ByteArray.size_extract]; omega
    · exact ctC_sz s c k
theorem wordsL_sz (s : ByteArray) : ∀ x ∈ wordsL s, x.size ≤ s.size := fun x hx => ctC_sz s 32 _ x (List.mem_filter.1 hx).1

end Go.Proofs.Ytaihlcfpkabonaa
