/- Texts of digits, and the quarters that they are: the mathematics of MeasureOf. -/
import Derived.Test.YtfdcfajliofbfaaGreatDoorFp
import Derived.Test.YtfdcfajliofbfaaGreatDoorMc
namespace Go.Proofs.YtfdcfajliofbfaaGreatDoor
open Go.RowKit
open Ieee
set_option linter.unusedVariables false
set_option linter.unusedSimpArgs false

/-- A digit at a place; the first k are digits; a text of 1 to most digits; the number of the first k. -/
def isD (t : ByteArray) (k : Nat) : Bool := decide (48 ≤ byS t k) && decide (byS t k ≤ 57)
def allD (t : ByteArray) : Nat → Bool
  | 0 => true
  | k + 1 => allD t k && isD t k
def digOk (t : ByteArray) (most : Nat) : Bool := decide (1 ≤ t.size) && decide (t.size ≤ most) && allD t t.size
def numD (t : ByteArray) : Nat → Nat
  | 0 => 0
  | k + 1 => 10 * numD t k + (byS t k - 48)

theorem isD_iff {t : ByteArray} {k : Nat} : isD t k = true ↔ 48 ≤ byS t k ∧ byS t k ≤ 57 := by
  unfold isD; rw [Bool.and_eq_true, decide_eq_true_eq, decide_eq_true_eq]

theorem allD_at {t : ByteArray} : ∀ {n k : Nat}, allD t n = true → k < n → 48 ≤ byS t k ∧ byS t k ≤ 57
  | 0, _, _, h => absurd h (Nat.not_lt_zero _)
  | n + 1, k, h, hk => by
    unfold allD at h
    rw [Bool.and_eq_true] at h
    by_cases e : k = n
    · subst e; exact isD_iff.1 h.2
    · exact allD_at h.1 (by omega)

theorem allD_of {t : ByteArray} : ∀ {n : Nat}, (∀ k, k < n → 48 ≤ byS t k ∧ byS t k ≤ 57) → allD t n = true
  | 0, _ => rfl
  | n + 1, h => by
    unfold allD
    rw [allD_of (fun k hk => h k (by omega)), isD_iff.2 (h n (by omega))]; rfl

theorem allD_next {t : ByteArray} {k : Nat} (h : allD t k = true) (hd : 48 ≤ byS t k ∧ byS t k ≤ 57) : allD t (k + 1) = true := by
  unfold allD; rw [h, isD_iff.2 hd]; rfl

theorem numD_lt {t : ByteArray} : ∀ n, allD t n = true → numD t n < 10 ^ n
  | 0, _ => (by show 0 < 1; decide)
  | n + 1, h => by
    have h0 := allD_at (k := n) h (by omega)
    unfold allD at h
    rw [Bool.and_eq_true] at h
    have := numD_lt n h.1
    have hp := Nat.pow_succ (n := 10) (m := n)
    unfold numD
    omega

theorem pow10_le {n m : Nat} (h : n ≤ m) : 10 ^ n ≤ 10 ^ m := Nat.pow_le_pow_right (by decide) h

theorem digOk_iff {t : ByteArray} {most : Nat} : digOk t most = true ↔ 1 ≤ t.size ∧ t.size ≤ most ∧ allD t t.size = true := by
  unfold digOk; rw [Bool.and_eq_true, Bool.and_eq_true, decide_eq_true_eq, decide_eq_true_eq, and_assoc]

theorem digOk_bad {t : ByteArray} {most k : Nat} (hk : k < t.size) (h : ¬ (48 ≤ byS t k ∧ byS t k ≤ 57)) : digOk t most = false :=
  Bool.eq_false_iff.2 fun e => h (allD_at (digOk_iff.1 e).2.2 hk)

theorem digOk_none {t : ByteArray} {most : Nat} (h : t.size < 1) : digOk t most = false := Bool.eq_false_iff.2 fun e => by have := (digOk_iff.1 e).1; omega
theorem digOk_many {t : ByteArray} {most : Nat} (h : most < t.size) : digOk t most = false := Bool.eq_false_iff.2 fun e => by have := (digOk_iff.1 e).2.1; omega

/-- Where the first point stands among the first k; the text's size, if there is none. -/
def dotU (r : ByteArray) : Nat → Nat
  | 0 => r.size
  | k + 1 => if dotU r k = r.size ∧ byS r k = 46 then k else dotU r k
def dotN (r : ByteArray) : Nat := dotU r r.size

theorem dotU_spec (r : ByteArray) : ∀ k, k ≤ r.size → (dotU r k = r.size ∧ ∀ j, j < k → byS r j ≠ 46) ∨ (dotU r k < k ∧ byS r (dotU r k) = 46 ∧ ∀ j, j < dotU r k → byS r j ≠ 46)
  | 0, _ => .inl ⟨rfl, fun j h => absurd h (Nat.not_lt_zero _)⟩
  | k + 1, hk => by
    unfold dotU
    rcases dotU_spec r k (by omega) with ⟨h1, h2⟩ | ⟨h1, h2, h3⟩
    · by_cases c : byS r k = 46
      · rw [if_pos ⟨h1, c⟩]
        exact .inr ⟨by omega, c, h2⟩
      · rw [if_neg (fun h => c h.2)]
        refine .inl ⟨h1, fun j hj => ?_⟩
        by_cases e : j = k
        · subst e; exact c
        · exact h2 j (by omega)
    · rw [if_neg (fun h => by omega)]
      exact .inr ⟨by omega, h2, h3⟩

theorem dotN_le (r : ByteArray) : dotN r ≤ r.size := by
  rcases dotU_spec r r.size (Nat.le_refl _) with ⟨h1, _⟩ | ⟨h1, _⟩
  · unfold dotN; omega
  · unfold dotN; omega

def wholeT (r : ByteArray) : ByteArray := r.extract 0 (dotN r)
def partT (r : ByteArray) : ByteArray := r.extract (dotN r + 1) r.size

theorem ext_size (r : ByteArray) (a b : Nat) (hb : b ≤ r.size) : (r.extract a b).size = b - a := by
  rw [ByteArray.size_extract, Nat.min_eq_left hb]

theorem byS_ext (r : ByteArray) (a b k : Nat) (hb : b ≤ r.size) (hk : a + k < b) : byS (r.extract a b) k = byS r (a + k) := by
  have h1 : k < (r.extract a b).size := by rw [ext_size r a b hb]; omega
  unfold byS
  rw [dif_pos h1, dif_pos (by omega : a + k < r.size)]
  congr 1
  exact ByteArray.getElem_extract ..

theorem whole_size (r : ByteArray) : (wholeT r).size = dotN r := by unfold wholeT; rw [ext_size r 0 _ (dotN_le r)]; omega
theorem part_size (r : ByteArray) : (partT r).size = r.size - (dotN r + 1) := by unfold partT; rw [ext_size r _ _ (Nat.le_refl _)]
theorem whole_at (r : ByteArray) {k : Nat} (hk : k < dotN r) : byS (wholeT r) k = byS r k := by
  unfold wholeT; rw [byS_ext r 0 _ k (dotN_le r) (by omega), Nat.zero_add]
theorem part_at (r : ByteArray) {k : Nat} (hk : dotN r + 1 + k < r.size) : byS (partT r) k = byS r (dotN r + 1 + k) := by
  unfold partT; rw [byS_ext r _ _ k (Nat.le_refl _) hk]

def wholeN (r : ByteArray) : Nat := numD (wholeT r) (wholeT r).size
def partN (r : ByteArray) : Nat := numD (partT r) (partT r).size
def padP (r : ByteArray) : Nat := partN r * 10 ^ (3 - (partT r).size)

/-- A text without a sign that is quarters, and how many. -/
def okR (r : ByteArray) : Bool := digOk (wholeT r) 4 && (decide (dotN r = r.size) || (digOk (partT r) 3 && decide (padP r % 250 = 0)))
def qR (r : ByteArray) : Nat := 4 * wholeN r + (if dotN r = r.size then 0 else padP r / 250)

/-- What the model's number of a text is. -/
def numA (r : ByteArray) : Int := if digOk (wholeT r) 4 = true then (if dotN r = r.size then 4 * (wholeN r : Int) else if digOk (partT r) 3 = true then (if padP r % 250 = 0 then 4 * (wholeN r : Int) + (padP r / 250 : Nat) else -1) else -1) else -4

theorem wholeN_lt {r : ByteArray} (h : digOk (wholeT r) 4 = true) : wholeN r < 10000 := by
  obtain ⟨h1, h2, h3⟩ := digOk_iff.1 h
  exact Nat.lt_of_lt_of_le (numD_lt _ h3) (pow10_le h2)

theorem part_sizes {r : ByteArray} (h : digOk (partT r) 3 = true) : (partT r).size = 1 ∧ partN r < 10 ∧ padP r = partN r * 100 ∨ (partT r).size = 2 ∧ partN r < 100 ∧ padP r = partN r * 10 ∨ (partT r).size = 3 ∧ partN r < 1000 ∧ padP r = partN r := by
  obtain ⟨h1, h2, h3⟩ := digOk_iff.1 h
  have hl := numD_lt _ h3
  have hl : partN r < 10 ^ (partT r).size := hl
  have c : (partT r).size = 1 ∨ (partT r).size = 2 ∨ (partT r).size = 3 := by omega
  unfold padP
  rcases c with c | c | c
  · rw [c] at hl ⊢; exact .inl ⟨rfl, hl, rfl⟩
  · rw [c] at hl ⊢; exact .inr (.inl ⟨rfl, hl, rfl⟩)
  · rw [c] at hl ⊢; exact .inr (.inr ⟨rfl, hl, by simp⟩)

theorem padP_lt {r : ByteArray} (h : digOk (partT r) 3 = true) : padP r < 1000 := by
  rcases part_sizes h with ⟨_, h1, h2⟩ | ⟨_, h1, h2⟩ | ⟨_, h1, h2⟩ <;> omega

theorem numA_ok {r : ByteArray} (h : okR r = true) : numA r = (qR r : Int) ∧ qR r ≤ 39999 := by
  unfold okR at h
  rw [Bool.and_eq_true, Bool.or_eq_true, decide_eq_true_eq, Bool.and_eq_true, decide_eq_true_eq] at h
  have hw := wholeN_lt h.1
  unfold numA qR
  rw [if_pos h.1]
  rcases h.2 with c | ⟨c1, c2⟩
  · rw [if_pos c, if_pos c]; omega
  · have := padP_lt c1
    by_cases c : dotN r = r.size
    · rw [if_pos c, if_pos c]; omega
    · rw [if_neg c, if_neg c, if_pos c1, if_pos c2]; omega

theorem numA_bad {r : ByteArray} (h : okR r = false) : numA r < 0 := by
  unfold okR at h
  unfold numA
  by_cases h1 : digOk (wholeT r) 4 = true
  · rw [if_pos h1]
    rw [h1, Bool.true_and, Bool.or_eq_false_iff, decide_eq_false_iff_not] at h
    rw [if_neg h.1]
    by_cases h2 : digOk (partT r) 3 = true
    · rw [if_pos h2]
      rw [h2, Bool.true_and, decide_eq_false_iff_not] at h
      rw [if_neg h.2]; omega
    · rw [if_neg h2]; omega
  · rw [if_neg h1]; omega

/-- A text whose digits are so: what the program's library reads of it. -/
def looks (r : ByteArray) : Prop := digOk (wholeT r) 4 = true ∧ (dotN r = r.size ∨ digOk (partT r) 3 = true)

theorem no_dot_ahead {r : ByteArray} {j : Nat} (h : j < dotN r) : byS r j ≠ 46 := by
  rcases dotU_spec r r.size (Nat.le_refl _) with ⟨h1, h2⟩ | ⟨h1, h2, h3⟩
  · exact h2 j (by have := dotN_le r; omega)
  · exact h3 j h

theorem dot_at {r : ByteArray} (h : dotN r < r.size) : byS r (dotN r) = 46 := by
  rcases dotU_spec r r.size (Nat.le_refl _) with ⟨h1, h2⟩ | ⟨h1, h2, h3⟩
  · unfold dotN at h; omega
  · exact h2

theorem rf_ahead {r : ByteArray} : ∀ k, k ≤ dotN r → rfM r k = numD (wholeT r) k ∧ rfD r k = false ∧ rfF r k = 0
  | 0, _ => ⟨rfl, rfl, rfl⟩
  | k + 1, hk => by
    obtain ⟨h1, h2, h3⟩ := rf_ahead (r := r) k (by omega)
    have hn := no_dot_ahead (r := r) (j := k) (by omega)
    have hw := whole_at r (k := k) (by omega)
    unfold rfM rfD rfF numD
    rw [if_neg hn, if_neg hn, if_neg hn, h1, h2, hw]
    refine ⟨by omega, rfl, by simp⟩

theorem rf_behind {r : ByteArray} (hd : dotN r < r.size) (hp : digOk (partT r) 3 = true) : ∀ j, dotN r + 1 + j ≤ r.size → rfM r (dotN r + 1 + j) = numD (wholeT r) (dotN r) * 10 ^ j + numD (partT r) j ∧ rfD r (dotN r + 1 + j) = true ∧ rfF r (dotN r + 1 + j) = j
  | 0, _ => by
    obtain ⟨h1, h2, h3⟩ := rf_ahead (r := r) (dotN r) (Nat.le_refl _)
    have h46 := dot_at hd
    show rfM r (dotN r + 1) = _ ∧ rfD r (dotN r + 1) = true ∧ rfF r (dotN r + 1) = 0
    unfold rfM rfD rfF
    rw [if_pos h46, if_pos h46, if_pos h46, h1]
    exact ⟨by simp [numD], rfl, rfl⟩
  | j + 1, hj => by
    obtain ⟨h1, h2, h3⟩ := rf_behind hd hp j (by omega)
    have hw := part_at r (k := j) (by omega)
    have hdg := allD_at (digOk_iff.1 hp).2.2 (k := j) (by rw [part_size]; omega)
    rw [hw] at hdg
    have hn : ¬ byS r (dotN r + 1 + j) = 46 := by omega
    show rfM r (dotN r + 1 + j + 1) = _ ∧ rfD r (dotN r + 1 + j + 1) = true ∧ rfF r (dotN r + 1 + j + 1) = j + 1
    have e1 : numD (partT r) (j + 1) = 10 * numD (partT r) j + (byS (partT r) j - 48) := rfl
    unfold rfM rfD rfF
    rw [if_neg hn, if_neg hn, if_neg hn, h1, h2, h3, e1, hw, Nat.pow_succ]
    refine ⟨?_, rfl, by simp⟩
    rw [← Nat.mul_assoc]
    omega

theorem looks_dec {r : ByteArray} (h : looks r) : isDec r := by
  obtain ⟨hw, hp⟩ := h
  obtain ⟨w1, w2, w3⟩ := digOk_iff.1 hw
  rw [whole_size] at w1 w2
  have hle := dotN_le r
  have hwd : ∀ k, k < dotN r → 48 ≤ byS r k ∧ byS r k ≤ 57 := fun k hk => by
    rw [← whole_at r hk]
    exact allD_at w3 (by rw [whole_size]; exact hk)
  have hsz : r.size ≤ 8 := by
    rcases hp with c | c
    · omega
    · have := (digOk_iff.1 c).2.1
      rw [part_size] at this
      omega
  refine ⟨by omega, hsz, hwd 0 (by omega), fun k hk => ?_⟩
  by_cases c1 : k < dotN r
  · exact .inl (hwd k c1)
  · by_cases c2 : k = dotN r
    · subst c2
      exact .inr ⟨dot_at hk, (rf_ahead (dotN r) (Nat.le_refl _)).2.1⟩
    · rcases hp with c | c
      · omega
      · have := allD_at (digOk_iff.1 c).2.2 (k := k - (dotN r + 1)) (by rw [part_size]; omega)
        rw [part_at r (by omega), show dotN r + 1 + (k - (dotN r + 1)) = k by omega] at this
        exact .inl this

theorem nearest_whole (x : Nat) (h0 : 0 < x) (hx : x < 10000) : double.nearest false x 0 = wordQ (4 * x) := by
  obtain ⟨g1, g2⟩ : 2 ^ x.log2 ≤ x ∧ x < 2 ^ (x.log2 + 1) := ⟨Nat.log2_self_le (by omega), Nat.lt_log2_self⟩
  generalize hL : x.log2 = L at *
  have hL2 : L ≤ 13 := by
    rcases Nat.lt_or_ge 13 L with h | h
    · have : 2 ^ 14 ≤ 2 ^ L := Nat.pow_le_pow_right (by decide) h
      have e : (2 : Nat) ^ 14 = 16384 := by decide
      omega
    · exact h
  have e4 : (4 * x).log2 = L + 2 := log2_le_of (by rw [Nat.pow_add]; omega) (by rw [show L + 2 + 1 = (L + 1) + 2 by omega, Nat.pow_add]; omega)
  have hr := mul_two_pow_range g1 g2 (by omega)
  unfold wordQ
  rw [if_neg (by omega), e4, nearest_short x L 0 g1 g2 (by omega) (by omega) (by omega)]
  unfold wq
  have e5 : 4 * x * 2 ^ (52 - (L + 2)) = x * 2 ^ (52 - L) := by
    rw [show 52 - L = (52 - (L + 2)) + 2 by omega, Nat.pow_add, Nat.mul_comm 4 x, Nat.mul_assoc]
    congr 1
    rw [Nat.mul_comm]
  rw [e5]
  congr 2
  omega

theorem quarters_word (q : Nat) (h : q ≤ 39999) : quarters (wordQ q) = q := by
  unfold wordQ
  by_cases h0 : q = 0
  · rw [if_pos h0, h0]; rfl
  · rw [if_neg h0]
    have g1 : 2 ^ q.log2 ≤ q := Nat.log2_self_le h0
    have g2 : q < 2 ^ (q.log2 + 1) := Nat.lt_log2_self
    refine quarters_wq q _ ?_ g1 g2 h
    rcases Nat.lt_or_ge 15 q.log2 with c | c
    · have : 2 ^ 16 ≤ 2 ^ q.log2 := Nat.pow_le_pow_right (by decide) c
      have e : (2 : Nat) ^ 16 = 65536 := by decide
      omega
    · exact c

theorem word_of_quarters {n q : Nat} (h : quarters n = (q : Int)) (hn : n ≠ 0) : n = wordQ q := by
  obtain ⟨q', k, h1, h2, h3, h4, h5, h6⟩ := quarters_pos n (by omega) hn
  have e : q' = q := by omega
  subst e
  have : 0 < 2 ^ k := Nat.two_pow_pos k
  unfold wordQ
  rw [if_neg (by omega), log2_le_of h3 h4]
  exact h6

end Go.Proofs.YtfdcfajliofbfaaGreatDoor
