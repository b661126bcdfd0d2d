/- Tags: the mathematics: letters, blanks and what stands ahead of a quote; an attribute, a tag of bytes. -/
import Derived.Test.YtcjaldjlcnedeaaDoorQh
import Derived.Test.YtcjaldjlcnedeaaDoorTj
namespace Go.Proofs.YtcjaldjlcnedeaaDoor
open Go.RowKit
set_option linter.unusedVariables false

/-- How many ahead are so. -/
def spn (p : UInt8 → Bool) : List UInt8 → Nat
  | [] => 0
  | c :: r => if p c = true then spn p r + 1 else 0
theorem spn_le (p : UInt8 → Bool) : ∀ L, spn p L ≤ L.length
  | [] => Nat.le_refl _
  | c :: r => by
    have := spn_le p r
    simp only [spn, List.length_cons]; split <;> omega
theorem spn_all (p : UInt8 → Bool) : ∀ (L : List UInt8) (j : Nat), j < spn p L → p (L.getD j 0) = true
  | [], j, h => by simp [spn] at h
  | c :: r, j, h => by
    unfold spn at h
    split at h
    · cases j with
      | zero => simpa
      | succ j => simpa using spn_all p r j (by omega)
    · omega
theorem spn_end (p : UInt8 → Bool) : ∀ (L : List UInt8), spn p L < L.length → p (L.getD (spn p L) 0) = false
  | [], h => by simp [spn] at h
  | c :: r, h => by
    unfold spn at h ⊢
    split
    · rename_i hc
      rw [if_pos hc] at h
      simpa using spn_end p r (by simpa using h)
    · rename_i hc
      simpa using hc
theorem spn_uniq (p : UInt8 → Bool) : ∀ (L : List UInt8) (k : Nat), k ≤ L.length → (∀ j, j < k → p (L.getD j 0) = true) → (k < L.length → p (L.getD k 0) = false) → spn p L = k
  | [], k, h, _, _ => by simp at h; subst h; rfl
  | c :: r, 0, h, _, h2 => by
    have := h2 (by simp)
    unfold spn
    rw [if_neg (by simpa using this)]
  | c :: r, k + 1, h, h1, h2 => by
    have hc := h1 0 (by omega)
    unfold spn
    rw [if_pos (by simpa using hc), spn_uniq p r k (by simpa using h) (fun j hj => by simpa using h1 (j + 1) (by omega)) (fun hk => by simpa using h2 (by simpa using hk))]

def pL (c : UInt8) : Bool := ltrB c.toNat
def pB (c : UInt8) : Bool := decide (c.toNat = 32)
def pQ (c : UInt8) : Bool := !decide (c.toNat = 34)

/-- An attribute ahead, and how many bytes it has. -/
def attrA (L : List UInt8) : Option (AT × Nat) :=
  if ((1 ≤ spn pL L ∧ spn pL L ≤ 8) ∧ spn pL L + 1 < L.length) ∧ ((L.getD (spn pL L) 0).toNat = 61 ∧ (L.getD (spn pL L + 1) 0).toNat = 34) then
    (if spn pL L + 2 + spn pQ (L.drop (spn pL L + 2)) < L.length then some (⟨⟨(L.take (spn pL L)).toArray⟩, decode ((L.drop (spn pL L + 2)).take (spn pQ (L.drop (spn pL L + 2))))⟩, spn pL L + 2 + spn pQ (L.drop (spn pL L + 2)) + 1) else none)
  else none

def addA (l : List AT) (a : AT) : List AT := if 0 ≤ posK l a.nm then l else l ++ [a]

/-- What is inside a start tag. -/
def insideA : Nat → List UInt8 → List AT → Option (List AT × Bool)
  | 0, _, _ => none
  | f + 1, L, acc =>
    if ((L.drop (spn pB L)).getD 0 0).toNat = 47 then (if L.drop (spn pB L + 1) = [62] then some (acc, true) else none)
    else if ((L.drop (spn pB L)).getD 0 0).toNat = 62 then (if L.drop (spn pB L) = [62] then some (acc, false) else none)
    else if spn pB L = 0 then none
    else match attrA (L.drop (spn pB L)) with
      | none => none
      | some (a, n) => insideA f (L.drop (spn pB L + n)) (addA acc a)

/-- A tag. -/
def tagA (L : List UInt8) : Option TK :=
  if (L.getD 0 0).toNat = 60 then
    (if Lib.hasPrefix (L.drop 1) [33, 45, 45] = true then (if Lib.hasSuffix (L.drop 4) [45, 45, 62] = true then some ⟨4, 0, ⟨#[]⟩, [], false⟩ else none)
    else if (L.getD 1 0).toNat = 47 then (if (1 ≤ spn pL (L.drop 2) ∧ spn pL (L.drop 2) ≤ 8) ∧ L.drop (2 + spn pL (L.drop 2)) = [62] then some ⟨3, 0, ⟨((L.drop 2).take (spn pL (L.drop 2))).toArray⟩, [], false⟩ else none)
    else if 1 ≤ spn pL (L.drop 1) ∧ spn pL (L.drop 1) ≤ 8 then
      (match insideA (L.length + 1) (L.drop (1 + spn pL (L.drop 1))) [] with
      | none => none
      | some (l, sh) => some ⟨2, 0, ⟨((L.drop 1).take (spn pL (L.drop 1))).toArray⟩, l, sh⟩)
    else none)
  else none

theorem one_left (L : List UInt8) (k : Nat) : L.drop k = [62] ↔ k + 1 = L.length ∧ (L.getD k 0).toNat = 62 := by
  constructor
  · intro h
    have hl := congrArg List.length h
    simp only [List.length_drop, List.length_cons, List.length_nil] at hl
    refine ⟨by omega, ?_⟩
    have : (L.drop k).getD 0 0 = 62 := by rw [h]; rfl
    rw [getD_drop] at this
    simp only [Nat.add_zero] at this
    rw [this]; rfl
  · rintro ⟨h1, h2⟩
    rw [drop_cons L k (by omega), List.drop_of_length_le (by omega)]
    have : L.getD k 0 = 62 := UInt8.toNat_inj.1 (by rw [h2]; rfl)
    rw [this]

theorem attrA_len {L : List UInt8} {a : AT} {n : Nat} (h : attrA L = some (a, n)) : 3 ≤ n ∧ n ≤ L.length ∧ a.nm.size ≤ 8 ∧ a.nm.size + a.vl.length ≤ L.length := by
  unfold attrA at h
  split at h
  · rename_i hc
    split at h
    · rename_i hq
      simp only [Option.some.injEq, Prod.mk.injEq] at h
      obtain ⟨rfl, rfl⟩ := h
      have e1 : (⟨(L.take (spn pL L)).toArray⟩ : ByteArray).size = spn pL L := by simp [ByteArray.size]; omega
      have e2 : (decode ((L.drop (spn pL L + 2)).take (spn pQ (L.drop (spn pL L + 2))))).length ≤ spn pQ (L.drop (spn pL L + 2)) := by
        refine Nat.le_trans (dec_len _ _) ?_
        simp
        omega
      refine ⟨by omega, by omega, by rw [e1]; omega, ?_⟩
      show (⟨(L.take (spn pL L)).toArray⟩ : ByteArray).size + (decode ((L.drop (spn pL L + 2)).take (spn pQ (L.drop (spn pL L + 2))))).length ≤ L.length
      rw [e1]; omega
    · cases h
  · cases h

theorem spn_zero_of {p : UInt8 → Bool} {L : List UInt8} (h : p (L.getD 0 0) = false) : spn p L = 0 :=
  spn_uniq p L 0 (Nat.zero_le _) (fun j hj => absurd hj (Nat.not_lt_zero _)) (fun _ => h)

/-- Blanks ahead of what is no letter: nothing is lost without them. -/
theorem inside_blank {f : Nat} {L : List UInt8} {acc : List AT} (h : pL ((L.drop (spn pB L)).getD 0 0) = false) : insideA (f + 1) (L.drop (spn pB L)) acc = insideA (f + 1) L acc := by
  have hz : spn pB (L.drop (spn pB L)) = 0 := by
    by_cases hl : spn pB L < L.length
    · refine spn_zero_of ?_
      rw [getD_drop, Nat.add_zero]
      exact spn_end pB L hl
    · rw [List.drop_of_length_le (by omega)]; rfl
  have ha : attrA (L.drop (spn pB L)) = none := by
    unfold attrA
    rw [spn_zero_of h, if_neg (by omega)]
  unfold insideA
  rw [hz]
  simp only [List.drop_drop, Nat.add_zero, ha, if_true]
  split
  · rfl
  · split
    · rfl
    · split <;> rfl

end Go.Proofs.YtcjaldjlcnedeaaDoor
