/- Walks: references read, the model's side. -/
import Derived.Test.YtgkdplooocbonaaGreatDoorXDe
import Derived.Lib.ParseIntB
namespace Go.Proofs.YtgkdplooocbonaaGreatDoor
open Go.RowKit
set_option linter.unusedVariables false

def isD (c : UInt8) : Bool := decide (48 ≤ c.toNat) && decide (c.toNat ≤ 57)
def valF (acc : Nat) : List UInt8 → Nat
  | [] => acc
  | c :: r => valF (acc * 10 + (c.toNat - 48)) r
/-- The number of a reference's digits. -/
def numOf (d : List UInt8) : Option Nat := if (1 ≤ d.length ∧ d.length ≤ 3) ∧ ¬ (d.getD 0 0).toNat = 48 then (if d.all isD = true ∧ valF 0 d ≤ 255 then some (valF 0 d) else none) else none
def optI : Option Nat → Int
  | some n => n
  | none => -1

theorem valF_snoc : ∀ (l : List UInt8) (c : UInt8) (a : Nat), valF a (l ++ [c]) = valF a l * 10 + (c.toNat - 48)
  | [], c, a => rfl
  | x :: r, c, a => valF_snoc r c _
theorem take_snoc1 (l : List UInt8) (k : Nat) (h : k < l.length) : l.take (k + 1) = l.take k ++ [l.getD k 0] := by
  rw [List.take_add_one, List.getElem?_eq_getElem h, Option.toList_some]
  simp [List.getD_eq_getElem?_getD, List.getElem?_eq_getElem h]
theorem valF_take (l : List UInt8) (k : Nat) (h : k < l.length) : valF 0 (l.take (k + 1)) = valF 0 (l.take k) * 10 + ((l.getD k 0).toNat - 48) := by rw [take_snoc1 l k h, valF_snoc]
theorem all_take (l : List UInt8) (k : Nat) (h : k < l.length) : (l.take (k + 1)).all isD = ((l.take k).all isD && isD (l.getD k 0)) := by rw [take_snoc1 l k h]; simp
theorem isD_bd {c : UInt8} (h : isD c = true) : 48 ≤ c.toNat ∧ c.toNat ≤ 57 := by unfold isD at h; simpa using h
theorem val1 (a : UInt8) (h : isD a = true) : valF 0 [a] ≤ 999 := by
  have h := isD_bd h
  have e : valF 0 [a] = 0 * 10 + (a.toNat - 48) := rfl
  rw [e]
  omega
theorem val2 (a b : UInt8) (h : isD a = true) (k : isD b = true) : valF 0 [a, b] ≤ 999 := by
  have h := isD_bd h
  have k := isD_bd k
  have e : valF 0 [a, b] = (0 * 10 + (a.toNat - 48)) * 10 + (b.toNat - 48) := rfl
  rw [e]
  omega
theorem val3 (a b c : UInt8) (h : isD a = true) (k : isD b = true) (m : isD c = true) : valF 0 [a, b, c] ≤ 999 := by
  have h := isD_bd h
  have k := isD_bd k
  have m := isD_bd m
  have e : valF 0 [a, b, c] = ((0 * 10 + (a.toNat - 48)) * 10 + (b.toNat - 48)) * 10 + (c.toNat - 48) := rfl
  rw [e]
  omega
theorem valF_small : ∀ (l : List UInt8), l.length ≤ 3 → l.all isD = true → valF 0 l ≤ 999
  | [], _, _ => Nat.zero_le _
  | [a], _, h => val1 a (by simpa using h)
  | [a, b], _, h => by
    simp only [List.all_cons, List.all_nil, Bool.and_true, Bool.and_eq_true] at h
    exact val2 a b h.1 h.2
  | [a, b, c], _, h => by
    simp only [List.all_cons, List.all_nil, Bool.and_true, Bool.and_eq_true] at h
    exact val3 a b c h.1 h.2.1 h.2.2
  | _ :: _ :: _ :: _ :: _, h, _ => by simp at h
theorem get_list {s : ByteArray} {L : List UInt8} (e : s.data.toList = L) (k : Nat) (h : k < s.size) : (s[k]'h).toNat = (L.getD k 0).toNat := by
  subst e
  have h' : k < s.data.toList.length := by rw [Array.length_toList]; exact h
  rw [List.getD_eq_getElem?_getD, List.getElem?_eq_getElem h']
  simp
  rfl
theorem len_list (s : ByteArray) : s.data.toList.length = s.size := Array.length_toList

end Go.Proofs.YtgkdplooocbonaaGreatDoor

/- Walks: references read at a place, the model's side. -/
namespace Go.Proofs.YtgkdplooocbonaaGreatDoor
open Go.RowKit
set_option linter.unusedVariables false

/-- The byte of a reference without its ends. -/
def namedOf (w : List UInt8) : Option Nat := if w = [108, 116] then some 60 else if w = [103, 116] then some 62 else if w = [97, 109, 112] then some 38 else if w = [113, 117, 111, 116] then some 34 else if 1 < w.length ∧ (w.getD 0 0).toNat = 35 then numOf (w.drop 1) else none
/-- Where the first semicolon is among so many. -/
def semi : List UInt8 → Nat → Option Nat
  | _, 0 => none
  | [], _ + 1 => none
  | c :: r, n + 1 => if c.toNat = 59 then some 0 else (semi r n).map (· + 1)
/-- The byte of the reference that a text begins with, and its size; size 0: there is none. -/
def refOf : List UInt8 → Nat × Nat
  | [] => (0, 0)
  | c :: R => if c.toNat = 38 then (match semi R 5 with
      | some m => (match namedOf (R.take m) with
        | some b => (b, m + 2)
        | none => (0, 0))
      | none => (0, 0)) else (0, 0)

theorem semi_some : ∀ (R : List UInt8) (n m : Nat), m < n → m < R.length → (∀ j, j < m → ¬ (R.getD j 0).toNat = 59) → (R.getD m 0).toNat = 59 → semi R n = some m
  | _, 0, _, h, _, _, _ => absurd h (Nat.not_lt_zero _)
  | [], _ + 1, _, _, h, _, _ => absurd h (Nat.not_lt_zero _)
  | c :: r, n + 1, 0, _, _, _, h => by
    have h : c.toNat = 59 := h
    simp only [semi, h, if_true]
  | c :: r, n + 1, m + 1, h1, h2, hj, h => by
    have h0 : ¬ c.toNat = 59 := hj 0 (Nat.succ_pos _)
    have ih := semi_some r n m (Nat.lt_of_succ_lt_succ h1) (Nat.lt_of_succ_lt_succ h2) (fun j hjm => hj (j + 1) (Nat.succ_lt_succ hjm)) h
    simp only [semi, if_neg h0, ih, Option.map_some]
theorem semi_none : ∀ (R : List UInt8) (n : Nat), (∀ j, j < n → j < R.length → ¬ (R.getD j 0).toNat = 59) → semi R n = none
  | [], 0, _ => rfl
  | _ :: _, 0, _ => rfl
  | [], _ + 1, _ => rfl
  | c :: r, n + 1, hj => by
    have h0 : ¬ c.toNat = 59 := hj 0 (Nat.succ_pos _) (Nat.succ_pos _)
    have ih := semi_none r n (fun j h1 h2 => hj (j + 1) (Nat.succ_lt_succ h1) (Nat.succ_lt_succ h2))
    simp only [semi, if_neg h0, ih, Option.map_none]
theorem drop_cons (L : List UInt8) (k : Nat) (h : k < L.length) : L.drop k = L.getD k 0 :: L.drop (k + 1) := by
  rw [List.drop_eq_getElem_cons h, List.getD_eq_getElem?_getD, List.getElem?_eq_getElem h]; rfl
theorem getD_drop (L : List UInt8) (k j : Nat) : (L.drop k).getD j 0 = L.getD (k + j) 0 := by
  rw [List.getD_eq_getElem?_getD, List.getD_eq_getElem?_getD, List.getElem?_drop]
theorem ext_list (s : ByteArray) (a b : Nat) : (s.extract a b).data.toList = (s.data.toList.drop a).take (b - a) := by
  rw [ByteArray.data_extract]
  simp
theorem beq_list (s : ByteArray) (l : List UInt8) : (s.toList == l) = decide (s.data.toList = l) := by
  rw [ByteArray.toList_eq]
  by_cases h : s.data.toList = l <;> simp [h]

theorem refOf_not (L : List UInt8) (k : Nat) (h : k < L.length) (hc : ¬ (L.getD k 0).toNat = 38) : refOf (L.drop k) = (0, 0) := by
  rw [drop_cons L k h, refOf, if_neg hc]
theorem refOf_none (L : List UInt8) (k : Nat) (h : k < L.length) (hn : ∀ j, j < 5 → k + 1 + j < L.length → ¬ (L.getD (k + 1 + j) 0).toNat = 59) : refOf (L.drop k) = (0, 0) := by
  rw [drop_cons L k h, refOf]
  rw [semi_none _ 5 (fun j h1 h2 => by rw [List.length_drop] at h2; rw [getD_drop]; exact hn j h1 (by omega))]
  split <;> rfl
theorem refOf_some (L : List UInt8) (k m : Nat) (h : k + 1 + m < L.length) (hm : m < 5) (hc : (L.getD k 0).toNat = 38) (hj : ∀ j, j < m → ¬ (L.getD (k + 1 + j) 0).toNat = 59) (he : (L.getD (k + 1 + m) 0).toNat = 59) :
    refOf (L.drop k) = (match namedOf ((L.drop (k + 1)).take m) with
        | some b => (b, m + 2)
        | none => (0, 0)) := by
  rw [drop_cons L k (by omega), refOf, if_pos hc]
  rw [semi_some _ 5 m hm (by rw [List.length_drop]; omega) (fun j h1 => by rw [getD_drop]; exact hj j h1) (by rw [getD_drop]; exact he)]

end Go.Proofs.YtgkdplooocbonaaGreatDoor
