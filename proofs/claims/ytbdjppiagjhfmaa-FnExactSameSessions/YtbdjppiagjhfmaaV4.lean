/- The program's side: a token's form. -/
import Derived.Test.YtbdjppiagjhfmaaTf
import Derived.Maps.OwnSet
import Derived.Maps.AppendAt
import Derived.SliceStrings
namespace Go.Proofs.Ytbdjppiagjhfmaa
open Go.RowKit
set_option linter.unusedVariables false

end Go.Proofs.Ytbdjppiagjhfmaa

/- The program's side: attributes that stand twice are found by a map. -/
namespace Go.Proofs.Ytbdjppiagjhfmaa
open Go.RowKit Go.Maps
set_option linter.unusedVariables false

theorem toList_loop (s : ByteArray) : ∀ (n i : Nat) (r : List UInt8), s.size - i = n → ByteArray.toList.loop s i r = r.reverse ++ s.data.toList.drop i := by
  intro n
  induction n with
  | zero =>
    intro i r h
    rw [ByteArray.toList.loop, if_neg (by omega)]
    have h2 : s.data.toList.length ≤ i := by
      have : s.data.toList.length = s.size := by simp
      omega
    rw [List.drop_eq_nil_of_le h2, List.append_nil]
  | succ n ih =>
    intro i r h
    have hi : i < s.size := by omega
    rw [ByteArray.toList.loop, if_pos hi, ih (i + 1) _ (by omega)]
    have h2 : i < s.data.toList.length := by
      have : s.data.toList.length = s.size := by simp
      omega
    rw [List.drop_eq_getElem_cons h2, List.reverse_cons, List.append_assoc]
    congr 1
    show [s.get! i] ++ _ = _
    have e : s.get! i = s.data.toList[i] := by
      show s.data[i]! = _
      rw [getElem!_pos s.data i (by simpa using h2)]
      simp
    rw [e]; rfl
theorem toList_data (s : ByteArray) : s.toList = s.data.toList := by
  unfold ByteArray.toList
  rw [toList_loop s _ 0 [] rfl]
  simp

/-- The set of the names of the first k. -/
def keyL (x : AT) : Lit := .string x.nm.data.toList
def Sd (l : List AT) (k : Nat) : DataW Unit := setOf (.agg []) ((l.take k).map keyL)

theorem pos_any (s : ByteArray) : ∀ (l : List AT) (n : Nat), decide (0 ≤ posFrom l s n) = l.any (fun x => x.nm.toList == s.toList)
  | [], n => by simp [posFrom]
  | x :: r, n => by
    unfold posFrom
    rw [List.any_cons, ← pos_any s r (n + 1)]
    cases h : (x.nm.toList == s.toList) with
    | true => simp
    | false => simp

theorem has_Sd (l : List AT) (k : Nat) (s : ByteArray) : Maps.has (Sd l k) (.string s.data.toList) = decide (0 ≤ posK (l.take k) s) := by
  unfold Sd posK
  rw [has_setOf _ _ _ (fun y hy => by obtain ⟨_, _, rfl⟩ := List.mem_map.1 hy; trivial), List.any_map, pos_any]
  congr 1
  funext x
  show (x.nm.data.toList == s.data.toList) = (x.nm.toList == s.toList)
  rw [toList_data, toList_data]

theorem Sd_step {l : List AT} {k : Nat} (hk : k < l.length) : Sd l (k + 1) = (Sd l k).put (.string (atK l k).nm.data.toList) (.agg []) := by
  have e2 : l.take (k + 1) = l.take k ++ [atK l k] := by
    rw [List.take_succ_eq_append_getElem hk]
    unfold atK
    rw [List.getD_eq_getElem?_getD, List.getElem?_eq_getElem hk]; rfl
  unfold Sd
  rw [e2, List.map_append]
  exact setOf_snoc _ _ _

end Go.Proofs.Ytbdjppiagjhfmaa

/- The program's TokenFault, and the law on it. -/
namespace Go.Proofs.Ytbdjppiagjhfmaa
open Go.RowKit
set_option linter.unusedVariables false
set_option linter.unusedSimpArgs false

end Go.Proofs.Ytbdjppiagjhfmaa
