/- The model's side of a token's fault. -/
import Derived.Test.YtbdjppiagjhfmaaV5
import Derived.Test.YtbdjppiagjhfmaaNa
namespace Go.Proofs.Ytbdjppiagjhfmaa
open Go.RowKit
set_option linter.unusedVariables false

/-- Where an attribute of that name stands; -1: nowhere. -/
def posFrom : List AT → ByteArray → Nat → Int
  | [], _, _ => -1
  | x :: r, s, n => if (x.nm.toList == s.toList) = true then (n : Int) else posFrom r s (n + 1)
def posK (l : List AT) (s : ByteArray) : Int := posFrom l s 0

theorem posFrom_found : ∀ (l : List AT) (s : ByteArray) (n k : Nat), k < l.length → (∀ j, j < k → ((atK l j).nm.toList == s.toList) = false) → ((atK l k).nm.toList == s.toList) = true → posFrom l s n = ((n + k : Nat) : Int)
  | [], _, _, _, h, _, _ => absurd h (Nat.not_lt_zero _)
  | x :: r, s, n, 0, _, _, e => by
    have : (x.nm.toList == s.toList) = true := e
    unfold posFrom
    rw [if_pos this, Nat.add_zero]
  | x :: r, s, n, k + 1, h, hn, e => by
    have h0 : (x.nm.toList == s.toList) = false := hn 0 (by omega)
    have ih := posFrom_found r s (n + 1) k (by simpa using h) (fun j hj => hn (j + 1) (by omega)) e
    unfold posFrom
    rw [if_neg (by rw [h0]; exact Bool.false_ne_true), ih]
    omega

theorem posFrom_none : ∀ (l : List AT) (s : ByteArray) (n : Nat), (∀ j, j < l.length → ((atK l j).nm.toList == s.toList) = false) → posFrom l s n = -1
  | [], _, _, _ => rfl
  | x :: r, s, n, hn => by
    have h0 : (x.nm.toList == s.toList) = false := hn 0 (by simp)
    unfold posFrom
    rw [if_neg (by rw [h0]; exact Bool.false_ne_true)]
    exact posFrom_none r s (n + 1) (fun j hj => hn (j + 1) (by simp; omega))

theorem atK_take {l : List AT} {j k : Nat} (h : j < k) (hk : k ≤ l.length) : atK (l.take k) j = atK l j := by
  unfold atK
  rw [List.getD_eq_getElem?_getD, List.getD_eq_getElem?_getD, List.getElem?_take_of_lt h]

theorem AAt.take {w : World} {a : Option Addr} {l : List AT} (h : AAt w a l) (k : Nat) (hk : k ≤ l.length) : AAt w a (l.take k) := by
  rcases h with h | ⟨b, o, e, hs, hc⟩
  · left; rw [h]; simp
  · refine .inr ⟨b, o, e, hs, fun j hj => ?_⟩
    rw [List.length_take] at hj
    rw [atK_take (by omega) hk]
    exact hc j (by omega)

/-- The code of attributes: those ahead, and those to come. -/
def afR : List AT → List AT → Int
  | _, [] => 0
  | seen, x :: r => if nmB x.nm = true then (if 0 ≤ posK seen x.nm then 1 else afR (seen ++ [x]) r) else 5
def afault (l : List AT) : Int := afR [] l

theorem afR_step {l : List AT} {k : Nat} (hk : k < l.length) : afR (l.take k) (l.drop k) = if nmB (atK l k).nm = true then (if 0 ≤ posK (l.take k) (atK l k).nm then 1 else afR (l.take (k + 1)) (l.drop (k + 1))) else 5 := by
  have e1 : l.drop k = atK l k :: l.drop (k + 1) := by
    rw [List.drop_eq_getElem_cons hk]
    unfold atK
    rw [List.getD_eq_getElem?_getD, List.getElem?_eq_getElem hk]; rfl
  have e2 : l.take (k + 1) = l.take k ++ [atK l k] := by
    rw [List.take_succ_eq_append_getElem hk]
    unfold atK
    rw [List.getD_eq_getElem?_getD, List.getElem?_eq_getElem hk]; rfl
  rw [e1, e2]
  rfl

end Go.Proofs.Ytbdjppiagjhfmaa
