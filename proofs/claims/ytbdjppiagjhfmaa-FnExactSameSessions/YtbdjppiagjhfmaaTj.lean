/- An attribute of a token, both sides. -/
import Derived.Test.YtbdjppiagjhfmaaV4
import Derived.Test.YtbdjppiagjhfmaaWk
namespace Go.Proofs.Ytbdjppiagjhfmaa
open Go.RowKit
set_option linter.unusedVariables false
set_option linter.unusedSimpArgs false

/-- The code and the value of an attribute that is asked for. -/
def aoCode (t : TK) (s : ByteArray) : Int := if tfault t = 0 then (if 0 ≤ posK t.at_ s then 0 else 4) else tfault t
def aoVal (t : TK) (s : ByteArray) : List Int := if tfault t = 0 then (if 0 ≤ posK t.at_ s then (atK t.at_ (posK t.at_ s).toNat).vl else []) else []

theorem posFrom_lt : ∀ (l : List AT) (s : ByteArray) (n : Nat), posFrom l s n = -1 ∨ ∃ k : Nat, k < l.length ∧ posFrom l s n = ((n + k : Nat) : Int)
  | [], _, _ => .inl rfl
  | x :: r, s, n => by
    unfold posFrom
    by_cases h : (x.nm.toList == s.toList) = true
    · rw [if_pos h]; exact .inr ⟨0, by simp, by simp⟩
    · rw [if_neg h]
      rcases posFrom_lt r s (n + 1) with h' | ⟨k, h1, h2⟩
      · exact .inl h'
      · exact .inr ⟨k + 1, by simp; omega, by rw [h2]; congr 1; omega⟩
theorem posK_lt (l : List AT) (s : ByteArray) : posK l s = -1 ∨ ∃ k : Nat, k < l.length ∧ posK l s = (k : Int) := by
  rcases posFrom_lt l s 0 with h | ⟨k, h1, h2⟩
  · exact .inl h
  · exact .inr ⟨k, h1, by unfold posK; rw [h2, Nat.zero_add]⟩

end Go.Proofs.Ytbdjppiagjhfmaa
