/- An attribute of a token, both sides. -/
import Derived.Test.YtgkdplooocbonaaGreatDoorXV4
import Derived.Test.YtgkdplooocbonaaGreatDoorXV5
namespace Go.Proofs.YtgkdplooocbonaaGreatDoor
open Go.RowKit
set_option linter.unusedVariables false
set_option linter.unusedSimpArgs false

set_option maxHeartbeats 1600000 in
theorem placeOf_any (a : Option Addr) (c : Nat) (l : List AT) (s : ByteArray) (w : World) (ha : AAt w a l) (hl : (l.length : Int) ≤ 1048576) :
    Calls Tryz.prog 71 #[.slice a l.length c, .string s] w fun e w' => e = .returned (.int .i64 (posK l s)) ∧ Below w.heap.size w w' := by
  have HA := Hid.mk' ha
  clear ha
  go_enter Tryz.func71, Tryz.ntmps71
  go_wp2
  go_loopw [9] (fun i wr => ∃ k : Nat, k ≤ l.length ∧ i = .int .i64 k ∧ (∀ j, j < k → ((atK l j).nm.toList == s.toList) = false) ∧ Below w.heap.size w wr) (fun i _ => l.length - (intOf i).toNat)
  case atStart => exact ⟨0, Nat.zero_le _, rfl, fun j h => absurd h (Nat.not_lt_zero _), Below.refl _ _⟩
  case round =>
    obtain ⟨k, hk, rfl, hn, hbl⟩ := hrel
    have HN := Hid.mk' hn
    have HB := Hid.mk' hbl
    by_cases hlt : k < l.length
    · have ci : (k : Int) < (l.length : Int) := by omega
      rcases HA.out.below hbl with ha | ⟨b, o, rfl, hbs, hc⟩
      · exact absurd hlt (by rw [ha]; exact Nat.not_lt_zero _)
      obtain ⟨h1, p, d, h2, _⟩ := hc k hlt
      clear hc hn hbl
      cases e : ((atK l k).nm.toList == s.toList) with
      | true =>
        go_wp2
        go_ret
        refine ⟨?_, HB.out.alloc HB.out.size _⟩
        unfold posK
        rw [posFrom_found l s 0 k hlt HN.out e, Nat.zero_add]
        rfl
      | false =>
        go_wp2
        go_roundw
        case rel => exact ⟨k + 1, by omega, by go_num, fun j hj => by
          by_cases h : j = k
          · subst h; exact e
          · exact HN.out j (by omega), HB.out.alloc HB.out.size _⟩
        case measure => simp [intOf]; omega
    · have ci : ¬ (k : Int) < (l.length : Int) := by omega
      have e : k = l.length := by omega
      subst e
      go_wp2
      go_ret
      refine ⟨?_, HB.out⟩
      unfold posK
      rw [posFrom_none l s 0 HN.out]
      rfl

/-- The code and the value of an attribute that is asked for. -/
def aoCode (t : TK) (s : ByteArray) : Int := if tfault t = 0 then (if 0 ≤ posK t.at_ s then 0 else 4) else tfault t
def aoVal (t : TK) (s : ByteArray) : List Int := if tfault t = 0 then (if 0 ≤ posK t.at_ s then (atK t.at_ (posK t.at_ s).toNat).vl else []) else []

theorem posFrom_lt : ∀ (l : List AT) (s : ByteArray) (n : Nat), posFrom l s n = -1 ∨ ∃ k : Nat, k < l.length ∧ posFrom l s n = ((n + k : Nat) : Int)
  | [], _, _ => .inl rfl
  | x :: r, s, n => by
    unfold posFrom
    by_cases h : (x.nm.toList == s.toList) = true
    · rw [if_pos h]; exact .inr ⟨0, by simp, by simp⟩
    · rw [if_neg h]
      rcases posFrom_lt r s (n + 1) with h' | ⟨k, h1, h2⟩
      · exact .inl h'
      · exact .inr ⟨k + 1, by simp; omega, by rw [h2]; congr 1; omega⟩
theorem posK_lt (l : List AT) (s : ByteArray) : posK l s = -1 ∨ ∃ k : Nat, k < l.length ∧ posK l s = (k : Int) := by
  rcases posFrom_lt l s 0 with h | ⟨k, h1, h2⟩
  · exact .inl h
  · exact .inr ⟨k, h1, by unfold posK; rw [h2, Nat.zero_add]⟩

end Go.Proofs.YtgkdplooocbonaaGreatDoor
