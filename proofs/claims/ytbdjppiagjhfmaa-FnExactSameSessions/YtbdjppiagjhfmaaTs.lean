/- The model's SameTokens: the loop. -/
import Derived.Test.YtbdjppiagjhfmaaTr
namespace Go.Proofs.Ytbdjppiagjhfmaa
open Go.RowKit
set_option linter.unusedVariables false
set_option linter.unusedSimpArgs false

set_option maxHeartbeats 3200000 in
theorem specSame_any (a b : Option Addr) (c d : Nat) (l m : List TK) (w : World) (ha : TsAt w a l) (hb : TsAt w b m) (hl : (l.length : Int) + tssz l ≤ 1048576) (hm : (m.length : Int) + tssz m ≤ 1048576) :
    Calls Try.prog 75 #[.slice a l.length c, .slice b m.length d] w fun e w' => e = .returned (.bool (sameTs l m)) ∧ Below w.heap.size w w' := by
  have HA := Hid.mk' ha
  have HB := Hid.mk' hb
  clear ha hb
  by_cases hq : l.length = m.length
  rotate_left
  · have E : Hid (sameTs l m = false) := Hid.mk' (by unfold sameTs; rw [decide_eq_false hq]; rfl)
    have hq' : ¬ (l.length : Int) = m.length := by omega
    go_enter Try.func75, Try.ntmps75
    go_wp2
    go_ret
    exact ⟨by rw [E.out]; rfl, Below.refl _ _⟩
  have Q := Hid.mk' hq
  have hq' : (l.length : Int) = m.length := by omega
  clear hq
  go_enter Try.func75, Try.ntmps75
  go_wp2
  go_loopw [5] (fun i wr => ∃ k : Nat, k ≤ l.length ∧ i = .int .i64 k ∧ (∀ j, j < k → teq (tkK l j) (tkK m j) = true) ∧ Below w.heap.size w wr) (fun i _ => l.length - (intOf i).toNat)
  case atStart => exact ⟨0, Nat.zero_le _, rfl, fun j h => absurd h (Nat.not_lt_zero _), Below.refl _ _⟩
  case round =>
    obtain ⟨k, hk, rfl, hn, hbl⟩ := hrel
    have HN := Hid.mk' hn
    have R2 := Hid.mk' hbl
    by_cases hlt : k < l.length
    · have ci : (k : Int) < (l.length : Int) := by omega
      have ci2 : (k : Int) < (m.length : Int) := by omega
      rcases HA.out.below hbl with ha | ⟨b1, o1, rfl, s1, hc1⟩
      · exact absurd hlt (by rw [ha]; exact Nat.not_lt_zero _)
      rcases HB.out.below hbl with hb | ⟨b2, o2, rfl, s2, hc2⟩
      · exact absurd hlt (by rw [Q.out, hb]; exact Nat.not_lt_zero _)
      obtain ⟨x0, x1, x2, ⟨p1, d1, x3, x5⟩, x4⟩ := hc1 k hlt
      obtain ⟨y0, y1, y2, ⟨p2_, d2, y3, y5⟩, y4⟩ := hc2 k (by omega)
      have st := tssz_take l k hlt
      have sl := tssz_le l (k + 1)
      have st2 := tssz_take m k (by omega)
      have sl2 := tssz_le m (k + 1)
      unfold tsz at st st2
      have D := (Below.refl wr.heap.size wr).drew
      have KE := Hid.mk' (l4Same_any (tkK l k) (tkK m k) b1 (o1 + k * 5) b2 (o2 + k * 5) p1 p2_ d1 d2 wr.drew x0 x1 x2 x3 x4 (x5.below D) y0 y1 y2 y3 y4 (y5.below D) (by omega) (by omega))
      clear hbl hc1 hc2 hn x5 y5 st sl st2 sl2 D x0 x1 x2 x3 x4 y0 y1 y2 y3 y4
      cases e1 : teq (tkK l k) (tkK m k) with
      | false =>
        rw [e1] at KE
        have E : Hid (sameTs l m = false) := Hid.mk' (by unfold sameTs; rw [decide_eq_true Q.out, allK_false hlt e1]; rfl)
        go_wp2
        go_region_held3 (fun w' => True) (simp [*])
          ((go_at_call 95; refine KE.out.mono ?_; rintro e w1 ⟨rfl, hb1⟩; replace hb1 := undrew hb1))
        go_wp2
        go_ret
        exact ⟨by rw [E.out]; rfl, R2.out.trans (hb1.mono R2.out.size)⟩
      | true =>
        rw [e1] at KE
        go_wp2
        go_region_held3 (fun w' => True) (simp [*])
          ((go_at_call 95; refine KE.out.mono ?_; rintro e w1 ⟨rfl, hb1⟩; replace hb1 := undrew hb1))
        go_wp2
        go_roundw
        case rel => exact ⟨k + 1, by omega, by go_num, fun j hj => by
          by_cases h : j = k
          · subst h; exact e1
          · exact HN.out j (by omega), R2.out.trans (hb1.mono R2.out.size)⟩
        case measure => simp [intOf]; omega
    · have ci : ¬ (k : Int) < (l.length : Int) := by omega
      have e : k = l.length := by omega
      subst e
      have E : Hid (sameTs l m = true) := Hid.mk' (by unfold sameTs; rw [decide_eq_true Q.out, allK_true HN.out]; rfl)
      go_wp2
      go_ret
      exact ⟨by rw [E.out]; rfl, R2.out⟩

end Go.Proofs.Ytbdjppiagjhfmaa
