/- The program's SameTokens: attributes. -/
import Derived.Test.YtbdjppiagjhfmaaTs
namespace Go.Proofs.Ytbdjppiagjhfmaa
open Go.RowKit
set_option linter.unusedVariables false
set_option linter.unusedSimpArgs false

theorem bytesEqual_any (a b : Option Addr) (c d : Nat) (l m : List Int) (w : World) (h1 : BAt w a l) (h2 : BAt w b m) :
    Calls Try.prog 81 #[.slice a l.length c, .slice b m.length d] w fun e w' => e = .returned (.bool ((strI l).toList == (strI m).toList)) ∧ w' = w := by
  have k1 := conv_bytesT c h1
  have k2 := conv_bytesT d h2
  clear h1 h2
  go_enter Try.func81, Try.ntmps81
  go_wp2
  go_ret
  exact ⟨rfl, rfl⟩

set_option maxHeartbeats 800000 in
theorem sameAttr_any (x y : AT) (a b : Option Addr) (c d : Nat) (w : World) (ha : BAt w a x.vl) (hb : BAt w b y.vl) :
    Calls Try.prog 117 #[.agg #[.string x.nm, .slice a x.vl.length c], .agg #[.string y.nm, .slice b y.vl.length d]] w fun e w' => e = .returned (.bool (aeq x y)) ∧ Below w.heap.size w w' := by
  have B0 := ((Below.refl w.heap.size w).alloc (Nat.le_refl _) (.cells #[.string x.nm, .slice a x.vl.length c] 159)).alloc (by simp) (.cells #[.string y.nm, .slice b y.vl.length d] 159)
  have KB := Hid.mk' (bytesEqual_any a b c d x.vl y.vl _ (ha.below B0) (hb.below B0))
  have HB := Hid.mk' B0
  clear ha hb B0
  cases e1 : (x.nm.toList == y.nm.toList) with
  | false =>
    have E : Hid (aeq x y = false) := Hid.mk' (by unfold aeq; rw [e1]; rfl)
    go_enter Try.func117, Try.ntmps117
    go_wp2_with fail
    go_ret
    exact ⟨by rw [E.out]; rfl, HB.out⟩
  | true =>
    have E : Hid (aeq x y = ((strI x.vl).toList == (strI y.vl).toList)) := Hid.mk' (by unfold aeq; rw [e1]; rfl)
    go_enter Try.func117, Try.ntmps117
    go_wp2_with fail
    refine KB.out.mono ?_
    rintro e w1 ⟨rfl, rfl⟩
    go_wp2
    go_ret
    exact ⟨by rw [E.out]; rfl, HB.out⟩

set_option maxHeartbeats 3200000 in
theorem equalAttrs_any (a b : Option Addr) (c d : Nat) (l m : List AT) (w : World) (ha : AAt w a l) (hb : AAt w b m) (hl : (l.length : Int) ≤ 1048576) (hm : (m.length : Int) ≤ 1048576) :
    Calls Try.prog 116 #[.slice a l.length c, .slice b m.length d, .func (.func 117) #[] #[]] w fun e w' => e = .returned (.bool (sameAs l m)) ∧ Below w.heap.size w w' := by
  have HA := Hid.mk' ha
  have HB := Hid.mk' hb
  clear ha hb
  by_cases hq : l.length = m.length
  rotate_left
  · have E : Hid (sameAs l m = false) := Hid.mk' (by unfold sameAs; rw [decide_eq_false hq]; rfl)
    have hq' : ¬ (l.length : Int) = m.length := by omega
    go_enter Try.func116, Try.ntmps116
    go_wp2
    go_ret
    exact ⟨by rw [E.out]; rfl, Below.refl _ _⟩
  have Q := Hid.mk' hq
  have hq' : (l.length : Int) = m.length := by omega
  clear hq
  go_enter Try.func116, Try.ntmps116
  go_wp2
  go_loopw [17] (fun i wr => ∃ k : Nat, k ≤ l.length ∧ i = .int .i64 k ∧ (∀ j, j < k → aeq (atK l j) (atK m j) = true) ∧ Below w.heap.size w wr) (fun i _ => l.length - (intOf i).toNat)
  case atStart => exact ⟨0, Nat.zero_le _, rfl, fun j h => absurd h (Nat.not_lt_zero _), Below.refl _ _⟩
  case round =>
    obtain ⟨k, hk, rfl, hn, hbl⟩ := hrel
    have HN := Hid.mk' hn
    have R2 := Hid.mk' hbl
    by_cases hlt : k < l.length
    · have ci : (k : Int) < (l.length : Int) := by omega
      have ci2 : (k : Int) < (m.length : Int) := by omega
      rcases HA.out.below hbl with ha | ⟨b1, o1, rfl, s1, hc1⟩
      · exact absurd hlt (by rw [ha]; exact Nat.not_lt_zero _)
      rcases HB.out.below hbl with hb | ⟨b2, o2, rfl, s2, hc2⟩
      · exact absurd hlt (by rw [Q.out, hb]; exact Nat.not_lt_zero _)
      obtain ⟨x1, p1, d1, x2, x3⟩ := hc1 k hlt
      obtain ⟨y1, p2_, d2, y2, y3⟩ := hc2 k (by omega)
      have B0 := ((Below.refl wr.heap.size wr).alloc (Nat.le_refl _) (.cells #[.string (atK l k).nm, .slice p1 (atK l k).vl.length d1] 159)).alloc (by simp) (.cells #[.string (atK m k).nm, .slice p2_ (atK m k).vl.length d2] 159)
      have KE := Hid.mk' (sameAttr_any (atK l k) (atK m k) p1 p2_ d1 d2 _ (x3.below B0) (y3.below B0))
      have R3 := Hid.mk' (R2.out.trans (B0.mono R2.out.size))
      clear hbl hc1 hc2 hn x3 y3 B0
      cases e1 : aeq (atK l k) (atK m k) with
      | false =>
        rw [e1] at KE
        have E : Hid (sameAs l m = false) := Hid.mk' (by unfold sameAs; rw [decide_eq_true Q.out, allK_false hlt e1]; rfl)
        go_wp2_with fail
        refine KE.out.mono ?_
        rintro e w1 ⟨rfl, hb1⟩
        have R4 := Hid.mk' (R3.out.trans (hb1.mono R3.out.size))
        clear hb1 KE
        go_wp2
        go_ret
        exact ⟨by rw [E.out]; rfl, R4.out⟩
      | true =>
        rw [e1] at KE
        go_wp2_with fail
        refine KE.out.mono ?_
        rintro e w1 ⟨rfl, hb1⟩
        have R4 := Hid.mk' (R3.out.trans (hb1.mono R3.out.size))
        clear hb1 KE
        go_wp2
        go_roundw
        case rel => exact ⟨k + 1, by omega, by go_num, fun j hj => by
          by_cases h : j = k
          · subst h; exact e1
          · exact HN.out j (by omega), R4.out⟩
        case measure => simp [intOf]; omega
    · have ci : ¬ (k : Int) < (l.length : Int) := by omega
      have e : k = l.length := by omega
      subst e
      have E : Hid (sameAs l m = true) := Hid.mk' (by unfold sameAs; rw [decide_eq_true Q.out, allK_true HN.out]; rfl)
      go_wp2
      go_ret
      exact ⟨by rw [E.out]; rfl, R2.out⟩

end Go.Proofs.Ytbdjppiagjhfmaa
