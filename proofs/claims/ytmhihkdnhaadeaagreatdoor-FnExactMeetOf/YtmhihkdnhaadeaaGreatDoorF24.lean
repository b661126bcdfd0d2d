/- The program's SameTokens: attributes. -/
import Derived.Test.YtmhihkdnhaadeaaGreatDoorF23
set_option linter.unusedVariables false
set_option linter.unusedSimpArgs false
namespace Go.Proofs.YtmhihkdnhaadeaaGreatDoor
open Go.RowKit

theorem bytesEqual_any (a b : Option Addr) (c d : Nat) (l m : List Int) (w : World) (h1 : BAt w a l) (h2 : BAt w b m) :
    Calls Tryz.prog 93 #[.slice a l.length c, .slice b m.length d] w fun e w' => e = .returned (.bool ((strI l).toList == (strI m).toList)) ∧ w' = w := by
  have k1 := conv_bytesT c h1
  have k2 := conv_bytesT d h2
  clear h1 h2
  go_enter Tryz.func93, Tryz.ntmps93
  go_wp2
  go_ret
  exact ⟨rfl, rfl⟩

set_option maxHeartbeats 800000 in
theorem sameAttr_any (x y : AT) (a b : Option Addr) (c d : Nat) (w : World) (ha : BAt w a x.vl) (hb : BAt w b y.vl) :
    Calls Tryz.prog 120 #[.agg #[.string x.nm, .slice a x.vl.length c], .agg #[.string y.nm, .slice b y.vl.length d]] w fun e w' => e = .returned (.bool (aeq x y)) ∧ Below w.heap.size w w' := by
  have B0 := ((Below.refl w.heap.size w).alloc (Nat.le_refl _) (.cells #[.string x.nm, .slice a x.vl.length c] 127)).alloc (by simp) (.cells #[.string y.nm, .slice b y.vl.length d] 127)
  have KB := Hid.mk' (bytesEqual_any a b c d x.vl y.vl _ (ha.below B0) (hb.below B0))
  have HB := Hid.mk' B0
  clear ha hb B0
  cases e1 : (x.nm.toList == y.nm.toList) with
  | false =>
    have E : Hid (aeq x y = false) := Hid.mk' (by unfold aeq; rw [e1]; rfl)
    go_enter Tryz.func120, Tryz.ntmps120
    go_wp2_with fail
    go_ret
    exact ⟨by rw [E.out]; rfl, HB.out⟩
  | true =>
    have E : Hid (aeq x y = ((strI x.vl).toList == (strI y.vl).toList)) := Hid.mk' (by unfold aeq; rw [e1]; rfl)
    go_enter Tryz.func120, Tryz.ntmps120
    go_wp2_with fail
    refine KB.out.mono ?_
    rintro e w1 ⟨rfl, rfl⟩
    go_wp2
    go_ret
    exact ⟨by rw [E.out]; rfl, HB.out⟩

set_option maxHeartbeats 3200000 in
theorem equalAttrs_any (a b : Option Addr) (c d : Nat) (l m : List AT) (w : World) (ha : AAt w a l) (hb : AAt w b m) (hl : (l.length : Int) ≤ 1048576) (hm : (m.length : Int) ≤ 1048576) :
    Calls Tryz.prog 119 #[.slice a l.length c, .slice b m.length d, .func (.func 120) #[] #[]] w fun e w' => e = .returned (.bool (sameAs l m)) ∧ Below w.heap.size w w' := by
  have HA := Hid.mk' ha
  have HB := Hid.mk' hb
  clear ha hb
  by_cases hq : l.length = m.length
  rotate_left
  · have E : Hid (sameAs l m = false) := Hid.mk' (by unfold sameAs; rw [decide_eq_false hq]; rfl)
    have hq' : ¬ (l.length : Int) = m.length := by omega
    go_enter Tryz.func119, Tryz.ntmps119
    go_wp2
    go_ret
    exact ⟨by rw [E.out]; rfl, Below.refl _ _⟩
  have Q := Hid.mk' hq
  have hq' : (l.length : Int) = m.length := by omega
  clear hq
  go_enter Tryz.func119, Tryz.ntmps119
  go_wp2
  go_loopw [17] (fun i wr => ∃ k : Nat, k ≤ l.length ∧ i = .int .i64 k ∧ (∀ j, j < k → aeq (atK l j) (atK m j) = true) ∧ Below w.heap.size w wr) (fun i _ => l.length - (intOf i).toNat)
  case atStart => exact ⟨0, Nat.zero_le _, rfl, fun j h => absurd h (Nat.not_lt_zero _), Below.refl _ _⟩
  case round =>
    obtain ⟨k, hk, rfl, hn, hbl⟩ := hrel
    have HN := Hid.mk' hn
    have R2 := Hid.mk' hbl
    by_cases hlt : k < l.length
    · have ci : (k : Int) < (l.length : Int) := by omega
      have ci2 : (k : Int) < (m.length : Int) := by omega
      rcases HA.out.below hbl with ha | ⟨b1, o1, rfl, s1, hc1⟩
      · exact absurd hlt (by rw [ha]; exact Nat.not_lt_zero _)
      rcases HB.out.below hbl with hb | ⟨b2, o2, rfl, s2, hc2⟩
      · exact absurd hlt (by rw [Q.out, hb]; exact Nat.not_lt_zero _)
      obtain ⟨x1, p1, d1, x2, x3⟩ := hc1 k hlt
      obtain ⟨y1, p2_, d2, y2, y3⟩ := hc2 k (by omega)
      have B0 := ((Below.refl wr.heap.size wr).alloc (Nat.le_refl _) (.cells #[.string (atK l k).nm, .slice p1 (atK l k).vl.length d1] 127)).alloc (by simp) (.cells #[.string (atK m k).nm, .slice p2_ (atK m k).vl.length d2] 127)
      have KE := Hid.mk' (sameAttr_any (atK l k) (atK m k) p1 p2_ d1 d2 _ (x3.below B0) (y3.below B0))
      have R3 := Hid.mk' (R2.out.trans (B0.mono R2.out.size))
      clear hbl hc1 hc2 hn x3 y3 B0
      cases e1 : aeq (atK l k) (atK m k) with
      | false =>
        rw [e1] at KE
        have E : Hid (sameAs l m = false) := Hid.mk' (by unfold sameAs; rw [decide_eq_true Q.out, allK_false hlt e1]; rfl)
        go_wp2_with fail
        refine KE.out.mono ?_
        rintro e w1 ⟨rfl, hb1⟩
        have R4 := Hid.mk' (R3.out.trans (hb1.mono R3.out.size))
        clear hb1 KE
        go_wp2
        go_ret
        exact ⟨by rw [E.out]; rfl, R4.out⟩
      | true =>
        rw [e1] at KE
        go_wp2_with fail
        refine KE.out.mono ?_
        rintro e w1 ⟨rfl, hb1⟩
        have R4 := Hid.mk' (R3.out.trans (hb1.mono R3.out.size))
        clear hb1 KE
        go_wp2
        go_roundw
        case rel => exact ⟨k + 1, by omega, by go_num, fun j hj => by
          by_cases h : j = k
          · subst h; exact e1
          · exact HN.out j (by omega), R4.out⟩
        case measure => simp [intOf]; omega
    · have ci : ¬ (k : Int) < (l.length : Int) := by omega
      have e : k = l.length := by omega
      subst e
      have E : Hid (sameAs l m = true) := Hid.mk' (by unfold sameAs; rw [decide_eq_true Q.out, allK_true HN.out]; rfl)
      go_wp2
      go_ret
      exact ⟨by rw [E.out]; rfl, R2.out⟩

end Go.Proofs.YtmhihkdnhaadeaaGreatDoor

namespace Go.Proofs.YtmhihkdnhaadeaaGreatDoor
open Go.RowKit

set_option maxHeartbeats 3200000 in
theorem sameToken_any (x y : TK) (a b : Option Addr) (c d : Nat) (w : World) (ha : AAt w a x.at_) (hb : AAt w b y.at_) (hx : (x.at_.length : Int) ≤ 1048576) (hy : (y.at_.length : Int) ≤ 1048576) :
    Calls Tryz.prog 107 #[.agg #[.int .i64 x.kd, .int .i64 x.by_, .string x.nm, .slice a x.at_.length c, .bool x.sh], .agg #[.int .i64 y.kd, .int .i64 y.by_, .string y.nm, .slice b y.at_.length d, .bool y.sh]] w fun e w' => e = .returned (.bool (teq x y)) ∧ Below w.heap.size w w' := by
  have B0 := ((Below.refl w.heap.size w).alloc (Nat.le_refl _) (.cells #[.int .i64 x.kd, .int .i64 x.by_, .string x.nm, .slice a x.at_.length c, .bool x.sh] 87)).alloc (by simp) (.cells #[.int .i64 y.kd, .int .i64 y.by_, .string y.nm, .slice b y.at_.length d, .bool y.sh] 87)
  have KA := Hid.mk' (equalAttrs_any a b c d x.at_ y.at_ _ (ha.below B0) (hb.below B0) hx hy)
  have HB := Hid.mk' B0
  clear ha hb B0
  cases e1 : (x.kd == y.kd) with
  | false =>
    have E : Hid (teq x y = false) := Hid.mk' (by unfold teq; rw [e1]; rfl)
    go_enter Tryz.func107, Tryz.ntmps107
    go_wp2_with go_big_skip
    go_ret
    exact ⟨by rw [E.out]; rfl, HB.out⟩
  | true =>
  cases e2 : (x.by_ == y.by_) with
  | false =>
    have E : Hid (teq x y = false) := Hid.mk' (by unfold teq; rw [e2]; simp)
    go_enter Tryz.func107, Tryz.ntmps107
    go_wp2_with go_big_skip
    go_ret
    exact ⟨by rw [E.out]; rfl, HB.out⟩
  | true =>
  cases e3 : (x.nm.toList == y.nm.toList) with
  | false =>
    have E : Hid (teq x y = false) := Hid.mk' (by unfold teq; rw [e3]; simp)
    go_enter Tryz.func107, Tryz.ntmps107
    go_wp2_with go_big_skip
    go_ret
    exact ⟨by rw [E.out]; rfl, HB.out⟩
  | true =>
  cases e4 : (x.sh == y.sh) with
  | false =>
    have E : Hid (teq x y = false) := Hid.mk' (by unfold teq; rw [e4]; simp)
    go_enter Tryz.func107, Tryz.ntmps107
    go_wp2_with go_big_skip
    go_ret
    exact ⟨by rw [E.out]; rfl, HB.out⟩
  | true =>
    have E : Hid (teq x y = sameAs x.at_ y.at_) := Hid.mk' (by unfold teq; rw [e1, e2, e3, e4]; simp)
    go_enter Tryz.func107, Tryz.ntmps107
    go_wp2_with (first | go_big_skip | (go_at_call 119; refine KA.out.mono ?_; rintro e w1 ⟨rfl, hb⟩; have HB := Hid.mk' (HB.out.trans (hb.mono HB.out.size)); clear hb))
    go_ret
    exact ⟨by rw [E.out]; rfl, HB.out⟩

end Go.Proofs.YtmhihkdnhaadeaaGreatDoor

namespace Go.Proofs.YtmhihkdnhaadeaaGreatDoor
open Go.RowKit

set_option maxHeartbeats 3200000 in
theorem equalTokens_any (a b : Option Addr) (c d : Nat) (l m : List TK) (w : World) (ha : TsAt w a l) (hb : TsAt w b m) (hl : (l.length : Int) + tssz l ≤ 1048576) (hm : (m.length : Int) + tssz m ≤ 1048576) :
    Calls Tryz.prog 106 #[.slice a l.length c, .slice b m.length d, .func (.func 107) #[] #[]] w fun e w' => e = .returned (.bool (sameTs l m)) ∧ Below w.heap.size w w' := by
  have HA := Hid.mk' ha
  have HB := Hid.mk' hb
  clear ha hb
  by_cases hq : l.length = m.length
  rotate_left
  · have E : Hid (sameTs l m = false) := Hid.mk' (by unfold sameTs; rw [decide_eq_false hq]; rfl)
    have hq' : ¬ (l.length : Int) = m.length := by omega
    go_enter Tryz.func106, Tryz.ntmps106
    go_wp2
    go_ret
    exact ⟨by rw [E.out]; rfl, Below.refl _ _⟩
  have Q := Hid.mk' hq
  have hq' : (l.length : Int) = m.length := by omega
  clear hq
  go_enter Tryz.func106, Tryz.ntmps106
  go_wp2
  go_loopw [17] (fun i wr => ∃ k : Nat, k ≤ l.length ∧ i = .int .i64 k ∧ (∀ j, j < k → teq (tkK l j) (tkK m j) = true) ∧ Below w.heap.size w wr) (fun i _ => l.length - (intOf i).toNat)
  case atStart => exact ⟨0, Nat.zero_le _, rfl, fun j h => absurd h (Nat.not_lt_zero _), Below.refl _ _⟩
  case round =>
    obtain ⟨k, hk, rfl, hn, hbl⟩ := hrel
    have HN := Hid.mk' hn
    have R2 := Hid.mk' hbl
    by_cases hlt : k < l.length
    · have ci : (k : Int) < (l.length : Int) := by omega
      have ci2 : (k : Int) < (m.length : Int) := by omega
      rcases HA.out.below hbl with ha | ⟨b1, o1, rfl, s1, hc1⟩
      · exact absurd hlt (by rw [ha]; exact Nat.not_lt_zero _)
      rcases HB.out.below hbl with hb | ⟨b2, o2, rfl, s2, hc2⟩
      · exact absurd hlt (by rw [Q.out, hb]; exact Nat.not_lt_zero _)
      obtain ⟨x0, x1, x2, ⟨p1, d1, x4, x3⟩, x5⟩ := hc1 k hlt
      obtain ⟨y0, y1, y2, ⟨p2_, d2, y4, y3⟩, y5⟩ := hc2 k (by omega)
      have st := tssz_take l k hlt
      have sl := tssz_le l (k + 1)
      have st2 := tssz_take m k (by omega)
      have sl2 := tssz_le m (k + 1)
      unfold tsz at st st2
      have B0 := ((Below.refl wr.heap.size wr).alloc (Nat.le_refl _) (.cells #[.int .i64 (tkK l k).kd, .int .i64 (tkK l k).by_, .string (tkK l k).nm, .slice p1 (tkK l k).at_.length d1, .bool (tkK l k).sh] 87)).alloc (by simp) (.cells #[.int .i64 (tkK m k).kd, .int .i64 (tkK m k).by_, .string (tkK m k).nm, .slice p2_ (tkK m k).at_.length d2, .bool (tkK m k).sh] 87)
      have KE := Hid.mk' (sameToken_any (tkK l k) (tkK m k) p1 p2_ d1 d2 _ (x3.below B0) (y3.below B0) (by omega) (by omega))
      have R3 := Hid.mk' (R2.out.trans (B0.mono R2.out.size))
      clear hbl hc1 hc2 hn x3 y3 B0 st sl st2 sl2
      cases e1 : teq (tkK l k) (tkK m k) with
      | false =>
        rw [e1] at KE
        have E : Hid (sameTs l m = false) := Hid.mk' (by unfold sameTs; rw [decide_eq_true Q.out, allK_false hlt e1]; rfl)
        go_wp2_with fail
        refine KE.out.mono ?_
        rintro e w1 ⟨rfl, hb1⟩
        have R4 := Hid.mk' (R3.out.trans (hb1.mono R3.out.size))
        clear hb1 KE
        go_wp2
        go_ret
        exact ⟨by rw [E.out]; rfl, R4.out⟩
      | true =>
        rw [e1] at KE
        go_wp2_with fail
        refine KE.out.mono ?_
        rintro e w1 ⟨rfl, hb1⟩
        have R4 := Hid.mk' (R3.out.trans (hb1.mono R3.out.size))
        clear hb1 KE
        go_wp2
        go_roundw
        case rel => exact ⟨k + 1, by omega, by go_num, fun j hj => by
          by_cases h : j = k
          · subst h; exact e1
          · exact HN.out j (by omega), R4.out⟩
        case measure => simp [intOf]; omega
    · have ci : ¬ (k : Int) < (l.length : Int) := by omega
      have e : k = l.length := by omega
      subst e
      have E : Hid (sameTs l m = true) := Hid.mk' (by unfold sameTs; rw [decide_eq_true Q.out, allK_true HN.out]; rfl)
      go_wp2
      go_ret
      exact ⟨by rw [E.out]; rfl, R2.out⟩

set_option maxHeartbeats 800000 in
theorem implSameT_any (a b : Option Addr) (c d : Nat) (l m : List TK) (w : World) (ha : TsAt w a l) (hb : TsAt w b m) (hl : (l.length : Int) + tssz l ≤ 1048576) (hm : (m.length : Int) + tssz m ≤ 1048576) :
    Calls Tryz.prog 92 #[.slice a l.length c, .slice b m.length d] w fun e w' => e = .returned (.bool (sameTs l m)) ∧ Below w.heap.size w w' := by
  have K := Hid.mk' (equalTokens_any a b c d l m w ha hb hl hm)
  clear ha hb
  go_enter Tryz.func92, Tryz.ntmps92
  go_wp2_with fail
  refine K.out.mono ?_
  rintro e w1 ⟨rfl, hb⟩
  have HB := Hid.mk' hb
  clear hb K
  go_wp2
  go_ret
  exact ⟨rfl, HB.out⟩

end Go.Proofs.YtmhihkdnhaadeaaGreatDoor
