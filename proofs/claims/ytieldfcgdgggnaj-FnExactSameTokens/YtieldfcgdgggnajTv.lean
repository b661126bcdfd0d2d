/- The program's SameTokens, and the law on it. -/
import Derived.Test.YtieldfcgdgggnajTu
namespace Go.Proofs.Ytieldfcgdgggnaj
open Go.RowKit
set_option linter.unusedVariables false
set_option linter.unusedSimpArgs false

set_option maxHeartbeats 3200000 in
theorem equalTokens_any (a b : Option Addr) (c d : Nat) (l m : List TK) (w : World) (ha : TsAt w a l) (hb : TsAt w b m) (hl : (l.length : Int) + tssz l ≤ 1048576) (hm : (m.length : Int) + tssz m ≤ 1048576) :
    Calls Try.prog 32 #[.slice a l.length c, .slice b m.length d, .func (.func 33) #[] #[]] w fun e w' => e = .returned (.bool (sameTs l m)) ∧ Below w.heap.size w w' := by
  have HA := Hid.mk' ha
  have HB := Hid.mk' hb
  clear ha hb
  by_cases hq : l.length = m.length
  rotate_left
  · have E : Hid (sameTs l m = false) := Hid.mk' (by unfold sameTs; rw [decide_eq_false hq]; rfl)
    have hq' : ¬ (l.length : Int) = m.length := by omega
    go_enter Try.func32, Try.ntmps32
    go_wp2
    go_ret
    exact ⟨by rw [E.out]; rfl, Below.refl _ _⟩
  have Q := Hid.mk' hq
  have hq' : (l.length : Int) = m.length := by omega
  clear hq
  go_enter Try.func32, Try.ntmps32
  go_wp2
  go_loopw [17] (fun i wr => ∃ k : Nat, k ≤ l.length ∧ i = .int .i64 k ∧ (∀ j, j < k → teq (tkK l j) (tkK m j) = true) ∧ Below w.heap.size w wr) (fun i _ => l.length - (intOf i).toNat)
  case atStart => exact ⟨0, Nat.zero_le _, rfl, fun j h => absurd h (Nat.not_lt_zero _), Below.refl _ _⟩
  case round =>
    obtain ⟨k, hk, rfl, hn, hbl⟩ := hrel
    have HN := Hid.mk' hn
    have R2 := Hid.mk' hbl
    by_cases hlt : k < l.length
    · have ci : (k : Int) < (l.length : Int) := by omega
      have ci2 : (k : Int) < (m.length : Int) := by omega
      rcases HA.out.below hbl with ha | ⟨b1, o1, rfl, s1, hc1⟩
      · exact absurd hlt (by rw [ha]; exact Nat.not_lt_zero _)
      rcases HB.out.below hbl with hb | ⟨b2, o2, rfl, s2, hc2⟩
      · exact absurd hlt (by rw [Q.out, hb]; exact Nat.not_lt_zero _)
      obtain ⟨x0, x1, x2, ⟨p1, d1, x4, x3⟩, x5⟩ := hc1 k hlt
      obtain ⟨y0, y1, y2, ⟨p2_, d2, y4, y3⟩, y5⟩ := hc2 k (by omega)
      have st := tssz_take l k hlt
      have sl := tssz_le l (k + 1)
      have st2 := tssz_take m k (by omega)
      have sl2 := tssz_le m (k + 1)
      unfold tsz at st st2
      have B0 := ((Below.refl wr.heap.size wr).alloc (Nat.le_refl _) (.cells #[.int .i64 (tkK l k).kd, .int .i64 (tkK l k).by_, .string (tkK l k).nm, .slice p1 (tkK l k).at_.length d1, .bool (tkK l k).sh] 29)).alloc (by simp) (.cells #[.int .i64 (tkK m k).kd, .int .i64 (tkK m k).by_, .string (tkK m k).nm, .slice p2_ (tkK m k).at_.length d2, .bool (tkK m k).sh] 29)
      have KE := Hid.mk' (sameToken_any (tkK l k) (tkK m k) p1 p2_ d1 d2 _ (x3.below B0) (y3.below B0) (by omega) (by omega))
      have R3 := Hid.mk' (R2.out.trans (B0.mono R2.out.size))
      clear hbl hc1 hc2 hn x3 y3 B0 st sl st2 sl2
      cases e1 : teq (tkK l k) (tkK m k) with
      | false =>
        rw [e1] at KE
        have E : Hid (sameTs l m = false) := Hid.mk' (by unfold sameTs; rw [decide_eq_true Q.out, allK_false hlt e1]; rfl)
        go_wp2_with fail
        refine KE.out.mono ?_
        rintro e w1 ⟨rfl, hb1⟩
        have R4 := Hid.mk' (R3.out.trans (hb1.mono R3.out.size))
        clear hb1 KE
        go_wp2
        go_ret
        exact ⟨by rw [E.out]; rfl, R4.out⟩
      | true =>
        rw [e1] at KE
        go_wp2_with fail
        refine KE.out.mono ?_
        rintro e w1 ⟨rfl, hb1⟩
        have R4 := Hid.mk' (R3.out.trans (hb1.mono R3.out.size))
        clear hb1 KE
        go_wp2
        go_roundw
        case rel => exact ⟨k + 1, by omega, by go_num, fun j hj => by
          by_cases h : j = k
          · subst h; exact e1
          · exact HN.out j (by omega), R4.out⟩
        case measure => simp [intOf]; omega
    · have ci : ¬ (k : Int) < (l.length : Int) := by omega
      have e : k = l.length := by omega
      subst e
      have E : Hid (sameTs l m = true) := Hid.mk' (by unfold sameTs; rw [decide_eq_true Q.out, allK_true HN.out]; rfl)
      go_wp2
      go_ret
      exact ⟨by rw [E.out]; rfl, R2.out⟩

set_option maxHeartbeats 800000 in
theorem implSameT_any (a b : Option Addr) (c d : Nat) (l m : List TK) (w : World) (ha : TsAt w a l) (hb : TsAt w b m) (hl : (l.length : Int) + tssz l ≤ 1048576) (hm : (m.length : Int) + tssz m ≤ 1048576) :
    Calls Try.prog 15 #[.slice a l.length c, .slice b m.length d] w fun e w' => e = .returned (.bool (sameTs l m)) ∧ Below w.heap.size w w' := by
  have K := Hid.mk' (equalTokens_any a b c d l m w ha hb hl hm)
  clear ha hb
  go_enter Try.func15, Try.ntmps15
  go_wp2_with fail
  refine K.out.mono ?_
  rintro e w1 ⟨rfl, hb⟩
  have HB := Hid.mk' hb
  clear hb K
  go_wp2
  go_ret
  exact ⟨rfl, HB.out⟩

set_option maxRecDepth 100000 in
set_option maxHeartbeats 6000000 in
theorem lawSameTokens_any (a : Option Addr) (c : Nat) (l : List TK) (b : Option Addr) (d : Nat) (m : List TK) (w : World) (ha : TsAt w a l) (hw : WideT l) (hl : (l.length : Int) ≤ 9223372036854775807) (hb : TsAt w b m) (hv : WideT m) (hm : (m.length : Int) ≤ 9223372036854775807) :
    Calls Try.prog 4 #[.slice a l.length c, .slice b m.length d] w fun e w' => e = .returned (.bool true) ∧ Below w.heap.size w w' := by
  have KS := szTokenS_any a c l 1048576 w ha hw (by omega) (by omega) hl
  have HA := Hid.mk' ha
  have HC := Hid.mk' hb
  have HV := Hid.mk' hv
  clear ha hb hw hv
  by_cases g1 : 1048576 < (l.length : Int) + tssz l
  · rw [if_pos g1] at KS
    have KS := Hid.mk' KS
    go_enter Try.func4, Try.ntmps4
    go_wp2_with fail
    refine KS.out.mono ?_
    rintro e w1 ⟨rfl, hb1⟩
    have HB := Hid.mk' hb1
    clear hb1 KS
    go_wp2
    go_ret
    exact ⟨rfl, HB.out⟩
  rw [if_neg g1] at KS
  have KS := Hid.mk' KS
  have zz : ¬ (1048576 - (l.length : Int) - tssz l < 0) := by omega
  go_enter Try.func4, Try.ntmps4
  go_wp2_with fail
  refine KS.out.mono ?_
  rintro e w1 ⟨rfl, hb1⟩
  have HB := Hid.mk' hb1
  have KT := szTokenS_any b d m (1048576 - (l.length : Int) - tssz l) w1 (HC.out.below hb1) HV.out (by omega) (by omega) hm
  clear hb1 KS
  by_cases g2 : 1048576 - (l.length : Int) - tssz l < (m.length : Int) + tssz m
  · rw [if_pos g2] at KT
    have KT := Hid.mk' KT
    go_wp2_with fail
    refine KT.out.mono ?_
    rintro e w2 ⟨rfl, hb2⟩
    have HB := Hid.mk' (HB.out.trans (hb2.mono HB.out.size))
    clear hb2 KT
    go_wp2
    go_ret
    exact ⟨rfl, HB.out⟩
  rw [if_neg g2] at KT
  have KT := Hid.mk' KT
  have zy : ¬ (1048576 - (l.length : Int) - tssz l - m.length - tssz m < 0) := by omega
  have hl2 : (l.length : Int) + tssz l ≤ 1048576 := by omega
  have hm2 : (m.length : Int) + tssz m ≤ 1048576 := by omega
  go_wp2_with fail
  refine KT.out.mono ?_
  rintro e w2 ⟨rfl, hb2⟩
  have HB := Hid.mk' (HB.out.trans (hb2.mono HB.out.size))
  clear hb2 KT g1 g2
  go_wp2_with fail
  clear zz zy
  refine (toTokenS_any a c l w2 (HA.out.below HB.out) hl2).mono ?_
  rintro e w3 ⟨rfl, t3⟩
  have HB := Hid.mk' (HB.out.trans (t3.bl.mono HB.out.size))
  have T3 := Hid.mk' t3.at
  clear t3
  go_wp2_with fail
  refine (toTokenS_any b d m w3 (HC.out.below HB.out) hm2).mono ?_
  rintro e w4 ⟨rfl, t4⟩
  have HB := Hid.mk' (HB.out.trans (t4.bl.mono HB.out.size))
  have T3 := Hid.mk' (T3.out.below t4.bl)
  have T4 := Hid.mk' t4.at
  clear t4
  go_wp2_with fail
  refine (specSame_any _ _ _ _ l m w4 T3.out T4.out hl2 hm2).mono ?_
  rintro e w5 ⟨rfl, hb5⟩
  have HB := Hid.mk' (HB.out.trans (hb5.mono HB.out.size))
  clear hb5 T3 T4
  go_wp2_with fail
  refine (toTokenS_any a c l w5 (HA.out.below HB.out) hl2).mono ?_
  rintro e w6 ⟨rfl, t6⟩
  have HB := Hid.mk' (HB.out.trans (t6.bl.mono HB.out.size))
  have T6 := Hid.mk' t6.at
  clear t6
  go_wp2_with fail
  refine (toTokenS_any b d m w6 (HC.out.below HB.out) hm2).mono ?_
  rintro e w7 ⟨rfl, t7⟩
  have HB := Hid.mk' (HB.out.trans (t7.bl.mono HB.out.size))
  have T6 := Hid.mk' (T6.out.below t7.bl)
  have T7 := Hid.mk' t7.at
  clear t7
  go_wp2_with fail
  refine (implSameT_any _ _ _ _ l m w7 T6.out T7.out hl2 hm2).mono ?_
  rintro e w8 ⟨rfl, hb8⟩
  have HB := Hid.mk' (HB.out.trans (hb8.mono HB.out.size))
  have T6 := Hid.mk' (T6.out.below hb8)
  have T7 := Hid.mk' (T7.out.below hb8)
  clear hb8
  generalize sameTs l m = sm at *
  go_wp2_with fail
  refine (toTokenS_any a c l w8 (HA.out.below HB.out) hl2).mono ?_
  rintro e w9 ⟨rfl, t9⟩
  have HB := Hid.mk' (HB.out.trans (t9.bl.mono HB.out.size))
  have T6 := Hid.mk' (T6.out.below t9.bl)
  have T7 := Hid.mk' (T7.out.below t9.bl)
  have T9 := Hid.mk' t9.at
  clear t9
  go_wp2_with fail
  refine (eqTokenS_any _ _ _ _ l w9 T6.out T9.out hl2).mono ?_
  rintro e w10 ⟨rfl, hb10⟩
  have HB := Hid.mk' (HB.out.trans (hb10.mono HB.out.size))
  have T7 := Hid.mk' (T7.out.below hb10)
  clear hb10 T6 T9
  go_wp2_with fail
  refine (toTokenS_any b d m w10 (HC.out.below HB.out) hm2).mono ?_
  rintro e w11 ⟨rfl, t11⟩
  have HB := Hid.mk' (HB.out.trans (t11.bl.mono HB.out.size))
  have T7 := Hid.mk' (T7.out.below t11.bl)
  have T11 := Hid.mk' t11.at
  clear t11
  go_wp2_with fail
  refine (eqTokenS_any _ _ _ _ m w11 T7.out T11.out hm2).mono ?_
  rintro e w12 ⟨rfl, hb12⟩
  have HB := Hid.mk' (HB.out.trans (hb12.mono HB.out.size))
  clear hb12 T7 T11
  go_wp2
  go_ret
  exact ⟨rfl, HB.out⟩

end Go.Proofs.Ytieldfcgdgggnaj
