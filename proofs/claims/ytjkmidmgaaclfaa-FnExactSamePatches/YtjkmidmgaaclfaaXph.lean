/- The law on SamePatches. -/
import Derived.Test.YtjkmidmgaaclfaaXpg
namespace Go.Proofs.Ytjkmidmgaaclfaa
open Go.RowKit
set_option linter.unusedVariables false
set_option linter.unusedSimpArgs false

theorem implSX_any (a b : Option Addr) (c d : Nat) (l m : List XK) (w : World) (ha : XsAt w a l) (hb : XsAt w b m) (hl : (l.length : Int) + xsz l ≤ 1048576) (hm : (m.length : Int) + xsz m ≤ 1048576) :
    Calls Try.prog 31 #[.slice a l.length c, .slice b m.length d] w fun e w' => e = .returned (.bool (sameXs l m)) ∧ Below w.heap.size w w' := by
  have K := Hid.mk' (equalPatches_any a b c d l m w ha hb (by omega) (by omega))
  clear ha hb
  go_enter Try.func31, Try.ntmps31
  go_wp2_with fail
  refine K.out.mono ?_
  rintro e w1 ⟨rfl, hb⟩
  have HB := Hid.mk' hb
  clear hb K
  go_wp2
  go_ret
  exact ⟨rfl, HB.out⟩

set_option maxRecDepth 100000 in
set_option maxHeartbeats 6000000 in
theorem lawSX_any (a : Option Addr) (c : Nat) (l : List XK) (b : Option Addr) (d : Nat) (m : List XK) (w : World) (ha : XsAt w a l) (hw : WideX l) (hl : (l.length : Int) ≤ 9223372036854775807) (hb : XsAt w b m) (hv : WideX m) (hm : (m.length : Int) ≤ 9223372036854775807) :
    Calls Try.prog 7 #[.slice a l.length c, .slice b m.length d] w fun e w' => e = .returned (.bool true) ∧ Below w.heap.size w w' := by
  have KS := szPatchS_any a c l 1048576 w ha hw (by omega) (by omega) hl
  have HA := Hid.mk' ha
  have HC := Hid.mk' hb
  have HV := Hid.mk' hv
  clear ha hb hw hv
  by_cases g1 : 1048576 < (l.length : Int) + xsz l
  · rw [if_pos g1] at KS
    have KS := Hid.mk' KS
    go_enter Try.func7, Try.ntmps7
    go_wp2_with fail
    refine KS.out.mono ?_
    rintro e w1 ⟨rfl, hb1⟩
    have HB := Hid.mk' hb1
    clear hb1 KS
    go_wp2
    go_ret
    exact ⟨rfl, HB.out⟩
  rw [if_neg g1] at KS
  have KS := Hid.mk' KS
  have zz : ¬ (1048576 - (l.length : Int) - xsz l < 0) := by omega
  go_enter Try.func7, Try.ntmps7
  go_wp2_with fail
  refine KS.out.mono ?_
  rintro e w1 ⟨rfl, hb1⟩
  have HB := Hid.mk' hb1
  have KT := szPatchS_any b d m (1048576 - (l.length : Int) - xsz l) w1 (HC.out.below hb1) HV.out (by omega) (by omega) hm
  clear hb1 KS
  by_cases g2 : 1048576 - (l.length : Int) - xsz l < (m.length : Int) + xsz m
  · rw [if_pos g2] at KT
    have KT := Hid.mk' KT
    go_wp2_with fail
    refine KT.out.mono ?_
    rintro e w2 ⟨rfl, hb2⟩
    have HB := Hid.mk' (HB.out.trans (hb2.mono HB.out.size))
    clear hb2 KT
    go_wp2
    go_ret
    exact ⟨rfl, HB.out⟩
  rw [if_neg g2] at KT
  have KT := Hid.mk' KT
  have zy : ¬ (1048576 - (l.length : Int) - xsz l - m.length - xsz m < 0) := by omega
  have hl2 : (l.length : Int) + xsz l ≤ 1048576 := by omega
  have hm2 : (m.length : Int) + xsz m ≤ 1048576 := by omega
  go_wp2_with fail
  refine KT.out.mono ?_
  rintro e w2 ⟨rfl, hb2⟩
  have HB := Hid.mk' (HB.out.trans (hb2.mono HB.out.size))
  clear hb2 KT g1 g2
  go_wp2_with fail
  clear zz zy
  refine (toPatchS_any a c l w2 (HA.out.below HB.out) hl2).mono ?_
  rintro e w3 ⟨rfl, t3⟩
  have HB := Hid.mk' (HB.out.trans (t3.bl.mono HB.out.size))
  have T3 := Hid.mk' t3.at
  clear t3
  go_wp2_with fail
  refine (toPatchS_any b d m w3 (HC.out.below HB.out) hm2).mono ?_
  rintro e w4 ⟨rfl, t4⟩
  have HB := Hid.mk' (HB.out.trans (t4.bl.mono HB.out.size))
  have T3 := Hid.mk' (T3.out.below t4.bl)
  have T4 := Hid.mk' t4.at
  clear t4
  go_wp2_with fail
  refine (specSX_any _ _ _ _ l m w4 T3.out T4.out hl2 hm2).mono ?_
  rintro e w5 ⟨rfl, hb5⟩
  have HB := Hid.mk' (HB.out.trans (hb5.mono HB.out.size))
  clear hb5 T3 T4
  go_wp2_with fail
  refine (toPatchS_any a c l w5 (HA.out.below HB.out) hl2).mono ?_
  rintro e w6 ⟨rfl, t6⟩
  have HB := Hid.mk' (HB.out.trans (t6.bl.mono HB.out.size))
  have T6 := Hid.mk' t6.at
  clear t6
  go_wp2_with fail
  refine (toPatchS_any b d m w6 (HC.out.below HB.out) hm2).mono ?_
  rintro e w7 ⟨rfl, t7⟩
  have HB := Hid.mk' (HB.out.trans (t7.bl.mono HB.out.size))
  have T6 := Hid.mk' (T6.out.below t7.bl)
  have T7 := Hid.mk' t7.at
  clear t7
  go_wp2_with fail
  refine (implSX_any _ _ _ _ l m w7 T6.out T7.out hl2 hm2).mono ?_
  rintro e w8 ⟨rfl, hb8⟩
  have HB := Hid.mk' (HB.out.trans (hb8.mono HB.out.size))
  have T6 := Hid.mk' (T6.out.below hb8)
  have T7 := Hid.mk' (T7.out.below hb8)
  clear hb8
  generalize sameXs l m = sm at *
  go_wp2_with fail
  refine (toPatchS_any a c l w8 (HA.out.below HB.out) hl2).mono ?_
  rintro e w9 ⟨rfl, t9⟩
  have HB := Hid.mk' (HB.out.trans (t9.bl.mono HB.out.size))
  have T6 := Hid.mk' (T6.out.below t9.bl)
  have T7 := Hid.mk' (T7.out.below t9.bl)
  have T9 := Hid.mk' t9.at
  clear t9
  go_wp2_with fail
  refine (eqPatchS_any _ _ _ _ l w9 T6.out T9.out hl2).mono ?_
  rintro e w10 ⟨rfl, hb10⟩
  have HB := Hid.mk' (HB.out.trans (hb10.mono HB.out.size))
  have T7 := Hid.mk' (T7.out.below hb10)
  clear hb10 T6 T9
  go_wp2_with fail
  refine (toPatchS_any b d m w10 (HC.out.below HB.out) hm2).mono ?_
  rintro e w11 ⟨rfl, t11⟩
  have HB := Hid.mk' (HB.out.trans (t11.bl.mono HB.out.size))
  have T7 := Hid.mk' (T7.out.below t11.bl)
  have T11 := Hid.mk' t11.at
  clear t11
  go_wp2_with fail
  refine (eqPatchS_any _ _ _ _ m w11 T7.out T11.out hm2).mono ?_
  rintro e w12 ⟨rfl, hb12⟩
  have HB := Hid.mk' (HB.out.trans (hb12.mono HB.out.size))
  clear hb12 T7 T11
  go_wp2
  go_ret
  exact ⟨rfl, HB.out⟩

end Go.Proofs.Ytjkmidmgaaclfaa
