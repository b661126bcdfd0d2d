/- Sessions told to be the same: copies; the program's side. -/
import Derived.Test.YtbdjppiagjhfmaaSsf
import Derived.BigGuard
namespace Go.Proofs.Ytbdjppiagjhfmaa
open Go.RowKit
set_option linter.unusedVariables false
set_option linter.unusedSimpArgs false

theorem two13 (w : World) (c1 c2 : Array Value) :
    Below w.heap.size w ((w.alloc (.cells c1 70)).alloc (.cells c2 70)) ∧
    RowA ((w.alloc (.cells c1 70)).alloc (.cells c2 70)) w.heap.size 70 c1 ∧
    RowA ((w.alloc (.cells c1 70)).alloc (.cells c2 70)) (w.heap.size + 1) 70 c2 := by
  have a1 := RowA.new w 70 c1
  have a2 := RowA.new (w.alloc (.cells c1 70)) 70 c2
  have b1 := below_new (w.alloc (.cells c1 70)) (.cells c2 70)
  have e1 : (w.alloc (.cells c1 70)).heap.size = w.heap.size + 1 := by simp
  rw [e1] at a2
  exact ⟨(below_new w _).alloc (by omega) _, a1.below b1, a2⟩

set_option maxRecDepth 100000 in
set_option maxHeartbeats 6400000 in
theorem eqSession_any (s : SE) (x y : SX) (w : World) (h1 : SEAt w s x) (h2 : SEAt w s y) (hl : (sesz s : Int) ≤ 1048576) :
    Calls Try.prog 27 #[.agg (seV s x), .agg (seV s y)] w fun e w' => e = .returned (.bool true) ∧ Below w.heap.size w w' := by
  have SS : sesz s = psz s.po + (s.tb.base.length + s.tb.more.length + s.tb.pcs.length) + msz s.me + s.ou.length := rfl
  have l1 : (psz s.po : Int) ≤ 1048576 := by omega
  have l2 : (s.tb.base.length : Int) + s.tb.more.length + s.tb.pcs.length ≤ 1048576 := by omega
  have l3 : (msz s.me : Int) ≤ 1048576 := by omega
  have l4 : (s.ou.length : Int) ≤ 1048576 := by omega
  clear SS hl
  obtain ⟨B0, X0, Y0⟩ := two13 w (seV s x) (seV s y)
  have HA := Hid.mk' h1
  have HC := Hid.mk' h2
  have HB := Hid.mk' B0
  have HX := Hid.mk' X0
  have HY := Hid.mk' Y0
  clear B0 X0 Y0 h1 h2
  generalize hV : (w.alloc (.cells (seV s x) 70)).alloc (.cells (seV s y) 70) = V at *
  have K := Hid.mk' (eqPolicy_any s.po x.p1 x.p2 x.p3 y.p1 y.p2 y.p3 x.n1 x.n2 x.n3 y.n1 y.n2 y.n3 V (HA.out.below HB.out).po (HC.out.below HB.out).po l1)
  obtain ⟨x0, x1, x2, x3, x4, x5, x6, x8, x9, x10, x11, x7, x12, xl⟩ := se_cells HX.out
  obtain ⟨y0, y1, y2, y3, y4, y5, y6, y8, y9, y10, y11, y7, y12, yl⟩ := se_cells HY.out
  go_enter Try.func27, Try.ntmps27
  go_wp2_with fail
  clear hV
  clear x0 x1 x2 x3 x4 x5 x6 x7 x8 x9 x10 x11 x12 xl y0 y1 y2 y3 y4 y5 y6 y7 y8 y9 y10 y11 y12 yl
  refine K.out.mono ?_
  rintro e w1 ⟨rfl, hb⟩
  have HX := Hid.mk' (HX.out.below hb)
  have HY := Hid.mk' (HY.out.below hb)
  have HB := Hid.mk' (HB.out.trans (hb.mono HB.out.size))
  clear hb K
  have K := Hid.mk' (eqTable_any _ _ s.tb w1 (HA.out.below HB.out).tb (HC.out.below HB.out).tb l2)
  obtain ⟨x0, x1, x2, x3, x4, x5, x6, x8, x9, x10, x11, x7, x12, xl⟩ := se_cells HX.out
  obtain ⟨y0, y1, y2, y3, y4, y5, y6, y8, y9, y10, y11, y7, y12, yl⟩ := se_cells HY.out
  go_wp2_with fail
  clear x0 x1 x2 x3 x4 x5 x6 x7 x8 x9 x10 x11 x12 xl y0 y1 y2 y3 y4 y5 y6 y7 y8 y9 y10 y11 y12 yl
  refine K.out.mono ?_
  rintro e w2 ⟨rfl, hb⟩
  have HX := Hid.mk' (HX.out.below hb)
  have HY := Hid.mk' (HY.out.below hb)
  have HB := Hid.mk' (HB.out.trans (hb.mono HB.out.size))
  clear hb K
  have K := Hid.mk' (eqMemo_any s.me x.c1 x.c2 x.c3 x.c4 y.c1 y.c2 y.c3 y.c4 x.l1 x.l2 x.l3 x.l4 y.l1 y.l2 y.l3 y.l4 w2 (HA.out.below HB.out).me (HC.out.below HB.out).me l3)
  obtain ⟨x0, x1, x2, x3, x4, x5, x6, x8, x9, x10, x11, x7, x12, xl⟩ := se_cells HX.out
  obtain ⟨y0, y1, y2, y3, y4, y5, y6, y8, y9, y10, y11, y7, y12, yl⟩ := se_cells HY.out
  go_wp2_with fail
  clear x0 x1 x2 x3 x4 x5 x6 x7 x8 x9 x10 x11 x12 xl y0 y1 y2 y3 y4 y5 y6 y7 y8 y9 y10 y11 y12 yl
  refine K.out.mono ?_
  rintro e w3 ⟨rfl, hb⟩
  have HX := Hid.mk' (HX.out.below hb)
  have HY := Hid.mk' (HY.out.below hb)
  have HB := Hid.mk' (HB.out.trans (hb.mono HB.out.size))
  clear hb K
  have K := Hid.mk' (eqByteS_any x.d1 y.d1 x.j1 y.j1 s.ou w3 (HA.out.below HB.out).ou (HC.out.below HB.out).ou l4)
  obtain ⟨x0, x1, x2, x3, x4, x5, x6, x8, x9, x10, x11, x7, x12, xl⟩ := se_cells HX.out
  obtain ⟨y0, y1, y2, y3, y4, y5, y6, y8, y9, y10, y11, y7, y12, yl⟩ := se_cells HY.out
  go_wp2_with fail
  clear x0 x1 x2 x3 x4 x5 x6 x7 x8 x9 x10 x11 x12 xl y0 y1 y2 y3 y4 y5 y6 y7 y8 y9 y10 y11 y12 yl
  refine K.out.mono ?_
  rintro e w4 ⟨rfl, hb⟩
  have HX := Hid.mk' (HX.out.below hb)
  have HY := Hid.mk' (HY.out.below hb)
  have HB := Hid.mk' (HB.out.trans (hb.mono HB.out.size))
  clear hb K
  obtain ⟨x0, x1, x2, x3, x4, x5, x6, x8, x9, x10, x11, x7, x12, xl⟩ := se_cells HX.out
  obtain ⟨y0, y1, y2, y3, y4, y5, y6, y8, y9, y10, y11, y7, y12, yl⟩ := se_cells HY.out
  go_wp2
  go_ret
  exact ⟨rfl, HB.out⟩

/-- Two sessions are the same. -/
def sameSE (s t : SE) : Bool := sameP s.po t.po && (sameT s.tb t.tb && (sameM s.me t.me && (((strI s.ou).toList == (strI t.ou).toList) && (s.st == t.st))))

set_option maxRecDepth 100000 in
set_option maxHeartbeats 3200000 in
theorem sameView_any (s t : SE) (x y : SX) (w : World) (h1 : SEAt w s x) (h2 : SEAt w t y) :
    Calls Try.prog 54 #[.agg (seV s x), .agg (seV t y)] w fun e w' => e = .returned (.bool (((strI s.ou).toList == (strI t.ou).toList) && (s.st == t.st))) ∧ Below w.heap.size w w' := by
  obtain ⟨B0, X0, Y0⟩ := two13 w (seV s x) (seV t y)
  have HA := Hid.mk' h1
  have HC := Hid.mk' h2
  have HB := Hid.mk' B0
  have HX := Hid.mk' X0
  have HY := Hid.mk' Y0
  clear B0 X0 Y0 h1 h2
  generalize hV : (w.alloc (.cells (seV s x) 70)).alloc (.cells (seV t y) 70) = V at *
  have KB := Hid.mk' (bytesEqual_any x.d1 y.d1 x.j1 y.j1 s.ou t.ou V (HA.out.below HB.out).ou (HC.out.below HB.out).ou)
  obtain ⟨x0, x1, x2, x3, x4, x5, x6, x8, x9, x10, x11, x7, x12, xl⟩ := se_cells HX.out
  obtain ⟨y0, y1, y2, y3, y4, y5, y6, y8, y9, y10, y11, y7, y12, yl⟩ := se_cells HY.out
  cases hB : ((strI s.ou).toList == (strI t.ou).toList) with
  | false =>
    rw [hB] at KB
    go_enter Try.func54, Try.ntmps54
    go_wp2_with (first | go_big_skip | (go_at_call 81; refine KB.out.mono ?_; rintro e w9 ⟨rfl, hw9⟩; obtain rfl := hw9.symm))
    clear hV
    go_ret
    exact ⟨by rfl, HB.out⟩
  | true =>
    rw [hB] at KB
    go_enter Try.func54, Try.ntmps54
    go_wp2_with (first | go_big_skip | (go_at_call 81; refine KB.out.mono ?_; rintro e w9 ⟨rfl, hw9⟩; obtain rfl := hw9.symm))
    clear hV
    go_ret
    exact ⟨by first | rfl | simp, HB.out⟩

set_option maxRecDepth 100000 in
set_option maxHeartbeats 6400000 in
theorem implSS_any (s t : SE) (x y : SX) (w : World) (h1 : SEAt w s x) (h2 : SEAt w t y) (hl : (sesz s : Int) ≤ 1048576) (hm : (sesz t : Int) ≤ 1048576) :
    Calls Try.prog 26 #[.agg (seV s x), .agg (seV t y)] w fun e w' => e = .returned (.bool (sameSE s t)) ∧ Below w.heap.size w w' := by
  have SS : sesz s = psz s.po + (s.tb.base.length + s.tb.more.length + s.tb.pcs.length) + msz s.me + s.ou.length := rfl
  have ST : sesz t = psz t.po + (t.tb.base.length + t.tb.more.length + t.tb.pcs.length) + msz t.me + t.ou.length := rfl
  have l1 : (psz s.po : Int) ≤ 1048576 := by omega
  have l2 : (s.tb.base.length : Int) + s.tb.more.length + s.tb.pcs.length ≤ 1048576 := by omega
  have l3 : (msz s.me : Int) ≤ 1048576 := by omega
  have m1 : (psz t.po : Int) ≤ 1048576 := by omega
  have m2 : (t.tb.base.length : Int) + t.tb.more.length + t.tb.pcs.length ≤ 1048576 := by omega
  have m3 : (msz t.me : Int) ≤ 1048576 := by omega
  clear SS ST hl hm
  have E : Hid (sameSE s t = (sameP s.po t.po && (sameT s.tb t.tb && (sameM s.me t.me && (((strI s.ou).toList == (strI t.ou).toList) && (s.st == t.st)))))) := Hid.mk' rfl
  generalize sameSE s t = R at *
  obtain ⟨B0, X0, Y0⟩ := two13 w (seV s x) (seV t y)
  have HA := Hid.mk' h1
  have HC := Hid.mk' h2
  have HB := Hid.mk' B0
  have HX := Hid.mk' X0
  have HY := Hid.mk' Y0
  clear B0 X0 Y0 h1 h2
  generalize hV : (w.alloc (.cells (seV s x) 70)).alloc (.cells (seV t y) 70) = V at *
  have K := Hid.mk' (samePolicy_any s.po t.po x.p1 x.p2 x.p3 y.p1 y.p2 y.p3 x.n1 x.n2 x.n3 y.n1 y.n2 y.n3 V (HA.out.below HB.out).po (HC.out.below HB.out).po l1 m1)
  obtain ⟨x0, x1, x2, x3, x4, x5, x6, x8, x9, x10, x11, x7, x12, xl⟩ := se_cells HX.out
  obtain ⟨y0, y1, y2, y3, y4, y5, y6, y8, y9, y10, y11, y7, y12, yl⟩ := se_cells HY.out
  cases e1 : sameP s.po t.po with
  | false =>
    rw [e1] at K
    go_enter Try.func26, Try.ntmps26
    go_wp2_with (first | go_big_skip | fail)
    clear hV
    refine K.out.mono ?_
    rintro e w1 ⟨rfl, hb⟩
    have HB := Hid.mk' (HB.out.trans (hb.mono HB.out.size))
    clear hb K
    go_wp2_with (first | go_big_skip)
    go_ret
    exact ⟨by rw [E.out, e1]; rfl, HB.out⟩
  | true =>
  rw [e1] at K
  go_enter Try.func26, Try.ntmps26
  go_wp2_with (first | go_big_skip | fail)
  clear hV
  clear x0 x1 x2 x3 x4 x5 x6 x7 x8 x9 x10 x11 x12 xl y0 y1 y2 y3 y4 y5 y6 y7 y8 y9 y10 y11 y12 yl
  refine K.out.mono ?_
  rintro e w1 ⟨rfl, hb⟩
  have HX := Hid.mk' (HX.out.below hb)
  have HY := Hid.mk' (HY.out.below hb)
  have HB := Hid.mk' (HB.out.trans (hb.mono HB.out.size))
  clear hb K
  obtain ⟨x0, x1, x2, x3, x4, x5, x6, x8, x9, x10, x11, x7, x12, xl⟩ := se_cells HX.out
  obtain ⟨y0, y1, y2, y3, y4, y5, y6, y8, y9, y10, y11, y7, y12, yl⟩ := se_cells HY.out
  have K := Hid.mk' (implSameTb_any _ _ s.tb t.tb w1 (HA.out.below HB.out).tb (HC.out.below HB.out).tb l2 m2)
  cases e2 : sameT s.tb t.tb with
  | false =>
    rw [e2] at K
    go_wp2_with (first | go_big_skip | fail)
    refine K.out.mono ?_
    rintro e w2 ⟨rfl, hb⟩
    have HB := Hid.mk' (HB.out.trans (hb.mono HB.out.size))
    clear hb K
    go_wp2_with (first | go_big_skip)
    go_ret
    exact ⟨by rw [E.out, e1, e2]; rfl, HB.out⟩
  | true =>
  rw [e2] at K
  go_wp2_with (first | go_big_skip | fail)
  clear x0 x1 x2 x3 x4 x5 x6 x7 x8 x9 x10 x11 x12 xl y0 y1 y2 y3 y4 y5 y6 y7 y8 y9 y10 y11 y12 yl
  refine K.out.mono ?_
  rintro e w2 ⟨rfl, hb⟩
  have HX := Hid.mk' (HX.out.below hb)
  have HY := Hid.mk' (HY.out.below hb)
  have HB := Hid.mk' (HB.out.trans (hb.mono HB.out.size))
  clear hb K
  obtain ⟨x0, x1, x2, x3, x4, x5, x6, x8, x9, x10, x11, x7, x12, xl⟩ := se_cells HX.out
  obtain ⟨y0, y1, y2, y3, y4, y5, y6, y8, y9, y10, y11, y7, y12, yl⟩ := se_cells HY.out
  have K := Hid.mk' (implSM_any s.me t.me x.c1 x.c2 x.c3 x.c4 y.c1 y.c2 y.c3 y.c4 x.l1 x.l2 x.l3 x.l4 y.l1 y.l2 y.l3 y.l4 w2 (HA.out.below HB.out).me (HC.out.below HB.out).me l3 m3)
  cases e3 : sameM s.me t.me with
  | false =>
    rw [e3] at K
    go_wp2_with (first | go_big_skip | fail)
    refine K.out.mono ?_
    rintro e w3 ⟨rfl, hb⟩
    have HB := Hid.mk' (HB.out.trans (hb.mono HB.out.size))
    clear hb K
    go_wp2_with (first | go_big_skip)
    go_ret
    exact ⟨by rw [E.out, e1, e2, e3]; rfl, HB.out⟩
  | true =>
  rw [e3] at K
  go_wp2_with (first | go_big_skip | fail)
  clear x0 x1 x2 x3 x4 x5 x6 x7 x8 x9 x10 x11 x12 xl y0 y1 y2 y3 y4 y5 y6 y7 y8 y9 y10 y11 y12 yl
  refine K.out.mono ?_
  rintro e w3 ⟨rfl, hb⟩
  have HX := Hid.mk' (HX.out.below hb)
  have HY := Hid.mk' (HY.out.below hb)
  have HB := Hid.mk' (HB.out.trans (hb.mono HB.out.size))
  clear hb K
  have K := sameView_any s t x y w3 (HA.out.below HB.out) (HC.out.below HB.out)
  generalize (((strI s.ou).toList == (strI t.ou).toList) && (s.st == t.st)) = r4 at *
  unfold seV at K
  have K := Hid.mk' K
  obtain ⟨x0, x1, x2, x3, x4, x5, x6, x8, x9, x10, x11, x7, x12, xl⟩ := se_cells HX.out
  obtain ⟨y0, y1, y2, y3, y4, y5, y6, y8, y9, y10, y11, y7, y12, yl⟩ := se_cells HY.out
  go_wp2_with (first | go_big_skip | fail)
  clear x0 x1 x2 x3 x4 x5 x6 x7 x8 x9 x10 x11 x12 xl y0 y1 y2 y3 y4 y5 y6 y7 y8 y9 y10 y11 y12 yl
  refine K.out.mono ?_
  rintro e w4 ⟨rfl, hb⟩
  have HB := Hid.mk' (HB.out.trans (hb.mono HB.out.size))
  clear hb K
  go_wp2_with (first | go_big_skip)
  go_ret
  exact ⟨by rw [E.out, e1, e2, e3]; rfl, HB.out⟩

end Go.Proofs.Ytbdjppiagjhfmaa
