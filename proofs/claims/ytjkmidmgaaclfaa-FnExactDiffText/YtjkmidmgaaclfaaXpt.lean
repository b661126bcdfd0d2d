/- The law on DiffText. -/
import Derived.Test.YtjkmidmgaaclfaaXps
import Derived.Test.YtjkmidmgaaclfaaLaw
namespace Go.Proofs.Ytjkmidmgaaclfaa
open Go.RowKit
set_option linter.unusedVariables false
set_option linter.unusedSimpArgs false

set_option maxHeartbeats 400000 in
theorem eqPR_any (z : Int) (a b : Option Addr) (c d : Nat) (l : List XK) (w : World) (ha : XsAt w a l) (hb : XsAt w b l) (hl : (l.length : Int) + xsz l ≤ 1048576) :
    Calls Try.prog 16 #[.agg #[.int .i64 z, .slice a l.length c], .agg #[.int .i64 z, .slice b l.length d]] w fun e w' => e = .returned (.bool true) ∧ Below w.heap.size w w' := by
  have B0 := ((Below.refl w.heap.size w).alloc (Nat.le_refl _) (.cells #[.int .i64 z, .slice a l.length c] 31)).alloc (by simp) (.cells #[.int .i64 z, .slice b l.length d] 31)
  have KB := Hid.mk' (eqPatchS_any a b c d l _ (ha.below B0) (hb.below B0) hl)
  have HB := Hid.mk' B0
  clear ha hb B0
  go_enter Try.func16, Try.ntmps16
  go_wp2_with fail
  refine KB.out.mono ?_
  rintro e w1 ⟨rfl, hb⟩
  have HB := Hid.mk' (HB.out.trans (hb.mono HB.out.size))
  clear hb KB
  go_wp2
  go_ret
  exact ⟨rfl, HB.out⟩

set_option maxHeartbeats 400000 in
theorem markPR_any {lo hi : Nat} {w : World} {v : Value} {l : List XK} (z0 : Int) (h : PO lo hi w v l) (hz2 : (1 : Int) + 2 * l.length + xsz l ≤ 50000000) :
    Calls Try.prog 19 #[.agg #[.int .i64 z0, v], .int .i64 1] w fun e w' => e = .returned (.int .i64 ((1 + 2 * l.length + xsz l : Nat) : Int)) ∧ PO lo hi w' v (mkX 1 l) ∧ ∃ wm, Below w.heap.size w wm ∧ KeptIn lo hi wm w' := by
  obtain ⟨va, vc, ev, _⟩ := h.at
  subst ev
  have N0 := below_new w (.cells #[.int .i64 z0, .slice va l.length vc] 31)
  have K := Hid.mk' (markPO_any (z := 1) (h.below N0) (by omega) hz2)
  have NN := Hid.mk' N0
  clear N0 h
  go_enter Try.func19, Try.ntmps19
  go_wp2_with fail
  refine K.out.mono ?_
  rintro e w1 ⟨rfl, hp, hk⟩
  have HP := Hid.mk' hp
  have HK := Hid.mk' hk
  clear hp hk K
  go_wp2
  go_ret
  exact ⟨rfl, HP.out, _, NN.out, HK.out⟩

set_option maxHeartbeats 400000 in
theorem heldPR_any (z0 : Int) (a : Option Addr) (c : Nat) (l : List XK) (w : World) (ha : XsAt w a (mkX 1 l)) (hz2 : (1 : Int) + 2 * l.length + xsz l ≤ 50000000) :
    Calls Try.prog 20 #[.agg #[.int .i64 z0, .slice a l.length c], .int .i64 1] w fun e w' => e = .returned (.int .i64 ((1 + 2 * l.length + xsz l : Nat) : Int)) ∧ Below w.heap.size w w' := by
  have N0 := below_new w (.cells #[.int .i64 z0, .slice a l.length c] 31)
  have K := Hid.mk' (heldPatchS_is 1 a c l _ (ha.below N0) (by omega) hz2)
  have NN := Hid.mk' N0
  have zz : ¬ (((1 + 2 * l.length + xsz l : Nat) : Int) < 0) := by omega
  clear N0 ha
  generalize hA : 1 + 2 * l.length + xsz l = A at *
  go_enter Try.func20, Try.ntmps20
  go_wp2_with fail
  refine K.out.mono ?_
  rintro e w1 ⟨rfl, hb⟩
  have HB := Hid.mk' (NN.out.trans (hb.mono NN.out.size))
  clear hb K
  go_wp2
  go_ret
  exact ⟨rfl, HB.out⟩

/-- An answer of patches in its box, kept. -/
structure GP (lo hi q : Nat) (z v : Value) (l : List XK) (wi : World) : Prop where
  box : wi.rowIs q 31 2 (p2 z v)
  own : PO lo hi wi v l
  hiq : hi ≤ q
  lh : lo ≤ hi

theorem GP.below {lo hi q : Nat} {z v : Value} {l : List XK} {wi wj : World} (h : GP lo hi q z v l wi) (hb : Below wi.heap.size wi wj) : GP lo hi q z v l wj := ⟨rowB h.box hb, h.own.below hb, h.hiq, h.lh⟩

theorem GP.kept {lo hi q a b : Nat} {z v : Value} {l : List XK} {wi wj : World} (h : GP lo hi q z v l wi) (hk : KeptIn a b wi wj) (hd : b ≤ lo ∨ q < a) : GP lo hi q z v l wj := by
  have := h.hiq
  have := h.lh
  exact ⟨rowK h.box hk (by omega), h.own.kept hk (by omega), h.hiq, h.lh⟩

theorem dtL_len (l m : List Int) : ((dtL l m).length : Int) + xsz (dtL l m) ≤ 1000 := by
  unfold dtL
  split
  · simp [xsz]
  · rename_i h
    unfold dfL
    split
    · simp [xsz]
    · simp only [xsz, dfX, List.length_cons, List.length_nil, List.length_take, List.length_drop]
      omega

theorem po_at {lo hi : Nat} {w : World} {a : Option Addr} {n c : Nat} {l : List XK} (h : PO lo hi w (.slice a n c) l) : XsAt w a l := by
  obtain ⟨b, d, e, hx⟩ := h.at
  injection e with e1 e2 e3
  subst e1
  exact hx

theorem po_mk {lo hi : Nat} {w : World} {a : Option Addr} {n c : Nat} {l : List XK} (h : PO lo hi w (.slice a n c) (mkX 1 l)) : XsAt w a (mkX 1 l) := po_at h

set_option maxRecDepth 100000 in
set_option maxHeartbeats 6400000 in
theorem lawDT_any (a : Option Addr) (c : Nat) (l : List Int) (e : Option Addr) (d : Nat) (p : List Int) (w : World) (ha : BAt w a l) (k1 : (l.length : Int) ≤ 9223372036854775807) (he : BAt w e p) (k2 : (p.length : Int) ≤ 9223372036854775807) :
    Calls Try.prog 4 #[.slice a l.length c, .slice e p.length d] w fun ev w' => ev = .returned (.bool true) ∧ Below w.heap.size w w' := by
  by_cases hl : (l.length : Int) ≤ 1048576
  rotate_left
  · clear ha he
    go_enter Try.func4, Try.ntmps4
    go_wp2
    go_ret
    exact ⟨rfl, Below.refl _ _⟩
  by_cases hm : (p.length : Int) ≤ 1048576
  rotate_left
  · clear ha he
    go_enter Try.func4, Try.ntmps4
    go_wp2
    go_ret
    exact ⟨rfl, Below.refl _ _⟩
  have n3 := dtL_len l p
  obtain ⟨z, hz⟩ : ∃ z, dtC l p = z := ⟨_, rfl⟩
  obtain ⟨L, hL⟩ : ∃ L, dtL l p = L := ⟨_, rfl⟩
  rw [hL] at n3
  have n4 : (L.length : Int) + xsz L ≤ 1048576 := by omega
  have n5 : (1 : Int) + 2 * L.length + xsz L ≤ 50000000 := by omega
  have Z := Hid.mk' hz
  have ZL := Hid.mk' hL
  have A := Hid.mk' ha
  have E := Hid.mk' he
  clear ha he hz hL
  go_enter Try.func4, Try.ntmps4
  go_wp2_with fail
  refine (toByteS_any a c l w A.out hl).mono ?_
  rintro e1 w1 ⟨g1, rfl, gl1, r1, hb1⟩
  have B1 := Hid.mk' hb1
  have R1 := Hid.mk' r1
  clear hb1 r1
  go_wp2_with fail
  refine (toByteS_any e d p w1 (E.out.below B1.out) hm).mono ?_
  rintro e2 w2 ⟨g2, rfl, gl2, r2, hb2⟩
  have B2 := Hid.mk' (B1.out.trans (hb2.mono B1.out.size))
  have R1' := Hid.mk' (rowB R1.out hb2)
  have R2 := Hid.mk' r2
  clear hb2 r2 B1 R1
  go_wp2_with fail
  refine (specDT_any g1 0 l.length g2 0 p.length l p w2 (CAt.of_row R1'.out) (CAt.of_row R2.out) (Nat.le_refl _) (Nat.le_refl _)).mono ?_
  rintro e3 w3 ⟨s, rfl, o3, hb3⟩
  rw [Z.out]
  rw [ZL.out] at o3
  have NW := below_new w3 (.cells #[.int .i64 z, s] 31)
  have B3 := Hid.mk' ((B2.out.trans (hb3.mono B2.out.size)).trans (NW.mono (Nat.le_trans B2.out.size hb3.size)))
  have W3 : Hid (GP w2.heap.size w3.heap.size w3.heap.size (.int .i64 z) s L (w3.alloc (.cells #[.int .i64 z, s] 31))) :=
    ⟨rowp2 w3 31 _ _, o3.below NW, Nat.le_refl _, hb3.size⟩
  have q3 : (w3.alloc (.cells #[.int .i64 z, s] 31)).heap.size = w3.heap.size + 1 := by simp
  have Q3 := Hid.mk' q3
  obtain ⟨sa, sc, ev, _⟩ := o3.at
  subst ev
  clear B2 hb3 R1' R2 NW o3 gl1 gl2 q3
  generalize hwa : w3.alloc (.cells #[.int .i64 z, .slice sa L.length sc] 31) = wa at *
  go_wp2_with fail
  clear hwa
  have s3 := B3.out.size
  refine (toByteS_any a c l wa (A.out.below B3.out) hl).mono ?_
  rintro e4 w4 ⟨x0, rfl, lx0, rx0, hb4⟩
  have B4 := Hid.mk' (B3.out.trans (hb4.mono B3.out.size))
  have W4 := Hid.mk' (W3.out.below hb4)
  have X0 := Hid.mk' rx0
  have s4 := hb4.size
  clear hb4 rx0 B3 W3
  go_wp2_with fail
  refine (toByteS_any e d p w4 (E.out.below B4.out) hm).mono ?_
  rintro e5 w5 ⟨x3, rfl, lx3, rx3, hb5⟩
  have B5 := Hid.mk' (B4.out.trans (hb5.mono B4.out.size))
  have W5 := Hid.mk' (W4.out.below hb5)
  have X0' := Hid.mk' (rowB X0.out hb5)
  have X3 := Hid.mk' rx3
  have s5 := hb5.size
  have l30 : x0 < x3 := by have := X0.out.lt; omega
  clear hb5 rx3 B4 W4 X0
  go_wp2_with fail
  refine (implDT_any x0 0 l.length x3 0 p.length l p w5 (CAt.of_row X0'.out) (CAt.of_row X3.out) (Nat.le_refl _) (Nat.le_refl _)).mono ?_
  rintro e6 w6 ⟨u, rfl, o6, hb6⟩
  rw [Z.out]
  rw [ZL.out] at o6
  have NW := below_new w6 (.cells #[.int .i64 z, u] 31)
  have s6 := hb6.size
  have l5 := X3.out.lt
  have B6 := Hid.mk' ((B5.out.trans (hb6.mono B5.out.size)).trans (NW.mono (Nat.le_trans B5.out.size hb6.size)))
  have W6 := Hid.mk' ((W5.out.below hb6).below NW)
  have X06 := Hid.mk' (rowB (rowB X0'.out hb6) NW)
  have X36 := Hid.mk' (rowB (rowB X3.out hb6) NW)
  have G6 : Hid (GP w5.heap.size w6.heap.size w6.heap.size (.int .i64 z) u L (w6.alloc (.cells #[.int .i64 z, u] 31))) := ⟨rowp2 w6 31 _ _, o6.below NW, Nat.le_refl _, s6⟩
  obtain ⟨ua, uc, ev, _⟩ := o6.at
  subst ev
  clear hb6 B5 W5 X0' X3 o6 NW
  generalize hwc : w6.alloc (.cells #[.int .i64 z, .slice ua L.length uc] 31) = wc at *
  obtain ⟨z0, z1, z2⟩ := cells2 W6.out.box
  obtain ⟨q0, q1, q2⟩ := cells2 G6.out.box
  go_wp2_with fail
  clear hwc
  refine (eqPR_any z _ _ _ _ L wc (po_at G6.out.own) (po_at W6.out.own) n4).mono ?_
  rintro e7 w7 ⟨rfl, hb7⟩
  have B7 := Hid.mk' (B6.out.trans (hb7.mono B6.out.size))
  have W7 := Hid.mk' (W6.out.below hb7)
  have X07 := Hid.mk' (rowB X06.out hb7)
  have X37 := Hid.mk' (rowB X36.out hb7)
  have G7 := Hid.mk' (G6.out.below hb7)
  clear hb7 B6 W6 X06 X36 G6
  clear z0 z1 z2 q0 q1 q2
  go_wp2_with fail
  refine (toByteS_any a c l w7 (A.out.below B7.out) hl).mono ?_
  rintro e8 w8 ⟨y0, rfl, _, ry0, hb8⟩
  have Y8 := Hid.mk' ry0
  have B8 := Hid.mk' (B7.out.trans (hb8.mono B7.out.size))
  have W8 := Hid.mk' (W7.out.below hb8)
  have X08 := Hid.mk' (rowB X07.out hb8)
  have X38 := Hid.mk' (rowB X37.out hb8)
  have G8 := Hid.mk' (G7.out.below hb8)
  clear hb8 B7 W7 X07 X37 G7
  clear ry0
  go_wp2_with fail
  refine (eqByteS_any _ _ _ _ l w8 (BAt.of_row X08.out) (BAt.of_row Y8.out) hl).mono ?_
  rintro e9 w9 ⟨rfl, hb9⟩
  have B9 := Hid.mk' (B8.out.trans (hb9.mono B8.out.size))
  have W9 := Hid.mk' (W8.out.below hb9)
  have X09 := Hid.mk' (rowB X08.out hb9)
  have X39 := Hid.mk' (rowB X38.out hb9)
  have G9 := Hid.mk' (G8.out.below hb9)
  clear hb9 B8 W8 X08 X38 G8
  clear Y8
  go_wp2_with fail
  refine (toByteS_any e d p w9 (E.out.below B9.out) hm).mono ?_
  rintro e10 w10 ⟨y3, rfl, _, ry3, hb10⟩
  have Y10 := Hid.mk' ry3
  have B10 := Hid.mk' (B9.out.trans (hb10.mono B9.out.size))
  have W10 := Hid.mk' (W9.out.below hb10)
  have X010 := Hid.mk' (rowB X09.out hb10)
  have X310 := Hid.mk' (rowB X39.out hb10)
  have G10 := Hid.mk' (G9.out.below hb10)
  clear hb10 B9 W9 X09 X39 G9
  clear ry3
  go_wp2_with fail
  refine (eqByteS_any _ _ _ _ p w10 (BAt.of_row X310.out) (BAt.of_row Y10.out) hm).mono ?_
  rintro e11 w11 ⟨rfl, hb11⟩
  have B11 := Hid.mk' (B10.out.trans (hb11.mono B10.out.size))
  have W11 := Hid.mk' (W10.out.below hb11)
  have X011 := Hid.mk' (rowB X010.out hb11)
  have X311 := Hid.mk' (rowB X310.out hb11)
  have G11 := Hid.mk' (G10.out.below hb11)
  clear hb11 B10 W10 X010 X310 G10
  clear Y10
  go_wp2_with fail
  refine (markByteS_row x0 l.length l.length l.length 1 _ w11 X011.out (Nat.le_refl _) (by omega)).mono ?_
  rintro e12 w12 ⟨rfl, _, hk12⟩
  have sz := B11.out.size
  have B12 := Hid.mk' (B11.out.trans (hk12.below (B := w.heap.size) (by omega) (by omega)))
  have W12 := Hid.mk' (W11.out.kept hk12 (.inr (by have := Q3.out; omega)))
  have X312 := Hid.mk' (rowK X311.out hk12 (.inr (by omega)))
  have G12 := Hid.mk' (G11.out.kept hk12 (.inl (by omega)))
  clear hk12 B11 W11 X011 X311 G11
  go_wp2_with fail
  refine (markByteS_row x3 p.length p.length p.length (1 + l.length) _ w12 X312.out (Nat.le_refl _) (by omega)).mono ?_
  rintro e13 w13 ⟨rfl, _, hk13⟩
  have B13 := Hid.mk' (B12.out.trans (hk13.below (B := w.heap.size) (by omega) B12.out.size))
  have W13 := Hid.mk' (W12.out.kept hk13 (.inr (by have := Q3.out; omega)))
  have G13 := Hid.mk' (G12.out.kept hk13 (.inl (by omega)))
  clear hk13 B12 W12 X312 G12
  obtain ⟨z0, z1, z2⟩ := cells2 W13.out.box
  obtain ⟨q0, q1, q2⟩ := cells2 G13.out.box
  go_wp2_with fail
  refine (eqPR_any z _ _ _ _ L w13 (po_at G13.out.own) (po_at W13.out.own) n4).mono ?_
  rintro e14 w14 ⟨rfl, hb14⟩
  have B14 := Hid.mk' (B13.out.trans (hb14.mono B13.out.size))
  have W14 := Hid.mk' (W13.out.below hb14)
  have G14 := Hid.mk' (G13.out.below hb14)
  clear hb14 B13 W13 G13
  clear z0 z1 z2 q0 q1 q2
  obtain ⟨q0, q1, q2⟩ := cells2 G14.out.box
  go_wp2_with fail
  refine (markPR_any z G14.out.own n5).mono ?_
  rintro e15 w15 ⟨rfl, o15, wm, hbm, hkm⟩
  have B15 := Hid.mk' ((B14.out.trans (hbm.mono B14.out.size)).trans (hkm.below (B := w.heap.size) (by omega) (by have := B14.out.size; have := hbm.size; omega)))
  have W15 := Hid.mk' ((W14.out.below hbm).kept hkm (.inr (by have := Q3.out; omega)))
  have R15 := Hid.mk' (rowK (rowB G14.out.box hbm) hkm (.inr (Nat.le_refl _)))
  have G15 := Hid.mk' o15
  clear hbm hkm o15 B14 W14 G14 q0 q1 q2
  obtain ⟨q0, q1, q2⟩ := cells2 R15.out
  go_wp2_with fail
  refine (heldPR_any z _ _ L w15 (po_mk G15.out) n5).mono ?_
  rintro e16 w16 ⟨rfl, hb16⟩
  have zz : ¬ (((1 + 2 * L.length + xsz L : Nat) : Int) < 0) := by omega
  have B16 := Hid.mk' (B15.out.trans (hb16.mono B15.out.size))
  have W16 := Hid.mk' (W15.out.below hb16)
  have G16 := Hid.mk' (G15.out.below hb16)
  have R16 := Hid.mk' (rowB R15.out hb16)
  clear hb16 B15 W15 G15 R15
  clear q0 q1 q2
  go_wp2_with fail
  refine (toByteS_any a c l w16 (A.out.below B16.out) hl).mono ?_
  rintro e17 w17 ⟨v0, rfl, _, rv0, hb17⟩
  have V0 := Hid.mk' rv0
  have B17 := Hid.mk' (B16.out.trans (hb17.mono B16.out.size))
  have W17 := Hid.mk' (W16.out.below hb17)
  have G17 := Hid.mk' (G16.out.below hb17)
  have R17 := Hid.mk' (rowB R16.out hb17)
  clear hb17 B16 W16 G16 R16
  clear rv0
  go_wp2_with fail
  refine (toByteS_any e d p w17 (E.out.below B17.out) hm).mono ?_
  rintro e18 w18 ⟨v3, rfl, _, rv3, hb18⟩
  have V0' := Hid.mk' (rowB V0.out hb18)
  have V3 := Hid.mk' rv3
  have B18 := Hid.mk' (B17.out.trans (hb18.mono B17.out.size))
  have W18 := Hid.mk' (W17.out.below hb18)
  have G18 := Hid.mk' (G17.out.below hb18)
  have R18 := Hid.mk' (rowB R17.out hb18)
  clear hb18 B17 W17 G17 R17
  clear rv3 V0
  go_wp2_with fail
  refine (implDT_any v0 0 l.length v3 0 p.length l p w18 (CAt.of_row V0'.out) (CAt.of_row V3.out) (Nat.le_refl _) (Nat.le_refl _)).mono ?_
  rintro e19 w19 ⟨h, rfl, o19, hb19⟩
  rw [Z.out]
  rw [ZL.out] at o19
  have NW := below_new w19 (.cells #[.int .i64 z, h] 31)
  have B19 := Hid.mk' ((B18.out.trans (hb19.mono B18.out.size)).trans (NW.mono (Nat.le_trans B18.out.size hb19.size)))
  have W19 := Hid.mk' ((W18.out.below hb19).below NW)
  have G19 := Hid.mk' ((G18.out.below hb19).below NW)
  have R19 := Hid.mk' (rowB (rowB R18.out hb19) NW)
  have O19 := Hid.mk' (o19.below NW)
  have Y19 := Hid.mk' (rowp2 w19 31 (.int .i64 z) h)
  obtain ⟨ha, hc, ev, _⟩ := o19.at
  subst ev
  clear hb19 B18 W18 G18 R18 V0' V3 o19 NW
  generalize hwd : w19.alloc (.cells #[.int .i64 z, .slice ha L.length hc] 31) = wd at *
  obtain ⟨z0, z1, z2⟩ := cells2 W19.out.box
  obtain ⟨q0, q1, q2⟩ := cells2 Y19.out
  go_wp2_with fail
  clear hwd
  refine (eqPR_any z _ _ _ _ L wd (po_at O19.out) (po_at W19.out.own) n4).mono ?_
  rintro e20 w20 ⟨rfl, hb20⟩
  have B20 := Hid.mk' (B19.out.trans (hb20.mono B19.out.size))
  have G20 := Hid.mk' (G19.out.below hb20)
  have R20 := Hid.mk' (rowB R19.out hb20)
  clear hb20 B19 W19 G19 R19 O19 Y19 z0 z1 z2 q0 q1 q2
  obtain ⟨q0, q1, q2⟩ := cells2 R20.out
  go_wp2_with fail
  refine (heldPR_any z _ _ L w20 (po_mk G20.out) n5).mono ?_
  rintro e21 w21 ⟨rfl, hb21⟩
  have B21 := Hid.mk' (B20.out.trans (hb21.mono B20.out.size))
  clear hb21 B20 G20 R20 q0 q1 q2
  go_wp2
  go_ret
  exact ⟨rfl, B21.out⟩

end Go.Proofs.Ytjkmidmgaaclfaa
