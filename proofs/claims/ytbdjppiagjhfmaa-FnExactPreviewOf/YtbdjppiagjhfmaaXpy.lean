/- The law on PreviewOf. -/
import Derived.Test.YtbdjppiagjhfmaaXpx
import Derived.Test.YtbdjppiagjhfmaaXpw
import Derived.Test.YtbdjppiagjhfmaaLaw
namespace Go.Proofs.Ytbdjppiagjhfmaa
open Go.RowKit
set_option linter.unusedVariables false
set_option linter.unusedSimpArgs false

theorem XXM.keepB {g hi : Nat} {l : List (List XK)} {w w' : World} (h : XXM g hi l w) (hb : Below w.heap.size w w') (hhi : hi ≤ w.heap.size) : XXM g hi l w' := h.keep (fun q _ hq => hb.block q (by omega))

set_option maxRecDepth 100000 in
set_option maxHeartbeats 6400000 in
theorem lawPV_any (a : Option Addr) (c : Nat) (dt : List Int) (e : Option Addr) (d : Nat) (p : List (List XK)) (w : World) (ha : BAt w a dt) (k1 : (dt.length : Int) ≤ 9223372036854775807) (he : XssAt w e p) (hw : WideXX p) (k2 : (p.length : Int) ≤ 9223372036854775807) :
    Calls Try.prog 4 #[.slice a dt.length c, .slice e p.length d] w fun ev w' => ev = .returned (.bool true) ∧ Below w.heap.size w w' := by
  by_cases hl : (dt.length : Int) ≤ 1048576
  rotate_left
  · clear ha he
    go_enter Try.func4, Try.ntmps4
    go_wp2
    go_ret
    exact ⟨rfl, Below.refl _ _⟩
  have KS := szPatchSS_any e d p 1048576 w he hw (by omega) (by omega) k2
  have A := Hid.mk' ha
  have E := Hid.mk' he
  have WX := Hid.mk' hw
  clear ha he hw
  by_cases g1 : 1048576 < (p.length : Int) + xxsz p
  · rw [if_pos g1] at KS
    have KS := Hid.mk' KS
    go_enter Try.func4, Try.ntmps4
    go_wp2_with fail
    refine KS.out.mono ?_
    rintro e w1 ⟨rfl, hb1⟩
    have HB := Hid.mk' hb1
    clear hb1 KS
    go_wp2
    go_ret
    exact ⟨rfl, HB.out⟩
  rw [if_neg g1] at KS
  have KS := Hid.mk' KS
  have zz : ¬ (1048576 - (p.length : Int) - xxsz p < 0) := by omega
  have hm : (p.length : Int) + xxsz p ≤ 1048576 := by omega
  have hl' : dt.length ≤ 1048576 := by omega
  have n3 : ((pvA dt p).2.length : Int) ≤ 1048576 := by have := pvA_len dt p hl; exact this
  obtain ⟨z, hz⟩ : ∃ z, (pvA dt p).1 = z := ⟨_, rfl⟩
  have Z := Hid.mk' hz
  clear hz
  go_enter Try.func4, Try.ntmps4
  go_wp2_with fail
  refine KS.out.mono ?_
  rintro e0 w0 ⟨rfl, hb0⟩
  have B0 := Hid.mk' hb0
  clear hb0 KS g1
  go_wp2_with fail
  clear zz
  refine (toByteS_any a c dt w0 (A.out.below B0.out) hl).mono ?_
  rintro e1 w1 ⟨g1, rfl, gl1, r1, hb1⟩
  have B1 := Hid.mk' (B0.out.trans (hb1.mono B0.out.size))
  have R1 := Hid.mk' r1
  clear hb1 r1
  go_wp2_with fail
  refine (toPatchSS_any e d p w1 (E.out.below B1.out) hm).mono ?_
  rintro e2 w2 ⟨rfl, t2⟩
  have B2 := Hid.mk' (B1.out.trans (t2.bl.mono B1.out.size))
  have R1' := Hid.mk' (rowB R1.out t2.bl)
  have T2 := Hid.mk' t2.at
  clear t2 B1 R1
  go_wp2_with fail
  refine (specPV_any (some ⟨g1, 0, none⟩) dt.length dt (some ⟨w1.heap.size, 0, none⟩) p.length p w2 (BAt.of_row R1'.out) T2.out WX.out hl' (by omega)).mono ?_
  rintro e3 w3 ⟨s, rfl, o3, i3, hb3⟩
  rw [Z.out]
  have NW := below_new w3 (.cells #[.int .i64 z, s] 39)
  have B3 := Hid.mk' ((B2.out.trans (hb3.mono B2.out.size)).trans (NW.mono (Nat.le_trans B2.out.size hb3.size)))
  have W3 : Hid (WantB (w3.alloc (.cells #[.int .i64 z, s] 39)) w3.heap.size (.int .i64 z) s (pvA dt p).2 (w3.alloc (.cells #[.int .i64 z, s] 39))) :=
    ⟨Below.refl _ _, rowp2 w3 39 _ _, o3.below NW, by simp, i3.mono (Nat.zero_le _) (by simp)⟩
  obtain ⟨sa, sc, rfl, _⟩ := o3.len
  clear B2 hb3 R1' T2 NW o3 i3 gl1
  generalize hwa : w3.alloc (.cells #[.int .i64 z, .slice sa (pvA dt p).2.length sc] 39) = wa at *
  go_wp2_with fail
  clear hwa
  have s3 := B3.out.size
  refine (toByteS_any a c dt wa (A.out.below B3.out) hl).mono ?_
  rintro e4 w4 ⟨x0, rfl, lx0, rx0, hb4⟩
  have B4 := Hid.mk' (B3.out.trans (hb4.mono B3.out.size))
  have W4 := Hid.mk' (W3.out.below hb4)
  have X0 := Hid.mk' rx0
  have s4 := hb4.size
  clear hb4 rx0 B3 W3
  go_wp2_with fail
  refine (toPatchSS_any e d p w4 (E.out.below B4.out) hm).mono ?_
  rintro e5 w5 ⟨rfl, t5⟩
  have B5 := Hid.mk' (B4.out.trans (t5.bl.mono B4.out.size))
  have W5 := Hid.mk' (W4.out.below t5.bl)
  have X0' := Hid.mk' (rowB X0.out t5.bl)
  have T5 := Hid.mk' t5.at
  have M5 := Hid.mk' t5.xxm
  have s5 := t5.bl.size
  have l30 : x0 < w4.heap.size := X0.out.lt
  clear t5 B4 W4 X0
  go_wp2_with fail
  refine (implPV_any (some ⟨x0, 0, none⟩) dt.length dt (some ⟨w4.heap.size, 0, none⟩) p.length p w5 (BAt.of_row X0'.out) T5.out WX.out hl' (by omega)).mono ?_
  rintro e6 w6 ⟨u, rfl, o6, i6, hb6⟩
  rw [Z.out]
  have NW := below_new w6 (.cells #[.int .i64 z, u] 39)
  have s6 := hb6.size
  have B6 := Hid.mk' ((B5.out.trans (hb6.mono B5.out.size)).trans (NW.mono (Nat.le_trans B5.out.size hb6.size)))
  have W6 := Hid.mk' ((W5.out.below hb6).below NW)
  have X06 := Hid.mk' (rowB (rowB X0'.out hb6) NW)
  have T6 := Hid.mk' ((T5.out.below hb6).below NW)
  have M6 := Hid.mk' ((M5.out.keepB hb6 (Nat.le_refl _)).keepB NW s6)
  have G6 : Hid (GotB w5.heap.size w6.heap.size w6.heap.size (.int .i64 z) u (pvA dt p).2 (w6.alloc (.cells #[.int .i64 z, u] 39))) := ⟨rowp2 w6 39 _ _, o6.below NW, i6, Nat.le_refl _⟩
  have sM6 : w5.heap.size ≤ (w6.alloc (.cells #[.int .i64 z, u] 39)).heap.size := by simp; omega
  obtain ⟨ua, uc, rfl, _⟩ := o6.len
  clear hb6 B5 W5 X0' T5 M5 o6 i6 NW
  generalize hwc : w6.alloc (.cells #[.int .i64 z, .slice ua (pvA dt p).2.length uc] 39) = wc at *
  obtain ⟨z0, z1, z2⟩ := cells2 W6.out.box
  obtain ⟨q0, q1, q2⟩ := cells2 G6.out.box
  go_wp2_with fail
  clear hwc
  refine (eqBR_any _ _ _ (pvA dt p).2 wc G6.out.own.len W6.out.own.len n3).mono ?_
  rintro e7 w7 ⟨rfl, hb7⟩
  have sM7 := Nat.le_trans sM6 hb7.size
  have B7 := Hid.mk' (B6.out.trans (hb7.mono B6.out.size))
  have W7 := Hid.mk' (W6.out.below hb7)
  have X07 := Hid.mk' (rowB X06.out hb7)
  have T7 := Hid.mk' (T6.out.below hb7)
  have M7 := Hid.mk' (M6.out.keepB hb7 sM6)
  have G7 := Hid.mk' (G6.out.below hb7)
  clear hb7 B6 W6 X06 T6 M6 G6
  clear z0 z1 z2 q0 q1 q2
  go_wp2_with fail
  refine (toByteS_any a c dt w7 (A.out.below B7.out) hl).mono ?_
  rintro e8 w8 ⟨y0, rfl, _, ry0, hb8⟩
  have sM8 := Nat.le_trans sM7 hb8.size
  have Y8 := Hid.mk' ry0
  have B8 := Hid.mk' (B7.out.trans (hb8.mono B7.out.size))
  have W8 := Hid.mk' (W7.out.below hb8)
  have X08 := Hid.mk' (rowB X07.out hb8)
  have T8 := Hid.mk' (T7.out.below hb8)
  have M8 := Hid.mk' (M7.out.keepB hb8 sM7)
  have G8 := Hid.mk' (G7.out.below hb8)
  clear hb8 B7 W7 X07 T7 M7 G7
  clear ry0
  go_wp2_with fail
  refine (eqByteS_any _ _ _ _ dt w8 (BAt.of_row X08.out) (BAt.of_row Y8.out) hl).mono ?_
  rintro e9 w9 ⟨rfl, hb9⟩
  have sM9 := Nat.le_trans sM8 hb9.size
  have B9 := Hid.mk' (B8.out.trans (hb9.mono B8.out.size))
  have W9 := Hid.mk' (W8.out.below hb9)
  have X09 := Hid.mk' (rowB X08.out hb9)
  have T9 := Hid.mk' (T8.out.below hb9)
  have M9 := Hid.mk' (M8.out.keepB hb9 sM8)
  have G9 := Hid.mk' (G8.out.below hb9)
  clear hb9 B8 W8 X08 T8 M8 G8
  clear Y8
  go_wp2_with fail
  refine (toPatchSS_any e d p w9 (E.out.below B9.out) hm).mono ?_
  rintro e10 w10 ⟨rfl, t10⟩
  have hb10 := t10.bl
  have Y10 := Hid.mk' t10.at
  have sM10 := Nat.le_trans sM9 hb10.size
  have B10 := Hid.mk' (B9.out.trans (hb10.mono B9.out.size))
  have W10 := Hid.mk' (W9.out.below hb10)
  have X010 := Hid.mk' (rowB X09.out hb10)
  have T10 := Hid.mk' (T9.out.below hb10)
  have M10 := Hid.mk' (M9.out.keepB hb10 sM9)
  have G10 := Hid.mk' (G9.out.below hb10)
  clear hb10 B9 W9 X09 T9 M9 G9
  clear t10
  go_wp2_with fail
  refine (eqPatchSS_any _ _ _ _ p w10 T10.out Y10.out hm).mono ?_
  rintro e11 w11 ⟨rfl, hb11⟩
  have sM11 := Nat.le_trans sM10 hb11.size
  have B11 := Hid.mk' (B10.out.trans (hb11.mono B10.out.size))
  have W11 := Hid.mk' (W10.out.below hb11)
  have X011 := Hid.mk' (rowB X010.out hb11)
  have M11 := Hid.mk' (M10.out.keepB hb11 sM10)
  have G11 := Hid.mk' (G10.out.below hb11)
  clear hb11 B10 W10 X010 M10 G10
  clear Y10 T10
  go_wp2_with fail
  refine (markByteS_row x0 dt.length dt.length dt.length 1 _ w11 X011.out (Nat.le_refl _) (by omega)).mono ?_
  rintro e12 w12 ⟨rfl, _, hk12⟩
  have sz := B11.out.size
  have B12 := Hid.mk' (B11.out.trans (hk12.below (B := w.heap.size) (by omega) (by omega)))
  have W12 := Hid.mk' (W11.out.kept hk12 (by omega))
  have M12 := Hid.mk' (M11.out.keep (fun q hq1 hq2 => hk12.block q (by omega) (by omega)))
  have G12 := Hid.mk' (G11.out.kept hk12 (by omega) s6)
  have sM12 := Nat.le_trans sM11 hk12.size
  clear hk12 B11 W11 X011 M11 G11
  go_wp2_with fail
  refine (markPatchSS_bd w4.heap.size w5.heap.size p.length (1 + dt.length) p w12 M12.out sM12 hm (by omega) (by omega)).mono ?_
  rintro e13 w13 ⟨⟨zk, rfl, zk0, _⟩, hk13⟩
  have B13 := Hid.mk' (B12.out.trans (hk13.below (B := w.heap.size) (by omega) B12.out.size))
  have W13 := Hid.mk' (W12.out.kept hk13 (by omega))
  have G13 := Hid.mk' (G12.out.kept hk13 (Nat.le_refl _) s6)
  have zk1 : ¬ ((zk : Int) < 0) := by omega
  clear hk13 B12 W12 M12 G12
  obtain ⟨z0, z1, z2⟩ := cells2 W13.out.box
  obtain ⟨q0, q1, q2⟩ := cells2 G13.out.box
  go_wp2_with fail
  refine (eqBR_any _ _ _ (pvA dt p).2 w13 G13.out.own.len W13.out.own.len n3).mono ?_
  rintro e14 w14 ⟨rfl, hb14⟩
  have B14 := Hid.mk' (B13.out.trans (hb14.mono B13.out.size))
  have W14 := Hid.mk' (W13.out.below hb14)
  have G14 := Hid.mk' (G13.out.below hb14)
  clear hb14 B13 W13 G13
  clear z0 z1 z2 q0 q1 q2
  obtain ⟨q0, q1, q2⟩ := cells2 G14.out.box
  go_wp2_with fail
  refine (markBR_any _ _ (pvA dt p).2 w14 G14.out.own n3).mono ?_
  rintro e15 w15 ⟨rfl, o15, wm, hbm, htm⟩
  have hkm := htm.kept G14.out.inn
  have B15 := Hid.mk' ((B14.out.trans (hbm.mono B14.out.size)).trans (hkm.below (B := w.heap.size) (by omega) (by have := B14.out.size; have := hbm.size; omega)))
  have W15 := Hid.mk' ((W14.out.below hbm).kept hkm (by omega))
  have G15 : Hid (GotB w5.heap.size w6.heap.size w6.heap.size _ _ (mb 1 (pvA dt p).2.length) w15) := ⟨rowK (rowB G14.out.box hbm) hkm (.inr (Nat.le_refl _)), o15, G14.out.inn, Nat.le_refl _⟩
  clear hbm htm hkm o15 B14 W14 G14 q0 q1 q2
  obtain ⟨q0, q1, q2⟩ := cells2 G15.out.box
  go_wp2_with fail
  have L15 : Hid (∃ a d, Value.slice ua (pvA dt p).2.length uc = .slice a (pvA dt p).2.length d ∧ BAt w15 a (mb 1 (pvA dt p).2.length)) := by
    obtain ⟨a, d, e, hb⟩ := G15.out.own.len
    rw [mb_len] at e
    exact ⟨a, d, e, hb⟩
  refine (heldBR_any _ _ (pvA dt p).2.length w15 L15.out n3).mono ?_
  rintro e16 w16 ⟨rfl, hb16⟩
  have B16 := Hid.mk' (B15.out.trans (hb16.mono B15.out.size))
  have W16 := Hid.mk' (W15.out.below hb16)
  have G16 := Hid.mk' (G15.out.below hb16)
  clear hb16 B15 W15 G15
  clear L15 q0 q1 q2
  go_wp2_with fail
  refine (toByteS_any a c dt w16 (A.out.below B16.out) hl).mono ?_
  rintro e17 w17 ⟨v0, rfl, _, rv0, hb17⟩
  have V0 := Hid.mk' rv0
  have B17 := Hid.mk' (B16.out.trans (hb17.mono B16.out.size))
  have W17 := Hid.mk' (W16.out.below hb17)
  have G17 := Hid.mk' (G16.out.below hb17)
  clear hb17 B16 W16 G16
  clear rv0
  go_wp2_with fail
  refine (toPatchSS_any e d p w17 (E.out.below B17.out) hm).mono ?_
  rintro e18 w18 ⟨rfl, t18⟩
  have hb18 := t18.bl
  have V0' := Hid.mk' (rowB V0.out hb18)
  have V3 := Hid.mk' t18.at
  have B18 := Hid.mk' (B17.out.trans (hb18.mono B17.out.size))
  have W18 := Hid.mk' (W17.out.below hb18)
  have G18 := Hid.mk' (G17.out.below hb18)
  clear hb18 B17 W17 G17
  clear t18 V0
  go_wp2_with fail
  refine (implPV_any (some ⟨v0, 0, none⟩) dt.length dt (some ⟨w17.heap.size, 0, none⟩) p.length p w18 (BAt.of_row V0'.out) V3.out WX.out hl' (by omega)).mono ?_
  rintro e19 w19 ⟨h, rfl, o19, i19, hb19⟩
  rw [Z.out]
  have NW := below_new w19 (.cells #[.int .i64 z, h] 39)
  have B19 := Hid.mk' ((B18.out.trans (hb19.mono B18.out.size)).trans (NW.mono (Nat.le_trans B18.out.size hb19.size)))
  have W19 := Hid.mk' ((W18.out.below hb19).below NW)
  have G19 := Hid.mk' ((G18.out.below hb19).below NW)
  have O19 := Hid.mk' (o19.below NW)
  have Y19 := Hid.mk' (rowp2 w19 39 (.int .i64 z) h)
  obtain ⟨ha, hc, rfl, _⟩ := o19.len
  clear hb19 B18 W18 G18 V0' V3 o19 i19 NW
  generalize hwd : w19.alloc (.cells #[.int .i64 z, .slice ha (pvA dt p).2.length hc] 39) = wd at *
  obtain ⟨z0, z1, z2⟩ := cells2 W19.out.box
  obtain ⟨q0, q1, q2⟩ := cells2 Y19.out
  go_wp2_with fail
  clear hwd
  refine (eqBR_any _ _ _ (pvA dt p).2 wd O19.out.len W19.out.own.len n3).mono ?_
  rintro e20 w20 ⟨rfl, hb20⟩
  have B20 := Hid.mk' (B19.out.trans (hb20.mono B19.out.size))
  have G20 := Hid.mk' (G19.out.below hb20)
  clear hb20 B19 W19 G19 O19 Y19 z0 z1 z2 q0 q1 q2
  obtain ⟨q0, q1, q2⟩ := cells2 G20.out.box
  go_wp2_with fail
  have L20 : Hid (∃ a d, Value.slice ua (pvA dt p).2.length uc = .slice a (pvA dt p).2.length d ∧ BAt w20 a (mb 1 (pvA dt p).2.length)) := by
    obtain ⟨a, d, e, hb⟩ := G20.out.own.len
    rw [mb_len] at e
    exact ⟨a, d, e, hb⟩
  refine (heldBR_any _ _ (pvA dt p).2.length w20 L20.out n3).mono ?_
  rintro e21 w21 ⟨rfl, hb21⟩
  have B21 := Hid.mk' (B20.out.trans (hb21.mono B20.out.size))
  clear hb21 B20 G20 L20 q0 q1 q2
  go_wp2
  go_ret
  exact ⟨rfl, B21.out⟩

end Go.Proofs.Ytbdjppiagjhfmaa
