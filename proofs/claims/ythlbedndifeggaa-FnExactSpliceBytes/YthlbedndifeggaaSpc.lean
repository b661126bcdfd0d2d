/- The walk of the law on SpliceBytes. -/
import Derived.Test.YthlbedndifeggaaSpb
import Derived.Test.YthlbedndifeggaaLaw
namespace Go.Proofs.Ythlbedndifeggaa
open Go.RowKit
set_option linter.unusedVariables false
set_option linter.unusedSimpArgs false

/-- Bytes of the law's own, in a row. -/
theorem rowBK {w w' : World} {g n lo hi : Nat} {f : Nat → Value} (h : w.rowIs g 5 n f) (hk : KeptIn lo hi w w') (hg : g < lo ∨ hi ≤ g) : w'.rowIs g 5 n f := rowK h hk hg

set_option maxHeartbeats 3200000 in
theorem lawSB_any (a : Option Addr) (c : Nat) (l : List Int) (at_ n : Int) (e : Option Addr) (d : Nat) (p : List Int) (w : World) (ha : BAt w a l) (k1 : (l.length : Int) ≤ 9223372036854775807) (a1 : -9223372036854775808 ≤ at_) (a2 : at_ ≤ 9223372036854775807) (n1 : -9223372036854775808 ≤ n) (n2 : n ≤ 9223372036854775807) (he : BAt w e p) (k2 : (p.length : Int) ≤ 9223372036854775807) :
    Calls Try.prog 3 #[.slice a l.length c, .int .i64 at_, .int .i64 n, .slice e p.length d] w fun ev w' => ev = .returned (.bool true) ∧ Below w.heap.size w w' := by
  by_cases hl : (l.length : Int) ≤ 1048576
  · by_cases hm : (p.length : Int) ≤ 1048576
    · have hl' : l.length ≤ 1048576 := by omega
      have hm' : p.length ≤ 1048576 := by omega
      have n3 : ((spB l at_ n p).length : Int) ≤ 1048576 := by have := spB_len l at_ n p; omega
      obtain ⟨z, hz⟩ : ∃ z, spC l.length at_ n p.length = z := ⟨_, rfl⟩
      have A := Hid.mk' ha
      have E := Hid.mk' he
      have A1 := Hid.mk' a1
      have A2 := Hid.mk' a2
      have N1 := Hid.mk' n1
      have N2 := Hid.mk' n2
      have Z := Hid.mk' hz
      clear ha he hz a1 a2 n1 n2
      go_enter Try.func3, Try.ntmps3
      go_wp2_with fail
      refine (toByteS_any a c l w A.out hl).mono ?_
      rintro e1 w1 ⟨g1, rfl, gl1, r1, hb1⟩
      have B1 := Hid.mk' hb1
      have R1 := Hid.mk' r1
      clear hb1 r1
      go_wp2_with fail
      refine (toByteS_any e d p w1 (E.out.below B1.out) hm).mono ?_
      rintro e2 w2 ⟨g2, rfl, gl2, r2, hb2⟩
      have B2 := Hid.mk' (B1.out.trans (hb2.mono B1.out.size))
      have R1' := Hid.mk' (rowB R1.out hb2)
      have R2 := Hid.mk' r2
      clear hb2 r2 B1 R1
      go_wp2_with fail
      refine (specSB_any g1 0 l.length l at_ n (some ⟨g2, 0, none⟩) p.length p w2 (CAt.of_row R1'.out) (Nat.le_refl _) (BAt.of_row R2.out) hl' hm' A1.out A2.out N1.out N2.out).mono ?_
      rintro e3 w3 ⟨s, rfl, o3, i3, hb3⟩
      rw [Z.out]
      have NW := below_new w3 (.cells #[.int .i64 z, s] 24)
      have B3 := Hid.mk' ((B2.out.trans (hb3.mono B2.out.size)).trans (NW.mono (Nat.le_trans B2.out.size hb3.size)))
      have W3 : Hid (WantB (w3.alloc (.cells #[.int .i64 z, s] 24)) w3.heap.size (.int .i64 z) s (spB l at_ n p) (w3.alloc (.cells #[.int .i64 z, s] 24))) :=
        ⟨Below.refl _ _, rowp2 w3 24 _ _, o3.below NW, by simp, i3.mono (Nat.zero_le _) (by simp)⟩
      obtain ⟨sa, sc, rfl, _⟩ := o3.len
      clear B2 hb3 R1' R2 NW o3 i3 gl1 gl2
      generalize hwa : w3.alloc (.cells #[.int .i64 z, .slice sa (spB l at_ n p).length sc] 24) = wa at *
      go_wp2_with fail
      clear hwa
      have s3 := B3.out.size
      refine (toByteS_any a c l wa (A.out.below B3.out) hl).mono ?_
      rintro e4 w4 ⟨x0, rfl, lx0, rx0, hb4⟩
      have B4 := Hid.mk' (B3.out.trans (hb4.mono B3.out.size))
      have W4 := Hid.mk' (W3.out.below hb4)
      have X0 := Hid.mk' rx0
      have s4 := hb4.size
      clear hb4 rx0 B3 W3
      go_wp2_with fail
      refine (toByteS_any e d p w4 (E.out.below B4.out) hm).mono ?_
      rintro e5 w5 ⟨x3, rfl, lx3, rx3, hb5⟩
      have B5 := Hid.mk' (B4.out.trans (hb5.mono B4.out.size))
      have W5 := Hid.mk' (W4.out.below hb5)
      have X0' := Hid.mk' (rowB X0.out hb5)
      have X3 := Hid.mk' rx3
      have s5 := hb5.size
      have l30 : x0 < x3 := by have := X0.out.lt; omega
      clear hb5 rx3 B4 W4 X0
      go_wp2_with fail
      refine (implSB_any x0 0 l.length l at_ n (some ⟨x3, 0, none⟩) p.length p w5 (CAt.of_row X0'.out) (Nat.le_refl _) (BAt.of_row X3.out) hl' hm' A1.out A2.out N1.out N2.out).mono ?_
      rintro e6 w6 ⟨u, rfl, o6, i6, hb6⟩
      rw [Z.out]
      have NW := below_new w6 (.cells #[.int .i64 z, u] 24)
      have s6 := hb6.size
      have l5 := X3.out.lt
      have B6 := Hid.mk' ((B5.out.trans (hb6.mono B5.out.size)).trans (NW.mono (Nat.le_trans B5.out.size hb6.size)))
      have W6 := Hid.mk' ((W5.out.below hb6).below NW)
      have X06 := Hid.mk' (rowB (rowB X0'.out hb6) NW)
      have X36 := Hid.mk' (rowB (rowB X3.out hb6) NW)
      have G6 : Hid (GotB w5.heap.size w6.heap.size w6.heap.size (.int .i64 z) u (spB l at_ n p) (w6.alloc (.cells #[.int .i64 z, u] 24))) := ⟨rowp2 w6 24 _ _, o6.below NW, i6, Nat.le_refl _⟩
      obtain ⟨ua, uc, rfl, _⟩ := o6.len
      clear hb6 B5 W5 X0' X3 o6 i6 NW
      generalize hwc : w6.alloc (.cells #[.int .i64 z, .slice ua (spB l at_ n p).length uc] 24) = wc at *
      obtain ⟨z0, z1, z2⟩ := cells2 W6.out.box
      obtain ⟨q0, q1, q2⟩ := cells2 G6.out.box
      go_wp2_with fail
      clear hwc
      refine (eqBR_any _ _ _ (spB l at_ n p) wc G6.out.own.len W6.out.own.len n3).mono ?_
      rintro e7 w7 ⟨rfl, hb7⟩
      have B7 := Hid.mk' (B6.out.trans (hb7.mono B6.out.size))
      have W7 := Hid.mk' (W6.out.below hb7)
      have X07 := Hid.mk' (rowB X06.out hb7)
      have X37 := Hid.mk' (rowB X36.out hb7)
      have G7 := Hid.mk' (G6.out.below hb7)
      clear hb7 B6 W6 X06 X36 G6 z0 z1 z2 q0 q1 q2
      go_wp2_with fail
      refine (toByteS_any a c l w7 (A.out.below B7.out) hl).mono ?_
      rintro e8 w8 ⟨y0, rfl, _, ry0, hb8⟩
      have B8 := Hid.mk' (B7.out.trans (hb8.mono B7.out.size))
      have W8 := Hid.mk' (W7.out.below hb8)
      have X08 := Hid.mk' (rowB X07.out hb8)
      have X38 := Hid.mk' (rowB X37.out hb8)
      have G8 := Hid.mk' (G7.out.below hb8)
      have Y8 := Hid.mk' ry0
      clear hb8 ry0 B7 W7 X07 X37 G7
      go_wp2_with fail
      refine (eqByteS_any _ _ _ _ l w8 (BAt.of_row X08.out) (BAt.of_row Y8.out) hl).mono ?_
      rintro e9 w9 ⟨rfl, hb9⟩
      have B9 := Hid.mk' (B8.out.trans (hb9.mono B8.out.size))
      have W9 := Hid.mk' (W8.out.below hb9)
      have X09 := Hid.mk' (rowB X08.out hb9)
      have X39 := Hid.mk' (rowB X38.out hb9)
      have G9 := Hid.mk' (G8.out.below hb9)
      clear hb9 B8 W8 X08 X38 G8 Y8
      go_wp2_with fail
      refine (toByteS_any e d p w9 (E.out.below B9.out) hm).mono ?_
      rintro e10 w10 ⟨y3, rfl, _, ry3, hb10⟩
      have B10 := Hid.mk' (B9.out.trans (hb10.mono B9.out.size))
      have W10 := Hid.mk' (W9.out.below hb10)
      have X010 := Hid.mk' (rowB X09.out hb10)
      have X310 := Hid.mk' (rowB X39.out hb10)
      have G10 := Hid.mk' (G9.out.below hb10)
      have Y10 := Hid.mk' ry3
      clear hb10 ry3 B9 W9 X09 X39 G9
      go_wp2_with fail
      refine (eqByteS_any _ _ _ _ p w10 (BAt.of_row X310.out) (BAt.of_row Y10.out) hm).mono ?_
      rintro e11 w11 ⟨rfl, hb11⟩
      have B11 := Hid.mk' (B10.out.trans (hb11.mono B10.out.size))
      have W11 := Hid.mk' (W10.out.below hb11)
      have X011 := Hid.mk' (rowB X010.out hb11)
      have X311 := Hid.mk' (rowB X310.out hb11)
      have G11 := Hid.mk' (G10.out.below hb11)
      clear hb11 B10 W10 X010 X310 G10 Y10
      go_wp2_with fail
      refine (markByteS_row x0 l.length l.length l.length 1 _ w11 X011.out (Nat.le_refl _) (by omega)).mono ?_
      rintro e12 w12 ⟨rfl, _, hk12⟩
      have sz := B11.out.size
      have B12 := Hid.mk' (B11.out.trans (hk12.below (B := w.heap.size) (by omega) (by omega)))
      have W12 := Hid.mk' (W11.out.kept hk12 (by omega))
      have X312 := Hid.mk' (rowK X311.out hk12 (.inr (by omega)))
      have G12 := Hid.mk' (G11.out.kept hk12 (by omega) s6)
      clear hk12 B11 W11 X011 X311 G11
      go_wp2_with fail
      refine (markByteS_row x3 p.length p.length p.length (1 + l.length) _ w12 X312.out (Nat.le_refl _) (by omega)).mono ?_
      rintro e13 w13 ⟨rfl, _, hk13⟩
      have B13 := Hid.mk' (B12.out.trans (hk13.below (B := w.heap.size) (by omega) B12.out.size))
      have W13 := Hid.mk' (W12.out.kept hk13 (by omega))
      have G13 := Hid.mk' (G12.out.kept hk13 (by omega) s6)
      clear hk13 B12 W12 X312 G12
      obtain ⟨z0, z1, z2⟩ := cells2 W13.out.box
      obtain ⟨q0, q1, q2⟩ := cells2 G13.out.box
      go_wp2_with fail
      refine (eqBR_any _ _ _ (spB l at_ n p) w13 G13.out.own.len W13.out.own.len n3).mono ?_
      rintro e14 w14 ⟨rfl, hb14⟩
      have B14 := Hid.mk' (B13.out.trans (hb14.mono B13.out.size))
      have W14 := Hid.mk' (W13.out.below hb14)
      have G14 := Hid.mk' (G13.out.below hb14)
      clear hb14 B13 W13 G13 z0 z1 z2 q0 q1 q2
      obtain ⟨q0, q1, q2⟩ := cells2 G14.out.box
      go_wp2_with fail
      refine (markBR_any _ _ (spB l at_ n p) w14 G14.out.own n3).mono ?_
      rintro e15 w15 ⟨rfl, o15, wm, hbm, htm⟩
      have hkm := htm.kept G14.out.inn
      have B15 := Hid.mk' ((B14.out.trans (hbm.mono B14.out.size)).trans (hkm.below (B := w.heap.size) (by omega) (by have := B14.out.size; have := hbm.size; omega)))
      have W15 := Hid.mk' ((W14.out.below hbm).kept hkm (by omega))
      have G15 : Hid (GotB w5.heap.size w6.heap.size w6.heap.size _ _ (mb 1 (spB l at_ n p).length) w15) := ⟨rowK (rowB G14.out.box hbm) hkm (.inr (Nat.le_refl _)), o15, G14.out.inn, Nat.le_refl _⟩
      clear hbm htm hkm o15 B14 W14 G14 q0 q1 q2
      obtain ⟨q0, q1, q2⟩ := cells2 G15.out.box
      go_wp2_with fail
      have L15 : Hid (∃ a d, Value.slice ua (spB l at_ n p).length uc = .slice a (spB l at_ n p).length d ∧ BAt w15 a (mb 1 (spB l at_ n p).length)) := by
        obtain ⟨a, d, e, hb⟩ := G15.out.own.len
        rw [mb_len] at e
        exact ⟨a, d, e, hb⟩
      refine (heldBR_any _ _ (spB l at_ n p).length w15 L15.out n3).mono ?_
      rintro e16 w16 ⟨rfl, hb16⟩
      have B16 := Hid.mk' (B15.out.trans (hb16.mono B15.out.size))
      have W16 := Hid.mk' (W15.out.below hb16)
      have G16 := Hid.mk' (G15.out.below hb16)
      clear hb16 B15 W15 G15 L15 q0 q1 q2
      go_wp2_with fail
      refine (toByteS_any a c l w16 (A.out.below B16.out) hl).mono ?_
      rintro e17 w17 ⟨v0, rfl, _, rv0, hb17⟩
      have B17 := Hid.mk' (B16.out.trans (hb17.mono B16.out.size))
      have W17 := Hid.mk' (W16.out.below hb17)
      have G17 := Hid.mk' (G16.out.below hb17)
      have V0 := Hid.mk' rv0
      clear hb17 rv0 B16 W16 G16
      go_wp2_with fail
      refine (toByteS_any e d p w17 (E.out.below B17.out) hm).mono ?_
      rintro e18 w18 ⟨v3, rfl, _, rv3, hb18⟩
      have B18 := Hid.mk' (B17.out.trans (hb18.mono B17.out.size))
      have W18 := Hid.mk' (W17.out.below hb18)
      have G18 := Hid.mk' (G17.out.below hb18)
      have V0' := Hid.mk' (rowB V0.out hb18)
      have V3 := Hid.mk' rv3
      clear hb18 rv3 B17 W17 G17 V0
      go_wp2_with fail
      refine (implSB_any v0 0 l.length l at_ n (some ⟨v3, 0, none⟩) p.length p w18 (CAt.of_row V0'.out) (Nat.le_refl _) (BAt.of_row V3.out) hl' hm' A1.out A2.out N1.out N2.out).mono ?_
      rintro e19 w19 ⟨h, rfl, o19, i19, hb19⟩
      rw [Z.out]
      have NW := below_new w19 (.cells #[.int .i64 z, h] 24)
      have B19 := Hid.mk' ((B18.out.trans (hb19.mono B18.out.size)).trans (NW.mono (Nat.le_trans B18.out.size hb19.size)))
      have W19 := Hid.mk' ((W18.out.below hb19).below NW)
      have G19 := Hid.mk' ((G18.out.below hb19).below NW)
      have O19 := Hid.mk' (o19.below NW)
      have Y19 := Hid.mk' (rowp2 w19 24 (.int .i64 z) h)
      obtain ⟨ha, hc, rfl, _⟩ := o19.len
      clear hb19 B18 W18 G18 V0' V3 o19 i19 NW
      generalize hwd : w19.alloc (.cells #[.int .i64 z, .slice ha (spB l at_ n p).length hc] 24) = wd at *
      obtain ⟨z0, z1, z2⟩ := cells2 W19.out.box
      obtain ⟨q0, q1, q2⟩ := cells2 Y19.out
      go_wp2_with fail
      clear hwd
      refine (eqBR_any _ _ _ (spB l at_ n p) wd O19.out.len W19.out.own.len n3).mono ?_
      rintro e20 w20 ⟨rfl, hb20⟩
      have B20 := Hid.mk' (B19.out.trans (hb20.mono B19.out.size))
      have G20 := Hid.mk' (G19.out.below hb20)
      clear hb20 B19 W19 G19 O19 Y19 z0 z1 z2 q0 q1 q2
      obtain ⟨q0, q1, q2⟩ := cells2 G20.out.box
      go_wp2_with fail
      have L20 : Hid (∃ a d, Value.slice ua (spB l at_ n p).length uc = .slice a (spB l at_ n p).length d ∧ BAt w20 a (mb 1 (spB l at_ n p).length)) := by
        obtain ⟨a, d, e, hb⟩ := G20.out.own.len
        rw [mb_len] at e
        exact ⟨a, d, e, hb⟩
      refine (heldBR_any _ _ (spB l at_ n p).length w20 L20.out n3).mono ?_
      rintro e21 w21 ⟨rfl, hb21⟩
      have B21 := Hid.mk' (B20.out.trans (hb21.mono B20.out.size))
      clear hb21 B20 G20 L20 q0 q1 q2
      go_wp2
      go_ret
      exact ⟨rfl, B21.out⟩
    · clear ha he
      go_enter Try.func3, Try.ntmps3
      go_wp2
      go_ret
      exact ⟨rfl, Below.refl _ _⟩
  · clear ha he
    go_enter Try.func3, Try.ntmps3
    go_wp2
    go_ret
    exact ⟨rfl, Below.refl _ _⟩

end Go.Proofs.Ythlbedndifeggaa
