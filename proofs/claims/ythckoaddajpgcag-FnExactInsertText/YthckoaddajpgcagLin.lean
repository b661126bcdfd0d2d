/- The walk of the law on InsertText. -/
import Derived.Test.YthckoaddajpgcagWn
namespace Go.Proofs.Ythckoaddajpgcag
open Go.RowKit
set_option linter.unusedVariables false

set_option maxHeartbeats 4000000 in
theorem lawInsertText_any (v : Value) (t : TB) (at_ : Int) (ad : Option Addr) (cd : Nat) (ld : List Int) (w : World) (ht : TAt w v t) (hwf : WFT t) (k1 : (t.base.length : Int) ≤ 9223372036854775807) (k2 : (t.more.length : Int) ≤ 9223372036854775807) (k3 : (t.pcs.length : Int) ≤ 9223372036854775807) (b1 : -9223372036854775808 ≤ at_) (b2 : at_ ≤ 9223372036854775807) (hd : BAt w ad ld) (kd : (ld.length : Int) ≤ 9223372036854775807) :
    Calls Try.prog 7 #[v, .int .i64 at_, .slice ad ld.length cd] w fun e w' => e = .returned (.bool true) ∧ Below w.heap.size w w' := by
  obtain ⟨a1, a2, a3, c1, c2, c3, rfl, h1, h2, h3⟩ := id ht
  have K := szTable_any a1 a2 a3 _ _ _ c1 c2 c3 (w.alloc (.cells #[.slice a1 t.base.length c1, .slice a2 t.more.length c2, .slice a3 t.pcs.length c3] 25)) k1 k2 k3
  have H0 := Hold.start (ty := 25) ht
  have HT := Hid.mk' ht
  clear h1 h2 h3 ht k1 k2 k3
  by_cases hld : (ld.length : Int) ≤ 1048576
  rotate_left
  · go_enter Try.func7, Try.ntmps7
    go_wp2
    go_ret
    exact ⟨rfl, H0.1⟩
  have hD := Hid.mk' hd
  clear hd
  by_cases hl : (t.base.length : Int) + t.more.length + t.pcs.length ≤ 1048576
  · rw [if_pos hl] at K
    have KK := Hid.mk' K
    have HH := Hid.mk' H0
    have n2 := cnt_le hl
    obtain ⟨nl, nc⟩ := insT_len t at_ ld hl
    clear K H0
    go_enter Try.func7, Try.ntmps7
    go_wp2_with fail
    refine KK.out.mono ?_
    rintro e w1 ⟨rfl, hb1⟩
    have H1 := Hid.mk' (HH.out.below hb1)
    obtain ⟨x0, x1, x2, x3⟩ := H1.out.cells
    clear KK HH hb1
    go_wp2_with fail
    refine (toTable_any _ t _ H1.out.2.2 hl).mono ?_
    rintro e w2 ⟨v2, rfl, tr2, hb2⟩
    have H2 := Hid.mk' (H1.out.below hb2)
    clear H1 hb2 x0 x1 x2 x3
    go_wp2_with fail
    refine (toByteS_any ad cd ld _ (hD.out.below H2.out.1) hld).mono ?_
    rintro e w2d ⟨b2d, rfl, _, r2d, hb2d⟩
    have H2d := Hid.mk' (H2.out.below hb2d)
    have tr2d := tr2.below hb2d
    clear H2 hb2d tr2
    go_wp2_with fail
    refine (specIns_any _ t at_ _ _ ld _ tr2d.atC b1 b2 (.of_row r2d) hl hld).mono ?_
    rintro e w3 ⟨s1, s2, s3, rfl, ot3, hb3⟩
    have N3 := below_new w3 (.cells #[.int .i64 (insCode t at_ ld), s1, s2, s3] 35)
    have H3 := Hid.mk' ((H2d.out.below hb3).below N3)
    have W3 : Hid (Want (w3.alloc (.cells #[.int .i64 (insCode t at_ ld), s1, s2, s3] 35)) w3.heap.size (.int .i64 (insCode t at_ ld)) s1 s2 s3 (insT t at_ ld) (w3.alloc (.cells #[.int .i64 (insCode t at_ ld), s1, s2, s3] 35))) :=
      ⟨Below.refl _ _, row4 w3 35 _ _ _ _, ot3.at.below N3, by simp⟩
    obtain ⟨p1, q1, p2, q2, p3, q3, rfl, rfl, rfl⟩ := ot3.forms
    clear H2d hb3 tr2d N3 ot3 r2d
    generalize hwa : w3.alloc (.cells #[.int .i64 (insCode t at_ ld), .slice p1 (insT t at_ ld).base.length q1, .slice p2 (insT t at_ ld).more.length q2, .slice p3 (insT t at_ ld).pcs.length q3] 35) = wa at *
    obtain ⟨x0, x1, x2, x3⟩ := H3.out.cells
    have hwlt := x3
    have WA := Hid.mk' W3.out
    go_wp2_with fail
    clear hwa
    refine (toTable_any _ t _ H3.out.2.2 hl).mono ?_
    rintro e w4 ⟨v4, rfl, tr4, hb4⟩
    obtain ⟨b1_, b2_, b3_, rfl, g1, g2, g3, r1, r2, r3'⟩ := id tr4
    have hx4 := hb4.size
    have N4 := below_new w4 (.cells #[.slice (some ⟨b1_, 0, none⟩) t.base.length t.base.length, .slice (some ⟨b2_, 0, none⟩) t.more.length t.more.length, .slice (some ⟨b3_, 0, none⟩) t.pcs.length t.pcs.length] 30)
    have H4 := Hid.mk' ((H3.out.below hb4).below N4)
    have W4 := Hid.mk' ((W3.out.below hb4).below N4)
    have X4 : Hid (GotT wa.heap.size w4.heap.size w4.heap.size _ _ _ t _) := ⟨row3 w4 30 (.slice (some ⟨b1_, 0, none⟩) t.base.length t.base.length) (.slice (some ⟨b2_, 0, none⟩) t.more.length t.more.length) (.slice (some ⟨b3_, 0, none⟩) t.pcs.length t.pcs.length), (TRow.own g1 g2 g3 r1 r2 r3').below N4, Nat.le_refl _⟩
    have T4 := Hid.mk' (tr4.below N4)
    clear H3 W3 hb4 tr4 r1 r2 r3' x0 x1 x2 x3 g1 g2 g3 N4
    generalize hwb : w4.alloc (.cells #[.slice (some ⟨b1_, 0, none⟩) t.base.length t.base.length, .slice (some ⟨b2_, 0, none⟩) t.more.length t.more.length, .slice (some ⟨b3_, 0, none⟩) t.pcs.length t.pcs.length] 30) = wb at *
    have hwb4 : w4.heap.size < wb.heap.size := X4.out.box.lt
    go_wp2_with fail
    clear hwb
    refine (toByteS_any ad cd ld _ (hD.out.below H4.out.1) hld).mono ?_
    rintro e w4d ⟨bd, rfl, gd, rd, hb4d⟩
    have H4d := Hid.mk' (H4.out.below hb4d)
    have W4d := Hid.mk' (W4.out.below hb4d)
    have X4d := Hid.mk' (X4.out.below hb4d)
    have T4d := Hid.mk' (T4.out.below hb4d)
    have D4d := Hid.mk' rd
    have hdlt := rd.lt
    have hx4d := hb4d.size
    clear H4 W4 X4 T4 hb4d rd
    obtain ⟨y0, y1, y2, y3⟩ := cells3 X4d.out.box
    go_wp2_with fail
    refine (implIns_any _ t at_ _ _ ld _ T4d.out.atC hwf b1 b2 (.of_row D4d.out) hl hld).mono ?_
    rintro e w5 ⟨u1, u2, u3, rfl, ot5, hb5⟩
    have hx5 := hb5.size
    have N5 := below_new w5 (.cells #[.int .i64 (insCode t at_ ld), u1, u2, u3] 35)
    have H5 := Hid.mk' ((H4d.out.below hb5).below N5)
    have W5 := Hid.mk' ((W4d.out.below hb5).below N5)
    have X5 := Hid.mk' ((X4d.out.below hb5).below N5)
    have T5 := Hid.mk' ((T4d.out.below hb5).below N5)
    have G5 : Hid (Got w4d.heap.size w5.heap.size w5.heap.size (.int .i64 (insCode t at_ ld)) u1 u2 u3 (insT t at_ ld) (w5.alloc (.cells #[.int .i64 (insCode t at_ ld), u1, u2, u3] 35))) := ⟨row4 w5 35 _ _ _ _, ot5.below N5, Nat.le_refl _⟩
    have D5 := Hid.mk' (rowB (rowB D4d.out hb5) N5)
    obtain ⟨f1, e1, f2, e2, f3, e3, rfl, rfl, rfl⟩ := ot5.forms
    clear H4d W4d X4d T4d hb5 ot5 N5 y0 y1 y2 D4d
    generalize hwc : w5.alloc (.cells #[.int .i64 (insCode t at_ ld), .slice f1 (insT t at_ ld).base.length e1, .slice f2 (insT t at_ ld).more.length e2, .slice f3 (insT t at_ ld).pcs.length e3] 35) = wc at *
    obtain ⟨z0, z1, z2, z3, z4⟩ := cells4 W5.out.box
    obtain ⟨q0_, q1_, q2_, q3_, q4_⟩ := cells4 G5.out.box
    go_wp2_with fail
    clear hwc
    refine (eqTR_any _ _ _ _ _ _ _ (insT t at_ ld) wc G5.out.own.at W5.out.tab nl).mono ?_
    rintro e w6 ⟨rfl, hb6⟩
    have H6 := Hid.mk' (H5.out.below hb6)
    have W6 := Hid.mk' (W5.out.below hb6)
    have X6 := Hid.mk' (X5.out.below hb6)
    have T6 := Hid.mk' (T5.out.below hb6)
    have G6 := Hid.mk' (G5.out.below hb6)
    have D6 := Hid.mk' (rowB D5.out hb6)
    obtain ⟨x0, x1, x2, x3⟩ := H6.out.cells
    obtain ⟨y0, y1, y2, y4⟩ := cells3 X6.out.box
    clear H5 W5 X5 T5 G5 hb6 z0 z1 z2 z3 z4 q0_ q1_ q2_ q3_ q4_ D5
    go_wp2
    go_region_held3 (fun w' => w'.cell? ⟨w.heap.size, 0, none⟩ = some (.slice a1 t.base.length c1) ∧ w'.cell? ⟨w.heap.size, 1, none⟩ = some (.slice a2 t.more.length c2) ∧ w'.cell? ⟨w.heap.size, 2, none⟩ = some (.slice a3 t.pcs.length c3) ∧ w'.cell? ⟨w4.heap.size, 0, none⟩ = some (.slice (some ⟨b1_, 0, none⟩) t.base.length t.base.length) ∧ w'.cell? ⟨w4.heap.size, 1, none⟩ = some (.slice (some ⟨b2_, 0, none⟩) t.more.length t.more.length) ∧ w'.cell? ⟨w4.heap.size, 2, none⟩ = some (.slice (some ⟨b3_, 0, none⟩) t.pcs.length t.pcs.length)) (simp [*])
      (first | (go_at_call 11; refine (toTable_any _ t _ (H6.out.2.2.below (Below.refl _ _).drew) hl).mono ?_; rintro e w7 ⟨v7, rfl, ts7, hb7⟩; replace hb7 := undrew hb7; obtain ⟨hx1, hx2⟩ := bcell hb7; have u1_ := hb7.size; have u2_ : w.heap.size < w7.heap.size := (by omega); have u3_ : w4.heap.size < w7.heap.size := (by omega)) | (go_at_call 13; refine (eqTable_any _ _ t _ (T6.out.at.below hb7) ts7.at hl).mono ?_; rintro e w8 ⟨rfl, hb8⟩; obtain ⟨hx3, hx4_⟩ := bcell hb8))
    have H8 := Hid.mk' ((H6.out.below hb7).below hb8)
    have W8 := Hid.mk' ((W6.out.below hb7).below hb8)
    have X8 := Hid.mk' ((X6.out.below hb7).below hb8)
    have G8 := Hid.mk' ((G6.out.below hb7).below hb8)
    have D8 := Hid.mk' (rowB (rowB D6.out hb7) hb8)
    clear hx1 hx2 hx3 hx4_ hb7 hb8 ts7 x0 x1 x2 x3 y0 y1 y2 y4 H6 W6 X6 T6 G6 u1_ u2_ u3_ D6
    go_wp2_with fail
    refine (toByteS_any ad cd ld _ (hD.out.below H8.out.1) hld).mono ?_
    rintro e w8d ⟨b8d, rfl, _, r8d, hb8d⟩
    have H8d := Hid.mk' (H8.out.below hb8d)
    have W8d := Hid.mk' (W8.out.below hb8d)
    have X8d := Hid.mk' (X8.out.below hb8d)
    have G8d := Hid.mk' (G8.out.below hb8d)
    have D8d := Hid.mk' (rowB D8.out hb8d)
    clear H8 W8 X8 G8 D8 hb8d
    go_wp2_with fail
    refine (eqByteS_any _ _ _ _ ld w8d (.of_row D8d.out) (.of_row r8d) hld).mono ?_
    rintro e w8e ⟨rfl, hb8e⟩
    have H8 := Hid.mk' (H8d.out.below hb8e)
    have W8 := Hid.mk' (W8d.out.below hb8e)
    have X8 := Hid.mk' (X8d.out.below hb8e)
    have G8 := Hid.mk' (G8d.out.below hb8e)
    have D8 := Hid.mk' (rowB D8d.out hb8e)
    clear H8d W8d X8d G8d D8d hb8e r8d
    obtain ⟨y0, y1, y2, y4⟩ := cells3 X8.out.box
    go_wp2_with fail
    refine (markT1 wa.heap.size w4.heap.size _ _ _ t w8e X8.out.own (by have := X8.out.box.lt; omega) n2).mono ?_
    rintro e w9 ⟨rfl, _, hk9⟩
    have H9 := Hid.mk' (H8.out.kept HT.out hk9 hwlt)
    have W9 := Hid.mk' (W8.out.kept WA.out hk9 (Nat.le_refl _))
    have G9 := Hid.mk' (G8.out.kept hk9 (by omega) hx5)
    have D9 := Hid.mk' (rowK D8.out hk9 (.inr (by omega)))
    clear H8 W8 X8 G8 D8 hk9 y0 y1 y2 y4
    have Kd := Hid.mk' (markByteS_row bd ld.length ld.length ld.length (1 + cnt t) _ w9 D9.out (Nat.le_refl _) (by omega))
    go_wp2_with fail
    rw [show (1 + (cnt t : Int)) = ((1 + cnt t : Nat) : Int) from by omega]
    refine Kd.out.mono ?_
    rintro e w9d ⟨rfl, _, hk9d⟩
    have H9d := Hid.mk' (H9.out.kept HT.out hk9d (by omega))
    have W9d := Hid.mk' (W9.out.kept WA.out hk9d (by omega))
    have G9d := Hid.mk' (G9.out.kept hk9d (by omega) hx5)
    clear H9 W9 G9 D9 hk9d Kd
    obtain ⟨z0, z1, z2, z3, z4⟩ := cells4 W9d.out.box
    obtain ⟨q0_, q1_, q2_, q3_, q4_⟩ := cells4 G9d.out.box
    go_wp2_with fail
    refine (eqTR_any _ _ _ _ _ _ _ (insT t at_ ld) w9d G9d.out.own.at W9d.out.tab nl).mono ?_
    rintro e w10 ⟨rfl, hb10⟩
    have H10 := Hid.mk' (H9d.out.below hb10)
    have W10 := Hid.mk' (W9d.out.below hb10)
    have G10 := Hid.mk' (G9d.out.below hb10)
    clear H9d W9d G9d hb10 z0 z1 z2 z3 z4 q0_ q1_ q2_ q3_ q4_
    obtain ⟨q0_, q1_, q2_, q3_, q4_⟩ := cells4 G10.out.box
    go_wp2_with fail
    refine (markTR_any w4d.heap.size w5.heap.size _ _ _ _ (insT t at_ ld) w10 G10.out.own (by have := G10.out.box.lt; omega) nc).mono ?_
    rintro e w11 ⟨rfl, o11, hk11⟩
    have H11 := Hid.mk' (H10.out.kept HT.out hk11 (by omega))
    have W11 := Hid.mk' (W10.out.kept WA.out hk11 (by omega))
    have G11 : Hid (Got w4d.heap.size w5.heap.size w5.heap.size _ _ _ _ (mt 1 (insT t at_ ld)) w11) := ⟨rowK G10.out.box hk11 (.inr (Nat.le_refl _)), o11, Nat.le_refl _⟩
    clear H10 W10 G10 hk11 o11 q0_ q1_ q2_ q3_ q4_
    obtain ⟨q0_, q1_, q2_, q3_, q4_⟩ := cells4 G11.out.box
    go_wp2_with fail
    refine (heldTR_any _ _ _ _ (insT t at_ ld) w11 G11.out.own.at nc).mono ?_
    rintro e w12 ⟨rfl, hb12⟩
    have H12 := Hid.mk' (H11.out.below hb12)
    have W12 := Hid.mk' (W11.out.below hb12)
    have G12 := Hid.mk' (G11.out.below hb12)
    clear H11 W11 G11 hb12 q0_ q1_ q2_ q3_ q4_
    obtain ⟨x0, x1, x2, x4⟩ := H12.out.cells
    go_wp2_with fail
    refine (toTable_any _ t _ H12.out.2.2 hl).mono ?_
    rintro e w13 ⟨v13, rfl, tr13, hb13⟩
    have H13 := Hid.mk' (H12.out.below hb13)
    have W13 := Hid.mk' (W12.out.below hb13)
    have G13 := Hid.mk' (G12.out.below hb13)
    have T13 := Hid.mk' tr13
    clear H12 W12 G12 hb13 tr13 x0 x1 x2 x4
    go_wp2_with fail
    refine (toByteS_any ad cd ld _ (hD.out.below H13.out.1) hld).mono ?_
    rintro e w13d ⟨b13d, rfl, _, r13d, hb13d⟩
    have H13d := Hid.mk' (H13.out.below hb13d)
    have W13d := Hid.mk' (W13.out.below hb13d)
    have G13d := Hid.mk' (G13.out.below hb13d)
    have T13d := Hid.mk' (T13.out.below hb13d)
    have D13 := Hid.mk' r13d
    clear H13 W13 G13 T13 hb13d r13d
    go_wp2_with fail
    refine (implIns_any _ t at_ _ _ ld _ T13d.out.atC hwf b1 b2 (.of_row D13.out) hl hld).mono ?_
    rintro e w14 ⟨v1_, v2_, v3_, rfl, ot14, hb14⟩
    have N14 := below_new w14 (.cells #[.int .i64 (insCode t at_ ld), v1_, v2_, v3_] 35)
    have H14 := Hid.mk' ((H13d.out.below hb14).below N14)
    have W14 := Hid.mk' ((W13d.out.below hb14).below N14)
    have G14 := Hid.mk' ((G13d.out.below hb14).below N14)
    have O14 := Hid.mk' (ot14.below N14)
    have Y14 := Hid.mk' (row4 w14 35 (.int .i64 (insCode t at_ ld)) v1_ v2_ v3_)
    obtain ⟨h1_, k1_, h2_, k2_, h3_, k3_, rfl, rfl, rfl⟩ := ot14.forms
    clear H13d W13d G13d T13d D13 hb14 ot14 N14
    generalize hwd : w14.alloc (.cells #[.int .i64 (insCode t at_ ld), .slice h1_ (insT t at_ ld).base.length k1_, .slice h2_ (insT t at_ ld).more.length k2_, .slice h3_ (insT t at_ ld).pcs.length k3_] 35) = wd at *
    obtain ⟨z0, z1, z2, z3, z4⟩ := cells4 W14.out.box
    obtain ⟨q0_, q1_, q2_, q3_, q4_⟩ := cells4 Y14.out
    go_wp2_with fail
    clear hwd
    refine (eqTR_any _ _ _ _ _ _ _ (insT t at_ ld) wd O14.out.at W14.out.tab nl).mono ?_
    rintro e w15 ⟨rfl, hb15⟩
    have H15 := Hid.mk' (H14.out.below hb15)
    have G15 := Hid.mk' (G14.out.below hb15)
    clear H14 W14 G14 O14 Y14 hb15 z0 z1 z2 z3 z4 q0_ q1_ q2_ q3_ q4_
    obtain ⟨q0_, q1_, q2_, q3_, q4_⟩ := cells4 G15.out.box
    go_wp2_with fail
    refine (heldTR_any _ _ _ _ (insT t at_ ld) w15 G15.out.own.at nc).mono ?_
    rintro e w16 ⟨rfl, hb16⟩
    have H16 := Hid.mk' (H15.out.below hb16)
    clear H15 G15 hb16 q0_ q1_ q2_ q3_ q4_
    go_wp2
    go_ret
    exact ⟨rfl, H16.out.1⟩
  · rw [if_neg hl] at K
    have KK := Hid.mk' K
    have HH := Hid.mk' H0
    clear K H0
    go_enter Try.func7, Try.ntmps7
    go_wp2_with fail
    refine KK.out.mono ?_
    rintro e w1 ⟨rfl, hb1⟩
    have H1 := Hid.mk' (HH.out.below hb1)
    clear KK HH hb1
    go_wp2
    go_ret
    exact ⟨rfl, H1.out.1⟩

end Go.Proofs.Ythckoaddajpgcag
