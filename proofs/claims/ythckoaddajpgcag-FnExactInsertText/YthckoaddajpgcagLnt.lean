/- The walk of the law on NewTable. -/
import Derived.Test.YthckoaddajpgcagWi
namespace Go.Proofs.Ythckoaddajpgcag
open Go.RowKit
set_option linter.unusedVariables false

/-- The model's answer, kept: since it was made nothing old has turned; it lies in its box, and reads as the table. -/
structure Want (wa : World) (q : Nat) (c s1 s2 s3 : Value) (t : TB) (wi : World) : Prop where
  old : Below wa.heap.size wa wi
  box : wi.rowIs q 35 4 (r4 c s1 s2 s3)
  tab : TAt wi (.agg #[s1, s2, s3]) t
  qlt : q < wa.heap.size

theorem Want.below {wa wi wj : World} {q : Nat} {c s1 s2 s3 : Value} {t : TB} (h : Want wa q c s1 s2 s3 t wi) (hb : Below wi.heap.size wi wj) : Want wa q c s1 s2 s3 t wj :=
  ⟨h.old.trans (hb.mono h.old.size), rowB h.box hb, h.tab.below hb, h.qlt⟩

theorem TAt.below' {B : Nat} {w w' : World} {v : Value} {t : TB} (h : TAt w v t) (hb : Below B w w') (hB : B = w.heap.size) : TAt w' v t := by subst hB; exact h.below hb

/-- A world in which only memory that is younger than the model's answer has turned. -/
theorem Want.kept {wa wi wj : World} {q lo hi : Nat} {c s1 s2 s3 : Value} {t : TB} (h : Want wa q c s1 s2 s3 t wi) (h0 : Want wa q c s1 s2 s3 t wa) (hk : KeptIn lo hi wi wj) (hlo : wa.heap.size ≤ lo) : Want wa q c s1 s2 s3 t wj := by
  have hb := hk.below hlo h.old.size
  have ho := h.old.trans hb
  exact ⟨ho, rowK h.box hk (.inl (Nat.lt_of_lt_of_le h.qlt hlo)), h0.tab.below ho, h.qlt⟩

/-- The program's answer, kept: in its box, in rows of its own. -/
structure Got (lo hi q : Nat) (c u1 u2 u3 : Value) (t : TB) (wi : World) : Prop where
  box : wi.rowIs q 35 4 (r4 c u1 u2 u3)
  own : OT lo hi wi u1 u2 u3 t
  hiq : hi ≤ q

theorem Got.below {lo hi q : Nat} {c u1 u2 u3 : Value} {t : TB} {wi wj : World} (h : Got lo hi q c u1 u2 u3 t wi) (hb : Below wi.heap.size wi wj) : Got lo hi q c u1 u2 u3 t wj :=
  ⟨rowB h.box hb, h.own.below hb, h.hiq⟩

theorem Got.kept {lo hi q a b : Nat} {c u1 u2 u3 : Value} {t : TB} {wi wj : World} (h : Got lo hi q c u1 u2 u3 t wi) (hk : KeptIn a b wi wj) (hb : b ≤ lo) (hlh : lo ≤ hi) : Got lo hi q c u1 u2 u3 t wj :=
  ⟨rowK h.box hk (.inr (by have := h.hiq; omega)), h.own.kept hk (.inr hb), h.hiq⟩

theorem newTR_len (l : List Int) (hl : (l.length : Int) ≤ 1048576) : ((newTR l).base.length : Int) + (newTR l).more.length + (newTR l).pcs.length ≤ 1048576 ∧ (cnt (newTR l) : Int) ≤ 10000000 := by
  unfold newTR cnt
  split
  · simp
  · unfold newT newPcs
    split <;> simp <;> omega

theorem mb1 (n : Nat) : (((1 : Nat) : Int) + (n : Int)) = 1 + (n : Int) := by omega

/-- Behind a call: the argument, the model's answer and the program's answer, all as they were. -/
theorem markX (g n : Nat) (w : World) (l : List Int) (hr : w.rowIs g 5 l.length (bv l)) (hl : (l.length : Int) ≤ 1048576) :
    Calls Try.prog 19 #[.slice (some ⟨g, 0, none⟩) l.length l.length, .int .i64 1] w fun e w' => e = .returned (.int .i64 (1 + (l.length : Int))) ∧ KeptIn g (g + 1) w w' := by
  refine (markByteS_row g l.length l.length l.length 1 _ w hr (Nat.le_refl _) (by omega)).mono ?_
  rintro e w' ⟨rfl, _, hk⟩
  exact ⟨rfl, hk⟩

set_option maxHeartbeats 1000000 in
theorem lawNewTable_any (a : Option Addr) (c : Nat) (l : List Int) (w : World) (ha : BAt w a l) (k1 : (l.length : Int) ≤ 9223372036854775807) :
    Calls Try.prog 4 #[.slice a l.length c] w fun e w' => e = .returned (.bool true) ∧ Below w.heap.size w w' := by
  by_cases hl : (l.length : Int) ≤ 1048576
  · obtain ⟨n1, n2⟩ := newTR_len l hl
    go_enter Try.func4, Try.ntmps4
    go_wp2_with fail
    refine (toByteS_any a c l w ha hl).mono ?_
    rintro e w1 ⟨b1, rfl, _, r1, hb1⟩
    go_wp2_with fail
    refine (specNew_any _ _ l w1 (.of_row r1) hl).mono ?_
    rintro e w2 ⟨s1, s2, s3, rfl, ot2, hb2⟩
    have N2 := below_new w2 (.cells #[.int .i64 (newCode l), s1, s2, s3] 35)
    have W2 : Hid (Want (w2.alloc (.cells #[.int .i64 (newCode l), s1, s2, s3] 35)) w2.heap.size (.int .i64 (newCode l)) s1 s2 s3 (newTR l) (w2.alloc (.cells #[.int .i64 (newCode l), s1, s2, s3] 35))) :=
      ⟨Below.refl _ _, row4 w2 35 _ _ _ _, ot2.at.below N2, by simp⟩
    have B2 := Hid.mk' ((hb1.trans (hb2.mono hb1.size)).trans (N2.mono (Nat.le_trans hb1.size hb2.size)))
    obtain ⟨x1, y1, x2, y2, x3, y3, rfl, rfl, rfl⟩ := ot2.forms
    clear ot2 hb1 hb2 N2 r1
    generalize hwa : w2.alloc (.cells #[.int .i64 (newCode l), .slice x1 (newTR l).base.length y1, .slice x2 (newTR l).more.length y2, .slice x3 (newTR l).pcs.length y3] 35) = wa at *
    go_wp2_with fail
    clear hwa
    have hB : w.heap.size ≤ wa.heap.size := B2.out.size
    refine (toByteS_any a c l wa (ha.below B2.out) hl).mono ?_
    rintro e w3 ⟨bx, rfl, gx, rx, hb3⟩
    have W3 := Hid.mk' (W2.out.below hb3)
    have X3 := Hid.mk' rx
    clear rx
    go_wp2_with fail
    refine (implNew_any _ _ l w3 (.of_row X3.out) hl).mono ?_
    rintro e w4 ⟨u1, u2, u3, rfl, ot4, hb4⟩
    have N4 := below_new w4 (.cells #[.int .i64 (newCode l), u1, u2, u3] 35)
    have W4 := Hid.mk' ((W3.out.below hb4).below N4)
    have X4 := Hid.mk' (rowB (rowB X3.out hb4) N4)
    have hx3 := X3.out.lt
    have h34 := hb4.size
    have hw3 := hb3.size
    have G4 : Hid (Got w3.heap.size w4.heap.size w4.heap.size (.int .i64 (newCode l)) u1 u2 u3 (newTR l) (w4.alloc (.cells #[.int .i64 (newCode l), u1, u2, u3] 35))) := ⟨row4 w4 35 _ _ _ _, ot4.below N4, Nat.le_refl _⟩
    obtain ⟨p1, q1, p2, q2, p3, q3, rfl, rfl, rfl⟩ := ot4.forms
    obtain ⟨c0, c1, c2, c3, c4⟩ := cells4 W4.out.box
    clear ot4 hb3 hb4 N4 W3 X3
    generalize hwb : w4.alloc (.cells #[.int .i64 (newCode l), .slice p1 (newTR l).base.length q1, .slice p2 (newTR l).more.length q2, .slice p3 (newTR l).pcs.length q3] 35) = wb at *
    obtain ⟨d0, d1, d2, d3, d4⟩ := cells4 G4.out.box
    go_wp2_with fail
    clear hwb
    refine (eqTR_any _ _ _ _ _ _ _ (newTR l) wb G4.out.own.at W4.out.tab n1).mono ?_
    rintro e w5 ⟨rfl, hb5⟩
    have W5 := Hid.mk' (W4.out.below hb5)
    have G5 := Hid.mk' (G4.out.below hb5)
    have X5 := Hid.mk' (rowB X4.out hb5)
    clear hb5 W4 G4 X4 c0 c1 c2 c3 c4 d0 d1 d2 d3 d4
    go_wp2_with fail
    refine (toByteS_any a c l w5 ((ha.below B2.out).below W5.out.old) hl).mono ?_
    rintro e w6 ⟨b6, rfl, _, r6, hb6⟩
    have W6 := Hid.mk' (W5.out.below hb6)
    have G6 := Hid.mk' (G5.out.below hb6)
    have X6 := Hid.mk' (rowB X5.out hb6)
    have R6 := Hid.mk' r6
    clear hb6 W5 G5 X5 r6
    go_wp2_with fail
    refine (eqByteS_any _ _ _ _ l w6 (.of_row X6.out) (.of_row R6.out) hl).mono ?_
    rintro e w7 ⟨rfl, hb7⟩
    have W7 := Hid.mk' (W6.out.below hb7)
    have G7 := Hid.mk' (G6.out.below hb7)
    have X7 := Hid.mk' (rowB X6.out hb7)
    clear hb7 W6 G6 X6 R6
    go_wp2_with fail
    refine (markX bx 0 w7 l X7.out hl).mono ?_
    rintro e w8 ⟨rfl, hk8⟩
    have W8 := Hid.mk' (W7.out.kept W2.out hk8 gx)
    have G8 := Hid.mk' (G7.out.kept hk8 (by omega) h34)
    obtain ⟨c0, c1, c2, c3, c4⟩ := cells4 W8.out.box
    obtain ⟨d0, d1, d2, d3, d4⟩ := cells4 G8.out.box
    clear hk8 W7 G7 X7
    go_wp2_with fail
    refine (eqTR_any _ _ _ _ _ _ _ (newTR l) w8 G8.out.own.at W8.out.tab n1).mono ?_
    rintro e w9 ⟨rfl, hb9⟩
    have W9 := Hid.mk' (W8.out.below hb9)
    have G9 := Hid.mk' (G8.out.below hb9)
    obtain ⟨z0, z1, z2, z3, z4⟩ := cells4 G9.out.box
    clear hb9 W8 G8 c0 c1 c2 c3 c4 d0 d1 d2 d3 d4
    go_wp2_with fail
    refine (markTR_any w3.heap.size w4.heap.size _ _ _ _ (newTR l) w9 G9.out.own (by have := G9.out.box.lt; omega) n2).mono ?_
    rintro e w10 ⟨rfl, ot10, hk10⟩
    have W10 := Hid.mk' (W9.out.kept W2.out hk10 hw3)
    have G10 : Hid (Got w3.heap.size w4.heap.size w4.heap.size _ _ _ _ (mt 1 (newTR l)) w10) := ⟨rowK G9.out.box hk10 (.inr (Nat.le_refl _)), ot10, Nat.le_refl _⟩
    obtain ⟨d0, d1, d2, d3, d4⟩ := cells4 G10.out.box
    clear hk10 ot10 W9 G9 z0 z1 z2 z3 z4
    go_wp2_with fail
    refine (heldTR_any _ _ _ _ (newTR l) w10 G10.out.own.at n2).mono ?_
    rintro e w11 ⟨rfl, hb11⟩
    have W11 := Hid.mk' (W10.out.below hb11)
    have G11 := Hid.mk' (G10.out.below hb11)
    clear hb11 W10 G10 d0 d1 d2 d3 d4
    go_wp2_with fail
    refine (toByteS_any a c l w11 ((ha.below B2.out).below W11.out.old) hl).mono ?_
    rintro e w12 ⟨b12, rfl, _, r12, hb12⟩
    have W12 := Hid.mk' (W11.out.below hb12)
    have G12 := Hid.mk' (G11.out.below hb12)
    have R12 := Hid.mk' r12
    clear hb12 W11 G11 r12
    go_wp2_with fail
    refine (implNew_any _ _ l w12 (.of_row R12.out) hl).mono ?_
    rintro e w13 ⟨v1, v2, v3, rfl, ot13, hb13⟩
    have N13 := below_new w13 (.cells #[.int .i64 (newCode l), v1, v2, v3] 35)
    have W13 := Hid.mk' ((W12.out.below hb13).below N13)
    have G13 := Hid.mk' ((G12.out.below hb13).below N13)
    have Z13 := Hid.mk' (ot13.below N13)
    have Y13 := Hid.mk' (row4 w13 35 (.int .i64 (newCode l)) v1 v2 v3)
    obtain ⟨f1, g1, f2, g2, f3, g3, rfl, rfl, rfl⟩ := ot13.forms
    obtain ⟨c0, c1, c2, c3, c4⟩ := cells4 W13.out.box
    clear ot13 hb13 N13 W12 G12 R12
    generalize hwc : w13.alloc (.cells #[.int .i64 (newCode l), .slice f1 (newTR l).base.length g1, .slice f2 (newTR l).more.length g2, .slice f3 (newTR l).pcs.length g3] 35) = wc at *
    obtain ⟨d0, d1, d2, d3, d4⟩ := cells4 Y13.out
    go_wp2_with fail
    clear hwc
    refine (eqTR_any _ _ _ _ _ _ _ (newTR l) wc Z13.out.at W13.out.tab n1).mono ?_
    rintro e w14 ⟨rfl, hb14⟩
    have W14 := Hid.mk' (W13.out.below hb14)
    have G14 := Hid.mk' (G13.out.below hb14)
    obtain ⟨z0, z1, z2, z3, z4⟩ := cells4 G14.out.box
    clear hb14 W13 G13 Z13 Y13 c0 c1 c2 c3 c4 d0 d1 d2 d3 d4
    go_wp2_with fail
    refine (heldTR_any _ _ _ _ (newTR l) w14 G14.out.own.at n2).mono ?_
    rintro e w15 ⟨rfl, hb15⟩
    have W15 := Hid.mk' (W14.out.below hb15)
    clear hb15 W14 G14 z0 z1 z2 z3 z4
    go_wp2
    go_ret
    exact ⟨rfl, B2.out.trans (W15.out.old.mono hB)⟩
  · go_enter Try.func4, Try.ntmps4
    go_wp2
    go_ret
    exact ⟨rfl, Below.refl _ _⟩

end Go.Proofs.Ythckoaddajpgcag
