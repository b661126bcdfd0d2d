/- One byte fed by the program, from whatever is held on. -/
import Derived.Test.YtieeojhdidjnaaaGreatDoorJ24
import Derived.BigGuard
set_option maxHeartbeats 3200000
set_option maxRecDepth 100000
set_option linter.unusedVariables false
set_option linter.unusedSimpArgs false
namespace Go.Proofs.YtieeojhdidjnaaaGreatDoor
open Go.RowKit
def FbP (H : List Int) (w : World) (e : Ending) (w' : World) : Prop :=
 ∃ ta tn tc ha hc, e = .returned (.agg #[.int .i64 0, .slice ta tn tc, .slice ha H.length hc]) ∧ BAt w' ha H ∧ (∀ b o, ha = some ⟨b, o, none⟩ → w.heap.size ≤ b) ∧ Below w.heap.size w w'
theorem FfP.fb {h0 d : List Int} {w : World} {e : Ending} {w' : World} (h : FfP h0 d w e w') : FbP (allX [] h0 d).2 w e w' := by
 obtain ⟨hv, tv, us, rs, bl, bh, lo, g, rfl, hlo, hx, hb⟩ := h
 obtain ⟨ta, tc, rfl, _⟩ := own_src hx.row
 obtain ⟨o, ho⟩ := OB.of_own hx.held
 obtain ⟨a, c, rfl, hba⟩ := o.len
 exact ⟨ta, _, tc, a, c, rfl, hba, fun b o e => by subst e; have := ho b rfl; omega, hb⟩
theorem feedByte_any (tp : TypeId) (pv : Value) (h0 : List Int) (ah : Option Addr) (ch : Nat) (b : Nat) (w : World) (hE : Env w.heap.size tp pv w) (hh : BAt w ah h0) (hgd : GoodH h0) (hub : Byt h0) (hl : b ≤ 255) :
  Calls Tryz.prog 109 #[.agg #[.slice ah h0.length ch], .int .i64 (b : Int)] w fun e w' => FbP (feedX h0 b).2 w e w' := by
 obtain ⟨N0, x0, RR⟩ := boxesF w (.slice ah h0.length ch)
 have hgl := hgd.len
 have HH0 := Hid.mk' (hh.below N0)
 have HG0 := Hid.mk' hgd
 have HU0 := Hid.mk' hub
 have KF : Hid (∀ V : World, BAt V ah h0 → Calls Tryz.prog 52 #[.agg #[.slice ah h0.length ch]] V fun e w' => e = .returned (.int .i64 0) ∧ Below V.heap.size V w') := Hid.mk' (fun V hV => lexFault_any ah ch h0 V hV HG0.out)
 have KN : Hid (∀ V : World, BAt V ah h0 → Calls Tryz.prog 53 #[.agg #[.slice ah h0.length ch]] V fun e w' => ∃ g, e = .returned (.pointer (some ⟨g, 0, none⟩)) ∧ LXs V.heap.size g w' h0 [] ∧ Below V.heap.size V w') := Hid.mk' (fun V hV => newLexer_any ah ch h0 V hV (by omega))
 have HB := Hid.mk' N0
 have HE := Hid.mk' (hE.keep N0)
 have HR := Hid.mk' RR
 clear N0 hE RR hh hgd hub
 generalize hW : (w.alloc (.cells #[.slice ah h0.length ch] 39)).alloc (.cells #[.int .i64 0, .slice none 0 0, .slice none 0 0] 41) = W at *
 have c6 : ¬ ((b : Int) < 0) := by omega
 have c7 : ¬ ((b : Int) > 255) := by omega
 have cw : IntKind.u8.wrap (b : Int) = (b : Int) := by rw [IntKind.wrap_u8]; omega
 go_enter Tryz.func109, Tryz.ntmps109
 go_wp2_with fail
 clear hW
 refine (KF.out _ HH0.out).mono ?_
 rintro e w1 ⟨rfl, hb1⟩
 have B1 := Hid.mk' (HB.out.trans (hb1.mono HB.out.size))
 have HH1 := Hid.mk' (HH0.out.below hb1)
 have R1 := Hid.mk' (rowB HR.out hb1)
 have E1 := Hid.mk' (HE.out.keep (hb1.mono HB.out.size))
 have x1 := (hb1.cell (p := ⟨w.heap.size, 0, none⟩) (by have := HR.out.lt; show w.heap.size < _; omega)).trans x0
 clear hb1 x0 HR HE
 go_wp2_with (first | go_big_skip | fail)
 refine (KN.out w1 HH1.out).mono ?_
 rintro e w2 ⟨g, rfl, hx, hb2⟩
 have B2 := Hid.mk' hb2
 have SB := B1.out.size
 have fl := feedX_len h0 b
 have KS := Hid.mk' (lexState_any w1.heap.size g w2 h0 [] hx HU0.out (by omega))
 have KX : Hid (∀ w3 : World, LXs w1.heap.size g w3 h0 [] → Below w1.heap.size w2 w3 → Calls Tryz.prog (stN h0) #[.pointer (some ⟨g, 0, none⟩), .int .u8 (b : Int)] w3 fun e w' => LxP w1.heap.size g (feedX h0 b).2 ([] ++ (feedX h0 b).1) w3 e w') := Hid.mk' (fun w3 hx3 hb3 =>
  feed_any w1.heap.size w1.heap.size g tp pv b w3 h0 [] hx3 ((E1.out.up SB (Nat.le_refl _)).keep (B2.out.trans hb3)) (Nat.le_refl _) HU0.out (by omega) hgl (Nat.zero_le _))
 clear hb2 x1 hx
 generalize (feedX h0 b).1 = FT at *
 generalize hF : (feedX h0 b).2 = FH at *
 have HF := Hid.mk' hF
 clear hF
 rcases stN_cases h0 with est | est | est | est
 all_goals
  rw [est] at KS KX
  clear est
  go_wp2_with fail
  refine KS.out.mono ?_
  rintro e w3 ⟨rfl, hx3, hb3⟩
  have KF2 := Hid.mk' (KX.out w3 hx3 hb3)
  have B3 := Hid.mk' (B2.out.trans hb3)
  clear hx3 hb3 KS KX
  go_wp2_with fail
  refine KF2.out.mono ?_
  rintro e w4 ⟨⟨v, rfl⟩, hx4, hb4⟩
  have B4 := Hid.mk' (B3.out.trans hb4)
  obtain ⟨hv, tv, us, rs, bl, bh, h⟩ := hx4
  have KR := Hid.mk' (result_any w1.heap.size g w4 hv tv _ _ us rs bl bh h)
  obtain ⟨o4, _⟩ := OB.of_own h.held
  obtain ⟨ha, hc, rfl, _⟩ := o4.len
  obtain ⟨ta, tc, rfl, _⟩ := own_src h.row
  clear h hb4 KF2 o4
  go_wp2_with fail
  refine KR.out.mono ?_
  rintro e w5 ⟨rfl, hx5, hb5⟩
  have B5 := Hid.mk' (B4.out.trans (hb5.mono B4.out.size))
  have R5 := rowB R1.out B5.out
  obtain ⟨y0, y1, y2, y3⟩ := cells3 R5
  have f0 := R5.frozen 0
  have f1 := R5.frozen 1
  have f2 := R5.frozen 2
  obtain ⟨o5, l5⟩ := OB.of_own hx5.held
  have O5 := Hid.mk' o5
  have L5 := Hid.mk' l5
  clear hx5 hb5 KR R5 o5 l5
  generalize ([] ++ FT).length = TL at *
  go_wp2
  refine bodyPost_ret (v := .agg #[.int .i64 0, .slice ta TL tc, .slice ha FH.length hc]) (by simp [results, Tryz.results109, go_sem, *]) rfl ?_
  have b1s := R1.out.lt
  have OK : OB (((w5.setCell ⟨w.heap.size + 1, 0, none⟩ (.int .i64 0)).setCell ⟨w.heap.size + 1, 1, none⟩ (.slice ta TL tc)).setCell ⟨w.heap.size + 1, 2, none⟩ (.slice ha FH.length hc)) (.slice ha FH.length hc) FH := O5.out.keep (fun k hk _ => by
   have := L5.out k hk
   rw [Deep.blk_setCell_other _ _ _ _ (by show k ≠ w.heap.size + 1; omega), Deep.blk_setCell_other _ _ _ _ (by show k ≠ w.heap.size + 1; omega), Deep.blk_setCell_other _ _ _ _ (by show k ≠ w.heap.size + 1; omega)])
  obtain ⟨a9, c9, e9, h9⟩ := OK.len
  cases e9
  rw [HF.out]
  exact ⟨ta, TL, tc, ha, hc, rfl, h9, fun b o e => by subst e; have := L5.out b rfl; have := R1.out.lt; omega, three (B1.out.trans (B5.out.mono SB)) (by omega)⟩

end Go.Proofs.YtieeojhdidjnaaaGreatDoor
