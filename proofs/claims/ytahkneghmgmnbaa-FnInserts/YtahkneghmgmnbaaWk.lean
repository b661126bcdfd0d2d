/- Walks: the text of a table, the program's side. -/
import Derived.Test.YtahkneghmgmnbaaWj
namespace Go.Proofs.Ytahkneghmgmnbaa
open Go.RowKit
set_option linter.unusedVariables false

set_option maxRecDepth 100000 in
set_option maxHeartbeats 1000000 in
theorem textOfPieces_any (v : Value) (t : TB) (w : World) (ht : TAtC w v t) (hf : fault t = 0) :
    Calls Try.prog 42 #[v] w fun e w' => ∃ s, e = .returned s ∧ OB w' s (text t) ∧ In w.heap.size w'.heap.size s ∧ Below w.heap.size w w' := by
  obtain ⟨a1, a2, a3, c1, c2, c3, rfl, h1, h2, h3, m1, m2⟩ := ht
  obtain ⟨n1, n2, n3, _, _⟩ := fault_zero hf
  obtain ⟨tl, tl2⟩ := text_len hf
  have B0 := below_new w (.cells #[.slice a1 t.base.length c1, .slice a2 t.more.length c2, .slice a3 t.pcs.length c3] 26)
  have R0 := row3 w 26 (.slice a1 t.base.length c1) (.slice a2 t.more.length c2) (.slice a3 t.pcs.length c3)
  have hmk := run_make_row' (P := Try.prog) 22 5 (.int .u8 0) 1 Try.underlying22 Try.info5 rfl .i64 .i64 (text t).length (by omega) (by omega)
  have K1 := Hid.mk' (chainOf_any a3 c3 t.pcs _ (h3.below B0) (by omega))
  have BB := Hid.mk' B0
  have RR := Hid.mk' R0
  have SM := Hid.mk' (fault_small hf)
  have HF := Hid.mk' hf
  have TL := Hid.mk' tl
  clear B0 R0 hf tl
  go_enter Try.func42, Try.ntmps42
  go_wp2_with fail
  refine K1.out.mono ?_
  rintro e w1 ⟨g1, rfl, _, hr1, hb1⟩
  go_wp2_with fail
  refine (size_any _ _ t.pcs w1 (.of_row hr1) SM.out).mono ?_
  rintro e w2 ⟨rfl, hb2⟩
  rw [← TL.out]
  have B2 := Hid.mk' (join2 BB.out hb1 hb2 (by simp))
  have R2 := row2 RR.out hb1 hb2
  obtain ⟨x0, x1, x2, x3⟩ := cells3 R2
  have RR2 := Hid.mk' R2
  clear K1 hr1 hb1 hb2 BB RR R2
  go_wp2
  go_loopw [4, 15] (fun p i wr => ∃ k : Nat, k ≤ t.pcs.length ∧ i = .int .i64 k ∧ p = .int .i64 (ptext t (t.pcs.take k)).length ∧ wr.rowIs w2.heap.size 5 (text t).length (tpart t k) ∧ wr.rowIs w.heap.size 26 3 (r3 (.slice a1 t.base.length c1) (.slice a2 t.more.length c2) (.slice a3 t.pcs.length c3)) ∧ Below w.heap.size w wr) (fun _ i _ => t.pcs.length - (intOf i).toNat)
  case atStart =>
    refine ⟨0, Nat.zero_le _, rfl, rfl, (World.rowIs_made w2 (.int .u8 0) (text t).length 5).congr (fun j _ => by simp [tpart, ptext]), RR2.out.alloc _, B2.out.alloc ?_ _⟩
    omega
  case round =>
    obtain ⟨k, hk, rfl, rfl, hrow, hbox, hbl⟩ := hrel
    obtain ⟨y0, y1, y2, y3⟩ := cells3 hbox
    by_cases hlk : k < t.pcs.length
    · rcases h3 with h3 | ⟨b, o, rfl, hbs, hc⟩
      · exact absurd hlk (by rw [h3]; exact Nat.not_lt_zero _)
      obtain ⟨g1, g2, g3⟩ := hc k hlk
      obtain ⟨f, z, e1, e2, hz, hfz, epb, elen⟩ := lies_nat (lies_k HF.out k hlk)
      have hle := ptext_le_text (t := t) k hlk
      rw [e1] at g2
      rw [e2] at g3
      rw [elen] at hle
      obtain ⟨sb, so, sc, esv, hcp, hsb, hsc⟩ := store_at (c1 := c1) (c2 := c2) (pc t.pcs k) h1 h2 (by omega) m1 m2
      have hst : (store t (pc t.pcs k)).length ≤ 2000 := by unfold store; split <;> omega
      have p1 : wr.cell? ⟨b, o + k * 3, none⟩ = some (.bool (pc t.pcs k).ad) := (hbl.cell hbs).trans g1
      have p2 : wr.cell? ⟨b, o + k * 3 + 1, none⟩ = some (.int .i64 f) := (hbl.cell hbs).trans g2
      have p3 : wr.cell? ⟨b, o + k * 3 + 2, none⟩ = some (.int .i64 z) := (hbl.cell hbs).trans g3
      have hsrc : BAt wr (some ⟨sb, so + f, none⟩) (pbytes t (pc t.pcs k)) := by
        rw [epb]; exact BAt.sub (fun j hj => (hbl.cell (p := ⟨sb, so + j, none⟩) hsb).trans (hsc j hj)) (Nat.lt_of_lt_of_le hsb hbl.size) hfz
      have HB := Hid.mk' hbl
      have HS := Hid.mk' hsrc
      have HV := Hid.mk' esv.symm
      have HE := Hid.mk' elen
      have HR := Hid.mk' hrow
      have HX := Hid.mk' hbox
      have glt := hrow.lt
      generalize hn : (store t (pc t.pcs k)).length = n at *
      have HTS : Hid (∀ (w' : World), w'.rowIs w2.heap.size 5 (text t).length (fun j => if (ptext t (t.pcs.take k)).length ≤ j ∧ j < (ptext t (t.pcs.take k)).length + z then bv (pbytes t (pc t.pcs k)) (j - (ptext t (t.pcs.take k)).length) else tpart t k j) → w'.rowIs w2.heap.size 5 (text t).length (tpart t (k + 1))) := fun w' h => tpart_step hlk elen h
      have HPL : Hid ((ptext t (t.pcs.take (k + 1))).length = (ptext t (t.pcs.take k)).length + z) := by show _ = _; rw [ptext_take t t.pcs k hlk, List.length_append, elen]
      generalize hpn : (ptext t (t.pcs.take k)).length = pn at *
      have i0 : ¬ sc = f := by omega
      have i1 : (0 : Int) ≤ (f : Int) := by omega
      have i2 : (f : Int) ≤ (f : Int) + (z : Int) := by omega
      have i3 : (f : Int) + (z : Int) ≤ (sc : Int) := by omega
      have iw : IntKind.i64.wrap ((f : Int) + (z : Int)) = (f : Int) + (z : Int) := by rw [IntKind.wrap_i64]; omega
      have it : ((f : Int) + (z : Int)).toNat - f = z := by omega
      have j0 : ¬ (text t).length = pn := by omega
      have j1 : (0 : Int) ≤ (pn : Int) := by omega
      have j2 : (pn : Int) ≤ ((text t).length : Int) := by omega
      have jw : IntKind.i64.wrap ((pn : Int) + (z : Int)) = (pn : Int) + (z : Int) := by rw [IntKind.wrap_i64]; omega
      clear hc g1 g2 g3 hbl h1 h2 e1 e2 epb elen esv hsc hsrc hrow hbox hn hpn hmk SM
      have N := below_new wr (.cells #[.bool (pc t.pcs k).ad, .int .i64 f, .int .i64 z] 72)
      have HBp := Hid.mk' (HB.out.trans (N.mono HB.out.size))
      have HSp := Hid.mk' (HS.out.below N)
      have HRp := Hid.mk' (rowB HR.out N)
      have HXp := Hid.mk' (rowB HX.out N)
      have HP := Hid.mk' (row3 wr 72 (.bool (pc t.pcs k).ad) (.int .i64 f) (.int .i64 z))
      generalize hwp : wr.alloc (.cells #[.bool (pc t.pcs k).ad, .int .i64 f, .int .i64 z] 72) = wp at *
      obtain ⟨s0, s1, s2, s3⟩ := cells3 HXp.out
      obtain ⟨v0, v1, v2, v3⟩ := cells3 HP.out
      have glt' := HRp.out.lt
      clear N HB HS HR HX
      go_wp2
      clear hwp y0 y1 y2 p1 p2 p3
      go_region_held3 (fun w' => w'.cell? ⟨w.heap.size, 0, none⟩ = some (.slice a1 t.base.length c1) ∧ w'.cell? ⟨w.heap.size, 1, none⟩ = some (.slice a2 t.more.length c2) ∧ w'.cell? ⟨w.heap.size, 2, none⟩ = some (.slice (some ⟨b, o, none⟩) t.pcs.length c3) ∧ w'.cell? ⟨wr.heap.size, 0, none⟩ = some (.bool (pc t.pcs k).ad) ∧ w'.cell? ⟨wr.heap.size, 1, none⟩ = some (.int .i64 f) ∧ w'.cell? ⟨wr.heap.size, 2, none⟩ = some (.int .i64 z)) (simp [*])
        (first | (refine step_copy_any rfl (.tmp 22) (.tmp 34) 22 22 rfl Try.underlying22 (by kernel_rfl) w2.heap.size pn _ _ rfl (some ⟨sb, so + f, none⟩) z _ rfl (pbytes t (pc t.pcs k)) HE.out _ _ (rowB HRp.out hb5) (HSp.out.below hb5) (by omega) (by omega) ?_; intro w6 hr6 hk6; have hx6 : ∀ b o, b < w2.heap.size ∨ w2.heap.size + 1 ≤ b → b < w5.heap.size → w6.cell? ⟨b, o, none⟩ = w5.cell? ⟨b, o, none⟩ := (fun b o h h' => World.cell?_of_block (hk6.block b h' h)); have hl6 := hk6.size) | (go_at_call 46; refine (storeOf_val _ _ _ _ _ _ HV.out).mono ?_; rintro e w5 ⟨rfl, hb5⟩; replace hb5 := undrew hb5; obtain ⟨hx5, _⟩ := bcell hb5; have z5 := hb5.size; have z6 : w.heap.size < w5.heap.size := (by omega); have z7 : wr.heap.size < w5.heap.size := (by omega); have z8 : w.heap.size < w2.heap.size ∨ w2.heap.size + 1 ≤ w.heap.size := (by omega); have z9 : wr.heap.size < w2.heap.size ∨ w2.heap.size + 1 ≤ wr.heap.size := (by omega)))
      have F1 := Hid.mk' (HTS.out w6 hr6)
      have F2 := Hid.mk' (rowK (rowB HXp.out hb5) hk6 z8)
      have F3 := Hid.mk' ((HBp.out.trans (hb5.mono HBp.out.size)).trans (hk6.below (B := w.heap.size) (by omega) (by omega)))
      clear hr6 hk6 hx6 hl6 hb5 hx5 z5 z6 z7 z8 z9 iw it i0 i1 i2 i3 j0 j1 j2 jw s0 s1 s2 s3 v0 v1 v2 v3 HXp HRp HSp HP HTS
      go_wp2
      go_roundw
      case rel => exact ⟨k + 1, by omega, by go_num, by rw [HPL.out]; go_num, F1.out, F2.out, F3.out⟩
      case measure => simp [intOf]; omega
    · go_wp2
      go_ret
      have e : k = t.pcs.length := by omega
      subst e
      refine ⟨_, rfl, ob_of_row rfl (tpart_end hrow), In.at (by have := B2.out.size; omega) hrow.lt, hbl⟩

set_option maxHeartbeats 400000 in
theorem implText_any (v : Value) (t : TB) (w : World) (ht : TAtC w v t) (hwf : WFT t) (hl : (t.base.length : Int) + t.more.length + t.pcs.length ≤ 1048576) :
    Calls Try.prog 9 #[v] w fun e w' => ∃ s, e = .returned (.agg #[.int .i64 (fault t), s]) ∧ OB w' s (textVal t) ∧ In w.heap.size w'.heap.size s ∧ Below w.heap.size w w' := by
  obtain ⟨a1, a2, a3, c1, c2, c3, rfl, h1, h2, h3, m1, m2⟩ := id ht
  have B0 := ((Below.refl w.heap.size w).alloc (Nat.le_refl _) (.cells #[.slice a1 t.base.length c1, .slice a2 t.more.length c2, .slice a3 t.pcs.length c3] 26)).alloc (by simp) (.cells #[.int .i64 0, .slice none 0 0] 33)
  have R0 := (row3 w 26 (.slice a1 t.base.length c1) (.slice a2 t.more.length c2) (.slice a3 t.pcs.length c3)).alloc (.cells #[.int .i64 0, .slice none 0 0] 33)
  have K := tableFault_any _ t _ (ht.at.below B0) hwf hl
  have T0 := Hid.mk' (ht.below B0)
  have BB := Hid.mk' B0
  have RR := Hid.mk' R0
  clear h1 h2 h3 ht B0 R0
  by_cases hz : fault t = 0
  · have V : Hid (textVal t = text t) := by unfold textVal; rw [hz]; rfl
    rw [hz] at K
    have Z := Hid.mk' hz
    have KK := Hid.mk' K
    clear K hz
    go_enter Try.func9, Try.ntmps9
    go_wp2_with fail
    refine KK.out.mono ?_
    rintro e w1 ⟨rfl, hb1⟩
    have R1 := Hid.mk' (rowB RR.out hb1)
    have K2 := Hid.mk' (textOfPieces_any _ t w1 (T0.out.below hb1) Z.out)
    have B1 := Hid.mk' (BB.out.trans (hb1.mono BB.out.size))
    obtain ⟨hc1, hf1⟩ := bcell hb1
    simp at hc1 hf1
    have y := hb1.size
    simp at y
    have y' : w.heap.size + 1 < w1.heap.size := by omega
    clear KK BB RR hb1 T0
    go_wp2_with fail
    refine K2.out.mono ?_
    rintro e w2 ⟨v2, rfl, o2, i2, hb2⟩
    obtain ⟨va, vc, rfl, _⟩ := o2.len
    have O2 := Hid.mk' o2
    have I2 := Hid.mk' i2
    have B2 := Hid.mk' (B1.out.trans (hb2.mono B1.out.size))
    obtain ⟨hc2, hf2⟩ := bcell hb2
    have y2 := hb2.size
    clear K2 hb2 o2 i2 B1 R1
    go_wp2
    refine bodyPost_ret (v := .agg #[.int .i64 0, .slice va (text t).length vc]) (by simp [results, Try.results9, go_sem, *]) rfl ?_
    have hk := kept2 w2 (w.heap.size + 1) 0 1 (.int .i64 0) (.slice va (text t).length vc)
    refine ⟨_, by rw [Z.out], ?_, I2.out.mono (by omega) hk.size, B2.out.trans (hk.below (by omega) (by omega))⟩
    rw [V.out]
    exact O2.out.kept I2.out hk (.inr (by omega))
  · have V : Hid (textVal t = []) := by unfold textVal; rw [if_neg hz]; exact rfl
    have hb : (fault t != 0) = true := by rw [bne_iff_ne]; exact hz
    have KK := Hid.mk' K
    clear K hz RR T0
    go_enter Try.func9, Try.ntmps9
    go_wp2_with fail
    refine KK.out.mono ?_
    rintro e w1 ⟨rfl, hb1⟩
    have B1 := Hid.mk' (BB.out.trans (hb1.mono BB.out.size))
    obtain ⟨hc1, hf1⟩ := bcell hb1
    simp at hc1 hf1
    have y := hb1.size
    simp at y
    clear KK BB hb1
    go_wp2
    refine bodyPost_ret (v := .agg #[.int .i64 (fault t), .slice none 0 0]) (by simp [results, Try.results9, go_sem, *]) rfl ?_
    refine ⟨_, rfl, ?_, In.nil _ _, below_two B1.out (by omega)⟩
    rw [V.out]
    exact OB.none _

end Go.Proofs.Ytahkneghmgmnbaa
