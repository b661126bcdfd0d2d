/- EditMemo, the model's side. -/
import Derived.Test.YtmhihkdnhaadeaaGreatDoorG34
import Derived.Test.YtmhihkdnhaadeaaGreatDoorG35
import Derived.Test.YtmhihkdnhaadeaaGreatDoorG29
import Derived.Test.YtmhihkdnhaadeaaGreatDoorG31
set_option maxHeartbeats 3200000
set_option maxRecDepth 100000
set_option linter.unusedVariables false
set_option linter.unusedSimpArgs false
namespace Go.Proofs.YtmhihkdnhaadeaaGreatDoor
open Go.RowKit
def eM (m : ME) (A N : Int) (p : List Int) : ME := if edC m A N p = 0 then memX (spl m.dt A.toNat N.toNat p) m.st.toNat else m0
def eR (m : ME) (A N : Int) (p : List Int) : Int := if edC m A N p = 0 then mtV m A N p - ((A.toNat / m.st.toNat * m.st.toNat : Nat) : Int) else 0
theorem cell_setRow (w : World) (g : Nat) (cs : Array Value) {p : Addr} (h : p.block ≠ g) : (w.setRow g cs).cell? p = w.cell? p := by
 unfold World.cell?
 rw [setRow_other w g p.block cs h]
theorem boxesM (w : World) (x0 x1 x2 x3 x4 : Value) :
  let W := (w.alloc (.cells #[x0, x1, x2, x3, x4] 34)).alloc (.cells #[.int .i64 0, .int .i64 0, .slice none 0 0, .int .i64 0, .slice none 0 0, .slice none 0 0, .slice none 0 0] 42)
  Below w.heap.size w W ∧ W.rowIs w.heap.size 34 5 (r5 x0 x1 x2 x3 x4) ∧ RowA W (w.heap.size + 1) 42 #[.int .i64 0, .int .i64 0, .slice none 0 0, .int .i64 0, .slice none 0 0, .slice none 0 0, .slice none 0 0] := by
 refine ⟨(below_new w _).alloc (by simp) _, (row5 w 34 x0 x1 x2 x3 x4).alloc _, ?_⟩
 have := RowA.new (w.alloc (.cells #[x0, x1, x2, x3, x4] 34)) 42 #[.int .i64 0, .int .i64 0, .slice none 0 0, .int .i64 0, .slice none 0 0, .slice none 0 0, .slice none 0 0]
 rw [show (w.alloc (.cells #[x0, x1, x2, x3, x4] 34)).heap.size = w.heap.size + 1 by simp] at this
 exact this
theorem specEM_any (m : ME) (bd bt bc : Nat) (u : Option Addr) (ca ct cu cc : Nat) (A N : Int) (e : Option Addr) (d : Nat) (p : List Int) (w : World) (h1 : MAt w (some ⟨bd, 0, none⟩) (some ⟨bt, 0, none⟩) u (some ⟨bc, 0, none⟩) m) (hca : m.dt.length ≤ ca) (hct : m.tk.length ≤ ct) (he : BAt w e p) (hpb : Byt p) (hub : Byt m.dt) (hcb : ∀ k, k < m.cs.length → Byt (ckK m.cs k).hd) (htb : TBt m.tk) (hhb : Byt m.hd) (hm : (msz m : Int) ≤ 1048576) (hl : p.length ≤ 1048576) (a1 : -9223372036854775808 ≤ A) (a2 : A ≤ 9223372036854775807) (n1 : -9223372036854775808 ≤ N) (n2 : N ≤ 9223372036854775807) :
  Calls Tryz.prog 13 #[.agg #[.slice (some ⟨bd, 0, none⟩) m.dt.length ca, .int .i64 m.st, .slice (some ⟨bt, 0, none⟩) m.tk.length ct, .slice u m.hd.length cu, .slice (some ⟨bc, 0, none⟩) m.cs.length cc], .int .i64 A, .int .i64 N, .slice e p.length d] w fun ev w' => ∃ a t u c ca ct cu cc, ev = .returned (.agg #[.int .i64 (edC m A N p), .int .i64 (eR m A N p), .slice a (eM m A N p).dt.length ca, .int .i64 (eM m A N p).st, .slice t (eM m A N p).tk.length ct, .slice u (eM m A N p).hd.length cu, .slice c (eM m A N p).cs.length cc]) ∧ MAt w' a t u c (eM m A N p) ∧ Below w.heap.size w w' := by
 obtain ⟨B0, R1, R2⟩ := boxesM w (.slice (some ⟨bd, 0, none⟩) m.dt.length ca) (.int .i64 m.st) (.slice (some ⟨bt, 0, none⟩) m.tk.length ct) (.slice u m.hd.length cu) (.slice (some ⟨bc, 0, none⟩) m.cs.length cc)
 have KF := Hid.mk' (l13Edit_any w.heap.size m _ _ u _ ca ct cu cc A N e d p _ ⟨R1, h1.below B0⟩ hub hm hl a1 a2 n1 n2)
 have HO : Hid (P1 w.heap.size m _ _ u _ ca ct cu cc _) := Hid.mk' ⟨R1, h1.below B0⟩
 have HP := Hid.mk' (he.below B0)
 have HB := Hid.mk' B0
 have H2 := Hid.mk' R2
 have BC : Hid (m.cs = [] ∨ bc < w.heap.size) := Hid.mk' (by
  rcases h1.2.2.2 with hn | ⟨b8, o8, e8, hlt, -⟩
  ·exact .inl hn
  ·cases e8; exact .inr hlt)
 clear B0 R1 R2 h1 he
 generalize hW : (w.alloc (.cells #[.slice (some ⟨bd, 0, none⟩) m.dt.length ca, .int .i64 m.st, .slice (some ⟨bt, 0, none⟩) m.tk.length ct, .slice u m.hd.length cu, .slice (some ⟨bc, 0, none⟩) m.cs.length cc] 34)).alloc (.cells #[.int .i64 0, .int .i64 0, .slice none 0 0, .int .i64 0, .slice none 0 0, .slice none 0 0, .slice none 0 0] 42) = W at *
 go_enter Tryz.func13, Tryz.ntmps13
 go_wp2_with fail
 clear hW
 refine KF.out.mono ?_
 rintro e1 w1 ⟨rfl, hb1⟩
 have HZ := Hid.mk' (H2.out.below hb1)
 have HW1 : Hid (w.heap.size + 1 < w1.heap.size) := Hid.mk' HZ.out.lt
 have HM := Hid.mk' (HO.out.below hb1)
 have HP1 := Hid.mk' (HP.out.below hb1)
 have B1 := Hid.mk' (HB.out.trans (hb1.mono HB.out.size))
 clear hb1 KF H2 HO HP
 by_cases hf : edC m A N p = 0
 rotate_left
 ·have EV : Hid (eR m A N p = 0) := Hid.mk' (by unfold eR; rw [if_neg hf])
  have EM : Hid (eM m A N p = m0) := Hid.mk' (by unfold eM; rw [if_neg hf])
  obtain ⟨F, hF⟩ : ∃ F, edC m A N p = F := ⟨_, rfl⟩
  rw [hF] at hf ⊢
  have EC := Hid.mk' hF
  clear hF
  have hne : (F != 0) = true := by simp [hf]
  have HS := Hid.mk' (HZ.out.put #[.int .i64 F, .int .i64 0, .slice none 0 0, .int .i64 0, .slice none 0 0, .slice none 0 0, .slice none 0 0])
  have BS := Hid.mk' (RowA.putBelow B1.out (Nat.le_succ w.heap.size) #[.int .i64 F, .int .i64 0, .slice none 0 0, .int .i64 0, .slice none 0 0, .slice none 0 0, .slice none 0 0])
  go_wp2_with (first | ((with_reducible refine wpList_store_row ?_ 42 (.tmp 8) (.tmp 21) ?_ (w.heap.size + 1) #[.int .i64 F, .int .i64 0, .slice none 0 0, .int .i64 0, .slice none 0 0, .slice none 0 0, .slice none 0 0] ?_ ?_ 42 #[.int .i64 0, .int .i64 0, .slice none 0 0, .int .i64 0, .slice none 0 0, .slice none 0 0, .slice none 0 0] ?_ ?_ ?_ ?_ ?_); rfl; rfl; rfl; rfl; exact HZ.out; kernel_rfl; rfl; kernel_rfl) | fail)
  refine bodyPost_ret (v := .agg #[.int .i64 F, .int .i64 0, .slice none 0 0, .int .i64 0, .slice none 0 0, .slice none 0 0, .slice none 0 0]) ?_ ?_ ?_
  ·exact results_cell1 Tryz.results13 _ _ _ ⟨w.heap.size + 1, 0, none⟩ _ rfl (HS.out.load _ Tryz.underlying42 rfl (by kernel_rfl))
  ·rfl
  rw [EM.out, EV.out, EC.out]
  exact ⟨none, none, none, none, 0, 0, 0, 0, rfl, ⟨.inl rfl, .inl rfl, .inl rfl, .inl rfl⟩, BS.out⟩
 obtain ⟨hf1, hf2⟩ := edC_ok hf
 obtain ⟨g1, g2, g3, g4⟩ := spC_zero hf2
 obtain ⟨i, rfl⟩ : ∃ i : Nat, A = (i : Int) := ⟨A.toNat, by omega⟩
 obtain ⟨j, rfl⟩ : ∃ j : Nat, N = (j : Int) := ⟨N.toNat, by omega⟩
 obtain ⟨h240, s, hst, hs, hs2, hsame⟩ := memF_ok hf1
 obtain ⟨ecl, eck⟩ := right_checks hub hcb hsame
 obtain ⟨etk, ehd⟩ := right_toks hub htb hhb hsame
 have elen := right_len hsame
 have hat : i + j ≤ m.dt.length := by omega
 have hL : (spl m.dt i j p).length ≤ 240 := by rw [spl_len hat]; omega
 have KG := Hid.mk' (l13Go_any w.heap.size m u bd 0 bt 0 bc 0 ca ct cu cc s i j e d p w1 HM.out hca hct hub hpb HP1.out hst hs hs2 h240 ecl eck (fun k _ => by rw [elen]; exact tkN_le _ _ _) hat hL (by omega) hm)
 have EM : Hid (eM m (i : Int) (j : Int) p = memX (spl m.dt i j p) s) := Hid.mk' (by
  unfold eM
  rw [if_pos hf, hst]
  rfl)
 have EV : Hid (eR m (i : Int) (j : Int) p = (meetN (mtF m.dt (spl m.dt i j p) s i j p.length) (spl m.dt i j p).length (i / s * s) : Int) - ((i / s * s : Nat) : Int)) := Hid.mk' (by
  unfold eR mtV
  rw [if_pos hf, hst]
  simp only [Int.toNat_natCast]
  rw [if_pos hf])
 have EC := Hid.mk' hf
 rw [hf]
 obtain ⟨x0, x1, x2, x3, x4, x5⟩ := cells5 HM.out.r
 have EK := Hid.mk' eck
 have ECL := Hid.mk' ecl
 have XLE : meetN (mtF m.dt (spl m.dt i j p) s i j p.length) (spl m.dt i j p).length (i / s * s) ≤ (spl m.dt i j p).length := meetN_le _ _ rfl
 clear ecl eck hsame hf hf1 hf2 elen
 have ETK := Hid.mk' etk
 have EHD := Hid.mk' ehd
 have HUB := Hid.mk' hub
 have HPB := Hid.mk' hpb
 have HST := Hid.mk' hst
 clear etk ehd hub hpb hst hcb htb hhb
 go_wp2_with fail
 clear x0 x1 x2 x3 x4 x5
 refine KG.out.mono ?_
 rintro e2 w2 ⟨v, u2, us, RT, RH, rfl, tk, ow, hb2, hRR⟩
 obtain ⟨rt, rh⟩ := edit_toks HUB.out HPB.out hs hat ETK.out EHD.out rfl (hRR _ rfl).1 (hRR _ rfl).2
 subst rt
 subst rh
 have HZ2 := Hid.mk' (HZ.out.below hb2)
 have HM2 := Hid.mk' (HM.out.below hb2)
 have HP2 := Hid.mk' (HP1.out.below hb2)
 have B2 := Hid.mk' (B1.out.trans (hb2.mono B1.out.size))
 have TKS := Hid.mk' tk
 have OWN := Hid.mk' ow
 clear hRR tk ow hb2 HZ HM HP1 KG
 obtain ⟨va, vc, rfl, -⟩ := own_src TKS.out.row
 obtain ⟨ua, uc, rfl, -⟩ := own_bat OWN.out
 have TB := Hid.mk' (byt_spl HUB.out HPB.out i j)
 generalize meetN (mtF m.dt (spl m.dt i j p) s i j p.length) (spl m.dt i j p).length (i / s * s) = X at *
 have LSP := Hid.mk' (spl_len (p := p) hat)
 have KSP : Hid (∀ z : World, Below w2.heap.size w2 z → Calls Tryz.prog 32 #[.slice (some ⟨bd, 0, none⟩) m.dt.length ca, .int .i64 (i : Int), .int .i64 (j : Int), .slice e p.length d] z fun e w' => ∃ v, e = .returned v ∧ w'.ownsRow z.heap.size 5 1 v (spl m.dt i j p).length (bcs (spl m.dt i j p)) ∧ Below z.heap.size z w') := Hid.mk' (fun z hz => l13SpliceB_any bd 0 ca m.dt i j e d p z (HM2.out.m1.1.below hz) hca (HP2.out.below hz) (by omega) hl hat)
 have KLN : Hid (∀ (z : World) (a : Option Addr) (c : Nat), BAt z a (spl m.dt i j p) → Calls Tryz.prog 31 #[.slice a (spl m.dt i j p).length c, .int .i64 (s : Int)] z fun e w' => LnP (spl m.dt i j p) s z e w') := Hid.mk' (fun z a c hz => l12New_any _ a c s z hz TB.out hL hs hs2)
 generalize hTT : spl m.dt i j p = T at *
 have HTT := Hid.mk' hTT
 clear hTT
 have HCE : Hid (∀ z, Below w2.heap.size w2 z → (fun z => z.cell? ⟨w.heap.size, 0, none⟩ = some (.slice (some ⟨bd, 0, none⟩) m.dt.length ca) ∧ z.cell? ⟨w.heap.size, 1, none⟩ = some (.int .i64 (s : Int))) z) := Hid.mk' (fun z hz => by
  have M := HM2.out.below hz
  obtain ⟨x0, x1, x2, x3, x4, x5⟩ := cells5 M.r
  rw [HST.out] at x1
  exact ⟨x0, x1⟩)
 rw [HST.out]
 go_wp2_with fail
 refine wp_region_held_drew (S := (fun z => z.cell? ⟨w.heap.size, 0, none⟩ = some (.slice (some ⟨bd, 0, none⟩) m.dt.length ca) ∧ z.cell? ⟨w.heap.size, 1, none⟩ = some (.int .i64 (s : Int)))) (by kernel_rfl) (HCE.out _ (Below.refl _ _).drew) (fun hHeld => ?_)
 refine tkY 0 ?_
 refine tkY 1 ?_
 refine tkY 2 ?_
 refine tkY 3 ?_
 refine tkY 4 ?_
 refine tkY 6 ?_
 refine tkY 7 ?_
 refine wpAnyH_ready (rs := [5, 9]) (by kernel_rfl) (by simp) ?_
 refine AllReadyH.cons (o := ⟨_, _, _, _, _, _⟩) rfl (fun K9 hK => ?_) (AllReadyH.cons (o := ⟨_, _, _, _, _, _⟩) rfl (fun K9 hK => ?_) AllReadyH.nil)
 ·go_simp
  refine (KSP.out _ (Below.refl _ _).drew).mono ?_
  rintro e3 w3 ⟨sv, rfl, osv, hb3⟩
  replace hb3 := undrew hb3
  obtain ⟨sa, sc, rfl, bsv⟩ := own_bat osv
  have BS := Hid.mk' bsv
  clear bsv osv
  have BB := Hid.mk' hb3
  have B53 := Hid.mk' hb3
  clear hb3
  refine hK.out _ _ (HCE.out _ BB.out) (fun hHeld => ?_)
  clear hK K9
  try simp only [Act.put, zA, zB, zC]
  refine wpAnyH_ready (rs := [8, 9]) (by kernel_rfl) (by simp) ?_
  refine AllReadyH.cons (o := ⟨_, _, _, _, _, _⟩) rfl (fun K9 hK => ?_) (AllReadyH.cons (o := ⟨_, _, _, _, _, _⟩) rfl (fun K9 hK => ?_) AllReadyH.nil)
  ·go_simp
   refine (KLN.out w3 _ _ BS.out).mono ?_
   rintro e4 w4 ⟨a9, t9, u9, c9, ca9, ct9, cu9, cc9, rfl, hM, hb4⟩
   have HMM := Hid.mk' hM
   have B84 := Hid.mk' hb4
   have BB := Hid.mk' (BB.out.trans (hb4.mono BB.out.size))
   clear hM hb4
   refine hK.out _ _ (HCE.out _ BB.out) (fun hHeld => ?_)
   clear hK K9
   try simp only [Act.put, zA, zB, zC]
   refine wpAnyH_ready (rs := [9]) (by kernel_rfl) (by simp) ?_
   refine AllReadyH.cons (o := ⟨_, _, _, _, _, _⟩) rfl (fun K9 hK => ?_) AllReadyH.nil
   go_simp
   have N9 := below_new w4 (.cells #[.slice none 0 0, .int .i64 0, .slice none 0 0, .slice none 0 0, .slice none 0 0] 34)
   refine hK.out _ _ (HCE.out _ (BB.out.trans (N9.mono BB.out.size))) (fun hHeld => ?_)
   clear hK K9
   try simp only [Act.put, zA, zB, zC]
   refine wpAnyH_ready (rs := [10]) (by kernel_rfl) (by simp) ?_
   refine AllReadyH.cons (o := ⟨_, _, _, _, _, _⟩) rfl (fun K9 hK => ?_) AllReadyH.nil
   have NC := below_new w4 (.cells #[.slice a9 T.length ca9, .int .i64 (s : Int), .slice t9 (allX [] [] T).1.length ct9, .slice u9 (allX [] [] T).2.length cu9, .slice c9 (T.length / s + 1) cc9] 34)
   refine step_store_row rfl 34 (.tmp 13) (.tmp 38) rfl w4.heap.size #[.slice a9 T.length ca9, .int .i64 (s : Int), .slice t9 (allX [] [] T).1.length ct9, .slice u9 (allX [] [] T).2.length cu9, .slice c9 (T.length / s + 1) cc9] rfl rfl 34 _ (Deep.blk_alloc_new w4 _) (by kernel_rfl) rfl (by kernel_rfl) ?_
   rw [alloc_setRow]
   have BV := Hid.mk' (BB.out.trans (NC.mono BB.out.size))
   refine hK.out _ _ (HCE.out _ BV.out) (fun hHeld => ?_)
   clear hK K9
   try simp only [Act.put, zA, zB, zC]
   refine wpAnyH_done (by kernel_rfl) ?_ _
   have HRV := Hid.mk' (RowA.new w4 34 #[.slice a9 T.length ca9, .int .i64 (s : Int), .slice t9 (allX [] [] T).1.length ct9, .slice u9 (allX [] [] T).2.length cu9, .slice c9 (T.length / s + 1) cc9])
   have HgV : w2.heap.size ≤ w4.heap.size := BB.out.size
   have HMV : Hid (∀ z : World, w4.heap.size + 1 ≤ z.heap.size → (∀ q, w2.heap.size ≤ q → q < w4.heap.size + 1 → q ≠ w4.heap.size → z.heap[q]? = (w4.alloc (.cells #[.slice a9 T.length ca9, .int .i64 (s : Int), .slice t9 (allX [] [] T).1.length ct9, .slice u9 (allX [] [] T).2.length cu9, .slice c9 (T.length / s + 1) cc9] 34)).heap[q]?) → MAt z a9 t9 u9 c9 (memX T s)) := Hid.mk' (fun z h1 h2 => HMM.out z (by omega) (fun q q1 q2 => (h2 q (by have := B53.out.size; omega) (by omega) (by omega)).trans (NC.block q q2)))
   have HVS : (w4.alloc (.cells #[.slice a9 T.length ca9, .int .i64 (s : Int), .slice t9 (allX [] [] T).1.length ct9, .slice u9 (allX [] [] T).2.length cu9, .slice c9 (T.length / s + 1) cc9] 34)).heap.size = w4.heap.size + 1 := by simp
   rw [← HVS] at HMV
   clear HVS N9 NC HMM B53 B84 BB BS
   generalize hV : w4.alloc (.cells #[.slice a9 T.length ca9, .int .i64 (s : Int), .slice t9 (allX [] [] T).1.length ct9, .slice u9 (allX [] [] T).2.length cu9, .slice c9 (T.length / s + 1) cc9] 34) = V at *
   clear hV
   clear hHeld
   have z2 := HRV.out.cell 2 _ rfl
   have z3 := HRV.out.cell 3 _ rfl
   have f2 := HRV.out.frozen 2
   have f3 := HRV.out.frozen 3
   have HR2 : Hid (RowA ((V.setCell ⟨w4.heap.size, 2, none⟩ (.slice va (allX [] [] T).1.length vc)).setCell ⟨w4.heap.size, 3, none⟩ (.slice ua (allX [] [] T).2.length uc)) w4.heap.size 34 #[.slice a9 T.length ca9, .int .i64 (s : Int), .slice va (allX [] [] T).1.length vc, .slice ua (allX [] [] T).2.length uc, .slice c9 (T.length / s + 1) cc9]) := Hid.mk' ((HRV.out.set 2 (.slice va (allX [] [] T).1.length vc)).set 3 (.slice ua (allX [] [] T).2.length uc))
   have BV2 := Hid.mk' (RowA.setBelow (RowA.setBelow BV.out HgV 2 (.slice va (allX [] [] T).1.length vc)) HgV 3 (.slice ua (allX [] [] T).2.length uc))
   have KV2 := Hid.mk' ((((KeptIn.refl w4.heap.size (w4.heap.size + 1) V).setCell (p := ⟨w4.heap.size, 2, none⟩) (Nat.le_refl _) (Nat.lt_succ_self _) (.slice va (allX [] [] T).1.length vc))).setCell (p := ⟨w4.heap.size, 3, none⟩) (Nat.le_refl _) (Nat.lt_succ_self _) (.slice ua (allX [] [] T).2.length uc))
   go_wp2_with fail
   generalize hV2 : (V.setCell ⟨w4.heap.size, 2, none⟩ (.slice va (allX [] [] T).1.length vc)).setCell ⟨w4.heap.size, 3, none⟩ (.slice ua (allX [] [] T).2.length uc) = V2 at *
   clear hV2 z2 z3 f2 f3
   have HM3 := Hid.mk' (HM2.out.below BV2.out)
   have HZ3 := Hid.mk' (HZ2.out.below BV2.out)
   obtain ⟨x0, x1, x2, x3, x4, x5⟩ := cells5 HM3.out.r
   rw [HST.out] at x1
   have hKJ : i / s < m.dt.length / s + 1 := Nat.lt_succ_of_le (Nat.div_le_div_right (by omega))
   have ecl2 : m.cs.length = m.dt.length / s + 1 := ECL.out
   rcases HM3.out.m1.2.2.2 with hnil | ⟨b8, o8, e8, hbs9, hc9⟩
   ·rw [hnil] at ecl2; simp at ecl2
   cases e8
   obtain ⟨p1, p2_, pq, pc, p3, p4⟩ := hc9 (i / s) (by rw [ecl2]; exact hKJ)
   rw [EK.out (i / s) hKJ] at p1
   have c0 : V2.cell? ⟨bc, i / s * 3, none⟩ = some (.int .i64 ((i / s * s : Nat) : Int)) := by rw [Nat.zero_add] at p1; exact p1
   have hq0 : (i : Int) / (s : Int) = ((i / s : Nat) : Int) := by simp
   have hs0 : ¬ s = 0 := by omega
   have ck : ((i / s : Nat) : Int) < (m.cs.length : Int) := by rw [ecl2]; exact_mod_cast hKJ
   have hKi : i / s ≤ i := Nat.div_le_self _ _
   have hqs : i / s * s ≤ i := Nat.div_mul_le_self _ _
   clear p1 p2_ p3 p4 ecl2 hc9 hbs9 x2 x3
   have HXX := Hid.mk' XLE
   generalize hKK : i / s = K at *
   generalize hQQ : K * s = Q at *
   have hwK : IntKind.i64.wrap (K : Int) = (K : Int) := by rw [IntKind.wrap_i64]; omega
   have hwX : IntKind.i64.wrap ((X : Int) - (Q : Int)) = (X : Int) - (Q : Int) := by rw [IntKind.wrap_i64]; omega
   refine wp_region_held_drew (S := (fun z => z.cell? ⟨w.heap.size, 1, none⟩ = some (.int .i64 (s : Int)) ∧ z.cell? ⟨w.heap.size, 4, none⟩ = some (.slice (some ⟨bc, 0, none⟩) m.cs.length cc) ∧ z.cell? ⟨bc, K * 3, none⟩ = some (.int .i64 (Q : Int)) ∧ Hid (RowA z w4.heap.size 34 #[.slice a9 T.length ca9, .int .i64 (s : Int), .slice va (allX [] [] T).1.length vc, .slice ua (allX [] [] T).2.length uc, .slice c9 (T.length / s + 1) cc9]))) (by kernel_rfl) ⟨x1, x4, c0, HR2⟩ (fun hHeld => ?_)
   refine tkY 0 ?_
   refine tkY 1 ?_
   refine tkY 2 ?_
   refine tkY 3 ?_
   refine tkY 4 ?_
   refine tkY 5 ?_
   refine tkY 6 ?_
   refine tkY 7 ?_
   refine tkY 8 ?_
   refine tkY 9 ?_
   refine tkY 10 ?_
   refine wpAnyH_take (i := 11) (oi := ⟨_, _, _, _, _, _⟩) (v := ?_) rfl (by kernel_rfl) (by kernel_rfl) (by kernel_rfl) (fun _ _ _ h => h) (Or.inl ⟨by rfl, ?_⟩) (by assumption) ?_
   rotate_left
   ·(intro w' hSw; refine RowA.exec hSw.2.2.2.out (.tmp 13) ?_ ?_ _ Tryz.underlying34 ?_ ?_; rfl; rfl; rfl; kernel_rfl)
   try simp only [Act.put, zA, zB, zC]
   refine tkY 12 ?_
   refine wpAnyH_ready (rs := [13]) (by kernel_rfl) (by simp) ?_
   refine AllReadyH.cons (o := ⟨_, _, _, _, _, _⟩) rfl (fun K9 hK => ?_) AllReadyH.nil
   refine step_store_row rfl 42 (.tmp 8) (.tmp 55) rfl (w.heap.size + 1) #[.int .i64 0, .int .i64 ((X : Int) - (Q : Int)), .slice a9 T.length ca9, .int .i64 (s : Int), .slice va (allX [] [] T).1.length vc, .slice ua (allX [] [] T).2.length uc, .slice c9 (T.length / s + 1) cc9] rfl rfl 42 #[.int .i64 0, .int .i64 0, .slice none 0 0, .int .i64 0, .slice none 0 0, .slice none 0 0, .slice none 0 0] HZ3.out.drew (by kernel_rfl) rfl (by kernel_rfl) ?_
   have hZ1 : w.heap.size + 1 < w2.heap.size := HZ2.out.lt
   have hbc : bc < w.heap.size := by
    rcases BC.out with h | h
    ·exact absurd (congrArg List.length h) (by rw [ECL.out]; simp)
    ·exact h
   have S3 := Hid.mk' (HZ3.out.drew.put #[.int .i64 0, .int .i64 ((X : Int) - (Q : Int)), .slice a9 T.length ca9, .int .i64 (s : Int), .slice va (allX [] [] T).1.length vc, .slice ua (allX [] [] T).2.length uc, .slice c9 (T.length / s + 1) cc9])
   refine hK.out _ _ ⟨(cell_setRow _ _ _ (by simp)).trans x1, (cell_setRow _ _ _ (by simp)).trans x4, (cell_setRow _ _ _ (by simp; omega)).trans c0, Hid.mk' (HR2.out.drew.otherRow (by omega) _)⟩ (fun hHeld => ?_)
   clear hK K9
   try simp only [Act.put, zA, zB, zC]
   refine wpAnyH_done (by kernel_rfl) ?_ _
   clear hHeld x0 x1 x4 x5 c0
   have KR3 := RowA.keptRow V2.drew (w.heap.size + 1) #[.int .i64 0, .int .i64 ((X : Int) - (Q : Int)), .slice a9 T.length ca9, .int .i64 (s : Int), .slice va (allX [] [] T).1.length vc, .slice ua (allX [] [] T).2.length uc, .slice c9 (T.length / s + 1) cc9]
   have sz3 : (V2.drew.setRow (w.heap.size + 1) #[.int .i64 0, .int .i64 ((X : Int) - (Q : Int)), .slice a9 T.length ca9, .int .i64 (s : Int), .slice va (allX [] [] T).1.length vc, .slice ua (allX [] [] T).2.length uc, .slice c9 (T.length / s + 1) cc9]).heap.size = V2.heap.size := setRow_size _ _ _
   have B3 : Hid (Below w.heap.size w (V2.drew.setRow (w.heap.size + 1) #[.int .i64 0, .int .i64 ((X : Int) - (Q : Int)), .slice a9 T.length ca9, .int .i64 (s : Int), .slice va (allX [] [] T).1.length vc, .slice ua (allX [] [] T).2.length uc, .slice c9 (T.length / s + 1) cc9])) := Hid.mk' (RowA.putBelow ((B2.out.trans (BV2.out.mono B2.out.size)).trans ((Below.refl _ _).drew)) (Nat.le_succ _) _)
   have b3 : ∀ q, q ≠ w.heap.size + 1 → (V2.drew.setRow (w.heap.size + 1) #[.int .i64 0, .int .i64 ((X : Int) - (Q : Int)), .slice a9 T.length ca9, .int .i64 (s : Int), .slice va (allX [] [] T).1.length vc, .slice ua (allX [] [] T).2.length uc, .slice c9 (T.length / s + 1) cc9]).heap[q]? = V2.heap[q]? := fun q hq => setRow_other _ _ _ _ hq
   have MV := HMV.out (V2.drew.setRow (w.heap.size + 1) #[.int .i64 0, .int .i64 ((X : Int) - (Q : Int)), .slice a9 T.length ca9, .int .i64 (s : Int), .slice va (allX [] [] T).1.length vc, .slice ua (allX [] [] T).2.length uc, .slice c9 (T.length / s + 1) cc9]) (by rw [sz3]; exact KV2.out.size) (fun q q1 q2 q3 => (b3 q (by omega)).trans (KV2.out.block q q2 (by omega)))
   have w1w := HW1.out
   have TK3 := (TKS.out.keep BV2.out.size (fun k h1 h2 => BV2.out.block k h2)).keep (w' := V2.drew.setRow (w.heap.size + 1) #[.int .i64 0, .int .i64 ((X : Int) - (Q : Int)), .slice a9 T.length ca9, .int .i64 (s : Int), .slice va (allX [] [] T).1.length vc, .slice ua (allX [] [] T).2.length uc, .slice c9 (T.length / s + 1) cc9]) (by rw [sz3]; exact Nat.le_refl _) (fun k h1 h2 => b3 k (by omega))
   have OW3 : (V2.drew.setRow (w.heap.size + 1) #[.int .i64 0, .int .i64 ((X : Int) - (Q : Int)), .slice a9 T.length ca9, .int .i64 (s : Int), .slice va (allX [] [] T).1.length vc, .slice ua (allX [] [] T).2.length uc, .slice c9 (T.length / s + 1) cc9]).ownsRow w1.heap.size 5 1 (.slice ua (allX [] [] T).2.length uc) (allX [] [] T).2.length (bcs (allX [] [] T).2) := own_of (own_keep OWN.out BV2.out) (Nat.le_refl _) (fun q eq hq => b3 q (by omega))
   obtain ⟨_, _, et, hts⟩ := TK3.tsAt
   obtain ⟨rfl, -, rfl⟩ := Value.slice.inj et
   obtain ⟨_, _, eu, hus⟩ := own_bat OW3
   obtain ⟨rfl, -, rfl⟩ := Value.slice.inj eu
   have MF : Hid (MAt (V2.drew.setRow (w.heap.size + 1) #[.int .i64 0, .int .i64 ((X : Int) - (Q : Int)), .slice a9 T.length ca9, .int .i64 (s : Int), .slice va (allX [] [] T).1.length vc, .slice ua (allX [] [] T).2.length uc, .slice c9 (T.length / s + 1) cc9]) a9 va ua c9 (memX T s)) := Hid.mk' ⟨MV.1, hts, hus, MV.2.2.2⟩
   clear MV TK3 OW3 hts hus et eu KR3 b3 sz3
   generalize hV3 : V2.drew.setRow (w.heap.size + 1) #[.int .i64 0, .int .i64 ((X : Int) - (Q : Int)), .slice a9 T.length ca9, .int .i64 (s : Int), .slice va (allX [] [] T).1.length vc, .slice ua (allX [] [] T).2.length uc, .slice c9 (T.length / s + 1) cc9] = V3 at *
   clear hV3
   go_wp2
   refine bodyPost_ret (v := .agg #[.int .i64 0, .int .i64 ((X : Int) - (Q : Int)), .slice a9 T.length ca9, .int .i64 (s : Int), .slice va (allX [] [] T).1.length vc, .slice ua (allX [] [] T).2.length uc, .slice c9 (T.length / s + 1) cc9]) ?_ ?_ ?_
   ·exact results_cell1 Tryz.results13 _ _ _ ⟨w.heap.size + 1, 0, none⟩ _ rfl (S3.out.load _ Tryz.underlying42 rfl (by kernel_rfl))
   ·rfl
   rw [EM.out, EV.out, EC.out]
   exact ⟨a9, va, ua, c9, ca9, vc, uc, cc9, by simp [memX, cksN_len], MF.out, B3.out⟩
  ·have hl3 := BB.out.size
   go_simp
   have RG := RowA.new w3 34 #[.slice none 0 0, .int .i64 0, .slice none 0 0, .slice none 0 0, .slice none 0 0]
   have N9 := below_new w3 (.cells #[.slice none 0 0, .int .i64 0, .slice none 0 0, .slice none 0 0, .slice none 0 0] 34)
   have BS := Hid.mk' (BS.out.below N9)
   have BB := Hid.mk' (BB.out.trans (N9.mono BB.out.size))
   refine hK.out _ _ (HCE.out _ BB.out) (fun hHeld => ?_)
   clear hK K9
   try simp only [Act.put, zA, zB, zC]
   have lg : w3.heap.size < (w3.alloc (.cells #[.slice none 0 0, .int .i64 0, .slice none 0 0, .slice none 0 0, .slice none 0 0] 34)).heap.size := by simp
   clear N9
   generalize hgw : w3.alloc (.cells #[.slice none 0 0, .int .i64 0, .slice none 0 0, .slice none 0 0, .slice none 0 0] 34) = w3a at *
   clear hgw
   have RG := Hid.mk' RG
   refine wpAnyH_ready (rs := [8]) (by kernel_rfl) (by simp) ?_
   refine AllReadyH.cons (o := ⟨_, _, _, _, _, _⟩) rfl (fun K9 hK => ?_) AllReadyH.nil
   go_simp
   refine (KLN.out w3a _ _ BS.out).mono ?_
   rintro e4 w4 ⟨a9, t9, u9, c9, ca9, ct9, cu9, cc9, rfl, hM, hb4⟩
   have HMM := Hid.mk' hM
   have B84 := Hid.mk' hb4
   have BB := Hid.mk' (BB.out.trans (hb4.mono BB.out.size))
   clear hM hb4
   refine hK.out _ _ (HCE.out _ BB.out) (fun hHeld => ?_)
   clear hK K9
   try simp only [Act.put, zA, zB, zC]
   have RG := Hid.mk' (RG.out.below B84.out)
   have BL := Hid.mk' (show Below w2.heap.size w2 w3 from B53.out)
   clear B53 BS
   refine wpAnyH_ready (rs := [10]) (by kernel_rfl) (by simp) ?_
   refine AllReadyH.cons (o := ⟨_, _, _, _, _, _⟩) rfl (fun K9 hK => ?_) AllReadyH.nil
   refine step_store_row rfl 34 (.tmp 13) (.tmp 38) rfl w3.heap.size #[.slice a9 T.length ca9, .int .i64 (s : Int), .slice t9 (allX [] [] T).1.length ct9, .slice u9 (allX [] [] T).2.length cu9, .slice c9 (T.length / s + 1) cc9] rfl rfl 34 _ RG.out (by kernel_rfl) rfl (by kernel_rfl) ?_
   have BV := Hid.mk' (RowA.putBelow BB.out hl3 #[.slice a9 T.length ca9, .int .i64 (s : Int), .slice t9 (allX [] [] T).1.length ct9, .slice u9 (allX [] [] T).2.length cu9, .slice c9 (T.length / s + 1) cc9])
   refine hK.out _ _ (HCE.out _ BV.out) (fun hHeld => ?_)
   clear hK K9
   try simp only [Act.put, zA, zB, zC]
   refine wpAnyH_done (by kernel_rfl) ?_ _
   have HRV := Hid.mk' (RG.out.put #[.slice a9 T.length ca9, .int .i64 (s : Int), .slice t9 (allX [] [] T).1.length ct9, .slice u9 (allX [] [] T).2.length cu9, .slice c9 (T.length / s + 1) cc9])
   have HgV : w2.heap.size ≤ w3.heap.size := hl3
   have HMV : Hid (∀ z : World, (w4.setRow w3.heap.size #[.slice a9 T.length ca9, .int .i64 (s : Int), .slice t9 (allX [] [] T).1.length ct9, .slice u9 (allX [] [] T).2.length cu9, .slice c9 (T.length / s + 1) cc9]).heap.size ≤ z.heap.size → (∀ q, w2.heap.size ≤ q → q < (w4.setRow w3.heap.size #[.slice a9 T.length ca9, .int .i64 (s : Int), .slice t9 (allX [] [] T).1.length ct9, .slice u9 (allX [] [] T).2.length cu9, .slice c9 (T.length / s + 1) cc9]).heap.size → q ≠ w3.heap.size → z.heap[q]? = (w4.setRow w3.heap.size #[.slice a9 T.length ca9, .int .i64 (s : Int), .slice t9 (allX [] [] T).1.length ct9, .slice u9 (allX [] [] T).2.length cu9, .slice c9 (T.length / s + 1) cc9]).heap[q]?) → MAt z a9 t9 u9 c9 (memX T s)) := Hid.mk' (fun z h1 h2 => by
    rw [setRow_size] at h1 h2
    exact HMM.out z h1 (fun q q1 q2 => (h2 q (by have := BL.out.size; omega) q2 (by omega)).trans (setRow_other _ _ _ _ (by omega))))
   clear HMM B84 BB
   generalize hV : w4.setRow w3.heap.size #[.slice a9 T.length ca9, .int .i64 (s : Int), .slice t9 (allX [] [] T).1.length ct9, .slice u9 (allX [] [] T).2.length cu9, .slice c9 (T.length / s + 1) cc9] = V at *
   clear hV
   clear hHeld
   have z2 := HRV.out.cell 2 _ rfl
   have z3 := HRV.out.cell 3 _ rfl
   have f2 := HRV.out.frozen 2
   have f3 := HRV.out.frozen 3
   have HR2 : Hid (RowA ((V.setCell ⟨w3.heap.size, 2, none⟩ (.slice va (allX [] [] T).1.length vc)).setCell ⟨w3.heap.size, 3, none⟩ (.slice ua (allX [] [] T).2.length uc)) w3.heap.size 34 #[.slice a9 T.length ca9, .int .i64 (s : Int), .slice va (allX [] [] T).1.length vc, .slice ua (allX [] [] T).2.length uc, .slice c9 (T.length / s + 1) cc9]) := Hid.mk' ((HRV.out.set 2 (.slice va (allX [] [] T).1.length vc)).set 3 (.slice ua (allX [] [] T).2.length uc))
   have BV2 := Hid.mk' (RowA.setBelow (RowA.setBelow BV.out HgV 2 (.slice va (allX [] [] T).1.length vc)) HgV 3 (.slice ua (allX [] [] T).2.length uc))
   have KV2 := Hid.mk' ((((KeptIn.refl w3.heap.size (w3.heap.size + 1) V).setCell (p := ⟨w3.heap.size, 2, none⟩) (Nat.le_refl _) (Nat.lt_succ_self _) (.slice va (allX [] [] T).1.length vc))).setCell (p := ⟨w3.heap.size, 3, none⟩) (Nat.le_refl _) (Nat.lt_succ_self _) (.slice ua (allX [] [] T).2.length uc))
   go_wp2_with fail
   generalize hV2 : (V.setCell ⟨w3.heap.size, 2, none⟩ (.slice va (allX [] [] T).1.length vc)).setCell ⟨w3.heap.size, 3, none⟩ (.slice ua (allX [] [] T).2.length uc) = V2 at *
   clear hV2 z2 z3 f2 f3
   have HM3 := Hid.mk' (HM2.out.below BV2.out)
   have HZ3 := Hid.mk' (HZ2.out.below BV2.out)
   obtain ⟨x0, x1, x2, x3, x4, x5⟩ := cells5 HM3.out.r
   rw [HST.out] at x1
   have hKJ : i / s < m.dt.length / s + 1 := Nat.lt_succ_of_le (Nat.div_le_div_right (by omega))
   have ecl2 : m.cs.length = m.dt.length / s + 1 := ECL.out
   rcases HM3.out.m1.2.2.2 with hnil | ⟨b8, o8, e8, hbs9, hc9⟩
   ·rw [hnil] at ecl2; simp at ecl2
   cases e8
   obtain ⟨p1, p2_, pq, pc, p3, p4⟩ := hc9 (i / s) (by rw [ecl2]; exact hKJ)
   rw [EK.out (i / s) hKJ] at p1
   have c0 : V2.cell? ⟨bc, i / s * 3, none⟩ = some (.int .i64 ((i / s * s : Nat) : Int)) := by rw [Nat.zero_add] at p1; exact p1
   have hq0 : (i : Int) / (s : Int) = ((i / s : Nat) : Int) := by simp
   have hs0 : ¬ s = 0 := by omega
   have ck : ((i / s : Nat) : Int) < (m.cs.length : Int) := by rw [ecl2]; exact_mod_cast hKJ
   have hKi : i / s ≤ i := Nat.div_le_self _ _
   have hqs : i / s * s ≤ i := Nat.div_mul_le_self _ _
   clear p1 p2_ p3 p4 ecl2 hc9 hbs9 x2 x3
   have HXX := Hid.mk' XLE
   generalize hKK : i / s = K at *
   generalize hQQ : K * s = Q at *
   have hwK : IntKind.i64.wrap (K : Int) = (K : Int) := by rw [IntKind.wrap_i64]; omega
   have hwX : IntKind.i64.wrap ((X : Int) - (Q : Int)) = (X : Int) - (Q : Int) := by rw [IntKind.wrap_i64]; omega
   refine wp_region_held_drew (S := (fun z => z.cell? ⟨w.heap.size, 1, none⟩ = some (.int .i64 (s : Int)) ∧ z.cell? ⟨w.heap.size, 4, none⟩ = some (.slice (some ⟨bc, 0, none⟩) m.cs.length cc) ∧ z.cell? ⟨bc, K * 3, none⟩ = some (.int .i64 (Q : Int)) ∧ Hid (RowA z w3.heap.size 34 #[.slice a9 T.length ca9, .int .i64 (s : Int), .slice va (allX [] [] T).1.length vc, .slice ua (allX [] [] T).2.length uc, .slice c9 (T.length / s + 1) cc9]))) (by kernel_rfl) ⟨x1, x4, c0, HR2⟩ (fun hHeld => ?_)
   refine tkY 0 ?_
   refine tkY 1 ?_
   refine tkY 2 ?_
   refine tkY 3 ?_
   refine tkY 4 ?_
   refine tkY 5 ?_
   refine tkY 6 ?_
   refine tkY 7 ?_
   refine tkY 8 ?_
   refine tkY 9 ?_
   refine tkY 10 ?_
   refine wpAnyH_take (i := 11) (oi := ⟨_, _, _, _, _, _⟩) (v := ?_) rfl (by kernel_rfl) (by kernel_rfl) (by kernel_rfl) (fun _ _ _ h => h) (Or.inl ⟨by rfl, ?_⟩) (by assumption) ?_
   rotate_left
   ·(intro w' hSw; refine RowA.exec hSw.2.2.2.out (.tmp 13) ?_ ?_ _ Tryz.underlying34 ?_ ?_; rfl; rfl; rfl; kernel_rfl)
   try simp only [Act.put, zA, zB, zC]
   refine tkY 12 ?_
   refine wpAnyH_ready (rs := [13]) (by kernel_rfl) (by simp) ?_
   refine AllReadyH.cons (o := ⟨_, _, _, _, _, _⟩) rfl (fun K9 hK => ?_) AllReadyH.nil
   refine step_store_row rfl 42 (.tmp 8) (.tmp 55) rfl (w.heap.size + 1) #[.int .i64 0, .int .i64 ((X : Int) - (Q : Int)), .slice a9 T.length ca9, .int .i64 (s : Int), .slice va (allX [] [] T).1.length vc, .slice ua (allX [] [] T).2.length uc, .slice c9 (T.length / s + 1) cc9] rfl rfl 42 #[.int .i64 0, .int .i64 0, .slice none 0 0, .int .i64 0, .slice none 0 0, .slice none 0 0, .slice none 0 0] HZ3.out.drew (by kernel_rfl) rfl (by kernel_rfl) ?_
   have hZ1 : w.heap.size + 1 < w2.heap.size := HZ2.out.lt
   have hbc : bc < w.heap.size := by
    rcases BC.out with h | h
    ·exact absurd (congrArg List.length h) (by rw [ECL.out]; simp)
    ·exact h
   have S3 := Hid.mk' (HZ3.out.drew.put #[.int .i64 0, .int .i64 ((X : Int) - (Q : Int)), .slice a9 T.length ca9, .int .i64 (s : Int), .slice va (allX [] [] T).1.length vc, .slice ua (allX [] [] T).2.length uc, .slice c9 (T.length / s + 1) cc9])
   refine hK.out _ _ ⟨(cell_setRow _ _ _ (by simp)).trans x1, (cell_setRow _ _ _ (by simp)).trans x4, (cell_setRow _ _ _ (by simp; omega)).trans c0, Hid.mk' (HR2.out.drew.otherRow (by omega) _)⟩ (fun hHeld => ?_)
   clear hK K9
   try simp only [Act.put, zA, zB, zC]
   refine wpAnyH_done (by kernel_rfl) ?_ _
   clear hHeld x0 x1 x4 x5 c0
   have KR3 := RowA.keptRow V2.drew (w.heap.size + 1) #[.int .i64 0, .int .i64 ((X : Int) - (Q : Int)), .slice a9 T.length ca9, .int .i64 (s : Int), .slice va (allX [] [] T).1.length vc, .slice ua (allX [] [] T).2.length uc, .slice c9 (T.length / s + 1) cc9]
   have sz3 : (V2.drew.setRow (w.heap.size + 1) #[.int .i64 0, .int .i64 ((X : Int) - (Q : Int)), .slice a9 T.length ca9, .int .i64 (s : Int), .slice va (allX [] [] T).1.length vc, .slice ua (allX [] [] T).2.length uc, .slice c9 (T.length / s + 1) cc9]).heap.size = V2.heap.size := setRow_size _ _ _
   have B3 : Hid (Below w.heap.size w (V2.drew.setRow (w.heap.size + 1) #[.int .i64 0, .int .i64 ((X : Int) - (Q : Int)), .slice a9 T.length ca9, .int .i64 (s : Int), .slice va (allX [] [] T).1.length vc, .slice ua (allX [] [] T).2.length uc, .slice c9 (T.length / s + 1) cc9])) := Hid.mk' (RowA.putBelow ((B2.out.trans (BV2.out.mono B2.out.size)).trans ((Below.refl _ _).drew)) (Nat.le_succ _) _)
   have b3 : ∀ q, q ≠ w.heap.size + 1 → (V2.drew.setRow (w.heap.size + 1) #[.int .i64 0, .int .i64 ((X : Int) - (Q : Int)), .slice a9 T.length ca9, .int .i64 (s : Int), .slice va (allX [] [] T).1.length vc, .slice ua (allX [] [] T).2.length uc, .slice c9 (T.length / s + 1) cc9]).heap[q]? = V2.heap[q]? := fun q hq => setRow_other _ _ _ _ hq
   have MV := HMV.out (V2.drew.setRow (w.heap.size + 1) #[.int .i64 0, .int .i64 ((X : Int) - (Q : Int)), .slice a9 T.length ca9, .int .i64 (s : Int), .slice va (allX [] [] T).1.length vc, .slice ua (allX [] [] T).2.length uc, .slice c9 (T.length / s + 1) cc9]) (by rw [sz3]; exact KV2.out.size) (fun q q1 q2 q3 => (b3 q (by omega)).trans (KV2.out.block q q2 (by omega)))
   have w1w := HW1.out
   have TK3 := (TKS.out.keep BV2.out.size (fun k h1 h2 => BV2.out.block k h2)).keep (w' := V2.drew.setRow (w.heap.size + 1) #[.int .i64 0, .int .i64 ((X : Int) - (Q : Int)), .slice a9 T.length ca9, .int .i64 (s : Int), .slice va (allX [] [] T).1.length vc, .slice ua (allX [] [] T).2.length uc, .slice c9 (T.length / s + 1) cc9]) (by rw [sz3]; exact Nat.le_refl _) (fun k h1 h2 => b3 k (by omega))
   have OW3 : (V2.drew.setRow (w.heap.size + 1) #[.int .i64 0, .int .i64 ((X : Int) - (Q : Int)), .slice a9 T.length ca9, .int .i64 (s : Int), .slice va (allX [] [] T).1.length vc, .slice ua (allX [] [] T).2.length uc, .slice c9 (T.length / s + 1) cc9]).ownsRow w1.heap.size 5 1 (.slice ua (allX [] [] T).2.length uc) (allX [] [] T).2.length (bcs (allX [] [] T).2) := own_of (own_keep OWN.out BV2.out) (Nat.le_refl _) (fun q eq hq => b3 q (by omega))
   obtain ⟨_, _, et, hts⟩ := TK3.tsAt
   obtain ⟨rfl, -, rfl⟩ := Value.slice.inj et
   obtain ⟨_, _, eu, hus⟩ := own_bat OW3
   obtain ⟨rfl, -, rfl⟩ := Value.slice.inj eu
   have MF : Hid (MAt (V2.drew.setRow (w.heap.size + 1) #[.int .i64 0, .int .i64 ((X : Int) - (Q : Int)), .slice a9 T.length ca9, .int .i64 (s : Int), .slice va (allX [] [] T).1.length vc, .slice ua (allX [] [] T).2.length uc, .slice c9 (T.length / s + 1) cc9]) a9 va ua c9 (memX T s)) := Hid.mk' ⟨MV.1, hts, hus, MV.2.2.2⟩
   clear MV TK3 OW3 hts hus et eu KR3 b3 sz3
   generalize hV3 : V2.drew.setRow (w.heap.size + 1) #[.int .i64 0, .int .i64 ((X : Int) - (Q : Int)), .slice a9 T.length ca9, .int .i64 (s : Int), .slice va (allX [] [] T).1.length vc, .slice ua (allX [] [] T).2.length uc, .slice c9 (T.length / s + 1) cc9] = V3 at *
   clear hV3
   go_wp2
   refine bodyPost_ret (v := .agg #[.int .i64 0, .int .i64 ((X : Int) - (Q : Int)), .slice a9 T.length ca9, .int .i64 (s : Int), .slice va (allX [] [] T).1.length vc, .slice ua (allX [] [] T).2.length uc, .slice c9 (T.length / s + 1) cc9]) ?_ ?_ ?_
   ·exact results_cell1 Tryz.results13 _ _ _ ⟨w.heap.size + 1, 0, none⟩ _ rfl (S3.out.load _ Tryz.underlying42 rfl (by kernel_rfl))
   ·rfl
   rw [EM.out, EV.out, EC.out]
   exact ⟨a9, va, ua, c9, ca9, vc, uc, cc9, by simp [memX, cksN_len], MF.out, B3.out⟩
 ·go_simp
  have RG := Hid.mk' (RowA.new w2 34 #[.slice none 0 0, .int .i64 0, .slice none 0 0, .slice none 0 0, .slice none 0 0]).drew
  have N9 := (below_new w2 (.cells #[.slice none 0 0, .int .i64 0, .slice none 0 0, .slice none 0 0, .slice none 0 0] 34)).drew
  have BB := Hid.mk' N9
  refine hK.out _ _ (HCE.out _ BB.out) (fun hHeld => ?_)
  clear hK K9
  try simp only [Act.put, zA, zB, zC]
  have lg : w2.heap.size < (w2.alloc (.cells #[.slice none 0 0, .int .i64 0, .slice none 0 0, .slice none 0 0, .slice none 0 0] 34)).drew.heap.size := by simp
  clear N9
  generalize hgw : (w2.alloc (.cells #[.slice none 0 0, .int .i64 0, .slice none 0 0, .slice none 0 0, .slice none 0 0] 34)).drew = w2a at *
  clear hgw
  refine wpAnyH_ready (rs := [5]) (by kernel_rfl) (by simp) ?_
  refine AllReadyH.cons (o := ⟨_, _, _, _, _, _⟩) rfl (fun K9 hK => ?_) AllReadyH.nil
  go_simp
  refine (KSP.out _ BB.out).mono ?_
  rintro e3 w3 ⟨sv, rfl, osv, hb3⟩
  obtain ⟨sa, sc, rfl, bsv⟩ := own_bat osv
  have BS := Hid.mk' bsv
  clear bsv osv
  have BB := Hid.mk' (BB.out.trans (hb3.mono BB.out.size))
  have B53 := Hid.mk' hb3
  clear hb3
  refine hK.out _ _ (HCE.out _ BB.out) (fun hHeld => ?_)
  clear hK K9
  try simp only [Act.put, zA, zB, zC]
  have RG := Hid.mk' (RG.out.below B53.out)
  have lg3 : w2.heap.size < w3.heap.size := Nat.lt_of_lt_of_le lg B53.out.size
  refine wpAnyH_ready (rs := [8]) (by kernel_rfl) (by simp) ?_
  refine AllReadyH.cons (o := ⟨_, _, _, _, _, _⟩) rfl (fun K9 hK => ?_) AllReadyH.nil
  go_simp
  refine (KLN.out w3 _ _ BS.out).mono ?_
  rintro e4 w4 ⟨a9, t9, u9, c9, ca9, ct9, cu9, cc9, rfl, hM, hb4⟩
  have HMM := Hid.mk' hM
  have B84 := Hid.mk' hb4
  have BB := Hid.mk' (BB.out.trans (hb4.mono BB.out.size))
  clear hM hb4
  refine hK.out _ _ (HCE.out _ BB.out) (fun hHeld => ?_)
  clear hK K9
  try simp only [Act.put, zA, zB, zC]
  have RG := Hid.mk' (RG.out.below B84.out)
  have BL := Hid.mk' (Below.refl w2.heap.size w2)
  clear B53 BS
  refine wpAnyH_ready (rs := [10]) (by kernel_rfl) (by simp) ?_
  refine AllReadyH.cons (o := ⟨_, _, _, _, _, _⟩) rfl (fun K9 hK => ?_) AllReadyH.nil
  refine step_store_row rfl 34 (.tmp 13) (.tmp 38) rfl w2.heap.size #[.slice a9 T.length ca9, .int .i64 (s : Int), .slice t9 (allX [] [] T).1.length ct9, .slice u9 (allX [] [] T).2.length cu9, .slice c9 (T.length / s + 1) cc9] rfl rfl 34 _ RG.out (by kernel_rfl) rfl (by kernel_rfl) ?_
  have BV := Hid.mk' (RowA.putBelow BB.out (Nat.le_refl _) #[.slice a9 T.length ca9, .int .i64 (s : Int), .slice t9 (allX [] [] T).1.length ct9, .slice u9 (allX [] [] T).2.length cu9, .slice c9 (T.length / s + 1) cc9])
  refine hK.out _ _ (HCE.out _ BV.out) (fun hHeld => ?_)
  clear hK K9
  try simp only [Act.put, zA, zB, zC]
  refine wpAnyH_done (by kernel_rfl) ?_ _
  have HRV := Hid.mk' (RG.out.put #[.slice a9 T.length ca9, .int .i64 (s : Int), .slice t9 (allX [] [] T).1.length ct9, .slice u9 (allX [] [] T).2.length cu9, .slice c9 (T.length / s + 1) cc9])
  have HgV : w2.heap.size ≤ w2.heap.size := (Nat.le_refl _)
  have HMV : Hid (∀ z : World, (w4.setRow w2.heap.size #[.slice a9 T.length ca9, .int .i64 (s : Int), .slice t9 (allX [] [] T).1.length ct9, .slice u9 (allX [] [] T).2.length cu9, .slice c9 (T.length / s + 1) cc9]).heap.size ≤ z.heap.size → (∀ q, w2.heap.size ≤ q → q < (w4.setRow w2.heap.size #[.slice a9 T.length ca9, .int .i64 (s : Int), .slice t9 (allX [] [] T).1.length ct9, .slice u9 (allX [] [] T).2.length cu9, .slice c9 (T.length / s + 1) cc9]).heap.size → q ≠ w2.heap.size → z.heap[q]? = (w4.setRow w2.heap.size #[.slice a9 T.length ca9, .int .i64 (s : Int), .slice t9 (allX [] [] T).1.length ct9, .slice u9 (allX [] [] T).2.length cu9, .slice c9 (T.length / s + 1) cc9]).heap[q]?) → MAt z a9 t9 u9 c9 (memX T s)) := Hid.mk' (fun z h1 h2 => by
   rw [setRow_size] at h1 h2
   exact HMM.out z h1 (fun q q1 q2 => (h2 q (by have := BL.out.size; omega) q2 (by omega)).trans (setRow_other _ _ _ _ (by omega))))
  clear HMM B84 BB
  generalize hV : w4.setRow w2.heap.size #[.slice a9 T.length ca9, .int .i64 (s : Int), .slice t9 (allX [] [] T).1.length ct9, .slice u9 (allX [] [] T).2.length cu9, .slice c9 (T.length / s + 1) cc9] = V at *
  clear hV
  clear hHeld
  have z2 := HRV.out.cell 2 _ rfl
  have z3 := HRV.out.cell 3 _ rfl
  have f2 := HRV.out.frozen 2
  have f3 := HRV.out.frozen 3
  have HR2 : Hid (RowA ((V.setCell ⟨w2.heap.size, 2, none⟩ (.slice va (allX [] [] T).1.length vc)).setCell ⟨w2.heap.size, 3, none⟩ (.slice ua (allX [] [] T).2.length uc)) w2.heap.size 34 #[.slice a9 T.length ca9, .int .i64 (s : Int), .slice va (allX [] [] T).1.length vc, .slice ua (allX [] [] T).2.length uc, .slice c9 (T.length / s + 1) cc9]) := Hid.mk' ((HRV.out.set 2 (.slice va (allX [] [] T).1.length vc)).set 3 (.slice ua (allX [] [] T).2.length uc))
  have BV2 := Hid.mk' (RowA.setBelow (RowA.setBelow BV.out HgV 2 (.slice va (allX [] [] T).1.length vc)) HgV 3 (.slice ua (allX [] [] T).2.length uc))
  have KV2 := Hid.mk' ((((KeptIn.refl w2.heap.size (w2.heap.size + 1) V).setCell (p := ⟨w2.heap.size, 2, none⟩) (Nat.le_refl _) (Nat.lt_succ_self _) (.slice va (allX [] [] T).1.length vc))).setCell (p := ⟨w2.heap.size, 3, none⟩) (Nat.le_refl _) (Nat.lt_succ_self _) (.slice ua (allX [] [] T).2.length uc))
  go_wp2_with fail
  generalize hV2 : (V.setCell ⟨w2.heap.size, 2, none⟩ (.slice va (allX [] [] T).1.length vc)).setCell ⟨w2.heap.size, 3, none⟩ (.slice ua (allX [] [] T).2.length uc) = V2 at *
  clear hV2 z2 z3 f2 f3
  have HM3 := Hid.mk' (HM2.out.below BV2.out)
  have HZ3 := Hid.mk' (HZ2.out.below BV2.out)
  obtain ⟨x0, x1, x2, x3, x4, x5⟩ := cells5 HM3.out.r
  rw [HST.out] at x1
  have hKJ : i / s < m.dt.length / s + 1 := Nat.lt_succ_of_le (Nat.div_le_div_right (by omega))
  have ecl2 : m.cs.length = m.dt.length / s + 1 := ECL.out
  rcases HM3.out.m1.2.2.2 with hnil | ⟨b8, o8, e8, hbs9, hc9⟩
  ·rw [hnil] at ecl2; simp at ecl2
  cases e8
  obtain ⟨p1, p2_, pq, pc, p3, p4⟩ := hc9 (i / s) (by rw [ecl2]; exact hKJ)
  rw [EK.out (i / s) hKJ] at p1
  have c0 : V2.cell? ⟨bc, i / s * 3, none⟩ = some (.int .i64 ((i / s * s : Nat) : Int)) := by rw [Nat.zero_add] at p1; exact p1
  have hq0 : (i : Int) / (s : Int) = ((i / s : Nat) : Int) := by simp
  have hs0 : ¬ s = 0 := by omega
  have ck : ((i / s : Nat) : Int) < (m.cs.length : Int) := by rw [ecl2]; exact_mod_cast hKJ
  have hKi : i / s ≤ i := Nat.div_le_self _ _
  have hqs : i / s * s ≤ i := Nat.div_mul_le_self _ _
  clear p1 p2_ p3 p4 ecl2 hc9 hbs9 x2 x3
  have HXX := Hid.mk' XLE
  generalize hKK : i / s = K at *
  generalize hQQ : K * s = Q at *
  have hwK : IntKind.i64.wrap (K : Int) = (K : Int) := by rw [IntKind.wrap_i64]; omega
  have hwX : IntKind.i64.wrap ((X : Int) - (Q : Int)) = (X : Int) - (Q : Int) := by rw [IntKind.wrap_i64]; omega
  refine wp_region_held_drew (S := (fun z => z.cell? ⟨w.heap.size, 1, none⟩ = some (.int .i64 (s : Int)) ∧ z.cell? ⟨w.heap.size, 4, none⟩ = some (.slice (some ⟨bc, 0, none⟩) m.cs.length cc) ∧ z.cell? ⟨bc, K * 3, none⟩ = some (.int .i64 (Q : Int)) ∧ Hid (RowA z w2.heap.size 34 #[.slice a9 T.length ca9, .int .i64 (s : Int), .slice va (allX [] [] T).1.length vc, .slice ua (allX [] [] T).2.length uc, .slice c9 (T.length / s + 1) cc9]))) (by kernel_rfl) ⟨x1, x4, c0, HR2⟩ (fun hHeld => ?_)
  refine tkY 0 ?_
  refine tkY 1 ?_
  refine tkY 2 ?_
  refine tkY 3 ?_
  refine tkY 4 ?_
  refine tkY 5 ?_
  refine tkY 6 ?_
  refine tkY 7 ?_
  refine tkY 8 ?_
  refine tkY 9 ?_
  refine tkY 10 ?_
  refine wpAnyH_take (i := 11) (oi := ⟨_, _, _, _, _, _⟩) (v := ?_) rfl (by kernel_rfl) (by kernel_rfl) (by kernel_rfl) (fun _ _ _ h => h) (Or.inl ⟨by rfl, ?_⟩) (by assumption) ?_
  rotate_left
  ·(intro w' hSw; refine RowA.exec hSw.2.2.2.out (.tmp 13) ?_ ?_ _ Tryz.underlying34 ?_ ?_; rfl; rfl; rfl; kernel_rfl)
  try simp only [Act.put, zA, zB, zC]
  refine tkY 12 ?_
  refine wpAnyH_ready (rs := [13]) (by kernel_rfl) (by simp) ?_
  refine AllReadyH.cons (o := ⟨_, _, _, _, _, _⟩) rfl (fun K9 hK => ?_) AllReadyH.nil
  refine step_store_row rfl 42 (.tmp 8) (.tmp 55) rfl (w.heap.size + 1) #[.int .i64 0, .int .i64 ((X : Int) - (Q : Int)), .slice a9 T.length ca9, .int .i64 (s : Int), .slice va (allX [] [] T).1.length vc, .slice ua (allX [] [] T).2.length uc, .slice c9 (T.length / s + 1) cc9] rfl rfl 42 #[.int .i64 0, .int .i64 0, .slice none 0 0, .int .i64 0, .slice none 0 0, .slice none 0 0, .slice none 0 0] HZ3.out.drew (by kernel_rfl) rfl (by kernel_rfl) ?_
  have hZ1 : w.heap.size + 1 < w2.heap.size := HZ2.out.lt
  have hbc : bc < w.heap.size := by
   rcases BC.out with h | h
   ·exact absurd (congrArg List.length h) (by rw [ECL.out]; simp)
   ·exact h
  have S3 := Hid.mk' (HZ3.out.drew.put #[.int .i64 0, .int .i64 ((X : Int) - (Q : Int)), .slice a9 T.length ca9, .int .i64 (s : Int), .slice va (allX [] [] T).1.length vc, .slice ua (allX [] [] T).2.length uc, .slice c9 (T.length / s + 1) cc9])
  refine hK.out _ _ ⟨(cell_setRow _ _ _ (by simp)).trans x1, (cell_setRow _ _ _ (by simp)).trans x4, (cell_setRow _ _ _ (by simp; omega)).trans c0, Hid.mk' (HR2.out.drew.otherRow (by omega) _)⟩ (fun hHeld => ?_)
  clear hK K9
  try simp only [Act.put, zA, zB, zC]
  refine wpAnyH_done (by kernel_rfl) ?_ _
  clear hHeld x0 x1 x4 x5 c0
  have KR3 := RowA.keptRow V2.drew (w.heap.size + 1) #[.int .i64 0, .int .i64 ((X : Int) - (Q : Int)), .slice a9 T.length ca9, .int .i64 (s : Int), .slice va (allX [] [] T).1.length vc, .slice ua (allX [] [] T).2.length uc, .slice c9 (T.length / s + 1) cc9]
  have sz3 : (V2.drew.setRow (w.heap.size + 1) #[.int .i64 0, .int .i64 ((X : Int) - (Q : Int)), .slice a9 T.length ca9, .int .i64 (s : Int), .slice va (allX [] [] T).1.length vc, .slice ua (allX [] [] T).2.length uc, .slice c9 (T.length / s + 1) cc9]).heap.size = V2.heap.size := setRow_size _ _ _
  have B3 : Hid (Below w.heap.size w (V2.drew.setRow (w.heap.size + 1) #[.int .i64 0, .int .i64 ((X : Int) - (Q : Int)), .slice a9 T.length ca9, .int .i64 (s : Int), .slice va (allX [] [] T).1.length vc, .slice ua (allX [] [] T).2.length uc, .slice c9 (T.length / s + 1) cc9])) := Hid.mk' (RowA.putBelow ((B2.out.trans (BV2.out.mono B2.out.size)).trans ((Below.refl _ _).drew)) (Nat.le_succ _) _)
  have b3 : ∀ q, q ≠ w.heap.size + 1 → (V2.drew.setRow (w.heap.size + 1) #[.int .i64 0, .int .i64 ((X : Int) - (Q : Int)), .slice a9 T.length ca9, .int .i64 (s : Int), .slice va (allX [] [] T).1.length vc, .slice ua (allX [] [] T).2.length uc, .slice c9 (T.length / s + 1) cc9]).heap[q]? = V2.heap[q]? := fun q hq => setRow_other _ _ _ _ hq
  have MV := HMV.out (V2.drew.setRow (w.heap.size + 1) #[.int .i64 0, .int .i64 ((X : Int) - (Q : Int)), .slice a9 T.length ca9, .int .i64 (s : Int), .slice va (allX [] [] T).1.length vc, .slice ua (allX [] [] T).2.length uc, .slice c9 (T.length / s + 1) cc9]) (by rw [sz3]; exact KV2.out.size) (fun q q1 q2 q3 => (b3 q (by omega)).trans (KV2.out.block q q2 (by omega)))
  have w1w := HW1.out
  have TK3 := (TKS.out.keep BV2.out.size (fun k h1 h2 => BV2.out.block k h2)).keep (w' := V2.drew.setRow (w.heap.size + 1) #[.int .i64 0, .int .i64 ((X : Int) - (Q : Int)), .slice a9 T.length ca9, .int .i64 (s : Int), .slice va (allX [] [] T).1.length vc, .slice ua (allX [] [] T).2.length uc, .slice c9 (T.length / s + 1) cc9]) (by rw [sz3]; exact Nat.le_refl _) (fun k h1 h2 => b3 k (by omega))
  have OW3 : (V2.drew.setRow (w.heap.size + 1) #[.int .i64 0, .int .i64 ((X : Int) - (Q : Int)), .slice a9 T.length ca9, .int .i64 (s : Int), .slice va (allX [] [] T).1.length vc, .slice ua (allX [] [] T).2.length uc, .slice c9 (T.length / s + 1) cc9]).ownsRow w1.heap.size 5 1 (.slice ua (allX [] [] T).2.length uc) (allX [] [] T).2.length (bcs (allX [] [] T).2) := own_of (own_keep OWN.out BV2.out) (Nat.le_refl _) (fun q eq hq => b3 q (by omega))
  obtain ⟨_, _, et, hts⟩ := TK3.tsAt
  obtain ⟨rfl, -, rfl⟩ := Value.slice.inj et
  obtain ⟨_, _, eu, hus⟩ := own_bat OW3
  obtain ⟨rfl, -, rfl⟩ := Value.slice.inj eu
  have MF : Hid (MAt (V2.drew.setRow (w.heap.size + 1) #[.int .i64 0, .int .i64 ((X : Int) - (Q : Int)), .slice a9 T.length ca9, .int .i64 (s : Int), .slice va (allX [] [] T).1.length vc, .slice ua (allX [] [] T).2.length uc, .slice c9 (T.length / s + 1) cc9]) a9 va ua c9 (memX T s)) := Hid.mk' ⟨MV.1, hts, hus, MV.2.2.2⟩
  clear MV TK3 OW3 hts hus et eu KR3 b3 sz3
  generalize hV3 : V2.drew.setRow (w.heap.size + 1) #[.int .i64 0, .int .i64 ((X : Int) - (Q : Int)), .slice a9 T.length ca9, .int .i64 (s : Int), .slice va (allX [] [] T).1.length vc, .slice ua (allX [] [] T).2.length uc, .slice c9 (T.length / s + 1) cc9] = V3 at *
  clear hV3
  go_wp2
  refine bodyPost_ret (v := .agg #[.int .i64 0, .int .i64 ((X : Int) - (Q : Int)), .slice a9 T.length ca9, .int .i64 (s : Int), .slice va (allX [] [] T).1.length vc, .slice ua (allX [] [] T).2.length uc, .slice c9 (T.length / s + 1) cc9]) ?_ ?_ ?_
  ·exact results_cell1 Tryz.results13 _ _ _ ⟨w.heap.size + 1, 0, none⟩ _ rfl (S3.out.load _ Tryz.underlying42 rfl (by kernel_rfl))
  ·rfl
  rw [EM.out, EV.out, EC.out]
  exact ⟨a9, va, ua, c9, ca9, vc, uc, cc9, by simp [memX, cksN_len], MF.out, B3.out⟩
theorem GM.mono {lo hi lo' hi' : Nat} {tau : Nat → Nat} {m : ME} {vd tv hv cv : Value} {us : List Value} {rs : Nat → List Value} {bl bh : Nat → Nat} {hvs : Nat → Value} {w : World} (x : GM lo hi tau m vd tv hv cv us rs bl bh hvs w) (h1 : lo' ≤ lo) (h2 : hi ≤ hi') : GM lo' hi' tau m vd tv hv cv us rs bl bh hvs w :=
 ⟨x.d, x.t.down h1, x.h, x.c, x.k, fun q e => by have := x.ld q e; omega, fun q e => by have := x.lt q e; omega, fun q e => by have := x.lh q e; omega, fun q e => by have := x.lc q e; omega, fun i hi q e => by have := x.lk i hi q e; omega⟩
theorem GM.keepIn {lo hi : Nat} {tau : Nat → Nat} {m : ME} {vd tv hv cv : Value} {us : List Value} {rs : Nat → List Value} {bl bh : Nat → Nat} {hvs : Nat → Value} {w w' : World} (x : GM lo hi tau m vd tv hv cv us rs bl bh hvs w) (hs : w.heap.size ≤ w'.heap.size) (hk : ∀ q, lo ≤ q → q < hi → w'.heap[q]? = w.heap[q]?) : GM lo hi tau m vd tv hv cv us rs bl bh hvs w' :=
 ⟨x.d.keep (fun q e h => hk q (x.ld q e).2.1 (x.ld q e).2.2), x.t.keepF hs (fun q e h => hk q (x.lt q e).2.1 (x.lt q e).2.2), x.h.keep (fun q e h => hk q (x.lh q e).2.1 (x.lh q e).2.2), x.c.keep (fun q e h => hk q (x.lc q e).2.1 (x.lc q e).2.2), fun i hi => (x.k i hi).keep (fun q e h => hk q (x.lk i hi q e).2.1 (x.lk i hi q e).2.2), x.ld, x.lt, x.lh, x.lc, x.lk⟩
theorem OB.lenc {w : World} {v : Value} {l : List Int} (h : OB w v l) : ∃ a c, v = .slice a l.length c ∧ BAt w a l ∧ l.length ≤ c := by
 rcases h with ⟨rfl, rfl⟩ | ⟨g, cap, cn, f, rfl, hca, hr, hl, hf⟩
 ·exact ⟨Option.none, 0, rfl, .inl rfl, Nat.le_refl _⟩
 ·exact ⟨_, _, rfl, .inr ⟨g, 0, rfl, hr.lt, fun k hk => by rw [Nat.zero_add, hr.cell (by omega), hf k hk]⟩, hca⟩
theorem implEM_any (tp : TypeId) (pv : Value) (m : ME) (a t u c : Option Addr) (ca ct cu cc : Nat) (A N : Int) (e : Option Addr) (d : Nat) (p : List Int) (w : World) (hE : Env w.heap.size tp pv w) (h1 : MAt w a t u c m) (hca : m.dt.length ≤ ca) (hub : Byt m.dt) (hpb : Byt p) (hm : (msz m : Int) ≤ 1048576) (he : BAt w e p) (hl : p.length ≤ 1048576) (a1 : -9223372036854775808 ≤ A) (a2 : A ≤ 9223372036854775807) (n1 : -9223372036854775808 ≤ N) (n2 : N ≤ 9223372036854775807) :
  Calls Tryz.prog 14 #[.agg #[.slice a m.dt.length ca, .int .i64 m.st, .slice t m.tk.length ct, .slice u m.hd.length cu, .slice c m.cs.length cc], .int .i64 A, .int .i64 N, .slice e p.length d] w fun ev w' => ∃ tau vd tv hv cv us rs bl bh hvs, ev = .returned (.agg #[.int .i64 (edC m A N p), .int .i64 (eR m A N p), vd, .int .i64 (eM m A N p).st, tv, hv, cv]) ∧ GM w.heap.size w'.heap.size tau (eM m A N p) vd tv hv cv us rs bl bh hvs w' ∧ Below w.heap.size w w' := by
 obtain ⟨B0, R1, R2⟩ := boxesM w (.slice a m.dt.length ca) (.int .i64 m.st) (.slice t m.tk.length ct) (.slice u m.hd.length cu) (.slice c m.cs.length cc)
 have HE := Hid.mk' ((hE.keep B0).up B0.size (Nat.le_refl _))
 have KF := Hid.mk' (newEdit_any tp pv m a t u c ca ct cu cc A N e d p _ ((hE.keep B0).up B0.size (Nat.le_refl _)) (h1.below B0) hca hub hm (he.below B0) hl a1 a2 n1 n2)
 have HB := Hid.mk' B0
 have H2 := Hid.mk' R2
 have HU := Hid.mk' hub
 have HP := Hid.mk' hpb
 obtain ⟨x0, x1, x2, x3, x4, x5⟩ := cells5 R1
 clear B0 R1 R2 h1 hub hpb hm hE he
 generalize hW : (w.alloc (.cells #[.slice a m.dt.length ca, .int .i64 m.st, .slice t m.tk.length ct, .slice u m.hd.length cu, .slice c m.cs.length cc] 34)).alloc (.cells #[.int .i64 0, .int .i64 0, .slice none 0 0, .int .i64 0, .slice none 0 0, .slice none 0 0, .slice none 0 0] 42) = W at *
 go_enter Tryz.func14, Tryz.ntmps14
 go_wp2_with fail
 clear hW x0 x1 x2 x3 x4 x5
 refine KF.out.mono ?_
 rintro e1 w1 (⟨hf, rfl, hb1⟩ | ⟨hf, s, i, j, hst, hs, hs2, rfl, rfl, gd, gc, tv, hvs, us, rs, bl, bh, tx, rfl, hx, ob, hin, hb1⟩)
 ·have EV : Hid (eR m A N p = 0) := Hid.mk' (by unfold eR; rw [if_neg hf])
  have EM : Hid (eM m A N p = m0) := Hid.mk' (by unfold eM; rw [if_neg hf])
  obtain ⟨F, hF⟩ : ∃ F, edC m A N p = F := ⟨_, rfl⟩
  rw [hF] at hf ⊢
  have EC := Hid.mk' hF
  have hne : (F != 0) = true := by simp [hf]
  have N1 := below_new w1 (.cells ed0 60)
  have M1 := hb1.trans (N1.mono hb1.size)
  have HZ := Hid.mk' (H2.out.below M1)
  have B1 := Hid.mk' (HB.out.trans (M1.mono HB.out.size))
  have HS := Hid.mk' (HZ.out.put #[.int .i64 F, .int .i64 0, .slice none 0 0, .int .i64 0, .slice none 0 0, .slice none 0 0, .slice none 0 0])
  have BS := Hid.mk' (RowA.putBelow B1.out (Nat.le_succ w.heap.size) #[.int .i64 F, .int .i64 0, .slice none 0 0, .int .i64 0, .slice none 0 0, .slice none 0 0, .slice none 0 0])
  clear hF N1 M1 hb1
  go_wp2_with (first | ((with_reducible refine wpList_store_row ?_ 60 (.tmp 9) (.tmp 18) ?_ w1.heap.size ed0 ?_ ?_ 60 _ (Deep.blk_alloc_new w1 _) ?_ ?_ ?_ ?_); rfl; rfl; rfl; rfl; kernel_rfl; rfl; exact ed0_one; rw [alloc_setRow]) | ((with_reducible refine wpList_store_row ?_ 42 (.tmp 8) (.tmp 23) ?_ (w.heap.size + 1) #[.int .i64 F, .int .i64 0, .slice none 0 0, .int .i64 0, .slice none 0 0, .slice none 0 0, .slice none 0 0] ?_ ?_ 42 #[.int .i64 0, .int .i64 0, .slice none 0 0, .int .i64 0, .slice none 0 0, .slice none 0 0, .slice none 0 0] ?_ ?_ ?_ ?_ ?_); rfl; rfl; rfl; rfl; exact HZ.out; kernel_rfl; rfl; kernel_rfl) | fail)
  refine bodyPost_ret (v := .agg #[.int .i64 F, .int .i64 0, .slice none 0 0, .int .i64 0, .slice none 0 0, .slice none 0 0, .slice none 0 0]) ?_ ?_ ?_
  ·exact results_cell1 Tryz.results14 _ _ _ ⟨w.heap.size + 1, 0, none⟩ _ rfl (HS.out.load _ Tryz.underlying42 rfl (by kernel_rfl))
  ·rfl
  rw [EM.out, EV.out, EC.out]
  exact ⟨_, _, _, _, _, _, _, _, _, _, rfl, GM.none _ _ _, BS.out⟩
 ·obtain ⟨hf1, hf2⟩ := edC_ok hf
  obtain ⟨g1, g2, g3, g4⟩ := spC_zero hf2
  obtain ⟨h240, -⟩ := memF_ok hf1
  have hij : i + j ≤ m.dt.length := by omega
  have hL : (spl m.dt i j p).length ≤ 240 := by rw [spl_len hij]; omega
  obtain ⟨R, hR⟩ : ∃ R : Nat, meetN (mtF m.dt (spl m.dt i j p) s i j p.length) (spl m.dt i j p).length (i / s * s) = R := ⟨_, rfl⟩
  have EV : Hid (eR m (i : Int) (j : Int) p = (R : Int) - ((i / s * s : Nat) : Int)) := Hid.mk' (by
   unfold eR mtV
   rw [if_pos hf, if_pos hf, hst]
   simp only [Int.toNat_natCast]
   rw [hR])
  have EM : Hid (eM m (i : Int) (j : Int) p = memX (spl m.dt i j p) s) := Hid.mk' (by
   unfold eM
   rw [if_pos hf, hst]
   rfl)
  have EC := Hid.mk' hf
  have hRle : R ≤ 240 := by rw [← hR]; exact Nat.le_trans (meetN_le _ _ rfl) hL
  have hQle : i / s * s ≤ 240 := Nat.le_trans (Nat.div_mul_le_self _ _) (by omega)
  have TB := Hid.mk' (byt_spl HU.out HP.out i j)
  obtain ⟨va, vc, rfl, bt, hvc⟩ := ob.lenc
  obtain ⟨X, hX⟩ : ∃ X : Array Value, X = edV m.dt s i j p gd gc tv hvs (.slice va (spl m.dt i j p).length vc) := ⟨_, rfl⟩
  have X1 : X.all (·.oneCell') = true := by
   rw [hX]
   obtain ⟨ha, hc, eh, -⟩ := own_bat (hx.rx.own (m.dt.length / s + 1) (Nat.le_refl _))
   obtain ⟨ta, tc, rfl, -⟩ := own_src hx.rx.tp.row
   obtain ⟨ka, kc, ek, -⟩ := own_bat (hx.rx.own (i / s) (by have : i / s ≤ m.dt.length / s := Nat.div_le_div_right (by omega); omega))
   unfold edV edX
   rw [eh, ek]
   kernel_rfl
  have X2 : X.size = 10 := by rw [hX]; rfl
  have c1 : X[1]? = some (.int .i64 (s : Int)) := by rw [hX]; rfl
  have c5 : X[5]? = some (.slice va (spl m.dt i j p).length vc) := by rw [hX]; rfl
  have c6 : X[6]? = some (.int .i64 ((i / s * s : Nat) : Int)) := by rw [hX]; rfl
  have N1 := below_new w1 (.cells X 60)
  have M1 := hb1.trans (N1.mono hb1.size)
  have KN := Hid.mk' (implNM_gm tp pv (spl m.dt i j p) (s : Int) va vc (w1.alloc (.cells X 60)) ((HE.out.keep M1).up M1.size (Nat.le_refl _)) (bt.below N1) hvc TB.out (by omega))
  have KM : Hid (∀ z : World, Below (w1.alloc (.cells X 60)).heap.size (w1.alloc (.cells X 60)) z → Calls Tryz.prog 28 #[.agg X] z fun e w' => e = .returned (.int .i64 (R : Int)) ∧ Below z.heap.size z w') := Hid.mk' (fun z hz => by
   have K := editMeet_any tp pv _ m.dt s i j p gd gc tv hvs us rs bl bh (.slice va (spl m.dt i j p).length vc) z ((HE.out.keep (M1.trans (hz.mono M1.size))).up (Nat.le_trans M1.size hz.size) (Nat.le_refl _)) ⟨(hx.below N1).below hz, (ob.below N1).below hz⟩ hs hs2 hij h240 hL HU.out HP.out
   rw [hR, ← hX] at K
   exact K)
  have hX3 : #[.slice (some ⟨gd, 0, none⟩) m.dt.length m.dt.length, .int .i64 (s : Int), tv, hvs (m.dt.length / s + 1), .slice (some ⟨gc, 0, none⟩) (m.dt.length / s + 1) (m.dt.length / s + 1), .slice va (spl m.dt i j p).length vc, .int .i64 ((i / s * s : Nat) : Int), .int .i64 ((tkN m.dt s (i / s)).length : Int), hvs (i / s), .complex .f64 (floatOfInt .f64 ((i : Int) + (p.length : Int))) (floatOfInt .f64 ((i : Int) + (j : Int)))] = X := by
   rw [hX, ← Int.natCast_add, ← Int.natCast_add]
   rfl
  rw [hX3]
  rw [askC_good hL hs hs2, show rM (spl m.dt i j p) (s : Int) = memX (spl m.dt i j p) s by unfold rM; rw [if_pos (askC_good hL hs hs2)]; rfl, show rR (spl m.dt i j p) (s : Int) = ((spl m.dt i j p).length : Int) by unfold rR; rw [if_pos (askC_good hL hs hs2)]] at KN
  have HXR := Hid.mk' (RowA.new w1 60 X)
  have W01 : Hid (w.heap.size + 1 < w1.heap.size) := Hid.mk' (H2.out.below hb1).lt
  have HZ := Hid.mk' (H2.out.below M1)
  have B1 := Hid.mk' (HB.out.trans (M1.mono HB.out.size))
  clear hX3 hX hx hin ob bt hb1 N1 M1 H2 HB HE
  have k1 := HXR.out.cell 1 _ c1
  have k5 := HXR.out.cell 5 _ c5
  generalize spl m.dt i j p = T at *
  generalize i / s * s = Q at *
  go_wp2_with (first | ((with_reducible refine wpList_store_row ?_ 60 (.tmp 9) (.tmp 18) ?_ w1.heap.size X ?_ ?_ 60 _ (Deep.blk_alloc_new w1 _) ?_ ?_ ?_ ?_); rfl; rfl; rfl; rfl; (rw [X2]; kernel_rfl); (rw [X2]; rfl); exact X1; rw [alloc_setRow]) | fail)
  generalize hW2 : w1.alloc (.cells X 60) = w2 at *
  clear hW2 k1 k5
  refine KN.out.mono ?_
  rintro e3 w3 ⟨tau, vd, tv3, hv3, cv3, us3, rs3, bl3, bh3, hvs3, rfl, gm, hb3⟩
  obtain ⟨pa, pt, pu, pc, qa, qt, qu, qc, rfl, rfl, rfl, rfl, -⟩ := gm.at
  have S12 : Hid (w.heap.size + 2 ≤ w2.heap.size) := Hid.mk' (by have := HZ.out.lt; omega)
  have S01 : Hid (w.heap.size + 1 < w1.heap.size) := W01
  have s2 := HXR.out.lt
  have N3 := below_new w3 (.cells #[.int .i64 0, .int .i64 (T.length : Int), .slice pa (memX T s).dt.length qa, .int .i64 (memX T s).st, .slice pt (memX T s).tk.length qt, .slice pu (memX T s).hd.length qu, .slice pc (memX T s).cs.length qc] 42)
  have M3 := hb3.trans (N3.mono hb3.size)
  have HXR := Hid.mk' (HXR.out.below M3)
  have HZ := Hid.mk' (HZ.out.below M3)
  have B1 := Hid.mk' (B1.out.trans (M3.mono B1.out.size))
  have HR := Hid.mk' (RowA.new w3 42 #[.int .i64 0, .int .i64 (T.length : Int), .slice pa (memX T s).dt.length qa, .int .i64 (memX T s).st, .slice pt (memX T s).tk.length qt, .slice pu (memX T s).hd.length qu, .slice pc (memX T s).cs.length qc])
  have GM3 := Hid.mk' (gm.below N3)
  have KM := Hid.mk' (fun z (hz : Below (w3.alloc (.cells #[.int .i64 0, .int .i64 (T.length : Int), .slice pa (memX T s).dt.length qa, .int .i64 (memX T s).st, .slice pt (memX T s).tk.length qt, .slice pu (memX T s).hd.length qu, .slice pc (memX T s).cs.length qc] 42)).heap.size (w3.alloc (.cells #[.int .i64 0, .int .i64 (T.length : Int), .slice pa (memX T s).dt.length qa, .int .i64 (memX T s).st, .slice pt (memX T s).tk.length qt, .slice pu (memX T s).hd.length qu, .slice pc (memX T s).cs.length qc] 42)) z) => KM.out z (M3.trans (hz.mono M3.size)))
  have S13 : Hid (w1.heap.size < w3.heap.size) := Hid.mk' (by have := hb3.size; omega)
  clear KN hb3 N3 M3 gm
  go_wp2_with (first | ((with_reducible refine wpList_store_row ?_ 42 (.tmp 11) (.tmp 28) ?_ w3.heap.size #[.int .i64 0, .int .i64 (T.length : Int), .slice pa (memX T s).dt.length qa, .int .i64 (memX T s).st, .slice pt (memX T s).tk.length qt, .slice pu (memX T s).hd.length qu, .slice pc (memX T s).cs.length qc] ?_ ?_ 42 _ (Deep.blk_alloc_new w3 _) ?_ ?_ ?_ ?_); rfl; rfl; rfl; rfl; kernel_rfl; rfl; kernel_rfl; rw [alloc_setRow]) | fail)
  have k6 := HXR.out.cell 6 _ c6
  have f1 := HR.out.frozen 1
  generalize hV : w3.alloc (.cells #[.int .i64 0, .int .i64 (T.length : Int), .slice pa (memX T s).dt.length qa, .int .i64 (memX T s).st, .slice pt (memX T s).tk.length qt, .slice pu (memX T s).hd.length qu, .slice pc (memX T s).cs.length qc] 42) = V at *
  clear hV
  have hwX : IntKind.i64.wrap ((R : Int) - (Q : Int)) = (R : Int) - (Q : Int) := by rw [IntKind.wrap_i64]; omega
  refine wp_region_held_drew (S := (fun z => Hid (RowA z w1.heap.size 60 X) ∧ z.cell? ⟨w1.heap.size, 6, none⟩ = some (.int .i64 (Q : Int)) ∧ z.frozen? ⟨w3.heap.size, 1, none⟩ = false)) (by kernel_rfl) ⟨Hid.mk' HXR.out.drew, k6, f1⟩ (fun hHeld => ?_)
  refine wpAnyH_take (i := 0) (oi := ⟨_, _, _, _, _, _⟩) (v := ?_) rfl (by kernel_rfl) (by kernel_rfl) (by kernel_rfl) (fun _ _ _ h => h) (Or.inl ⟨by rfl, ?_⟩) (by assumption) ?_
  rotate_left
  ·(intro w' hSw; refine RowA.exec hSw.1.out (.tmp 9) ?_ ?_ _ Tryz.underlying60 ?_ ?_; rfl; rfl; rfl; (rw [X2]; kernel_rfl))
  try simp only [Act.put, zA, zB, zC]
  refine tkY 2 ?_
  refine tkY 3 ?_
  refine tkY 4 ?_
  refine wpAnyH_ready (rs := [1]) (by kernel_rfl) (by simp) ?_
  refine AllReadyH.cons (o := ⟨_, _, _, _, _, _⟩) rfl (fun K9 hK => ?_) AllReadyH.nil
  go_simp
  refine (KM.out _ (Below.refl _ _).drew).mono ?_
  rintro e4 w4 ⟨rfl, hb4⟩
  replace hb4 := undrew hb4
  have HXR := Hid.mk' (HXR.out.below hb4)
  have HZ := Hid.mk' (HZ.out.below hb4)
  have B1 := Hid.mk' (B1.out.trans (hb4.mono B1.out.size))
  have HR := Hid.mk' (HR.out.below hb4)
  have GM4 := Hid.mk' (GM3.out.below hb4)
  have KR4 := Hid.mk' (RowA.setBelow (Below.refl w3.heap.size w4) (Nat.le_refl _) 1 (.int .i64 ((R : Int) - (Q : Int))))
  have S34 := Hid.mk' hb4.size
  clear hb4 GM3 KM k6 f1
  have k6 := HXR.out.cell 6 _ c6
  have f1 := HR.out.frozen 1
  have k1 := HR.out.cell 1 _ rfl
  refine hK.out _ _ ⟨HXR, k6, f1⟩ (fun hHeld => ?_)
  clear hK K9
  try simp only [Act.put, zA, zB, zC]
  refine tkY 5 ?_
  refine tkY 6 ?_
  refine wpAnyH_ready (rs := [7]) (by kernel_rfl) (by simp) ?_
  refine AllReadyH.cons (o := ⟨_, _, _, _, _, _⟩) rfl (fun K9 hK => ?_) AllReadyH.nil
  go_simp
  have S5 : Hid (w1.heap.size < w3.heap.size) := S13
  have hx6 : RowA (w4.setCell ⟨w3.heap.size, 1, none⟩ (.int .i64 ((R : Int) - (Q : Int)))) w1.heap.size 60 X := HXR.out.other (by have := S5.out; simp; omega) _
  have HR5 : Hid (RowA (w4.setCell ⟨w3.heap.size, 1, none⟩ (.int .i64 ((R : Int) - (Q : Int)))) w3.heap.size 42 #[.int .i64 0, .int .i64 ((R : Int) - (Q : Int)), .slice pa (memX T s).dt.length qa, .int .i64 (memX T s).st, .slice pt (memX T s).tk.length qt, .slice pu (memX T s).hd.length qu, .slice pc (memX T s).cs.length qc]) := Hid.mk' (HR.out.set 1 _)
  refine hK.out _ _ ⟨Hid.mk' hx6, hx6.cell 6 _ c6, HR5.out.frozen 1⟩ (fun hHeld => ?_)
  clear hK K9
  try simp only [Act.put, zA, zB, zC]
  refine wpAnyH_done (by kernel_rfl) ?_ _
  have wz : w.heap.size + 1 < w1.heap.size := S01.out
  have HZ5 : Hid (RowA (w4.setCell ⟨w3.heap.size, 1, none⟩ (.int .i64 ((R : Int) - (Q : Int)))) (w.heap.size + 1) 42 #[.int .i64 0, .int .i64 0, .slice none 0 0, .int .i64 0, .slice none 0 0, .slice none 0 0, .slice none 0 0]) := Hid.mk' (HZ.out.other (by have := S5.out; simp; omega) _)
  have B5 := Hid.mk' (RowA.setBelow B1.out (g := w3.heap.size) (by have := S5.out; omega) 1 (.int .i64 ((R : Int) - (Q : Int))))
  have GM5 := Hid.mk' (GM4.out.keepIn (w' := w4.setCell ⟨w3.heap.size, 1, none⟩ (.int .i64 ((R : Int) - (Q : Int)))) KR4.out.size (fun q h1 h2 => KR4.out.block q h2))
  clear hHeld hx6 k6 f1 k1 HXR HZ B1 HR GM4 KR4
  generalize hw5 : w4.setCell ⟨w3.heap.size, 1, none⟩ (.int .i64 ((R : Int) - (Q : Int))) = w5 at *
  clear hw5
  have HZ6 := Hid.mk' (HZ5.out.put #[.int .i64 0, .int .i64 ((R : Int) - (Q : Int)), .slice pa (memX T s).dt.length qa, .int .i64 (memX T s).st, .slice pt (memX T s).tk.length qt, .slice pu (memX T s).hd.length qu, .slice pc (memX T s).cs.length qc])
  have B6 := Hid.mk' (RowA.putBelow B5.out (Nat.le_succ w.heap.size) #[.int .i64 0, .int .i64 ((R : Int) - (Q : Int)), .slice pa (memX T s).dt.length qa, .int .i64 (memX T s).st, .slice pt (memX T s).tk.length qt, .slice pu (memX T s).hd.length qu, .slice pc (memX T s).cs.length qc])
  have GM6 := Hid.mk' (GM5.out.keepIn (w' := w5.setRow (w.heap.size + 1) #[.int .i64 0, .int .i64 ((R : Int) - (Q : Int)), .slice pa (memX T s).dt.length qa, .int .i64 (memX T s).st, .slice pt (memX T s).tk.length qt, .slice pu (memX T s).hd.length qu, .slice pc (memX T s).cs.length qc]) (by rw [setRow_size]; exact Nat.le_refl _) (fun q h1 h2 => setRow_other _ _ _ _ (by have := S12.out; omega)))
  go_wp2_with (first | ((with_reducible refine wpList_load_row ?_ 42 (.tmp 11) ?_ w3.heap.size ?_ 42 #[.int .i64 0, .int .i64 ((R : Int) - (Q : Int)), .slice pa (memX T s).dt.length qa, .int .i64 (memX T s).st, .slice pt (memX T s).tk.length qt, .slice pu (memX T s).hd.length qu, .slice pc (memX T s).cs.length qc] (0, 0) _ ?_ Tryz.underlying42 ?_ ?_ ?_); rfl; rfl; rfl; exact HR5.out; rfl; kernel_rfl) | ((with_reducible refine wpList_store_row ?_ 42 (.tmp 8) (.tmp 37) ?_ (w.heap.size + 1) #[.int .i64 0, .int .i64 ((R : Int) - (Q : Int)), .slice pa (memX T s).dt.length qa, .int .i64 (memX T s).st, .slice pt (memX T s).tk.length qt, .slice pu (memX T s).hd.length qu, .slice pc (memX T s).cs.length qc] ?_ ?_ 42 #[.int .i64 0, .int .i64 0, .slice none 0 0, .int .i64 0, .slice none 0 0, .slice none 0 0, .slice none 0 0] ?_ ?_ ?_ ?_ ?_); rfl; rfl; rfl; rfl; exact HZ5.out; kernel_rfl; rfl; kernel_rfl) | fail)
  refine bodyPost_ret (v := .agg #[.int .i64 0, .int .i64 ((R : Int) - (Q : Int)), .slice pa (memX T s).dt.length qa, .int .i64 (memX T s).st, .slice pt (memX T s).tk.length qt, .slice pu (memX T s).hd.length qu, .slice pc (memX T s).cs.length qc]) ?_ ?_ ?_
  ·exact results_cell1 Tryz.results14 _ _ _ ⟨w.heap.size + 1, 0, none⟩ _ rfl (HZ6.out.load _ Tryz.underlying42 rfl (by kernel_rfl))
  ·rfl
  rw [EM.out, EV.out, EC.out]
  exact ⟨tau, _, _, _, _, us3, rs3, bl3, bh3, hvs3, rfl, GM6.out.mono (by have := S12.out; omega) (by rw [setRow_size]; exact Nat.le_of_lt HR5.out.lt), B6.out⟩
structure WM (wa : World) (q : Nat) (C R : Int) (m : ME) (a t u c : Option Addr) (ca ct cu cc : Nat) (wi : World) : Prop where
 old : Below wa.heap.size wa wi
 box : wi.rowIs q 42 7 (r7 (.int .i64 C) (.int .i64 R) (.slice a m.dt.length ca) (.int .i64 m.st) (.slice t m.tk.length ct) (.slice u m.hd.length cu) (.slice c m.cs.length cc))
 at_ : MAt wa a t u c m
 qlt : q < wa.heap.size
theorem WM.below {wa : World} {q : Nat} {C R : Int} {m : ME} {a t u c : Option Addr} {ca ct cu cc : Nat} {wi wj : World} (h : WM wa q C R m a t u c ca ct cu cc wi) (hb : Below wi.heap.size wi wj) : WM wa q C R m a t u c ca ct cu cc wj :=
 ⟨h.old.trans (hb.mono h.old.size), rowB h.box hb, h.at_, h.qlt⟩
theorem WM.kept {wa : World} {q lo hi : Nat} {C R : Int} {m : ME} {a t u c : Option Addr} {ca ct cu cc : Nat} {wi wj : World} (h : WM wa q C R m a t u c ca ct cu cc wi) (hk : KeptIn lo hi wi wj) (hlo : wa.heap.size ≤ lo) : WM wa q C R m a t u c ca ct cu cc wj :=
 ⟨h.old.trans (hk.below hlo h.old.size), rowK h.box hk (.inl (Nat.lt_of_lt_of_le h.qlt hlo)), h.at_, h.qlt⟩
theorem WM.now {wa : World} {q : Nat} {C R : Int} {m : ME} {a t u c : Option Addr} {ca ct cu cc : Nat} {wi : World} (h : WM wa q C R m a t u c ca ct cu cc wi) : MAt wi a t u c m := h.at_.below h.old
structure WG (lo hi q : Nat) (C R st : Int) (m : ME) (vd tv hv cv : Value) (us : List Value) (rs : Nat → List Value) (bl bh : Nat → Nat) (hvs : Nat → Value) (wi : World) : Prop where
 box : wi.rowIs q 42 7 (r7 (.int .i64 C) (.int .i64 R) vd (.int .i64 st) tv hv cv)
 own : ∃ tau, GM lo hi tau m vd tv hv cv us rs bl bh hvs wi
 hiq : hi ≤ q
theorem WG.below {lo hi q : Nat} {C R st : Int} {m : ME} {vd tv hv cv : Value} {us : List Value} {rs : Nat → List Value} {bl bh : Nat → Nat} {hvs : Nat → Value} {wi wj : World} (h : WG lo hi q C R st m vd tv hv cv us rs bl bh hvs wi) (hb : Below wi.heap.size wi wj) : WG lo hi q C R st m vd tv hv cv us rs bl bh hvs wj :=
 ⟨rowB h.box hb, by obtain ⟨tau, x⟩ := h.own; exact ⟨tau, x.below hb⟩, h.hiq⟩
theorem WG.kept {lo hi q a b : Nat} {C R st : Int} {m : ME} {vd tv hv cv : Value} {us : List Value} {rs : Nat → List Value} {bl bh : Nat → Nat} {hvs : Nat → Value} {wi wj : World} (h : WG lo hi q C R st m vd tv hv cv us rs bl bh hvs wi) (hk : KeptIn a b wi wj) (hb : b ≤ lo) (hlh : lo ≤ hi) : WG lo hi q C R st m vd tv hv cv us rs bl bh hvs wj :=
 ⟨rowK h.box hk (.inr (by have := h.hiq; omega)), by obtain ⟨tau, x⟩ := h.own; exact ⟨tau, x.kept hk hb⟩, h.hiq⟩

end Go.Proofs.YtmhihkdnhaadeaaGreatDoor
