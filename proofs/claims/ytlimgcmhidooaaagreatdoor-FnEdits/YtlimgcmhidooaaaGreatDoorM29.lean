/- One byte further behind an edit: the program's side. -/
import Derived.Test.YtlimgcmhidooaaaGreatDoorM28
set_option maxHeartbeats 6400000
set_option maxRecDepth 100000
set_option linter.unusedVariables false
set_option linter.unusedSimpArgs false
namespace Go.Proofs.YtlimgcmhidooaaaGreatDoor
open Go.RowKit
theorem threeE (w : World) (c1 c2 c3 : Array Value) :
  Below w.heap.size w (((w.alloc (.cells c1 86)).alloc (.cells c2 124)).alloc (.cells c3 124)) ∧
  RowA (((w.alloc (.cells c1 86)).alloc (.cells c2 124)).alloc (.cells c3 124)) w.heap.size 86 c1 ∧
  RowA (((w.alloc (.cells c1 86)).alloc (.cells c2 124)).alloc (.cells c3 124)) (w.heap.size + 1) 124 c2 ∧
  RowA (((w.alloc (.cells c1 86)).alloc (.cells c2 124)).alloc (.cells c3 124)) (w.heap.size + 1 + 1) 124 c3 := by
 obtain ⟨b, r1, r2⟩ := twoE w c1 c2
 have a3 := RowA.new ((w.alloc (.cells c1 86)).alloc (.cells c2 124)) 124 c3
 have b2 := below_new ((w.alloc (.cells c1 86)).alloc (.cells c2 124)) (.cells c3 124)
 have e2 : ((w.alloc (.cells c1 86)).alloc (.cells c2 124)).heap.size = w.heap.size + 1 + 1 := by simp
 rw [e2] at a3
 exact ⟨b.trans (b2.mono b.size), r1.below b2, r2.below b2, a3⟩
def byL (s : ByteArray) : List Int := s.data.toList.map (fun b => (b.toNat : Int))
theorem byL_len (s : ByteArray) : (byL s).length = s.size := by unfold byL; rw [List.length_map, Array.length_toList]; rfl
theorem byL_at (s : ByteArray) (j : Nat) (hj : j < s.size) : (byL s).getD j 0 = ((s.data.toList.getD j 0).toNat : Int) := by
 have h : j < s.data.toList.length := by rw [Array.length_toList]; exact hj
 unfold byL
 rw [List.getD_eq_getElem?_getD, List.getD_eq_getElem?_getD, List.getElem?_map, List.getElem?_eq_getElem h]
 rfl
theorem byL_bat (w : World) (s : ByteArray) : BAt (Lib.bytesWorld w 5 s) (some ⟨w.heap.size, 0, none⟩) (byL s) := by
 by_cases h : s.size = 0
 ·left
  exact List.eq_nil_of_length_eq_zero (by rw [byL_len]; exact h)
 ·refine .inr ⟨_, _, rfl, by rw [Lib.bytesWorld_size]; omega, fun k hk => ?_⟩
  rw [byL_len] at hk
  rw [Nat.zero_add, Lib.bytesWorld_cell w 5 s k hk]
  unfold bv
  rw [byL_at s k hk]
theorem byL_strI {h : List Int} (hb : Byt h) : byL (strI h) = h := by
 unfold byL
 rw [← toList_data, strI_list]
 rw [List.map_map]
 exact (List.map_congr_left (fun x hx => by have := hb.mem x hx; simp; omega)).trans (List.map_id _)
theorem editNext_any (tp : TypeId) (pv : Value) (D s J gd gc : Nat) (tv hv : Value) (tb tc : Nat) (T : List Int) (Q Tn : Nat) (kv : Value) (x y : Nat) (a b : Nat) (h : List Int) (w : World) (hE : Env w.heap.size tp pv w) (hgd : GoodH h) (hub : Byt h) (ht : CAt w tb 0 T) (htc : T.length ≤ tc) (htb : Byt T) (hTl : T.length ≤ 240) (ha : a < T.length) (hb : b ≤ 240) :
  Calls Tryz.prog 90 #[.agg (edX D s J gd gc tv hv (.slice (some ⟨tb, 0, none⟩) T.length tc) Q Tn kv x y), .agg #[.complex .f64 (floatOfInt .f64 (a : Int)) (floatOfInt .f64 (b : Int)), .string (strI h)]] w fun e w' => e = .returned (.agg #[.complex .f64 (floatOfInt .f64 ((a : Int) + 1)) (floatOfInt .f64 ((b : Int) + 1)), .string (strI (feedX h (T.getD a 0).toNat).2)]) ∧ Below w.heap.size w w' := by
 obtain ⟨H, hH⟩ : ∃ H, (feedX h (T.getD a 0).toNat).2 = H := ⟨_, rfl⟩
 rw [hH]
 obtain ⟨yb, hyb⟩ : ∃ yb : Nat, (T.getD a 0).toNat = yb := ⟨_, rfl⟩
 rw [hyb] at hH
 have hy0 := htb a ha
 have hyi : T.getD a 0 = (yb : Int) := by omega
 have hy255 : yb ≤ 255 := by omega
 obtain ⟨B0, R0, P0, Z0⟩ := threeE w (edX D s J gd gc tv hv (.slice (some ⟨tb, 0, none⟩) T.length tc) Q Tn kv x y) #[.complex .f64 (floatOfInt .f64 (a : Int)) (floatOfInt .f64 (b : Int)), .string (strI h)] #[.complex .f64 0 0, .string ⟨#[]⟩]
 have HHE := Hid.mk' hH
 have hcl : w.cell? ⟨tb, a, none⟩ = some (.int .u8 (yb : Int)) := by have := ht.2 a ha; rw [Nat.zero_add] at this; rw [this]; unfold bv; rw [hyi]
 have TX := Hid.mk' ((B0.cell (p := ⟨tb, a, none⟩) ht.1).trans hcl)
 have TL : Hid (tb < w.heap.size) := Hid.mk' ht.1
 have HB := Hid.mk' B0
 have HR := Hid.mk' R0
 have HP := Hid.mk' P0
 have HZ := Hid.mk' Z0
 have HE := Hid.mk' hE
 have HG := Hid.mk' hgd
 have HU := Hid.mk' hub
 have hai : (a : Int) < (T.length : Int) := by omega
 have hyw : IntKind.i64.wrap (yb : Int) = (yb : Int) := by rw [IntKind.wrap_i64]; omega
 have hln : (strI h).size = h.length := by rw [← byL_len, byL_strI hub]
 have BY : Hid (byL (strI h) = h) := Hid.mk' (byL_strI hub)
 have hsum : Hid (∀ X : World, (binOp .add 84 (.complex .f64 (floatOfInt .f64 (a : Int)) (floatOfInt .f64 (b : Int))) (.complex .f64 4607182418800017408 4607182418800017408)).run Tryz.prog X = .ok (.complex .f64 (floatOfInt .f64 ((a : Int) + 1)) (floatOfInt .f64 ((b : Int) + 1))) X) := Hid.mk' (fun X => run_complex_sum (P := Tryz.prog) X .add (.inl rfl) _ .f64 _ _ _ _ _ _ (by unfold cSumBits; rw [fl_add a (by omega), fl_add b (by omega)]; rfl))
 have hcv : ∀ X : World, (convert 9 22 (.string (strI h))).run Tryz.prog X = .ok (.slice (some ⟨X.heap.size, 0, none⟩) h.length (grownCap X h.length 0 5)) (Lib.bytesWorld X 5 (strI h)) := fun X => by
  have := Lib.run_convert_string_bytes (P := Tryz.prog) X 9 22 5 (strI h) Tryz.underlying9 Tryz.underlying22 Tryz.underlying5
  rw [hln] at this
  exact this
 have HCV := Hid.mk' hcv
 obtain ⟨FA, hFA⟩ : ∃ FA, floatOfInt .f64 ((a : Int) + 1) = FA := ⟨_, rfl⟩
 obtain ⟨FB, hFB⟩ : ∃ FB, floatOfInt .f64 ((b : Int) + 1) = FB := ⟨_, rfl⟩
 rw [hFA, hFB] at hsum
 rw [hFA, hFB]
 clear B0 R0 P0 Z0 hE hgd hub ht htb hcl hH hyb hy0 hyi hln hcv hFA hFB
 generalize hW : ((w.alloc (.cells (edX D s J gd gc tv hv (.slice (some ⟨tb, 0, none⟩) T.length tc) Q Tn kv x y) 86)).alloc (.cells #[.complex .f64 (floatOfInt .f64 (a : Int)) (floatOfInt .f64 (b : Int)), .string (strI h)] 124)).alloc (.cells #[.complex .f64 0 0, .string ⟨#[]⟩] 124) = W at *
 have SE : Hid (Below w.heap.size w W.drew ∧ RowA W.drew w.heap.size 86 (edX D s J gd gc tv hv (.slice (some ⟨tb, 0, none⟩) T.length tc) Q Tn kv x y) ∧ RowA W.drew (w.heap.size + 1) 124 #[.complex .f64 (floatOfInt .f64 (a : Int)) (floatOfInt .f64 (b : Int)), .string (strI h)] ∧ RowA W.drew (w.heap.size + 1 + 1) 124 #[.complex .f64 0 0, .string ⟨#[]⟩] ∧ W.drew.cell? ⟨tb, a, none⟩ = some (.int .u8 (yb : Int))) := Hid.mk' ⟨HB.out.drew, HR.out, HP.out, HZ.out, TX.out⟩
 have KN : Hid (∀ v, Calls Tryz.prog 88 #[.agg #[.complex .f64 (floatOfInt .f64 (a : Int)) (floatOfInt .f64 (b : Int)), .string (strI h)]] v fun e w' => e = .returned (.int .i64 (a : Int)) ∧ Below v.heap.size v w') := Hid.mk' (fun v => now_any _ _ _ _ v (fl_int a (by omega)))
 have KB : Hid (∀ v ah ch, Below w.heap.size w v → BAt v ah h → Calls Tryz.prog 109 #[.agg #[.slice ah h.length ch], .int .i64 (yb : Int)] v fun e w' => FbP H v e w') := Hid.mk' (fun v ah ch hv hh => by
  have K := feedByte_any tp pv h ah ch yb v ((HE.out.keep hv).up hv.size (Nat.le_refl _)) hh HG.out HU.out hy255
  rw [HHE.out] at K
  exact K)
 go_enter Tryz.func90, Tryz.ntmps90
 go_wp2_with fail
 clear hW HB HR HP HZ TX
 generalize hVd : W.drew = V at *
 have HB := Hid.mk' SE.out.1
 have HCE : Hid (∀ v, Below V.heap.size V v → (fun v => v.cell? ⟨w.heap.size, 5, none⟩ = some (.slice (some ⟨tb, 0, none⟩) T.length tc) ∧ v.cell? ⟨w.heap.size + 1, 0, none⟩ = some (.complex .f64 (floatOfInt .f64 (a : Int)) (floatOfInt .f64 (b : Int))) ∧ v.cell? ⟨w.heap.size + 1, 1, none⟩ = some (.string (strI h)) ∧ v.cell? ⟨tb, a, none⟩ = some (.int .u8 (yb : Int))) v) := Hid.mk' (fun v hb => ⟨(SE.out.2.1.below hb).cell 5 _ rfl, (SE.out.2.2.1.below hb).cell 0 _ rfl, (SE.out.2.2.1.below hb).cell 1 _ rfl, (hb.cell (p := ⟨tb, a, none⟩) (Nat.lt_of_lt_of_le TL.out HB.out.size)).trans SE.out.2.2.2.2⟩)
 have HZ := Hid.mk' SE.out.2.2.2.1
 have HP := Hid.mk' SE.out.2.2.1
 clear SE
 refine wp_region_held_drew (S := (fun v => v.cell? ⟨w.heap.size, 5, none⟩ = some (.slice (some ⟨tb, 0, none⟩) T.length tc) ∧ v.cell? ⟨w.heap.size + 1, 0, none⟩ = some (.complex .f64 (floatOfInt .f64 (a : Int)) (floatOfInt .f64 (b : Int))) ∧ v.cell? ⟨w.heap.size + 1, 1, none⟩ = some (.string (strI h)) ∧ v.cell? ⟨tb, a, none⟩ = some (.int .u8 (yb : Int)))) (by kernel_rfl) (by rw [hVd]; exact HCE.out _ (Below.refl _ _)) (fun hHeld => ?_)
 rw [hVd] at hHeld ⊢
 clear hVd
 have BB := Hid.mk' (Below.refl V.heap.size V)
 refine tkY 0 ?_
 refine tkY 1 ?_
 refine tkY 4 ?_
 refine tkY 5 ?_
 refine tkY 6 ?_
 refine wpAnyH_ready (rs := [2, 7, 12]) (by kernel_rfl) (by simp) ?_
 refine AllReadyH.cons (o := ⟨_, _, _, _, _, _⟩) rfl (fun K9 hK => ?_) (AllReadyH.cons (o := ⟨_, _, _, _, _, _⟩) rfl (fun K9 hK => ?_) (AllReadyH.cons (o := ⟨_, _, _, _, _, _⟩) rfl (fun K9 hK => ?_) AllReadyH.nil))
 ·have hcv := HCV.out V
  go_simp
  have NB : Below V.heap.size V (Lib.bytesWorld V 5 (strI h)) := Lib.bytesWorld_below V 5 (strI h)
  have NT : BAt (Lib.bytesWorld V 5 (strI h)) (some ⟨V.heap.size, 0, none⟩) h := by have := byL_bat V (strI h); rwa [BY.out] at this

  have BB := Hid.mk' (BB.out.trans (NB.mono BB.out.size))
  have HT := Hid.mk' NT
  clear NB NT hcv
  generalize hgcp : grownCap V h.length 0 5 = gcp at *
  clear hgcp
  refine hK.out _ _ (HCE.out _ BB.out) (fun hHeld => ?_)
  clear hK K9
  try simp only [Act.put, zA, zB, zC]
  generalize hbw : Lib.bytesWorld V 5 (strI h) = v1 at *
  clear hbw
  refine tkY 3 ?_
  refine wpAnyH_ready (rs := [7, 12]) (by kernel_rfl) (by simp) ?_
  refine AllReadyH.cons (o := ⟨_, _, _, _, _, _⟩) rfl (fun K9 hK => ?_) (AllReadyH.cons (o := ⟨_, _, _, _, _, _⟩) rfl (fun K9 hK => ?_) AllReadyH.nil)
  ·go_simp
   refine (KN.out _).mono ?_
   rintro e1 v2 ⟨rfl, hb⟩

   have HT := Hid.mk' (HT.out.below hb)
   have BB := Hid.mk' (BB.out.trans (hb.mono BB.out.size))
   clear hb
   refine hK.out _ _ (HCE.out _ BB.out) (fun hHeld => ?_)
   clear hK K9
   try simp only [Act.put, zA, zB, zC]
   refine tkY 8 ?_
   refine tkY 9 ?_
   refine tkY 10 ?_
   refine wpAnyH_ready (rs := [11, 12]) (by kernel_rfl) (by simp) ?_
   refine AllReadyH.cons (o := ⟨_, _, _, _, _, _⟩) rfl (fun K9 hK => ?_) (AllReadyH.cons (o := ⟨_, _, _, _, _, _⟩) rfl (fun K9 hK => ?_) AllReadyH.nil)
   ·go_simp
    refine (KB.out _ _ _ (HB.out.trans (BB.out.mono HB.out.size)) HT.out).mono ?_
    rintro e2 v3 ⟨ta, tn, tc', ha_, hc', rfl, hh, hlo, hb⟩

    have BB := Hid.mk' (BB.out.trans (hb.mono BB.out.size))
    have FH := Hid.mk' hh
    clear hb hh hlo
    refine hK.out _ _ (HCE.out _ BB.out) (fun hHeld => ?_)
    clear hK K9
    try simp only [Act.put, zA, zB, zC]
    refine wpAnyH_ready (rs := [12]) (by kernel_rfl) (by simp) ?_
    refine AllReadyH.cons (o := ⟨_, _, _, _, _, _⟩) rfl (fun K9 hK => ?_) AllReadyH.nil
    go_simp
    have NA := below_new v3 (.cells #[.int .i64 0, .slice none 0 0, .slice none 0 0] 41)
    have BX : Hid (V.heap.size ≤ v3.heap.size) := Hid.mk' BB.out.size
    have FX := Hid.mk' (RowA.new v3 41 #[.int .i64 0, .slice none 0 0, .slice none 0 0])
    have SF : Hid (v3.heap.size < (v3.alloc (.cells #[.int .i64 0, .slice none 0 0, .slice none 0 0] 41)).heap.size) := Hid.mk' (by simp)

    have BP := Hid.mk' BB.out
    have FP := Hid.mk' FH.out
    have BB := Hid.mk' (BB.out.trans (NA.mono BB.out.size))
    clear NA
    refine hK.out _ _ (HCE.out _ BB.out) (fun hHeld => ?_)
    clear hK K9
    try simp only [Act.put, zA, zB, zC]
    refine wpAnyH_ready (rs := [13]) (by kernel_rfl) (by simp) ?_
    refine AllReadyH.cons (o := ⟨_, _, _, _, _, _⟩) rfl (fun K9 hK => ?_) AllReadyH.nil
    have z0 := FX.out.cell 0 _ rfl
    have z1 := FX.out.cell 1 _ rfl
    have z2 := FX.out.cell 2 _ rfl
    have f0 := FX.out.frozen 0
    have f1 := FX.out.frozen 1
    have f2 := FX.out.frozen 2
    go_simp
    have FS := RowA.new v3 41 #[.int .i64 0, .slice ta tn tc', .slice ha_ H.length hc']
    have BS := BP.out.trans ((below_new v3 (.cells #[.int .i64 0, .slice ta tn tc', .slice ha_ H.length hc'] 41)).mono BP.out.size)
    have KS : BAt (v3.alloc (.cells #[.int .i64 0, .slice ta tn tc', .slice ha_ H.length hc'] 41)) ha_ H := FP.out.below (below_new v3 _)
    refine hK.out _ _ (HCE.out _ BS) (fun hHeld => ?_)
    clear hK K9 z0 z1 z2 f0 f1 f2
    try simp only [Act.put, zA, zB, zC]
    refine wpAnyH_done (by kernel_rfl) ?_ _
    clear hHeld
    have FS := Hid.mk' FS
    have BS := Hid.mk' BS
    have KS := Hid.mk' KS
    generalize hU : (v3.alloc (.cells #[.int .i64 0, .slice ta tn tc', .slice ha_ H.length hc'] 41)) = U at *
    clear hU
    have v2 := FS.out.cell 2 (.slice ha_ H.length hc') rfl
    have PU := HP.out.below BS.out
    have g0 := PU.cell 0 _ rfl
    have ZR := Hid.mk' (HZ.out.below BS.out)
    have hcv := conv_bytesT hc' KS.out
    have hsm := hsum.out U
    have BZ := Hid.mk' (HB.out.trans (BS.out.mono HB.out.size))
    go_wp2_with ((with_reducible refine wpList_store_row ?_ 124 (.tmp 4) (.tmp 25) ?_ (w.heap.size + 1 + 1) #[.complex .f64 FA FB, .string (strI H)] ?_ ?_ 124 #[.complex .f64 0 0, .string ⟨#[]⟩] ?_ ?_ ?_ ?_ ?_); rfl; rfl; rfl; rfl; exact ZR.out; kernel_rfl; rfl; kernel_rfl)
    refine bodyPost_ret (v := .agg #[.complex .f64 FA FB, .string (strI H)]) ?_ ?_ ?_
    ·exact results_cell_row Tryz.results90 _ _ (w.heap.size + 1 + 1) 124 _ (0, 0) _ rfl (ZR.out.put _) Tryz.underlying124 rfl (by kernel_rfl)
    ·rfl
    exact ⟨rfl, RowA.putBelow BZ.out (by omega) _⟩
   ·go_simp
    have NA := below_new v2 (.cells #[.int .i64 0, .slice none 0 0, .slice none 0 0] 41)
    have BX : Hid (V.heap.size ≤ v2.heap.size) := Hid.mk' BB.out.size
    have FX := Hid.mk' (RowA.new v2 41 #[.int .i64 0, .slice none 0 0, .slice none 0 0])
    have SF : Hid (v2.heap.size < (v2.alloc (.cells #[.int .i64 0, .slice none 0 0, .slice none 0 0] 41)).heap.size) := Hid.mk' (by simp)
    have HT := Hid.mk' (HT.out.below NA)
    have BP := Hid.mk' BB.out

    have BB := Hid.mk' (BB.out.trans (NA.mono BB.out.size))
    clear NA
    refine hK.out _ _ (HCE.out _ BB.out) (fun hHeld => ?_)
    clear hK K9
    try simp only [Act.put, zA, zB, zC]
    generalize hvv : (v2.alloc (.cells #[.int .i64 0, .slice none 0 0, .slice none 0 0] 41)) = v5 at *
    clear hvv
    refine wpAnyH_ready (rs := [11]) (by kernel_rfl) (by simp) ?_
    refine AllReadyH.cons (o := ⟨_, _, _, _, _, _⟩) rfl (fun K9 hK => ?_) AllReadyH.nil
    go_simp
    refine (KB.out _ _ _ (HB.out.trans (BB.out.mono HB.out.size)) HT.out).mono ?_
    rintro e2 v6 ⟨ta, tn, tc', ha_, hc', rfl, hh, hlo, hb⟩
    have FX := Hid.mk' (FX.out.below hb)
    have LF : Hid (∀ b o, ha_ = some ⟨b, o, none⟩ → v2.heap.size < b) := Hid.mk' (fun b o e => Nat.lt_of_lt_of_le SF.out (hlo b o e))
    have BB := Hid.mk' (BB.out.trans (hb.mono BB.out.size))
    have FH := Hid.mk' hh
    clear hb hh hlo
    refine hK.out _ _ (HCE.out _ BB.out) (fun hHeld => ?_)
    clear hK K9
    try simp only [Act.put, zA, zB, zC]
    refine wpAnyH_ready (rs := [13]) (by kernel_rfl) (by simp) ?_
    refine AllReadyH.cons (o := ⟨_, _, _, _, _, _⟩) rfl (fun K9 hK => ?_) AllReadyH.nil
    have z0 := FX.out.cell 0 _ rfl
    have z1 := FX.out.cell 1 _ rfl
    have z2 := FX.out.cell 2 _ rfl
    have f0 := FX.out.frozen 0
    have f1 := FX.out.frozen 1
    have f2 := FX.out.frozen 2
    go_simp
    have lx := BX.out
    have FS := ((FX.out.set 0 (.int .i64 0)).set 1 (.slice ta tn tc')).set 2 (.slice ha_ H.length hc')
    have BS := ((BB.out.setCell (p := ⟨v2.heap.size, 0, none⟩) lx (.int .i64 0)).setCell (p := ⟨v2.heap.size, 1, none⟩) lx (.slice ta tn tc')).setCell (p := ⟨v2.heap.size, 2, none⟩) lx (.slice ha_ H.length hc')
    have KS : BAt (((v6.setCell ⟨v2.heap.size, 0, none⟩ (.int .i64 0)).setCell ⟨v2.heap.size, 1, none⟩ (.slice ta tn tc')).setCell ⟨v2.heap.size, 2, none⟩ (.slice ha_ H.length hc')) ha_ H := bat_other FH.out (by intro b o e _; have := LF.out b o e; omega)
    refine hK.out _ _ (HCE.out _ BS) (fun hHeld => ?_)
    clear hK K9 z0 z1 z2 f0 f1 f2
    try simp only [Act.put, zA, zB, zC]
    refine wpAnyH_done (by kernel_rfl) ?_ _
    clear hHeld
    have FS := Hid.mk' FS
    have BS := Hid.mk' BS
    have KS := Hid.mk' KS
    generalize hU : (((v6.setCell ⟨v2.heap.size, 0, none⟩ (.int .i64 0)).setCell ⟨v2.heap.size, 1, none⟩ (.slice ta tn tc')).setCell ⟨v2.heap.size, 2, none⟩ (.slice ha_ H.length hc')) = U at *
    clear hU
    have v2 := FS.out.cell 2 (.slice ha_ H.length hc') rfl
    have PU := HP.out.below BS.out
    have g0 := PU.cell 0 _ rfl
    have ZR := Hid.mk' (HZ.out.below BS.out)
    have hcv := conv_bytesT hc' KS.out
    have hsm := hsum.out U
    have BZ := Hid.mk' (HB.out.trans (BS.out.mono HB.out.size))
    go_wp2_with ((with_reducible refine wpList_store_row ?_ 124 (.tmp 4) (.tmp 25) ?_ (w.heap.size + 1 + 1) #[.complex .f64 FA FB, .string (strI H)] ?_ ?_ 124 #[.complex .f64 0 0, .string ⟨#[]⟩] ?_ ?_ ?_ ?_ ?_); rfl; rfl; rfl; rfl; exact ZR.out; kernel_rfl; rfl; kernel_rfl)
    refine bodyPost_ret (v := .agg #[.complex .f64 FA FB, .string (strI H)]) ?_ ?_ ?_
    ·exact results_cell_row Tryz.results90 _ _ (w.heap.size + 1 + 1) 124 _ (0, 0) _ rfl (ZR.out.put _) Tryz.underlying124 rfl (by kernel_rfl)
    ·rfl
    exact ⟨rfl, RowA.putBelow BZ.out (by omega) _⟩
  ·go_simp
   have NA := below_new v1 (.cells #[.int .i64 0, .slice none 0 0, .slice none 0 0] 41)
   have BX : Hid (V.heap.size ≤ v1.heap.size) := Hid.mk' BB.out.size
   have FX := Hid.mk' (RowA.new v1 41 #[.int .i64 0, .slice none 0 0, .slice none 0 0])
   have SF : Hid (v1.heap.size < (v1.alloc (.cells #[.int .i64 0, .slice none 0 0, .slice none 0 0] 41)).heap.size) := Hid.mk' (by simp)
   have HT := Hid.mk' (HT.out.below NA)
   have BP := Hid.mk' BB.out

   have BB := Hid.mk' (BB.out.trans (NA.mono BB.out.size))
   clear NA
   refine hK.out _ _ (HCE.out _ BB.out) (fun hHeld => ?_)
   clear hK K9
   try simp only [Act.put, zA, zB, zC]
   generalize hvv : (v1.alloc (.cells #[.int .i64 0, .slice none 0 0, .slice none 0 0] 41)) = v7 at *
   clear hvv
   refine wpAnyH_ready (rs := [7]) (by kernel_rfl) (by simp) ?_
   refine AllReadyH.cons (o := ⟨_, _, _, _, _, _⟩) rfl (fun K9 hK => ?_) AllReadyH.nil
   go_simp
   refine (KN.out _).mono ?_
   rintro e1 v8 ⟨rfl, hb⟩
   have FX := Hid.mk' (FX.out.below hb)
   have SF : Hid (v1.heap.size < v8.heap.size) := Hid.mk' (Nat.lt_of_lt_of_le SF.out hb.size)
   have HT := Hid.mk' (HT.out.below hb)
   have BB := Hid.mk' (BB.out.trans (hb.mono BB.out.size))
   clear hb
   refine hK.out _ _ (HCE.out _ BB.out) (fun hHeld => ?_)
   clear hK K9
   try simp only [Act.put, zA, zB, zC]
   refine tkY 8 ?_
   refine tkY 9 ?_
   refine tkY 10 ?_
   refine wpAnyH_ready (rs := [11]) (by kernel_rfl) (by simp) ?_
   refine AllReadyH.cons (o := ⟨_, _, _, _, _, _⟩) rfl (fun K9 hK => ?_) AllReadyH.nil
   go_simp
   refine (KB.out _ _ _ (HB.out.trans (BB.out.mono HB.out.size)) HT.out).mono ?_
   rintro e2 v9 ⟨ta, tn, tc', ha_, hc', rfl, hh, hlo, hb⟩
   have FX := Hid.mk' (FX.out.below hb)
   have LF : Hid (∀ b o, ha_ = some ⟨b, o, none⟩ → v1.heap.size < b) := Hid.mk' (fun b o e => Nat.lt_of_lt_of_le SF.out (hlo b o e))
   have BB := Hid.mk' (BB.out.trans (hb.mono BB.out.size))
   have FH := Hid.mk' hh
   clear hb hh hlo
   refine hK.out _ _ (HCE.out _ BB.out) (fun hHeld => ?_)
   clear hK K9
   try simp only [Act.put, zA, zB, zC]
   refine wpAnyH_ready (rs := [13]) (by kernel_rfl) (by simp) ?_
   refine AllReadyH.cons (o := ⟨_, _, _, _, _, _⟩) rfl (fun K9 hK => ?_) AllReadyH.nil
   have z0 := FX.out.cell 0 _ rfl
   have z1 := FX.out.cell 1 _ rfl
   have z2 := FX.out.cell 2 _ rfl
   have f0 := FX.out.frozen 0
   have f1 := FX.out.frozen 1
   have f2 := FX.out.frozen 2
   go_simp
   have lx := BX.out
   have FS := ((FX.out.set 0 (.int .i64 0)).set 1 (.slice ta tn tc')).set 2 (.slice ha_ H.length hc')
   have BS := ((BB.out.setCell (p := ⟨v1.heap.size, 0, none⟩) lx (.int .i64 0)).setCell (p := ⟨v1.heap.size, 1, none⟩) lx (.slice ta tn tc')).setCell (p := ⟨v1.heap.size, 2, none⟩) lx (.slice ha_ H.length hc')
   have KS : BAt (((v9.setCell ⟨v1.heap.size, 0, none⟩ (.int .i64 0)).setCell ⟨v1.heap.size, 1, none⟩ (.slice ta tn tc')).setCell ⟨v1.heap.size, 2, none⟩ (.slice ha_ H.length hc')) ha_ H := bat_other FH.out (by intro b o e _; have := LF.out b o e; omega)
   refine hK.out _ _ (HCE.out _ BS) (fun hHeld => ?_)
   clear hK K9 z0 z1 z2 f0 f1 f2
   try simp only [Act.put, zA, zB, zC]
   refine wpAnyH_done (by kernel_rfl) ?_ _
   clear hHeld
   have FS := Hid.mk' FS
   have BS := Hid.mk' BS
   have KS := Hid.mk' KS
   generalize hU : (((v9.setCell ⟨v1.heap.size, 0, none⟩ (.int .i64 0)).setCell ⟨v1.heap.size, 1, none⟩ (.slice ta tn tc')).setCell ⟨v1.heap.size, 2, none⟩ (.slice ha_ H.length hc')) = U at *
   clear hU
   have v2 := FS.out.cell 2 (.slice ha_ H.length hc') rfl
   have PU := HP.out.below BS.out
   have g0 := PU.cell 0 _ rfl
   have ZR := Hid.mk' (HZ.out.below BS.out)
   have hcv := conv_bytesT hc' KS.out
   have hsm := hsum.out U
   have BZ := Hid.mk' (HB.out.trans (BS.out.mono HB.out.size))
   go_wp2_with ((with_reducible refine wpList_store_row ?_ 124 (.tmp 4) (.tmp 25) ?_ (w.heap.size + 1 + 1) #[.complex .f64 FA FB, .string (strI H)] ?_ ?_ 124 #[.complex .f64 0 0, .string ⟨#[]⟩] ?_ ?_ ?_ ?_ ?_); rfl; rfl; rfl; rfl; exact ZR.out; kernel_rfl; rfl; kernel_rfl)
   refine bodyPost_ret (v := .agg #[.complex .f64 FA FB, .string (strI H)]) ?_ ?_ ?_
   ·exact results_cell_row Tryz.results90 _ _ (w.heap.size + 1 + 1) 124 _ (0, 0) _ rfl (ZR.out.put _) Tryz.underlying124 rfl (by kernel_rfl)
   ·rfl
   exact ⟨rfl, RowA.putBelow BZ.out (by omega) _⟩
 ·go_simp
  refine (KN.out _).mono ?_
  rintro e1 v10 ⟨rfl, hb⟩

  have BB := Hid.mk' (BB.out.trans (hb.mono BB.out.size))
  clear hb
  refine hK.out _ _ (HCE.out _ BB.out) (fun hHeld => ?_)
  clear hK K9
  try simp only [Act.put, zA, zB, zC]
  refine tkY 8 ?_
  refine tkY 9 ?_
  refine tkY 10 ?_
  refine wpAnyH_ready (rs := [2, 12]) (by kernel_rfl) (by simp) ?_
  refine AllReadyH.cons (o := ⟨_, _, _, _, _, _⟩) rfl (fun K9 hK => ?_) (AllReadyH.cons (o := ⟨_, _, _, _, _, _⟩) rfl (fun K9 hK => ?_) AllReadyH.nil)
  ·have hcv := HCV.out v10
   go_simp
   have NB : Below v10.heap.size v10 (Lib.bytesWorld v10 5 (strI h)) := Lib.bytesWorld_below v10 5 (strI h)
   have NT : BAt (Lib.bytesWorld v10 5 (strI h)) (some ⟨v10.heap.size, 0, none⟩) h := by have := byL_bat v10 (strI h); rwa [BY.out] at this

   have BB := Hid.mk' (BB.out.trans (NB.mono BB.out.size))
   have HT := Hid.mk' NT
   clear NB NT hcv
   generalize hgcp : grownCap v10 h.length 0 5 = gcp at *
   clear hgcp
   refine hK.out _ _ (HCE.out _ BB.out) (fun hHeld => ?_)
   clear hK K9
   try simp only [Act.put, zA, zB, zC]
   generalize hbw : Lib.bytesWorld v10 5 (strI h) = v11 at *
   clear hbw
   refine tkY 3 ?_
   refine wpAnyH_ready (rs := [11, 12]) (by kernel_rfl) (by simp) ?_
   refine AllReadyH.cons (o := ⟨_, _, _, _, _, _⟩) rfl (fun K9 hK => ?_) (AllReadyH.cons (o := ⟨_, _, _, _, _, _⟩) rfl (fun K9 hK => ?_) AllReadyH.nil)
   ·go_simp
    refine (KB.out _ _ _ (HB.out.trans (BB.out.mono HB.out.size)) HT.out).mono ?_
    rintro e2 v12 ⟨ta, tn, tc', ha_, hc', rfl, hh, hlo, hb⟩

    have BB := Hid.mk' (BB.out.trans (hb.mono BB.out.size))
    have FH := Hid.mk' hh
    clear hb hh hlo
    refine hK.out _ _ (HCE.out _ BB.out) (fun hHeld => ?_)
    clear hK K9
    try simp only [Act.put, zA, zB, zC]
    refine wpAnyH_ready (rs := [12]) (by kernel_rfl) (by simp) ?_
    refine AllReadyH.cons (o := ⟨_, _, _, _, _, _⟩) rfl (fun K9 hK => ?_) AllReadyH.nil
    go_simp
    have NA := below_new v12 (.cells #[.int .i64 0, .slice none 0 0, .slice none 0 0] 41)
    have BX : Hid (V.heap.size ≤ v12.heap.size) := Hid.mk' BB.out.size
    have FX := Hid.mk' (RowA.new v12 41 #[.int .i64 0, .slice none 0 0, .slice none 0 0])
    have SF : Hid (v12.heap.size < (v12.alloc (.cells #[.int .i64 0, .slice none 0 0, .slice none 0 0] 41)).heap.size) := Hid.mk' (by simp)

    have BP := Hid.mk' BB.out
    have FP := Hid.mk' FH.out
    have BB := Hid.mk' (BB.out.trans (NA.mono BB.out.size))
    clear NA
    refine hK.out _ _ (HCE.out _ BB.out) (fun hHeld => ?_)
    clear hK K9
    try simp only [Act.put, zA, zB, zC]
    refine wpAnyH_ready (rs := [13]) (by kernel_rfl) (by simp) ?_
    refine AllReadyH.cons (o := ⟨_, _, _, _, _, _⟩) rfl (fun K9 hK => ?_) AllReadyH.nil
    have z0 := FX.out.cell 0 _ rfl
    have z1 := FX.out.cell 1 _ rfl
    have z2 := FX.out.cell 2 _ rfl
    have f0 := FX.out.frozen 0
    have f1 := FX.out.frozen 1
    have f2 := FX.out.frozen 2
    go_simp
    have FS := RowA.new v12 41 #[.int .i64 0, .slice ta tn tc', .slice ha_ H.length hc']
    have BS := BP.out.trans ((below_new v12 (.cells #[.int .i64 0, .slice ta tn tc', .slice ha_ H.length hc'] 41)).mono BP.out.size)
    have KS : BAt (v12.alloc (.cells #[.int .i64 0, .slice ta tn tc', .slice ha_ H.length hc'] 41)) ha_ H := FP.out.below (below_new v12 _)
    refine hK.out _ _ (HCE.out _ BS) (fun hHeld => ?_)
    clear hK K9 z0 z1 z2 f0 f1 f2
    try simp only [Act.put, zA, zB, zC]
    refine wpAnyH_done (by kernel_rfl) ?_ _
    clear hHeld
    have FS := Hid.mk' FS
    have BS := Hid.mk' BS
    have KS := Hid.mk' KS
    generalize hU : (v12.alloc (.cells #[.int .i64 0, .slice ta tn tc', .slice ha_ H.length hc'] 41)) = U at *
    clear hU
    have v2 := FS.out.cell 2 (.slice ha_ H.length hc') rfl
    have PU := HP.out.below BS.out
    have g0 := PU.cell 0 _ rfl
    have ZR := Hid.mk' (HZ.out.below BS.out)
    have hcv := conv_bytesT hc' KS.out
    have hsm := hsum.out U
    have BZ := Hid.mk' (HB.out.trans (BS.out.mono HB.out.size))
    go_wp2_with ((with_reducible refine wpList_store_row ?_ 124 (.tmp 4) (.tmp 25) ?_ (w.heap.size + 1 + 1) #[.complex .f64 FA FB, .string (strI H)] ?_ ?_ 124 #[.complex .f64 0 0, .string ⟨#[]⟩] ?_ ?_ ?_ ?_ ?_); rfl; rfl; rfl; rfl; exact ZR.out; kernel_rfl; rfl; kernel_rfl)
    refine bodyPost_ret (v := .agg #[.complex .f64 FA FB, .string (strI H)]) ?_ ?_ ?_
    ·exact results_cell_row Tryz.results90 _ _ (w.heap.size + 1 + 1) 124 _ (0, 0) _ rfl (ZR.out.put _) Tryz.underlying124 rfl (by kernel_rfl)
    ·rfl
    exact ⟨rfl, RowA.putBelow BZ.out (by omega) _⟩
   ·go_simp
    have NA := below_new v11 (.cells #[.int .i64 0, .slice none 0 0, .slice none 0 0] 41)
    have BX : Hid (V.heap.size ≤ v11.heap.size) := Hid.mk' BB.out.size
    have FX := Hid.mk' (RowA.new v11 41 #[.int .i64 0, .slice none 0 0, .slice none 0 0])
    have SF : Hid (v11.heap.size < (v11.alloc (.cells #[.int .i64 0, .slice none 0 0, .slice none 0 0] 41)).heap.size) := Hid.mk' (by simp)
    have HT := Hid.mk' (HT.out.below NA)
    have BP := Hid.mk' BB.out

    have BB := Hid.mk' (BB.out.trans (NA.mono BB.out.size))
    clear NA
    refine hK.out _ _ (HCE.out _ BB.out) (fun hHeld => ?_)
    clear hK K9
    try simp only [Act.put, zA, zB, zC]
    generalize hvv : (v11.alloc (.cells #[.int .i64 0, .slice none 0 0, .slice none 0 0] 41)) = v14 at *
    clear hvv
    refine wpAnyH_ready (rs := [11]) (by kernel_rfl) (by simp) ?_
    refine AllReadyH.cons (o := ⟨_, _, _, _, _, _⟩) rfl (fun K9 hK => ?_) AllReadyH.nil
    go_simp
    refine (KB.out _ _ _ (HB.out.trans (BB.out.mono HB.out.size)) HT.out).mono ?_
    rintro e2 v15 ⟨ta, tn, tc', ha_, hc', rfl, hh, hlo, hb⟩
    have FX := Hid.mk' (FX.out.below hb)
    have LF : Hid (∀ b o, ha_ = some ⟨b, o, none⟩ → v11.heap.size < b) := Hid.mk' (fun b o e => Nat.lt_of_lt_of_le SF.out (hlo b o e))
    have BB := Hid.mk' (BB.out.trans (hb.mono BB.out.size))
    have FH := Hid.mk' hh
    clear hb hh hlo
    refine hK.out _ _ (HCE.out _ BB.out) (fun hHeld => ?_)
    clear hK K9
    try simp only [Act.put, zA, zB, zC]
    refine wpAnyH_ready (rs := [13]) (by kernel_rfl) (by simp) ?_
    refine AllReadyH.cons (o := ⟨_, _, _, _, _, _⟩) rfl (fun K9 hK => ?_) AllReadyH.nil
    have z0 := FX.out.cell 0 _ rfl
    have z1 := FX.out.cell 1 _ rfl
    have z2 := FX.out.cell 2 _ rfl
    have f0 := FX.out.frozen 0
    have f1 := FX.out.frozen 1
    have f2 := FX.out.frozen 2
    go_simp
    have lx := BX.out
    have FS := ((FX.out.set 0 (.int .i64 0)).set 1 (.slice ta tn tc')).set 2 (.slice ha_ H.length hc')
    have BS := ((BB.out.setCell (p := ⟨v11.heap.size, 0, none⟩) lx (.int .i64 0)).setCell (p := ⟨v11.heap.size, 1, none⟩) lx (.slice ta tn tc')).setCell (p := ⟨v11.heap.size, 2, none⟩) lx (.slice ha_ H.length hc')
    have KS : BAt (((v15.setCell ⟨v11.heap.size, 0, none⟩ (.int .i64 0)).setCell ⟨v11.heap.size, 1, none⟩ (.slice ta tn tc')).setCell ⟨v11.heap.size, 2, none⟩ (.slice ha_ H.length hc')) ha_ H := bat_other FH.out (by intro b o e _; have := LF.out b o e; omega)
    refine hK.out _ _ (HCE.out _ BS) (fun hHeld => ?_)
    clear hK K9 z0 z1 z2 f0 f1 f2
    try simp only [Act.put, zA, zB, zC]
    refine wpAnyH_done (by kernel_rfl) ?_ _
    clear hHeld
    have FS := Hid.mk' FS
    have BS := Hid.mk' BS
    have KS := Hid.mk' KS
    generalize hU : (((v15.setCell ⟨v11.heap.size, 0, none⟩ (.int .i64 0)).setCell ⟨v11.heap.size, 1, none⟩ (.slice ta tn tc')).setCell ⟨v11.heap.size, 2, none⟩ (.slice ha_ H.length hc')) = U at *
    clear hU
    have v2 := FS.out.cell 2 (.slice ha_ H.length hc') rfl
    have PU := HP.out.below BS.out
    have g0 := PU.cell 0 _ rfl
    have ZR := Hid.mk' (HZ.out.below BS.out)
    have hcv := conv_bytesT hc' KS.out
    have hsm := hsum.out U
    have BZ := Hid.mk' (HB.out.trans (BS.out.mono HB.out.size))
    go_wp2_with ((with_reducible refine wpList_store_row ?_ 124 (.tmp 4) (.tmp 25) ?_ (w.heap.size + 1 + 1) #[.complex .f64 FA FB, .string (strI H)] ?_ ?_ 124 #[.complex .f64 0 0, .string ⟨#[]⟩] ?_ ?_ ?_ ?_ ?_); rfl; rfl; rfl; rfl; exact ZR.out; kernel_rfl; rfl; kernel_rfl)
    refine bodyPost_ret (v := .agg #[.complex .f64 FA FB, .string (strI H)]) ?_ ?_ ?_
    ·exact results_cell_row Tryz.results90 _ _ (w.heap.size + 1 + 1) 124 _ (0, 0) _ rfl (ZR.out.put _) Tryz.underlying124 rfl (by kernel_rfl)
    ·rfl
    exact ⟨rfl, RowA.putBelow BZ.out (by omega) _⟩
  ·go_simp
   have NA := below_new v10 (.cells #[.int .i64 0, .slice none 0 0, .slice none 0 0] 41)
   have BX : Hid (V.heap.size ≤ v10.heap.size) := Hid.mk' BB.out.size
   have FX := Hid.mk' (RowA.new v10 41 #[.int .i64 0, .slice none 0 0, .slice none 0 0])
   have SF : Hid (v10.heap.size < (v10.alloc (.cells #[.int .i64 0, .slice none 0 0, .slice none 0 0] 41)).heap.size) := Hid.mk' (by simp)

   have BP := Hid.mk' BB.out

   have BB := Hid.mk' (BB.out.trans (NA.mono BB.out.size))
   clear NA
   refine hK.out _ _ (HCE.out _ BB.out) (fun hHeld => ?_)
   clear hK K9
   try simp only [Act.put, zA, zB, zC]
   generalize hvv : (v10.alloc (.cells #[.int .i64 0, .slice none 0 0, .slice none 0 0] 41)) = v16 at *
   clear hvv
   refine wpAnyH_ready (rs := [2]) (by kernel_rfl) (by simp) ?_
   refine AllReadyH.cons (o := ⟨_, _, _, _, _, _⟩) rfl (fun K9 hK => ?_) AllReadyH.nil
   have hcv := HCV.out v16
   go_simp
   have NB : Below v16.heap.size v16 (Lib.bytesWorld v16 5 (strI h)) := Lib.bytesWorld_below v16 5 (strI h)
   have NT : BAt (Lib.bytesWorld v16 5 (strI h)) (some ⟨v16.heap.size, 0, none⟩) h := by have := byL_bat v16 (strI h); rwa [BY.out] at this
   have FX := Hid.mk' (FX.out.below NB)
   have SF : Hid (v10.heap.size < (Lib.bytesWorld v16 5 (strI h)).heap.size) := Hid.mk' (Nat.lt_of_lt_of_le SF.out NB.size)
   have BB := Hid.mk' (BB.out.trans (NB.mono BB.out.size))
   have HT := Hid.mk' NT
   clear NB NT hcv
   generalize hgcp : grownCap v16 h.length 0 5 = gcp at *
   clear hgcp
   refine hK.out _ _ (HCE.out _ BB.out) (fun hHeld => ?_)
   clear hK K9
   try simp only [Act.put, zA, zB, zC]
   generalize hbw : Lib.bytesWorld v16 5 (strI h) = v17 at *
   clear hbw
   refine tkY 3 ?_
   refine wpAnyH_ready (rs := [11]) (by kernel_rfl) (by simp) ?_
   refine AllReadyH.cons (o := ⟨_, _, _, _, _, _⟩) rfl (fun K9 hK => ?_) AllReadyH.nil
   go_simp
   refine (KB.out _ _ _ (HB.out.trans (BB.out.mono HB.out.size)) HT.out).mono ?_
   rintro e2 v18 ⟨ta, tn, tc', ha_, hc', rfl, hh, hlo, hb⟩
   have FX := Hid.mk' (FX.out.below hb)
   have LF : Hid (∀ b o, ha_ = some ⟨b, o, none⟩ → v10.heap.size < b) := Hid.mk' (fun b o e => Nat.lt_of_lt_of_le SF.out (hlo b o e))
   have BB := Hid.mk' (BB.out.trans (hb.mono BB.out.size))
   have FH := Hid.mk' hh
   clear hb hh hlo
   refine hK.out _ _ (HCE.out _ BB.out) (fun hHeld => ?_)
   clear hK K9
   try simp only [Act.put, zA, zB, zC]
   refine wpAnyH_ready (rs := [13]) (by kernel_rfl) (by simp) ?_
   refine AllReadyH.cons (o := ⟨_, _, _, _, _, _⟩) rfl (fun K9 hK => ?_) AllReadyH.nil
   have z0 := FX.out.cell 0 _ rfl
   have z1 := FX.out.cell 1 _ rfl
   have z2 := FX.out.cell 2 _ rfl
   have f0 := FX.out.frozen 0
   have f1 := FX.out.frozen 1
   have f2 := FX.out.frozen 2
   go_simp
   have lx := BX.out
   have FS := ((FX.out.set 0 (.int .i64 0)).set 1 (.slice ta tn tc')).set 2 (.slice ha_ H.length hc')
   have BS := ((BB.out.setCell (p := ⟨v10.heap.size, 0, none⟩) lx (.int .i64 0)).setCell (p := ⟨v10.heap.size, 1, none⟩) lx (.slice ta tn tc')).setCell (p := ⟨v10.heap.size, 2, none⟩) lx (.slice ha_ H.length hc')
   have KS : BAt (((v18.setCell ⟨v10.heap.size, 0, none⟩ (.int .i64 0)).setCell ⟨v10.heap.size, 1, none⟩ (.slice ta tn tc')).setCell ⟨v10.heap.size, 2, none⟩ (.slice ha_ H.length hc')) ha_ H := bat_other FH.out (by intro b o e _; have := LF.out b o e; omega)
   refine hK.out _ _ (HCE.out _ BS) (fun hHeld => ?_)
   clear hK K9 z0 z1 z2 f0 f1 f2
   try simp only [Act.put, zA, zB, zC]
   refine wpAnyH_done (by kernel_rfl) ?_ _
   clear hHeld
   have FS := Hid.mk' FS
   have BS := Hid.mk' BS
   have KS := Hid.mk' KS
   generalize hU : (((v18.setCell ⟨v10.heap.size, 0, none⟩ (.int .i64 0)).setCell ⟨v10.heap.size, 1, none⟩ (.slice ta tn tc')).setCell ⟨v10.heap.size, 2, none⟩ (.slice ha_ H.length hc')) = U at *
   clear hU
   have v2 := FS.out.cell 2 (.slice ha_ H.length hc') rfl
   have PU := HP.out.below BS.out
   have g0 := PU.cell 0 _ rfl
   have ZR := Hid.mk' (HZ.out.below BS.out)
   have hcv := conv_bytesT hc' KS.out
   have hsm := hsum.out U
   have BZ := Hid.mk' (HB.out.trans (BS.out.mono HB.out.size))
   go_wp2_with ((with_reducible refine wpList_store_row ?_ 124 (.tmp 4) (.tmp 25) ?_ (w.heap.size + 1 + 1) #[.complex .f64 FA FB, .string (strI H)] ?_ ?_ 124 #[.complex .f64 0 0, .string ⟨#[]⟩] ?_ ?_ ?_ ?_ ?_); rfl; rfl; rfl; rfl; exact ZR.out; kernel_rfl; rfl; kernel_rfl)
   refine bodyPost_ret (v := .agg #[.complex .f64 FA FB, .string (strI H)]) ?_ ?_ ?_
   ·exact results_cell_row Tryz.results90 _ _ (w.heap.size + 1 + 1) 124 _ (0, 0) _ rfl (ZR.out.put _) Tryz.underlying124 rfl (by kernel_rfl)
   ·rfl
   exact ⟨rfl, RowA.putBelow BZ.out (by omega) _⟩
 ·go_simp
  have NA := below_new V (.cells #[.int .i64 0, .slice none 0 0, .slice none 0 0] 41)
  have BX : Hid (V.heap.size ≤ V.heap.size) := Hid.mk' BB.out.size
  have FX := Hid.mk' (RowA.new V 41 #[.int .i64 0, .slice none 0 0, .slice none 0 0])
  have SF : Hid (V.heap.size < (V.alloc (.cells #[.int .i64 0, .slice none 0 0, .slice none 0 0] 41)).heap.size) := Hid.mk' (by simp)

  have BP := Hid.mk' BB.out

  have BB := Hid.mk' (BB.out.trans (NA.mono BB.out.size))
  clear NA
  refine hK.out _ _ (HCE.out _ BB.out) (fun hHeld => ?_)
  clear hK K9
  try simp only [Act.put, zA, zB, zC]
  generalize hvv : (V.alloc (.cells #[.int .i64 0, .slice none 0 0, .slice none 0 0] 41)) = v19 at *
  clear hvv
  refine wpAnyH_ready (rs := [2, 7]) (by kernel_rfl) (by simp) ?_
  refine AllReadyH.cons (o := ⟨_, _, _, _, _, _⟩) rfl (fun K9 hK => ?_) (AllReadyH.cons (o := ⟨_, _, _, _, _, _⟩) rfl (fun K9 hK => ?_) AllReadyH.nil)
  ·have hcv := HCV.out v19
   go_simp
   have NB : Below v19.heap.size v19 (Lib.bytesWorld v19 5 (strI h)) := Lib.bytesWorld_below v19 5 (strI h)
   have NT : BAt (Lib.bytesWorld v19 5 (strI h)) (some ⟨v19.heap.size, 0, none⟩) h := by have := byL_bat v19 (strI h); rwa [BY.out] at this
   have FX := Hid.mk' (FX.out.below NB)
   have SF : Hid (V.heap.size < (Lib.bytesWorld v19 5 (strI h)).heap.size) := Hid.mk' (Nat.lt_of_lt_of_le SF.out NB.size)
   have BB := Hid.mk' (BB.out.trans (NB.mono BB.out.size))
   have HT := Hid.mk' NT
   clear NB NT hcv
   generalize hgcp : grownCap v19 h.length 0 5 = gcp at *
   clear hgcp
   refine hK.out _ _ (HCE.out _ BB.out) (fun hHeld => ?_)
   clear hK K9
   try simp only [Act.put, zA, zB, zC]
   generalize hbw : Lib.bytesWorld v19 5 (strI h) = v20 at *
   clear hbw
   refine tkY 3 ?_
   refine wpAnyH_ready (rs := [7]) (by kernel_rfl) (by simp) ?_
   refine AllReadyH.cons (o := ⟨_, _, _, _, _, _⟩) rfl (fun K9 hK => ?_) AllReadyH.nil
   go_simp
   refine (KN.out _).mono ?_
   rintro e1 v21 ⟨rfl, hb⟩
   have FX := Hid.mk' (FX.out.below hb)
   have SF : Hid (V.heap.size < v21.heap.size) := Hid.mk' (Nat.lt_of_lt_of_le SF.out hb.size)
   have HT := Hid.mk' (HT.out.below hb)
   have BB := Hid.mk' (BB.out.trans (hb.mono BB.out.size))
   clear hb
   refine hK.out _ _ (HCE.out _ BB.out) (fun hHeld => ?_)
   clear hK K9
   try simp only [Act.put, zA, zB, zC]
   refine tkY 8 ?_
   refine tkY 9 ?_
   refine tkY 10 ?_
   refine wpAnyH_ready (rs := [11]) (by kernel_rfl) (by simp) ?_
   refine AllReadyH.cons (o := ⟨_, _, _, _, _, _⟩) rfl (fun K9 hK => ?_) AllReadyH.nil
   go_simp
   refine (KB.out _ _ _ (HB.out.trans (BB.out.mono HB.out.size)) HT.out).mono ?_
   rintro e2 v22 ⟨ta, tn, tc', ha_, hc', rfl, hh, hlo, hb⟩
   have FX := Hid.mk' (FX.out.below hb)
   have LF : Hid (∀ b o, ha_ = some ⟨b, o, none⟩ → V.heap.size < b) := Hid.mk' (fun b o e => Nat.lt_of_lt_of_le SF.out (hlo b o e))
   have BB := Hid.mk' (BB.out.trans (hb.mono BB.out.size))
   have FH := Hid.mk' hh
   clear hb hh hlo
   refine hK.out _ _ (HCE.out _ BB.out) (fun hHeld => ?_)
   clear hK K9
   try simp only [Act.put, zA, zB, zC]
   refine wpAnyH_ready (rs := [13]) (by kernel_rfl) (by simp) ?_
   refine AllReadyH.cons (o := ⟨_, _, _, _, _, _⟩) rfl (fun K9 hK => ?_) AllReadyH.nil
   have z0 := FX.out.cell 0 _ rfl
   have z1 := FX.out.cell 1 _ rfl
   have z2 := FX.out.cell 2 _ rfl
   have f0 := FX.out.frozen 0
   have f1 := FX.out.frozen 1
   have f2 := FX.out.frozen 2
   go_simp
   have lx := BX.out
   have FS := ((FX.out.set 0 (.int .i64 0)).set 1 (.slice ta tn tc')).set 2 (.slice ha_ H.length hc')
   have BS := ((BB.out.setCell (p := ⟨V.heap.size, 0, none⟩) lx (.int .i64 0)).setCell (p := ⟨V.heap.size, 1, none⟩) lx (.slice ta tn tc')).setCell (p := ⟨V.heap.size, 2, none⟩) lx (.slice ha_ H.length hc')
   have KS : BAt (((v22.setCell ⟨V.heap.size, 0, none⟩ (.int .i64 0)).setCell ⟨V.heap.size, 1, none⟩ (.slice ta tn tc')).setCell ⟨V.heap.size, 2, none⟩ (.slice ha_ H.length hc')) ha_ H := bat_other FH.out (by intro b o e _; have := LF.out b o e; omega)
   refine hK.out _ _ (HCE.out _ BS) (fun hHeld => ?_)
   clear hK K9 z0 z1 z2 f0 f1 f2
   try simp only [Act.put, zA, zB, zC]
   refine wpAnyH_done (by kernel_rfl) ?_ _
   clear hHeld
   have FS := Hid.mk' FS
   have BS := Hid.mk' BS
   have KS := Hid.mk' KS
   generalize hU : (((v22.setCell ⟨V.heap.size, 0, none⟩ (.int .i64 0)).setCell ⟨V.heap.size, 1, none⟩ (.slice ta tn tc')).setCell ⟨V.heap.size, 2, none⟩ (.slice ha_ H.length hc')) = U at *
   clear hU
   have v2 := FS.out.cell 2 (.slice ha_ H.length hc') rfl
   have PU := HP.out.below BS.out
   have g0 := PU.cell 0 _ rfl
   have ZR := Hid.mk' (HZ.out.below BS.out)
   have hcv := conv_bytesT hc' KS.out
   have hsm := hsum.out U
   have BZ := Hid.mk' (HB.out.trans (BS.out.mono HB.out.size))
   go_wp2_with ((with_reducible refine wpList_store_row ?_ 124 (.tmp 4) (.tmp 25) ?_ (w.heap.size + 1 + 1) #[.complex .f64 FA FB, .string (strI H)] ?_ ?_ 124 #[.complex .f64 0 0, .string ⟨#[]⟩] ?_ ?_ ?_ ?_ ?_); rfl; rfl; rfl; rfl; exact ZR.out; kernel_rfl; rfl; kernel_rfl)
   refine bodyPost_ret (v := .agg #[.complex .f64 FA FB, .string (strI H)]) ?_ ?_ ?_
   ·exact results_cell_row Tryz.results90 _ _ (w.heap.size + 1 + 1) 124 _ (0, 0) _ rfl (ZR.out.put _) Tryz.underlying124 rfl (by kernel_rfl)
   ·rfl
   exact ⟨rfl, RowA.putBelow BZ.out (by omega) _⟩
  ·go_simp
   refine (KN.out _).mono ?_
   rintro e1 v23 ⟨rfl, hb⟩
   have FX := Hid.mk' (FX.out.below hb)
   have SF : Hid (V.heap.size < v23.heap.size) := Hid.mk' (Nat.lt_of_lt_of_le SF.out hb.size)

   have BB := Hid.mk' (BB.out.trans (hb.mono BB.out.size))
   clear hb
   refine hK.out _ _ (HCE.out _ BB.out) (fun hHeld => ?_)
   clear hK K9
   try simp only [Act.put, zA, zB, zC]
   refine tkY 8 ?_
   refine tkY 9 ?_
   refine tkY 10 ?_
   refine wpAnyH_ready (rs := [2]) (by kernel_rfl) (by simp) ?_
   refine AllReadyH.cons (o := ⟨_, _, _, _, _, _⟩) rfl (fun K9 hK => ?_) AllReadyH.nil
   have hcv := HCV.out v23
   go_simp
   have NB : Below v23.heap.size v23 (Lib.bytesWorld v23 5 (strI h)) := Lib.bytesWorld_below v23 5 (strI h)
   have NT : BAt (Lib.bytesWorld v23 5 (strI h)) (some ⟨v23.heap.size, 0, none⟩) h := by have := byL_bat v23 (strI h); rwa [BY.out] at this
   have FX := Hid.mk' (FX.out.below NB)
   have SF : Hid (V.heap.size < (Lib.bytesWorld v23 5 (strI h)).heap.size) := Hid.mk' (Nat.lt_of_lt_of_le SF.out NB.size)
   have BB := Hid.mk' (BB.out.trans (NB.mono BB.out.size))
   have HT := Hid.mk' NT
   clear NB NT hcv
   generalize hgcp : grownCap v23 h.length 0 5 = gcp at *
   clear hgcp
   refine hK.out _ _ (HCE.out _ BB.out) (fun hHeld => ?_)
   clear hK K9
   try simp only [Act.put, zA, zB, zC]
   generalize hbw : Lib.bytesWorld v23 5 (strI h) = v24 at *
   clear hbw
   refine tkY 3 ?_
   refine wpAnyH_ready (rs := [11]) (by kernel_rfl) (by simp) ?_
   refine AllReadyH.cons (o := ⟨_, _, _, _, _, _⟩) rfl (fun K9 hK => ?_) AllReadyH.nil
   go_simp
   refine (KB.out _ _ _ (HB.out.trans (BB.out.mono HB.out.size)) HT.out).mono ?_
   rintro e2 v25 ⟨ta, tn, tc', ha_, hc', rfl, hh, hlo, hb⟩
   have FX := Hid.mk' (FX.out.below hb)
   have LF : Hid (∀ b o, ha_ = some ⟨b, o, none⟩ → V.heap.size < b) := Hid.mk' (fun b o e => Nat.lt_of_lt_of_le SF.out (hlo b o e))
   have BB := Hid.mk' (BB.out.trans (hb.mono BB.out.size))
   have FH := Hid.mk' hh
   clear hb hh hlo
   refine hK.out _ _ (HCE.out _ BB.out) (fun hHeld => ?_)
   clear hK K9
   try simp only [Act.put, zA, zB, zC]
   refine wpAnyH_ready (rs := [13]) (by kernel_rfl) (by simp) ?_
   refine AllReadyH.cons (o := ⟨_, _, _, _, _, _⟩) rfl (fun K9 hK => ?_) AllReadyH.nil
   have z0 := FX.out.cell 0 _ rfl
   have z1 := FX.out.cell 1 _ rfl
   have z2 := FX.out.cell 2 _ rfl
   have f0 := FX.out.frozen 0
   have f1 := FX.out.frozen 1
   have f2 := FX.out.frozen 2
   go_simp
   have lx := BX.out
   have FS := ((FX.out.set 0 (.int .i64 0)).set 1 (.slice ta tn tc')).set 2 (.slice ha_ H.length hc')
   have BS := ((BB.out.setCell (p := ⟨V.heap.size, 0, none⟩) lx (.int .i64 0)).setCell (p := ⟨V.heap.size, 1, none⟩) lx (.slice ta tn tc')).setCell (p := ⟨V.heap.size, 2, none⟩) lx (.slice ha_ H.length hc')
   have KS : BAt (((v25.setCell ⟨V.heap.size, 0, none⟩ (.int .i64 0)).setCell ⟨V.heap.size, 1, none⟩ (.slice ta tn tc')).setCell ⟨V.heap.size, 2, none⟩ (.slice ha_ H.length hc')) ha_ H := bat_other FH.out (by intro b o e _; have := LF.out b o e; omega)
   refine hK.out _ _ (HCE.out _ BS) (fun hHeld => ?_)
   clear hK K9 z0 z1 z2 f0 f1 f2
   try simp only [Act.put, zA, zB, zC]
   refine wpAnyH_done (by kernel_rfl) ?_ _
   clear hHeld
   have FS := Hid.mk' FS
   have BS := Hid.mk' BS
   have KS := Hid.mk' KS
   generalize hU : (((v25.setCell ⟨V.heap.size, 0, none⟩ (.int .i64 0)).setCell ⟨V.heap.size, 1, none⟩ (.slice ta tn tc')).setCell ⟨V.heap.size, 2, none⟩ (.slice ha_ H.length hc')) = U at *
   clear hU
   have v2 := FS.out.cell 2 (.slice ha_ H.length hc') rfl
   have PU := HP.out.below BS.out
   have g0 := PU.cell 0 _ rfl
   have ZR := Hid.mk' (HZ.out.below BS.out)
   have hcv := conv_bytesT hc' KS.out
   have hsm := hsum.out U
   have BZ := Hid.mk' (HB.out.trans (BS.out.mono HB.out.size))
   go_wp2_with ((with_reducible refine wpList_store_row ?_ 124 (.tmp 4) (.tmp 25) ?_ (w.heap.size + 1 + 1) #[.complex .f64 FA FB, .string (strI H)] ?_ ?_ 124 #[.complex .f64 0 0, .string ⟨#[]⟩] ?_ ?_ ?_ ?_ ?_); rfl; rfl; rfl; rfl; exact ZR.out; kernel_rfl; rfl; kernel_rfl)
   refine bodyPost_ret (v := .agg #[.complex .f64 FA FB, .string (strI H)]) ?_ ?_ ?_
   ·exact results_cell_row Tryz.results90 _ _ (w.heap.size + 1 + 1) 124 _ (0, 0) _ rfl (ZR.out.put _) Tryz.underlying124 rfl (by kernel_rfl)
   ·rfl
   exact ⟨rfl, RowA.putBelow BZ.out (by omega) _⟩

end Go.Proofs.YtlimgcmhidooaaaGreatDoor
