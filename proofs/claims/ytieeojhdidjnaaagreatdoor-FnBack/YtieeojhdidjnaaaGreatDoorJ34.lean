/- The first reading behind an edit: the program's side. -/
import Derived.Test.YtieeojhdidjnaaaGreatDoorJ25
import Derived.Test.YtieeojhdidjnaaaGreatDoorJ33
set_option maxHeartbeats 3200000
set_option maxRecDepth 100000
set_option linter.unusedVariables false
set_option linter.unusedSimpArgs false
namespace Go.Proofs.YtieeojhdidjnaaaGreatDoor
open Go.RowKit
def edX (D s J gd gc : Nat) (tv hv tx : Value) (Q Tn : Nat) (kv : Value) (x y : Nat) : Array Value := #[.slice (some ⟨gd, 0, none⟩) D D, .int .i64 (s : Int), tv, hv, .slice (some ⟨gc, 0, none⟩) J J, tx, .int .i64 (Q : Int), .int .i64 (Tn : Int), kv, .complex .f64 (floatOfInt .f64 (x : Int)) (floatOfInt .f64 (y : Int))]
theorem mid_len {l : List Int} {f z : Nat} (h : f + z ≤ l.length) : ((l.drop f).take z).length = z := by
 rw [List.length_take, List.length_drop]; omega
theorem CAt.mid {w : World} {b o f z : Nat} {l : List Int} (h : CAt w b o l) (hf : f + z ≤ l.length) : BAt w (some ⟨b, o + f, none⟩) ((l.drop f).take z) := (h.sub hf).at
theorem byt_mid {l : List Int} (h : Byt l) (f z : Nat) : Byt ((l.drop f).take z) := Byt.of (fun x hx => h.mem x (List.mem_of_mem_drop (List.mem_of_mem_take hx)))
theorem bat_other {w : World} {a : Option Addr} {l : List Int} {B : Nat} {i1 i2 i3 : Nat} {v1 v2 v3 : Value} (h : BAt w a l) (hb : ∀ b o, a = some ⟨b, o, none⟩ → l ≠ [] → b ≠ B) : BAt (((w.setCell ⟨B, i1, none⟩ v1).setCell ⟨B, i2, none⟩ v2).setCell ⟨B, i3, none⟩ v3) a l := by
 rcases h with h | ⟨b, o, e, hs, hc⟩
 ·exact .inl h
 ·by_cases hl : l = []
  ·exact .inl hl
  have hne := hb b o e hl
  refine .inr ⟨b, o, e, by simp [World.setCell]; exact hs, fun k hk => ?_⟩
  have e2 : (((w.setCell ⟨B, i1, none⟩ v1).setCell ⟨B, i2, none⟩ v2).setCell ⟨B, i3, none⟩ v3).heap[b]? = w.heap[b]? := by
   rw [Deep.blk_setCell_other _ _ _ _ (by show b ≠ B; exact hne), Deep.blk_setCell_other _ _ _ _ (by show b ≠ B; exact hne), Deep.blk_setCell_other _ _ _ _ (by show b ≠ B; exact hne)]
  rw [← hc k hk]
  unfold World.cell?
  rw [e2]
theorem twoE (w : World) (c1 c2 : Array Value) :
  Below w.heap.size w ((w.alloc (.cells c1 86)).alloc (.cells c2 124)) ∧
  RowA ((w.alloc (.cells c1 86)).alloc (.cells c2 124)) w.heap.size 86 c1 ∧
  RowA ((w.alloc (.cells c1 86)).alloc (.cells c2 124)) (w.heap.size + 1) 124 c2 := by
 have a1 := RowA.new w 86 c1
 have a2 := RowA.new (w.alloc (.cells c1 86)) 124 c2
 have b1 := below_new (w.alloc (.cells c1 86)) (.cells c2 124)
 have e1 : (w.alloc (.cells c1 86)).heap.size = w.heap.size + 1 := by simp
 rw [e1] at a2
 exact ⟨(below_new w _).alloc (by omega) _, a1.below b1, a2⟩
theorem editFirstN_any (tp : TypeId) (pv : Value) (D s J gd gc : Nat) (tv hv : Value) (Tn : Nat) (ka : Option Addr) (kc : Nat) (h0 : List Int) (y : Nat) (w : World) (hE : Env w.heap.size tp pv w) (hk : BAt w ka h0) (hgd : GoodH h0) (hub : Byt h0)  :
  Calls Tryz.prog 87 #[.agg (edX D s J gd gc tv hv (.slice none 0 0) 0 Tn (.slice ka h0.length kc) 0 y)] w fun e w' => e = .returned (.agg #[.complex .f64 (floatOfInt .f64 0) (floatOfInt .f64 (y : Int)), .string (strI (allX [] h0 []).2)]) ∧ Below w.heap.size w w' := by
 obtain ⟨H, hH⟩ : ∃ H, (allX [] h0 []).2 = H := ⟨_, rfl⟩
 rw [hH]
 have HHE := Hid.mk' hH
 clear hH
 obtain ⟨B0, R0, Z0⟩ := twoE w (edX D s J gd gc tv hv (.slice none 0 0) 0 Tn (.slice ka h0.length kc) 0 y) #[.complex .f64 0 0, .string ⟨#[]⟩]
 have HB := Hid.mk' B0
 have HR := Hid.mk' R0
 have HZ := Hid.mk' Z0
 have HE := Hid.mk' hE
 have HK := Hid.mk' hk
 have HG := Hid.mk' hgd
 have HU := Hid.mk' hub
 clear B0 R0 Z0 hE hk hgd hub
 generalize hW : (w.alloc (.cells (edX D s J gd gc tv hv (.slice none 0 0) 0 Tn (.slice ka h0.length kc) 0 y) 86)).alloc (.cells #[.complex .f64 0 0, .string ⟨#[]⟩] 124) = W at *
 have x5 := HR.out.cell 5 (.slice none 0 0) rfl
 have x6 := HR.out.cell 6 (.int .i64 0) rfl
 have x8 := HR.out.cell 8 (.slice ka h0.length kc) rfl
 have x9 := HR.out.cell 9 (.complex .f64 (floatOfInt .f64 0) (floatOfInt .f64 (y : Int))) rfl
 go_enter Tryz.func87, Tryz.ntmps87
 go_wp2_with (first | ((with_reducible refine wpList_store_row ?_ 124 (.tmp 3) (.tmp 7) ?_ W.heap.size #[.complex .f64 (floatOfInt .f64 0) (floatOfInt .f64 (y : Int)), .string ⟨#[]⟩] ?_ ?_ 124 #[.complex .f64 0 0, .string ⟨#[]⟩] ?_ ?_ ?_ ?_ ?_); rfl; rfl; rfl; rfl; exact RowA.new _ _ _; kernel_rfl; rfl; kernel_rfl; rw [alloc_setRow]) | fail)
 clear hW x5 x6 x8 x9
 have GE0 := HZ.out.lt
 have NG := below_new W (.cells #[.complex .f64 (floatOfInt .f64 0) (floatOfInt .f64 (y : Int)), .string ⟨#[]⟩] 124)
 have HH := Hid.mk' (RowA.new W 124 #[.complex .f64 (floatOfInt .f64 0) (floatOfInt .f64 (y : Int)), .string ⟨#[]⟩])
 have HR := Hid.mk' (HR.out.below NG)
 have HZ := Hid.mk' (HZ.out.below NG)
 have HB := Hid.mk' (HB.out.trans (NG.mono HB.out.size))
 clear NG
 generalize hV : W.alloc (.cells #[.complex .f64 (floatOfInt .f64 0) (floatOfInt .f64 (y : Int)), .string ⟨#[]⟩] 124) = V at *
 have GE : Hid (w.heap.size + 1 < W.heap.size) := Hid.mk' GE0
 obtain ⟨g, hg⟩ : ∃ g, W.heap.size = g := ⟨_, rfl⟩
 rw [hg] at HH GE ⊢
 clear hV hg GE0
 have HCE : Hid (∀ v, Below V.heap.size V v → (fun v => v.cell? ⟨w.heap.size, 5, none⟩ = some (.slice none 0 0) ∧ v.cell? ⟨w.heap.size, 6, none⟩ = some (.int .i64 0) ∧ v.cell? ⟨w.heap.size, 8, none⟩ = some (.slice ka h0.length kc) ∧ v.cell? ⟨g, 0, none⟩ = some (.complex .f64 (floatOfInt .f64 0) (floatOfInt .f64 (y : Int))) ∧ v.cell? ⟨g, 1, none⟩ = some (.string ⟨#[]⟩)) v) := Hid.mk' (fun v hb => ⟨(HR.out.below hb).cell 5 _ rfl, (HR.out.below hb).cell 6 _ rfl, (HR.out.below hb).cell 8 _ rfl, (HH.out.below hb).cell 0 _ rfl, (HH.out.below hb).cell 1 _ rfl⟩)
 have KN : Hid (∀ v, Calls Tryz.prog 88 #[.agg #[.complex .f64 (floatOfInt .f64 0) (floatOfInt .f64 (y : Int)), .string ⟨#[]⟩]] v fun e w' => e = .returned (.int .i64 0) ∧ Below v.heap.size v w') := Hid.mk' (fun v => now_any _ _ _ _ v (fl_int 0 (by omega)))
 have KA : Hid (∀ v, Below V.heap.size V v → Calls Tryz.prog 15 #[.agg #[.slice ka h0.length kc], (.slice none 0 0)] v fun e w' => FbP H v e w') := Hid.mk' (fun v hv => by
  have hb := HB.out.trans (hv.mono HB.out.size)
  have K := feedFrom_any tp pv h0 ka kc [] none 0 v ((HE.out.keep hb).up hb.size (Nat.le_refl _)) (HK.out.below hb) HG.out HU.out (.inl rfl) (fun k hk => absurd hk (Nat.not_lt_zero _)) (by simp)
  exact K.mono fun e w' h => by have h2 := h.fb; rw [HHE.out] at h2; exact h2)
 refine wp_region_held_drew (S := (fun v => v.cell? ⟨w.heap.size, 5, none⟩ = some (.slice none 0 0) ∧ v.cell? ⟨w.heap.size, 6, none⟩ = some (.int .i64 0) ∧ v.cell? ⟨w.heap.size, 8, none⟩ = some (.slice ka h0.length kc) ∧ v.cell? ⟨g, 0, none⟩ = some (.complex .f64 (floatOfInt .f64 0) (floatOfInt .f64 (y : Int))) ∧ v.cell? ⟨g, 1, none⟩ = some (.string ⟨#[]⟩))) (by kernel_rfl) (HCE.out _ (Below.refl _ _).drew) (fun hHeld => ?_)
 refine tkY 0 ?_
 refine tkY 1 ?_
 refine tkY 2 ?_
 refine tkY 3 ?_
 refine tkY 4 ?_
 refine tkY 5 ?_
 refine tkY 6 ?_
 refine tkY 7 ?_
 refine tkY 8 ?_
 refine tkY 9 ?_
 refine wpAnyH_ready (rs := [10, 13]) (by kernel_rfl) (by simp) ?_
 refine AllReadyH.cons (o := ⟨_, _, _, _, _, _⟩) rfl (fun K9 hK => ?_) (AllReadyH.cons (o := ⟨_, _, _, _, _, _⟩) rfl (fun K9 hK => ?_) AllReadyH.nil)
 ·go_simp
  refine (KN.out _).mono ?_
  rintro e1 w1 ⟨rfl, hb⟩
  replace hb := undrew hb
  have BB := Hid.mk' (hb)

  clear hb
  refine hK.out _ _ (HCE.out _ BB.out) (fun hHeld => ?_)
  clear hK K9
  try simp only [Act.put, zA, zB, zC]
  refine tkY 11 ?_
  refine wpAnyH_ready (rs := [12, 13]) (by kernel_rfl) (by simp) ?_
  refine AllReadyH.cons (o := ⟨_, _, _, _, _, _⟩) rfl (fun K9 hK => ?_) (AllReadyH.cons (o := ⟨_, _, _, _, _, _⟩) rfl (fun K9 hK => ?_) AllReadyH.nil)
  ·go_simp
   refine (KA.out _ BB.out).mono ?_
   rintro e2 w2 ⟨ta, tn, tc', ha, hc', rfl, hh, hlo, hb⟩

   have BB := Hid.mk' (BB.out.trans (hb.mono BB.out.size))
   have FH := Hid.mk' hh
   have FL := Hid.mk' hlo
   have FB : Hid (∀ b o, ha = some ⟨b, o, none⟩ → H ≠ [] → b < w2.heap.size) := Hid.mk' (fun b o e hn => by rcases hh with h | ⟨b', o', e', hs', _⟩; exact absurd h hn; rw [e] at e'; cases e'; exact hs')
   clear hb hh hlo
   refine hK.out _ _ (HCE.out _ BB.out) (fun hHeld => ?_)
   clear hK K9
   try simp only [Act.put, zA, zB, zC]
   refine wpAnyH_ready (rs := [13]) (by kernel_rfl) (by simp) ?_
   refine AllReadyH.cons (o := ⟨_, _, _, _, _, _⟩) rfl (fun K9 hK => ?_) AllReadyH.nil
   go_simp
   have BP := Hid.mk' BB.out
   have FP := Hid.mk' FH.out
   have NA := below_new w2 (.cells #[.int .i64 0, .slice none 0 0, .slice none 0 0] 41)
   have BX : Hid (V.heap.size ≤ w2.heap.size) := Hid.mk' BB.out.size
   have FX := Hid.mk' (RowA.new w2 41 #[.int .i64 0, .slice none 0 0, .slice none 0 0])
   have FH := Hid.mk' (FH.out.below NA)
   have BB := Hid.mk' (BB.out.trans (NA.mono BB.out.size))
   clear NA
   refine hK.out _ _ (HCE.out _ BB.out) (fun hHeld => ?_)
   clear hK K9
   try simp only [Act.put, zA, zB, zC]
   refine wpAnyH_ready (rs := [14]) (by kernel_rfl) (by simp) ?_
   refine AllReadyH.cons (o := ⟨_, _, _, _, _, _⟩) rfl (fun K9 hK => ?_) AllReadyH.nil
   have z0 := FX.out.cell 0 _ rfl
   have z1 := FX.out.cell 1 _ rfl
   have z2 := FX.out.cell 2 _ rfl
   have f0 := FX.out.frozen 0
   have f1 := FX.out.frozen 1
   have f2 := FX.out.frozen 2
   go_simp
   have FS := RowA.new w2 41 #[.int .i64 0, .slice ta tn tc', .slice ha H.length hc']
   have BS := BP.out.trans ((below_new w2 (.cells #[.int .i64 0, .slice ta tn tc', .slice ha H.length hc'] 41)).mono BP.out.size)
   have KS : BAt (w2.alloc (.cells #[.int .i64 0, .slice ta tn tc', .slice ha H.length hc'] 41)) ha H := FP.out.below (below_new w2 _)
   refine hK.out _ _ (HCE.out _ BS) (fun hHeld => ?_)
   clear hK K9 z0 z1 z2 f0 f1 f2
   try simp only [Act.put, zA, zB, zC]
   refine wpAnyH_done (by kernel_rfl) ?_ _
   clear hHeld
   have FS := Hid.mk' FS
   have BS := Hid.mk' BS
   have KS := Hid.mk' KS
   generalize hU : (w2.alloc (.cells #[.int .i64 0, .slice ta tn tc', .slice ha H.length hc'] 41)) = U at *
   clear hU
   have v2 := FS.out.cell 2 (.slice ha H.length hc') rfl
   have HHU := HH.out.below BS.out
   have g0 := HHU.cell 0 _ rfl
   have g1 := HHU.cell 1 _ rfl
   have q0 := HHU.frozen 0
   have q1 := HHU.frozen 1
   have ZU := HZ.out.below BS.out
   have r0 := ZU.cell 0 _ rfl
   have r1 := ZU.cell 1 _ rfl
   have p0 := ZU.frozen 0
   have p1 := ZU.frozen 1
   have hcv := conv_bytesT hc' KS.out
   have hne : g ≠ w.heap.size + 1 := by have := GE.out; omega
   have hne2 : w.heap.size + 1 ≠ g := by have := GE.out; omega
   have BZ := Hid.mk' (HB.out.trans (BS.out.mono HB.out.size))
   have ZR := Hid.mk' (ZU.other (a := ⟨g, 1, none⟩) hne2 (.string (strI H)))
   go_wp2_with ((with_reducible refine wpList_store_row ?_ 124 (.tmp 2) (.tmp 26) ?_ (w.heap.size + 1) #[.complex .f64 (floatOfInt .f64 0) (floatOfInt .f64 (y : Int)), .string (strI H)] ?_ ?_ 124 #[.complex .f64 0 0, .string ⟨#[]⟩] ?_ ?_ ?_ ?_ ?_); rfl; rfl; rfl; rfl; exact ZR.out; kernel_rfl; rfl; kernel_rfl)
   refine bodyPost_ret (v := .agg #[.complex .f64 (floatOfInt .f64 0) (floatOfInt .f64 (y : Int)), .string (strI H)]) ?_ ?_ ?_
   ·exact results_cell_row Tryz.results87 _ _ (w.heap.size + 1) 124 _ (0, 0) _ rfl (ZR.out.put _) Tryz.underlying124 rfl (by kernel_rfl)
   ·rfl
   have ge := GE.out
   exact ⟨rfl, RowA.putBelow (BZ.out.setCell (p := ⟨g, 1, none⟩) (by show w.heap.size ≤ g; omega) _) (by omega) _⟩
  ·go_simp
   have NA := below_new w1 (.cells #[.int .i64 0, .slice none 0 0, .slice none 0 0] 41)
   have BX : Hid (V.heap.size ≤ w1.heap.size) := Hid.mk' BB.out.size
   have FX := Hid.mk' (RowA.new w1 41 #[.int .i64 0, .slice none 0 0, .slice none 0 0])

   have BB := Hid.mk' (BB.out.trans (NA.mono BB.out.size))
   clear NA
   refine hK.out _ _ (HCE.out _ BB.out) (fun hHeld => ?_)
   clear hK K9
   try simp only [Act.put, zA, zB, zC]
   refine wpAnyH_ready (rs := [12]) (by kernel_rfl) (by simp) ?_
   refine AllReadyH.cons (o := ⟨_, _, _, _, _, _⟩) rfl (fun K9 hK => ?_) AllReadyH.nil
   go_simp
   refine (KA.out _ BB.out).mono ?_
   rintro e2 w2 ⟨ta, tn, tc', ha, hc', rfl, hh, hlo, hb⟩
   have FX := Hid.mk' (FX.out.below hb)
   have BB := Hid.mk' (BB.out.trans (hb.mono BB.out.size))
   have FH := Hid.mk' hh
   have FL := Hid.mk' hlo
   have FB : Hid (∀ b o, ha = some ⟨b, o, none⟩ → H ≠ [] → b < w2.heap.size) := Hid.mk' (fun b o e hn => by rcases hh with h | ⟨b', o', e', hs', _⟩; exact absurd h hn; rw [e] at e'; cases e'; exact hs')
   clear hb hh hlo
   refine hK.out _ _ (HCE.out _ BB.out) (fun hHeld => ?_)
   clear hK K9
   try simp only [Act.put, zA, zB, zC]
   refine wpAnyH_ready (rs := [14]) (by kernel_rfl) (by simp) ?_
   refine AllReadyH.cons (o := ⟨_, _, _, _, _, _⟩) rfl (fun K9 hK => ?_) AllReadyH.nil
   have z0 := FX.out.cell 0 _ rfl
   have z1 := FX.out.cell 1 _ rfl
   have z2 := FX.out.cell 2 _ rfl
   have f0 := FX.out.frozen 0
   have f1 := FX.out.frozen 1
   have f2 := FX.out.frozen 2
   go_simp
   have lx := BX.out
   have FS := ((FX.out.set 0 (.int .i64 0)).set 1 (.slice ta tn tc')).set 2 (.slice ha H.length hc')
   have BS := ((BB.out.setCell (p := ⟨w1.heap.size, 0, none⟩) lx (.int .i64 0)).setCell (p := ⟨w1.heap.size, 1, none⟩) lx (.slice ta tn tc')).setCell (p := ⟨w1.heap.size, 2, none⟩) lx (.slice ha H.length hc')
   have KS : BAt (((w2.setCell ⟨w1.heap.size, 0, none⟩ (.int .i64 0)).setCell ⟨w1.heap.size, 1, none⟩ (.slice ta tn tc')).setCell ⟨w1.heap.size, 2, none⟩ (.slice ha H.length hc')) ha H := bat_other FH.out (by intro b o e _; have h7 := FL.out b o e; have h8 : w1.heap.size < (w1.alloc (.cells #[.int .i64 0, .slice none 0 0, .slice none 0 0] 41)).heap.size := (by simp); omega)
   refine hK.out _ _ (HCE.out _ BS) (fun hHeld => ?_)
   clear hK K9 z0 z1 z2 f0 f1 f2
   try simp only [Act.put, zA, zB, zC]
   refine wpAnyH_done (by kernel_rfl) ?_ _
   clear hHeld
   have FS := Hid.mk' FS
   have BS := Hid.mk' BS
   have KS := Hid.mk' KS
   generalize hU : (((w2.setCell ⟨w1.heap.size, 0, none⟩ (.int .i64 0)).setCell ⟨w1.heap.size, 1, none⟩ (.slice ta tn tc')).setCell ⟨w1.heap.size, 2, none⟩ (.slice ha H.length hc')) = U at *
   clear hU
   have v2 := FS.out.cell 2 (.slice ha H.length hc') rfl
   have HHU := HH.out.below BS.out
   have g0 := HHU.cell 0 _ rfl
   have g1 := HHU.cell 1 _ rfl
   have q0 := HHU.frozen 0
   have q1 := HHU.frozen 1
   have ZU := HZ.out.below BS.out
   have r0 := ZU.cell 0 _ rfl
   have r1 := ZU.cell 1 _ rfl
   have p0 := ZU.frozen 0
   have p1 := ZU.frozen 1
   have hcv := conv_bytesT hc' KS.out
   have hne : g ≠ w.heap.size + 1 := by have := GE.out; omega
   have hne2 : w.heap.size + 1 ≠ g := by have := GE.out; omega
   have BZ := Hid.mk' (HB.out.trans (BS.out.mono HB.out.size))
   have ZR := Hid.mk' (ZU.other (a := ⟨g, 1, none⟩) hne2 (.string (strI H)))
   go_wp2_with ((with_reducible refine wpList_store_row ?_ 124 (.tmp 2) (.tmp 26) ?_ (w.heap.size + 1) #[.complex .f64 (floatOfInt .f64 0) (floatOfInt .f64 (y : Int)), .string (strI H)] ?_ ?_ 124 #[.complex .f64 0 0, .string ⟨#[]⟩] ?_ ?_ ?_ ?_ ?_); rfl; rfl; rfl; rfl; exact ZR.out; kernel_rfl; rfl; kernel_rfl)
   refine bodyPost_ret (v := .agg #[.complex .f64 (floatOfInt .f64 0) (floatOfInt .f64 (y : Int)), .string (strI H)]) ?_ ?_ ?_
   ·exact results_cell_row Tryz.results87 _ _ (w.heap.size + 1) 124 _ (0, 0) _ rfl (ZR.out.put _) Tryz.underlying124 rfl (by kernel_rfl)
   ·rfl
   have ge := GE.out
   exact ⟨rfl, RowA.putBelow (BZ.out.setCell (p := ⟨g, 1, none⟩) (by show w.heap.size ≤ g; omega) _) (by omega) _⟩
 ·go_simp
  have NA := below_new V (.cells #[.int .i64 0, .slice none 0 0, .slice none 0 0] 41)
  have BX : Hid (V.heap.size ≤ V.heap.size) := Hid.mk' (Nat.le_refl _)
  have FX := Hid.mk' (RowA.new V 41 #[.int .i64 0, .slice none 0 0, .slice none 0 0])

  have BB := Hid.mk' (NA)
  clear NA
  refine hK.out _ _ (HCE.out _ BB.out.drew) (fun hHeld => ?_)
  clear hK K9
  try simp only [Act.put, zA, zB, zC]
  refine wpAnyH_ready (rs := [10]) (by kernel_rfl) (by simp) ?_
  refine AllReadyH.cons (o := ⟨_, _, _, _, _, _⟩) rfl (fun K9 hK => ?_) AllReadyH.nil
  go_simp
  have SV1 : Hid (V.heap.size < (V.alloc (.cells #[.int .i64 0, .slice none 0 0, .slice none 0 0] 41)).heap.size) := Hid.mk' (by simp)
  refine (KN.out _).mono ?_
  rintro e1 w1 ⟨rfl, hb⟩
  replace hb := undrew hb

  have SV1 : Hid (V.heap.size < w1.heap.size) := Hid.mk' (Nat.lt_of_lt_of_le SV1.out hb.size)
  have BB := Hid.mk' (BB.out.trans (hb.mono BB.out.size))
  have FX := Hid.mk' (FX.out.below hb)
  clear hb
  refine hK.out _ _ (HCE.out _ BB.out) (fun hHeld => ?_)
  clear hK K9
  try simp only [Act.put, zA, zB, zC]
  refine tkY 11 ?_
  refine wpAnyH_ready (rs := [12]) (by kernel_rfl) (by simp) ?_
  refine AllReadyH.cons (o := ⟨_, _, _, _, _, _⟩) rfl (fun K9 hK => ?_) AllReadyH.nil
  go_simp
  refine (KA.out _ BB.out).mono ?_
  rintro e2 w2 ⟨ta, tn, tc', ha, hc', rfl, hh, hlo, hb⟩
  have FX := Hid.mk' (FX.out.below hb)
  have BB := Hid.mk' (BB.out.trans (hb.mono BB.out.size))
  have FH := Hid.mk' hh
  have FL := Hid.mk' hlo
  have FB : Hid (∀ b o, ha = some ⟨b, o, none⟩ → H ≠ [] → b < w2.heap.size) := Hid.mk' (fun b o e hn => by rcases hh with h | ⟨b', o', e', hs', _⟩; exact absurd h hn; rw [e] at e'; cases e'; exact hs')
  clear hb hh hlo
  refine hK.out _ _ (HCE.out _ BB.out) (fun hHeld => ?_)
  clear hK K9
  try simp only [Act.put, zA, zB, zC]
  refine wpAnyH_ready (rs := [14]) (by kernel_rfl) (by simp) ?_
  refine AllReadyH.cons (o := ⟨_, _, _, _, _, _⟩) rfl (fun K9 hK => ?_) AllReadyH.nil
  have z0 := FX.out.cell 0 _ rfl
  have z1 := FX.out.cell 1 _ rfl
  have z2 := FX.out.cell 2 _ rfl
  have f0 := FX.out.frozen 0
  have f1 := FX.out.frozen 1
  have f2 := FX.out.frozen 2
  go_simp
  have lx := BX.out
  have FS := ((FX.out.set 0 (.int .i64 0)).set 1 (.slice ta tn tc')).set 2 (.slice ha H.length hc')
  have BS := ((BB.out.setCell (p := ⟨V.heap.size, 0, none⟩) lx (.int .i64 0)).setCell (p := ⟨V.heap.size, 1, none⟩) lx (.slice ta tn tc')).setCell (p := ⟨V.heap.size, 2, none⟩) lx (.slice ha H.length hc')
  have KS : BAt (((w2.setCell ⟨V.heap.size, 0, none⟩ (.int .i64 0)).setCell ⟨V.heap.size, 1, none⟩ (.slice ta tn tc')).setCell ⟨V.heap.size, 2, none⟩ (.slice ha H.length hc')) ha H := bat_other FH.out (by intro b o e _; have h7 := FL.out b o e; have h8 := SV1.out; omega)
  refine hK.out _ _ (HCE.out _ BS) (fun hHeld => ?_)
  clear hK K9 z0 z1 z2 f0 f1 f2
  try simp only [Act.put, zA, zB, zC]
  refine wpAnyH_done (by kernel_rfl) ?_ _
  clear hHeld
  have FS := Hid.mk' FS
  have BS := Hid.mk' BS
  have KS := Hid.mk' KS
  generalize hU : (((w2.setCell ⟨V.heap.size, 0, none⟩ (.int .i64 0)).setCell ⟨V.heap.size, 1, none⟩ (.slice ta tn tc')).setCell ⟨V.heap.size, 2, none⟩ (.slice ha H.length hc')) = U at *
  clear hU
  have v2 := FS.out.cell 2 (.slice ha H.length hc') rfl
  have HHU := HH.out.below BS.out
  have g0 := HHU.cell 0 _ rfl
  have g1 := HHU.cell 1 _ rfl
  have q0 := HHU.frozen 0
  have q1 := HHU.frozen 1
  have ZU := HZ.out.below BS.out
  have r0 := ZU.cell 0 _ rfl
  have r1 := ZU.cell 1 _ rfl
  have p0 := ZU.frozen 0
  have p1 := ZU.frozen 1
  have hcv := conv_bytesT hc' KS.out
  have hne : g ≠ w.heap.size + 1 := by have := GE.out; omega
  have hne2 : w.heap.size + 1 ≠ g := by have := GE.out; omega
  have BZ := Hid.mk' (HB.out.trans (BS.out.mono HB.out.size))
  have ZR := Hid.mk' (ZU.other (a := ⟨g, 1, none⟩) hne2 (.string (strI H)))
  go_wp2_with ((with_reducible refine wpList_store_row ?_ 124 (.tmp 2) (.tmp 26) ?_ (w.heap.size + 1) #[.complex .f64 (floatOfInt .f64 0) (floatOfInt .f64 (y : Int)), .string (strI H)] ?_ ?_ 124 #[.complex .f64 0 0, .string ⟨#[]⟩] ?_ ?_ ?_ ?_ ?_); rfl; rfl; rfl; rfl; exact ZR.out; kernel_rfl; rfl; kernel_rfl)
  refine bodyPost_ret (v := .agg #[.complex .f64 (floatOfInt .f64 0) (floatOfInt .f64 (y : Int)), .string (strI H)]) ?_ ?_ ?_
  ·exact results_cell_row Tryz.results87 _ _ (w.heap.size + 1) 124 _ (0, 0) _ rfl (ZR.out.put _) Tryz.underlying124 rfl (by kernel_rfl)
  ·rfl
  have ge := GE.out
  exact ⟨rfl, RowA.putBelow (BZ.out.setCell (p := ⟨g, 1, none⟩) (by show w.heap.size ≤ g; omega) _) (by omega) _⟩
theorem editFirstD_any (tp : TypeId) (pv : Value) (D s J gd gc : Nat) (tv hv : Value) (tb tc : Nat) (T : List Int) (Q Tn : Nat) (ka : Option Addr) (kc : Nat) (h0 : List Int) (x y : Nat) (w : World) (hE : Env w.heap.size tp pv w) (hk : BAt w ka h0) (hgd : GoodH h0) (hub : Byt h0) (hx : x ≤ 240) (ht : CAt w tb 0 T) (htc : T.length ≤ tc) (htb : Byt T) (hTl : T.length ≤ 240) (hQx : Q ≤ x) (hxT : x ≤ T.length) (hcq : ¬ tc = Q) :
  Calls Tryz.prog 87 #[.agg (edX D s J gd gc tv hv (.slice (some ⟨tb, 0, none⟩) T.length tc) Q Tn (.slice ka h0.length kc) x y)] w fun e w' => e = .returned (.agg #[.complex .f64 (floatOfInt .f64 (x : Int)) (floatOfInt .f64 (y : Int)), .string (strI (allX [] h0 ((T.drop Q).take (x - Q))).2)]) ∧ Below w.heap.size w w' := by
 obtain ⟨H, hH⟩ : ∃ H, (allX [] h0 ((T.drop Q).take (x - Q))).2 = H := ⟨_, rfl⟩
 rw [hH]
 have HHE := Hid.mk' hH
 clear hH
 obtain ⟨B0, R0, Z0⟩ := twoE w (edX D s J gd gc tv hv (.slice (some ⟨tb, 0, none⟩) T.length tc) Q Tn (.slice ka h0.length kc) x y) #[.complex .f64 0 0, .string ⟨#[]⟩]
 have HB := Hid.mk' B0
 have HR := Hid.mk' R0
 have HZ := Hid.mk' Z0
 have HE := Hid.mk' hE
 have HK := Hid.mk' hk
 have HG := Hid.mk' hgd
 have HU := Hid.mk' hub
 have HC := Hid.mk' ht
 have HTB := Hid.mk' htb
 clear ht htb
 clear B0 R0 Z0 hE hk hgd hub
 generalize hW : (w.alloc (.cells (edX D s J gd gc tv hv (.slice (some ⟨tb, 0, none⟩) T.length tc) Q Tn (.slice ka h0.length kc) x y) 86)).alloc (.cells #[.complex .f64 0 0, .string ⟨#[]⟩] 124) = W at *
 have x5 := HR.out.cell 5 (.slice (some ⟨tb, 0, none⟩) T.length tc) rfl
 have x6 := HR.out.cell 6 (.int .i64 (Q : Int)) rfl
 have x8 := HR.out.cell 8 (.slice ka h0.length kc) rfl
 have x9 := HR.out.cell 9 (.complex .f64 (floatOfInt .f64 (x : Int)) (floatOfInt .f64 (y : Int))) rfl
 have i1 : (0 : Int) ≤ (Q : Int) := by omega
 have i2 : (Q : Int) ≤ (x : Int) := by omega
 have i3 : (x : Int) ≤ (tc : Int) := by omega
 have L1 : Hid (((T.drop Q).take (x - Q)).length = x - Q) := Hid.mk' (mid_len (by omega))
 have HY : Hid (Byt ((T.drop Q).take (x - Q))) := Hid.mk' (byt_mid HTB.out _ _)
 have DB : Hid (∀ v, Below w.heap.size w v → BAt v (some ⟨tb, Q, none⟩) ((T.drop Q).take (x - Q))) := Hid.mk' (fun v hv => by have := (HC.out.below hv).mid (f := Q) (z := x - Q) (by omega); rwa [Nat.zero_add] at this)
 go_enter Tryz.func87, Tryz.ntmps87
 go_wp2_with (first | ((with_reducible refine wpList_store_row ?_ 124 (.tmp 3) (.tmp 7) ?_ W.heap.size #[.complex .f64 (floatOfInt .f64 (x : Int)) (floatOfInt .f64 (y : Int)), .string ⟨#[]⟩] ?_ ?_ 124 #[.complex .f64 0 0, .string ⟨#[]⟩] ?_ ?_ ?_ ?_ ?_); rfl; rfl; rfl; rfl; exact RowA.new _ _ _; kernel_rfl; rfl; kernel_rfl; rw [alloc_setRow]) | fail)
 clear hW x5 x6 x8 x9
 have GE0 := HZ.out.lt
 have NG := below_new W (.cells #[.complex .f64 (floatOfInt .f64 (x : Int)) (floatOfInt .f64 (y : Int)), .string ⟨#[]⟩] 124)
 have HH := Hid.mk' (RowA.new W 124 #[.complex .f64 (floatOfInt .f64 (x : Int)) (floatOfInt .f64 (y : Int)), .string ⟨#[]⟩])
 have HR := Hid.mk' (HR.out.below NG)
 have HZ := Hid.mk' (HZ.out.below NG)
 have HB := Hid.mk' (HB.out.trans (NG.mono HB.out.size))
 clear NG
 generalize hV : W.alloc (.cells #[.complex .f64 (floatOfInt .f64 (x : Int)) (floatOfInt .f64 (y : Int)), .string ⟨#[]⟩] 124) = V at *
 have GE : Hid (w.heap.size + 1 < W.heap.size) := Hid.mk' GE0
 obtain ⟨g, hg⟩ : ∃ g, W.heap.size = g := ⟨_, rfl⟩
 rw [hg] at HH GE ⊢
 clear hV hg GE0
 have HCE : Hid (∀ v, Below V.heap.size V v → (fun v => v.cell? ⟨w.heap.size, 5, none⟩ = some (.slice (some ⟨tb, 0, none⟩) T.length tc) ∧ v.cell? ⟨w.heap.size, 6, none⟩ = some (.int .i64 (Q : Int)) ∧ v.cell? ⟨w.heap.size, 8, none⟩ = some (.slice ka h0.length kc) ∧ v.cell? ⟨g, 0, none⟩ = some (.complex .f64 (floatOfInt .f64 (x : Int)) (floatOfInt .f64 (y : Int))) ∧ v.cell? ⟨g, 1, none⟩ = some (.string ⟨#[]⟩)) v) := Hid.mk' (fun v hb => ⟨(HR.out.below hb).cell 5 _ rfl, (HR.out.below hb).cell 6 _ rfl, (HR.out.below hb).cell 8 _ rfl, (HH.out.below hb).cell 0 _ rfl, (HH.out.below hb).cell 1 _ rfl⟩)
 have KN : Hid (∀ v, Calls Tryz.prog 88 #[.agg #[.complex .f64 (floatOfInt .f64 (x : Int)) (floatOfInt .f64 (y : Int)), .string ⟨#[]⟩]] v fun e w' => e = .returned (.int .i64 (x : Int)) ∧ Below v.heap.size v w') := Hid.mk' (fun v => now_any _ _ _ _ v (fl_int x (by omega)))
 have KA : Hid (∀ v, Below V.heap.size V v → Calls Tryz.prog 15 #[.agg #[.slice ka h0.length kc], (.slice (some ⟨tb, Q, none⟩) (x - Q) (tc - Q))] v fun e w' => FbP H v e w') := Hid.mk' (fun v hv => by
  have hb := HB.out.trans (hv.mono HB.out.size)
  have K := feedFrom_any tp pv h0 ka kc ((T.drop Q).take (x - Q)) (some ⟨tb, Q, none⟩) (tc - Q) v ((HE.out.keep hb).up hb.size (Nat.le_refl _)) (HK.out.below hb) HG.out HU.out (DB.out v hb) HY.out (by rw [L1.out]; omega)
  rw [L1.out] at K
  exact K.mono fun e w' h => by have h2 := h.fb; rw [HHE.out] at h2; exact h2)
 refine wp_region_held_drew (S := (fun v => v.cell? ⟨w.heap.size, 5, none⟩ = some (.slice (some ⟨tb, 0, none⟩) T.length tc) ∧ v.cell? ⟨w.heap.size, 6, none⟩ = some (.int .i64 (Q : Int)) ∧ v.cell? ⟨w.heap.size, 8, none⟩ = some (.slice ka h0.length kc) ∧ v.cell? ⟨g, 0, none⟩ = some (.complex .f64 (floatOfInt .f64 (x : Int)) (floatOfInt .f64 (y : Int))) ∧ v.cell? ⟨g, 1, none⟩ = some (.string ⟨#[]⟩))) (by kernel_rfl) (HCE.out _ (Below.refl _ _).drew) (fun hHeld => ?_)
 refine tkY 0 ?_
 refine tkY 1 ?_
 refine tkY 2 ?_
 refine tkY 3 ?_
 refine tkY 4 ?_
 refine tkY 5 ?_
 refine tkY 6 ?_
 refine tkY 7 ?_
 refine tkY 8 ?_
 refine tkY 9 ?_
 refine wpAnyH_ready (rs := [10, 13]) (by kernel_rfl) (by simp) ?_
 refine AllReadyH.cons (o := ⟨_, _, _, _, _, _⟩) rfl (fun K9 hK => ?_) (AllReadyH.cons (o := ⟨_, _, _, _, _, _⟩) rfl (fun K9 hK => ?_) AllReadyH.nil)
 ·go_simp
  refine (KN.out _).mono ?_
  rintro e1 w1 ⟨rfl, hb⟩
  replace hb := undrew hb
  have BB := Hid.mk' (hb)

  clear hb
  refine hK.out _ _ (HCE.out _ BB.out) (fun hHeld => ?_)
  clear hK K9
  try simp only [Act.put, zA, zB, zC]
  refine tkY 11 ?_
  refine wpAnyH_ready (rs := [12, 13]) (by kernel_rfl) (by simp) ?_
  refine AllReadyH.cons (o := ⟨_, _, _, _, _, _⟩) rfl (fun K9 hK => ?_) (AllReadyH.cons (o := ⟨_, _, _, _, _, _⟩) rfl (fun K9 hK => ?_) AllReadyH.nil)
  ·go_simp
   refine (KA.out _ BB.out).mono ?_
   rintro e2 w2 ⟨ta, tn, tc', ha, hc', rfl, hh, hlo, hb⟩

   have BB := Hid.mk' (BB.out.trans (hb.mono BB.out.size))
   have FH := Hid.mk' hh
   have FL := Hid.mk' hlo
   have FB : Hid (∀ b o, ha = some ⟨b, o, none⟩ → H ≠ [] → b < w2.heap.size) := Hid.mk' (fun b o e hn => by rcases hh with h | ⟨b', o', e', hs', _⟩; exact absurd h hn; rw [e] at e'; cases e'; exact hs')
   clear hb hh hlo
   refine hK.out _ _ (HCE.out _ BB.out) (fun hHeld => ?_)
   clear hK K9
   try simp only [Act.put, zA, zB, zC]
   refine wpAnyH_ready (rs := [13]) (by kernel_rfl) (by simp) ?_
   refine AllReadyH.cons (o := ⟨_, _, _, _, _, _⟩) rfl (fun K9 hK => ?_) AllReadyH.nil
   go_simp
   have BP := Hid.mk' BB.out
   have FP := Hid.mk' FH.out
   have NA := below_new w2 (.cells #[.int .i64 0, .slice none 0 0, .slice none 0 0] 41)
   have BX : Hid (V.heap.size ≤ w2.heap.size) := Hid.mk' BB.out.size
   have FX := Hid.mk' (RowA.new w2 41 #[.int .i64 0, .slice none 0 0, .slice none 0 0])
   have FH := Hid.mk' (FH.out.below NA)
   have BB := Hid.mk' (BB.out.trans (NA.mono BB.out.size))
   clear NA
   refine hK.out _ _ (HCE.out _ BB.out) (fun hHeld => ?_)
   clear hK K9
   try simp only [Act.put, zA, zB, zC]
   refine wpAnyH_ready (rs := [14]) (by kernel_rfl) (by simp) ?_
   refine AllReadyH.cons (o := ⟨_, _, _, _, _, _⟩) rfl (fun K9 hK => ?_) AllReadyH.nil
   have z0 := FX.out.cell 0 _ rfl
   have z1 := FX.out.cell 1 _ rfl
   have z2 := FX.out.cell 2 _ rfl
   have f0 := FX.out.frozen 0
   have f1 := FX.out.frozen 1
   have f2 := FX.out.frozen 2
   go_simp
   have FS := RowA.new w2 41 #[.int .i64 0, .slice ta tn tc', .slice ha H.length hc']
   have BS := BP.out.trans ((below_new w2 (.cells #[.int .i64 0, .slice ta tn tc', .slice ha H.length hc'] 41)).mono BP.out.size)
   have KS : BAt (w2.alloc (.cells #[.int .i64 0, .slice ta tn tc', .slice ha H.length hc'] 41)) ha H := FP.out.below (below_new w2 _)
   refine hK.out _ _ (HCE.out _ BS) (fun hHeld => ?_)
   clear hK K9 z0 z1 z2 f0 f1 f2
   try simp only [Act.put, zA, zB, zC]
   refine wpAnyH_done (by kernel_rfl) ?_ _
   clear hHeld
   have FS := Hid.mk' FS
   have BS := Hid.mk' BS
   have KS := Hid.mk' KS
   generalize hU : (w2.alloc (.cells #[.int .i64 0, .slice ta tn tc', .slice ha H.length hc'] 41)) = U at *
   clear hU
   have v2 := FS.out.cell 2 (.slice ha H.length hc') rfl
   have HHU := HH.out.below BS.out
   have g0 := HHU.cell 0 _ rfl
   have g1 := HHU.cell 1 _ rfl
   have q0 := HHU.frozen 0
   have q1 := HHU.frozen 1
   have ZU := HZ.out.below BS.out
   have r0 := ZU.cell 0 _ rfl
   have r1 := ZU.cell 1 _ rfl
   have p0 := ZU.frozen 0
   have p1 := ZU.frozen 1
   have hcv := conv_bytesT hc' KS.out
   have hne : g ≠ w.heap.size + 1 := by have := GE.out; omega
   have hne2 : w.heap.size + 1 ≠ g := by have := GE.out; omega
   have BZ := Hid.mk' (HB.out.trans (BS.out.mono HB.out.size))
   have ZR := Hid.mk' (ZU.other (a := ⟨g, 1, none⟩) hne2 (.string (strI H)))
   go_wp2_with ((with_reducible refine wpList_store_row ?_ 124 (.tmp 2) (.tmp 26) ?_ (w.heap.size + 1) #[.complex .f64 (floatOfInt .f64 (x : Int)) (floatOfInt .f64 (y : Int)), .string (strI H)] ?_ ?_ 124 #[.complex .f64 0 0, .string ⟨#[]⟩] ?_ ?_ ?_ ?_ ?_); rfl; rfl; rfl; rfl; exact ZR.out; kernel_rfl; rfl; kernel_rfl)
   refine bodyPost_ret (v := .agg #[.complex .f64 (floatOfInt .f64 (x : Int)) (floatOfInt .f64 (y : Int)), .string (strI H)]) ?_ ?_ ?_
   ·exact results_cell_row Tryz.results87 _ _ (w.heap.size + 1) 124 _ (0, 0) _ rfl (ZR.out.put _) Tryz.underlying124 rfl (by kernel_rfl)
   ·rfl
   have ge := GE.out
   exact ⟨rfl, RowA.putBelow (BZ.out.setCell (p := ⟨g, 1, none⟩) (by show w.heap.size ≤ g; omega) _) (by omega) _⟩
  ·go_simp
   have NA := below_new w1 (.cells #[.int .i64 0, .slice none 0 0, .slice none 0 0] 41)
   have BX : Hid (V.heap.size ≤ w1.heap.size) := Hid.mk' BB.out.size
   have FX := Hid.mk' (RowA.new w1 41 #[.int .i64 0, .slice none 0 0, .slice none 0 0])

   have BB := Hid.mk' (BB.out.trans (NA.mono BB.out.size))
   clear NA
   refine hK.out _ _ (HCE.out _ BB.out) (fun hHeld => ?_)
   clear hK K9
   try simp only [Act.put, zA, zB, zC]
   refine wpAnyH_ready (rs := [12]) (by kernel_rfl) (by simp) ?_
   refine AllReadyH.cons (o := ⟨_, _, _, _, _, _⟩) rfl (fun K9 hK => ?_) AllReadyH.nil
   go_simp
   refine (KA.out _ BB.out).mono ?_
   rintro e2 w2 ⟨ta, tn, tc', ha, hc', rfl, hh, hlo, hb⟩
   have FX := Hid.mk' (FX.out.below hb)
   have BB := Hid.mk' (BB.out.trans (hb.mono BB.out.size))
   have FH := Hid.mk' hh
   have FL := Hid.mk' hlo
   have FB : Hid (∀ b o, ha = some ⟨b, o, none⟩ → H ≠ [] → b < w2.heap.size) := Hid.mk' (fun b o e hn => by rcases hh with h | ⟨b', o', e', hs', _⟩; exact absurd h hn; rw [e] at e'; cases e'; exact hs')
   clear hb hh hlo
   refine hK.out _ _ (HCE.out _ BB.out) (fun hHeld => ?_)
   clear hK K9
   try simp only [Act.put, zA, zB, zC]
   refine wpAnyH_ready (rs := [14]) (by kernel_rfl) (by simp) ?_
   refine AllReadyH.cons (o := ⟨_, _, _, _, _, _⟩) rfl (fun K9 hK => ?_) AllReadyH.nil
   have z0 := FX.out.cell 0 _ rfl
   have z1 := FX.out.cell 1 _ rfl
   have z2 := FX.out.cell 2 _ rfl
   have f0 := FX.out.frozen 0
   have f1 := FX.out.frozen 1
   have f2 := FX.out.frozen 2
   go_simp
   have lx := BX.out
   have FS := ((FX.out.set 0 (.int .i64 0)).set 1 (.slice ta tn tc')).set 2 (.slice ha H.length hc')
   have BS := ((BB.out.setCell (p := ⟨w1.heap.size, 0, none⟩) lx (.int .i64 0)).setCell (p := ⟨w1.heap.size, 1, none⟩) lx (.slice ta tn tc')).setCell (p := ⟨w1.heap.size, 2, none⟩) lx (.slice ha H.length hc')
   have KS : BAt (((w2.setCell ⟨w1.heap.size, 0, none⟩ (.int .i64 0)).setCell ⟨w1.heap.size, 1, none⟩ (.slice ta tn tc')).setCell ⟨w1.heap.size, 2, none⟩ (.slice ha H.length hc')) ha H := bat_other FH.out (by intro b o e _; have h7 := FL.out b o e; have h8 : w1.heap.size < (w1.alloc (.cells #[.int .i64 0, .slice none 0 0, .slice none 0 0] 41)).heap.size := (by simp); omega)
   refine hK.out _ _ (HCE.out _ BS) (fun hHeld => ?_)
   clear hK K9 z0 z1 z2 f0 f1 f2
   try simp only [Act.put, zA, zB, zC]
   refine wpAnyH_done (by kernel_rfl) ?_ _
   clear hHeld
   have FS := Hid.mk' FS
   have BS := Hid.mk' BS
   have KS := Hid.mk' KS
   generalize hU : (((w2.setCell ⟨w1.heap.size, 0, none⟩ (.int .i64 0)).setCell ⟨w1.heap.size, 1, none⟩ (.slice ta tn tc')).setCell ⟨w1.heap.size, 2, none⟩ (.slice ha H.length hc')) = U at *
   clear hU
   have v2 := FS.out.cell 2 (.slice ha H.length hc') rfl
   have HHU := HH.out.below BS.out
   have g0 := HHU.cell 0 _ rfl
   have g1 := HHU.cell 1 _ rfl
   have q0 := HHU.frozen 0
   have q1 := HHU.frozen 1
   have ZU := HZ.out.below BS.out
   have r0 := ZU.cell 0 _ rfl
   have r1 := ZU.cell 1 _ rfl
   have p0 := ZU.frozen 0
   have p1 := ZU.frozen 1
   have hcv := conv_bytesT hc' KS.out
   have hne : g ≠ w.heap.size + 1 := by have := GE.out; omega
   have hne2 : w.heap.size + 1 ≠ g := by have := GE.out; omega
   have BZ := Hid.mk' (HB.out.trans (BS.out.mono HB.out.size))
   have ZR := Hid.mk' (ZU.other (a := ⟨g, 1, none⟩) hne2 (.string (strI H)))
   go_wp2_with ((with_reducible refine wpList_store_row ?_ 124 (.tmp 2) (.tmp 26) ?_ (w.heap.size + 1) #[.complex .f64 (floatOfInt .f64 (x : Int)) (floatOfInt .f64 (y : Int)), .string (strI H)] ?_ ?_ 124 #[.complex .f64 0 0, .string ⟨#[]⟩] ?_ ?_ ?_ ?_ ?_); rfl; rfl; rfl; rfl; exact ZR.out; kernel_rfl; rfl; kernel_rfl)
   refine bodyPost_ret (v := .agg #[.complex .f64 (floatOfInt .f64 (x : Int)) (floatOfInt .f64 (y : Int)), .string (strI H)]) ?_ ?_ ?_
   ·exact results_cell_row Tryz.results87 _ _ (w.heap.size + 1) 124 _ (0, 0) _ rfl (ZR.out.put _) Tryz.underlying124 rfl (by kernel_rfl)
   ·rfl
   have ge := GE.out
   exact ⟨rfl, RowA.putBelow (BZ.out.setCell (p := ⟨g, 1, none⟩) (by show w.heap.size ≤ g; omega) _) (by omega) _⟩
 ·go_simp
  have NA := below_new V (.cells #[.int .i64 0, .slice none 0 0, .slice none 0 0] 41)
  have BX : Hid (V.heap.size ≤ V.heap.size) := Hid.mk' (Nat.le_refl _)
  have FX := Hid.mk' (RowA.new V 41 #[.int .i64 0, .slice none 0 0, .slice none 0 0])

  have BB := Hid.mk' (NA)
  clear NA
  refine hK.out _ _ (HCE.out _ BB.out.drew) (fun hHeld => ?_)
  clear hK K9
  try simp only [Act.put, zA, zB, zC]
  refine wpAnyH_ready (rs := [10]) (by kernel_rfl) (by simp) ?_
  refine AllReadyH.cons (o := ⟨_, _, _, _, _, _⟩) rfl (fun K9 hK => ?_) AllReadyH.nil
  go_simp
  have SV1 : Hid (V.heap.size < (V.alloc (.cells #[.int .i64 0, .slice none 0 0, .slice none 0 0] 41)).heap.size) := Hid.mk' (by simp)
  refine (KN.out _).mono ?_
  rintro e1 w1 ⟨rfl, hb⟩
  replace hb := undrew hb

  have SV1 : Hid (V.heap.size < w1.heap.size) := Hid.mk' (Nat.lt_of_lt_of_le SV1.out hb.size)
  have BB := Hid.mk' (BB.out.trans (hb.mono BB.out.size))
  have FX := Hid.mk' (FX.out.below hb)
  clear hb
  refine hK.out _ _ (HCE.out _ BB.out) (fun hHeld => ?_)
  clear hK K9
  try simp only [Act.put, zA, zB, zC]
  refine tkY 11 ?_
  refine wpAnyH_ready (rs := [12]) (by kernel_rfl) (by simp) ?_
  refine AllReadyH.cons (o := ⟨_, _, _, _, _, _⟩) rfl (fun K9 hK => ?_) AllReadyH.nil
  go_simp
  refine (KA.out _ BB.out).mono ?_
  rintro e2 w2 ⟨ta, tn, tc', ha, hc', rfl, hh, hlo, hb⟩
  have FX := Hid.mk' (FX.out.below hb)
  have BB := Hid.mk' (BB.out.trans (hb.mono BB.out.size))
  have FH := Hid.mk' hh
  have FL := Hid.mk' hlo
  have FB : Hid (∀ b o, ha = some ⟨b, o, none⟩ → H ≠ [] → b < w2.heap.size) := Hid.mk' (fun b o e hn => by rcases hh with h | ⟨b', o', e', hs', _⟩; exact absurd h hn; rw [e] at e'; cases e'; exact hs')
  clear hb hh hlo
  refine hK.out _ _ (HCE.out _ BB.out) (fun hHeld => ?_)
  clear hK K9
  try simp only [Act.put, zA, zB, zC]
  refine wpAnyH_ready (rs := [14]) (by kernel_rfl) (by simp) ?_
  refine AllReadyH.cons (o := ⟨_, _, _, _, _, _⟩) rfl (fun K9 hK => ?_) AllReadyH.nil
  have z0 := FX.out.cell 0 _ rfl
  have z1 := FX.out.cell 1 _ rfl
  have z2 := FX.out.cell 2 _ rfl
  have f0 := FX.out.frozen 0
  have f1 := FX.out.frozen 1
  have f2 := FX.out.frozen 2
  go_simp
  have lx := BX.out
  have FS := ((FX.out.set 0 (.int .i64 0)).set 1 (.slice ta tn tc')).set 2 (.slice ha H.length hc')
  have BS := ((BB.out.setCell (p := ⟨V.heap.size, 0, none⟩) lx (.int .i64 0)).setCell (p := ⟨V.heap.size, 1, none⟩) lx (.slice ta tn tc')).setCell (p := ⟨V.heap.size, 2, none⟩) lx (.slice ha H.length hc')
  have KS : BAt (((w2.setCell ⟨V.heap.size, 0, none⟩ (.int .i64 0)).setCell ⟨V.heap.size, 1, none⟩ (.slice ta tn tc')).setCell ⟨V.heap.size, 2, none⟩ (.slice ha H.length hc')) ha H := bat_other FH.out (by intro b o e _; have h7 := FL.out b o e; have h8 := SV1.out; omega)
  refine hK.out _ _ (HCE.out _ BS) (fun hHeld => ?_)
  clear hK K9 z0 z1 z2 f0 f1 f2
  try simp only [Act.put, zA, zB, zC]
  refine wpAnyH_done (by kernel_rfl) ?_ _
  clear hHeld
  have FS := Hid.mk' FS
  have BS := Hid.mk' BS
  have KS := Hid.mk' KS
  generalize hU : (((w2.setCell ⟨V.heap.size, 0, none⟩ (.int .i64 0)).setCell ⟨V.heap.size, 1, none⟩ (.slice ta tn tc')).setCell ⟨V.heap.size, 2, none⟩ (.slice ha H.length hc')) = U at *
  clear hU
  have v2 := FS.out.cell 2 (.slice ha H.length hc') rfl
  have HHU := HH.out.below BS.out
  have g0 := HHU.cell 0 _ rfl
  have g1 := HHU.cell 1 _ rfl
  have q0 := HHU.frozen 0
  have q1 := HHU.frozen 1
  have ZU := HZ.out.below BS.out
  have r0 := ZU.cell 0 _ rfl
  have r1 := ZU.cell 1 _ rfl
  have p0 := ZU.frozen 0
  have p1 := ZU.frozen 1
  have hcv := conv_bytesT hc' KS.out
  have hne : g ≠ w.heap.size + 1 := by have := GE.out; omega
  have hne2 : w.heap.size + 1 ≠ g := by have := GE.out; omega
  have BZ := Hid.mk' (HB.out.trans (BS.out.mono HB.out.size))
  have ZR := Hid.mk' (ZU.other (a := ⟨g, 1, none⟩) hne2 (.string (strI H)))
  go_wp2_with ((with_reducible refine wpList_store_row ?_ 124 (.tmp 2) (.tmp 26) ?_ (w.heap.size + 1) #[.complex .f64 (floatOfInt .f64 (x : Int)) (floatOfInt .f64 (y : Int)), .string (strI H)] ?_ ?_ 124 #[.complex .f64 0 0, .string ⟨#[]⟩] ?_ ?_ ?_ ?_ ?_); rfl; rfl; rfl; rfl; exact ZR.out; kernel_rfl; rfl; kernel_rfl)
  refine bodyPost_ret (v := .agg #[.complex .f64 (floatOfInt .f64 (x : Int)) (floatOfInt .f64 (y : Int)), .string (strI H)]) ?_ ?_ ?_
  ·exact results_cell_row Tryz.results87 _ _ (w.heap.size + 1) 124 _ (0, 0) _ rfl (ZR.out.put _) Tryz.underlying124 rfl (by kernel_rfl)
  ·rfl
  have ge := GE.out
  exact ⟨rfl, RowA.putBelow (BZ.out.setCell (p := ⟨g, 1, none⟩) (by show w.heap.size ≤ g; omega) _) (by omega) _⟩
theorem editFirstE_any (tp : TypeId) (pv : Value) (D s J gd gc : Nat) (tv hv : Value) (tb : Nat) (T : List Int) (Q Tn : Nat) (ka : Option Addr) (kc : Nat) (h0 : List Int) (x y : Nat) (w : World) (hE : Env w.heap.size tp pv w) (hk : BAt w ka h0) (hgd : GoodH h0) (hub : Byt h0) (hx : x ≤ 240) (ht : CAt w tb 0 T) (htc : T.length ≤ Q) (htb : Byt T) (hTl : T.length ≤ 240) (hQx : Q ≤ x) (hxT : x ≤ T.length)  :
  Calls Tryz.prog 87 #[.agg (edX D s J gd gc tv hv (.slice (some ⟨tb, 0, none⟩) T.length Q) Q Tn (.slice ka h0.length kc) x y)] w fun e w' => e = .returned (.agg #[.complex .f64 (floatOfInt .f64 (x : Int)) (floatOfInt .f64 (y : Int)), .string (strI (allX [] h0 ((T.drop Q).take (x - Q))).2)]) ∧ Below w.heap.size w w' := by
 obtain ⟨H, hH⟩ : ∃ H, (allX [] h0 ((T.drop Q).take (x - Q))).2 = H := ⟨_, rfl⟩
 rw [hH]
 have HHE := Hid.mk' hH
 clear hH
 obtain ⟨B0, R0, Z0⟩ := twoE w (edX D s J gd gc tv hv (.slice (some ⟨tb, 0, none⟩) T.length Q) Q Tn (.slice ka h0.length kc) x y) #[.complex .f64 0 0, .string ⟨#[]⟩]
 have HB := Hid.mk' B0
 have HR := Hid.mk' R0
 have HZ := Hid.mk' Z0
 have HE := Hid.mk' hE
 have HK := Hid.mk' hk
 have HG := Hid.mk' hgd
 have HU := Hid.mk' hub
 have HC := Hid.mk' ht
 have HTB := Hid.mk' htb
 clear ht htb
 clear B0 R0 Z0 hE hk hgd hub
 generalize hW : (w.alloc (.cells (edX D s J gd gc tv hv (.slice (some ⟨tb, 0, none⟩) T.length Q) Q Tn (.slice ka h0.length kc) x y) 86)).alloc (.cells #[.complex .f64 0 0, .string ⟨#[]⟩] 124) = W at *
 have x5 := HR.out.cell 5 (.slice (some ⟨tb, 0, none⟩) T.length Q) rfl
 have x6 := HR.out.cell 6 (.int .i64 (Q : Int)) rfl
 have x8 := HR.out.cell 8 (.slice ka h0.length kc) rfl
 have x9 := HR.out.cell 9 (.complex .f64 (floatOfInt .f64 (x : Int)) (floatOfInt .f64 (y : Int))) rfl
 have i1 : (0 : Int) ≤ (Q : Int) := by omega
 have i2 : (Q : Int) ≤ (x : Int) := by omega
 have i3 : (x : Int) ≤ (Q : Int) := by omega
 have L1 : Hid (((T.drop Q).take (x - Q)).length = x - Q) := Hid.mk' (mid_len (by omega))
 have HY : Hid (Byt ((T.drop Q).take (x - Q))) := Hid.mk' (byt_mid HTB.out _ _)
 have DB : Hid (∀ v, BAt v (some ⟨tb, 0, none⟩) ((T.drop Q).take (x - Q))) := Hid.mk' (fun v => .inl (by rw [List.drop_eq_nil_of_le (by omega), List.take_nil]))
 go_enter Tryz.func87, Tryz.ntmps87
 go_wp2_with (first | ((with_reducible refine wpList_store_row ?_ 124 (.tmp 3) (.tmp 7) ?_ W.heap.size #[.complex .f64 (floatOfInt .f64 (x : Int)) (floatOfInt .f64 (y : Int)), .string ⟨#[]⟩] ?_ ?_ 124 #[.complex .f64 0 0, .string ⟨#[]⟩] ?_ ?_ ?_ ?_ ?_); rfl; rfl; rfl; rfl; exact RowA.new _ _ _; kernel_rfl; rfl; kernel_rfl; rw [alloc_setRow]) | fail)
 clear hW x5 x6 x8 x9
 have GE0 := HZ.out.lt
 have NG := below_new W (.cells #[.complex .f64 (floatOfInt .f64 (x : Int)) (floatOfInt .f64 (y : Int)), .string ⟨#[]⟩] 124)
 have HH := Hid.mk' (RowA.new W 124 #[.complex .f64 (floatOfInt .f64 (x : Int)) (floatOfInt .f64 (y : Int)), .string ⟨#[]⟩])
 have HR := Hid.mk' (HR.out.below NG)
 have HZ := Hid.mk' (HZ.out.below NG)
 have HB := Hid.mk' (HB.out.trans (NG.mono HB.out.size))
 clear NG
 generalize hV : W.alloc (.cells #[.complex .f64 (floatOfInt .f64 (x : Int)) (floatOfInt .f64 (y : Int)), .string ⟨#[]⟩] 124) = V at *
 have GE : Hid (w.heap.size + 1 < W.heap.size) := Hid.mk' GE0
 obtain ⟨g, hg⟩ : ∃ g, W.heap.size = g := ⟨_, rfl⟩
 rw [hg] at HH GE ⊢
 clear hV hg GE0
 have HCE : Hid (∀ v, Below V.heap.size V v → (fun v => v.cell? ⟨w.heap.size, 5, none⟩ = some (.slice (some ⟨tb, 0, none⟩) T.length Q) ∧ v.cell? ⟨w.heap.size, 6, none⟩ = some (.int .i64 (Q : Int)) ∧ v.cell? ⟨w.heap.size, 8, none⟩ = some (.slice ka h0.length kc) ∧ v.cell? ⟨g, 0, none⟩ = some (.complex .f64 (floatOfInt .f64 (x : Int)) (floatOfInt .f64 (y : Int))) ∧ v.cell? ⟨g, 1, none⟩ = some (.string ⟨#[]⟩)) v) := Hid.mk' (fun v hb => ⟨(HR.out.below hb).cell 5 _ rfl, (HR.out.below hb).cell 6 _ rfl, (HR.out.below hb).cell 8 _ rfl, (HH.out.below hb).cell 0 _ rfl, (HH.out.below hb).cell 1 _ rfl⟩)
 have KN : Hid (∀ v, Calls Tryz.prog 88 #[.agg #[.complex .f64 (floatOfInt .f64 (x : Int)) (floatOfInt .f64 (y : Int)), .string ⟨#[]⟩]] v fun e w' => e = .returned (.int .i64 (x : Int)) ∧ Below v.heap.size v w') := Hid.mk' (fun v => now_any _ _ _ _ v (fl_int x (by omega)))
 have KA : Hid (∀ v, Below V.heap.size V v → Calls Tryz.prog 15 #[.agg #[.slice ka h0.length kc], (.slice (some ⟨tb, 0, none⟩) (x - Q) 0)] v fun e w' => FbP H v e w') := Hid.mk' (fun v hv => by
  have hb := HB.out.trans (hv.mono HB.out.size)
  have K := feedFrom_any tp pv h0 ka kc ((T.drop Q).take (x - Q)) (some ⟨tb, 0, none⟩) 0 v ((HE.out.keep hb).up hb.size (Nat.le_refl _)) (HK.out.below hb) HG.out HU.out (DB.out v) HY.out (by rw [L1.out]; omega)
  rw [L1.out] at K
  exact K.mono fun e w' h => by have h2 := h.fb; rw [HHE.out] at h2; exact h2)
 refine wp_region_held_drew (S := (fun v => v.cell? ⟨w.heap.size, 5, none⟩ = some (.slice (some ⟨tb, 0, none⟩) T.length Q) ∧ v.cell? ⟨w.heap.size, 6, none⟩ = some (.int .i64 (Q : Int)) ∧ v.cell? ⟨w.heap.size, 8, none⟩ = some (.slice ka h0.length kc) ∧ v.cell? ⟨g, 0, none⟩ = some (.complex .f64 (floatOfInt .f64 (x : Int)) (floatOfInt .f64 (y : Int))) ∧ v.cell? ⟨g, 1, none⟩ = some (.string ⟨#[]⟩))) (by kernel_rfl) (HCE.out _ (Below.refl _ _).drew) (fun hHeld => ?_)
 refine tkY 0 ?_
 refine tkY 1 ?_
 refine tkY 2 ?_
 refine tkY 3 ?_
 refine tkY 4 ?_
 refine tkY 5 ?_
 refine tkY 6 ?_
 refine tkY 7 ?_
 refine tkY 8 ?_
 refine tkY 9 ?_
 refine wpAnyH_ready (rs := [10, 13]) (by kernel_rfl) (by simp) ?_
 refine AllReadyH.cons (o := ⟨_, _, _, _, _, _⟩) rfl (fun K9 hK => ?_) (AllReadyH.cons (o := ⟨_, _, _, _, _, _⟩) rfl (fun K9 hK => ?_) AllReadyH.nil)
 ·go_simp
  refine (KN.out _).mono ?_
  rintro e1 w1 ⟨rfl, hb⟩
  replace hb := undrew hb
  have BB := Hid.mk' (hb)

  clear hb
  refine hK.out _ _ (HCE.out _ BB.out) (fun hHeld => ?_)
  clear hK K9
  try simp only [Act.put, zA, zB, zC]
  refine tkY 11 ?_
  refine wpAnyH_ready (rs := [12, 13]) (by kernel_rfl) (by simp) ?_
  refine AllReadyH.cons (o := ⟨_, _, _, _, _, _⟩) rfl (fun K9 hK => ?_) (AllReadyH.cons (o := ⟨_, _, _, _, _, _⟩) rfl (fun K9 hK => ?_) AllReadyH.nil)
  ·go_simp
   refine (KA.out _ BB.out).mono ?_
   rintro e2 w2 ⟨ta, tn, tc', ha, hc', rfl, hh, hlo, hb⟩

   have BB := Hid.mk' (BB.out.trans (hb.mono BB.out.size))
   have FH := Hid.mk' hh
   have FL := Hid.mk' hlo
   have FB : Hid (∀ b o, ha = some ⟨b, o, none⟩ → H ≠ [] → b < w2.heap.size) := Hid.mk' (fun b o e hn => by rcases hh with h | ⟨b', o', e', hs', _⟩; exact absurd h hn; rw [e] at e'; cases e'; exact hs')
   clear hb hh hlo
   refine hK.out _ _ (HCE.out _ BB.out) (fun hHeld => ?_)
   clear hK K9
   try simp only [Act.put, zA, zB, zC]
   refine wpAnyH_ready (rs := [13]) (by kernel_rfl) (by simp) ?_
   refine AllReadyH.cons (o := ⟨_, _, _, _, _, _⟩) rfl (fun K9 hK => ?_) AllReadyH.nil
   go_simp
   have BP := Hid.mk' BB.out
   have FP := Hid.mk' FH.out
   have NA := below_new w2 (.cells #[.int .i64 0, .slice none 0 0, .slice none 0 0] 41)
   have BX : Hid (V.heap.size ≤ w2.heap.size) := Hid.mk' BB.out.size
   have FX := Hid.mk' (RowA.new w2 41 #[.int .i64 0, .slice none 0 0, .slice none 0 0])
   have FH := Hid.mk' (FH.out.below NA)
   have BB := Hid.mk' (BB.out.trans (NA.mono BB.out.size))
   clear NA
   refine hK.out _ _ (HCE.out _ BB.out) (fun hHeld => ?_)
   clear hK K9
   try simp only [Act.put, zA, zB, zC]
   refine wpAnyH_ready (rs := [14]) (by kernel_rfl) (by simp) ?_
   refine AllReadyH.cons (o := ⟨_, _, _, _, _, _⟩) rfl (fun K9 hK => ?_) AllReadyH.nil
   have z0 := FX.out.cell 0 _ rfl
   have z1 := FX.out.cell 1 _ rfl
   have z2 := FX.out.cell 2 _ rfl
   have f0 := FX.out.frozen 0
   have f1 := FX.out.frozen 1
   have f2 := FX.out.frozen 2
   go_simp
   have FS := RowA.new w2 41 #[.int .i64 0, .slice ta tn tc', .slice ha H.length hc']
   have BS := BP.out.trans ((below_new w2 (.cells #[.int .i64 0, .slice ta tn tc', .slice ha H.length hc'] 41)).mono BP.out.size)
   have KS : BAt (w2.alloc (.cells #[.int .i64 0, .slice ta tn tc', .slice ha H.length hc'] 41)) ha H := FP.out.below (below_new w2 _)
   refine hK.out _ _ (HCE.out _ BS) (fun hHeld => ?_)
   clear hK K9 z0 z1 z2 f0 f1 f2
   try simp only [Act.put, zA, zB, zC]
   refine wpAnyH_done (by kernel_rfl) ?_ _
   clear hHeld
   have FS := Hid.mk' FS
   have BS := Hid.mk' BS
   have KS := Hid.mk' KS
   generalize hU : (w2.alloc (.cells #[.int .i64 0, .slice ta tn tc', .slice ha H.length hc'] 41)) = U at *
   clear hU
   have v2 := FS.out.cell 2 (.slice ha H.length hc') rfl
   have HHU := HH.out.below BS.out
   have g0 := HHU.cell 0 _ rfl
   have g1 := HHU.cell 1 _ rfl
   have q0 := HHU.frozen 0
   have q1 := HHU.frozen 1
   have ZU := HZ.out.below BS.out
   have r0 := ZU.cell 0 _ rfl
   have r1 := ZU.cell 1 _ rfl
   have p0 := ZU.frozen 0
   have p1 := ZU.frozen 1
   have hcv := conv_bytesT hc' KS.out
   have hne : g ≠ w.heap.size + 1 := by have := GE.out; omega
   have hne2 : w.heap.size + 1 ≠ g := by have := GE.out; omega
   have BZ := Hid.mk' (HB.out.trans (BS.out.mono HB.out.size))
   have ZR := Hid.mk' (ZU.other (a := ⟨g, 1, none⟩) hne2 (.string (strI H)))
   go_wp2_with ((with_reducible refine wpList_store_row ?_ 124 (.tmp 2) (.tmp 26) ?_ (w.heap.size + 1) #[.complex .f64 (floatOfInt .f64 (x : Int)) (floatOfInt .f64 (y : Int)), .string (strI H)] ?_ ?_ 124 #[.complex .f64 0 0, .string ⟨#[]⟩] ?_ ?_ ?_ ?_ ?_); rfl; rfl; rfl; rfl; exact ZR.out; kernel_rfl; rfl; kernel_rfl)
   refine bodyPost_ret (v := .agg #[.complex .f64 (floatOfInt .f64 (x : Int)) (floatOfInt .f64 (y : Int)), .string (strI H)]) ?_ ?_ ?_
   ·exact results_cell_row Tryz.results87 _ _ (w.heap.size + 1) 124 _ (0, 0) _ rfl (ZR.out.put _) Tryz.underlying124 rfl (by kernel_rfl)
   ·rfl
   have ge := GE.out
   exact ⟨rfl, RowA.putBelow (BZ.out.setCell (p := ⟨g, 1, none⟩) (by show w.heap.size ≤ g; omega) _) (by omega) _⟩
  ·go_simp
   have NA := below_new w1 (.cells #[.int .i64 0, .slice none 0 0, .slice none 0 0] 41)
   have BX : Hid (V.heap.size ≤ w1.heap.size) := Hid.mk' BB.out.size
   have FX := Hid.mk' (RowA.new w1 41 #[.int .i64 0, .slice none 0 0, .slice none 0 0])

   have BB := Hid.mk' (BB.out.trans (NA.mono BB.out.size))
   clear NA
   refine hK.out _ _ (HCE.out _ BB.out) (fun hHeld => ?_)
   clear hK K9
   try simp only [Act.put, zA, zB, zC]
   refine wpAnyH_ready (rs := [12]) (by kernel_rfl) (by simp) ?_
   refine AllReadyH.cons (o := ⟨_, _, _, _, _, _⟩) rfl (fun K9 hK => ?_) AllReadyH.nil
   go_simp
   refine (KA.out _ BB.out).mono ?_
   rintro e2 w2 ⟨ta, tn, tc', ha, hc', rfl, hh, hlo, hb⟩
   have FX := Hid.mk' (FX.out.below hb)
   have BB := Hid.mk' (BB.out.trans (hb.mono BB.out.size))
   have FH := Hid.mk' hh
   have FL := Hid.mk' hlo
   have FB : Hid (∀ b o, ha = some ⟨b, o, none⟩ → H ≠ [] → b < w2.heap.size) := Hid.mk' (fun b o e hn => by rcases hh with h | ⟨b', o', e', hs', _⟩; exact absurd h hn; rw [e] at e'; cases e'; exact hs')
   clear hb hh hlo
   refine hK.out _ _ (HCE.out _ BB.out) (fun hHeld => ?_)
   clear hK K9
   try simp only [Act.put, zA, zB, zC]
   refine wpAnyH_ready (rs := [14]) (by kernel_rfl) (by simp) ?_
   refine AllReadyH.cons (o := ⟨_, _, _, _, _, _⟩) rfl (fun K9 hK => ?_) AllReadyH.nil
   have z0 := FX.out.cell 0 _ rfl
   have z1 := FX.out.cell 1 _ rfl
   have z2 := FX.out.cell 2 _ rfl
   have f0 := FX.out.frozen 0
   have f1 := FX.out.frozen 1
   have f2 := FX.out.frozen 2
   go_simp
   have lx := BX.out
   have FS := ((FX.out.set 0 (.int .i64 0)).set 1 (.slice ta tn tc')).set 2 (.slice ha H.length hc')
   have BS := ((BB.out.setCell (p := ⟨w1.heap.size, 0, none⟩) lx (.int .i64 0)).setCell (p := ⟨w1.heap.size, 1, none⟩) lx (.slice ta tn tc')).setCell (p := ⟨w1.heap.size, 2, none⟩) lx (.slice ha H.length hc')
   have KS : BAt (((w2.setCell ⟨w1.heap.size, 0, none⟩ (.int .i64 0)).setCell ⟨w1.heap.size, 1, none⟩ (.slice ta tn tc')).setCell ⟨w1.heap.size, 2, none⟩ (.slice ha H.length hc')) ha H := bat_other FH.out (by intro b o e _; have h7 := FL.out b o e; have h8 : w1.heap.size < (w1.alloc (.cells #[.int .i64 0, .slice none 0 0, .slice none 0 0] 41)).heap.size := (by simp); omega)
   refine hK.out _ _ (HCE.out _ BS) (fun hHeld => ?_)
   clear hK K9 z0 z1 z2 f0 f1 f2
   try simp only [Act.put, zA, zB, zC]
   refine wpAnyH_done (by kernel_rfl) ?_ _
   clear hHeld
   have FS := Hid.mk' FS
   have BS := Hid.mk' BS
   have KS := Hid.mk' KS
   generalize hU : (((w2.setCell ⟨w1.heap.size, 0, none⟩ (.int .i64 0)).setCell ⟨w1.heap.size, 1, none⟩ (.slice ta tn tc')).setCell ⟨w1.heap.size, 2, none⟩ (.slice ha H.length hc')) = U at *
   clear hU
   have v2 := FS.out.cell 2 (.slice ha H.length hc') rfl
   have HHU := HH.out.below BS.out
   have g0 := HHU.cell 0 _ rfl
   have g1 := HHU.cell 1 _ rfl
   have q0 := HHU.frozen 0
   have q1 := HHU.frozen 1
   have ZU := HZ.out.below BS.out
   have r0 := ZU.cell 0 _ rfl
   have r1 := ZU.cell 1 _ rfl
   have p0 := ZU.frozen 0
   have p1 := ZU.frozen 1
   have hcv := conv_bytesT hc' KS.out
   have hne : g ≠ w.heap.size + 1 := by have := GE.out; omega
   have hne2 : w.heap.size + 1 ≠ g := by have := GE.out; omega
   have BZ := Hid.mk' (HB.out.trans (BS.out.mono HB.out.size))
   have ZR := Hid.mk' (ZU.other (a := ⟨g, 1, none⟩) hne2 (.string (strI H)))
   go_wp2_with ((with_reducible refine wpList_store_row ?_ 124 (.tmp 2) (.tmp 26) ?_ (w.heap.size + 1) #[.complex .f64 (floatOfInt .f64 (x : Int)) (floatOfInt .f64 (y : Int)), .string (strI H)] ?_ ?_ 124 #[.complex .f64 0 0, .string ⟨#[]⟩] ?_ ?_ ?_ ?_ ?_); rfl; rfl; rfl; rfl; exact ZR.out; kernel_rfl; rfl; kernel_rfl)
   refine bodyPost_ret (v := .agg #[.complex .f64 (floatOfInt .f64 (x : Int)) (floatOfInt .f64 (y : Int)), .string (strI H)]) ?_ ?_ ?_
   ·exact results_cell_row Tryz.results87 _ _ (w.heap.size + 1) 124 _ (0, 0) _ rfl (ZR.out.put _) Tryz.underlying124 rfl (by kernel_rfl)
   ·rfl
   have ge := GE.out
   exact ⟨rfl, RowA.putBelow (BZ.out.setCell (p := ⟨g, 1, none⟩) (by show w.heap.size ≤ g; omega) _) (by omega) _⟩
 ·go_simp
  have NA := below_new V (.cells #[.int .i64 0, .slice none 0 0, .slice none 0 0] 41)
  have BX : Hid (V.heap.size ≤ V.heap.size) := Hid.mk' (Nat.le_refl _)
  have FX := Hid.mk' (RowA.new V 41 #[.int .i64 0, .slice none 0 0, .slice none 0 0])

  have BB := Hid.mk' (NA)
  clear NA
  refine hK.out _ _ (HCE.out _ BB.out.drew) (fun hHeld => ?_)
  clear hK K9
  try simp only [Act.put, zA, zB, zC]
  refine wpAnyH_ready (rs := [10]) (by kernel_rfl) (by simp) ?_
  refine AllReadyH.cons (o := ⟨_, _, _, _, _, _⟩) rfl (fun K9 hK => ?_) AllReadyH.nil
  go_simp
  have SV1 : Hid (V.heap.size < (V.alloc (.cells #[.int .i64 0, .slice none 0 0, .slice none 0 0] 41)).heap.size) := Hid.mk' (by simp)
  refine (KN.out _).mono ?_
  rintro e1 w1 ⟨rfl, hb⟩
  replace hb := undrew hb

  have SV1 : Hid (V.heap.size < w1.heap.size) := Hid.mk' (Nat.lt_of_lt_of_le SV1.out hb.size)
  have BB := Hid.mk' (BB.out.trans (hb.mono BB.out.size))
  have FX := Hid.mk' (FX.out.below hb)
  clear hb
  refine hK.out _ _ (HCE.out _ BB.out) (fun hHeld => ?_)
  clear hK K9
  try simp only [Act.put, zA, zB, zC]
  refine tkY 11 ?_
  refine wpAnyH_ready (rs := [12]) (by kernel_rfl) (by simp) ?_
  refine AllReadyH.cons (o := ⟨_, _, _, _, _, _⟩) rfl (fun K9 hK => ?_) AllReadyH.nil
  go_simp
  refine (KA.out _ BB.out).mono ?_
  rintro e2 w2 ⟨ta, tn, tc', ha, hc', rfl, hh, hlo, hb⟩
  have FX := Hid.mk' (FX.out.below hb)
  have BB := Hid.mk' (BB.out.trans (hb.mono BB.out.size))
  have FH := Hid.mk' hh
  have FL := Hid.mk' hlo
  have FB : Hid (∀ b o, ha = some ⟨b, o, none⟩ → H ≠ [] → b < w2.heap.size) := Hid.mk' (fun b o e hn => by rcases hh with h | ⟨b', o', e', hs', _⟩; exact absurd h hn; rw [e] at e'; cases e'; exact hs')
  clear hb hh hlo
  refine hK.out _ _ (HCE.out _ BB.out) (fun hHeld => ?_)
  clear hK K9
  try simp only [Act.put, zA, zB, zC]
  refine wpAnyH_ready (rs := [14]) (by kernel_rfl) (by simp) ?_
  refine AllReadyH.cons (o := ⟨_, _, _, _, _, _⟩) rfl (fun K9 hK => ?_) AllReadyH.nil
  have z0 := FX.out.cell 0 _ rfl
  have z1 := FX.out.cell 1 _ rfl
  have z2 := FX.out.cell 2 _ rfl
  have f0 := FX.out.frozen 0
  have f1 := FX.out.frozen 1
  have f2 := FX.out.frozen 2
  go_simp
  have lx := BX.out
  have FS := ((FX.out.set 0 (.int .i64 0)).set 1 (.slice ta tn tc')).set 2 (.slice ha H.length hc')
  have BS := ((BB.out.setCell (p := ⟨V.heap.size, 0, none⟩) lx (.int .i64 0)).setCell (p := ⟨V.heap.size, 1, none⟩) lx (.slice ta tn tc')).setCell (p := ⟨V.heap.size, 2, none⟩) lx (.slice ha H.length hc')
  have KS : BAt (((w2.setCell ⟨V.heap.size, 0, none⟩ (.int .i64 0)).setCell ⟨V.heap.size, 1, none⟩ (.slice ta tn tc')).setCell ⟨V.heap.size, 2, none⟩ (.slice ha H.length hc')) ha H := bat_other FH.out (by intro b o e _; have h7 := FL.out b o e; have h8 := SV1.out; omega)
  refine hK.out _ _ (HCE.out _ BS) (fun hHeld => ?_)
  clear hK K9 z0 z1 z2 f0 f1 f2
  try simp only [Act.put, zA, zB, zC]
  refine wpAnyH_done (by kernel_rfl) ?_ _
  clear hHeld
  have FS := Hid.mk' FS
  have BS := Hid.mk' BS
  have KS := Hid.mk' KS
  generalize hU : (((w2.setCell ⟨V.heap.size, 0, none⟩ (.int .i64 0)).setCell ⟨V.heap.size, 1, none⟩ (.slice ta tn tc')).setCell ⟨V.heap.size, 2, none⟩ (.slice ha H.length hc')) = U at *
  clear hU
  have v2 := FS.out.cell 2 (.slice ha H.length hc') rfl
  have HHU := HH.out.below BS.out
  have g0 := HHU.cell 0 _ rfl
  have g1 := HHU.cell 1 _ rfl
  have q0 := HHU.frozen 0
  have q1 := HHU.frozen 1
  have ZU := HZ.out.below BS.out
  have r0 := ZU.cell 0 _ rfl
  have r1 := ZU.cell 1 _ rfl
  have p0 := ZU.frozen 0
  have p1 := ZU.frozen 1
  have hcv := conv_bytesT hc' KS.out
  have hne : g ≠ w.heap.size + 1 := by have := GE.out; omega
  have hne2 : w.heap.size + 1 ≠ g := by have := GE.out; omega
  have BZ := Hid.mk' (HB.out.trans (BS.out.mono HB.out.size))
  have ZR := Hid.mk' (ZU.other (a := ⟨g, 1, none⟩) hne2 (.string (strI H)))
  go_wp2_with ((with_reducible refine wpList_store_row ?_ 124 (.tmp 2) (.tmp 26) ?_ (w.heap.size + 1) #[.complex .f64 (floatOfInt .f64 (x : Int)) (floatOfInt .f64 (y : Int)), .string (strI H)] ?_ ?_ 124 #[.complex .f64 0 0, .string ⟨#[]⟩] ?_ ?_ ?_ ?_ ?_); rfl; rfl; rfl; rfl; exact ZR.out; kernel_rfl; rfl; kernel_rfl)
  refine bodyPost_ret (v := .agg #[.complex .f64 (floatOfInt .f64 (x : Int)) (floatOfInt .f64 (y : Int)), .string (strI H)]) ?_ ?_ ?_
  ·exact results_cell_row Tryz.results87 _ _ (w.heap.size + 1) 124 _ (0, 0) _ rfl (ZR.out.put _) Tryz.underlying124 rfl (by kernel_rfl)
  ·rfl
  have ge := GE.out
  exact ⟨rfl, RowA.putBelow (BZ.out.setCell (p := ⟨g, 1, none⟩) (by show w.heap.size ≤ g; omega) _) (by omega) _⟩
theorem editFirst_any (tp : TypeId) (pv : Value) (D s J gd gc : Nat) (tv hv tx : Value) (T : List Int) (Q Tn : Nat) (ka : Option Addr) (kc : Nat) (h0 : List Int) (x y : Nat) (w : World) (hE : Env w.heap.size tp pv w) (hk : BAt w ka h0) (hgd : GoodH h0) (hub : Byt h0) (ht : OB w tx T) (htb : Byt T) (hTl : T.length ≤ 240) (hQx : Q ≤ x) (hxT : x ≤ T.length) :
  Calls Tryz.prog 87 #[.agg (edX D s J gd gc tv hv tx Q Tn (.slice ka h0.length kc) x y)] w fun e w' => e = .returned (.agg #[.complex .f64 (floatOfInt .f64 (x : Int)) (floatOfInt .f64 (y : Int)), .string (strI (allX [] h0 ((T.drop Q).take (x - Q))).2)]) ∧ Below w.heap.size w w' := by
 rcases ht with ⟨rfl, rfl⟩ | ⟨g, cap, cn, f, rfl, hc, hr, hcn, hf⟩
 ·have hx0 : x = 0 := by simpa using hxT
  subst hx0
  have hq0 : Q = 0 := by omega
  subst hq0
  exact editFirstN_any tp pv D s J gd gc tv hv Tn ka kc h0 y w hE hk hgd hub
 ·have ht : CAt w g 0 T := ⟨hr.lt, fun k hk => by rw [Nat.zero_add]; exact (hr.cell (by omega)).trans (congrArg some (hf k hk))⟩
  by_cases hcq : cap = Q
  ·subst hcq
   exact editFirstE_any tp pv D s J gd gc tv hv g T cap Tn ka kc h0 x y w hE hk hgd hub (by omega) ht hc htb hTl hQx hxT
  ·exact editFirstD_any tp pv D s J gd gc tv hv g cap T Q Tn ka kc h0 x y w hE hk hgd hub (by omega) ht hc htb hTl hQx hxT hcq

end Go.Proofs.YtieeojhdidjnaaaGreatDoor
