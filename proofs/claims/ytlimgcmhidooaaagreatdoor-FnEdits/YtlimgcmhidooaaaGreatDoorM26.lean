/- The model's memo: the walk. -/
import Derived.Test.YtlimgcmhidooaaaGreatDoorM25
import Derived.Test.YtlimgcmhidooaaaGreatDoorM21
import Derived.Test.YtlimgcmhidooaaaGreatDoorM16
import Derived.Test.YtlimgcmhidooaaaGreatDoorM14
import Derived.Test.YtlimgcmhidooaaaGreatDoorM17
import Derived.Test.YtlimgcmhidooaaaGreatDoorM20
set_option maxHeartbeats 6400000
set_option maxRecDepth 100000
set_option linter.unusedVariables false
set_option linter.unusedSimpArgs false
namespace Go.Proofs.YtlimgcmhidooaaaGreatDoor
open Go.RowKit
theorem infoCheck : (Tryz.prog.info? 31).map (fun i => (i.zero, i.size, i.bytes)) = some (some (.agg #[.int .i64 0, .int .i64 0, .slice none 0 0]), 3, 40) := Tryz.info31
theorem cnt_div {k s : Nat} (hs : 1 ≤ s) (h : k % s = 0) : (k + s - 1) / s * s = k ∧ (k + 1 + s - 1) / s = (k + s - 1) / s + 1 := by
 obtain ⟨m, rfl⟩ : ∃ m, k = m * s := ⟨k / s, by have := Nat.div_add_mod k s; rw [h] at this; rw [Nat.mul_comm]; omega⟩
 have e : (m * s + s - 1) / s = m := by
  rw [show m * s + s - 1 = (s - 1) + m * s by omega, Nat.add_mul_div_right _ _ (by omega), Nat.div_eq_of_lt (by omega)]; omega
 have e2 : (m * s + 1 + s - 1) / s = m + 1 := by
  rw [show m * s + 1 + s - 1 = 0 + (m + 1) * s by rw [Nat.add_mul]; omega, Nat.add_mul_div_right _ _ (by omega)]; simp
 rw [e, e2]; exact ⟨rfl, rfl⟩
theorem cnt_not {k s : Nat} (hs : 1 ≤ s) (h : ¬ k % s = 0) : (k + 1 + s - 1) / s = (k + s - 1) / s := by
 have h1 := Nat.div_add_mod k s
 have h2 := Nat.mod_lt k (show 0 < s by omega)
 have e : (k + s - 1) / s = k / s + 1 := by
  have : k + s - 1 = (k % s - 1) + (k / s + 1) * s := by rw [Nat.add_mul, Nat.mul_comm (k / s)]; omega
  rw [this, Nat.add_mul_div_right _ _ (by omega), Nat.div_eq_of_lt (by omega)]; omega
 have e2 : (k + 1 + s - 1) / s = k / s + 1 := by
  have : k + 1 + s - 1 = k % s + (k / s + 1) * s := by rw [Nat.add_mul, Nat.mul_comm (k / s)]; omega
  rw [this, Nat.add_mul_div_right _ _ (by omega), Nat.div_eq_of_lt (by omega)]; omega
 rw [e, e2]
theorem cnt_all (n s : Nat) (hs : 1 ≤ s) : (n + 1 + s - 1) / s = n / s + 1 := by
 rw [show n + 1 + s - 1 = n + 1 * s by omega, Nat.add_mul_div_right _ _ (by omega)]
theorem MS.over {w : World} {d : List Int} {s k c g : Nat} {dv tv cv hv : Value} {us : List Value} {hs : Nat → Value} {wr : World} (x : MS w d s k c g dv tv cv hv us hs wr) (h : d.length ≤ k) : MS w d s (k + 1) c g dv tv cv hv us hs wr := by
 have e : d.take (k + 1) = d.take k := by rw [List.take_of_length_le h, List.take_of_length_le (by omega)]
 obtain ⟨a1, a2, a3, a4, a5, a6, a7, a8, a9, b1, b2, b3, b4, b5, b6⟩ := x
 exact ⟨a1, a2, a3, a4, a5, a6, by rw [e]; exact a7, by rw [e]; exact a8, a9, b1, b2, by rw [e]; exact b3, b4, by rw [e]; exact b5, b6⟩
theorem checks_at {w : World} {base : Nat} {cv : Value} {d : List Int} {s c : Nat} {hs : Nat → Value} (h : w.ownsRow base 31 3 cv c (cvs d s c hs)) (hh : ∀ i, i < c → ∃ p q, hs i = .slice p (hdN d s i).length q ∧ (hdN d s i).length ≤ q ∧ BAt w p (hdN d s i)) : ∃ a k, cv = .slice a c k ∧ CsAt w a (cksN d s c) := by
 rcases h.2 with ⟨rfl, h0⟩ | ⟨g, cap, cur, rfl, hg, hh0, hc, hm, hs', ht⟩
 ·exact ⟨none, 0, by rw [h0], .inl (by rw [h0]; rfl)⟩
 ·have glt : g < w.heap.size := (Array.getElem?_eq_some_iff.1 hh0).1
  have cell : ∀ i, i < c * 3 → w.cell? ⟨g, i, none⟩ = some (ckV d s c hs i) := fun i hi => by
   rw [Lib.cell_of_heap hh0]
   have := cvs_at d s c hs i hi
   rw [← ht, List.getElem?_take_of_lt hi] at this
   simpa using this
  refine ⟨_, _, rfl, .inr ⟨g, 0, rfl, glt, fun k hk => ?_⟩⟩
  rw [cksN_len] at hk
  rw [cksN_at d s c k hk]
  have v0 := cell (k * 3) (by omega)
  have v1 := cell (k * 3 + 1) (by omega)
  have v2 := cell (k * 3 + 2) (by omega)
  unfold ckV at v0 v1 v2
  rw [show k * 3 / 3 = k by omega, show k * 3 % 3 = 0 by omega, if_pos hk] at v0
  rw [show (k * 3 + 1) / 3 = k by omega, show (k * 3 + 1) % 3 = 1 by omega, if_pos hk] at v1
  rw [show (k * 3 + 2) / 3 = k by omega, show (k * 3 + 2) % 3 = 2 by omega, if_pos hk] at v2
  obtain ⟨p, q, e, _, b⟩ := hh k hk
  refine ⟨by rw [Nat.zero_add]; exact v0, by rw [Nat.zero_add]; exact v1, p, q, ?_, b⟩
  rw [Nat.zero_add, v2]
  show some (hs k) = _
  rw [e]; rfl
def LnP (d : List Int) (s : Nat) (w : World) (e : Ending) (w' : World) : Prop :=
 ∃ a t u c ca ct cu cc, e = .returned (.agg #[.slice a d.length ca, .int .i64 (s : Int), .slice t (allX [] [] d).1.length ct, .slice u (allX [] [] d).2.length cu, .slice c (d.length / s + 1) cc]) ∧ (∀ z : World, w'.heap.size ≤ z.heap.size → (∀ q, w.heap.size < q → q < w'.heap.size → z.heap[q]? = w'.heap[q]?) → MAt z a t u c (memX d s)) ∧ Below w.heap.size w w'
theorem l12New_any (d : List Int) (ad : Option Addr) (cd : Nat) (s : Nat) (w : World) (hd : BAt w ad d) (hu : Byt d) (hl : d.length ≤ 240) (hs : 1 ≤ s) (hs2 : s ≤ 60) :
  Calls Tryz.prog 72 #[.slice ad d.length cd, .int .i64 (s : Int)] w fun e w' => LnP d s w e w' := by
 have N0 := below_new w (.cells #[.slice none 0 0, .int .i64 0, .slice none 0 0, .slice none 0 0, .slice none 0 0] 27)
 have R0 := row5 w 27 (.slice none 0 0) (.int .i64 0) (.slice none 0 0) (.slice none 0 0) (.slice none 0 0)
 have KC := Hid.mk' (l1Copy_own ad cd d _ (hd.below N0) (by omega))
 have HB := Hid.mk' N0
 have HD := Hid.mk' hd
 have HU := Hid.mk' hu
 have HR := Hid.mk' R0
 have z0 : (w.alloc (.cells #[.slice none 0 0, .int .i64 0, .slice none 0 0, .slice none 0 0, .slice none 0 0] 27)).heap.size = w.heap.size + 1 := by simp
 have Z0 := Hid.mk' z0
 clear N0 R0 hd hu z0
 generalize hW : w.alloc (.cells #[.slice none 0 0, .int .i64 0, .slice none 0 0, .slice none 0 0, .slice none 0 0] 27) = W at *
 go_enter Tryz.func72, Tryz.ntmps72
 go_wp2_with fail
 clear hW
 refine KC.out.mono ?_
 rintro e w1 ⟨dv, rfl, od, hb1⟩
 obtain ⟨da, dc, rfl, -⟩ := own_src od
 rw [Z0.out] at od
 have B1 := HB.out.trans (hb1.mono HB.out.size)
 have N1 := below_new w1 (.cells #[.slice da d.length dc, .int .i64 (s : Int), .slice none 0 0, .slice none 0 0, .slice none 0 0] 27)
 have N2 := N1.alloc (by simp) (.cells #[] 5)
 have l1 := HR.out.lt
 have l2 := hb1.size
 have M0 : MS w d s 0 0 w1.heap.size (.slice da d.length dc) (.slice none 0 0) (.slice none 0 0) (.slice (some ⟨w1.heap.size + 1, 0, none⟩) 0 0) [] (fun _ => .slice none 0 0) ((w1.alloc (.cells #[.slice da d.length dc, .int .i64 (s : Int), .slice none 0 0, .slice none 0 0, .slice none 0 0] 27)).alloc (.cells #[] 5)) := by
  have e0 : allX [] [] (d.take 0) = ([], []) := by simp [allX]
  refine ⟨B1.trans (N2.mono B1.size), (row5 w1 27 _ _ _ _ _).alloc _, rowB (rowB HR.out hb1) N2, by omega, (fun h => by simp [Value.ownBlock] at h), (fun h => by simp [Value.ownBlock] at h), ?_, (by rw [e0]; rfl), fun u hu => (by cases hu), ⟨rfl, .inl ⟨rfl, rfl⟩⟩, fun q e => by simp [Value.ownBlock] at e, ?_, ?_, ?_, fun i hi => absurd hi (Nat.not_lt_zero _)⟩
  ·rw [e0]; exact ⟨rfl, .inl ⟨rfl, rfl⟩⟩
  ·rw [e0]; exact TC.nil _ _
  ·exact BT.of_own (own_keep od N2) (fun q eq hx => by
    have h1 := od.lt q eq
    rcases hx with h | h | h | h
    ·omega
    ·omega
    ·simp [Value.ownBlock] at h
    ·simp [Value.ownBlock] at h)
  ·rw [e0]; exact ⟨fun _ => False, fun k hk => absurd hk id, _, _, rfl, Nat.le_refl _, fun _ _ => .inl rfl⟩
 have HM := Hid.mk' M0
 clear M0 N1 N2 B1 l1 l2 od hb1 KC HB HR
 go_wp2
 generalize hG : w1.heap.size = g at *
 go_loopw [6, 7] (fun hv i wr => ∃ (k : Nat) (tv cv : Value) (us : List Value) (hvs : Nat → Value), k ≤ d.length + 1 ∧ i = .int .i64 k ∧ MS w d s k ((k + s - 1) / s) g (.slice da d.length dc) tv cv hv us hvs wr) (fun _ i _ => d.length + 1 - (intOf i).toNat)
 case atStart => exact ⟨0, _, _, _, _, Nat.zero_le _, rfl, by rw [show (0 + s - 1) / s = 0 from Nat.div_eq_of_lt (by omega)]; exact HM.out⟩
 case round =>
  obtain ⟨k, tv, cv, us, hvs, hk, rfl, hr⟩ := hrel
  by_cases hlt : k ≤ d.length
  ·have ci : (k : Int) ≤ (d.length : Int) := by omega

   obtain ⟨r, hr1⟩ : ∃ r : Nat, k % s = r := ⟨_, rfl⟩
   have hmod : (k : Int).tmod (s : Int) = (r : Int) := by rw [← hr1]; rfl
   have HR1 := Hid.mk' hr1
   obtain ⟨C, hC⟩ : ∃ C, (k + s - 1) / s = C := ⟨_, rfl⟩
   rw [hC] at hr
   have hC2 : C ≤ k + s - 1 := by rw [← hC]; exact Nat.div_le_self _ _
   have HC := Hid.mk' hC
   clear hC hr1
   have MID : Hid (∀ (C' : Nat) (cv' : Value) (hvs' : Nat → Value) (wm : World), (k + 1 + s - 1) / s = C' → MS w d s k C' g (.slice da d.length dc) tv cv' u6 us hvs' wm → True) := Hid.mk' (fun _ _ _ _ _ _ => trivial)
   clear MID
   obtain ⟨ta, tc, rfl, -⟩ := own_src hr.tr
   obtain ⟨ca, cc, rfl, -⟩ := own_src hr.cr
   obtain ⟨ha, hc, rfl, hcap, hbt⟩ := hr.hd.at
   obtain ⟨c0, c1, c2, c3, c4, gl⟩ := cells5 hr.box
   have HBT := Hid.mk' hbt
   have HMS := Hid.mk' hr
   have hgd : GoodH (allX [] [] (d.take k)).2 := allX_good _ _ _ (.inl rfl)
   have hby : Byt (allX [] [] (d.take k)).2 := allX_byt _ _ _ (fun x hx => HU.out.mem x (List.mem_of_mem_take hx)) Byt.nil
   have lT : (allX [] [] (d.take k)).1.length ≤ 161 * 240 := by
    have := allX_len (d.take k) [] [] (by simp)
    have l2 : (d.take k).length ≤ 240 := by rw [List.length_take]; omega
    simp only [List.length_nil, Nat.zero_add] at this
    omega
   have lH := hgd.len
   have OLD : Hid (∀ q, XB w.heap.size g (.slice ta (allX [] [] (d.take k)).1.length tc) (.slice ca C cc) q → q < wr.heap.size) := Hid.mk' (fun q h => by
    rcases h with h | h | h | h
    ·have := hr.r0.lt; omega
    ·rw [h]; exact hr.box.lt
    ·exact (hr.tr.lt q h).2
    ·exact (hr.cr.lt q h).2)
   have HG := Hid.mk' hgd
   have HY := Hid.mk' hby
   clear hgd hby hr hbt
   generalize hT : (allX [] [] (d.take k)).1 = T at *
   generalize hH : (allX [] [] (d.take k)).2 = H at *
   have HT := Hid.mk' hT
   have HH := Hid.mk' hH
   clear hT hH
   by_cases h0 : r = 0
   ·subst h0
    have H0 := HR1
    have HCS : Hid (C * s = k) := Hid.mk' (by have := (cnt_div hs H0.out).1; rw [HC.out] at this; exact this)
    have HTN : Hid (tkN d s C = T) := Hid.mk' (by show (allX [] [] (d.take (C * s))).1 = T; rw [HCS.out]; exact HT.out)
    have HHN : Hid (hdN d s C = H) := Hid.mk' (by show (allX [] [] (d.take (C * s))).2 = H; rw [HCS.out]; exact HH.out)
    go_wp2
    refine wp_region_held_drew (S := (fun w' => w'.cell? ⟨g, 2, none⟩ = some (.slice ta T.length tc))) (by kernel_rfl) c2 (fun hHeld => ?_)
    refine tkY 0 ?_
    refine tkY 2 ?_
    refine tkY 3 ?_
    refine tkY 4 ?_
    refine tkY 5 ?_
    refine tkY 6 ?_
    refine wpAnyH_ready (rs := [1, 7]) (by kernel_rfl) (by simp) ?_
    refine AllReadyH.cons (o := ⟨_, _, _, _, _, _⟩) rfl (fun K hK => ?_) (AllReadyH.cons (o := ⟨_, _, _, _, _, _⟩) rfl (fun K hK => ?_) AllReadyH.nil)
    ·go_simp
     refine hK.out _ _ (by assumption) (fun hHeld => ?_)
     clear hK K
     try simp only [Act.put, zA, zB, zC]
     refine wpAnyH_ready (rs := [7]) (by kernel_rfl) (by simp) ?_
     refine AllReadyH.cons (o := ⟨_, _, _, _, _, _⟩) rfl (fun K hK => ?_) AllReadyH.nil
     go_simp
     refine (l1Copy_own ha hc H _ (HBT.out.below (Below.refl _ _).drew) (by omega)).mono ?_
     rintro e w2 ⟨v, rfl, ov, hb2⟩
     replace hb2 := undrew hb2
     obtain ⟨va, vc, rfl, -⟩ := own_src ov
     refine hK.out _ _ ((hb2.cell (p := ⟨g, 2, none⟩) gl).trans c2) (fun hHeld => ?_)
     clear hK K
     try simp only [Act.put, zA, zB, zC]
     refine tkY 8 ?_
     refine wpAnyH_ready (rs := [9]) (by kernel_rfl) (by simp) ?_
     refine AllReadyH.cons (o := ⟨_, _, _, _, _, _⟩) rfl (fun K hK => ?_) AllReadyH.nil
     go_simp
     have N3 := below_new w2 (.cells #[.int .i64 (k : Int), .int .i64 (T.length : Int), .slice va H.length vc] 31)
     have B3 := hb2.trans (N3.mono hb2.size)
     refine hK.out _ _ ((B3.cell (p := ⟨g, 2, none⟩) gl).trans c2) (fun hHeld => ?_)
     clear hK K
     try simp only [Act.put, zA, zB, zC]
     have OWC := Hid.mk' (HMS.out.keep B3).cr
     obtain ⟨q0, q1, q2_, q3⟩ := cells3 (row3 w2 31 (.int .i64 (k : Int)) (.int .i64 (T.length : Int)) (.slice va H.length vc))
     have BV : Hid (BT (XB w.heap.size g (.slice ta T.length tc) (.slice ca C cc)) (w2.alloc (.cells #[.int .i64 (k : Int), .int .i64 (T.length : Int), .slice va H.length vc] 31)) (.slice va H.length vc) H) := Hid.mk' (BT.of_own (own_keep ov N3) (fun q eq hx => by
      have h1 := (ov.lt q eq).1
      have h2 := OLD.out q hx
      exact absurd h1 (Nat.not_le_of_lt h2)))
     have HB3 := Hid.mk' B3
     have hbs : Hid (w.heap.size + 1 ≤ (w2.alloc (.cells #[.int .i64 (k : Int), .int .i64 (T.length : Int), .slice va H.length vc] 31)).heap.size) := Hid.mk' (by have := HMS.out.gl; have := HMS.out.box.lt; have := B3.size; omega)
     clear N3 B3
     generalize hW3 : w2.alloc (.cells #[.int .i64 (k : Int), .int .i64 (T.length : Int), .slice va H.length vc] 31) = W3 at *
     refine wpAnyH_ready (rs := [10]) (by kernel_rfl) (by simp) ?_
     refine AllReadyH.cons (o := ⟨_, _, _, _, _, _⟩) rfl (fun K hK => ?_) AllReadyH.nil
     refine step_append_at rfl (.tmp 26) (.tmp 34) 25 rfl (w.heap.size + 1) 31 (.agg #[.int .i64 0, .int .i64 0, .slice none 0 0]) 3 40 Tryz.underlying25 infoCheck rfl (by decide) _ _ _ rfl OWC.out _ 1 1 [.int .i64 (k : Int), .int .i64 (T.length : Int), .slice va H.length vc] rfl rfl (.inr ⟨⟨w2.heap.size, 0, none⟩, rfl, fun j u hu => by
      have hj : j = 0 ∨ j = 1 ∨ j = 2 := by
       have := (List.getElem?_eq_some_iff.1 hu).1
       simp at this; omega
      rcases hj with rfl | rfl | rfl
      ·cases hu; exact q0
      ·cases hu; exact q1
      ·cases hu; exact q2_⟩) (fun u hu => by
      simp only [List.mem_cons, List.mem_nil_iff, or_false] at hu
      rcases hu with rfl | rfl | rfl <;> rfl) (by unfold maxLen; omega) (by omega) hbs.out ?_
     intro cv' w4 ho hg hat
     obtain ⟨ca', cc', rfl, -⟩ := own_src ho
     have NEW := Hid.mk' (HMS.out.check (v := .slice va H.length vc) HB3.out (by rw [HHN.out]; exact BV.out) (by rw [HCS.out, HTN.out]; exact ho) hg hat)
     have RB := rowB HMS.out.box HB3.out
     have RB2 := RB.of_block (hg.block g RB.lt (fun e => HMS.out.gc e.symm))
     obtain ⟨m0, m1, m2, m3, m4, m5⟩ := cells5 RB2
     have fm4 := RB2.frozen 4
     refine hK.out _ _ m2 (fun hHeld => ?_)
     clear hK K ho hat RB
     try simp only [Act.put, zA, zB, zC]
     refine tkY 11 ?_
     refine wpAnyH_ready (rs := [12]) (by kernel_rfl) (by simp) ?_
     refine AllReadyH.cons (o := ⟨_, _, _, _, _, _⟩) rfl (fun K hK => ?_) AllReadyH.nil
     go_simp
     refine hK.out _ _ (by rw [World.cell?_setCell_other _ _ _ _ (by simp)]; exact m2) (fun hHeld => ?_)
     clear hK K
     try simp only [Act.put, zA, zB, zC]
     refine wpAnyH_done (by kernel_rfl) ?_ _
     clear hHeld m0 m1 m2 m3 m4 m5 fm4 RB2 hg q0 q1 q2_ q3 hW3 OWC hbs HB3 BV ov hb2
     have e9 : Hid ((k + 1 + s - 1) / s = C + 1) := Hid.mk' (by have := (cnt_div hs H0.out).2; rw [HC.out] at this; exact this)
     generalize hWM : w4.setCell ⟨g, 4, none⟩ (.slice ca' (C + 1) cc') = WM at *
     clear hWM
     by_cases klt : k < d.length
     ·have ck : (k : Int) < (d.length : Int) := by omega
      rcases HD.out.below NEW.out.bel with hd0 | ⟨b9, o9, rfl, hbs9, hc9⟩
      ·exact absurd klt (by rw [hd0]; exact Nat.not_lt_zero _)
      obtain ⟨y0, y1⟩ := HU.out k klt
      obtain ⟨y, hyy⟩ : ∃ y : Nat, d.getD k 0 = (y : Int) := ⟨(d.getD k 0).toNat, by omega⟩
      rw [hyy] at y1
      have hcell : WM.cell? ⟨b9, o9 + k, none⟩ = some (.int .u8 y) := by rw [← hyy]; exact hc9 k klt
      have ES : Hid (allX [] [] (d.take (k + 1)) = (T ++ (feedX H y).1, (feedX H y).2)) := Hid.mk' (by
       rw [take_snoc_int klt, allX_append, hyy, HT.out, HH.out]
       simp [allX])
      have fl := feedX_len H y
      have pb : BAt WM ha H := by
       obtain ⟨pa, pc, pe, _, pb⟩ := NEW.out.hd.at
       rw [HH.out] at pe pb
       injection pe with pe1 _ _
       all_goals first | (subst pe1; exact pb) | exact pb
      have KF := Hid.mk' (l5Feed_any ha hc H y WM pb HY.out hcap (by omega) (by omega))
      obtain ⟨n0, n1, n2, n3, n4, n5⟩ := cells5 NEW.out.box
      clear hc9 hyy y0 pb
      generalize feedX H y = R at *
      go_wp2_with (first | go_big_skip | fail)
      refine KF.out.mono ?_
      intro e w5 hx
      obtain ⟨v1, u1, us1, rfl, t1, hA, o1, b1⟩ := hx.toks
      obtain ⟨a1, c1_, rfl, s1⟩ := own_src t1.row
      obtain ⟨ua, uc, rfl, -⟩ := own_src o1
      have BX := Hid.mk' (rowB NEW.out.box b1)
      obtain ⟨p0, p1, p2_, p3, p4, p5⟩ := cells5 BX.out
      have OV := Hid.mk' (own_keep NEW.out.tr b1)
      rw [HT.out] at OV
      have S1 := Hid.mk' s1
      have LN := Hid.mk' (tcs_len R.1 us1 t1.len)
      have P1 := Hid.mk' (tcs_one R.1 us1 t1.one)
      have HA := Hid.mk' (hA none (fun k hk => by cases hk))
      have O1 := Hid.mk' o1
      have B2 := Hid.mk' b1
      have T1 := Hid.mk' t1
      have SZ : Hid (w.heap.size + 1 ≤ w5.heap.size) := Hid.mk' (by have := NEW.out.gl; have := NEW.out.box.lt; have := b1.size; omega)
      have GT : Hid (some g ≠ (Value.slice ta T.length tc).ownBlock) := Hid.mk' (fun e => NEW.out.gt e.symm)
      clear hx t1 hA o1 b1 s1 KF n0 n1 n2 n3 n4 n5 hcell
      go_wp2_with (first | (at_builtin; refine wpList_append_at _ rfl (.tmp 51) (.tmp 52) 24 rfl (w.heap.size + 1) 107 (.agg #[.int .i64 0, .int .i64 0, .string ⟨#[]⟩, .slice none 0 0, .bool false]) 5 64 Tryz.underlying24 Tryz.infoTok rfl (by decide) _ _ _ rfl OV.out _ R.1.length _ (tcs R.1 us1) rfl LN.out S1.out P1.out (by unfold maxLen; omega) (by omega) SZ.out ?_; intro tv' w6 ho hg hat; obtain ⟨a6, c6, rfl, _⟩ := own_src ho; have RB6 := BX.out.of_block (hg.block g BX.out.lt GT.out); obtain ⟨k0, k1, k2, k3, k4, k5⟩ := cells5 RB6; have fk2 := RB6.frozen 2; clear RB6) | fail)
      have NEW2 := Hid.mk' (NEW.out.feed (R := R) (hv' := .slice ua R.2.length uc) (by rw [ES.out, HT.out]) B2.out T1.out.len T1.out.one HA.out O1.out (by rw [HT.out]; exact ho) hg hat)
      clear ho hg hat
      go_roundw
      case rel => exact ⟨k + 1, _, _, _, _, by omega, by go_num, by rw [e9.out]; exact NEW2.out⟩
      case measure => first | (simp [intOf]; omega) | simp [intOf]
     ·have ck : ¬ (k : Int) < (d.length : Int) := by omega
      go_wp2
      go_roundw
      case rel => exact ⟨k + 1, _, _, _, _, by omega, by go_num, by rw [e9.out]; exact NEW.out.over (by omega)⟩
      case measure => first | (simp [intOf]; omega) | simp [intOf]

    ·go_simp
     refine (l1Copy_own ha hc H _ (HBT.out.below (Below.refl _ _).drew) (by omega)).mono ?_
     rintro e w2 ⟨v, rfl, ov, hb2⟩
     replace hb2 := undrew hb2
     obtain ⟨va, vc, rfl, -⟩ := own_src ov
     refine hK.out _ _ ((hb2.cell (p := ⟨g, 2, none⟩) gl).trans c2) (fun hHeld => ?_)
     clear hK K
     try simp only [Act.put, zA, zB, zC]
     refine tkY 8 ?_
     have c4' := (hb2.cell (p := ⟨g, 4, none⟩) gl).trans c4
     refine wpAnyH_ready (rs := [1, 9]) (by kernel_rfl) (by simp) ?_
     refine AllReadyH.cons (o := ⟨_, _, _, _, _, _⟩) rfl (fun K hK => ?_) (AllReadyH.cons (o := ⟨_, _, _, _, _, _⟩) rfl (fun K hK => ?_) AllReadyH.nil)
     ·go_simp
      refine hK.out _ _ (by assumption) (fun hHeld => ?_)
      clear hK K c4' 
      try simp only [Act.put, zA, zB, zC]
      refine wpAnyH_ready (rs := [9]) (by kernel_rfl) (by simp) ?_
      refine AllReadyH.cons (o := ⟨_, _, _, _, _, _⟩) rfl (fun K hK => ?_) AllReadyH.nil
      go_simp
      have N3 := below_new w2 (.cells #[.int .i64 (k : Int), .int .i64 (T.length : Int), .slice va H.length vc] 31)
      have B3 := hb2.trans (N3.mono hb2.size)
      refine hK.out _ _ ((B3.cell (p := ⟨g, 2, none⟩) gl).trans c2) (fun hHeld => ?_)
      clear hK K
      try simp only [Act.put, zA, zB, zC]
      have OWC := Hid.mk' (HMS.out.keep B3).cr
      obtain ⟨q0, q1, q2_, q3⟩ := cells3 (row3 w2 31 (.int .i64 (k : Int)) (.int .i64 (T.length : Int)) (.slice va H.length vc))
      have BV : Hid (BT (XB w.heap.size g (.slice ta T.length tc) (.slice ca C cc)) (w2.alloc (.cells #[.int .i64 (k : Int), .int .i64 (T.length : Int), .slice va H.length vc] 31)) (.slice va H.length vc) H) := Hid.mk' (BT.of_own (own_keep ov N3) (fun q eq hx => by
       have h1 := (ov.lt q eq).1
       have h2 := OLD.out q hx
       exact absurd h1 (Nat.not_le_of_lt h2)))
      have HB3 := Hid.mk' B3
      have hbs : Hid (w.heap.size + 1 ≤ (w2.alloc (.cells #[.int .i64 (k : Int), .int .i64 (T.length : Int), .slice va H.length vc] 31)).heap.size) := Hid.mk' (by have := HMS.out.gl; have := HMS.out.box.lt; have := B3.size; omega)
      clear N3 B3
      generalize hW3 : w2.alloc (.cells #[.int .i64 (k : Int), .int .i64 (T.length : Int), .slice va H.length vc] 31) = W3 at *
      refine wpAnyH_ready (rs := [10]) (by kernel_rfl) (by simp) ?_
      refine AllReadyH.cons (o := ⟨_, _, _, _, _, _⟩) rfl (fun K hK => ?_) AllReadyH.nil
      refine step_append_at rfl (.tmp 26) (.tmp 34) 25 rfl (w.heap.size + 1) 31 (.agg #[.int .i64 0, .int .i64 0, .slice none 0 0]) 3 40 Tryz.underlying25 infoCheck rfl (by decide) _ _ _ rfl OWC.out _ 1 1 [.int .i64 (k : Int), .int .i64 (T.length : Int), .slice va H.length vc] rfl rfl (.inr ⟨⟨w2.heap.size, 0, none⟩, rfl, fun j u hu => by
       have hj : j = 0 ∨ j = 1 ∨ j = 2 := by
        have := (List.getElem?_eq_some_iff.1 hu).1
        simp at this; omega
       rcases hj with rfl | rfl | rfl
       ·cases hu; exact q0
       ·cases hu; exact q1
       ·cases hu; exact q2_⟩) (fun u hu => by
       simp only [List.mem_cons, List.mem_nil_iff, or_false] at hu
       rcases hu with rfl | rfl | rfl <;> rfl) (by unfold maxLen; omega) (by omega) hbs.out ?_
      intro cv' w4 ho hg hat
      obtain ⟨ca', cc', rfl, -⟩ := own_src ho
      have NEW := Hid.mk' (HMS.out.check (v := .slice va H.length vc) HB3.out (by rw [HHN.out]; exact BV.out) (by rw [HCS.out, HTN.out]; exact ho) hg hat)
      have RB := rowB HMS.out.box HB3.out
      have RB2 := RB.of_block (hg.block g RB.lt (fun e => HMS.out.gc e.symm))
      obtain ⟨m0, m1, m2, m3, m4, m5⟩ := cells5 RB2
      have fm4 := RB2.frozen 4
      refine hK.out _ _ m2 (fun hHeld => ?_)
      clear hK K ho hat RB
      try simp only [Act.put, zA, zB, zC]
      refine tkY 11 ?_
      refine wpAnyH_ready (rs := [12]) (by kernel_rfl) (by simp) ?_
      refine AllReadyH.cons (o := ⟨_, _, _, _, _, _⟩) rfl (fun K hK => ?_) AllReadyH.nil
      go_simp
      refine hK.out _ _ (by rw [World.cell?_setCell_other _ _ _ _ (by simp)]; exact m2) (fun hHeld => ?_)
      clear hK K
      try simp only [Act.put, zA, zB, zC]
      refine wpAnyH_done (by kernel_rfl) ?_ _
      clear hHeld m0 m1 m2 m3 m4 m5 fm4 RB2 hg q0 q1 q2_ q3 hW3 OWC hbs HB3 BV ov hb2
      have e9 : Hid ((k + 1 + s - 1) / s = C + 1) := Hid.mk' (by have := (cnt_div hs H0.out).2; rw [HC.out] at this; exact this)
      generalize hWM : w4.setCell ⟨g, 4, none⟩ (.slice ca' (C + 1) cc') = WM at *
      clear hWM
      by_cases klt : k < d.length
      ·have ck : (k : Int) < (d.length : Int) := by omega
       rcases HD.out.below NEW.out.bel with hd0 | ⟨b9, o9, rfl, hbs9, hc9⟩
       ·exact absurd klt (by rw [hd0]; exact Nat.not_lt_zero _)
       obtain ⟨y0, y1⟩ := HU.out k klt
       obtain ⟨y, hyy⟩ : ∃ y : Nat, d.getD k 0 = (y : Int) := ⟨(d.getD k 0).toNat, by omega⟩
       rw [hyy] at y1
       have hcell : WM.cell? ⟨b9, o9 + k, none⟩ = some (.int .u8 y) := by rw [← hyy]; exact hc9 k klt
       have ES : Hid (allX [] [] (d.take (k + 1)) = (T ++ (feedX H y).1, (feedX H y).2)) := Hid.mk' (by
        rw [take_snoc_int klt, allX_append, hyy, HT.out, HH.out]
        simp [allX])
       have fl := feedX_len H y
       have pb : BAt WM ha H := by
        obtain ⟨pa, pc, pe, _, pb⟩ := NEW.out.hd.at
        rw [HH.out] at pe pb
        injection pe with pe1 _ _
        all_goals first | (subst pe1; exact pb) | exact pb
       have KF := Hid.mk' (l5Feed_any ha hc H y WM pb HY.out hcap (by omega) (by omega))
       obtain ⟨n0, n1, n2, n3, n4, n5⟩ := cells5 NEW.out.box
       clear hc9 hyy y0 pb
       generalize feedX H y = R at *
       go_wp2_with (first | go_big_skip | fail)
       refine KF.out.mono ?_
       intro e w5 hx
       obtain ⟨v1, u1, us1, rfl, t1, hA, o1, b1⟩ := hx.toks
       obtain ⟨a1, c1_, rfl, s1⟩ := own_src t1.row
       obtain ⟨ua, uc, rfl, -⟩ := own_src o1
       have BX := Hid.mk' (rowB NEW.out.box b1)
       obtain ⟨p0, p1, p2_, p3, p4, p5⟩ := cells5 BX.out
       have OV := Hid.mk' (own_keep NEW.out.tr b1)
       rw [HT.out] at OV
       have S1 := Hid.mk' s1
       have LN := Hid.mk' (tcs_len R.1 us1 t1.len)
       have P1 := Hid.mk' (tcs_one R.1 us1 t1.one)
       have HA := Hid.mk' (hA none (fun k hk => by cases hk))
       have O1 := Hid.mk' o1
       have B2 := Hid.mk' b1
       have T1 := Hid.mk' t1
       have SZ : Hid (w.heap.size + 1 ≤ w5.heap.size) := Hid.mk' (by have := NEW.out.gl; have := NEW.out.box.lt; have := b1.size; omega)
       have GT : Hid (some g ≠ (Value.slice ta T.length tc).ownBlock) := Hid.mk' (fun e => NEW.out.gt e.symm)
       clear hx t1 hA o1 b1 s1 KF n0 n1 n2 n3 n4 n5 hcell
       go_wp2_with (first | (at_builtin; refine wpList_append_at _ rfl (.tmp 51) (.tmp 52) 24 rfl (w.heap.size + 1) 107 (.agg #[.int .i64 0, .int .i64 0, .string ⟨#[]⟩, .slice none 0 0, .bool false]) 5 64 Tryz.underlying24 Tryz.infoTok rfl (by decide) _ _ _ rfl OV.out _ R.1.length _ (tcs R.1 us1) rfl LN.out S1.out P1.out (by unfold maxLen; omega) (by omega) SZ.out ?_; intro tv' w6 ho hg hat; obtain ⟨a6, c6, rfl, _⟩ := own_src ho; have RB6 := BX.out.of_block (hg.block g BX.out.lt GT.out); obtain ⟨k0, k1, k2, k3, k4, k5⟩ := cells5 RB6; have fk2 := RB6.frozen 2; clear RB6) | fail)
       have NEW2 := Hid.mk' (NEW.out.feed (R := R) (hv' := .slice ua R.2.length uc) (by rw [ES.out, HT.out]) B2.out T1.out.len T1.out.one HA.out O1.out (by rw [HT.out]; exact ho) hg hat)
       clear ho hg hat
       go_roundw
       case rel => exact ⟨k + 1, _, _, _, _, by omega, by go_num, by rw [e9.out]; exact NEW2.out⟩
       case measure => first | (simp [intOf]; omega) | simp [intOf]
      ·have ck : ¬ (k : Int) < (d.length : Int) := by omega
       go_wp2
       go_roundw
       case rel => exact ⟨k + 1, _, _, _, _, by omega, by go_num, by rw [e9.out]; exact NEW.out.over (by omega)⟩
       case measure => first | (simp [intOf]; omega) | simp [intOf]

     ·go_simp
      have N3 := below_new w2 (.cells #[.int .i64 (k : Int), .int .i64 (T.length : Int), .slice va H.length vc] 31)
      have B3 := hb2.trans (N3.mono hb2.size)
      refine hK.out _ _ ((B3.cell (p := ⟨g, 2, none⟩) gl).trans c2) (fun hHeld => ?_)
      clear hK K
      try simp only [Act.put, zA, zB, zC]
      have OWC := Hid.mk' (HMS.out.keep B3).cr
      obtain ⟨q0, q1, q2_, q3⟩ := cells3 (row3 w2 31 (.int .i64 (k : Int)) (.int .i64 (T.length : Int)) (.slice va H.length vc))
      have BV : Hid (BT (XB w.heap.size g (.slice ta T.length tc) (.slice ca C cc)) (w2.alloc (.cells #[.int .i64 (k : Int), .int .i64 (T.length : Int), .slice va H.length vc] 31)) (.slice va H.length vc) H) := Hid.mk' (BT.of_own (own_keep ov N3) (fun q eq hx => by
       have h1 := (ov.lt q eq).1
       have h2 := OLD.out q hx
       exact absurd h1 (Nat.not_le_of_lt h2)))
      have HB3 := Hid.mk' B3
      have hbs : Hid (w.heap.size + 1 ≤ (w2.alloc (.cells #[.int .i64 (k : Int), .int .i64 (T.length : Int), .slice va H.length vc] 31)).heap.size) := Hid.mk' (by have := HMS.out.gl; have := HMS.out.box.lt; have := B3.size; omega)
      clear N3 B3
      generalize hW3 : w2.alloc (.cells #[.int .i64 (k : Int), .int .i64 (T.length : Int), .slice va H.length vc] 31) = W3 at *
      have c5' := (HB3.out.cell (p := ⟨g, 4, none⟩) gl).trans c4
      clear c4'
      refine wpAnyH_ready (rs := [1]) (by kernel_rfl) (by simp) ?_
      refine AllReadyH.cons (o := ⟨_, _, _, _, _, _⟩) rfl (fun K hK => ?_) AllReadyH.nil
      go_simp
      refine hK.out _ _ (by assumption) (fun hHeld => ?_)
      clear hK K
      try simp only [Act.put, zA, zB, zC]
      clear c5'
      refine wpAnyH_ready (rs := [10]) (by kernel_rfl) (by simp) ?_
      refine AllReadyH.cons (o := ⟨_, _, _, _, _, _⟩) rfl (fun K hK => ?_) AllReadyH.nil
      refine step_append_at rfl (.tmp 26) (.tmp 34) 25 rfl (w.heap.size + 1) 31 (.agg #[.int .i64 0, .int .i64 0, .slice none 0 0]) 3 40 Tryz.underlying25 infoCheck rfl (by decide) _ _ _ rfl OWC.out _ 1 1 [.int .i64 (k : Int), .int .i64 (T.length : Int), .slice va H.length vc] rfl rfl (.inr ⟨⟨w2.heap.size, 0, none⟩, rfl, fun j u hu => by
       have hj : j = 0 ∨ j = 1 ∨ j = 2 := by
        have := (List.getElem?_eq_some_iff.1 hu).1
        simp at this; omega
       rcases hj with rfl | rfl | rfl
       ·cases hu; exact q0
       ·cases hu; exact q1
       ·cases hu; exact q2_⟩) (fun u hu => by
       simp only [List.mem_cons, List.mem_nil_iff, or_false] at hu
       rcases hu with rfl | rfl | rfl <;> rfl) (by unfold maxLen; omega) (by omega) hbs.out ?_
      intro cv' w4 ho hg hat
      obtain ⟨ca', cc', rfl, -⟩ := own_src ho
      have NEW := Hid.mk' (HMS.out.check (v := .slice va H.length vc) HB3.out (by rw [HHN.out]; exact BV.out) (by rw [HCS.out, HTN.out]; exact ho) hg hat)
      have RB := rowB HMS.out.box HB3.out
      have RB2 := RB.of_block (hg.block g RB.lt (fun e => HMS.out.gc e.symm))
      obtain ⟨m0, m1, m2, m3, m4, m5⟩ := cells5 RB2
      have fm4 := RB2.frozen 4
      refine hK.out _ _ m2 (fun hHeld => ?_)
      clear hK K ho hat RB
      try simp only [Act.put, zA, zB, zC]
      refine tkY 11 ?_
      refine wpAnyH_ready (rs := [12]) (by kernel_rfl) (by simp) ?_
      refine AllReadyH.cons (o := ⟨_, _, _, _, _, _⟩) rfl (fun K hK => ?_) AllReadyH.nil
      go_simp
      refine hK.out _ _ (by rw [World.cell?_setCell_other _ _ _ _ (by simp)]; exact m2) (fun hHeld => ?_)
      clear hK K
      try simp only [Act.put, zA, zB, zC]
      refine wpAnyH_done (by kernel_rfl) ?_ _
      clear hHeld m0 m1 m2 m3 m4 m5 fm4 RB2 hg q0 q1 q2_ q3 hW3 OWC hbs HB3 BV ov hb2
      have e9 : Hid ((k + 1 + s - 1) / s = C + 1) := Hid.mk' (by have := (cnt_div hs H0.out).2; rw [HC.out] at this; exact this)
      generalize hWM : w4.setCell ⟨g, 4, none⟩ (.slice ca' (C + 1) cc') = WM at *
      clear hWM
      by_cases klt : k < d.length
      ·have ck : (k : Int) < (d.length : Int) := by omega
       rcases HD.out.below NEW.out.bel with hd0 | ⟨b9, o9, rfl, hbs9, hc9⟩
       ·exact absurd klt (by rw [hd0]; exact Nat.not_lt_zero _)
       obtain ⟨y0, y1⟩ := HU.out k klt
       obtain ⟨y, hyy⟩ : ∃ y : Nat, d.getD k 0 = (y : Int) := ⟨(d.getD k 0).toNat, by omega⟩
       rw [hyy] at y1
       have hcell : WM.cell? ⟨b9, o9 + k, none⟩ = some (.int .u8 y) := by rw [← hyy]; exact hc9 k klt
       have ES : Hid (allX [] [] (d.take (k + 1)) = (T ++ (feedX H y).1, (feedX H y).2)) := Hid.mk' (by
        rw [take_snoc_int klt, allX_append, hyy, HT.out, HH.out]
        simp [allX])
       have fl := feedX_len H y
       have pb : BAt WM ha H := by
        obtain ⟨pa, pc, pe, _, pb⟩ := NEW.out.hd.at
        rw [HH.out] at pe pb
        injection pe with pe1 _ _
        all_goals first | (subst pe1; exact pb) | exact pb
       have KF := Hid.mk' (l5Feed_any ha hc H y WM pb HY.out hcap (by omega) (by omega))
       obtain ⟨n0, n1, n2, n3, n4, n5⟩ := cells5 NEW.out.box
       clear hc9 hyy y0 pb
       generalize feedX H y = R at *
       go_wp2_with (first | go_big_skip | fail)
       refine KF.out.mono ?_
       intro e w5 hx
       obtain ⟨v1, u1, us1, rfl, t1, hA, o1, b1⟩ := hx.toks
       obtain ⟨a1, c1_, rfl, s1⟩ := own_src t1.row
       obtain ⟨ua, uc, rfl, -⟩ := own_src o1
       have BX := Hid.mk' (rowB NEW.out.box b1)
       obtain ⟨p0, p1, p2_, p3, p4, p5⟩ := cells5 BX.out
       have OV := Hid.mk' (own_keep NEW.out.tr b1)
       rw [HT.out] at OV
       have S1 := Hid.mk' s1
       have LN := Hid.mk' (tcs_len R.1 us1 t1.len)
       have P1 := Hid.mk' (tcs_one R.1 us1 t1.one)
       have HA := Hid.mk' (hA none (fun k hk => by cases hk))
       have O1 := Hid.mk' o1
       have B2 := Hid.mk' b1
       have T1 := Hid.mk' t1
       have SZ : Hid (w.heap.size + 1 ≤ w5.heap.size) := Hid.mk' (by have := NEW.out.gl; have := NEW.out.box.lt; have := b1.size; omega)
       have GT : Hid (some g ≠ (Value.slice ta T.length tc).ownBlock) := Hid.mk' (fun e => NEW.out.gt e.symm)
       clear hx t1 hA o1 b1 s1 KF n0 n1 n2 n3 n4 n5 hcell
       go_wp2_with (first | (at_builtin; refine wpList_append_at _ rfl (.tmp 51) (.tmp 52) 24 rfl (w.heap.size + 1) 107 (.agg #[.int .i64 0, .int .i64 0, .string ⟨#[]⟩, .slice none 0 0, .bool false]) 5 64 Tryz.underlying24 Tryz.infoTok rfl (by decide) _ _ _ rfl OV.out _ R.1.length _ (tcs R.1 us1) rfl LN.out S1.out P1.out (by unfold maxLen; omega) (by omega) SZ.out ?_; intro tv' w6 ho hg hat; obtain ⟨a6, c6, rfl, _⟩ := own_src ho; have RB6 := BX.out.of_block (hg.block g BX.out.lt GT.out); obtain ⟨k0, k1, k2, k3, k4, k5⟩ := cells5 RB6; have fk2 := RB6.frozen 2; clear RB6) | fail)
       have NEW2 := Hid.mk' (NEW.out.feed (R := R) (hv' := .slice ua R.2.length uc) (by rw [ES.out, HT.out]) B2.out T1.out.len T1.out.one HA.out O1.out (by rw [HT.out]; exact ho) hg hat)
       clear ho hg hat
       go_roundw
       case rel => exact ⟨k + 1, _, _, _, _, by omega, by go_num, by rw [e9.out]; exact NEW2.out⟩
       case measure => first | (simp [intOf]; omega) | simp [intOf]
      ·have ck : ¬ (k : Int) < (d.length : Int) := by omega
       go_wp2
       go_roundw
       case rel => exact ⟨k + 1, _, _, _, _, by omega, by go_num, by rw [e9.out]; exact NEW.out.over (by omega)⟩
       case measure => first | (simp [intOf]; omega) | simp [intOf]

   ·have e0 : ((r : Int) == 0) = false := beq_eq_false_iff_ne.2 (by omega)
    have e9 : Hid ((k + 1 + s - 1) / s = C) := Hid.mk' (by have := cnt_not hs (by rw [HR1.out]; exact h0); rw [this]; exact HC.out)
    have NEW := HMS
    have h0' : ¬ (r : Int) = 0 := by omega
    by_cases klt : k < d.length
    ·have ck : (k : Int) < (d.length : Int) := by omega
     rcases HD.out.below NEW.out.bel with hd0 | ⟨b9, o9, rfl, hbs9, hc9⟩
     ·exact absurd klt (by rw [hd0]; exact Nat.not_lt_zero _)
     obtain ⟨y0, y1⟩ := HU.out k klt
     obtain ⟨y, hyy⟩ : ∃ y : Nat, d.getD k 0 = (y : Int) := ⟨(d.getD k 0).toNat, by omega⟩
     rw [hyy] at y1
     have hcell : wr.cell? ⟨b9, o9 + k, none⟩ = some (.int .u8 y) := by rw [← hyy]; exact hc9 k klt
     have ES : Hid (allX [] [] (d.take (k + 1)) = (T ++ (feedX H y).1, (feedX H y).2)) := Hid.mk' (by
      rw [take_snoc_int klt, allX_append, hyy, HT.out, HH.out]
      simp [allX])
     have fl := feedX_len H y
     have pb : BAt wr ha H := by
      obtain ⟨pa, pc, pe, _, pb⟩ := NEW.out.hd.at
      rw [HH.out] at pe pb
      injection pe with pe1 _ _
      all_goals first | (subst pe1; exact pb) | exact pb
     have KF := Hid.mk' (l5Feed_any ha hc H y wr pb HY.out hcap (by omega) (by omega))
     obtain ⟨n0, n1, n2, n3, n4, n5⟩ := cells5 NEW.out.box
     clear hc9 hyy y0 pb
     generalize feedX H y = R at *
     go_wp2_with (first | go_big_skip | fail)
     refine KF.out.mono ?_
     intro e w5 hx
     obtain ⟨v1, u1, us1, rfl, t1, hA, o1, b1⟩ := hx.toks
     obtain ⟨a1, c1_, rfl, s1⟩ := own_src t1.row
     obtain ⟨ua, uc, rfl, -⟩ := own_src o1
     have BX := Hid.mk' (rowB NEW.out.box b1)
     obtain ⟨p0, p1, p2_, p3, p4, p5⟩ := cells5 BX.out
     have OV := Hid.mk' (own_keep NEW.out.tr b1)
     rw [HT.out] at OV
     have S1 := Hid.mk' s1
     have LN := Hid.mk' (tcs_len R.1 us1 t1.len)
     have P1 := Hid.mk' (tcs_one R.1 us1 t1.one)
     have HA := Hid.mk' (hA none (fun k hk => by cases hk))
     have O1 := Hid.mk' o1
     have B2 := Hid.mk' b1
     have T1 := Hid.mk' t1
     have SZ : Hid (w.heap.size + 1 ≤ w5.heap.size) := Hid.mk' (by have := NEW.out.gl; have := NEW.out.box.lt; have := b1.size; omega)
     have GT : Hid (some g ≠ (Value.slice ta T.length tc).ownBlock) := Hid.mk' (fun e => NEW.out.gt e.symm)
     clear hx t1 hA o1 b1 s1 KF n0 n1 n2 n3 n4 n5 hcell
     go_wp2_with (first | (at_builtin; refine wpList_append_at _ rfl (.tmp 51) (.tmp 52) 24 rfl (w.heap.size + 1) 107 (.agg #[.int .i64 0, .int .i64 0, .string ⟨#[]⟩, .slice none 0 0, .bool false]) 5 64 Tryz.underlying24 Tryz.infoTok rfl (by decide) _ _ _ rfl OV.out _ R.1.length _ (tcs R.1 us1) rfl LN.out S1.out P1.out (by unfold maxLen; omega) (by omega) SZ.out ?_; intro tv' w6 ho hg hat; obtain ⟨a6, c6, rfl, _⟩ := own_src ho; have RB6 := BX.out.of_block (hg.block g BX.out.lt GT.out); obtain ⟨k0, k1, k2, k3, k4, k5⟩ := cells5 RB6; have fk2 := RB6.frozen 2; clear RB6) | fail)
     have NEW2 := Hid.mk' (NEW.out.feed (R := R) (hv' := .slice ua R.2.length uc) (by rw [ES.out, HT.out]) B2.out T1.out.len T1.out.one HA.out O1.out (by rw [HT.out]; exact ho) hg hat)
     clear ho hg hat
     go_roundw
     case rel => exact ⟨k + 1, _, _, _, _, by omega, by go_num, by rw [e9.out]; exact NEW2.out⟩
     case measure => first | (simp [intOf]; omega) | simp [intOf]
    ·have ck : ¬ (k : Int) < (d.length : Int) := by omega
     go_wp2
     go_roundw
     case rel => exact ⟨k + 1, _, _, _, _, by omega, by go_num, by rw [e9.out]; exact NEW.out.over (by omega)⟩
     case measure => first | (simp [intOf]; omega) | simp [intOf]

  ·have ci : ¬ (k : Int) ≤ (d.length : Int) := by omega
   obtain rfl : k = d.length + 1 := by omega
   rw [cnt_all d.length s hs] at hr
   have eD : d.take (d.length + 1) = d := List.take_of_length_le (by omega)
   obtain ⟨ha, hc, rfl, hcap, hbt⟩ := hr.hd.at
   obtain ⟨ta, tc, rfl, -⟩ := own_src hr.tr
   obtain ⟨ca, cc, rfl, -⟩ := own_src hr.cr
   have lH : (allX [] [] (d.take (d.length + 1))).2.length ≤ 159 := (allX_good _ _ _ (.inl rfl)).len
   have KC := Hid.mk' (l1Copy_own ha hc _ wr hbt (by omega))
   have HMS := Hid.mk' hr
   obtain ⟨c0, c1, c2, c3, c4, gl⟩ := cells5 hr.box
   have ED := Hid.mk' eD
   clear hr hbt eD
   generalize hT : (allX [] [] (d.take (d.length + 1))).1 = T at *
   generalize hH : (allX [] [] (d.take (d.length + 1))).2 = H at *
   have HT := Hid.mk' hT
   have HH := Hid.mk' hH
   generalize hJ : d.length / s + 1 = J at *
   have HJ := Hid.mk' hJ
   clear hT hH hJ
   go_wp2_with fail
   refine KC.out.mono ?_
   rintro e w2 ⟨v, rfl, ov, hb2⟩
   obtain ⟨va, vc, rfl, -⟩ := own_src ov
   have Y := HMS.out.keep hb2
   obtain ⟨c0, c1, c2, c3, c4, gl⟩ := cells5 Y.box
   obtain ⟨d0, d1, d2, d3, d4, d5⟩ := cells5 Y.r0
   have f3 := Y.box.frozen 3
   have q0 := Y.r0.frozen 0
   have q1 := Y.r0.frozen 1
   have q2_ := Y.r0.frozen 2
   have q3 := Y.r0.frozen 3
   have q4 := Y.r0.frozen 4
   have hne : w.heap.size ≠ g := by have := Y.gl; omega
   have hne2 : g ≠ w.heap.size := by have := Y.gl; omega
   have HY := Hid.mk' Y
   have OV := Hid.mk' ov
   have B2 := Hid.mk' hb2
   clear Y ov hb2 KC
   go_wp2
   refine bodyPost_ret (v := .agg #[.slice da d.length dc, .int .i64 (s : Int), .slice ta T.length tc, .slice va H.length vc, .slice ca J cc]) (by simp [results, Tryz.results72, go_sem, *]) rfl ?_
   have K1 := (KeptIn.refl g (g + 1) w2).setCell (p := ⟨g, 3, none⟩) (by simp) (by simp) (.slice va H.length vc)
   generalize hU : w2.setCell ⟨g, 3, none⟩ (.slice va H.length vc) = U at *
   have K2 := ((((KeptIn.refl w.heap.size (w.heap.size + 1) U).setCell (p := ⟨w.heap.size, 0, none⟩) (by simp) (by simp) (.slice da d.length dc)).setCell (p := ⟨w.heap.size, 1, none⟩) (by simp) (by simp) (.int .i64 (s : Int))).setCell (p := ⟨w.heap.size, 2, none⟩) (by simp) (by simp) (.slice ta T.length tc)).setCell (p := ⟨w.heap.size, 3, none⟩) (by simp) (by simp) (.slice va H.length vc) |>.setCell (p := ⟨w.heap.size, 4, none⟩) (by simp) (by simp) (.slice ca J cc)
   generalize hV : ((((U.setCell ⟨w.heap.size, 0, none⟩ (.slice da d.length dc)).setCell ⟨w.heap.size, 1, none⟩ (.int .i64 (s : Int))).setCell ⟨w.heap.size, 2, none⟩ (.slice ta T.length tc)).setCell ⟨w.heap.size, 3, none⟩ (.slice va H.length vc)).setCell ⟨w.heap.size, 4, none⟩ (.slice ca J cc) = V at *
   have y := HY.out
   have sz1 := K1.size
   have sz2 := K2.size
   have szV : w2.heap.size ≤ V.heap.size := Nat.le_trans sz1 sz2
   have kV : ∀ q, q < w2.heap.size → q ≠ g → q ≠ w.heap.size → V.heap[q]? = w2.heap[q]? := fun q h1 h2 h3 => (K2.block q (by omega) (by omega)).trans (K1.block q h1 (by omega))
   have BV : Below w.heap.size w V := y.bel.trans ⟨K2.os.trans K1.os, K2.tape.trans K1.tape, K2.output.trans K1.output, szV, fun q hq => kV q (by have := y.bel.size; omega) (by have := y.gl; omega) (by omega)⟩
   have eT : T = (allX [] [] d).1 := by rw [← HT.out, ED.out]
   have eH : H = (allX [] [] d).2 := by rw [← HH.out, ED.out]
   unfold LnP
   rw [HJ.out, ← eT, ← eH]
   refine ⟨da, ta, va, ca, dc, tc, vc, cc, rfl, fun z hz hzk => ?_, BV⟩
   have kb : ∀ q, w.heap.size < q → q < w2.heap.size → q ≠ g → z.heap[q]? = w2.heap[q]? := fun q h0 h1 h2 => (hzk q h0 (by omega)).trans (kV q h1 h2 (by omega))
   have kX : ∀ q, q < w2.heap.size → ¬ XB w.heap.size g (.slice ta T.length tc) (.slice ca J cc) q → z.heap[q]? = w2.heap[q]? := fun q h1 h2 => kb q (Nat.lt_of_not_le (fun e => h2 (.inl e))) h1 (fun e => h2 (.inr (.inl e)))
   have szz : w2.heap.size ≤ z.heap.size := Nat.le_trans szV hz
   have bd := (y.dt.step (X' := XB w.heap.size g (.slice ta T.length tc) (.slice ca J cc)) kX szz (fun _ h => .inl h)).at
   have ttr : z.ownsRow (w.heap.size + 1) 107 5 (.slice ta T.length tc) T.length (tcs T us) := by
    have r := y.tr
    rw [HT.out] at r
    exact own_of r (Nat.le_refl _) (fun q eq hq => kb q (by omega) (r.lt q eq).2 (fun e => y.gt (e ▸ eq)))
   have tts := (y.tc.step (X' := XB w.heap.size g (.slice ta T.length tc) (.slice ca J cc)) kX szz (fun _ h => .inl h))
   rw [HT.out] at tts
   have ul := y.ul
   rw [HT.out] at ul
   have tsr := tts.ts ul ttr
   have ovr : z.ownsRow wr.heap.size 5 1 (.slice va H.length vc) H.length (bcs H) := own_of OV.out (Nat.le_refl _) (fun q eq hq => kb q (by have := HMS.out.r0.lt; omega) (OV.out.lt q eq).2 (by have := HMS.out.box.lt; omega))
   have bh := own_bat ovr
   have ccr : z.ownsRow (w.heap.size + 1) 31 3 (.slice ca J cc) J (cvs d s J hvs) := own_of y.cr (Nat.le_refl _) (fun q eq hq => kb q (by omega) (y.cr.lt q eq).2 (fun e => y.gc (e ▸ eq)))
   have ccs := checks_at ccr (fun i hi => ((y.hc i hi).step (X' := XB w.heap.size g (.slice ta T.length tc) (.slice ca J cc)) kX szz (fun _ h => .inl h)).at)
   refine ⟨?_, ?_, ?_, ?_⟩
   ·obtain ⟨p, c, e, _, b⟩ := bd
    injection e with e1 _ _
    rw [e1]; exact b
   ·obtain ⟨p, c, e, b⟩ := tsr
    injection e with e1 _ _
    rw [e1]
    show TsAt z p (allX [] [] d).1
    rw [← eT]; exact b
   ·obtain ⟨p, c, e, b⟩ := bh
    injection e with e1 _ _
    rw [e1]
    show BAt z p (allX [] [] d).2
    rw [← eH]; exact b
   ·obtain ⟨p, c, e, b⟩ := ccs
    injection e with e1 _ _
    rw [e1]
    show CsAt z p (cksN d s (d.length / s + 1))
    rw [HJ.out]; exact b
def LtP (d : List Int) (w : World) (e : Ending) (w' : World) : Prop :=
 (240 < d.length ∧ e = .returned (.agg #[.int .i64 6, .slice none 0 0, .slice none 0 0]) ∧ Below w.heap.size w w') ∨
 (¬ 240 < d.length ∧ ∃ tv us rs bl bh, e = .returned (.agg #[.int .i64 0, tv, .slice none 0 0]) ∧ TP w.heap.size w' tv (lexX d) us rs bl bh ∧ Below w.heap.size w w')
theorem implLT_any (tp : TypeId) (pv : Value) (d : List Int) (ad : Option Addr) (cd : Nat) (w : World) (hE : Env w.heap.size tp pv w) (hd : BAt w ad d) (hu : Byt d) (hl : (d.length : Int) ≤ 9223372036854775807) :
  Calls Tryz.prog 30 #[.slice ad d.length cd] w fun e w' => LtP d w e w' := by
 have N0 := below_new w (.cells #[.int .i64 0, .slice none 0 0, .slice none 0 0] 41)
 have HR := Hid.mk' (row3 w 41 (.int .i64 0) (.slice none 0 0) (.slice none 0 0))
 have KF := Hid.mk' (feedAll_any tp pv d ad cd _ ((hE.keep N0).up N0.size (Nat.le_refl _)) (hd.below N0) hu hl)
 have HB := Hid.mk' N0
 clear N0 hd hE
 generalize hW : w.alloc (.cells #[.int .i64 0, .slice none 0 0, .slice none 0 0] 41) = W at *
 go_enter Tryz.func30, Tryz.ntmps30
 go_wp2_with fail
 clear hW
 refine KF.out.mono ?_
 rintro e w1 (⟨h6, rfl, hb1⟩ | ⟨h6, hv, tv, us, rs, bl, bh, lo, g, rfl, hlo, hx, hb1⟩)
 ·have N1 := below_new w1 (.cells #[.int .i64 6, .slice none 0 0, .slice none 0 0] 41)
  have M1 := hb1.trans (N1.mono hb1.size)
  have B1 := Hid.mk' (HB.out.trans (M1.mono HB.out.size))
  have BQ := Hid.mk' (HB.out.trans (hb1.mono HB.out.size))
  have R1 := rowB HR.out M1
  obtain ⟨y0, y1, y2, y3⟩ := cells3 R1
  have f0 := R1.frozen 0
  have f1 := R1.frozen 1
  have f2 := R1.frozen 2
  obtain ⟨z0, z1, z2, z3⟩ := cells3 (row3 w1 41 (.int .i64 6) (.slice none 0 0) (.slice none 0 0))
  clear hb1 R1 N1 M1 KF
  go_wp2
  refine bodyPost_ret (v := .agg #[.int .i64 6, .slice none 0 0, .slice none 0 0]) (by simp [results, Tryz.results30, go_sem, *]) rfl ?_
  exact .inl ⟨h6, rfl, three B1.out (Nat.le_refl _)⟩
 ·have ug := Hid.mk' (allX_good d [] [] (.inl rfl))
  have ub := Hid.mk' (allX_byt d [] [] hu.mem Byt.nil)
  have ul : (allX [] [] d).1.length ≤ 161 * d.length := by simpa using allX_len d [] [] (by simp)
  have gl := ug.out.len
  obtain ⟨ha, hc, rfl, hbt⟩ := own_bat hx.held
  obtain ⟨ta, tc, rfl, _⟩ := own_src hx.row
  have N1 := below_new w1 (.cells #[.int .i64 0, .slice ta (allX [] [] d).1.length tc, .slice ha (allX [] [] d).2.length hc] 41)
  have M1 := hb1.trans (N1.mono hb1.size)
  have B1 := Hid.mk' (HB.out.trans (M1.mono HB.out.size))
  have R1 := Hid.mk' (rowB HR.out M1)
  have Z1 := row3 w1 41 (.int .i64 0) (.slice ta (allX [] [] d).1.length tc) (.slice ha (allX [] [] d).2.length hc)
  have ZZ := Hid.mk' Z1
  obtain ⟨z0, z1, z2, z3⟩ := cells3 Z1
  have TP1 := Hid.mk' (hx.tp.below N1)
  have KN := Hid.mk' (finishLex_any ha hc _ _ (hbt.below N1) ug.out ub.out)
  have LO := Hid.mk' hlo
  have LW := Hid.mk' (show lo ≤ w1.heap.size by have := hx.lg; have := hx.lt; omega)
  have SB := HB.out.size
  have S1 := hb1.size
  have EX : Hid (lexX d = (allX [] [] d).1 ++ bytesT (allX [] [] d).2) := Hid.mk' rfl
  clear hb1 N1 M1 KF hx hbt Z1 hlo ub ug
  generalize (allX [] [] d).1 = T at *
  generalize (allX [] [] d).2 = H at *
  generalize hV : w1.alloc (.cells #[.int .i64 0, .slice ta T.length tc, .slice ha H.length hc] 41) = V at *
  go_wp2_with fail
  clear hV
  refine KN.out.mono ?_
  rintro e w2 ⟨hv2, tv2, us2, rs2, bl2, bh2, lo2, g2, rfl, hlo2, hx2, hb2⟩
  obtain ⟨ha2, hc2, rfl, _⟩ := own_src hx2.held
  obtain ⟨ta2, tc2, rfl, _⟩ := own_src hx2.row
  have N2 := below_new w2 (.cells #[.int .i64 0, .slice ta2 (bytesT H).length tc2, .slice ha2 0 hc2] 41)
  have M2 := hb2.trans (N2.mono hb2.size)
  obtain ⟨_, _, e2, src2⟩ := own_src (own_keep hx2.row N2)
  cases e2
  have SRC := Hid.mk' src2
  have hlen : Hid ((tcs (bytesT H) us2).length = (bytesT H).length * 5) := Hid.mk' (tcs_len _ _ hx2.ta.len)
  have hone : Hid (∀ u ∈ tcs (bytesT H) us2, u.oneCell' = true) := Hid.mk' (tcs_one _ _ hx2.ta.one)
  have B2 := Hid.mk' (B1.out.trans (M2.mono B1.out.size))
  have R2 := Hid.mk' (rowB R1.out M2)
  obtain ⟨q0, q1, q2_, q3⟩ := cells3 (rowB ZZ.out M2)
  obtain ⟨s0, s1_, s2_, s3_⟩ := cells3 (row3 w2 41 (.int .i64 0) (.slice ta2 (bytesT H).length tc2) (.slice ha2 0 hc2))
  have TPX := Hid.mk' (TP1.out.below M2)
  have TV := Hid.mk' TP1.out
  have MM := Hid.mk' M2
  have TA2 := Hid.mk' ((hx2.ta.below N2).widen hlo2 N2.size)
  have hne : Hid (some w.heap.size ≠ (Value.slice ta T.length tc).ownBlock) := Hid.mk' (fun e => by have := (TP1.out.row.lt _ e.symm).1; have := LO.out; have := HR.out.lt; omega)
  have hlo3 : Hid (∀ k, (Value.slice ta T.length tc).ownBlock = some k → w.heap.size ≤ k) := Hid.mk' (fun k e => by have := (TP1.out.row.lt _ e).1; have := LO.out; omega)
  have bl2' : (bytesT H).length ≤ 160 := by rw [bytesT_len]; omega
  have SZ : Hid (lo ≤ (w2.alloc (.cells #[.int .i64 0, .slice ta2 (bytesT H).length tc2, .slice ha2 0 hc2] 41)).heap.size) := Hid.mk' (by have := LW.out; have := M2.size; have := z3; omega)
  have LWV : Hid (lo ≤ V.heap.size) := Hid.mk' (by have := LW.out; omega)
  clear hx2 hb2 N2 M2 src2 KN z0 z1 z2 z3 TP1 R1 B1 ZZ
  generalize hV2 : w2.alloc (.cells #[.int .i64 0, .slice ta2 (bytesT H).length tc2, .slice ha2 0 hc2] 41) = V2 at *
  go_wp2_with (first | (at_builtin; refine wpList_append_at _ rfl (.tmp 18) (.tmp 20) 24 rfl lo 107 (.agg #[.int .i64 0, .int .i64 0, .string ⟨#[]⟩, .slice none 0 0, .bool false]) 5 64 Tryz.underlying24 Tryz.infoTok rfl (by decide) _ _ _ rfl TPX.out.row _ _ _ (tcs (bytesT H) us2) rfl hlen.out SRC.out hone.out (by unfold maxLen; omega) (by omega) SZ.out ?_; intro v' w3 ho hgr hat; obtain ⟨a', c', rfl, _⟩ := own_src ho; have R3 := R2.out.of_block (hgr.block w.heap.size R2.out.lt hne.out); obtain ⟨y0, y1, y2, y3⟩ := cells3 R3; have f0 := R3.frozen 0; have f1 := R3.frozen 1; have f2 := R3.frozen 2; clear R3) | fail)
  have B3 := Hid.mk' (B2.out.grown hgr (by have := B2.out.size; omega) hlo3.out)
  have TP3 := Hid.mk' (TV.out.app LWV.out MM.out TA2.out ho hgr hat)
  clear ho hgr hat
  refine bodyPost_ret (v := .agg #[.int .i64 0, .slice a' (T.length + (bytesT H).length) c', .slice none 0 0]) (by simp [results, Tryz.results30, go_sem, *]) rfl ?_
  have LOV := LO.out
  have HRL := HR.out.lt
  have TPF := (TP3.out.keep (w' := ((w3.setCell ⟨w.heap.size, 0, none⟩ (.int .i64 0)).setCell ⟨w.heap.size, 1, none⟩ (.slice a' (T.length + (bytesT H).length) c')).setCell ⟨w.heap.size, 2, none⟩ (.slice none 0 0)) (by simp [World.setCell]) (fun k h1 h2 => by
   rw [Deep.blk_setCell_other _ _ _ _ (by show k ≠ w.heap.size; omega), Deep.blk_setCell_other _ _ _ _ (by show k ≠ w.heap.size; omega), Deep.blk_setCell_other _ _ _ _ (by show k ≠ w.heap.size; omega)])).down (show w.heap.size ≤ lo by omega)
  rw [← EX.out] at TPF
  exact .inr ⟨h6, _, _, _, _, _, rfl, TPF, three B3.out (Nat.le_refl _)⟩
theorem TokS.keep {base : Nat} {w w' : World} {v : Value} {ts : List TK} {us : List Value} (h : TokS base w v ts us) (hs : w.heap.size ≤ w'.heap.size) (hk : ∀ k, base ≤ k → k < w.heap.size → w'.heap[k]? = w.heap[k]?) : TokS base w' v ts us :=
 ⟨h.len, own_of h.row (Nat.le_refl _) (fun k e hl => hk k hl (h.row.lt k e).2), h.one, fun i t u ht hu => by
  rcases h.all i t u ht hu with h | ⟨lo, w9, rs, h1, h2, h3, h4, h5⟩
  ·exact .inl h
  ·exact .inr ⟨lo, w9, rs, h1, h2, Nat.le_trans h3 hs, fun k a b => (hk k (by omega) (by omega)).trans (h4 k a b), h5⟩⟩
theorem tssz_app : ∀ (a b : List TK), tssz (a ++ b) = tssz a + tssz b
 | [], b => by simp [tssz]
 | x :: a, b => by simp [tssz, tssz_app a b]; omega
theorem tssz_bytes : ∀ (l : List Int), tssz (bytesT l) = 0
 | [] => rfl
 | x :: l => by
  have := tssz_bytes l
  unfold bytesT at this ⊢
  rw [List.map_cons]
  simp only [tssz, this]
  rfl
theorem asz_end : ∀ (l : List AT) (a : AT), asz (l ++ [a]) = asz l + (a.nm.size + a.vl.length)
 | [], a => by simp [asz]
 | b :: l, a => by simp [asz, asz_end l a]; omega
theorem attr_fits {L : List UInt8} {a : AT} {n : Nat} (h : attrA L = some (a, n)) : a.nm.size + a.vl.length + 1 ≤ n ∧ n ≤ L.length := by
 unfold attrA at h
 split at h
 ·split at h
  ·rename_i h1 h2
   injection h with h
   injection h with ha hn
   have e1 : a.nm.size = (L.take (spn pL L)).length := by rw [← ha]; simp [ByteArray.size]
   have e2 : a.vl.length ≤ ((L.drop (spn pL L + 2)).take (spn pQ (L.drop (spn pL L + 2)))).length := by rw [← ha]; exact Nat.le_trans (dec_len _ _) (Nat.le_refl _)
   rw [List.length_take] at e1 e2
   omega
  ·cases h
 ·cases h
theorem inside_fits : ∀ (f : Nat) (L : List UInt8) (acc l : List AT) (sh : Bool), insideA f L acc = some (l, sh) → l.length + asz l ≤ acc.length + asz acc + L.length
 | 0, L, acc, l, sh, h => by simp [insideA] at h
 | f + 1, L, acc, l, sh, h => by
  unfold insideA at h
  split at h
  ·split at h
   ·cases h; omega
   ·cases h
  ·split at h
   ·split at h
    ·cases h; omega
    ·cases h
   ·split at h
    ·cases h
    ·split at h
     ·cases h
     ·rename_i a n ha
      have h1 := attr_fits ha
      have h2 := inside_fits f _ _ l sh h
      rw [List.length_drop] at h1 h2
      have h3 : (addA acc a).length + asz (addA acc a) ≤ acc.length + asz acc + (a.nm.size + a.vl.length + 1) := by
       unfold addA
       split
       ·omega
       ·rw [asz_end]; simp; omega
      omega
theorem tag_fits {L : List UInt8} {t : TK} (h : tagA L = some t) : tsz t ≤ L.length := by
 unfold tagA at h
 split at h
 ·split at h
  ·split at h
   ·cases h; simp [tsz, asz, ByteArray.size]
   ·cases h
  ·split at h
   ·split at h
    ·cases h; simp [tsz, asz, ByteArray.size]; omega
    ·cases h
   ·split at h
    ·split at h
     ·cases h
     ·rename_i l sh hi
      cases h
      have := inside_fits _ _ _ l sh hi
      rw [List.length_drop] at this
      simp only [tsz, asz, ByteArray.size, List.size_toArray, List.length_take, List.length_drop, List.length_nil] at this ⊢
      omega
    ·cases h
 ·cases h
def wei (ts : List TK) : Nat := ts.length + tssz ts
theorem wei_app (a b : List TK) : wei (a ++ b) = wei a + wei b := by unfold wei; rw [List.length_append, tssz_app]; omega
theorem wei_bytes (l : List Int) : wei (bytesT l) = l.length := by unfold wei; rw [bytesT_len, tssz_bytes]; rfl
theorem len_fits (hs : List Int) (b : Nat) : wei (lenX hs b).1 + 2 * (lenX hs b).2.length ≤ 2 * hs.length + 2 := by
 unfold lenX
 split
 ·show wei (bytesT _) + 2 * 0 ≤ _
  rw [wei_bytes]; simp; omega
 ·show 0 + 2 * (hs ++ [(b : Int)]).length ≤ _
  simp; omega
theorem strU_len (l : List Int) : (strU l).length = l.length := by unfold strU; rw [len_list, strI_size]
theorem feed_fits (hs : List Int) (b : Nat) : wei (feedX hs b).1 + 2 * (feedX hs b).2.length ≤ 2 * hs.length + 2 := by
 unfold feedX
 split
 ·show wei (bytesT (noneT (b : Int))) + 2 * (noneH (b : Int)).length ≤ _
  rw [wei_bytes]
  unfold noneT noneH
  split <;> simp <;> omega
 ·split
  ·show wei (bytesT (refT hs b)) + 2 * (refH hs b).length ≤ _
   rw [wei_bytes]
   unfold refT refH
   split
   ·split
    ·simp
    ·simp; omega
   ·split
    ·split
     ·simp; omega
     ·simp; omega
    ·unfold noneT noneH
     rw [List.length_append]
     split <;> simp <;> omega
  ·unfold tagX
   split
   ·split
    ·rename_i t ht
     have := tag_fits ht
     rw [strU_len] at this
     show ([t].length + (tsz t + 0)) + 2 * 0 ≤ _
     simp at this ⊢
     omega
    ·split
     ·show wei (bytesT _) + 2 * 0 ≤ _
      rw [wei_bytes]; simp; omega
     ·exact len_fits hs b
   ·split
    ·show wei (bytesT hs) + 2 * 1 ≤ _
     rw [wei_bytes]; omega
    ·exact len_fits hs b
theorem all_fits : ∀ (l : List Int) (ts : List TK) (hs : List Int), wei (allX ts hs l).1 + 2 * (allX ts hs l).2.length ≤ wei ts + 2 * hs.length + 2 * l.length
 | [], ts, hs => by show wei ts + 2 * hs.length ≤ _; simp
 | x :: l, ts, hs => by
  have ih := all_fits l (ts ++ (feedX hs x.toNat).1) (feedX hs x.toNat).2
  have := feed_fits hs x.toNat
  rw [wei_app] at ih
  show wei (allX (ts ++ (feedX hs x.toNat).1) (feedX hs x.toNat).2 l).1 + 2 * (allX (ts ++ (feedX hs x.toNat).1) (feedX hs x.toNat).2 l).2.length ≤ _
  rw [List.length_cons]
  omega
theorem lex_fits (d : List Int) : wei (lexX d) ≤ 2 * d.length := by
 have := all_fits d [] []
 unfold lexX
 rw [wei_app, wei_bytes]
 have e : wei [] = 0 := rfl
 rw [e] at this
 simp at this
 omega
theorem csz_mul (b : Nat) : ∀ (l : List CK), (∀ x ∈ l, x.hd.length ≤ b) → csz l ≤ l.length * b
 | [], _ => by simp [csz]
 | x :: l, h => by
  have h1 := csz_mul b l (fun y hy => h y (List.mem_cons_of_mem _ hy))
  have h2 := h x (List.mem_cons_self ..)
  simp only [csz, List.length_cons, Nat.add_mul]
  omega
theorem mem_small (d : List Int) (s : Nat) (hl : d.length ≤ 240) : msz (memX d s) ≤ 100000 := by
 have h1 := all_fits d [] []
 have h2 : csz (cksN d s (d.length / s + 1)) ≤ (cksN d s (d.length / s + 1)).length * 240 := csz_mul 240 _ (fun x hx => by
  unfold cksN at hx
  obtain ⟨j, _, rfl⟩ := List.mem_map.1 hx
  have h3 := all_fits (d.take (j * s)) [] []
  have h4 : (d.take (j * s)).length ≤ 240 := by rw [List.length_take]; omega
  simp only [wei, tssz, List.length_nil] at h3
  show (allX [] [] (d.take (j * s))).2.length ≤ 240
  omega)
 have h5 : d.length / s ≤ d.length := Nat.div_le_self _ _
 rw [cksN_len] at h2
 have h6 : (d.length / s + 1) * 240 ≤ 241 * 240 := Nat.mul_le_mul_right _ (by omega)
 simp only [wei, tssz, List.length_nil] at h1
 unfold msz memX
 dsimp only
 rw [cksN_len]
 omega
theorem beqB_refl (l : List Int) : beqB l l = true := by unfold beqB; simp
def askC (d : List Int) (st : Int) : Int := if 240 < d.length then 6 else if st < 1 ∨ 60 < st then 3 else 0
def memF (m : ME) : Int := if askC m.dt m.st ≠ 0 then askC m.dt m.st else if sameR (memX m.dt m.st.toNat) m then 0 else 1
theorem askC_ok {d : List Int} {st : Int} (h : askC d st = 0) : d.length ≤ 240 ∧ ∃ s : Nat, st = (s : Int) ∧ 1 ≤ s ∧ s ≤ 60 := by
 unfold askC at h
 by_cases h1 : 240 < d.length
 ·rw [if_pos h1] at h; cases h
 ·rw [if_neg h1] at h
  by_cases h2 : st < 1 ∨ 60 < st
  ·rw [if_pos h2] at h; cases h
  ·exact ⟨by omega, st.toNat, by omega, by omega, by omega⟩
theorem l12Asked_any (a : Option Addr) (c : Nat) (d : List Int) (st : Int) (w : World) (hl : (d.length : Int) ≤ 9223372036854775807) :
  Calls Tryz.prog 71 #[.slice a d.length c, .int .i64 st] w fun e w' => e = .returned (.int .i64 (askC d st)) ∧ w' = w := by
 by_cases h1 : 240 < d.length
 ·have c1 : (240 : Int) < d.length := by omega
  have E : Hid (askC d st = 6) := Hid.mk' (by unfold askC; rw [if_pos h1])
  go_enter Tryz.func71, Tryz.ntmps71
  go_wp2
  go_ret
  exact ⟨by rw [E.out]; rfl, rfl⟩
 have c1 : ¬ (240 : Int) < d.length := by omega
 have KI := l1In_any st 1 60 w
 by_cases h2 : st < 1 ∨ 60 < st
 ·have E : Hid (askC d st = 3) := Hid.mk' (by unfold askC; rw [if_neg h1, if_pos h2])
  have e1 : (decide ((1 : Int) ≤ st) && decide (st ≤ 60)) = false := by
   rcases h2 with h | h
   ·rw [decide_eq_false (by omega)]; rfl
   ·rw [decide_eq_false (p := st ≤ 60) (by omega)]; simp
  rw [e1] at KI
  have KI := Hid.mk' KI
  clear h2 e1
  go_enter Tryz.func71, Tryz.ntmps71
  go_wp2_with fail
  refine KI.out.mono ?_
  rintro e w1 ⟨rfl, rfl⟩
  go_wp2
  go_ret
  exact ⟨by rw [E.out]; rfl, rfl⟩
 ·have E : Hid (askC d st = 0) := Hid.mk' (by unfold askC; rw [if_neg h1, if_neg h2])
  have e1 : (decide ((1 : Int) ≤ st) && decide (st ≤ 60)) = true := by
   rw [decide_eq_true (by omega), decide_eq_true (by omega)]; rfl
  rw [e1] at KI
  have KI := Hid.mk' KI
  clear h2 e1
  go_enter Tryz.func71, Tryz.ntmps71
  go_wp2_with fail
  refine KI.out.mono ?_
  rintro e w1 ⟨rfl, rfl⟩
  go_wp2
  go_ret
  exact ⟨by rw [E.out]; rfl, rfl⟩
structure P1 (g : Nat) (m : ME) (a t u c : Option Addr) (ca ct cu cc : Nat) (wi : World) : Prop where
 r : wi.rowIs g 27 5 (r5 (.slice a m.dt.length ca) (.int .i64 m.st) (.slice t m.tk.length ct) (.slice u m.hd.length cu) (.slice c m.cs.length cc))
 m1 : MAt wi a t u c m
theorem P1.below {g : Nat} {m : ME} {a t u c : Option Addr} {ca ct cu cc : Nat} {wi wj : World} (x : P1 g m a t u c ca ct cu cc wi) (hb : Below wi.heap.size wi wj) : P1 g m a t u c ca ct cu cc wj := ⟨rowB x.r hb, x.m1.below hb⟩
theorem l12Fault_any (g : Nat) (m : ME) (a t u c : Option Addr) (ca ct cu cc : Nat) (w : World) (hp : P1 g m a t u c ca ct cu cc w) (hub : Byt m.dt) (hm : (msz m : Int) ≤ 1048576) :
  Calls Tryz.prog 49 #[.pointer (some ⟨g, 0, none⟩)] w fun e w' => e = .returned (.int .i64 (memF m)) ∧ Below w.heap.size w w' := by
 have MS_ : (msz m : Int) = m.dt.length + m.tk.length + tssz m.tk + m.hd.length + m.cs.length + csz m.cs := by unfold msz; omega
 have hl : (m.dt.length : Int) ≤ 9223372036854775807 := by omega
 have HP := Hid.mk' hp
 have HM := Hid.mk' hm
 obtain ⟨x0, x1, x2, x3, x4, x5⟩ := cells5 hp.r
 clear MS_ hp hm
 by_cases h1 : askC m.dt m.st = 0
 rotate_left
 ·have E : Hid (memF m = askC m.dt m.st) := Hid.mk' (by unfold memF; rw [if_pos h1])
  have KA : Hid (∀ v, Calls Tryz.prog 71 #[.slice a m.dt.length ca, .int .i64 m.st] v fun e w' => e = .returned (.int .i64 (askC m.dt m.st)) ∧ w' = v) := Hid.mk' (fun v => l12Asked_any a ca m.dt m.st v hl)
  generalize askC m.dt m.st = K at *
  have h1' : (K != 0) = true := by simp [h1]
  have h1'' : ¬ K = 0 := h1
  clear h1
  go_enter Tryz.func49, Tryz.ntmps49
  go_wp2
  go_region_held3 (fun w' => w'.cell? ⟨g, 0, none⟩ = some (.slice a m.dt.length ca) ∧ w'.cell? ⟨g, 1, none⟩ = some (.int .i64 m.st)) (simp [*])
   ((go_at_call 71; refine (KA.out _).mono ?_; rintro e w1 ⟨rfl, hw1⟩; subst hw1))
  go_wp2
  go_ret
  exact ⟨by rw [E.out]; rfl, (Below.refl _ _).drew⟩
 obtain ⟨h240, s, hst, hs, hs2⟩ := askC_ok h1
 have E : Hid (memF m = if sameR (memX m.dt s) m then 0 else 1) := Hid.mk' (by
  unfold memF
  rw [if_neg (by rw [h1]; simp), hst]; rfl)
 have KA : Hid (∀ v, Calls Tryz.prog 71 #[.slice a m.dt.length ca, .int .i64 (s : Int)] v fun e w' => e = .returned (.int .i64 0) ∧ w' = v) := Hid.mk' (fun v => by rw [← h1, ← hst]; exact l12Asked_any a ca m.dt m.st v hl)
 rw [hst] at x1
 have KN : Hid (∀ v, Below w.heap.size w v → Calls Tryz.prog 72 #[.slice a m.dt.length ca, .int .i64 (s : Int)] v fun e w' => LnP m.dt s v e w') := Hid.mk' (fun v hb => l12New_any m.dt a ca s v (HP.out.m1.1.below hb) hub h240 hs hs2)
 have ES : Hid (sameM (memX m.dt s) m = sameR (memX m.dt s) m) := Hid.mk' (by
  unfold sameM
  show (beqB m.dt m.dt && (((s : Int) == m.st) && sameR (memX m.dt s) m)) = _
  rw [beqB_refl, hst]; simp)
 have HST := Hid.mk' hst
 have HX := Hid.mk' (mem_small m.dt s h240)
 clear h1 hst hs hs2 h240 hub
 go_enter Tryz.func49, Tryz.ntmps49
 go_wp2
 go_region_held3 (fun w' => w'.cell? ⟨g, 0, none⟩ = some (.slice a m.dt.length ca) ∧ w'.cell? ⟨g, 1, none⟩ = some (.int .i64 (s : Int))) (simp [*])
  ((go_at_call 71; refine (KA.out _).mono ?_; rintro e w1 ⟨rfl, hw1⟩; subst hw1))
 clear KA
 obtain ⟨T, hT⟩ : ∃ T, (allX [] [] m.dt).1 = T := ⟨_, rfl⟩
 obtain ⟨H, hH⟩ : ∃ H, (allX [] [] m.dt).2 = H := ⟨_, rfl⟩
 obtain ⟨J, hJ⟩ : ∃ J, m.dt.length / s + 1 = J := ⟨_, rfl⟩
 have KN : Hid (∀ v, Below w.heap.size w v → Calls Tryz.prog 72 #[.slice a m.dt.length ca, .int .i64 (s : Int)] v fun e w' => ∃ pa pt pu pc qa qt qu qc, e = .returned (.agg #[.slice pa m.dt.length qa, .int .i64 (s : Int), .slice pt T.length qt, .slice pu H.length qu, .slice pc J qc]) ∧ (∀ z : World, w'.heap.size ≤ z.heap.size → (∀ q, v.heap.size < q → q < w'.heap.size → z.heap[q]? = w'.heap[q]?) → MAt z pa pt pu pc (memX m.dt s)) ∧ Below v.heap.size v w') := Hid.mk' (fun v hb => by
  have := KN.out v hb
  unfold LnP at this
  rw [hT, hH, hJ] at this
  exact this)
 have KS : Hid (∀ (x : Nat) (v : World) (pa pt pu pc : Option Addr) (qa qt qu qc : Nat), v.rowIs x 27 5 (r5 (.slice pa m.dt.length qa) (.int .i64 (s : Int)) (.slice pt T.length qt) (.slice pu H.length qu) (.slice pc J qc)) → MAt v pa pt pu pc (memX m.dt s) → Below w.heap.size w v → Calls Tryz.prog 48 #[.pointer (some ⟨x, 0, none⟩), .pointer (some ⟨g, 0, none⟩)] v fun e w' => e = .returned (.bool (sameR (memX m.dt s) m)) ∧ Below v.heap.size v w') := Hid.mk' (fun x v pa pt pu pc qa qt qu qc hr hm hb => by
  have px := HP.out.below hb
  have := l12Same_any x g (memX m.dt s) m pa pt pu pc a t u c qa qt qu qc ca ct cu cc v ⟨by
   show World.rowIs _ _ _ _ (r5 (.slice pa m.dt.length qa) (.int .i64 (s : Int)) (.slice pt (allX [] [] m.dt).1.length qt) (.slice pu (allX [] [] m.dt).2.length qu) (.slice pc (cksN m.dt s (m.dt.length / s + 1)).length qc))
   rw [cksN_len, hT, hH, hJ]; exact hr, px.r, hm, px.m1⟩ (by have := HX.out; omega) HM.out
  rw [ES.out] at this
  exact this)
 clear hT hH hJ HX
 generalize hR : sameR (memX m.dt s) m = R at *
 clear hR
 have HCE : Hid (∀ v, Below w.heap.size w v → (fun w' => w'.cell? ⟨g, 0, none⟩ = some (.slice a m.dt.length ca) ∧ w'.cell? ⟨g, 1, none⟩ = some (.int .i64 (s : Int))) v) := Hid.mk' (fun v hb => ⟨(hb.cell x5).trans x0, (hb.cell x5).trans x1⟩)
 clear x0 x1 x2 x3 x4 x5
 have DD : Hid (Below w.heap.size w w.drew.drew) := Hid.mk' ((Below.refl _ _).drew.drew)
 go_wp2
 refine wp_region_held_drew (S := (fun w' => w'.cell? ⟨g, 0, none⟩ = some (.slice a m.dt.length ca) ∧ w'.cell? ⟨g, 1, none⟩ = some (.int .i64 (s : Int)))) (by kernel_rfl) (HCE.out _ DD.out) (fun hHeld => ?_)
 refine tkY 0 ?_
 refine tkY 1 ?_
 refine tkY 2 ?_
 refine tkY 3 ?_
 refine tkY 4 ?_
 refine tkY 5 ?_
 refine tkY 6 ?_
 refine tkY 7 ?_
 refine wpAnyH_ready (rs := [8, 9]) (by kernel_rfl) (by simp) ?_
 refine AllReadyH.cons (o := ⟨_, _, _, _, _, _⟩) rfl (fun K hK => ?_) (AllReadyH.cons (o := ⟨_, _, _, _, _, _⟩) rfl (fun K hK => ?_) AllReadyH.nil)
 ·go_simp
  refine (KN.out _ DD.out).mono ?_
  rintro e w1 ⟨pa, pt, pu, pc, qa, qt, qu, qc, rfl, hmx, hb1⟩
  have B1 := DD.out.trans (hb1.mono DD.out.size)
  refine hK.out _ _ (HCE.out _ B1) (fun hHeld => ?_)
  clear hK K
  try simp only [Act.put, zA, zB, zC]
  refine wpAnyH_ready (rs := [9]) (by kernel_rfl) (by simp) ?_
  refine AllReadyH.cons (o := ⟨_, _, _, _, _, _⟩) rfl (fun K hK => ?_) AllReadyH.nil
  go_simp
  refine hK.out _ _ (HCE.out _ (B1.trans ((below_new w1 _).mono B1.size))) (fun hHeld => ?_)
  clear hK K
  try simp only [Act.put, zA, zB, zC]
  have Z := row5 w1 27 (.slice none 0 0) (.int .i64 0) (.slice none 0 0) (.slice none 0 0) (.slice none 0 0)
  obtain ⟨z0, z1, z2, z3, z4, z5⟩ := cells5 Z
  have y0 := Z.frozen 0
  have y1 := Z.frozen 1
  have y2 := Z.frozen 2
  have y3 := Z.frozen 3
  have y4 := Z.frozen 4
  refine wpAnyH_ready (rs := [10]) (by kernel_rfl) (by simp) ?_
  refine AllReadyH.cons (o := ⟨_, _, _, _, _, _⟩) rfl (fun K hK => ?_) AllReadyH.nil
  go_simp
  refine hK.out _ _ (HCE.out _ (B1.trans ((below_new w1 _).mono B1.size))) (fun hHeld => ?_)
  clear hK K
  try simp only [Act.put, zA, zB, zC]
  have N1 := below_new w1 (.cells #[.slice pa m.dt.length qa, .int .i64 (s : Int), .slice pt T.length qt, .slice pu H.length qu, .slice pc J qc] 27)
  have BX := Hid.mk' (B1.trans (N1.mono B1.size))
  have RX := Hid.mk' (row5 w1 27 (.slice pa m.dt.length qa) (.int .i64 (s : Int)) (.slice pt T.length qt) (.slice pu H.length qu) (.slice pc J qc))
  have MX := Hid.mk' (hmx _ N1.size (fun q _ h => N1.block q h))
  clear N1 B1 hb1 hmx Z z0 z1 z2 z3 z4 z5 y0 y1 y2 y3 y4
  generalize hV : w1.alloc (.cells #[.slice pa m.dt.length qa, .int .i64 (s : Int), .slice pt T.length qt, .slice pu H.length qu, .slice pc J qc] 27) = V at *
  clear hV
  refine wpAnyH_done (by kernel_rfl) ?_ _
  clear hHeld
  cases R with
  | true =>
   go_wp2_with fail
   refine (KS.out _ _ _ _ _ _ _ _ _ _ RX.out MX.out BX.out).mono ?_
   rintro e w2 ⟨rfl, hb2⟩
   have HB2 := Hid.mk' (BX.out.trans (hb2.mono BX.out.size))
   clear hb2 KS
   go_wp2
   go_ret
   exact ⟨by rw [E.out]; rfl, HB2.out⟩
  | false =>
   go_wp2_with fail
   refine (KS.out _ _ _ _ _ _ _ _ _ _ RX.out MX.out BX.out).mono ?_
   rintro e w2 ⟨rfl, hb2⟩
   have HB2 := Hid.mk' (BX.out.trans (hb2.mono BX.out.size))
   clear hb2 KS
   go_wp2
   go_ret
   exact ⟨by rw [E.out]; rfl, HB2.out⟩
 ·go_simp
  have NB := below_new w (.cells #[.slice none 0 0, .int .i64 0, .slice none 0 0, .slice none 0 0, .slice none 0 0] 27)
  have DB : Below w.heap.size w (w.alloc (.cells #[.slice none 0 0, .int .i64 0, .slice none 0 0, .slice none 0 0, .slice none 0 0] 27)).drew.drew := NB.drew.drew
  refine hK.out _ _ (HCE.out _ DB) (fun hHeld => ?_)
  clear hK K
  try simp only [Act.put, zA, zB, zC]
  refine wpAnyH_ready (rs := [8]) (by kernel_rfl) (by simp) ?_
  refine AllReadyH.cons (o := ⟨_, _, _, _, _, _⟩) rfl (fun K hK => ?_) AllReadyH.nil
  go_simp
  refine (KN.out _ DB).mono ?_
  rintro e w1 ⟨pa, pt, pu, pc, qa, qt, qu, qc, rfl, hmx, hb1⟩
  replace hb1 : Below (w.alloc (.cells #[.slice none 0 0, .int .i64 0, .slice none 0 0, .slice none 0 0, .slice none 0 0] 27)).heap.size (w.alloc (.cells #[.slice none 0 0, .int .i64 0, .slice none 0 0, .slice none 0 0, .slice none 0 0] 27)) w1 := undrew (undrew hb1)
  have B1 := NB.trans (hb1.mono NB.size)
  refine hK.out _ _ (HCE.out _ B1) (fun hHeld => ?_)
  clear hK K
  try simp only [Act.put, zA, zB, zC]
  have Z := rowB (row5 w 27 (.slice none 0 0) (.int .i64 0) (.slice none 0 0) (.slice none 0 0) (.slice none 0 0)) hb1
  obtain ⟨z0, z1, z2, z3, z4, z5⟩ := cells5 Z
  have y0 := Z.frozen 0
  have y1 := Z.frozen 1
  have y2 := Z.frozen 2
  have y3 := Z.frozen 3
  have y4 := Z.frozen 4
  have K1 := ((((KeptIn.refl w.heap.size (w.heap.size + 1) w1).setCell (p := ⟨w.heap.size, 0, none⟩) (by simp) (by simp) (.slice pa m.dt.length qa)).setCell (p := ⟨w.heap.size, 1, none⟩) (by simp) (by simp) (.int .i64 (s : Int))).setCell (p := ⟨w.heap.size, 2, none⟩) (by simp) (by simp) (.slice pt T.length qt)).setCell (p := ⟨w.heap.size, 3, none⟩) (by simp) (by simp) (.slice pu H.length qu) |>.setCell (p := ⟨w.heap.size, 4, none⟩) (by simp) (by simp) (.slice pc J qc)
  have B2 := B1.trans (K1.below (Nat.le_refl _) B1.size)
  refine wpAnyH_ready (rs := [10]) (by kernel_rfl) (by simp) ?_
  refine AllReadyH.cons (o := ⟨_, _, _, _, _, _⟩) rfl (fun K hK => ?_) AllReadyH.nil
  go_simp
  refine hK.out _ _ (HCE.out _ B2) (fun hHeld => ?_)
  clear hK K
  try simp only [Act.put, zA, zB, zC]
  have BX := Hid.mk' B2
  have RX := Hid.mk' ((((((Z.set 0 (.slice pa m.dt.length qa)).set 1 (.int .i64 (s : Int))).set 2 (.slice pt T.length qt)).set 3 (.slice pu H.length qu)).set 4 (.slice pc J qc)).congr (g := r5 (.slice pa m.dt.length qa) (.int .i64 (s : Int)) (.slice pt T.length qt) (.slice pu H.length qu) (.slice pc J qc)) (fun i hi => by
   have h : i = 0 ∨ i = 1 ∨ i = 2 ∨ i = 3 ∨ i = 4 := by omega
   rcases h with rfl | rfl | rfl | rfl | rfl <;> simp [r5]))
  have MX := Hid.mk' (hmx _ K1.size (fun q h1 h2 => K1.block q h2 (.inr (by simp at h1; omega))))
  clear NB DB B1 B2 hb1 hmx Z K1 z0 z1 z2 z3 z4 z5 y0 y1 y2 y3 y4
  generalize hV : ((((w1.setCell ⟨w.heap.size, 0, none⟩ (.slice pa m.dt.length qa)).setCell ⟨w.heap.size, 1, none⟩ (.int .i64 (s : Int))).setCell ⟨w.heap.size, 2, none⟩ (.slice pt T.length qt)).setCell ⟨w.heap.size, 3, none⟩ (.slice pu H.length qu)).setCell ⟨w.heap.size, 4, none⟩ (.slice pc J qc) = V at *
  clear hV
  refine wpAnyH_done (by kernel_rfl) ?_ _
  clear hHeld
  cases R with
  | true =>
   go_wp2_with fail
   refine (KS.out _ _ _ _ _ _ _ _ _ _ RX.out MX.out BX.out).mono ?_
   rintro e w2 ⟨rfl, hb2⟩
   have HB2 := Hid.mk' (BX.out.trans (hb2.mono BX.out.size))
   clear hb2 KS
   go_wp2
   go_ret
   exact ⟨by rw [E.out]; rfl, HB2.out⟩
  | false =>
   go_wp2_with fail
   refine (KS.out _ _ _ _ _ _ _ _ _ _ RX.out MX.out BX.out).mono ?_
   rintro e w2 ⟨rfl, hb2⟩
   have HB2 := Hid.mk' (BX.out.trans (hb2.mono BX.out.size))
   clear hb2 KS
   go_wp2
   go_ret
   exact ⟨by rw [E.out]; rfl, HB2.out⟩
theorem takeM_all (d : List Int) (s : Nat) (hs : 1 ≤ s) : d.take ((d.length / s + 1) * s) = d := List.take_of_length_le (by
 have h1 := Nat.div_add_mod d.length s
 have h2 := Nat.mod_lt d.length (show 0 < s by omega)
 rw [Nat.add_mul, Nat.mul_comm (d.length / s)]; omega)
theorem NM.at {base : Nat} {d : List Int} {s : Nat} {gd gc : Nat} {tv : Value} {hvs : Nat → Value} {us : List Value} {rs : Nat → List Value} {bl bh : Nat → Nat} {w : World} (x : NM base d s gd gc tv hvs us rs bl bh w) (hs : 1 ≤ s) : ∃ ta tc ha hc, tv = .slice ta (allX [] [] d).1.length tc ∧ hvs (d.length / s + 1) = .slice ha (allX [] [] d).2.length hc ∧ MAt w (some ⟨gd, 0, none⟩) ta ha (some ⟨gc, 0, none⟩) (memX d s) := by
 obtain ⟨ta, tc, e1, b1⟩ := x.rx.tp.tsAtN
 obtain ⟨ha, hc, e2, b2⟩ := own_bat (x.rx.own (d.length / s + 1) (Nat.le_refl _))
 have et1 : tkN d s (d.length / s + 1) = (allX [] [] d).1 := by show (allX [] [] (d.take _)).1 = _; rw [takeM_all d s hs]
 have et2 : hdN d s (d.length / s + 1) = (allX [] [] d).2 := by show (allX [] [] (d.take _)).2 = _; rw [takeM_all d s hs]
 rw [et1] at e1 b1
 rw [et2] at e2 b2
 refine ⟨ta, tc, ha, hc, e1, e2, .of_row x.dt, b1, b2, ?_⟩
 show CsAt w (some ⟨gc, 0, none⟩) (cksN d s (d.length / s + 1))
 refine .inr ⟨gc, 0, rfl, x.ck.lt, fun k hk => ?_⟩
 rw [cksN_len] at hk
 rw [cksN_at d s _ k hk]
 have v0 := x.ck.cell (i := k * 3) (by omega)
 have v1 := x.ck.cell (i := k * 3 + 1) (by omega)
 have v2 := x.ck.cell (i := k * 3 + 2) (by omega)
 unfold ckV at v0 v1 v2
 rw [show k * 3 / 3 = k by omega, show k * 3 % 3 = 0 by omega, if_pos hk] at v0
 rw [show (k * 3 + 1) / 3 = k by omega, show (k * 3 + 1) % 3 = 1 by omega, if_pos hk] at v1
 rw [show (k * 3 + 2) / 3 = k by omega, show (k * 3 + 2) % 3 = 2 by omega, if_pos hk] at v2
 obtain ⟨p, q, e, b⟩ := own_bat (x.rx.own k (by omega))
 refine ⟨by rw [Nat.zero_add]; exact v0, by rw [Nat.zero_add]; exact v1, p, q, ?_, b⟩
 rw [Nat.zero_add, v2]
 show some (hvs k) = _
 rw [e]; rfl
theorem NM.down {base base' : Nat} {d : List Int} {s : Nat} {gd gc : Nat} {tv : Value} {hvs : Nat → Value} {us : List Value} {rs : Nat → List Value} {bl bh : Nat → Nat} {w : World} (x : NM base d s gd gc tv hvs us rs bl bh w) (h : base' ≤ base) : NM base' d s gd gc tv hvs us rs bl bh w :=
 ⟨by obtain ⟨v, h1, h2⟩ := x.v1; exact ⟨v, h1, h2.down h⟩, x.rx.down h, x.dt, x.ck, by have := x.o1; omega, x.o2⟩
def RmP (m : ME) (w : World) (e : Ending) (w' : World) : Prop :=
 (¬ memF m = 0 ∧ e = .returned (.tuple #[.agg #[.slice none 0 0, .int .i64 0, .slice none 0 0, .slice none 0 0, .slice none 0 0], .int .i64 (memF m)]) ∧ Below w.heap.size w w') ∨
 (memF m = 0 ∧ m.dt.length ≤ 240 ∧ ∃ s : Nat, m.st = (s : Int) ∧ 1 ≤ s ∧ s ≤ 60 ∧ sameR (memX m.dt s) m = true ∧ ∃ gd gc tv hvs us rs bl bh, e = .returned (.tuple #[.agg #[.slice (some ⟨gd, 0, none⟩) m.dt.length m.dt.length, .int .i64 (s : Int), tv, hvs (m.dt.length / s + 1), .slice (some ⟨gc, 0, none⟩) (m.dt.length / s + 1) (m.dt.length / s + 1)], .int .i64 0]) ∧ NM (w.heap.size + 1) m.dt s gd gc tv hvs us rs bl bh w' ∧ Below w.heap.size w w')
theorem askC_large {d : List Int} {st : Int} (h : 240 < d.length) : askC d st = 6 := by unfold askC; rw [if_pos h]
theorem askC_range {d : List Int} {st : Int} (h : d.length ≤ 240) (h2 : st < 1 ∨ 60 < st) : askC d st = 3 := by unfold askC; rw [if_neg (by omega), if_pos h2]
theorem askC_good {d : List Int} {s : Nat} (h : d.length ≤ 240) (h1 : 1 ≤ s) (h2 : s ≤ 60) : askC d (s : Int) = 0 := by unfold askC; rw [if_neg (by omega), if_neg (by omega)]
theorem boxesR (w : World) (x0 x1 x2 x3 x4 : Value) :
  let W := (w.alloc (.cells #[x0, x1, x2, x3, x4] 27)).alloc (.cells #[.slice none 0 0, .int .i64 0, .slice none 0 0, .slice none 0 0, .slice none 0 0] 27)
  Below w.heap.size w W ∧ W.rowIs w.heap.size 27 5 (r5 x0 x1 x2 x3 x4) ∧ W.rowIs (w.heap.size + 1) 27 5 (r5 (.slice none 0 0) (.int .i64 0) (.slice none 0 0) (.slice none 0 0) (.slice none 0 0)) := by
 obtain ⟨B0, R1, R2⟩ := two5 w 27 x0 x1 x2 x3 x4 (.slice none 0 0) (.int .i64 0) (.slice none 0 0) (.slice none 0 0) (.slice none 0 0)
 exact ⟨B0, R1, R2⟩
theorem fiveM {B : Nat} {w w' : World} (h : Below B w w') {c : Nat} {v0 v1 v2 v3 v4 : Value} (hc : B ≤ c) : Below B w (((((w'.setCell ⟨c, 0, none⟩ v0).setCell ⟨c, 1, none⟩ v1).setCell ⟨c, 2, none⟩ v2).setCell ⟨c, 3, none⟩ v3).setCell ⟨c, 4, none⟩ v4) :=
 ((((h.setCell (p := ⟨c, 0, none⟩) hc v0).setCell (p := ⟨c, 1, none⟩) hc v1).setCell (p := ⟨c, 2, none⟩) hc v2).setCell (p := ⟨c, 3, none⟩) hc v3).setCell (p := ⟨c, 4, none⟩) hc v4
theorem kept5 (w' : World) (c : Nat) (v0 v1 v2 v3 v4 : Value) : KeptIn c (c + 1) w' (((((w'.setCell ⟨c, 0, none⟩ v0).setCell ⟨c, 1, none⟩ v1).setCell ⟨c, 2, none⟩ v2).setCell ⟨c, 3, none⟩ v3).setCell ⟨c, 4, none⟩ v4) :=
 (((((KeptIn.refl c (c + 1) w').setCell (p := ⟨c, 0, none⟩) (by simp) (by simp) v0).setCell (p := ⟨c, 1, none⟩) (by simp) (by simp) v1).setCell (p := ⟨c, 2, none⟩) (by simp) (by simp) v2).setCell (p := ⟨c, 3, none⟩) (by simp) (by simp) v3).setCell (p := ⟨c, 4, none⟩) (by simp) (by simp) v4
theorem rightMemo_any (tp : TypeId) (pv : Value) (m : ME) (a t u c : Option Addr) (ca ct cu cc : Nat) (w : World) (hE : Env w.heap.size tp pv w) (h1 : MAt w a t u c m) (hca : m.dt.length ≤ ca) (hub : Byt m.dt) (hm : (msz m : Int) ≤ 1048576) :
  Calls Tryz.prog 43 #[.agg #[.slice a m.dt.length ca, .int .i64 m.st, .slice t m.tk.length ct, .slice u m.hd.length cu, .slice c m.cs.length cc]] w fun e w' => RmP m w e w' := by
 have MS_ : (msz m : Int) = m.dt.length + m.tk.length + tssz m.tk + m.hd.length + m.cs.length + csz m.cs := by unfold msz; omega
 obtain ⟨B0, R1, R2⟩ := boxesR w (.slice a m.dt.length ca) (.int .i64 m.st) (.slice t m.tk.length ct) (.slice u m.hd.length cu) (.slice c m.cs.length cc)
 have KN := Hid.mk' (implNM_any tp pv m.dt m.st a ca _ ((hE.keep B0).up B0.size (Nat.le_refl _)) (h1.1.below B0) hca hub (by omega))
 have HA := Hid.mk' (h1.below B0)
 have HB := Hid.mk' B0
 have H1 := Hid.mk' R1
 have H2 := Hid.mk' R2
 have HM := Hid.mk' hm
 clear MS_ B0 R1 R2 hE h1 hub hm
 generalize hW : (w.alloc (.cells #[.slice a m.dt.length ca, .int .i64 m.st, .slice t m.tk.length ct, .slice u m.hd.length cu, .slice c m.cs.length cc] 27)).alloc (.cells #[.slice none 0 0, .int .i64 0, .slice none 0 0, .slice none 0 0, .slice none 0 0] 27) = W at *
 obtain ⟨x0, x1, x2, x3, x4, x5⟩ := cells5 H1.out
 go_enter Tryz.func43, Tryz.ntmps43
 go_wp2_with fail
 clear hW x0 x1 x2 x3 x4 x5
 refine KN.out.mono ?_
 rintro e w1 (⟨h6, rfl, hb1⟩ | ⟨h6, h3, rfl, hb1⟩ | ⟨h6, s, hst, hs, hs2, gd, gc, tv, hvs, us, rs, bl, bh, rfl, hx, hb1⟩)
 ·have K6 : Hid (askC m.dt m.st = 6) := Hid.mk' (askC_large h6)
  clear h6
  have N1 := below_new w1 (.cells #[.int .i64 6, .int .i64 0, .slice none 0 0, .int .i64 0, .slice none 0 0, .slice none 0 0, .slice none 0 0] 50)
  have M1 := hb1.trans (N1.mono hb1.size)
  have RZ := rowB H2.out M1
  obtain ⟨y0, y1, y2, y3, y4, y5⟩ := cells5 RZ
  have f0 := RZ.frozen 0
  have f1 := RZ.frozen 1
  have f2 := RZ.frozen 2
  have f3 := RZ.frozen 3
  have f4 := RZ.frozen 4
  have Q7 := row7 w1 50 (.int .i64 6) (.int .i64 0) (.slice none 0 0) (.int .i64 0) (.slice none 0 0) (.slice none 0 0) (.slice none 0 0)
  obtain ⟨z0, z1, z2, z3, z4, z5, z6, z7⟩ := cells7 Q7
  have B1 := Hid.mk' (HB.out.trans (M1.mono HB.out.size))
  have hne : w.heap.size + 1 ≠ w1.heap.size := by have := H2.out.lt; have := hb1.size; omega
  have HNE := Hid.mk' hne
  clear N1 M1 RZ Q7 hb1
  go_wp2
  generalize hV : w1.alloc (.cells #[.int .i64 6, .int .i64 0, .slice none 0 0, .int .i64 0, .slice none 0 0, .slice none 0 0, .slice none 0 0] 50) = V at *
  go_region_held3 (fun w' => w'.cell? ⟨w1.heap.size, 0, none⟩ = some (.int .i64 6)) (first | (simp [*]; done) | go_keep) (fail)
  go_wp2
  refine bodyPost_ret (v := .tuple #[.agg #[.slice none 0 0, .int .i64 0, .slice none 0 0, .slice none 0 0, .slice none 0 0], .int .i64 6]) (by simp [results, Tryz.results43, go_sem, *]) rfl ?_
  have e6 : memF m = 6 := by unfold memF; rw [K6.out, if_pos (by simp)]
  exact .inl ⟨by rw [e6]; simp, by rw [e6], (fiveM B1.out (Nat.le_succ _)).drew⟩
 ·have K3 : Hid (askC m.dt m.st = 3) := Hid.mk' (askC_range h6 h3)
  clear h6 h3
  have N1 := below_new w1 (.cells #[.int .i64 3, .int .i64 0, .slice none 0 0, .int .i64 0, .slice none 0 0, .slice none 0 0, .slice none 0 0] 50)
  have M1 := hb1.trans (N1.mono hb1.size)
  have RZ := rowB H2.out M1
  obtain ⟨y0, y1, y2, y3, y4, y5⟩ := cells5 RZ
  have f0 := RZ.frozen 0
  have f1 := RZ.frozen 1
  have f2 := RZ.frozen 2
  have f3 := RZ.frozen 3
  have f4 := RZ.frozen 4
  have Q7 := row7 w1 50 (.int .i64 3) (.int .i64 0) (.slice none 0 0) (.int .i64 0) (.slice none 0 0) (.slice none 0 0) (.slice none 0 0)
  obtain ⟨z0, z1, z2, z3, z4, z5, z6, z7⟩ := cells7 Q7
  have B1 := Hid.mk' (HB.out.trans (M1.mono HB.out.size))
  have hne : w.heap.size + 1 ≠ w1.heap.size := by have := H2.out.lt; have := hb1.size; omega
  have HNE := Hid.mk' hne
  clear N1 M1 RZ Q7 hb1
  go_wp2
  generalize hV : w1.alloc (.cells #[.int .i64 3, .int .i64 0, .slice none 0 0, .int .i64 0, .slice none 0 0, .slice none 0 0, .slice none 0 0] 50) = V at *
  go_region_held3 (fun w' => w'.cell? ⟨w1.heap.size, 0, none⟩ = some (.int .i64 3)) (first | (simp [*]; done) | go_keep) (fail)
  go_wp2
  refine bodyPost_ret (v := .tuple #[.agg #[.slice none 0 0, .int .i64 0, .slice none 0 0, .slice none 0 0, .slice none 0 0], .int .i64 3]) (by simp [results, Tryz.results43, go_sem, *]) rfl ?_
  have e6 : memF m = 3 := by unfold memF; rw [K3.out, if_pos (by simp)]
  exact .inl ⟨by rw [e6]; simp, by rw [e6], (fiveM B1.out (Nat.le_succ _)).drew⟩

 ·obtain ⟨ta, tc, ha, hc, rfl, eh, mx⟩ := hx.at hs
  rw [eh]
  have N1 := below_new w1 (.cells #[.int .i64 0, .int .i64 (m.dt.length : Int), .slice (some ⟨gd, 0, none⟩) m.dt.length m.dt.length, .int .i64 (s : Int), .slice ta (allX [] [] m.dt).1.length tc, .slice ha (allX [] [] m.dt).2.length hc, .slice (some ⟨gc, 0, none⟩) (m.dt.length / s + 1) (m.dt.length / s + 1)] 50)
  have M1 := hb1.trans (N1.mono hb1.size)
  have KS := sameReading_any (memX m.dt s) m (some ⟨gd, 0, none⟩) ta ha (some ⟨gc, 0, none⟩) a t u c m.dt.length tc hc (m.dt.length / s + 1) ca ct cu cc _ (mx.below N1) (HA.out.below M1) (by have := mem_small m.dt s h6; omega) HM.out
  have ecl : (memX m.dt s).cs.length = m.dt.length / s + 1 := cksN_len _ _ _
  rw [ecl] at KS
  have KS : Calls Tryz.prog 47 #[.agg #[.slice (some ⟨gd, 0, none⟩) m.dt.length m.dt.length, .int .i64 (s : Int), .slice ta (allX [] [] m.dt).1.length tc, .slice ha (allX [] [] m.dt).2.length hc, .slice (some ⟨gc, 0, none⟩) (m.dt.length / s + 1) (m.dt.length / s + 1)], .agg #[.slice a m.dt.length ca, .int .i64 m.st, .slice t m.tk.length ct, .slice u m.hd.length cu, .slice c m.cs.length cc]] _ fun e w' => e = .returned (.bool (sameR (memX m.dt s) m)) ∧ Below _ _ w' := KS
  rw [hst] at KS
  have R1 := rowB H1.out M1
  rw [hst] at R1
  obtain ⟨x0, x1, x2, x3, x4, x5⟩ := cells5 R1
  have K0 : Hid (askC m.dt m.st = 0) := Hid.mk' (by rw [hst]; exact askC_good h6 hs hs2)
  have EF : Hid (memF m = if sameR (memX m.dt s) m then 0 else 1) := Hid.mk' (by
   unfold memF
   rw [if_neg (by rw [K0.out]; simp), hst]; rfl)
  have Q7 := row7 w1 50 (.int .i64 0) (.int .i64 (m.dt.length : Int)) (.slice (some ⟨gd, 0, none⟩) m.dt.length m.dt.length) (.int .i64 (s : Int)) (.slice ta (allX [] [] m.dt).1.length tc) (.slice ha (allX [] [] m.dt).2.length hc) (.slice (some ⟨gc, 0, none⟩) (m.dt.length / s + 1) (m.dt.length / s + 1))
  obtain ⟨z0, z1, z2, z3, z4, z5, z6, z7⟩ := cells7 Q7
  have HQ := Hid.mk' Q7
  have HX := Hid.mk' (hx.below N1)
  have HR1 := Hid.mk' R1
  have RZ := Hid.mk' (rowB H2.out M1)
  have KS := Hid.mk' KS
  have B1 := Hid.mk' (HB.out.trans (M1.mono HB.out.size))
  have hne : w.heap.size + 1 < w1.heap.size := by have := H2.out.lt; have := hb1.size; omega
  have HNE := Hid.mk' hne
  have HS := Hid.mk' (And.intro h6 (And.intro hst (And.intro hs hs2)))
  have EH := Hid.mk' eh
  have L1 := H2.out.lt
  have LW : Hid (w.heap.size + 1 ≤ W.heap.size) := Hid.mk' (by have := H2.out.lt; omega)
  clear N1 M1 hb1 mx hx R1 Q7 ecl hst hs hs2 h6 eh hne L1
  generalize hT : (allX [] [] m.dt).1 = T at *
  generalize hH : (allX [] [] m.dt).2 = H at *
  generalize hJ : m.dt.length / s + 1 = J at *
  have HT := Hid.mk' hT
  have HH := Hid.mk' hH
  have HJ := Hid.mk' hJ
  clear hT hH hJ
  obtain ⟨R, hR⟩ : ∃ R, sameR (memX m.dt s) m = R := ⟨_, rfl⟩
  have HR := Hid.mk' hR
  rw [hR] at KS EF
  clear hR
  generalize hV : w1.alloc (.cells #[.int .i64 0, .int .i64 (m.dt.length : Int), .slice (some ⟨gd, 0, none⟩) m.dt.length m.dt.length, .int .i64 (s : Int), .slice ta T.length tc, .slice ha H.length hc, .slice (some ⟨gc, 0, none⟩) J J] 50) = V at *
  cases R with
  | false =>
   go_wp2_with fail
   clear hV
   refine KS.out.mono ?_
   rintro e w2 ⟨rfl, hb2⟩
   have RZ2 := rowB RZ.out hb2
   obtain ⟨y0, y1, y2, y3, y4, y5⟩ := cells5 RZ2
   have f0 := RZ2.frozen 0
   have f1 := RZ2.frozen 1
   have f2 := RZ2.frozen 2
   have f3 := RZ2.frozen 3
   have f4 := RZ2.frozen 4
   have B2 := Hid.mk' (B1.out.trans (hb2.mono B1.out.size))
   clear RZ2 hb2 x0 x1 x2 x3 x4 x5 z0 z1 z2 z3 z4 z5 z6 z7
   go_wp2
   refine bodyPost_ret (v := .tuple #[.agg #[.slice none 0 0, .int .i64 0, .slice none 0 0, .slice none 0 0, .slice none 0 0], .int .i64 1]) (by simp [results, Tryz.results43, go_sem, *]) rfl ?_
   have e1 : memF m = 1 := by rw [EF.out]; rfl
   exact .inl ⟨by rw [e1]; simp, by rw [e1], fiveM B2.out (Nat.le_succ _)⟩
  | true =>
   go_wp2_with fail
   clear hV
   refine KS.out.mono ?_
   rintro e w2 ⟨rfl, hb2⟩
   have RZ2 := rowB RZ.out hb2
   obtain ⟨y0, y1, y2, y3, y4, y5⟩ := cells5 RZ2
   have f0 := RZ2.frozen 0
   have f1 := RZ2.frozen 1
   have f2 := RZ2.frozen 2
   have f3 := RZ2.frozen 3
   have f4 := RZ2.frozen 4
   have Q2 := rowB HQ.out hb2
   clear x0 x1 x2 x3 x4 x5 z0 z1 z2 z3 z4 z5 z6 z7
   obtain ⟨z0, z1, z2, z3, z4, z5, z6, z7⟩ := cells7 Q2
   have B2 := Hid.mk' (B1.out.trans (hb2.mono B1.out.size))
   have HX2 := Hid.mk' (HX.out.below hb2)
   clear RZ2 Q2 hb2
   go_wp2
   refine bodyPost_ret (v := .tuple #[.agg #[.slice (some ⟨gd, 0, none⟩) m.dt.length m.dt.length, .int .i64 (s : Int), .slice ta T.length tc, .slice ha H.length hc, .slice (some ⟨gc, 0, none⟩) J J], .int .i64 0]) (by simp [results, Tryz.results43, go_sem, *]) rfl ?_
   have e0 : memF m = 0 := by rw [EF.out]; rfl
   obtain ⟨h6, hst, hs, hs2⟩ := HS.out
   have k := kept5 w2 (w.heap.size + 1) (.slice (some ⟨gd, 0, none⟩) m.dt.length m.dt.length) (.int .i64 (s : Int)) (.slice ta T.length tc) (.slice ha H.length hc) (.slice (some ⟨gc, 0, none⟩) J J)
   refine .inr ⟨e0, h6, s, hst, hs, hs2, HR.out, gd, gc, .slice ta T.length tc, hvs, us, rs, bl, bh, ?_, ?_, fiveM B2.out (Nat.le_succ _)⟩
   ·rw [HJ.out, EH.out]
   ·have lw := LW.out
    exact (HX2.out.keep k.size (fun q h1 h2 => k.block q h2 (by omega))).down (by omega)
theorem implMF_any (tp : TypeId) (pv : Value) (m : ME) (a t u c : Option Addr) (ca ct cu cc : Nat) (w : World) (hE : Env w.heap.size tp pv w) (h1 : MAt w a t u c m) (hca : m.dt.length ≤ ca) (hub : Byt m.dt) (hm : (msz m : Int) ≤ 1048576) :
  Calls Tryz.prog 31 #[.agg #[.slice a m.dt.length ca, .int .i64 m.st, .slice t m.tk.length ct, .slice u m.hd.length cu, .slice c m.cs.length cc]] w fun e w' => e = .returned (.int .i64 (memF m)) ∧ Below w.heap.size w w' := by
 have N0 := below_new w (.cells #[.slice a m.dt.length ca, .int .i64 m.st, .slice t m.tk.length ct, .slice u m.hd.length cu, .slice c m.cs.length cc] 27)
 have R0 := row5 w 27 (.slice a m.dt.length ca) (.int .i64 m.st) (.slice t m.tk.length ct) (.slice u m.hd.length cu) (.slice c m.cs.length cc)
 have KR := Hid.mk' (rightMemo_any tp pv m a t u c ca ct cu cc _ ((hE.keep N0).up N0.size (Nat.le_refl _)) (h1.below N0) hca hub hm)
 have HB := Hid.mk' N0
 obtain ⟨x0, x1, x2, x3, x4, x5⟩ := cells5 R0
 clear N0 h1 hE hub R0
 generalize hW : w.alloc (.cells #[.slice a m.dt.length ca, .int .i64 m.st, .slice t m.tk.length ct, .slice u m.hd.length cu, .slice c m.cs.length cc] 27) = W at *
 go_enter Tryz.func31, Tryz.ntmps31
 go_wp2_with fail
 clear hW x0 x1 x2 x3 x4 x5
 refine KR.out.mono ?_
 rintro e w1 (⟨hf, rfl, hb1⟩ | ⟨hf, -, s, -, -, -, -, gd, gc, tv, hvs, us, rs, bl, bh, rfl, hx, hb1⟩)
 ·have HB1 := Hid.mk' (HB.out.trans (hb1.mono HB.out.size))
  clear hb1 KR
  obtain ⟨F, hF⟩ : ∃ F, memF m = F := ⟨_, rfl⟩
  have HF := Hid.mk' hF
  rw [hF]
  clear hf hF
  go_wp2
  go_ret
  exact ⟨by rw [HF.out]; rfl, HB1.out.trans ((below_new w1 _).mono HB1.out.size)⟩
 ·obtain ⟨ta, tc, rfl, -⟩ := own_src hx.rx.tp.row
  obtain ⟨ha, hc, eh, -⟩ := own_bat (hx.rx.own (m.dt.length / s + 1) (Nat.le_refl _))
  rw [eh]
  have HB1 := Hid.mk' (HB.out.trans (hb1.mono HB.out.size))
  have HF := Hid.mk' hf
  clear hb1 KR hx eh hf
  generalize tkN m.dt s (m.dt.length / s + 1) = T at *
  generalize hdN m.dt s (m.dt.length / s + 1) = H at *
  generalize m.dt.length / s + 1 = J at *
  go_wp2
  go_ret
  exact ⟨by rw [HF.out]; rfl, HB1.out.trans ((below_new w1 _).mono HB1.out.size)⟩
theorem strI_data : ∀ (l : List Int) (r : ByteArray), (l.foldl (fun r n => r.push (UInt8.ofNat n.toNat)) r).data.toList = r.data.toList ++ l.map (fun n => UInt8.ofNat n.toNat)
 | [], r => by simp
 | x :: l, r => by
  rw [List.foldl_cons, strI_data l]
  simp [ByteArray.push]
theorem strI_list (l : List Int) : (strI l).toList = l.map (fun n => UInt8.ofNat n.toNat) := by
 rw [toList_data]
 unfold strI
 rw [strI_data]
 have e : ByteArray.empty.data.toList = [] := rfl
 rw [e, List.nil_append]
theorem byte_inj {x y : Int} (hx : 0 ≤ x ∧ x ≤ 255) (hy : 0 ≤ y ∧ y ≤ 255) (h : UInt8.ofNat x.toNat = UInt8.ofNat y.toNat) : x = y := by
 have := congrArg UInt8.toNat h
 simp only [UInt8.toNat_ofNat'] at this
 omega
theorem map_inj : ∀ (l m : List Int), (∀ x ∈ l, 0 ≤ x ∧ x ≤ 255) → (∀ x ∈ m, 0 ≤ x ∧ x ≤ 255) → l.map (fun n => UInt8.ofNat n.toNat) = m.map (fun n => UInt8.ofNat n.toNat) → l = m
 | [], [], _, _, _ => rfl
 | [], y :: m, _, _, h => by simp at h
 | x :: l, [], _, _, h => by simp at h
 | x :: l, y :: m, hl, hm, h => by
  simp only [List.map_cons, List.cons.injEq] at h
  rw [byte_inj (hl x (List.mem_cons_self ..)) (hm y (List.mem_cons_self ..)) h.1, map_inj l m (fun z hz => hl z (List.mem_cons_of_mem _ hz)) (fun z hz => hm z (List.mem_cons_of_mem _ hz)) h.2]
theorem beqB_eq {l m : List Int} (hl : Byt l) (hm : Byt m) (h : beqB l m = true) : l = m := by
 unfold beqB at h
 rw [strI_list, strI_list] at h
 exact map_inj l m hl.mem hm.mem (by simpa using h)
theorem right_checks {d : List Int} {s : Nat} {m : ME} (hd : Byt d) (hc : ∀ k, k < m.cs.length → Byt (ckK m.cs k).hd) (h : sameR (memX d s) m = true) : m.cs.length = d.length / s + 1 ∧ ∀ k, k < d.length / s + 1 → ckK m.cs k = ckAt d s k := by
 unfold sameR at h
 rw [Bool.and_eq_true, Bool.and_eq_true] at h
 have h3 := h.2.2
 unfold sameCs at h3
 rw [Bool.and_eq_true] at h3
 have e1 : (memX d s).cs.length = d.length / s + 1 := cksN_len _ _ _
 have e2 : (memX d s).cs.length = m.cs.length := of_decide_eq_true h3.1
 refine ⟨by omega, fun k hk => ?_⟩
 have h4 := h3.2
 unfold allK at h4
 rw [List.all_eq_true] at h4
 have h5 := h4 k (List.mem_range.2 (by omega))
 have e3 : ckK (memX d s).cs k = ckAt d s k := cksN_at d s _ k hk
 rw [e3] at h5
 unfold ceq at h5
 rw [Bool.and_eq_true, Bool.and_eq_true] at h5
 have p1 : (ckAt d s k).pl = (ckK m.cs k).pl := by simpa using h5.1
 have p2_ : (ckAt d s k).ct = (ckK m.cs k).ct := by simpa using h5.2.1
 have p3 : (ckAt d s k).hd = (ckK m.cs k).hd := beqB_eq (allX_byt _ _ _ (fun x hx => hd.mem x (List.mem_of_mem_take hx)) Byt.nil) (hc k (by omega)) h5.2.2
 cases hq : ckK m.cs k with
 | mk a b c =>
  rw [hq] at p1 p2_ p3
  cases hz : ckAt d s k with
  | mk a' b' c' =>
   rw [hz] at p1 p2_ p3
   simp only at p1 p2_ p3
   rw [p1, p2_, p3]
theorem memF_ok {m : ME} (h : memF m = 0) : m.dt.length ≤ 240 ∧ ∃ s : Nat, m.st = (s : Int) ∧ 1 ≤ s ∧ s ≤ 60 ∧ sameR (memX m.dt s) m = true := by
 unfold memF at h
 by_cases h1 : askC m.dt m.st = 0
 ·rw [if_neg (by rw [h1]; simp)] at h
  obtain ⟨h240, s, hst, hs, hs2⟩ := askC_ok h1
  refine ⟨h240, s, hst, hs, hs2, ?_⟩
  rw [hst] at h
  cases hq : sameR (memX m.dt s) m with
  | true => rfl
  | false =>
   have e : sameR (memX m.dt ((s : Int).toNat)) m = false := hq
   rw [e] at h
   simp at h
 ·rw [if_pos h1] at h
  exact absurd h h1
theorem keptIn_cell {lo hi : Nat} {w w' : World} (h : KeptIn lo hi w w') (b o : Nat) (hb : b < w.heap.size) (hn : b < lo ∨ hi ≤ b) : w'.cell? ⟨b, o, none⟩ = w.cell? ⟨b, o, none⟩ :=
 World.cell?_of_block (a := ⟨b, o, none⟩) (h.block b hb hn)
def edC (m : ME) (A N : Int) (p : List Int) : Int := if memF m ≠ 0 then memF m else spC m.dt.length A N p.length
theorem edC_ok {m : ME} {A N : Int} {p : List Int} (h : edC m A N p = 0) : memF m = 0 ∧ spC m.dt.length A N p.length = 0 := by
 unfold edC at h
 split at h
 ·rename_i h1; exact absurd h h1
 ·rename_i h1; exact ⟨Classical.not_not.1 h1, h⟩
theorem l13Edit_any (g : Nat) (m : ME) (a t u c : Option Addr) (ca ct cu cc : Nat) (A N : Int) (e : Option Addr) (d : Nat) (p : List Int) (w : World) (hp : P1 g m a t u c ca ct cu cc w) (hub : Byt m.dt) (hm : (msz m : Int) ≤ 1048576) (hl : p.length ≤ 1048576) (a1 : -9223372036854775808 ≤ A) (a2 : A ≤ 9223372036854775807) (n1 : -9223372036854775808 ≤ N) (n2 : N ≤ 9223372036854775807) :
  Calls Tryz.prog 58 #[.pointer (some ⟨g, 0, none⟩), .int .i64 A, .int .i64 N, .slice e p.length d] w fun ev w' => ev = .returned (.int .i64 (edC m A N p)) ∧ Below w.heap.size w w' := by
 have MS_ : (msz m : Int) = m.dt.length + m.tk.length + tssz m.tk + m.hd.length + m.cs.length + csz m.cs := by unfold msz; omega
 have hdl : m.dt.length ≤ 1048576 := by omega
 have KF := Hid.mk' (l12Fault_any g m a t u c ca ct cu cc w hp hub hm)
 have HP := Hid.mk' hp
 clear hp MS_ hub
 go_enter Tryz.func58, Tryz.ntmps58
 go_wp2_with fail
 refine KF.out.mono ?_
 rintro e1 w1 ⟨rfl, hb1⟩
 have P1_ := Hid.mk' (HP.out.below hb1)
 have B1 := Hid.mk' hb1
 have KA := Hid.mk' (l13Asked_any m.dt.length A N e p.length d w1 hdl hl a1 a2 n1 n2)
 clear hb1 KF HP
 by_cases hf : memF m = 0
 ·have E : Hid (edC m A N p = spC m.dt.length A N p.length) := Hid.mk' (by unfold edC; rw [if_neg (by rw [hf]; simp)])
  rw [hf]
  obtain ⟨x0, x1, x2, x3, x4, x5⟩ := cells5 P1_.out.r
  go_wp2_with fail
  refine KA.out.mono ?_
  rintro e2 w2 ⟨rfl, hw2⟩
  obtain rfl := hw2.symm
  clear hw2
  go_wp2
  go_ret
  exact ⟨by rw [E.out]; rfl, B1.out⟩
 ·have E : Hid (edC m A N p = memF m) := Hid.mk' (by unfold edC; rw [if_pos hf])
  obtain ⟨F, hF⟩ : ∃ F, memF m = F := ⟨_, rfl⟩
  rw [hF] at E hf ⊢
  have hne : (F != 0) = true := by simp [hf]
  clear hF
  go_wp2
  go_ret
  exact ⟨by rw [E.out]; rfl, B1.out⟩
def CpA (l : List AT) (w : World) (e : Ending) (w' : World) : Prop := ∃ v us, e = .returned v ∧ OA w.heap.size w' v l us ∧ Below w.heap.size w w'
theorem asz_at {l : List AT} {k : Nat} (h : k < l.length) : (atK l k).vl.length + (atK l k).nm.size ≤ asz l := by
 have := asz_take l k h
 have := asz_le l (k + 1)
 omega
theorem at_take {l : List AT} {k : Nat} (h : k < l.length) : l.take (k + 1) = l.take k ++ [atK l k] := by
 rw [List.take_add_one, List.getElem?_eq_getElem h]
 simp [atK, List.getD_eq_getElem?_getD, List.getElem?_eq_getElem h]
theorem l4CopyAttrs_own (a : Option Addr) (c : Nat) (l : List AT) (w : World) (ha : AAt w a l) (hl : (l.length : Int) + asz l ≤ 1048576) :
  Calls Tryz.prog 96 #[.slice a l.length c] w fun e w' => CpA l w e w' := by
 have HA := Hid.mk' ha
 clear ha
 go_enter Tryz.func96, Tryz.ntmps96
 go_wp2
 go_loopw [3, 4] (fun v i wr => ∃ (k : Nat) (us : List Value), k ≤ l.length ∧ i = .int .i64 k ∧ OA w.heap.size wr v (l.take k) us ∧ Below w.heap.size w wr) (fun _ i _ => l.length - (intOf i).toNat)
 case atStart => exact ⟨0, [], Nat.zero_le _, rfl, ⟨rfl, by simpa [acs] using World.ownsRow_lit (base := w.heap.size) (e := 139) (size := 2) w #[] 0 (Nat.le_refl _) (by decide) rfl, fun j h => absurd h (by simp), fun j h => absurd h (by simp), fun i j _ h => absurd h (by simp), fun j h => absurd h (by simp)⟩, below_new _ _⟩
 case round =>
  obtain ⟨k, us, hk, rfl, hoa, hbl⟩ := hrel
  have HB := Hid.mk' hbl
  obtain ⟨av, cv, ev, _⟩ := own_cap hoa.row
  have lt_ : (l.take k).length = k := by rw [List.length_take]; omega
  rw [lt_] at ev
  subst ev
  by_cases hlt : k < l.length
  ·have ci : (k : Int) < (l.length : Int) := by omega
   rcases HA.out with h0 | ⟨b1, o1, rfl, s0, hc1⟩
   ·exact absurd hlt (by rw [h0]; exact Nat.not_lt_zero _)
   obtain ⟨h1, p1, d1, h2, h3⟩ := hc1 k hlt
   replace h1 := (hbl.cell s0).trans h1
   replace h2 := (hbl.cell s0).trans h2
   replace h3 := h3.below hbl
   have s1 := Nat.lt_of_lt_of_le s0 hbl.size
   have sz1 : (atK l k).vl.length + (atK l k).nm.size ≤ asz l := asz_at hlt
   have AT1 := Hid.mk' (at_take hlt)
   have HO := Hid.mk' hoa
   have H3 := Hid.mk' h3
   clear hc1 h3 hoa
   go_wp2_with fail
   have GNE : Hid (∀ j, (Value.slice av k cv).ownBlock = some j → ¬ j = b1) := Hid.mk' (fun j e ej => by subst ej; have := (HO.out.row.lt j e).1; omega)
   refine wp_region_held_drew (S := fun w' => w'.cell? ⟨b1, o1 + k * 2, none⟩ = some (.string (atK l k).nm) ∧ w'.cell? ⟨b1, o1 + k * 2 + 1, none⟩ = some (.slice p1 (atK l k).vl.length d1)) (by kernel_rfl) (by simp [*]) (fun hHeld => ?_)
   refine tkY 0 ?_
   refine tkY 1 ?_
   refine tkY 2 ?_
   refine tkY 3 ?_
   refine tkY 4 ?_
   refine tkY 5 ?_
   refine tkY 6 ?_
   refine tkY 7 ?_
   refine tkY 8 ?_
   refine tkY 9 ?_
   refine tkY 10 ?_
   refine wpAnyH_ready (rs := [11]) (by kernel_rfl) (by simp) ?_
   refine AllReadyH.cons (o := ⟨_, _, _, _, _, _⟩) rfl (fun K hK => ?_) AllReadyH.nil
   go_simp
   go_at_call 51
   refine (l1Copy_own p1 d1 (atK l k).vl wr.drew (H3.out.below (Below.refl _ _).drew) (by omega)).mono ?_
   rintro e w2 ⟨u, rfl, hu, hb2⟩
   replace hb2 := undrew hb2
   obtain ⟨pu, cu, eu, _⟩ := own_cap hu
   subst eu
   have z0 := (hb2.cell s1).trans h1
   have z1 := (hb2.cell s1).trans h2
   have z2 := Nat.lt_of_lt_of_le s1 hb2.size
   have B2 : Hid (Below wr.heap.size wr w2) := Hid.mk' hb2
   have LO1 : Hid (wr.heap.size ≤ wr.heap.size) := Hid.mk' (Nat.le_refl _)
   have HU := Hid.mk' hu
   clear hb2 hu
   refine hK.out _ _ ⟨z0, z1⟩ (fun hHeld => ?_)
   clear hK K
   try simp only [Act.put, zA, zB, zC]
   refine tkY 12 ?_
   refine wpAnyH_ready (rs := [13]) (by kernel_rfl) (by simp) ?_
   refine AllReadyH.cons (o := ⟨_, _, _, _, _, _⟩) rfl (fun K hK => ?_) AllReadyH.nil
   go_simp
   have NN := below_new w2 (.cells #[.string (atK l k).nm, .slice pu (atK l k).vl.length cu] 139)
   have q0 := (NN.cell z2).trans z0
   have q1 := (NN.cell z2).trans z1
   have q2 := Nat.lt_of_lt_of_le z2 NN.size
   have B3 : Hid (Below wr.heap.size wr _) := Hid.mk' (B2.out.trans (NN.mono B2.out.size))
   have OW := Hid.mk' (HO.out.below B3.out)
   have HU2 := Hid.mk' (own_keep HU.out NN)
   clear NN
   refine hK.out _ _ ⟨q0, q1⟩ (fun hHeld => ?_)
   clear hK K
   try simp only [Act.put, zA, zB, zC]
   refine wpAnyH_ready (rs := [14]) (by kernel_rfl) (by simp) ?_
   refine AllReadyH.cons (o := ⟨_, _, _, _, _, _⟩) rfl (fun K hK => ?_) AllReadyH.nil
   refine step_append_at rfl (.tmp 12) (.tmp 25) 105 rfl w.heap.size 139 (.agg #[.string ⟨#[]⟩, .slice none 0 0]) 2 40 Tryz.underlying105 Tryz.info139 rfl (by decide) _ k _ rfl (by have := OW.out.row; rw [lt_] at this; exact this) _ 1 _ [.string (atK l k).nm, .slice pu (atK l k).vl.length cu] rfl rfl (.inr ⟨_, rfl, one_attr w2 _ _ _ _ rfl⟩) (by simp [Value.oneCell']) (by unfold maxLen; omega) (by omega) (Nat.le_trans HB.out.size B3.out.size) ?_
   intro v' w4 ho hgr hat
   have ho' : w4.ownsRow w.heap.size 139 2 v' ((l.take k).length + 1) (acs (l.take k) us ++ [.string (atK l k).nm, .slice pu (atK l k).vl.length cu]) := by rw [lt_]; exact ho
   have A4 := HO.out.app (w1 := w2.alloc (.cells #[.string (atK l k).nm, .slice pu (atK l k).vl.length cu] 139)) (w2 := w4) (a := atK l k) (u := .slice pu (atK l k).vl.length cu) B3.out (OB.of_own HU2.out).1 HB.out.size (fun j e => Nat.le_trans LO1.out ((OB.of_own HU2.out).2 j e)) ho' hgr hat
   rw [← AT1.out] at A4
   have HA4 := Hid.mk' A4
   have HB4 := Hid.mk' ((HB.out.trans (B3.out.mono HB.out.size)).grown hgr (Nat.le_trans HB.out.size B3.out.size) (own_lo OW.out.row))
   have gne : ∀ j, (Value.slice av k cv).ownBlock = some j → ¬ j = b1 := fun j e => GNE.out j e
   have r0 := hgr.cell q0 (fun e => gne _ e.symm rfl)
   have r1 := hgr.cell q1 (fun e => gne _ e.symm rfl)
   clear ho ho' hgr hat A4
   refine hK.out _ _ ⟨r0, r1⟩ (fun hHeld => ?_)
   clear hK K
   try simp only [Act.put, zA, zB, zC]
   refine tkY 15 ?_
   refine wpAnyH_done (by kernel_rfl) ?_ _
   obtain ⟨aw, cw, ew, _⟩ := own_cap HA4.out.row
   subst ew
   go_wp2
   go_roundw
   case rel => exact ⟨k + 1, _, by omega, by go_num, HA4.out, HB4.out⟩
   case measure => simp [intOf]; omega
  ·have ci : ¬ (k : Int) < (l.length : Int) := by omega
   have e : k = l.length := by omega
   subst e
   rw [List.take_length] at hoa
   have HO := Hid.mk' hoa
   clear hoa hbl
   go_wp2
   go_ret
   exact ⟨_, us, rfl, HO.out, HB.out⟩
theorem l4Copy_any (a : Option Addr) (c : Nat) (l : List TK) (w : World) (ha : TsAt w a l) (hl : (l.length : Int) + tssz l ≤ 1048576) :
  Calls Tryz.prog 67 #[.slice a l.length c] w fun e w' => ∃ v us, e = .returned v ∧ TokS w.heap.size w' v l us ∧ Below w.heap.size w w' := by
 have HA := Hid.mk' ha
 clear ha
 go_enter Tryz.func67, Tryz.ntmps67
 go_wp2
 go_loopw [3, 4] (fun v i wr => ∃ (k : Nat) (us : List Value), k ≤ l.length ∧ i = .int .i64 k ∧ TokS w.heap.size wr v (l.take k) us ∧ Below w.heap.size w wr) (fun _ i _ => l.length - (intOf i).toNat)
 case atStart => exact ⟨0, [], Nat.zero_le _, rfl, ⟨rfl, by simpa [tcs] using World.ownsRow_lit (base := w.heap.size) (e := 107) (size := 5) w #[] 0 (Nat.le_refl _) (by decide) rfl, fun u h => absurd h (by simp), fun i t u h => absurd h (by simp)⟩, below_new _ _⟩
 case round =>
  obtain ⟨k, us, hk, rfl, hts, hbl⟩ := hrel
  have HB := Hid.mk' hbl
  have lt_ : (l.take k).length = k := by rw [List.length_take]; omega
  by_cases hlt : k < l.length
  ·have ci : (k : Int) < (l.length : Int) := by omega
   rcases HA.out with ha | ⟨b, o, rfl, hbs, hc⟩
   ·exact absurd hlt (by rw [ha]; exact Nat.not_lt_zero _)
   obtain ⟨q1, q2, q3, ⟨p, d, q4, q5⟩, q6⟩ := hc k hlt
   have h1 := (hbl.cell hbs).trans q1
   have h2 := (hbl.cell hbs).trans q2
   have h3 := (hbl.cell hbs).trans q3
   have h4 := (hbl.cell hbs).trans q4
   have h6 := (hbl.cell hbs).trans q6
   have st := tssz_take l k hlt
   have sl := tssz_le l (k + 1)
   unfold tsz at st
   have N1 := below_new wr (.cells #[.int .i64 (tkK l k).kd, .int .i64 (tkK l k).by_, .string (tkK l k).nm, .slice p (tkK l k).at_.length d, .bool (tkK l k).sh] 107)
   have KA := Hid.mk' (l4CopyAttrs_own p d (tkK l k).at_ _ ((q5.below hbl).below N1) (by omega))
   have RT := Hid.mk' (row5 wr 107 (.int .i64 (tkK l k).kd) (.int .i64 (tkK l k).by_) (.string (tkK l k).nm) (.slice p (tkK l k).at_.length d) (.bool (tkK l k).sh))
   have HN := Hid.mk' N1
   have HT := Hid.mk' hts
   have E1 : Hid (l.take (k + 1) = l.take k ++ [tkK l k]) := Hid.mk' (by rw [List.take_succ_eq_append_getElem hlt]; unfold tkK; simp [hlt])
   obtain ⟨av, cv, ev, _⟩ := own_cap hts.row
   rw [lt_] at ev
   subst ev
   have ZW : Hid ((wr.alloc (.cells #[.int .i64 (tkK l k).kd, .int .i64 (tkK l k).by_, .string (tkK l k).nm, .slice p (tkK l k).at_.length d, .bool (tkK l k).sh] 107)).heap.size = wr.heap.size + 1) := Hid.mk' (by simp)
   clear q1 q2 q3 q4 q5 q6 hc st sl N1 hts hbl
   generalize hW : wr.alloc (.cells #[.int .i64 (tkK l k).kd, .int .i64 (tkK l k).by_, .string (tkK l k).nm, .slice p (tkK l k).at_.length d, .bool (tkK l k).sh] 107) = W at *
   obtain ⟨x0, x1, x2, x3, x4, x5⟩ := cells5 RT.out
   go_wp2_with fail
   clear hW h1 h2 h3 h4 h6 x0 x1 x2 x3 x4 x5
   refine KA.out.mono ?_
   rintro e w2 ⟨va, ats, rfl, oa, hb2⟩
   obtain ⟨pa, cb, rfl, _⟩ := own_cap oa.row
   have R2 := Hid.mk' (rowB RT.out hb2)
   have M2 := HN.out.trans (hb2.mono HN.out.size)
   have B3 : Below wr.heap.size wr (w2.setCell ⟨wr.heap.size, 3, none⟩ (.slice pa (tkK l k).at_.length cb)) := M2.setCell (p := ⟨wr.heap.size, 3, none⟩) (Nat.le_refl _) _
   have N4 := below_new (w2.setCell ⟨wr.heap.size, 3, none⟩ (.slice pa (tkK l k).at_.length cb)) (.cells #[.int .i64 (tkK l k).kd, .int .i64 (tkK l k).by_, .string (tkK l k).nm, .slice pa (tkK l k).at_.length cb, .bool (tkK l k).sh] 107)
   have B4 := Hid.mk' (B3.trans (N4.mono B3.size))
   have NC := Hid.mk' (new_cells' (w2.setCell ⟨wr.heap.size, 3, none⟩ (.slice pa (tkK l k).at_.length cb)) 107 [.int .i64 (tkK l k).kd, .int .i64 (tkK l k).by_, .string (tkK l k).nm, .slice pa (tkK l k).at_.length cb, .bool (tkK l k).sh] w2.heap.size (by simp))
   have OV := Hid.mk' (own_keep HT.out.row B4.out)
   have SZ : Hid (w.heap.size ≤ ((w2.setCell ⟨wr.heap.size, 3, none⟩ (.slice pa (tkK l k).at_.length cb)).alloc (.cells #[.int .i64 (tkK l k).kd, .int .i64 (tkK l k).by_, .string (tkK l k).nm, .slice pa (tkK l k).at_.length cb, .bool (tkK l k).sh] 107)).heap.size) := Hid.mk' (Nat.le_trans HB.out.size B4.out.size)
   have P1 : Hid (∀ u ∈ ([.int .i64 (tkK l k).kd, .int .i64 (tkK l k).by_, .string (tkK l k).nm, .slice pa (tkK l k).at_.length cb, .bool (tkK l k).sh] : List Value), u.oneCell' = true) := Hid.mk' (by
    intro u hu'
    simp only [List.mem_cons, List.not_mem_nil, or_false] at hu'
    rcases hu' with rfl | rfl | rfl | rfl | rfl <;> rfl)
   have TI : Hid (TokIn wr.heap.size ((w2.setCell ⟨wr.heap.size, 3, none⟩ (.slice pa (tkK l k).at_.length cb)).alloc (.cells #[.int .i64 (tkK l k).kd, .int .i64 (tkK l k).by_, .string (tkK l k).nm, .slice pa (tkK l k).at_.length cb, .bool (tkK l k).sh] 107)) (Value.slice av k cv).ownBlock (tkK l k) (.slice pa (tkK l k).at_.length cb)) := Hid.mk' (.inr ⟨W.heap.size, w2, ats, by rw [ZW.out]; omega, oa, by simp, fun q h5 h7 => (N4.block q (by simpa using h7)).trans (Below.heap_setCell _ _ _ _ (by rw [ZW.out] at h5; simp; omega)), fun q e => .inl (by have := (HT.out.row.lt q e).2; rw [ZW.out]; omega)⟩)
   obtain ⟨x0, x1, x2, x3, x4, x5⟩ := cells5 R2.out
   have f3 := R2.out.frozen 3
   clear B3 N4 M2 oa hb2 KA RT
   have OV2 : Hid (World.ownsRow ((w2.setCell ⟨wr.heap.size, 3, none⟩ (.slice pa (tkK l k).at_.length cb)).alloc (.cells #[.int .i64 (tkK l k).kd, .int .i64 (tkK l k).by_, .string (tkK l k).nm, .slice pa (tkK l k).at_.length cb, .bool (tkK l k).sh] 107)) w.heap.size 107 5 (.slice av k cv) k (tcs (l.take k) us)) := Hid.mk' (by have := OV.out; rwa [lt_] at this)
   go_wp2_with (at_builtin; refine wpList_append_at _ rfl (.tmp 21) (.tmp 23) 24 rfl w.heap.size 107 (.agg #[.int .i64 0, .int .i64 0, .string ⟨#[]⟩, .slice none 0 0, .bool false]) 5 64 Tryz.underlying24 Tryz.infoTok rfl (by decide) _ _ _ rfl OV2.out _ 1 _ [.int .i64 (tkK l k).kd, .int .i64 (tkK l k).by_, .string (tkK l k).nm, .slice pa (tkK l k).at_.length cb, .bool (tkK l k).sh] rfl rfl (.inr ⟨_, rfl, NC.out⟩) P1.out (by unfold maxLen; omega) (by omega) SZ.out ?_; intro v' w5 ho hgr hat)
   have T5 := HT.out.app (w1 := ((w2.setCell ⟨wr.heap.size, 3, none⟩ (.slice pa (tkK l k).at_.length cb)).alloc (.cells #[.int .i64 (tkK l k).kd, .int .i64 (tkK l k).by_, .string (tkK l k).nm, .slice pa (tkK l k).at_.length cb, .bool (tkK l k).sh] 107))) (w2 := w5) (v' := v') (ts1 := [tkK l k]) (us1 := [.slice pa (tkK l k).at_.length cb]) B4.out HB.out.size (fun i t u ht hu => by
    cases i with
    | succ i => simp at ht
    | zero => simp at ht hu; subst ht hu; exact TI.out) rfl (fun u hu => by rw [List.mem_singleton] at hu; rw [hu]; rfl) (by rw [lt_]; exact ho) hgr hat
   rw [← E1.out] at T5
   have HT5 := Hid.mk' T5
   have HB5 := Hid.mk' ((HB.out.trans (B4.out.mono HB.out.size)).grown hgr SZ.out (own_lo OV2.out))
   clear T5 ho hgr hat
   go_roundw
   case rel => exact ⟨k + 1, _, by omega, by go_num, HT5.out, HB5.out⟩
   case measure => simp [intOf]; omega
  ·have ci : ¬ (k : Int) < (l.length : Int) := by omega
   have e : k = l.length := by omega
   subst e
   rw [List.take_length] at hts
   have HT := Hid.mk' hts
   clear hts hbl
   go_wp2
   go_ret
   exact ⟨_, rfl, ⟨us, HT.out⟩, HB.out⟩
theorem name_eq {x y : ByteArray} (h : (x.toList == y.toList) = true) : x = y := by
 have e : x.toList = y.toList := by simpa using h
 rw [toList_data, toList_data] at e
 cases x; cases y
 simp only [ByteArray.mk.injEq]
 exact Array.toList_inj.1 e
theorem aeq_eq {x y : AT} (hx : Byt x.vl) (hy : Byt y.vl) (h : aeq x y = true) : x = y := by
 unfold aeq at h
 rw [Bool.and_eq_true] at h
 have e1 := name_eq h.1
 have e2 : x.vl = y.vl := beqB_eq hx hy h.2
 cases x; cases y
 simp only at e1 e2
 rw [e1, e2]
theorem list_getD_eq {α : Type} {l m : List α} {d : α} (h : l.length = m.length) (hk : ∀ k, k < l.length → l.getD k d = m.getD k d) : l = m := by
 apply List.ext_getElem h
 intro k h1 h2
 have := hk k h1
 simpa [List.getD_eq_getElem?_getD, h1, h2] using this
theorem sameAs_eq {l m : List AT} (hl : ∀ j, j < l.length → Byt (atK l j).vl) (hm : ∀ j, j < m.length → Byt (atK m j).vl) (h : sameAs l m = true) : l = m := by
 unfold sameAs at h
 rw [Bool.and_eq_true] at h
 have e : l.length = m.length := of_decide_eq_true h.1
 have h4 := h.2
 unfold allK at h4
 rw [List.all_eq_true] at h4
 exact list_getD_eq e (fun k hk => aeq_eq (hl k hk) (hm k (by omega)) (h4 k (List.mem_range.2 hk)))
theorem teq_eq {x y : TK} (hx : ∀ j, j < x.at_.length → Byt (atK x.at_ j).vl) (hy : ∀ j, j < y.at_.length → Byt (atK y.at_ j).vl) (h : teq x y = true) : x = y := by
 unfold teq at h
 simp only [Bool.and_eq_true] at h
 obtain ⟨⟨⟨⟨h1, h2⟩, h3⟩, h4⟩, h5⟩ := h
 have e1 : x.kd = y.kd := by simpa using h1
 have e2 : x.by_ = y.by_ := by simpa using h2
 have e3 := name_eq h3
 have e4 : x.sh = y.sh := by simpa using h4
 have e5 := sameAs_eq hx hy h5
 cases x; cases y
 simp only at e1 e2 e3 e4 e5
 rw [e1, e2, e3, e4, e5]
def TBt (l : List TK) : Prop := ∀ i, i < l.length → ∀ j, j < (tkK l i).at_.length → Byt (atK (tkK l i).at_ j).vl
theorem sameTs_eq {l m : List TK} (hl : TBt l) (hm : TBt m) (h : sameTs l m = true) : l = m := by
 unfold sameTs at h
 rw [Bool.and_eq_true] at h
 have e : l.length = m.length := of_decide_eq_true h.1
 have h4 := h.2
 unfold allK at h4
 rw [List.all_eq_true] at h4
 exact list_getD_eq e (fun k hk => teq_eq (hl k hk) (hm k (by omega)) (h4 k (List.mem_range.2 hk)))

end Go.Proofs.YtlimgcmhidooaaaGreatDoor
