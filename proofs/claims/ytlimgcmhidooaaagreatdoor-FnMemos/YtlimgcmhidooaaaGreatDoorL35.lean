/- The model's memo, its rows told apart: the walk. -/
import Derived.Test.YtlimgcmhidooaaaGreatDoorL34
import Derived.Test.YtlimgcmhidooaaaGreatDoorL31
import Derived.Test.YtlimgcmhidooaaaGreatDoorL32
set_option linter.unusedVariables false
set_option linter.unusedSimpArgs false
namespace Go.Proofs.YtlimgcmhidooaaaGreatDoor
open Go.RowKit

def LnS (d : List Int) (s : Nat) (w : World) (e : Ending) (w' : World) : Prop :=
  ∃ vd vh t c ct cc, e = .returned (.agg #[vd, .int .i64 (s : Int), .slice t (allX [] [] d).1.length ct, vh, .slice c (d.length / s + 1) cc]) ∧ w'.ownsRow (w.heap.size + 1) 5 1 vd d.length (bcs d) ∧ w'.ownsRow (w.heap.size + 1) 5 1 vh (allX [] [] d).2.length (bcs (allX [] [] d).2) ∧ (∀ q, vd.ownBlock = some q → vh.ownBlock ≠ some q) ∧ (∃ b, vd.ownBlock = some b) ∧ (allX [] [] d).1.length ≤ ct ∧ ((t = none ∧ ct = 0 ∧ (allX [] [] d).1 = []) ∨ ∃ b, t = some ⟨b, 0, none⟩) ∧ (∃ b, c = some ⟨b, 0, none⟩) ∧ d.length / s + 1 ≤ cc ∧ (∀ z : World, w'.heap.size ≤ z.heap.size → (∀ q, w.heap.size < q → q < w'.heap.size → vd.ownBlock ≠ some q → vh.ownBlock ≠ some q → z.heap[q]? = w'.heap[q]?) → TsAt z t (allX [] [] d).1 ∧ CsAt z c (cksN d s (d.length / s + 1))) ∧ Below w.heap.size w w'

set_option maxRecDepth 100000 in
set_option maxHeartbeats 6400000 in
theorem l12New_own (d : List Int) (ad : Option Addr) (cd : Nat) (s : Nat) (w : World) (hd : BAt w ad d) (hu : Byt d) (hl : d.length ≤ 240) (hs : 1 ≤ s) (hs2 : s ≤ 60) :
    Calls Tryz.prog 72 #[.slice ad d.length cd, .int .i64 (s : Int)] w fun e w' => LnS d s w e w' := by
  have N0 := below_new w (.cells #[.slice none 0 0, .int .i64 0, .slice none 0 0, .slice none 0 0, .slice none 0 0] 27)
  have R0 := row5 w 27 (.slice none 0 0) (.int .i64 0) (.slice none 0 0) (.slice none 0 0) (.slice none 0 0)
  have KC := Hid.mk' (l1Copy_sm ad cd d _ (hd.below N0) (by omega))
  have HB := Hid.mk' N0
  have HD := Hid.mk' hd
  have HU := Hid.mk' hu
  have HR := Hid.mk' R0
  have z0 : (w.alloc (.cells #[.slice none 0 0, .int .i64 0, .slice none 0 0, .slice none 0 0, .slice none 0 0] 27)).heap.size = w.heap.size + 1 := by simp
  have Z0 := Hid.mk' z0
  clear N0 R0 hd hu z0
  generalize hW : w.alloc (.cells #[.slice none 0 0, .int .i64 0, .slice none 0 0, .slice none 0 0, .slice none 0 0] 27) = W at *
  go_enter Tryz.func72, Tryz.ntmps72
  go_wp2_with fail
  clear hW
  refine KC.out.mono ?_
  rintro e w1 ⟨dv, rfl, smd, od, hb1⟩
  obtain ⟨da, dc, rfl, -⟩ := own_src od
  have SMD : Hid (∃ b, (Value.slice da d.length dc).ownBlock = some b) := Hid.mk' smd
  clear smd
  rw [Z0.out] at od
  have B1 := HB.out.trans (hb1.mono HB.out.size)
  have N1 := below_new w1 (.cells #[.slice da d.length dc, .int .i64 (s : Int), .slice none 0 0, .slice none 0 0, .slice none 0 0] 27)
  have N2 := N1.alloc (by simp) (.cells #[] 5)
  have l1 := HR.out.lt
  have l2 := hb1.size
  have M0 : MD w d s 0 0 w1.heap.size (.slice da d.length dc) (.slice none 0 0) (.slice none 0 0) (.slice (some ⟨w1.heap.size + 1, 0, none⟩) 0 0) [] (fun _ => .slice none 0 0) ((w1.alloc (.cells #[.slice da d.length dc, .int .i64 (s : Int), .slice none 0 0, .slice none 0 0, .slice none 0 0] 27)).alloc (.cells #[] 5)) := by
    have e0 : allX [] [] (d.take 0) = ([], []) := by simp [allX]
    refine ⟨B1.trans (N2.mono B1.size), (row5 w1 27 _ _ _ _ _).alloc _, rowB (rowB HR.out hb1) N2, by omega, (fun h => by simp [Value.ownBlock] at h), (fun h => by simp [Value.ownBlock] at h), ?_, (by rw [e0]; rfl), fun u hu => (by cases hu), ⟨rfl, .inl ⟨rfl, rfl⟩⟩, fun q e => by simp [Value.ownBlock] at e, ?_, ?_, ?_, ?_, fun i hi => absurd hi (Nat.not_lt_zero _)⟩
    · rw [e0]; exact ⟨rfl, .inl ⟨rfl, rfl⟩⟩
    · rw [e0]; exact TC.nil _ _
    · exact own_keep od N2
    · exact fun q e => (od.lt q e).2
    · rw [e0]; exact ⟨fun _ => False, fun k hk => absurd hk id, _, _, rfl, Nat.le_refl _, fun _ _ => .inl rfl⟩
  have HM := Hid.mk' M0
  clear M0 N1 N2 B1 l1 l2 od hb1 KC HB HR
  go_wp2
  generalize hG : w1.heap.size = g at *
  go_loopw [6, 7] (fun hv i wr => ∃ (k : Nat) (tv cv : Value) (us : List Value) (hvs : Nat → Value), k ≤ d.length + 1 ∧ i = .int .i64 k ∧ MD w d s k ((k + s - 1) / s) g (.slice da d.length dc) tv cv hv us hvs wr) (fun _ i _ => d.length + 1 - (intOf i).toNat)
  case atStart => exact ⟨0, _, _, _, _, Nat.zero_le _, rfl, by rw [show (0 + s - 1) / s = 0 from Nat.div_eq_of_lt (by omega)]; exact HM.out⟩
  case round =>
    obtain ⟨k, tv, cv, us, hvs, hk, rfl, hr⟩ := hrel
    by_cases hlt : k ≤ d.length
    · have ci : (k : Int) ≤ (d.length : Int) := by omega

      obtain ⟨r, hr1⟩ : ∃ r : Nat, k % s = r := ⟨_, rfl⟩
      have hmod : (k : Int).tmod (s : Int) = (r : Int) := by rw [← hr1]; rfl
      have HR1 := Hid.mk' hr1
      obtain ⟨C, hC⟩ : ∃ C, (k + s - 1) / s = C := ⟨_, rfl⟩
      rw [hC] at hr
      have hC2 : C ≤ k + s - 1 := by rw [← hC]; exact Nat.div_le_self _ _
      have HC := Hid.mk' hC
      clear hC hr1
      have MID : Hid (∀ (C' : Nat) (cv' : Value) (hvs' : Nat → Value) (wm : World), (k + 1 + s - 1) / s = C' → MD w d s k C' g (.slice da d.length dc) tv cv' u6 us hvs' wm → True) := Hid.mk' (fun _ _ _ _ _ _ => trivial)
      clear MID
      obtain ⟨ta, tc, rfl, -⟩ := own_src hr.tr
      obtain ⟨ca, cc, rfl, -⟩ := own_src hr.cr
      obtain ⟨ha, hc, rfl, hcap, hbt⟩ := hr.hd.at
      obtain ⟨c0, c1, c2, c3, c4, gl⟩ := cells5 hr.box
      have HBT := Hid.mk' hbt
      have HMS := Hid.mk' hr
      have hgd : GoodH (allX [] [] (d.take k)).2 := allX_good _ _ _ (.inl rfl)
      have hby : Byt (allX [] [] (d.take k)).2 := allX_byt _ _ _ (fun x hx => HU.out.mem x (List.mem_of_mem_take hx)) Byt.nil
      have lT : (allX [] [] (d.take k)).1.length ≤ 161 * 240 := by
        have := allX_len (d.take k) [] [] (by simp)
        have l2 : (d.take k).length ≤ 240 := by rw [List.length_take]; omega
        simp only [List.length_nil, Nat.zero_add] at this
        omega
      have lH := hgd.len
      have OLD : Hid (∀ q, XB g g (.slice ta (allX [] [] (d.take k)).1.length tc) (.slice ca C cc) q → q < wr.heap.size) := Hid.mk' (fun q h => by
        rcases h with h | h | h | h
        · have := hr.box.lt; omega
        · rw [h]; exact hr.box.lt
        · exact (hr.tr.lt q h).2
        · exact (hr.cr.lt q h).2)
      have HG := Hid.mk' hgd
      have HY := Hid.mk' hby
      clear hgd hby hr hbt
      generalize hT : (allX [] [] (d.take k)).1 = T at *
      generalize hH : (allX [] [] (d.take k)).2 = H at *
      have HT := Hid.mk' hT
      have HH := Hid.mk' hH
      clear hT hH
      by_cases h0 : r = 0
      · subst h0
        have H0 := HR1
        have HCS : Hid (C * s = k) := Hid.mk' (by have := (cnt_div hs H0.out).1; rw [HC.out] at this; exact this)
        have HTN : Hid (tkN d s C = T) := Hid.mk' (by show (allX [] [] (d.take (C * s))).1 = T; rw [HCS.out]; exact HT.out)
        have HHN : Hid (hdN d s C = H) := Hid.mk' (by show (allX [] [] (d.take (C * s))).2 = H; rw [HCS.out]; exact HH.out)
        go_wp2
        refine wp_region_held_drew (S := (fun w' => w'.cell? ⟨g, 2, none⟩ = some (.slice ta T.length tc))) (by kernel_rfl) c2 (fun hHeld => ?_)
        refine tkY 0 ?_
        refine tkY 2 ?_
        refine tkY 3 ?_
        refine tkY 4 ?_
        refine tkY 5 ?_
        refine tkY 6 ?_
        refine wpAnyH_ready (rs := [1, 7]) (by kernel_rfl) (by simp) ?_
        refine AllReadyH.cons (o := ⟨_, _, _, _, _, _⟩) rfl (fun K hK => ?_) (AllReadyH.cons (o := ⟨_, _, _, _, _, _⟩) rfl (fun K hK => ?_) AllReadyH.nil)
        · go_simp
          refine hK.out _ _ (by assumption) (fun hHeld => ?_)
          clear hK K
          try simp only [Act.put, zA, zB, zC]
          refine wpAnyH_ready (rs := [7]) (by kernel_rfl) (by simp) ?_
          refine AllReadyH.cons (o := ⟨_, _, _, _, _, _⟩) rfl (fun K hK => ?_) AllReadyH.nil
          go_simp
          refine (l1Copy_own ha hc H _ (HBT.out.below (Below.refl _ _).drew) (by omega)).mono ?_
          rintro e w2 ⟨v, rfl, ov, hb2⟩
          replace hb2 := undrew hb2
          obtain ⟨va, vc, rfl, -⟩ := own_src ov
          refine hK.out _ _ ((hb2.cell (p := ⟨g, 2, none⟩) gl).trans c2) (fun hHeld => ?_)
          clear hK K
          try simp only [Act.put, zA, zB, zC]
          refine tkY 8 ?_
          refine wpAnyH_ready (rs := [9]) (by kernel_rfl) (by simp) ?_
          refine AllReadyH.cons (o := ⟨_, _, _, _, _, _⟩) rfl (fun K hK => ?_) AllReadyH.nil
          go_simp
          have N3 := below_new w2 (.cells #[.int .i64 (k : Int), .int .i64 (T.length : Int), .slice va H.length vc] 31)
          have B3 := hb2.trans (N3.mono hb2.size)
          refine hK.out _ _ ((B3.cell (p := ⟨g, 2, none⟩) gl).trans c2) (fun hHeld => ?_)
          clear hK K
          try simp only [Act.put, zA, zB, zC]
          have OWC := Hid.mk' (HMS.out.keep B3).cr
          obtain ⟨q0, q1, q2_, q3⟩ := cells3 (row3 w2 31 (.int .i64 (k : Int)) (.int .i64 (T.length : Int)) (.slice va H.length vc))
          have BV : Hid (BT (XB g g (.slice ta T.length tc) (.slice ca C cc)) (w2.alloc (.cells #[.int .i64 (k : Int), .int .i64 (T.length : Int), .slice va H.length vc] 31)) (.slice va H.length vc) H) := Hid.mk' (BT.of_own (own_keep ov N3) (fun q eq hx => by
            have h1 := (ov.lt q eq).1
            have h2 := OLD.out q hx
            exact absurd h1 (Nat.not_le_of_lt h2)))
          have HB3 := Hid.mk' B3
          have hbs : Hid (g + 1 ≤ (w2.alloc (.cells #[.int .i64 (k : Int), .int .i64 (T.length : Int), .slice va H.length vc] 31)).heap.size) := Hid.mk' (by have := HMS.out.gl; have := HMS.out.box.lt; have := B3.size; omega)
          clear N3 B3
          generalize hW3 : w2.alloc (.cells #[.int .i64 (k : Int), .int .i64 (T.length : Int), .slice va H.length vc] 31) = W3 at *
          refine wpAnyH_ready (rs := [10]) (by kernel_rfl) (by simp) ?_
          refine AllReadyH.cons (o := ⟨_, _, _, _, _, _⟩) rfl (fun K hK => ?_) AllReadyH.nil
          refine step_append_at rfl (.tmp 26) (.tmp 34) 25 rfl (g + 1) 31 (.agg #[.int .i64 0, .int .i64 0, .slice none 0 0]) 3 40 Tryz.underlying25 infoCheck rfl (by decide) _ _ _ rfl OWC.out _ 1 1 [.int .i64 (k : Int), .int .i64 (T.length : Int), .slice va H.length vc] rfl rfl (.inr ⟨⟨w2.heap.size, 0, none⟩, rfl, fun j u hu => by
            have hj : j = 0 ∨ j = 1 ∨ j = 2 := by
              have := (List.getElem?_eq_some_iff.1 hu).1
              simp at this; omega
            rcases hj with rfl | rfl | rfl
            · cases hu; exact q0
            · cases hu; exact q1
            · cases hu; exact q2_⟩) (fun u hu => by
            simp only [List.mem_cons, List.mem_nil_iff, or_false] at hu
            rcases hu with rfl | rfl | rfl <;> rfl) (by unfold maxLen; omega) (by omega) hbs.out ?_
          intro cv' w4 ho hg hat
          obtain ⟨ca', cc', rfl, -⟩ := own_src ho
          have NEW := Hid.mk' (HMS.out.check (v := .slice va H.length vc) HB3.out (by rw [HHN.out]; exact BV.out) (by rw [HCS.out, HTN.out]; exact ho) hg hat)
          have RB := rowB HMS.out.box HB3.out
          have RB2 := RB.of_block (hg.block g RB.lt (fun e => HMS.out.gc e.symm))
          obtain ⟨m0, m1, m2, m3, m4, m5⟩ := cells5 RB2
          have fm4 := RB2.frozen 4
          refine hK.out _ _ m2 (fun hHeld => ?_)
          clear hK K ho hat RB
          try simp only [Act.put, zA, zB, zC]
          refine tkY 11 ?_
          refine wpAnyH_ready (rs := [12]) (by kernel_rfl) (by simp) ?_
          refine AllReadyH.cons (o := ⟨_, _, _, _, _, _⟩) rfl (fun K hK => ?_) AllReadyH.nil
          go_simp
          refine hK.out _ _ (by rw [World.cell?_setCell_other _ _ _ _ (by simp)]; exact m2) (fun hHeld => ?_)
          clear hK K
          try simp only [Act.put, zA, zB, zC]
          refine wpAnyH_done (by kernel_rfl) ?_ _
          clear hHeld m0 m1 m2 m3 m4 m5 fm4 RB2 hg q0 q1 q2_ q3 hW3 OWC hbs HB3 BV ov hb2
          have e9 : Hid ((k + 1 + s - 1) / s = C + 1) := Hid.mk' (by have := (cnt_div hs H0.out).2; rw [HC.out] at this; exact this)
          generalize hWM : w4.setCell ⟨g, 4, none⟩ (.slice ca' (C + 1) cc') = WM at *
          clear hWM
          by_cases klt : k < d.length
          · have ck : (k : Int) < (d.length : Int) := by omega
            rcases HD.out.below NEW.out.bel with hd0 | ⟨b9, o9, rfl, hbs9, hc9⟩
            · exact absurd klt (by rw [hd0]; exact Nat.not_lt_zero _)
            obtain ⟨y0, y1⟩ := HU.out k klt
            obtain ⟨y, hyy⟩ : ∃ y : Nat, d.getD k 0 = (y : Int) := ⟨(d.getD k 0).toNat, by omega⟩
            rw [hyy] at y1
            have hcell : WM.cell? ⟨b9, o9 + k, none⟩ = some (.int .u8 y) := by rw [← hyy]; exact hc9 k klt
            have ES : Hid (allX [] [] (d.take (k + 1)) = (T ++ (feedX H y).1, (feedX H y).2)) := Hid.mk' (by
              rw [take_snoc_int klt, allX_append, hyy, HT.out, HH.out]
              simp [allX])
            have fl := feedX_len H y
            have pb : BAt WM ha H := by
              obtain ⟨pa, pc, pe, _, pb⟩ := NEW.out.hd.at
              rw [HH.out] at pe pb
              injection pe with pe1 _ _
              all_goals first | (subst pe1; exact pb) | exact pb
            have KF := Hid.mk' (l5Feed_any ha hc H y WM pb HY.out hcap (by omega) (by omega))
            obtain ⟨n0, n1, n2, n3, n4, n5⟩ := cells5 NEW.out.box
            clear hc9 hyy y0 pb
            generalize feedX H y = R at *
            go_wp2_with (first | go_big_skip | fail)
            refine KF.out.mono ?_
            intro e w5 hx
            obtain ⟨v1, u1, us1, rfl, t1, hA, o1, b1⟩ := hx.toks
            obtain ⟨a1, c1_, rfl, s1⟩ := own_src t1.row
            obtain ⟨ua, uc, rfl, -⟩ := own_src o1
            have BX := Hid.mk' (rowB NEW.out.box b1)
            obtain ⟨p0, p1, p2_, p3, p4, p5⟩ := cells5 BX.out
            have OV := Hid.mk' (own_keep NEW.out.tr b1)
            rw [HT.out] at OV
            have S1 := Hid.mk' s1
            have LN := Hid.mk' (tcs_len R.1 us1 t1.len)
            have P1 := Hid.mk' (tcs_one R.1 us1 t1.one)
            have HA := Hid.mk' (hA none (fun k hk => by cases hk))
            have O1 := Hid.mk' o1
            have B2 := Hid.mk' b1
            have T1 := Hid.mk' t1
            have SZ : Hid (g + 1 ≤ w5.heap.size) := Hid.mk' (by have := NEW.out.gl; have := NEW.out.box.lt; have := b1.size; omega)
            have GT : Hid (some g ≠ (Value.slice ta T.length tc).ownBlock) := Hid.mk' (fun e => NEW.out.gt e.symm)
            clear hx t1 hA o1 b1 s1 KF n0 n1 n2 n3 n4 n5 hcell
            go_wp2_with (first | (at_builtin; refine wpList_append_at _ rfl (.tmp 51) (.tmp 52) 24 rfl (g + 1) 107 (.agg #[.int .i64 0, .int .i64 0, .string ⟨#[]⟩, .slice none 0 0, .bool false]) 5 64 Tryz.underlying24 Tryz.infoTok rfl (by decide) _ _ _ rfl OV.out _ R.1.length _ (tcs R.1 us1) rfl LN.out S1.out P1.out (by unfold maxLen; omega) (by omega) SZ.out ?_; intro tv' w6 ho hg hat; obtain ⟨a6, c6, rfl, _⟩ := own_src ho; have RB6 := BX.out.of_block (hg.block g BX.out.lt GT.out); obtain ⟨k0, k1, k2, k3, k4, k5⟩ := cells5 RB6; have fk2 := RB6.frozen 2; clear RB6) | fail)
            have NEW2 := Hid.mk' (NEW.out.feed (R := R) (hv' := .slice ua R.2.length uc) (by rw [ES.out, HT.out]) B2.out T1.out.len T1.out.one HA.out O1.out (by rw [HT.out]; exact ho) hg hat)
            clear ho hg hat
            go_roundw
            case rel => exact ⟨k + 1, _, _, _, _, by omega, by go_num, by rw [e9.out]; exact NEW2.out⟩
            case measure => first | (simp [intOf]; omega) | simp [intOf]
          · have ck : ¬ (k : Int) < (d.length : Int) := by omega
            go_wp2
            go_roundw
            case rel => exact ⟨k + 1, _, _, _, _, by omega, by go_num, by rw [e9.out]; exact NEW.out.over (by omega)⟩
            case measure => first | (simp [intOf]; omega) | simp [intOf]

        · go_simp
          refine (l1Copy_own ha hc H _ (HBT.out.below (Below.refl _ _).drew) (by omega)).mono ?_
          rintro e w2 ⟨v, rfl, ov, hb2⟩
          replace hb2 := undrew hb2
          obtain ⟨va, vc, rfl, -⟩ := own_src ov
          refine hK.out _ _ ((hb2.cell (p := ⟨g, 2, none⟩) gl).trans c2) (fun hHeld => ?_)
          clear hK K
          try simp only [Act.put, zA, zB, zC]
          refine tkY 8 ?_
          have c4' := (hb2.cell (p := ⟨g, 4, none⟩) gl).trans c4
          refine wpAnyH_ready (rs := [1, 9]) (by kernel_rfl) (by simp) ?_
          refine AllReadyH.cons (o := ⟨_, _, _, _, _, _⟩) rfl (fun K hK => ?_) (AllReadyH.cons (o := ⟨_, _, _, _, _, _⟩) rfl (fun K hK => ?_) AllReadyH.nil)
          · go_simp
            refine hK.out _ _ (by assumption) (fun hHeld => ?_)
            clear hK K c4' 
            try simp only [Act.put, zA, zB, zC]
            refine wpAnyH_ready (rs := [9]) (by kernel_rfl) (by simp) ?_
            refine AllReadyH.cons (o := ⟨_, _, _, _, _, _⟩) rfl (fun K hK => ?_) AllReadyH.nil
            go_simp
            have N3 := below_new w2 (.cells #[.int .i64 (k : Int), .int .i64 (T.length : Int), .slice va H.length vc] 31)
            have B3 := hb2.trans (N3.mono hb2.size)
            refine hK.out _ _ ((B3.cell (p := ⟨g, 2, none⟩) gl).trans c2) (fun hHeld => ?_)
            clear hK K
            try simp only [Act.put, zA, zB, zC]
            have OWC := Hid.mk' (HMS.out.keep B3).cr
            obtain ⟨q0, q1, q2_, q3⟩ := cells3 (row3 w2 31 (.int .i64 (k : Int)) (.int .i64 (T.length : Int)) (.slice va H.length vc))
            have BV : Hid (BT (XB g g (.slice ta T.length tc) (.slice ca C cc)) (w2.alloc (.cells #[.int .i64 (k : Int), .int .i64 (T.length : Int), .slice va H.length vc] 31)) (.slice va H.length vc) H) := Hid.mk' (BT.of_own (own_keep ov N3) (fun q eq hx => by
              have h1 := (ov.lt q eq).1
              have h2 := OLD.out q hx
              exact absurd h1 (Nat.not_le_of_lt h2)))
            have HB3 := Hid.mk' B3
            have hbs : Hid (g + 1 ≤ (w2.alloc (.cells #[.int .i64 (k : Int), .int .i64 (T.length : Int), .slice va H.length vc] 31)).heap.size) := Hid.mk' (by have := HMS.out.gl; have := HMS.out.box.lt; have := B3.size; omega)
            clear N3 B3
            generalize hW3 : w2.alloc (.cells #[.int .i64 (k : Int), .int .i64 (T.length : Int), .slice va H.length vc] 31) = W3 at *
            refine wpAnyH_ready (rs := [10]) (by kernel_rfl) (by simp) ?_
            refine AllReadyH.cons (o := ⟨_, _, _, _, _, _⟩) rfl (fun K hK => ?_) AllReadyH.nil
            refine step_append_at rfl (.tmp 26) (.tmp 34) 25 rfl (g + 1) 31 (.agg #[.int .i64 0, .int .i64 0, .slice none 0 0]) 3 40 Tryz.underlying25 infoCheck rfl (by decide) _ _ _ rfl OWC.out _ 1 1 [.int .i64 (k : Int), .int .i64 (T.length : Int), .slice va H.length vc] rfl rfl (.inr ⟨⟨w2.heap.size, 0, none⟩, rfl, fun j u hu => by
              have hj : j = 0 ∨ j = 1 ∨ j = 2 := by
                have := (List.getElem?_eq_some_iff.1 hu).1
                simp at this; omega
              rcases hj with rfl | rfl | rfl
              · cases hu; exact q0
              · cases hu; exact q1
              · cases hu; exact q2_⟩) (fun u hu => by
              simp only [List.mem_cons, List.mem_nil_iff, or_false] at hu
              rcases hu with rfl | rfl | rfl <;> rfl) (by unfold maxLen; omega) (by omega) hbs.out ?_
            intro cv' w4 ho hg hat
            obtain ⟨ca', cc', rfl, -⟩ := own_src ho
            have NEW := Hid.mk' (HMS.out.check (v := .slice va H.length vc) HB3.out (by rw [HHN.out]; exact BV.out) (by rw [HCS.out, HTN.out]; exact ho) hg hat)
            have RB := rowB HMS.out.box HB3.out
            have RB2 := RB.of_block (hg.block g RB.lt (fun e => HMS.out.gc e.symm))
            obtain ⟨m0, m1, m2, m3, m4, m5⟩ := cells5 RB2
            have fm4 := RB2.frozen 4
            refine hK.out _ _ m2 (fun hHeld => ?_)
            clear hK K ho hat RB
            try simp only [Act.put, zA, zB, zC]
            refine tkY 11 ?_
            refine wpAnyH_ready (rs := [12]) (by kernel_rfl) (by simp) ?_
            refine AllReadyH.cons (o := ⟨_, _, _, _, _, _⟩) rfl (fun K hK => ?_) AllReadyH.nil
            go_simp
            refine hK.out _ _ (by rw [World.cell?_setCell_other _ _ _ _ (by simp)]; exact m2) (fun hHeld => ?_)
            clear hK K
            try simp only [Act.put, zA, zB, zC]
            refine wpAnyH_done (by kernel_rfl) ?_ _
            clear hHeld m0 m1 m2 m3 m4 m5 fm4 RB2 hg q0 q1 q2_ q3 hW3 OWC hbs HB3 BV ov hb2
            have e9 : Hid ((k + 1 + s - 1) / s = C + 1) := Hid.mk' (by have := (cnt_div hs H0.out).2; rw [HC.out] at this; exact this)
            generalize hWM : w4.setCell ⟨g, 4, none⟩ (.slice ca' (C + 1) cc') = WM at *
            clear hWM
            by_cases klt : k < d.length
            · have ck : (k : Int) < (d.length : Int) := by omega
              rcases HD.out.below NEW.out.bel with hd0 | ⟨b9, o9, rfl, hbs9, hc9⟩
              · exact absurd klt (by rw [hd0]; exact Nat.not_lt_zero _)
              obtain ⟨y0, y1⟩ := HU.out k klt
              obtain ⟨y, hyy⟩ : ∃ y : Nat, d.getD k 0 = (y : Int) := ⟨(d.getD k 0).toNat, by omega⟩
              rw [hyy] at y1
              have hcell : WM.cell? ⟨b9, o9 + k, none⟩ = some (.int .u8 y) := by rw [← hyy]; exact hc9 k klt
              have ES : Hid (allX [] [] (d.take (k + 1)) = (T ++ (feedX H y).1, (feedX H y).2)) := Hid.mk' (by
                rw [take_snoc_int klt, allX_append, hyy, HT.out, HH.out]
                simp [allX])
              have fl := feedX_len H y
              have pb : BAt WM ha H := by
                obtain ⟨pa, pc, pe, _, pb⟩ := NEW.out.hd.at
                rw [HH.out] at pe pb
                injection pe with pe1 _ _
                all_goals first | (subst pe1; exact pb) | exact pb
              have KF := Hid.mk' (l5Feed_any ha hc H y WM pb HY.out hcap (by omega) (by omega))
              obtain ⟨n0, n1, n2, n3, n4, n5⟩ := cells5 NEW.out.box
              clear hc9 hyy y0 pb
              generalize feedX H y = R at *
              go_wp2_with (first | go_big_skip | fail)
              refine KF.out.mono ?_
              intro e w5 hx
              obtain ⟨v1, u1, us1, rfl, t1, hA, o1, b1⟩ := hx.toks
              obtain ⟨a1, c1_, rfl, s1⟩ := own_src t1.row
              obtain ⟨ua, uc, rfl, -⟩ := own_src o1
              have BX := Hid.mk' (rowB NEW.out.box b1)
              obtain ⟨p0, p1, p2_, p3, p4, p5⟩ := cells5 BX.out
              have OV := Hid.mk' (own_keep NEW.out.tr b1)
              rw [HT.out] at OV
              have S1 := Hid.mk' s1
              have LN := Hid.mk' (tcs_len R.1 us1 t1.len)
              have P1 := Hid.mk' (tcs_one R.1 us1 t1.one)
              have HA := Hid.mk' (hA none (fun k hk => by cases hk))
              have O1 := Hid.mk' o1
              have B2 := Hid.mk' b1
              have T1 := Hid.mk' t1
              have SZ : Hid (g + 1 ≤ w5.heap.size) := Hid.mk' (by have := NEW.out.gl; have := NEW.out.box.lt; have := b1.size; omega)
              have GT : Hid (some g ≠ (Value.slice ta T.length tc).ownBlock) := Hid.mk' (fun e => NEW.out.gt e.symm)
              clear hx t1 hA o1 b1 s1 KF n0 n1 n2 n3 n4 n5 hcell
              go_wp2_with (first | (at_builtin; refine wpList_append_at _ rfl (.tmp 51) (.tmp 52) 24 rfl (g + 1) 107 (.agg #[.int .i64 0, .int .i64 0, .string ⟨#[]⟩, .slice none 0 0, .bool false]) 5 64 Tryz.underlying24 Tryz.infoTok rfl (by decide) _ _ _ rfl OV.out _ R.1.length _ (tcs R.1 us1) rfl LN.out S1.out P1.out (by unfold maxLen; omega) (by omega) SZ.out ?_; intro tv' w6 ho hg hat; obtain ⟨a6, c6, rfl, _⟩ := own_src ho; have RB6 := BX.out.of_block (hg.block g BX.out.lt GT.out); obtain ⟨k0, k1, k2, k3, k4, k5⟩ := cells5 RB6; have fk2 := RB6.frozen 2; clear RB6) | fail)
              have NEW2 := Hid.mk' (NEW.out.feed (R := R) (hv' := .slice ua R.2.length uc) (by rw [ES.out, HT.out]) B2.out T1.out.len T1.out.one HA.out O1.out (by rw [HT.out]; exact ho) hg hat)
              clear ho hg hat
              go_roundw
              case rel => exact ⟨k + 1, _, _, _, _, by omega, by go_num, by rw [e9.out]; exact NEW2.out⟩
              case measure => first | (simp [intOf]; omega) | simp [intOf]
            · have ck : ¬ (k : Int) < (d.length : Int) := by omega
              go_wp2
              go_roundw
              case rel => exact ⟨k + 1, _, _, _, _, by omega, by go_num, by rw [e9.out]; exact NEW.out.over (by omega)⟩
              case measure => first | (simp [intOf]; omega) | simp [intOf]

          · go_simp
            have N3 := below_new w2 (.cells #[.int .i64 (k : Int), .int .i64 (T.length : Int), .slice va H.length vc] 31)
            have B3 := hb2.trans (N3.mono hb2.size)
            refine hK.out _ _ ((B3.cell (p := ⟨g, 2, none⟩) gl).trans c2) (fun hHeld => ?_)
            clear hK K
            try simp only [Act.put, zA, zB, zC]
            have OWC := Hid.mk' (HMS.out.keep B3).cr
            obtain ⟨q0, q1, q2_, q3⟩ := cells3 (row3 w2 31 (.int .i64 (k : Int)) (.int .i64 (T.length : Int)) (.slice va H.length vc))
            have BV : Hid (BT (XB g g (.slice ta T.length tc) (.slice ca C cc)) (w2.alloc (.cells #[.int .i64 (k : Int), .int .i64 (T.length : Int), .slice va H.length vc] 31)) (.slice va H.length vc) H) := Hid.mk' (BT.of_own (own_keep ov N3) (fun q eq hx => by
              have h1 := (ov.lt q eq).1
              have h2 := OLD.out q hx
              exact absurd h1 (Nat.not_le_of_lt h2)))
            have HB3 := Hid.mk' B3
            have hbs : Hid (g + 1 ≤ (w2.alloc (.cells #[.int .i64 (k : Int), .int .i64 (T.length : Int), .slice va H.length vc] 31)).heap.size) := Hid.mk' (by have := HMS.out.gl; have := HMS.out.box.lt; have := B3.size; omega)
            clear N3 B3
            generalize hW3 : w2.alloc (.cells #[.int .i64 (k : Int), .int .i64 (T.length : Int), .slice va H.length vc] 31) = W3 at *
            have c5' := (HB3.out.cell (p := ⟨g, 4, none⟩) gl).trans c4
            clear c4'
            refine wpAnyH_ready (rs := [1]) (by kernel_rfl) (by simp) ?_
            refine AllReadyH.cons (o := ⟨_, _, _, _, _, _⟩) rfl (fun K hK => ?_) AllReadyH.nil
            go_simp
            refine hK.out _ _ (by assumption) (fun hHeld => ?_)
            clear hK K
            try simp only [Act.put, zA, zB, zC]
            clear c5'
            refine wpAnyH_ready (rs := [10]) (by kernel_rfl) (by simp) ?_
            refine AllReadyH.cons (o := ⟨_, _, _, _, _, _⟩) rfl (fun K hK => ?_) AllReadyH.nil
            refine step_append_at rfl (.tmp 26) (.tmp 34) 25 rfl (g + 1) 31 (.agg #[.int .i64 0, .int .i64 0, .slice none 0 0]) 3 40 Tryz.underlying25 infoCheck rfl (by decide) _ _ _ rfl OWC.out _ 1 1 [.int .i64 (k : Int), .int .i64 (T.length : Int), .slice va H.length vc] rfl rfl (.inr ⟨⟨w2.heap.size, 0, none⟩, rfl, fun j u hu => by
              have hj : j = 0 ∨ j = 1 ∨ j = 2 := by
                have := (List.getElem?_eq_some_iff.1 hu).1
                simp at this; omega
              rcases hj with rfl | rfl | rfl
              · cases hu; exact q0
              · cases hu; exact q1
              · cases hu; exact q2_⟩) (fun u hu => by
              simp only [List.mem_cons, List.mem_nil_iff, or_false] at hu
              rcases hu with rfl | rfl | rfl <;> rfl) (by unfold maxLen; omega) (by omega) hbs.out ?_
            intro cv' w4 ho hg hat
            obtain ⟨ca', cc', rfl, -⟩ := own_src ho
            have NEW := Hid.mk' (HMS.out.check (v := .slice va H.length vc) HB3.out (by rw [HHN.out]; exact BV.out) (by rw [HCS.out, HTN.out]; exact ho) hg hat)
            have RB := rowB HMS.out.box HB3.out
            have RB2 := RB.of_block (hg.block g RB.lt (fun e => HMS.out.gc e.symm))
            obtain ⟨m0, m1, m2, m3, m4, m5⟩ := cells5 RB2
            have fm4 := RB2.frozen 4
            refine hK.out _ _ m2 (fun hHeld => ?_)
            clear hK K ho hat RB
            try simp only [Act.put, zA, zB, zC]
            refine tkY 11 ?_
            refine wpAnyH_ready (rs := [12]) (by kernel_rfl) (by simp) ?_
            refine AllReadyH.cons (o := ⟨_, _, _, _, _, _⟩) rfl (fun K hK => ?_) AllReadyH.nil
            go_simp
            refine hK.out _ _ (by rw [World.cell?_setCell_other _ _ _ _ (by simp)]; exact m2) (fun hHeld => ?_)
            clear hK K
            try simp only [Act.put, zA, zB, zC]
            refine wpAnyH_done (by kernel_rfl) ?_ _
            clear hHeld m0 m1 m2 m3 m4 m5 fm4 RB2 hg q0 q1 q2_ q3 hW3 OWC hbs HB3 BV ov hb2
            have e9 : Hid ((k + 1 + s - 1) / s = C + 1) := Hid.mk' (by have := (cnt_div hs H0.out).2; rw [HC.out] at this; exact this)
            generalize hWM : w4.setCell ⟨g, 4, none⟩ (.slice ca' (C + 1) cc') = WM at *
            clear hWM
            by_cases klt : k < d.length
            · have ck : (k : Int) < (d.length : Int) := by omega
              rcases HD.out.below NEW.out.bel with hd0 | ⟨b9, o9, rfl, hbs9, hc9⟩
              · exact absurd klt (by rw [hd0]; exact Nat.not_lt_zero _)
              obtain ⟨y0, y1⟩ := HU.out k klt
              obtain ⟨y, hyy⟩ : ∃ y : Nat, d.getD k 0 = (y : Int) := ⟨(d.getD k 0).toNat, by omega⟩
              rw [hyy] at y1
              have hcell : WM.cell? ⟨b9, o9 + k, none⟩ = some (.int .u8 y) := by rw [← hyy]; exact hc9 k klt
              have ES : Hid (allX [] [] (d.take (k + 1)) = (T ++ (feedX H y).1, (feedX H y).2)) := Hid.mk' (by
                rw [take_snoc_int klt, allX_append, hyy, HT.out, HH.out]
                simp [allX])
              have fl := feedX_len H y
              have pb : BAt WM ha H := by
                obtain ⟨pa, pc, pe, _, pb⟩ := NEW.out.hd.at
                rw [HH.out] at pe pb
                injection pe with pe1 _ _
                all_goals first | (subst pe1; exact pb) | exact pb
              have KF := Hid.mk' (l5Feed_any ha hc H y WM pb HY.out hcap (by omega) (by omega))
              obtain ⟨n0, n1, n2, n3, n4, n5⟩ := cells5 NEW.out.box
              clear hc9 hyy y0 pb
              generalize feedX H y = R at *
              go_wp2_with (first | go_big_skip | fail)
              refine KF.out.mono ?_
              intro e w5 hx
              obtain ⟨v1, u1, us1, rfl, t1, hA, o1, b1⟩ := hx.toks
              obtain ⟨a1, c1_, rfl, s1⟩ := own_src t1.row
              obtain ⟨ua, uc, rfl, -⟩ := own_src o1
              have BX := Hid.mk' (rowB NEW.out.box b1)
              obtain ⟨p0, p1, p2_, p3, p4, p5⟩ := cells5 BX.out
              have OV := Hid.mk' (own_keep NEW.out.tr b1)
              rw [HT.out] at OV
              have S1 := Hid.mk' s1
              have LN := Hid.mk' (tcs_len R.1 us1 t1.len)
              have P1 := Hid.mk' (tcs_one R.1 us1 t1.one)
              have HA := Hid.mk' (hA none (fun k hk => by cases hk))
              have O1 := Hid.mk' o1
              have B2 := Hid.mk' b1
              have T1 := Hid.mk' t1
              have SZ : Hid (g + 1 ≤ w5.heap.size) := Hid.mk' (by have := NEW.out.gl; have := NEW.out.box.lt; have := b1.size; omega)
              have GT : Hid (some g ≠ (Value.slice ta T.length tc).ownBlock) := Hid.mk' (fun e => NEW.out.gt e.symm)
              clear hx t1 hA o1 b1 s1 KF n0 n1 n2 n3 n4 n5 hcell
              go_wp2_with (first | (at_builtin; refine wpList_append_at _ rfl (.tmp 51) (.tmp 52) 24 rfl (g + 1) 107 (.agg #[.int .i64 0, .int .i64 0, .string ⟨#[]⟩, .slice none 0 0, .bool false]) 5 64 Tryz.underlying24 Tryz.infoTok rfl (by decide) _ _ _ rfl OV.out _ R.1.length _ (tcs R.1 us1) rfl LN.out S1.out P1.out (by unfold maxLen; omega) (by omega) SZ.out ?_; intro tv' w6 ho hg hat; obtain ⟨a6, c6, rfl, _⟩ := own_src ho; have RB6 := BX.out.of_block (hg.block g BX.out.lt GT.out); obtain ⟨k0, k1, k2, k3, k4, k5⟩ := cells5 RB6; have fk2 := RB6.frozen 2; clear RB6) | fail)
              have NEW2 := Hid.mk' (NEW.out.feed (R := R) (hv' := .slice ua R.2.length uc) (by rw [ES.out, HT.out]) B2.out T1.out.len T1.out.one HA.out O1.out (by rw [HT.out]; exact ho) hg hat)
              clear ho hg hat
              go_roundw
              case rel => exact ⟨k + 1, _, _, _, _, by omega, by go_num, by rw [e9.out]; exact NEW2.out⟩
              case measure => first | (simp [intOf]; omega) | simp [intOf]
            · have ck : ¬ (k : Int) < (d.length : Int) := by omega
              go_wp2
              go_roundw
              case rel => exact ⟨k + 1, _, _, _, _, by omega, by go_num, by rw [e9.out]; exact NEW.out.over (by omega)⟩
              case measure => first | (simp [intOf]; omega) | simp [intOf]

      · have e0 : ((r : Int) == 0) = false := beq_eq_false_iff_ne.2 (by omega)
        have e9 : Hid ((k + 1 + s - 1) / s = C) := Hid.mk' (by have := cnt_not hs (by rw [HR1.out]; exact h0); rw [this]; exact HC.out)
        have NEW := HMS
        have h0' : ¬ (r : Int) = 0 := by omega
        by_cases klt : k < d.length
        · have ck : (k : Int) < (d.length : Int) := by omega
          rcases HD.out.below NEW.out.bel with hd0 | ⟨b9, o9, rfl, hbs9, hc9⟩
          · exact absurd klt (by rw [hd0]; exact Nat.not_lt_zero _)
          obtain ⟨y0, y1⟩ := HU.out k klt
          obtain ⟨y, hyy⟩ : ∃ y : Nat, d.getD k 0 = (y : Int) := ⟨(d.getD k 0).toNat, by omega⟩
          rw [hyy] at y1
          have hcell : wr.cell? ⟨b9, o9 + k, none⟩ = some (.int .u8 y) := by rw [← hyy]; exact hc9 k klt
          have ES : Hid (allX [] [] (d.take (k + 1)) = (T ++ (feedX H y).1, (feedX H y).2)) := Hid.mk' (by
            rw [take_snoc_int klt, allX_append, hyy, HT.out, HH.out]
            simp [allX])
          have fl := feedX_len H y
          have pb : BAt wr ha H := by
            obtain ⟨pa, pc, pe, _, pb⟩ := NEW.out.hd.at
            rw [HH.out] at pe pb
            injection pe with pe1 _ _
            all_goals first | (subst pe1; exact pb) | exact pb
          have KF := Hid.mk' (l5Feed_any ha hc H y wr pb HY.out hcap (by omega) (by omega))
          obtain ⟨n0, n1, n2, n3, n4, n5⟩ := cells5 NEW.out.box
          clear hc9 hyy y0 pb
          generalize feedX H y = R at *
          go_wp2_with (first | go_big_skip | fail)
          refine KF.out.mono ?_
          intro e w5 hx
          obtain ⟨v1, u1, us1, rfl, t1, hA, o1, b1⟩ := hx.toks
          obtain ⟨a1, c1_, rfl, s1⟩ := own_src t1.row
          obtain ⟨ua, uc, rfl, -⟩ := own_src o1
          have BX := Hid.mk' (rowB NEW.out.box b1)
          obtain ⟨p0, p1, p2_, p3, p4, p5⟩ := cells5 BX.out
          have OV := Hid.mk' (own_keep NEW.out.tr b1)
          rw [HT.out] at OV
          have S1 := Hid.mk' s1
          have LN := Hid.mk' (tcs_len R.1 us1 t1.len)
          have P1 := Hid.mk' (tcs_one R.1 us1 t1.one)
          have HA := Hid.mk' (hA none (fun k hk => by cases hk))
          have O1 := Hid.mk' o1
          have B2 := Hid.mk' b1
          have T1 := Hid.mk' t1
          have SZ : Hid (g + 1 ≤ w5.heap.size) := Hid.mk' (by have := NEW.out.gl; have := NEW.out.box.lt; have := b1.size; omega)
          have GT : Hid (some g ≠ (Value.slice ta T.length tc).ownBlock) := Hid.mk' (fun e => NEW.out.gt e.symm)
          clear hx t1 hA o1 b1 s1 KF n0 n1 n2 n3 n4 n5 hcell
          go_wp2_with (first | (at_builtin; refine wpList_append_at _ rfl (.tmp 51) (.tmp 52) 24 rfl (g + 1) 107 (.agg #[.int .i64 0, .int .i64 0, .string ⟨#[]⟩, .slice none 0 0, .bool false]) 5 64 Tryz.underlying24 Tryz.infoTok rfl (by decide) _ _ _ rfl OV.out _ R.1.length _ (tcs R.1 us1) rfl LN.out S1.out P1.out (by unfold maxLen; omega) (by omega) SZ.out ?_; intro tv' w6 ho hg hat; obtain ⟨a6, c6, rfl, _⟩ := own_src ho; have RB6 := BX.out.of_block (hg.block g BX.out.lt GT.out); obtain ⟨k0, k1, k2, k3, k4, k5⟩ := cells5 RB6; have fk2 := RB6.frozen 2; clear RB6) | fail)
          have NEW2 := Hid.mk' (NEW.out.feed (R := R) (hv' := .slice ua R.2.length uc) (by rw [ES.out, HT.out]) B2.out T1.out.len T1.out.one HA.out O1.out (by rw [HT.out]; exact ho) hg hat)
          clear ho hg hat
          go_roundw
          case rel => exact ⟨k + 1, _, _, _, _, by omega, by go_num, by rw [e9.out]; exact NEW2.out⟩
          case measure => first | (simp [intOf]; omega) | simp [intOf]
        · have ck : ¬ (k : Int) < (d.length : Int) := by omega
          go_wp2
          go_roundw
          case rel => exact ⟨k + 1, _, _, _, _, by omega, by go_num, by rw [e9.out]; exact NEW.out.over (by omega)⟩
          case measure => first | (simp [intOf]; omega) | simp [intOf]

    · have ci : ¬ (k : Int) ≤ (d.length : Int) := by omega
      obtain rfl : k = d.length + 1 := by omega
      rw [cnt_all d.length s hs] at hr
      have eD : d.take (d.length + 1) = d := List.take_of_length_le (by omega)
      obtain ⟨ha, hc, rfl, hcap, hbt⟩ := hr.hd.at
      obtain ⟨ta, tc, rfl, -⟩ := own_src hr.tr
      obtain ⟨ca, cc, rfl, -⟩ := own_src hr.cr
      have lH : (allX [] [] (d.take (d.length + 1))).2.length ≤ 159 := (allX_good _ _ _ (.inl rfl)).len
      have KC := Hid.mk' (l1Copy_own ha hc _ wr hbt (by omega))
      have HMS := Hid.mk' hr
      obtain ⟨c0, c1, c2, c3, c4, gl⟩ := cells5 hr.box
      have ED := Hid.mk' eD
      clear hr hbt eD
      generalize hT : (allX [] [] (d.take (d.length + 1))).1 = T at *
      generalize hH : (allX [] [] (d.take (d.length + 1))).2 = H at *
      have HT := Hid.mk' hT
      have HH := Hid.mk' hH
      generalize hJ : d.length / s + 1 = J at *
      have HJ := Hid.mk' hJ
      clear hT hH hJ
      go_wp2_with fail
      refine KC.out.mono ?_
      rintro e w2 ⟨v, rfl, ov, hb2⟩
      obtain ⟨va, vc, rfl, -⟩ := own_src ov
      have Y := HMS.out.keep hb2
      obtain ⟨c0, c1, c2, c3, c4, gl⟩ := cells5 Y.box
      obtain ⟨d0, d1, d2, d3, d4, d5⟩ := cells5 Y.r0
      have f3 := Y.box.frozen 3
      have q0 := Y.r0.frozen 0
      have q1 := Y.r0.frozen 1
      have q2_ := Y.r0.frozen 2
      have q3 := Y.r0.frozen 3
      have q4 := Y.r0.frozen 4
      have hne : w.heap.size ≠ g := by have := Y.gl; omega
      have hne2 : g ≠ w.heap.size := by have := Y.gl; omega
      have HY := Hid.mk' Y
      have OV := Hid.mk' ov
      have B2 := Hid.mk' hb2
      clear Y ov hb2 KC
      go_wp2
      refine bodyPost_ret (v := .agg #[.slice da d.length dc, .int .i64 (s : Int), .slice ta T.length tc, .slice va H.length vc, .slice ca J cc]) (by simp [results, Tryz.results72, go_sem, *]) rfl ?_
      have K1 := (KeptIn.refl g (g + 1) w2).setCell (p := ⟨g, 3, none⟩) (by simp) (by simp) (.slice va H.length vc)
      generalize hU : w2.setCell ⟨g, 3, none⟩ (.slice va H.length vc) = U at *
      have K2 := ((((KeptIn.refl w.heap.size (w.heap.size + 1) U).setCell (p := ⟨w.heap.size, 0, none⟩) (by simp) (by simp) (.slice da d.length dc)).setCell (p := ⟨w.heap.size, 1, none⟩) (by simp) (by simp) (.int .i64 (s : Int))).setCell (p := ⟨w.heap.size, 2, none⟩) (by simp) (by simp) (.slice ta T.length tc)).setCell (p := ⟨w.heap.size, 3, none⟩) (by simp) (by simp) (.slice va H.length vc) |>.setCell (p := ⟨w.heap.size, 4, none⟩) (by simp) (by simp) (.slice ca J cc)
      generalize hV : ((((U.setCell ⟨w.heap.size, 0, none⟩ (.slice da d.length dc)).setCell ⟨w.heap.size, 1, none⟩ (.int .i64 (s : Int))).setCell ⟨w.heap.size, 2, none⟩ (.slice ta T.length tc)).setCell ⟨w.heap.size, 3, none⟩ (.slice va H.length vc)).setCell ⟨w.heap.size, 4, none⟩ (.slice ca J cc) = V at *
      have y := HY.out
      have sz1 := K1.size
      have sz2 := K2.size
      have szV : w2.heap.size ≤ V.heap.size := Nat.le_trans sz1 sz2
      have kV : ∀ q, q < w2.heap.size → q ≠ g → q ≠ w.heap.size → V.heap[q]? = w2.heap[q]? := fun q h1 h2 h3 => (K2.block q (by omega) (by omega)).trans (K1.block q h1 (by omega))
      have BV : Below w.heap.size w V := y.bel.trans ⟨K2.os.trans K1.os, K2.tape.trans K1.tape, K2.output.trans K1.output, szV, fun q hq => kV q (by have := y.bel.size; omega) (by have := y.gl; omega) (by omega)⟩
      have eT : T = (allX [] [] d).1 := by rw [← HT.out, ED.out]
      have eH : H = (allX [] [] d).2 := by rw [← HH.out, ED.out]
      have x := HMS.out
      have s12 := B2.out.size
      have gw : g < wr.heap.size := x.box.lt
      have wg : w.heap.size < g := x.gl
      have kVr : ∀ q, q < wr.heap.size → q ≠ g → q ≠ w.heap.size → V.heap[q]? = wr.heap[q]? := fun q h1 h2 h3 => (kV q (by omega) h2 h3).trans (B2.out.block q h1)
      have dtV : V.ownsRow (w.heap.size + 1) 5 1 (.slice da d.length dc) d.length (bcs d) := own_of x.dt (Nat.le_refl _) (fun q eq hq => kVr q (x.dt.lt q eq).2 (by have := x.dg q eq; omega) (by have := (x.dt.lt q eq).1; omega))
      have hdV : V.ownsRow (w.heap.size + 1) 5 1 (.slice va H.length vc) H.length (bcs H) := own_of OV.out (by omega) (fun q eq hq => kV q (OV.out.lt q eq).2 (by have := (OV.out.lt q eq).1; omega) (by have := (OV.out.lt q eq).1; omega))
      have tr := x.tr
      rw [HT.out] at tr
      have ul := x.ul
      rw [HT.out] at ul
      obtain ⟨_, _, e, capT⟩ := own_cap tr
      obtain ⟨rfl, -, rfl⟩ := Value.slice.inj e
      obtain ⟨_, _, e, capC⟩ := own_cap x.cr
      obtain ⟨rfl, -, rfl⟩ := Value.slice.inj e
      have ft : (ta = none ∧ tc = 0 ∧ T = []) ∨ ∃ b, ta = some ⟨b, 0, none⟩ := by
        rcases tr.2 with ⟨h, h9⟩ | ⟨b, _, _, h, -⟩
        · injection h with h1 _ h3; exact .inl ⟨h1, h3, List.eq_nil_of_length_eq_zero h9⟩
        · injection h with h1 _ _; exact .inr ⟨b, h1⟩
      have fc : ∃ b, ca = some ⟨b, 0, none⟩ := by
        rcases x.cr.2 with ⟨h, h0⟩ | ⟨b, _, _, h, -⟩
        · exact absurd h0 (by rw [← HJ.out]; exact Nat.succ_ne_zero _)
        · injection h with h1 _ _; exact ⟨b, h1⟩
      unfold LnS
      rw [HJ.out, ← eT, ← eH]
      refine ⟨_, _, ta, ca, tc, cc, rfl, dtV, hdV, fun q eq e2 => by have := x.dg q eq; have := (OV.out.lt q e2).1; omega, SMD.out, capT, ft, fc, capC, fun z hz hzk => ?_, BV⟩
      have kz : ∀ q, g < q → q < wr.heap.size → z.heap[q]? = wr.heap[q]? := fun q h0 h1 => (hzk q (by omega) (by omega) (fun e => by have := x.dg q e; omega) (fun e => by have := (OV.out.lt q e).1; omega)).trans (kVr q h1 (by omega) (by omega))
      have kX : ∀ q, q < wr.heap.size → ¬ XB g g (.slice ta T.length tc) (.slice ca J cc) q → z.heap[q]? = wr.heap[q]? := fun q h1 h2 => kz q (Nat.lt_of_not_le (fun e => h2 (.inl e))) h1
      have szz : wr.heap.size ≤ z.heap.size := by omega
      have ttr : z.ownsRow (g + 1) 107 5 (.slice ta T.length tc) T.length (tcs T us) := own_of tr (Nat.le_refl _) (fun q eq hq => kz q (by have := (tr.lt q eq).1; omega) (tr.lt q eq).2)
      have tts := (x.tc.step (X' := XB g g (.slice ta T.length tc) (.slice ca J cc)) kX szz (fun _ h => .inl h))
      rw [HT.out] at tts
      have tsr := tts.ts ul ttr
      have ccr : z.ownsRow (g + 1) 31 3 (.slice ca J cc) J (cvs d s J hvs) := own_of x.cr (Nat.le_refl _) (fun q eq hq => kz q (by have := (x.cr.lt q eq).1; omega) (x.cr.lt q eq).2)
      have ccs := checks_at ccr (fun i hi => ((x.hc i hi).step (X' := XB g g (.slice ta T.length tc) (.slice ca J cc)) kX szz (fun _ h => .inl h)).at)
      refine ⟨?_, ?_⟩
      · obtain ⟨p, c, e, b⟩ := tsr
        injection e with e1 _ _
        rw [e1]
        exact b
      · obtain ⟨p, c, e, b⟩ := ccs
        injection e with e1 _ _
        rw [e1]
        exact b

end Go.Proofs.YtlimgcmhidooaaaGreatDoor

namespace Go.Proofs.YtlimgcmhidooaaaGreatDoor
open Go.RowKit

structure NewS (lo hi : Nat) (d : List Int) (s : Nat) (vd vh : Value) (t c : Option Addr) (ct cc : Nat) (w : World) : Prop where
  dt : w.ownsRow lo 5 1 vd d.length (bcs d)
  hd : w.ownsRow lo 5 1 vh (allX [] [] d).2.length (bcs (allX [] [] d).2)
  ap : ∀ q, vd.ownBlock = some q → vh.ownBlock ≠ some q
  df : ∃ b, vd.ownBlock = some b
  ctl : (allX [] [] d).1.length ≤ ct
  tf : (t = none ∧ ct = 0 ∧ (allX [] [] d).1 = []) ∨ ∃ b, t = some ⟨b, 0, none⟩
  cf : ∃ b, c = some ⟨b, 0, none⟩
  ccl : d.length / s + 1 ≤ cc
  rest : ∀ z : World, w.heap.size ≤ z.heap.size → (∀ q, lo ≤ q → q < hi → vd.ownBlock ≠ some q → vh.ownBlock ≠ some q → z.heap[q]? = w.heap[q]?) → TsAt z t (allX [] [] d).1 ∧ CsAt z c (cksN d s (d.length / s + 1))
  dl : ∀ q, vd.ownBlock = some q → q < hi
  hl : ∀ q, vh.ownBlock = some q → q < hi
  his : hi ≤ w.heap.size

theorem NewS.keep {lo hi : Nat} {d : List Int} {s : Nat} {vd vh : Value} {t c : Option Addr} {ct cc : Nat} {w w' : World} (h : NewS lo hi d s vd vh t c ct cc w) (hs : w.heap.size ≤ w'.heap.size) (hk : ∀ q, lo ≤ q → q < hi → w'.heap[q]? = w.heap[q]?) : NewS lo hi d s vd vh t c ct cc w' :=
  ⟨own_of h.dt (Nat.le_refl _) (fun q e _ => hk q (h.dt.lt q e).1 (h.dl q e)), own_of h.hd (Nat.le_refl _) (fun q e _ => hk q (h.hd.lt q e).1 (h.hl q e)), h.ap, h.df, h.ctl, h.tf, h.cf, h.ccl, fun z hz hzk => h.rest z (Nat.le_trans hs hz) (fun q h1 h2 h3 h4 => (hzk q h1 h2 h3 h4).trans (hk q h1 h2)), h.dl, h.hl, Nat.le_trans h.his hs⟩

theorem NewS.below {lo hi : Nat} {d : List Int} {s : Nat} {vd vh : Value} {t c : Option Addr} {ct cc : Nat} {w w' : World} (h : NewS lo hi d s vd vh t c ct cc w) (hb : Below w.heap.size w w') : NewS lo hi d s vd vh t c ct cc w' :=
  h.keep hb.size (fun q _ h2 => hb.block q (Nat.lt_of_lt_of_le h2 h.his))

theorem NewS.kept {lo hi b : Nat} {d : List Int} {s : Nat} {vd vh : Value} {t c : Option Addr} {ct cc : Nat} {w w' : World} (h : NewS lo hi d s vd vh t c ct cc w) (hk : KeptIn b (b + 1) w w') (hb : b < lo) : NewS lo hi d s vd vh t c ct cc w' :=
  h.keep hk.size (fun q h1 h2 => hk.block q (Nat.lt_of_lt_of_le h2 h.his) (.inr (by omega)))

structure DM (lo : Nat) (m : ME) (a t u c : Option Addr) (ca ct cu cc : Nat) (w : World) : Prop where
  at_ : ∀ z : World, w.heap.size ≤ z.heap.size → (∀ q, lo ≤ q → q < w.heap.size → z.heap[q]? = w.heap[q]?) → MAt z a t u c m
  ka : m.dt.length ≤ ca
  kt : m.tk.length ≤ ct
  ku : m.hd.length ≤ cu
  kc : m.cs.length ≤ cc
  af : ∃ b, a = some ⟨b, 0, none⟩
  tf : (t = none ∧ ct = 0 ∧ m.tk = []) ∨ ∃ b, t = some ⟨b, 0, none⟩
  cf : m.cs = [] ∨ ∃ b o, c = some ⟨b, o, none⟩

theorem DM.now {lo : Nat} {m : ME} {a t u c : Option Addr} {ca ct cu cc : Nat} {w : World} (h : DM lo m a t u c ca ct cu cc w) : MAt w a t u c m := h.at_ w (Nat.le_refl _) (fun _ _ _ => rfl)
theorem DM.keep {lo : Nat} {m : ME} {a t u c : Option Addr} {ca ct cu cc : Nat} {w w' : World} (h : DM lo m a t u c ca ct cu cc w) (hs : w.heap.size ≤ w'.heap.size) (hk : ∀ q, lo ≤ q → q < w.heap.size → w'.heap[q]? = w.heap[q]?) : DM lo m a t u c ca ct cu cc w' :=
  ⟨fun z hz hzk => h.at_ z (Nat.le_trans hs hz) (fun q h1 h2 => (hzk q h1 (Nat.lt_of_lt_of_le h2 hs)).trans (hk q h1 h2)), h.ka, h.kt, h.ku, h.kc, h.af, h.tf, h.cf⟩
theorem DM.below {lo : Nat} {m : ME} {a t u c : Option Addr} {ca ct cu cc : Nat} {w w' : World} (h : DM lo m a t u c ca ct cu cc w) (hb : Below w.heap.size w w') : DM lo m a t u c ca ct cu cc w' :=
  h.keep hb.size (fun q _ h2 => hb.block q h2)
theorem DM.mono {lo lo' : Nat} {m : ME} {a t u c : Option Addr} {ca ct cu cc : Nat} {w : World} (h : DM lo m a t u c ca ct cu cc w) (hl : lo' ≤ lo) : DM lo' m a t u c ca ct cu cc w :=
  ⟨fun z hz hzk => h.at_ z hz (fun q h1 h2 => hzk q (Nat.le_trans hl h1) h2), h.ka, h.kt, h.ku, h.kc, h.af, h.tf, h.cf⟩

structure DB (lo g : Nat) (m : ME) (a t u c : Option Addr) (ca ct cu cc : Nat) (w : World) : Prop where
  at_ : ∀ z : World, w.heap.size ≤ z.heap.size → (∀ q, lo ≤ q → q < w.heap.size → q ≠ g → z.heap[q]? = w.heap[q]?) → MAt z a t u c m
  ka : m.dt.length ≤ ca
  kt : m.tk.length ≤ ct
  ku : m.hd.length ≤ cu
  kc : m.cs.length ≤ cc
  af : ∃ b, a = some ⟨b, 0, none⟩
  tf : (t = none ∧ ct = 0 ∧ m.tk = []) ∨ ∃ b, t = some ⟨b, 0, none⟩
  cf : m.cs = [] ∨ ∃ b o, c = some ⟨b, o, none⟩

theorem DB.dm {lo g : Nat} {m : ME} {a t u c : Option Addr} {ca ct cu cc : Nat} {w w' : World} (h : DB lo g m a t u c ca ct cu cc w) (hs : w.heap.size ≤ w'.heap.size) (hk : ∀ q, lo ≤ q → q < w.heap.size → q ≠ g → w'.heap[q]? = w.heap[q]?) : DM lo m a t u c ca ct cu cc w' :=
  ⟨fun z hz hzk => h.at_ z (Nat.le_trans hs hz) (fun q h1 h2 h3 => (hzk q h1 (Nat.lt_of_lt_of_le h2 hs)).trans (hk q h1 h2 h3)), h.ka, h.kt, h.ku, h.kc, h.af, h.tf, h.cf⟩

theorem own_addr {w : World} {base : Nat} {e : TypeId} {size : Nat} {p : Option Addr} {n q : Nat} {xs : List Value} (h : w.ownsRow base e size (.slice p n q) n xs) : (p = none ∨ ∃ b, p = some ⟨b, 0, none⟩) ∧ n ≤ q := by
  refine ⟨?_, ?_⟩
  · rcases h.2 with ⟨h, -⟩ | ⟨b, _, _, h, -⟩
    · injection h with h1 _ _; exact .inl h1
    · injection h with h1 _ _; exact .inr ⟨b, h1⟩
  · obtain ⟨_, _, e, hc⟩ := own_cap h
    injection e with _ _ e3
    omega

theorem own_blk {p : Option Addr} {n q : Nat} {w : World} {base : Nat} {e : TypeId} {size : Nat} {xs : List Value} (h : w.ownsRow base e size (.slice p n q) n xs) (hb : ∃ b, (Value.slice p n q).ownBlock = some b) : ∃ b, p = some ⟨b, 0, none⟩ := by
  rcases (own_addr h).1 with rfl | h
  · obtain ⟨b, hb⟩ := hb; simp [Value.ownBlock] at hb
  · exact h

theorem own_batp {w : World} {base : Nat} {p : Option Addr} {q : Nat} {l : List Int} (h : w.ownsRow base 5 1 (.slice p l.length q) l.length (bcs l)) : BAt w p l := by
  obtain ⟨p', c, e, hb⟩ := own_bat h
  injection e with e1 _ _
  rw [e1]; exact hb

theorem NewS.box {lo hi g : Nat} {d : List Int} {s : Nat} {p1 p2_ t c : Option Addr} {q1 q2_ ct cc : Nat} {w : World} (h : NewS lo hi d s (.slice p1 d.length q1) (.slice p2_ (allX [] [] d).2.length q2_) t c ct cc w) (hg : hi ≤ g) (st : Int) : DB lo g ⟨d, st, (allX [] [] d).1, (allX [] [] d).2, cksN d s (d.length / s + 1)⟩ p1 t p2_ c q1 ct q2_ cc w := by
  refine ⟨fun z hz hzk => ?_, (own_addr h.dt).2, h.ctl, (own_addr h.hd).2, ?_, own_blk h.dt h.df, h.tf, .inr ?_⟩
  · have hh := h.his
    have k : ∀ q, lo ≤ q → q < hi → z.heap[q]? = w.heap[q]? := fun q a b => hzk q a (by omega) (by omega)
    obtain ⟨r1, r2⟩ := h.rest z hz (fun q a b _ _ => k q a b)
    exact ⟨own_batp (own_of h.dt (Nat.le_refl _) (fun q e _ => k q (h.dt.lt q e).1 (h.dl q e))), r1, own_batp (own_of h.hd (Nat.le_refl _) (fun q e _ => k q (h.hd.lt q e).1 (h.hl q e))), r2⟩
  · rw [cksN_len]; exact h.ccl
  · obtain ⟨b, e⟩ := h.cf; exact ⟨b, 0, e⟩

theorem NewS.held {lo hi g : Nat} {d : List Int} {s : Nat} {p1 p2_ t c : Option Addr} {q1 q2_ ct cc : Nat} {w w' : World} {v' : Value} {x : List Int} (h : NewS lo hi d s (.slice p1 d.length q1) (.slice p2_ (allX [] [] d).2.length q2_) t c ct cc w) (hg : hi ≤ g) (hgl : g < w.heap.size) (hr : w.grownBy w' (Value.slice p2_ (allX [] [] d).2.length q2_).ownBlock) (hat : v'.ownBlock = (Value.slice p2_ (allX [] [] d).2.length q2_).ownBlock ∨ v'.ownBlock = some w.heap.size) (ho : w'.ownsRow lo 5 1 v' ((allX [] [] d).2 ++ x).length (bcs ((allX [] [] d).2 ++ x))) (st : Int) : ∃ u cu, v' = .slice u ((allX [] [] d).2 ++ x).length cu ∧ DB lo g ⟨d, st, (allX [] [] d).1, (allX [] [] d).2 ++ x, cksN d s (d.length / s + 1)⟩ p1 t u c q1 ct cu cc w' := by
  obtain ⟨u, cu, rfl⟩ := own_form ho
  refine ⟨u, cu, rfl, fun z hz hzk => ?_, (own_addr h.dt).2, h.ctl, (own_addr ho).2, ?_, own_blk h.dt h.df, h.tf, .inr ?_⟩
  · have hh := h.his
    have hs := hr.size
    have k : ∀ q, lo ≤ q → q < hi → (Value.slice p2_ (allX [] [] d).2.length q2_).ownBlock ≠ some q → z.heap[q]? = w.heap[q]? := fun q a b n => (hzk q a (by omega) (by omega)).trans (hr.block q (by omega) (fun e => n e.symm))
    obtain ⟨r1, r2⟩ := h.rest z (Nat.le_trans hs hz) (fun q a b _ n => k q a b n)
    exact ⟨own_batp (own_of h.dt (Nat.le_refl _) (fun q e _ => k q (h.dt.lt q e).1 (h.dl q e) (h.ap q e))), r1, own_batp (own_of ho (Nat.le_refl _) (fun q e _ => hzk q (ho.lt q e).1 (ho.lt q e).2 (fun eg => by
      rcases hat with ha | ha
      · rw [ha] at e; have := h.hl q e; omega
      · rw [ha] at e; injection e with e; omega))), r2⟩
  · rw [cksN_len]; exact h.ccl
  · obtain ⟨b, e⟩ := h.cf; exact ⟨b, 0, e⟩

theorem NewS.data {lo hi g : Nat} {d : List Int} {s : Nat} {p1 p2_ t c : Option Addr} {q1 q2_ ct cc : Nat} {w w' : World} {v' : Value} {x : List Int} (h : NewS lo hi d s (.slice p1 d.length q1) (.slice p2_ (allX [] [] d).2.length q2_) t c ct cc w) (hg : hi ≤ g) (hgl : g < w.heap.size) (hr : w.grownBy w' (Value.slice p1 d.length q1).ownBlock) (hat : v'.ownBlock = (Value.slice p1 d.length q1).ownBlock ∨ v'.ownBlock = some w.heap.size) (ho : w'.ownsRow lo 5 1 v' (d ++ x).length (bcs (d ++ x))) (st : Int) : ∃ u cu, v' = .slice u (d ++ x).length cu ∧ DB lo g ⟨d ++ x, st, (allX [] [] d).1, (allX [] [] d).2, cksN d s (d.length / s + 1)⟩ u t p2_ c cu ct q2_ cc w' := by
  obtain ⟨u, cu, rfl⟩ := own_form ho
  refine ⟨u, cu, rfl, fun z hz hzk => ?_, (own_addr ho).2, h.ctl, (own_addr h.hd).2, ?_, own_blk ho (hat.elim (fun ha => by rw [ha]; exact h.df) (fun ha => ⟨_, ha⟩)), h.tf, .inr ?_⟩
  · have hh := h.his
    have hs := hr.size
    have k : ∀ q, lo ≤ q → q < hi → (Value.slice p1 d.length q1).ownBlock ≠ some q → z.heap[q]? = w.heap[q]? := fun q a b n => (hzk q a (by omega) (by omega)).trans (hr.block q (by omega) (fun e => n e.symm))
    obtain ⟨r1, r2⟩ := h.rest z (Nat.le_trans hs hz) (fun q a b n _ => k q a b n)
    exact ⟨own_batp (own_of ho (Nat.le_refl _) (fun q e _ => hzk q (ho.lt q e).1 (ho.lt q e).2 (fun eg => by
      rcases hat with ha | ha
      · rw [ha] at e; have := h.dl q e; omega
      · rw [ha] at e; injection e with e; omega))), r1, own_batp (own_of h.hd (Nat.le_refl _) (fun q e _ => k q (h.hd.lt q e).1 (h.hl q e) (fun e2 => h.ap q e2 e))), r2⟩
  · rw [cksN_len]; exact h.ccl
  · obtain ⟨b, e⟩ := h.cf; exact ⟨b, 0, e⟩

theorem ckK_tail (l : List CK) (k : Nat) : ckK l.tail k = ckK l (k + 1) := by
  cases l with
  | nil => simp [ckK]
  | cons x l => simp [ckK]

theorem CsAt.rest1 {w : World} {b c : Nat} {l : List CK} (h : CsAt w (some ⟨b, 0, none⟩) l) (hl : l.length ≤ c) : CsAt w (if c = 1 then some ⟨b, 0, none⟩ else some ⟨b, 3, none⟩) l.tail := by
  by_cases e : c = 1
  · exact .inl (List.eq_nil_of_length_eq_zero (by rw [List.length_tail]; omega))
  · rw [if_neg e]
    rcases h with h | ⟨b1, o1, e1, hb, hc⟩
    · exact .inl (by rw [h]; rfl)
    · cases e1
      refine .inr ⟨b, 3, rfl, hb, fun k hk => ?_⟩
      rw [List.length_tail] at hk
      rw [ckK_tail]
      have := hc (k + 1) (by omega)
      rw [show 0 + (k + 1) * 3 = 3 + k * 3 by omega] at this
      exact this

theorem DB.tail {lo g b : Nat} {m : ME} {a t u : Option Addr} {ca ct cu cc : Nat} {w : World} (h : DB lo g m a t u (some ⟨b, 0, none⟩) ca ct cu cc w) : DB lo g ⟨m.dt, m.st, m.tk, m.hd, m.cs.tail⟩ a t u (if cc = 1 then some ⟨b, 0, none⟩ else some ⟨b, 3, none⟩) ca ct cu (cc - 1) w :=
  ⟨fun z hz hzk => by
    obtain ⟨h1, h2, h3, h4⟩ := h.at_ z hz hzk
    exact ⟨h1, h2, h3, h4.rest1 h.kc⟩, h.ka, h.kt, h.ku, by rw [List.length_tail]; have := h.kc; omega, h.af, h.tf, .inr (by split; exact ⟨b, 0, rfl⟩; exact ⟨b, 3, rfl⟩)⟩

set_option maxRecDepth 100000 in
set_option maxHeartbeats 4000000 in
theorem l12Draw_any (b k : Nat) (l : List Int) (w : World) (h : Src b l k w) (hk : k ≤ 10000) (hl : (l.length : Int) ≤ 1048576) :
    Calls Tryz.prog 73 #[.pointer (some ⟨b, 0, none⟩)] w fun e w' => ∃ (d : List Int) (s k' : Nat) (vd vh : Value) (t c : Option Addr) (ct cc : Nat), e = .returned (.agg #[vd, .int .i64 (s : Int), .slice t (allX [] [] d).1.length ct, vh, .slice c (d.length / s + 1) cc]) ∧ d.length ≤ 180 ∧ Byt d ∧ 1 ≤ s ∧ s ≤ 60 ∧ k' ≤ k + 11 ∧ NewS w.heap.size w'.heap.size d s vd vh t c ct cc w' ∧ Src b l k' w' ∧ KeptIn b (b + 1) w w' := by
  have hbw := h.lt
  have N0 := below_new w (.cells #[.slice none 0 0, .int .i64 0, .slice none 0 0, .slice none 0 0, .slice none 0 0] 27)
  have HS := Hid.mk' (h.below N0)
  have K0 : Hid (KeptIn b (b + 1) w (w.alloc (.cells #[.slice none 0 0, .int .i64 0, .slice none 0 0, .slice none 0 0, .slice none 0 0] 27))) := Hid.mk' (KeptIn.of_below N0)
  have R0 := Hid.mk' (RowA.new w 27 #[.slice none 0 0, .int .i64 0, .slice none 0 0, .slice none 0 0, .slice none 0 0])
  clear h N0
  generalize hW : w.alloc (.cells #[.slice none 0 0, .int .i64 0, .slice none 0 0, .slice none 0 0, .slice none 0 0] 27) = W at *
  go_enter Tryz.func73, Tryz.ntmps73
  go_wp2_with fail
  clear hW
  refine (l1Marked_any b k 10 l W HS.out hk (by decide) (by decide) hl).mono ?_
  rintro e w2 ⟨v, d, k1, rfl, hd, hk1, hD⟩
  obtain ⟨va, vc, rfl⟩ := own_form hD.own
  have HD := Hid.mk' hD
  have bw2 : b < w2.heap.size := hD.src.lt
  have KP := Hid.mk' (l1Pick_any b k1 w2.heap.size 4 l [1, 3, 8, 60] _ (hD.src.below (below_new w2 _)) (iat_lit w2 [1, 3, 8, 60]) (by omega) (by omega) (by decide) (by decide) hl)
  have hN2 := Hid.mk' (below_new w2 (.cells ([1, 3, 8, 60].map (Value.int .i64)).toArray 2))
  clear hD
  go_wp2_with fail
  refine KP.out.mono ?_
  rintro e w3 ⟨i, hi, rfl, hS3, hK3⟩
  obtain ⟨s, hs, hs1, hs2⟩ : ∃ s : Nat, [(1 : Int), 3, 8, 60].getD i 0 = (s : Int) ∧ 1 ≤ s ∧ s ≤ 60 := by
    have h4 : i < 4 := hi
    have : i = 0 ∨ i = 1 ∨ i = 2 ∨ i = 3 := by omega
    rcases this with rfl | rfl | rfl | rfl
    · exact ⟨1, rfl, by decide, by decide⟩
    · exact ⟨3, rfl, by decide, by decide⟩
    · exact ⟨8, rfl, by decide, by decide⟩
    · exact ⟨60, rfl, by decide, by decide⟩
  rw [hs]
  have s23 := hN2.out.size
  have hs3 := hK3.size
  have hbt : BAt w3 va d := by
    obtain ⟨p, c, e, h⟩ := own_bat (own_of HD.out.own (Nat.le_refl _) (fun q eq _ => (hK3.block q (Nat.lt_of_lt_of_le (HD.out.own.lt q eq).2 s23) (.inr (by have := (HD.out.own.lt q eq).1; have := HS.out.lt; omega))).trans (hN2.out.block q (HD.out.own.lt q eq).2)))
    injection e with e1 _ _
    rw [e1]; exact h
  have BY := Hid.mk' (Byt.of HD.out.u8)
  have KN := Hid.mk' (l12New_own d va vc s w3 hbt BY.out (by omega) hs1 hs2)
  have S3 := Hid.mk' hS3
  have KA : Hid (KeptIn b (b + 1) w w3) := Hid.mk' ((K0.out.trans HD.out.kept).trans ((KeptIn.of_below hN2.out).trans hK3))
  have R3 : Hid (RowA w3 w.heap.size 27 #[.slice none 0 0, .int .i64 0, .slice none 0 0, .slice none 0 0, .slice none 0 0]) := Hid.mk' ((hK3.block _ (by have := R0.out.lt; have := HD.out.kept.size; omega) (.inr (by omega))).trans ((hN2.out.block _ (by have := R0.out.lt; have := HD.out.kept.size; omega)).trans ((HD.out.kept.block _ R0.out.lt (.inr (by omega))).trans R0.out)))
  clear hbt hS3 hK3 KP hN2 s23 hs3 HS K0 R0 hs HD
  go_wp2_with fail
  refine KN.out.mono ?_
  rintro e w4 ⟨vd, vh, t, c, ct, cc, rfl, o1, o2, ap, df, ctl, tf, cf, ccl, rest, hb4⟩
  obtain ⟨p1, q1, rfl⟩ := own_form o1
  obtain ⟨p2_, q2_, rfl⟩ := own_form o2
  have sw : w.heap.size < w3.heap.size := R3.out.lt
  have R4 := Hid.mk' (R3.out.below hb4)
  have HR := Hid.mk' (R4.out.put #[.slice p1 d.length q1, .int .i64 (s : Int), .slice t (allX [] [] d).1.length ct, .slice p2_ (allX [] [] d).2.length q2_, .slice c (d.length / s + 1) cc])
  have s34 := hb4.size
  have k5 : ∀ q, q ≠ w.heap.size → (w4.setRow w.heap.size #[.slice p1 d.length q1, .int .i64 (s : Int), .slice t (allX [] [] d).1.length ct, .slice p2_ (allX [] [] d).2.length q2_, .slice c (d.length / s + 1) cc]).heap[q]? = w4.heap[q]? := fun q h => setRow_other _ _ _ _ h
  have NS : Hid (NewS w.heap.size w4.heap.size d s (.slice p1 d.length q1) (.slice p2_ (allX [] [] d).2.length q2_) t c ct cc (w4.setRow w.heap.size #[.slice p1 d.length q1, .int .i64 (s : Int), .slice t (allX [] [] d).1.length ct, .slice p2_ (allX [] [] d).2.length q2_, .slice c (d.length / s + 1) cc])) := Hid.mk' ⟨own_of o1 (by omega) (fun q eq _ => k5 q (by have := (o1.lt q eq).1; omega)), own_of o2 (by omega) (fun q eq _ => k5 q (by have := (o2.lt q eq).1; omega)), ap, df, ctl, tf, cf, ccl, fun z hz hzk => rest z (by rw [setRow_size] at hz; exact hz) (fun q h1 h2 h3 h4 => (hzk q (by omega) h2 h3 h4).trans (k5 q (by omega))), fun q e => (o1.lt q e).2, fun q e => (o2.lt q e).2, by rw [setRow_size]; exact Nat.le_refl _⟩
  have K4 := KA.out.trans (KeptIn.of_below hb4)
  have K5 : Hid (KeptIn b (b + 1) w (w4.setRow w.heap.size #[.slice p1 d.length q1, .int .i64 (s : Int), .slice t (allX [] [] d).1.length ct, .slice p2_ (allX [] [] d).2.length q2_, .slice c (d.length / s + 1) cc])) := Hid.mk' ⟨K4.os, K4.tape, K4.output, by rw [setRow_size]; exact K4.size, fun q h1 h2 => (k5 q (by omega)).trans (K4.block q h1 h2)⟩
  have S5 := Hid.mk' ((S3.out.below hb4).kept (RowA.keptRow w4 w.heap.size #[.slice p1 d.length q1, .int .i64 (s : Int), .slice t (allX [] [] d).1.length ct, .slice p2_ (allX [] [] d).2.length q2_, .slice c (d.length / s + 1) cc]) hbw)
  clear ap df ctl tf cf ccl rest hb4 k5 o1 o2 KN K4
  go_wp2_with (first | ((with_reducible refine wpList_store_row ?_ 27 (.tmp 2) (.tmp 8) ?_ w.heap.size #[.slice p1 d.length q1, .int .i64 (s : Int), .slice t (allX [] [] d).1.length ct, .slice p2_ (allX [] [] d).2.length q2_, .slice c (d.length / s + 1) cc] ?_ ?_ 27 #[.slice none 0 0, .int .i64 0, .slice none 0 0, .slice none 0 0, .slice none 0 0] ?_ ?_ ?_ ?_ ?_); rfl; rfl; rfl; rfl; exact R4.out; kernel_rfl; rfl; kernel_rfl) | fail)
  refine bodyPost_ret (v := .agg #[.slice p1 d.length q1, .int .i64 (s : Int), .slice t (allX [] [] d).1.length ct, .slice p2_ (allX [] [] d).2.length q2_, .slice c (d.length / s + 1) cc]) ?_ ?_ ?_
  · exact results_cell1 Tryz.results73 _ _ _ ⟨w.heap.size, 0, none⟩ _ rfl (HR.out.load _ Tryz.underlying27 rfl (by kernel_rfl))
  · rfl
  exact ⟨d, s, k1 + 1, _, _, t, c, ct, cc, rfl, by omega, BY.out, hs1, hs2, by omega, by rw [setRow_size]; exact NS.out, S5.out, K5.out⟩

end Go.Proofs.YtlimgcmhidooaaaGreatDoor
