/- The model's memo: the walk. -/
import Derived.Test.YtlimgcmhidooaaaGreatDoorL28
import Derived.Test.YtlimgcmhidooaaaGreatDoorL22
set_option linter.unusedVariables false
set_option linter.unusedSimpArgs false
namespace Go.Proofs.YtlimgcmhidooaaaGreatDoor
open Go.RowKit

theorem infoCheck : (Tryz.prog.info? 31).map (fun i => (i.zero, i.size, i.bytes)) = some (some (.agg #[.int .i64 0, .int .i64 0, .slice none 0 0]), 3, 40) := Tryz.info31

theorem cnt_div {k s : Nat} (hs : 1 ≤ s) (h : k % s = 0) : (k + s - 1) / s * s = k ∧ (k + 1 + s - 1) / s = (k + s - 1) / s + 1 := by
  obtain ⟨m, rfl⟩ : ∃ m, k = m * s := ⟨k / s, by have := Nat.div_add_mod k s; rw [h] at this; rw [Nat.mul_comm]; omega⟩
  have e : (m * s + s - 1) / s = m := by
    rw [show m * s + s - 1 = (s - 1) + m * s by omega, Nat.add_mul_div_right _ _ (by omega), Nat.div_eq_of_lt (by omega)]; omega
  have e2 : (m * s + 1 + s - 1) / s = m + 1 := by
    rw [show m * s + 1 + s - 1 = 0 + (m + 1) * s by rw [Nat.add_mul]; omega, Nat.add_mul_div_right _ _ (by omega)]; simp
  rw [e, e2]; exact ⟨rfl, rfl⟩

theorem cnt_not {k s : Nat} (hs : 1 ≤ s) (h : ¬ k % s = 0) : (k + 1 + s - 1) / s = (k + s - 1) / s := by
  have h1 := Nat.div_add_mod k s
  have h2 := Nat.mod_lt k (show 0 < s by omega)
  have e : (k + s - 1) / s = k / s + 1 := by
    have : k + s - 1 = (k % s - 1) + (k / s + 1) * s := by rw [Nat.add_mul, Nat.mul_comm (k / s)]; omega
    rw [this, Nat.add_mul_div_right _ _ (by omega), Nat.div_eq_of_lt (by omega)]; omega
  have e2 : (k + 1 + s - 1) / s = k / s + 1 := by
    have : k + 1 + s - 1 = k % s + (k / s + 1) * s := by rw [Nat.add_mul, Nat.mul_comm (k / s)]; omega
    rw [this, Nat.add_mul_div_right _ _ (by omega), Nat.div_eq_of_lt (by omega)]; omega
  rw [e, e2]

theorem cnt_all (n s : Nat) (hs : 1 ≤ s) : (n + 1 + s - 1) / s = n / s + 1 := by
  rw [show n + 1 + s - 1 = n + 1 * s by omega, Nat.add_mul_div_right _ _ (by omega)]

theorem MS.over {w : World} {d : List Int} {s k c g : Nat} {dv tv cv hv : Value} {us : List Value} {hs : Nat → Value} {wr : World} (x : MS w d s k c g dv tv cv hv us hs wr) (h : d.length ≤ k) : MS w d s (k + 1) c g dv tv cv hv us hs wr := by
  have e : d.take (k + 1) = d.take k := by rw [List.take_of_length_le h, List.take_of_length_le (by omega)]
  obtain ⟨a1, a2, a3, a4, a5, a6, a7, a8, a9, b1, b2, b3, b4, b5, b6⟩ := x
  exact ⟨a1, a2, a3, a4, a5, a6, by rw [e]; exact a7, by rw [e]; exact a8, a9, b1, b2, by rw [e]; exact b3, b4, by rw [e]; exact b5, b6⟩

theorem checks_at {w : World} {base : Nat} {cv : Value} {d : List Int} {s c : Nat} {hs : Nat → Value} (h : w.ownsRow base 31 3 cv c (cvs d s c hs)) (hh : ∀ i, i < c → ∃ p q, hs i = .slice p (hdN d s i).length q ∧ (hdN d s i).length ≤ q ∧ BAt w p (hdN d s i)) : ∃ a k, cv = .slice a c k ∧ CsAt w a (cksN d s c) := by
  rcases h.2 with ⟨rfl, h0⟩ | ⟨g, cap, cur, rfl, hg, hh0, hc, hm, hs', ht⟩
  · exact ⟨none, 0, by rw [h0], .inl (by rw [h0]; rfl)⟩
  · have glt : g < w.heap.size := (Array.getElem?_eq_some_iff.1 hh0).1
    have cell : ∀ i, i < c * 3 → w.cell? ⟨g, i, none⟩ = some (ckV d s c hs i) := fun i hi => by
      rw [Lib.cell_of_heap hh0]
      have := cvs_at d s c hs i hi
      rw [← ht, List.getElem?_take_of_lt hi] at this
      simpa using this
    refine ⟨_, _, rfl, .inr ⟨g, 0, rfl, glt, fun k hk => ?_⟩⟩
    rw [cksN_len] at hk
    rw [cksN_at d s c k hk]
    have v0 := cell (k * 3) (by omega)
    have v1 := cell (k * 3 + 1) (by omega)
    have v2 := cell (k * 3 + 2) (by omega)
    unfold ckV at v0 v1 v2
    rw [show k * 3 / 3 = k by omega, show k * 3 % 3 = 0 by omega, if_pos hk] at v0
    rw [show (k * 3 + 1) / 3 = k by omega, show (k * 3 + 1) % 3 = 1 by omega, if_pos hk] at v1
    rw [show (k * 3 + 2) / 3 = k by omega, show (k * 3 + 2) % 3 = 2 by omega, if_pos hk] at v2
    obtain ⟨p, q, e, _, b⟩ := hh k hk
    refine ⟨by rw [Nat.zero_add]; exact v0, by rw [Nat.zero_add]; exact v1, p, q, ?_, b⟩
    rw [Nat.zero_add, v2]
    show some (hs k) = _
    rw [e]; rfl

def LnP (d : List Int) (s : Nat) (w : World) (e : Ending) (w' : World) : Prop :=
  ∃ a t u c ca ct cu cc, e = .returned (.agg #[.slice a d.length ca, .int .i64 (s : Int), .slice t (allX [] [] d).1.length ct, .slice u (allX [] [] d).2.length cu, .slice c (d.length / s + 1) cc]) ∧ (∀ z : World, w'.heap.size ≤ z.heap.size → (∀ q, w.heap.size < q → q < w'.heap.size → z.heap[q]? = w'.heap[q]?) → MAt z a t u c (memX d s)) ∧ Below w.heap.size w w'

set_option maxRecDepth 100000 in
set_option maxHeartbeats 6400000 in
theorem l12New_any (d : List Int) (ad : Option Addr) (cd : Nat) (s : Nat) (w : World) (hd : BAt w ad d) (hu : Byt d) (hl : d.length ≤ 240) (hs : 1 ≤ s) (hs2 : s ≤ 60) :
    Calls Tryz.prog 72 #[.slice ad d.length cd, .int .i64 (s : Int)] w fun e w' => LnP d s w e w' := by
  have N0 := below_new w (.cells #[.slice none 0 0, .int .i64 0, .slice none 0 0, .slice none 0 0, .slice none 0 0] 27)
  have R0 := row5 w 27 (.slice none 0 0) (.int .i64 0) (.slice none 0 0) (.slice none 0 0) (.slice none 0 0)
  have KC := Hid.mk' (l1Copy_own ad cd d _ (hd.below N0) (by omega))
  have HB := Hid.mk' N0
  have HD := Hid.mk' hd
  have HU := Hid.mk' hu
  have HR := Hid.mk' R0
  have z0 : (w.alloc (.cells #[.slice none 0 0, .int .i64 0, .slice none 0 0, .slice none 0 0, .slice none 0 0] 27)).heap.size = w.heap.size + 1 := by simp
  have Z0 := Hid.mk' z0
  clear N0 R0 hd hu z0
  generalize hW : w.alloc (.cells #[.slice none 0 0, .int .i64 0, .slice none 0 0, .slice none 0 0, .slice none 0 0] 27) = W at *
  go_enter Tryz.func72, Tryz.ntmps72
  go_wp2_with fail
  clear hW
  refine KC.out.mono ?_
  rintro e w1 ⟨dv, rfl, od, hb1⟩
  obtain ⟨da, dc, rfl, -⟩ := own_src od
  rw [Z0.out] at od
  have B1 := HB.out.trans (hb1.mono HB.out.size)
  have N1 := below_new w1 (.cells #[.slice da d.length dc, .int .i64 (s : Int), .slice none 0 0, .slice none 0 0, .slice none 0 0] 27)
  have N2 := N1.alloc (by simp) (.cells #[] 5)
  have l1 := HR.out.lt
  have l2 := hb1.size
  have M0 : MS w d s 0 0 w1.heap.size (.slice da d.length dc) (.slice none 0 0) (.slice none 0 0) (.slice (some ⟨w1.heap.size + 1, 0, none⟩) 0 0) [] (fun _ => .slice none 0 0) ((w1.alloc (.cells #[.slice da d.length dc, .int .i64 (s : Int), .slice none 0 0, .slice none 0 0, .slice none 0 0] 27)).alloc (.cells #[] 5)) := by
    have e0 : allX [] [] (d.take 0) = ([], []) := by simp [allX]
    refine ⟨B1.trans (N2.mono B1.size), (row5 w1 27 _ _ _ _ _).alloc _, rowB (rowB HR.out hb1) N2, by omega, (fun h => by simp [Value.ownBlock] at h), (fun h => by simp [Value.ownBlock] at h), ?_, (by rw [e0]; rfl), fun u hu => (by cases hu), ⟨rfl, .inl ⟨rfl, rfl⟩⟩, fun q e => by simp [Value.ownBlock] at e, ?_, ?_, ?_, fun i hi => absurd hi (Nat.not_lt_zero _)⟩
    · rw [e0]; exact ⟨rfl, .inl ⟨rfl, rfl⟩⟩
    · rw [e0]; exact TC.nil _ _
    · exact BT.of_own (own_keep od N2) (fun q eq hx => by
        have h1 := od.lt q eq
        rcases hx with h | h | h | h
        · omega
        · omega
        · simp [Value.ownBlock] at h
        · simp [Value.ownBlock] at h)
    · rw [e0]; exact ⟨fun _ => False, fun k hk => absurd hk id, _, _, rfl, Nat.le_refl _, fun _ _ => .inl rfl⟩
  have HM := Hid.mk' M0
  clear M0 N1 N2 B1 l1 l2 od hb1 KC HB HR
  go_wp2
  generalize hG : w1.heap.size = g at *
  go_loopw [6, 7] (fun hv i wr => ∃ (k : Nat) (tv cv : Value) (us : List Value) (hvs : Nat → Value), k ≤ d.length + 1 ∧ i = .int .i64 k ∧ MS w d s k ((k + s - 1) / s) g (.slice da d.length dc) tv cv hv us hvs wr) (fun _ i _ => d.length + 1 - (intOf i).toNat)
  case atStart => exact ⟨0, _, _, _, _, Nat.zero_le _, rfl, by rw [show (0 + s - 1) / s = 0 from Nat.div_eq_of_lt (by omega)]; exact HM.out⟩
  case round =>
    obtain ⟨k, tv, cv, us, hvs, hk, rfl, hr⟩ := hrel
    by_cases hlt : k ≤ d.length
    · have ci : (k : Int) ≤ (d.length : Int) := by omega

      obtain ⟨r, hr1⟩ : ∃ r : Nat, k % s = r := ⟨_, rfl⟩
      have hmod : (k : Int).tmod (s : Int) = (r : Int) := by rw [← hr1]; rfl
      have HR1 := Hid.mk' hr1
      obtain ⟨C, hC⟩ : ∃ C, (k + s - 1) / s = C := ⟨_, rfl⟩
      rw [hC] at hr
      have hC2 : C ≤ k + s - 1 := by rw [← hC]; exact Nat.div_le_self _ _
      have HC := Hid.mk' hC
      clear hC hr1
      have MID : Hid (∀ (C' : Nat) (cv' : Value) (hvs' : Nat → Value) (wm : World), (k + 1 + s - 1) / s = C' → MS w d s k C' g (.slice da d.length dc) tv cv' u6 us hvs' wm → True) := Hid.mk' (fun _ _ _ _ _ _ => trivial)
      clear MID
      obtain ⟨ta, tc, rfl, -⟩ := own_src hr.tr
      obtain ⟨ca, cc, rfl, -⟩ := own_src hr.cr
      obtain ⟨ha, hc, rfl, hcap, hbt⟩ := hr.hd.at
      obtain ⟨c0, c1, c2, c3, c4, gl⟩ := cells5 hr.box
      have HBT := Hid.mk' hbt
      have HMS := Hid.mk' hr
      have hgd : GoodH (allX [] [] (d.take k)).2 := allX_good _ _ _ (.inl rfl)
      have hby : Byt (allX [] [] (d.take k)).2 := allX_byt _ _ _ (fun x hx => HU.out.mem x (List.mem_of_mem_take hx)) Byt.nil
      have lT : (allX [] [] (d.take k)).1.length ≤ 161 * 240 := by
        have := allX_len (d.take k) [] [] (by simp)
        have l2 : (d.take k).length ≤ 240 := by rw [List.length_take]; omega
        simp only [List.length_nil, Nat.zero_add] at this
        omega
      have lH := hgd.len
      have OLD : Hid (∀ q, XB w.heap.size g (.slice ta (allX [] [] (d.take k)).1.length tc) (.slice ca C cc) q → q < wr.heap.size) := Hid.mk' (fun q h => by
        rcases h with h | h | h | h
        · have := hr.r0.lt; omega
        · rw [h]; exact hr.box.lt
        · exact (hr.tr.lt q h).2
        · exact (hr.cr.lt q h).2)
      have HG := Hid.mk' hgd
      have HY := Hid.mk' hby
      clear hgd hby hr hbt
      generalize hT : (allX [] [] (d.take k)).1 = T at *
      generalize hH : (allX [] [] (d.take k)).2 = H at *
      have HT := Hid.mk' hT
      have HH := Hid.mk' hH
      clear hT hH
      by_cases h0 : r = 0
      · subst h0
        have H0 := HR1
        have HCS : Hid (C * s = k) := Hid.mk' (by have := (cnt_div hs H0.out).1; rw [HC.out] at this; exact this)
        have HTN : Hid (tkN d s C = T) := Hid.mk' (by show (allX [] [] (d.take (C * s))).1 = T; rw [HCS.out]; exact HT.out)
        have HHN : Hid (hdN d s C = H) := Hid.mk' (by show (allX [] [] (d.take (C * s))).2 = H; rw [HCS.out]; exact HH.out)
        go_wp2
        refine wp_region_held_drew (S := (fun w' => w'.cell? ⟨g, 2, none⟩ = some (.slice ta T.length tc))) (by kernel_rfl) c2 (fun hHeld => ?_)
        refine tkY 0 ?_
        refine tkY 2 ?_
        refine tkY 3 ?_
        refine tkY 4 ?_
        refine tkY 5 ?_
        refine tkY 6 ?_
        refine wpAnyH_ready (rs := [1, 7]) (by kernel_rfl) (by simp) ?_
        refine AllReadyH.cons (o := ⟨_, _, _, _, _, _⟩) rfl (fun K hK => ?_) (AllReadyH.cons (o := ⟨_, _, _, _, _, _⟩) rfl (fun K hK => ?_) AllReadyH.nil)
        · go_simp
          refine hK.out _ _ (by assumption) (fun hHeld => ?_)
          clear hK K
          try simp only [Act.put, zA, zB, zC]
          refine wpAnyH_ready (rs := [7]) (by kernel_rfl) (by simp) ?_
          refine AllReadyH.cons (o := ⟨_, _, _, _, _, _⟩) rfl (fun K hK => ?_) AllReadyH.nil
          go_simp
          refine (l1Copy_own ha hc H _ (HBT.out.below (Below.refl _ _).drew) (by omega)).mono ?_
          rintro e w2 ⟨v, rfl, ov, hb2⟩
          replace hb2 := undrew hb2
          obtain ⟨va, vc, rfl, -⟩ := own_src ov
          refine hK.out _ _ ((hb2.cell (p := ⟨g, 2, none⟩) gl).trans c2) (fun hHeld => ?_)
          clear hK K
          try simp only [Act.put, zA, zB, zC]
          refine tkY 8 ?_
          refine wpAnyH_ready (rs := [9]) (by kernel_rfl) (by simp) ?_
          refine AllReadyH.cons (o := ⟨_, _, _, _, _, _⟩) rfl (fun K hK => ?_) AllReadyH.nil
          go_simp
          have N3 := below_new w2 (.cells #[.int .i64 (k : Int), .int .i64 (T.length : Int), .slice va H.length vc] 31)
          have B3 := hb2.trans (N3.mono hb2.size)
          refine hK.out _ _ ((B3.cell (p := ⟨g, 2, none⟩) gl).trans c2) (fun hHeld => ?_)
          clear hK K
          try simp only [Act.put, zA, zB, zC]
          have OWC := Hid.mk' (HMS.out.keep B3).cr
          obtain ⟨q0, q1, q2_, q3⟩ := cells3 (row3 w2 31 (.int .i64 (k : Int)) (.int .i64 (T.length : Int)) (.slice va H.length vc))
          have BV : Hid (BT (XB w.heap.size g (.slice ta T.length tc) (.slice ca C cc)) (w2.alloc (.cells #[.int .i64 (k : Int), .int .i64 (T.length : Int), .slice va H.length vc] 31)) (.slice va H.length vc) H) := Hid.mk' (BT.of_own (own_keep ov N3) (fun q eq hx => by
            have h1 := (ov.lt q eq).1
            have h2 := OLD.out q hx
            exact absurd h1 (Nat.not_le_of_lt h2)))
          have HB3 := Hid.mk' B3
          have hbs : Hid (w.heap.size + 1 ≤ (w2.alloc (.cells #[.int .i64 (k : Int), .int .i64 (T.length : Int), .slice va H.length vc] 31)).heap.size) := Hid.mk' (by have := HMS.out.gl; have := HMS.out.box.lt; have := B3.size; omega)
          clear N3 B3
          generalize hW3 : w2.alloc (.cells #[.int .i64 (k : Int), .int .i64 (T.length : Int), .slice va H.length vc] 31) = W3 at *
          refine wpAnyH_ready (rs := [10]) (by kernel_rfl) (by simp) ?_
          refine AllReadyH.cons (o := ⟨_, _, _, _, _, _⟩) rfl (fun K hK => ?_) AllReadyH.nil
          refine step_append_at rfl (.tmp 26) (.tmp 34) 25 rfl (w.heap.size + 1) 31 (.agg #[.int .i64 0, .int .i64 0, .slice none 0 0]) 3 40 Tryz.underlying25 infoCheck rfl (by decide) _ _ _ rfl OWC.out _ 1 1 [.int .i64 (k : Int), .int .i64 (T.length : Int), .slice va H.length vc] rfl rfl (.inr ⟨⟨w2.heap.size, 0, none⟩, rfl, fun j u hu => by
            have hj : j = 0 ∨ j = 1 ∨ j = 2 := by
              have := (List.getElem?_eq_some_iff.1 hu).1
              simp at this; omega
            rcases hj with rfl | rfl | rfl
            · cases hu; exact q0
            · cases hu; exact q1
            · cases hu; exact q2_⟩) (fun u hu => by
            simp only [List.mem_cons, List.mem_nil_iff, or_false] at hu
            rcases hu with rfl | rfl | rfl <;> rfl) (by unfold maxLen; omega) (by omega) hbs.out ?_
          intro cv' w4 ho hg hat
          obtain ⟨ca', cc', rfl, -⟩ := own_src ho
          have NEW := Hid.mk' (HMS.out.check (v := .slice va H.length vc) HB3.out (by rw [HHN.out]; exact BV.out) (by rw [HCS.out, HTN.out]; exact ho) hg hat)
          have RB := rowB HMS.out.box HB3.out
          have RB2 := RB.of_block (hg.block g RB.lt (fun e => HMS.out.gc e.symm))
          obtain ⟨m0, m1, m2, m3, m4, m5⟩ := cells5 RB2
          have fm4 := RB2.frozen 4
          refine hK.out _ _ m2 (fun hHeld => ?_)
          clear hK K ho hat RB
          try simp only [Act.put, zA, zB, zC]
          refine tkY 11 ?_
          refine wpAnyH_ready (rs := [12]) (by kernel_rfl) (by simp) ?_
          refine AllReadyH.cons (o := ⟨_, _, _, _, _, _⟩) rfl (fun K hK => ?_) AllReadyH.nil
          go_simp
          refine hK.out _ _ (by rw [World.cell?_setCell_other _ _ _ _ (by simp)]; exact m2) (fun hHeld => ?_)
          clear hK K
          try simp only [Act.put, zA, zB, zC]
          refine wpAnyH_done (by kernel_rfl) ?_ _
          clear hHeld m0 m1 m2 m3 m4 m5 fm4 RB2 hg q0 q1 q2_ q3 hW3 OWC hbs HB3 BV ov hb2
          have e9 : Hid ((k + 1 + s - 1) / s = C + 1) := Hid.mk' (by have := (cnt_div hs H0.out).2; rw [HC.out] at this; exact this)
          generalize hWM : w4.setCell ⟨g, 4, none⟩ (.slice ca' (C + 1) cc') = WM at *
          clear hWM
          by_cases klt : k < d.length
          · have ck : (k : Int) < (d.length : Int) := by omega
            rcases HD.out.below NEW.out.bel with hd0 | ⟨b9, o9, rfl, hbs9, hc9⟩
            · exact absurd klt (by rw [hd0]; exact Nat.not_lt_zero _)
            obtain ⟨y0, y1⟩ := HU.out k klt
            obtain ⟨y, hyy⟩ : ∃ y : Nat, d.getD k 0 = (y : Int) := ⟨(d.getD k 0).toNat, by omega⟩
            rw [hyy] at y1
            have hcell : WM.cell? ⟨b9, o9 + k, none⟩ = some (.int .u8 y) := by rw [← hyy]; exact hc9 k klt
            have ES : Hid (allX [] [] (d.take (k + 1)) = (T ++ (feedX H y).1, (feedX H y).2)) := Hid.mk' (by
              rw [take_snoc_int klt, allX_append, hyy, HT.out, HH.out]
              simp [allX])
            have fl := feedX_len H y
            have pb : BAt WM ha H := by
              obtain ⟨pa, pc, pe, _, pb⟩ := NEW.out.hd.at
              rw [HH.out] at pe pb
              injection pe with pe1 _ _
              all_goals first | (subst pe1; exact pb) | exact pb
            have KF := Hid.mk' (l5Feed_any ha hc H y WM pb HY.out hcap (by omega) (by omega))
            obtain ⟨n0, n1, n2, n3, n4, n5⟩ := cells5 NEW.out.box
            clear hc9 hyy y0 pb
            generalize feedX H y = R at *
            go_wp2_with (first | go_big_skip | fail)
            refine KF.out.mono ?_
            intro e w5 hx
            obtain ⟨v1, u1, us1, rfl, t1, hA, o1, b1⟩ := hx.toks
            obtain ⟨a1, c1_, rfl, s1⟩ := own_src t1.row
            obtain ⟨ua, uc, rfl, -⟩ := own_src o1
            have BX := Hid.mk' (rowB NEW.out.box b1)
            obtain ⟨p0, p1, p2_, p3, p4, p5⟩ := cells5 BX.out
            have OV := Hid.mk' (own_keep NEW.out.tr b1)
            rw [HT.out] at OV
            have S1 := Hid.mk' s1
            have LN := Hid.mk' (tcs_len R.1 us1 t1.len)
            have P1 := Hid.mk' (tcs_one R.1 us1 t1.one)
            have HA := Hid.mk' (hA none (fun k hk => by cases hk))
            have O1 := Hid.mk' o1
            have B2 := Hid.mk' b1
            have T1 := Hid.mk' t1
            have SZ : Hid (w.heap.size + 1 ≤ w5.heap.size) := Hid.mk' (by have := NEW.out.gl; have := NEW.out.box.lt; have := b1.size; omega)
            have GT : Hid (some g ≠ (Value.slice ta T.length tc).ownBlock) := Hid.mk' (fun e => NEW.out.gt e.symm)
            clear hx t1 hA o1 b1 s1 KF n0 n1 n2 n3 n4 n5 hcell
            go_wp2_with (first | (at_builtin; refine wpList_append_at _ rfl (.tmp 51) (.tmp 52) 24 rfl (w.heap.size + 1) 107 (.agg #[.int .i64 0, .int .i64 0, .string ⟨#[]⟩, .slice none 0 0, .bool false]) 5 64 Tryz.underlying24 Tryz.infoTok rfl (by decide) _ _ _ rfl OV.out _ R.1.length _ (tcs R.1 us1) rfl LN.out S1.out P1.out (by unfold maxLen; omega) (by omega) SZ.out ?_; intro tv' w6 ho hg hat; obtain ⟨a6, c6, rfl, _⟩ := own_src ho; have RB6 := BX.out.of_block (hg.block g BX.out.lt GT.out); obtain ⟨k0, k1, k2, k3, k4, k5⟩ := cells5 RB6; have fk2 := RB6.frozen 2; clear RB6) | fail)
            have NEW2 := Hid.mk' (NEW.out.feed (R := R) (hv' := .slice ua R.2.length uc) (by rw [ES.out, HT.out]) B2.out T1.out.len T1.out.one HA.out O1.out (by rw [HT.out]; exact ho) hg hat)
            clear ho hg hat
            go_roundw
            case rel => exact ⟨k + 1, _, _, _, _, by omega, by go_num, by rw [e9.out]; exact NEW2.out⟩
            case measure => first | (simp [intOf]; omega) | simp [intOf]
          · have ck : ¬ (k : Int) < (d.length : Int) := by omega
            go_wp2
            go_roundw
            case rel => exact ⟨k + 1, _, _, _, _, by omega, by go_num, by rw [e9.out]; exact NEW.out.over (by omega)⟩
            case measure => first | (simp [intOf]; omega) | simp [intOf]

        · go_simp
          refine (l1Copy_own ha hc H _ (HBT.out.below (Below.refl _ _).drew) (by omega)).mono ?_
          rintro e w2 ⟨v, rfl, ov, hb2⟩
          replace hb2 := undrew hb2
          obtain ⟨va, vc, rfl, -⟩ := own_src ov
          refine hK.out _ _ ((hb2.cell (p := ⟨g, 2, none⟩) gl).trans c2) (fun hHeld => ?_)
          clear hK K
          try simp only [Act.put, zA, zB, zC]
          refine tkY 8 ?_
          have c4' := (hb2.cell (p := ⟨g, 4, none⟩) gl).trans c4
          refine wpAnyH_ready (rs := [1, 9]) (by kernel_rfl) (by simp) ?_
          refine AllReadyH.cons (o := ⟨_, _, _, _, _, _⟩) rfl (fun K hK => ?_) (AllReadyH.cons (o := ⟨_, _, _, _, _, _⟩) rfl (fun K hK => ?_) AllReadyH.nil)
          · go_simp
            refine hK.out _ _ (by assumption) (fun hHeld => ?_)
            clear hK K c4' 
            try simp only [Act.put, zA, zB, zC]
            refine wpAnyH_ready (rs := [9]) (by kernel_rfl) (by simp) ?_
            refine AllReadyH.cons (o := ⟨_, _, _, _, _, _⟩) rfl (fun K hK => ?_) AllReadyH.nil
            go_simp
            have N3 := below_new w2 (.cells #[.int .i64 (k : Int), .int .i64 (T.length : Int), .slice va H.length vc] 31)
            have B3 := hb2.trans (N3.mono hb2.size)
            refine hK.out _ _ ((B3.cell (p := ⟨g, 2, none⟩) gl).trans c2) (fun hHeld => ?_)
            clear hK K
            try simp only [Act.put, zA, zB, zC]
            have OWC := Hid.mk' (HMS.out.keep B3).cr
            obtain ⟨q0, q1, q2_, q3⟩ := cells3 (row3 w2 31 (.int .i64 (k : Int)) (.int .i64 (T.length : Int)) (.slice va H.length vc))
            have BV : Hid (BT (XB w.heap.size g (.slice ta T.length tc) (.slice ca C cc)) (w2.alloc (.cells #[.int .i64 (k : Int), .int .i64 (T.length : Int), .slice va H.length vc] 31)) (.slice va H.length vc) H) := Hid.mk' (BT.of_own (own_keep ov N3) (fun q eq hx => by
              have h1 := (ov.lt q eq).1
              have h2 := OLD.out q hx
              exact absurd h1 (Nat.not_le_of_lt h2)))
            have HB3 := Hid.mk' B3
            have hbs : Hid (w.heap.size + 1 ≤ (w2.alloc (.cells #[.int .i64 (k : Int), .int .i64 (T.length : Int), .slice va H.length vc] 31)).heap.size) := Hid.mk' (by have := HMS.out.gl; have := HMS.out.box.lt; have := B3.size; omega)
            clear N3 B3
            generalize hW3 : w2.alloc (.cells #[.int .i64 (k : Int), .int .i64 (T.length : Int), .slice va H.length vc] 31) = W3 at *
            refine wpAnyH_ready (rs := [10]) (by kernel_rfl) (by simp) ?_
            refine AllReadyH.cons (o := ⟨_, _, _, _, _, _⟩) rfl (fun K hK => ?_) AllReadyH.nil
            refine step_append_at rfl (.tmp 26) (.tmp 34) 25 rfl (w.heap.size + 1) 31 (.agg #[.int .i64 0, .int .i64 0, .slice none 0 0]) 3 40 Tryz.underlying25 infoCheck rfl (by decide) _ _ _ rfl OWC.out _ 1 1 [.int .i64 (k : Int), .int .i64 (T.length : Int), .slice va H.length vc] rfl rfl (.inr ⟨⟨w2.heap.size, 0, none⟩, rfl, fun j u hu => by
              have hj : j = 0 ∨ j = 1 ∨ j = 2 := by
                have := (List.getElem?_eq_some_iff.1 hu).1
                simp at this; omega
              rcases hj with rfl | rfl | rfl
              · cases hu; exact q0
              · cases hu; exact q1
              · cases hu; exact q2_⟩) (fun u hu => by
              simp only [List.mem_cons, List.mem_nil_iff, or_false] at hu
              rcases hu with rfl | rfl | rfl <;> rfl) (by unfold maxLen; omega) (by omega) hbs.out ?_
            intro cv' w4 ho hg hat
            obtain ⟨ca', cc', rfl, -⟩ := own_src ho
            have NEW := Hid.mk' (HMS.out.check (v := .slice va H.length vc) HB3.out (by rw [HHN.out]; exact BV.out) (by rw [HCS.out, HTN.out]; exact ho) hg hat)
            have RB := rowB HMS.out.box HB3.out
            have RB2 := RB.of_block (hg.block g RB.lt (fun e => HMS.out.gc e.symm))
            obtain ⟨m0, m1, m2, m3, m4, m5⟩ := cells5 RB2
            have fm4 := RB2.frozen 4
            refine hK.out _ _ m2 (fun hHeld => ?_)
            clear hK K ho hat RB
            try simp only [Act.put, zA, zB, zC]
            refine tkY 11 ?_
            refine wpAnyH_ready (rs := [12]) (by kernel_rfl) (by simp) ?_
            refine AllReadyH.cons (o := ⟨_, _, _, _, _, _⟩) rfl (fun K hK => ?_) AllReadyH.nil
            go_simp
            refine hK.out _ _ (by rw [World.cell?_setCell_other _ _ _ _ (by simp)]; exact m2) (fun hHeld => ?_)
            clear hK K
            try simp only [Act.put, zA, zB, zC]
            refine wpAnyH_done (by kernel_rfl) ?_ _
            clear hHeld m0 m1 m2 m3 m4 m5 fm4 RB2 hg q0 q1 q2_ q3 hW3 OWC hbs HB3 BV ov hb2
            have e9 : Hid ((k + 1 + s - 1) / s = C + 1) := Hid.mk' (by have := (cnt_div hs H0.out).2; rw [HC.out] at this; exact this)
            generalize hWM : w4.setCell ⟨g, 4, none⟩ (.slice ca' (C + 1) cc') = WM at *
            clear hWM
            by_cases klt : k < d.length
            · have ck : (k : Int) < (d.length : Int) := by omega
              rcases HD.out.below NEW.out.bel with hd0 | ⟨b9, o9, rfl, hbs9, hc9⟩
              · exact absurd klt (by rw [hd0]; exact Nat.not_lt_zero _)
              obtain ⟨y0, y1⟩ := HU.out k klt
              obtain ⟨y, hyy⟩ : ∃ y : Nat, d.getD k 0 = (y : Int) := ⟨(d.getD k 0).toNat, by omega⟩
              rw [hyy] at y1
              have hcell : WM.cell? ⟨b9, o9 + k, none⟩ = some (.int .u8 y) := by rw [← hyy]; exact hc9 k klt
              have ES : Hid (allX [] [] (d.take (k + 1)) = (T ++ (feedX H y).1, (feedX H y).2)) := Hid.mk' (by
                rw [take_snoc_int klt, allX_append, hyy, HT.out, HH.out]
                simp [allX])
              have fl := feedX_len H y
              have pb : BAt WM ha H := by
                obtain ⟨pa, pc, pe, _, pb⟩ := NEW.out.hd.at
                rw [HH.out] at pe pb
                injection pe with pe1 _ _
                all_goals first | (subst pe1; exact pb) | exact pb
              have KF := Hid.mk' (l5Feed_any ha hc H y WM pb HY.out hcap (by omega) (by omega))
              obtain ⟨n0, n1, n2, n3, n4, n5⟩ := cells5 NEW.out.box
              clear hc9 hyy y0 pb
              generalize feedX H y = R at *
              go_wp2_with (first | go_big_skip | fail)
              refine KF.out.mono ?_
              intro e w5 hx
              obtain ⟨v1, u1, us1, rfl, t1, hA, o1, b1⟩ := hx.toks
              obtain ⟨a1, c1_, rfl, s1⟩ := own_src t1.row
              obtain ⟨ua, uc, rfl, -⟩ := own_src o1
              have BX := Hid.mk' (rowB NEW.out.box b1)
              obtain ⟨p0, p1, p2_, p3, p4, p5⟩ := cells5 BX.out
              have OV := Hid.mk' (own_keep NEW.out.tr b1)
              rw [HT.out] at OV
              have S1 := Hid.mk' s1
              have LN := Hid.mk' (tcs_len R.1 us1 t1.len)
              have P1 := Hid.mk' (tcs_one R.1 us1 t1.one)
              have HA := Hid.mk' (hA none (fun k hk => by cases hk))
              have O1 := Hid.mk' o1
              have B2 := Hid.mk' b1
              have T1 := Hid.mk' t1
              have SZ : Hid (w.heap.size + 1 ≤ w5.heap.size) := Hid.mk' (by have := NEW.out.gl; have := NEW.out.box.lt; have := b1.size; omega)
              have GT : Hid (some g ≠ (Value.slice ta T.length tc).ownBlock) := Hid.mk' (fun e => NEW.out.gt e.symm)
              clear hx t1 hA o1 b1 s1 KF n0 n1 n2 n3 n4 n5 hcell
              go_wp2_with (first | (at_builtin; refine wpList_append_at _ rfl (.tmp 51) (.tmp 52) 24 rfl (w.heap.size + 1) 107 (.agg #[.int .i64 0, .int .i64 0, .string ⟨#[]⟩, .slice none 0 0, .bool false]) 5 64 Tryz.underlying24 Tryz.infoTok rfl (by decide) _ _ _ rfl OV.out _ R.1.length _ (tcs R.1 us1) rfl LN.out S1.out P1.out (by unfold maxLen; omega) (by omega) SZ.out ?_; intro tv' w6 ho hg hat; obtain ⟨a6, c6, rfl, _⟩ := own_src ho; have RB6 := BX.out.of_block (hg.block g BX.out.lt GT.out); obtain ⟨k0, k1, k2, k3, k4, k5⟩ := cells5 RB6; have fk2 := RB6.frozen 2; clear RB6) | fail)
              have NEW2 := Hid.mk' (NEW.out.feed (R := R) (hv' := .slice ua R.2.length uc) (by rw [ES.out, HT.out]) B2.out T1.out.len T1.out.one HA.out O1.out (by rw [HT.out]; exact ho) hg hat)
              clear ho hg hat
              go_roundw
              case rel => exact ⟨k + 1, _, _, _, _, by omega, by go_num, by rw [e9.out]; exact NEW2.out⟩
              case measure => first | (simp [intOf]; omega) | simp [intOf]
            · have ck : ¬ (k : Int) < (d.length : Int) := by omega
              go_wp2
              go_roundw
              case rel => exact ⟨k + 1, _, _, _, _, by omega, by go_num, by rw [e9.out]; exact NEW.out.over (by omega)⟩
              case measure => first | (simp [intOf]; omega) | simp [intOf]

          · go_simp
            have N3 := below_new w2 (.cells #[.int .i64 (k : Int), .int .i64 (T.length : Int), .slice va H.length vc] 31)
            have B3 := hb2.trans (N3.mono hb2.size)
            refine hK.out _ _ ((B3.cell (p := ⟨g, 2, none⟩) gl).trans c2) (fun hHeld => ?_)
            clear hK K
            try simp only [Act.put, zA, zB, zC]
            have OWC := Hid.mk' (HMS.out.keep B3).cr
            obtain ⟨q0, q1, q2_, q3⟩ := cells3 (row3 w2 31 (.int .i64 (k : Int)) (.int .i64 (T.length : Int)) (.slice va H.length vc))
            have BV : Hid (BT (XB w.heap.size g (.slice ta T.length tc) (.slice ca C cc)) (w2.alloc (.cells #[.int .i64 (k : Int), .int .i64 (T.length : Int), .slice va H.length vc] 31)) (.slice va H.length vc) H) := Hid.mk' (BT.of_own (own_keep ov N3) (fun q eq hx => by
              have h1 := (ov.lt q eq).1
              have h2 := OLD.out q hx
              exact absurd h1 (Nat.not_le_of_lt h2)))
            have HB3 := Hid.mk' B3
            have hbs : Hid (w.heap.size + 1 ≤ (w2.alloc (.cells #[.int .i64 (k : Int), .int .i64 (T.length : Int), .slice va H.length vc] 31)).heap.size) := Hid.mk' (by have := HMS.out.gl; have := HMS.out.box.lt; have := B3.size; omega)
            clear N3 B3
            generalize hW3 : w2.alloc (.cells #[.int .i64 (k : Int), .int .i64 (T.length : Int), .slice va H.length vc] 31) = W3 at *
            have c5' := (HB3.out.cell (p := ⟨g, 4, none⟩) gl).trans c4
            clear c4'
            refine wpAnyH_ready (rs := [1]) (by kernel_rfl) (by simp) ?_
            refine AllReadyH.cons (o := ⟨_, _, _, _, _, _⟩) rfl (fun K hK => ?_) AllReadyH.nil
            go_simp
            refine hK.out _ _ (by assumption) (fun hHeld => ?_)
            clear hK K
            try simp only [Act.put, zA, zB, zC]
            clear c5'
            refine wpAnyH_ready (rs := [10]) (by kernel_rfl) (by simp) ?_
            refine AllReadyH.cons (o := ⟨_, _, _, _, _, _⟩) rfl (fun K hK => ?_) AllReadyH.nil
            refine step_append_at rfl (.tmp 26) (.tmp 34) 25 rfl (w.heap.size + 1) 31 (.agg #[.int .i64 0, .int .i64 0, .slice none 0 0]) 3 40 Tryz.underlying25 infoCheck rfl (by decide) _ _ _ rfl OWC.out _ 1 1 [.int .i64 (k : Int), .int .i64 (T.length : Int), .slice va H.length vc] rfl rfl (.inr ⟨⟨w2.heap.size, 0, none⟩, rfl, fun j u hu => by
              have hj : j = 0 ∨ j = 1 ∨ j = 2 := by
                have := (List.getElem?_eq_some_iff.1 hu).1
                simp at this; omega
              rcases hj with rfl | rfl | rfl
              · cases hu; exact q0
              · cases hu; exact q1
              · cases hu; exact q2_⟩) (fun u hu => by
              simp only [List.mem_cons, List.mem_nil_iff, or_false] at hu
              rcases hu with rfl | rfl | rfl <;> rfl) (by unfold maxLen; omega) (by omega) hbs.out ?_
            intro cv' w4 ho hg hat
            obtain ⟨ca', cc', rfl, -⟩ := own_src ho
            have NEW := Hid.mk' (HMS.out.check (v := .slice va H.length vc) HB3.out (by rw [HHN.out]; exact BV.out) (by rw [HCS.out, HTN.out]; exact ho) hg hat)
            have RB := rowB HMS.out.box HB3.out
            have RB2 := RB.of_block (hg.block g RB.lt (fun e => HMS.out.gc e.symm))
            obtain ⟨m0, m1, m2, m3, m4, m5⟩ := cells5 RB2
            have fm4 := RB2.frozen 4
            refine hK.out _ _ m2 (fun hHeld => ?_)
            clear hK K ho hat RB
            try simp only [Act.put, zA, zB, zC]
            refine tkY 11 ?_
            refine wpAnyH_ready (rs := [12]) (by kernel_rfl) (by simp) ?_
            refine AllReadyH.cons (o := ⟨_, _, _, _, _, _⟩) rfl (fun K hK => ?_) AllReadyH.nil
            go_simp
            refine hK.out _ _ (by rw [World.cell?_setCell_other _ _ _ _ (by simp)]; exact m2) (fun hHeld => ?_)
            clear hK K
            try simp only [Act.put, zA, zB, zC]
            refine wpAnyH_done (by kernel_rfl) ?_ _
            clear hHeld m0 m1 m2 m3 m4 m5 fm4 RB2 hg q0 q1 q2_ q3 hW3 OWC hbs HB3 BV ov hb2
            have e9 : Hid ((k + 1 + s - 1) / s = C + 1) := Hid.mk' (by have := (cnt_div hs H0.out).2; rw [HC.out] at this; exact this)
            generalize hWM : w4.setCell ⟨g, 4, none⟩ (.slice ca' (C + 1) cc') = WM at *
            clear hWM
            by_cases klt : k < d.length
            · have ck : (k : Int) < (d.length : Int) := by omega
              rcases HD.out.below NEW.out.bel with hd0 | ⟨b9, o9, rfl, hbs9, hc9⟩
              · exact absurd klt (by rw [hd0]; exact Nat.not_lt_zero _)
              obtain ⟨y0, y1⟩ := HU.out k klt
              obtain ⟨y, hyy⟩ : ∃ y : Nat, d.getD k 0 = (y : Int) := ⟨(d.getD k 0).toNat, by omega⟩
              rw [hyy] at y1
              have hcell : WM.cell? ⟨b9, o9 + k, none⟩ = some (.int .u8 y) := by rw [← hyy]; exact hc9 k klt
              have ES : Hid (allX [] [] (d.take (k + 1)) = (T ++ (feedX H y).1, (feedX H y).2)) := Hid.mk' (by
                rw [take_snoc_int klt, allX_append, hyy, HT.out, HH.out]
                simp [allX])
              have fl := feedX_len H y
              have pb : BAt WM ha H := by
                obtain ⟨pa, pc, pe, _, pb⟩ := NEW.out.hd.at
                rw [HH.out] at pe pb
                injection pe with pe1 _ _
                all_goals first | (subst pe1; exact pb) | exact pb
              have KF := Hid.mk' (l5Feed_any ha hc H y WM pb HY.out hcap (by omega) (by omega))
              obtain ⟨n0, n1, n2, n3, n4, n5⟩ := cells5 NEW.out.box
              clear hc9 hyy y0 pb
              generalize feedX H y = R at *
              go_wp2_with (first | go_big_skip | fail)
              refine KF.out.mono ?_
              intro e w5 hx
              obtain ⟨v1, u1, us1, rfl, t1, hA, o1, b1⟩ := hx.toks
              obtain ⟨a1, c1_, rfl, s1⟩ := own_src t1.row
              obtain ⟨ua, uc, rfl, -⟩ := own_src o1
              have BX := Hid.mk' (rowB NEW.out.box b1)
              obtain ⟨p0, p1, p2_, p3, p4, p5⟩ := cells5 BX.out
              have OV := Hid.mk' (own_keep NEW.out.tr b1)
              rw [HT.out] at OV
              have S1 := Hid.mk' s1
              have LN := Hid.mk' (tcs_len R.1 us1 t1.len)
              have P1 := Hid.mk' (tcs_one R.1 us1 t1.one)
              have HA := Hid.mk' (hA none (fun k hk => by cases hk))
              have O1 := Hid.mk' o1
              have B2 := Hid.mk' b1
              have T1 := Hid.mk' t1
              have SZ : Hid (w.heap.size + 1 ≤ w5.heap.size) := Hid.mk' (by have := NEW.out.gl; have := NEW.out.box.lt; have := b1.size; omega)
              have GT : Hid (some g ≠ (Value.slice ta T.length tc).ownBlock) := Hid.mk' (fun e => NEW.out.gt e.symm)
              clear hx t1 hA o1 b1 s1 KF n0 n1 n2 n3 n4 n5 hcell
              go_wp2_with (first | (at_builtin; refine wpList_append_at _ rfl (.tmp 51) (.tmp 52) 24 rfl (w.heap.size + 1) 107 (.agg #[.int .i64 0, .int .i64 0, .string ⟨#[]⟩, .slice none 0 0, .bool false]) 5 64 Tryz.underlying24 Tryz.infoTok rfl (by decide) _ _ _ rfl OV.out _ R.1.length _ (tcs R.1 us1) rfl LN.out S1.out P1.out (by unfold maxLen; omega) (by omega) SZ.out ?_; intro tv' w6 ho hg hat; obtain ⟨a6, c6, rfl, _⟩ := own_src ho; have RB6 := BX.out.of_block (hg.block g BX.out.lt GT.out); obtain ⟨k0, k1, k2, k3, k4, k5⟩ := cells5 RB6; have fk2 := RB6.frozen 2; clear RB6) | fail)
              have NEW2 := Hid.mk' (NEW.out.feed (R := R) (hv' := .slice ua R.2.length uc) (by rw [ES.out, HT.out]) B2.out T1.out.len T1.out.one HA.out O1.out (by rw [HT.out]; exact ho) hg hat)
              clear ho hg hat
              go_roundw
              case rel => exact ⟨k + 1, _, _, _, _, by omega, by go_num, by rw [e9.out]; exact NEW2.out⟩
              case measure => first | (simp [intOf]; omega) | simp [intOf]
            · have ck : ¬ (k : Int) < (d.length : Int) := by omega
              go_wp2
              go_roundw
              case rel => exact ⟨k + 1, _, _, _, _, by omega, by go_num, by rw [e9.out]; exact NEW.out.over (by omega)⟩
              case measure => first | (simp [intOf]; omega) | simp [intOf]

      · have e0 : ((r : Int) == 0) = false := beq_eq_false_iff_ne.2 (by omega)
        have e9 : Hid ((k + 1 + s - 1) / s = C) := Hid.mk' (by have := cnt_not hs (by rw [HR1.out]; exact h0); rw [this]; exact HC.out)
        have NEW := HMS
        have h0' : ¬ (r : Int) = 0 := by omega
        by_cases klt : k < d.length
        · have ck : (k : Int) < (d.length : Int) := by omega
          rcases HD.out.below NEW.out.bel with hd0 | ⟨b9, o9, rfl, hbs9, hc9⟩
          · exact absurd klt (by rw [hd0]; exact Nat.not_lt_zero _)
          obtain ⟨y0, y1⟩ := HU.out k klt
          obtain ⟨y, hyy⟩ : ∃ y : Nat, d.getD k 0 = (y : Int) := ⟨(d.getD k 0).toNat, by omega⟩
          rw [hyy] at y1
          have hcell : wr.cell? ⟨b9, o9 + k, none⟩ = some (.int .u8 y) := by rw [← hyy]; exact hc9 k klt
          have ES : Hid (allX [] [] (d.take (k + 1)) = (T ++ (feedX H y).1, (feedX H y).2)) := Hid.mk' (by
            rw [take_snoc_int klt, allX_append, hyy, HT.out, HH.out]
            simp [allX])
          have fl := feedX_len H y
          have pb : BAt wr ha H := by
            obtain ⟨pa, pc, pe, _, pb⟩ := NEW.out.hd.at
            rw [HH.out] at pe pb
            injection pe with pe1 _ _
            all_goals first | (subst pe1; exact pb) | exact pb
          have KF := Hid.mk' (l5Feed_any ha hc H y wr pb HY.out hcap (by omega) (by omega))
          obtain ⟨n0, n1, n2, n3, n4, n5⟩ := cells5 NEW.out.box
          clear hc9 hyy y0 pb
          generalize feedX H y = R at *
          go_wp2_with (first | go_big_skip | fail)
          refine KF.out.mono ?_
          intro e w5 hx
          obtain ⟨v1, u1, us1, rfl, t1, hA, o1, b1⟩ := hx.toks
          obtain ⟨a1, c1_, rfl, s1⟩ := own_src t1.row
          obtain ⟨ua, uc, rfl, -⟩ := own_src o1
          have BX := Hid.mk' (rowB NEW.out.box b1)
          obtain ⟨p0, p1, p2_, p3, p4, p5⟩ := cells5 BX.out
          have OV := Hid.mk' (own_keep NEW.out.tr b1)
          rw [HT.out] at OV
          have S1 := Hid.mk' s1
          have LN := Hid.mk' (tcs_len R.1 us1 t1.len)
          have P1 := Hid.mk' (tcs_one R.1 us1 t1.one)
          have HA := Hid.mk' (hA none (fun k hk => by cases hk))
          have O1 := Hid.mk' o1
          have B2 := Hid.mk' b1
          have T1 := Hid.mk' t1
          have SZ : Hid (w.heap.size + 1 ≤ w5.heap.size) := Hid.mk' (by have := NEW.out.gl; have := NEW.out.box.lt; have := b1.size; omega)
          have GT : Hid (some g ≠ (Value.slice ta T.length tc).ownBlock) := Hid.mk' (fun e => NEW.out.gt e.symm)
          clear hx t1 hA o1 b1 s1 KF n0 n1 n2 n3 n4 n5 hcell
          go_wp2_with (first | (at_builtin; refine wpList_append_at _ rfl (.tmp 51) (.tmp 52) 24 rfl (w.heap.size + 1) 107 (.agg #[.int .i64 0, .int .i64 0, .string ⟨#[]⟩, .slice none 0 0, .bool false]) 5 64 Tryz.underlying24 Tryz.infoTok rfl (by decide) _ _ _ rfl OV.out _ R.1.length _ (tcs R.1 us1) rfl LN.out S1.out P1.out (by unfold maxLen; omega) (by omega) SZ.out ?_; intro tv' w6 ho hg hat; obtain ⟨a6, c6, rfl, _⟩ := own_src ho; have RB6 := BX.out.of_block (hg.block g BX.out.lt GT.out); obtain ⟨k0, k1, k2, k3, k4, k5⟩ := cells5 RB6; have fk2 := RB6.frozen 2; clear RB6) | fail)
          have NEW2 := Hid.mk' (NEW.out.feed (R := R) (hv' := .slice ua R.2.length uc) (by rw [ES.out, HT.out]) B2.out T1.out.len T1.out.one HA.out O1.out (by rw [HT.out]; exact ho) hg hat)
          clear ho hg hat
          go_roundw
          case rel => exact ⟨k + 1, _, _, _, _, by omega, by go_num, by rw [e9.out]; exact NEW2.out⟩
          case measure => first | (simp [intOf]; omega) | simp [intOf]
        · have ck : ¬ (k : Int) < (d.length : Int) := by omega
          go_wp2
          go_roundw
          case rel => exact ⟨k + 1, _, _, _, _, by omega, by go_num, by rw [e9.out]; exact NEW.out.over (by omega)⟩
          case measure => first | (simp [intOf]; omega) | simp [intOf]

    · have ci : ¬ (k : Int) ≤ (d.length : Int) := by omega
      obtain rfl : k = d.length + 1 := by omega
      rw [cnt_all d.length s hs] at hr
      have eD : d.take (d.length + 1) = d := List.take_of_length_le (by omega)
      obtain ⟨ha, hc, rfl, hcap, hbt⟩ := hr.hd.at
      obtain ⟨ta, tc, rfl, -⟩ := own_src hr.tr
      obtain ⟨ca, cc, rfl, -⟩ := own_src hr.cr
      have lH : (allX [] [] (d.take (d.length + 1))).2.length ≤ 159 := (allX_good _ _ _ (.inl rfl)).len
      have KC := Hid.mk' (l1Copy_own ha hc _ wr hbt (by omega))
      have HMS := Hid.mk' hr
      obtain ⟨c0, c1, c2, c3, c4, gl⟩ := cells5 hr.box
      have ED := Hid.mk' eD
      clear hr hbt eD
      generalize hT : (allX [] [] (d.take (d.length + 1))).1 = T at *
      generalize hH : (allX [] [] (d.take (d.length + 1))).2 = H at *
      have HT := Hid.mk' hT
      have HH := Hid.mk' hH
      generalize hJ : d.length / s + 1 = J at *
      have HJ := Hid.mk' hJ
      clear hT hH hJ
      go_wp2_with fail
      refine KC.out.mono ?_
      rintro e w2 ⟨v, rfl, ov, hb2⟩
      obtain ⟨va, vc, rfl, -⟩ := own_src ov
      have Y := HMS.out.keep hb2
      obtain ⟨c0, c1, c2, c3, c4, gl⟩ := cells5 Y.box
      obtain ⟨d0, d1, d2, d3, d4, d5⟩ := cells5 Y.r0
      have f3 := Y.box.frozen 3
      have q0 := Y.r0.frozen 0
      have q1 := Y.r0.frozen 1
      have q2_ := Y.r0.frozen 2
      have q3 := Y.r0.frozen 3
      have q4 := Y.r0.frozen 4
      have hne : w.heap.size ≠ g := by have := Y.gl; omega
      have hne2 : g ≠ w.heap.size := by have := Y.gl; omega
      have HY := Hid.mk' Y
      have OV := Hid.mk' ov
      have B2 := Hid.mk' hb2
      clear Y ov hb2 KC
      go_wp2
      refine bodyPost_ret (v := .agg #[.slice da d.length dc, .int .i64 (s : Int), .slice ta T.length tc, .slice va H.length vc, .slice ca J cc]) (by simp [results, Tryz.results72, go_sem, *]) rfl ?_
      have K1 := (KeptIn.refl g (g + 1) w2).setCell (p := ⟨g, 3, none⟩) (by simp) (by simp) (.slice va H.length vc)
      generalize hU : w2.setCell ⟨g, 3, none⟩ (.slice va H.length vc) = U at *
      have K2 := ((((KeptIn.refl w.heap.size (w.heap.size + 1) U).setCell (p := ⟨w.heap.size, 0, none⟩) (by simp) (by simp) (.slice da d.length dc)).setCell (p := ⟨w.heap.size, 1, none⟩) (by simp) (by simp) (.int .i64 (s : Int))).setCell (p := ⟨w.heap.size, 2, none⟩) (by simp) (by simp) (.slice ta T.length tc)).setCell (p := ⟨w.heap.size, 3, none⟩) (by simp) (by simp) (.slice va H.length vc) |>.setCell (p := ⟨w.heap.size, 4, none⟩) (by simp) (by simp) (.slice ca J cc)
      generalize hV : ((((U.setCell ⟨w.heap.size, 0, none⟩ (.slice da d.length dc)).setCell ⟨w.heap.size, 1, none⟩ (.int .i64 (s : Int))).setCell ⟨w.heap.size, 2, none⟩ (.slice ta T.length tc)).setCell ⟨w.heap.size, 3, none⟩ (.slice va H.length vc)).setCell ⟨w.heap.size, 4, none⟩ (.slice ca J cc) = V at *
      have y := HY.out
      have sz1 := K1.size
      have sz2 := K2.size
      have szV : w2.heap.size ≤ V.heap.size := Nat.le_trans sz1 sz2
      have kV : ∀ q, q < w2.heap.size → q ≠ g → q ≠ w.heap.size → V.heap[q]? = w2.heap[q]? := fun q h1 h2 h3 => (K2.block q (by omega) (by omega)).trans (K1.block q h1 (by omega))
      have BV : Below w.heap.size w V := y.bel.trans ⟨K2.os.trans K1.os, K2.tape.trans K1.tape, K2.output.trans K1.output, szV, fun q hq => kV q (by have := y.bel.size; omega) (by have := y.gl; omega) (by omega)⟩
      have eT : T = (allX [] [] d).1 := by rw [← HT.out, ED.out]
      have eH : H = (allX [] [] d).2 := by rw [← HH.out, ED.out]
      unfold LnP
      rw [HJ.out, ← eT, ← eH]
      refine ⟨da, ta, va, ca, dc, tc, vc, cc, rfl, fun z hz hzk => ?_, BV⟩
      have kb : ∀ q, w.heap.size < q → q < w2.heap.size → q ≠ g → z.heap[q]? = w2.heap[q]? := fun q h0 h1 h2 => (hzk q h0 (by omega)).trans (kV q h1 h2 (by omega))
      have kX : ∀ q, q < w2.heap.size → ¬ XB w.heap.size g (.slice ta T.length tc) (.slice ca J cc) q → z.heap[q]? = w2.heap[q]? := fun q h1 h2 => kb q (Nat.lt_of_not_le (fun e => h2 (.inl e))) h1 (fun e => h2 (.inr (.inl e)))
      have szz : w2.heap.size ≤ z.heap.size := Nat.le_trans szV hz
      have bd := (y.dt.step (X' := XB w.heap.size g (.slice ta T.length tc) (.slice ca J cc)) kX szz (fun _ h => .inl h)).at
      have ttr : z.ownsRow (w.heap.size + 1) 107 5 (.slice ta T.length tc) T.length (tcs T us) := by
        have r := y.tr
        rw [HT.out] at r
        exact own_of r (Nat.le_refl _) (fun q eq hq => kb q (by omega) (r.lt q eq).2 (fun e => y.gt (e ▸ eq)))
      have tts := (y.tc.step (X' := XB w.heap.size g (.slice ta T.length tc) (.slice ca J cc)) kX szz (fun _ h => .inl h))
      rw [HT.out] at tts
      have ul := y.ul
      rw [HT.out] at ul
      have tsr := tts.ts ul ttr
      have ovr : z.ownsRow wr.heap.size 5 1 (.slice va H.length vc) H.length (bcs H) := own_of OV.out (Nat.le_refl _) (fun q eq hq => kb q (by have := HMS.out.r0.lt; omega) (OV.out.lt q eq).2 (by have := HMS.out.box.lt; omega))
      have bh := own_bat ovr
      have ccr : z.ownsRow (w.heap.size + 1) 31 3 (.slice ca J cc) J (cvs d s J hvs) := own_of y.cr (Nat.le_refl _) (fun q eq hq => kb q (by omega) (y.cr.lt q eq).2 (fun e => y.gc (e ▸ eq)))
      have ccs := checks_at ccr (fun i hi => ((y.hc i hi).step (X' := XB w.heap.size g (.slice ta T.length tc) (.slice ca J cc)) kX szz (fun _ h => .inl h)).at)
      refine ⟨?_, ?_, ?_, ?_⟩
      · obtain ⟨p, c, e, _, b⟩ := bd
        injection e with e1 _ _
        rw [e1]; exact b
      · obtain ⟨p, c, e, b⟩ := tsr
        injection e with e1 _ _
        rw [e1]
        show TsAt z p (allX [] [] d).1
        rw [← eT]; exact b
      · obtain ⟨p, c, e, b⟩ := bh
        injection e with e1 _ _
        rw [e1]
        show BAt z p (allX [] [] d).2
        rw [← eH]; exact b
      · obtain ⟨p, c, e, b⟩ := ccs
        injection e with e1 _ _
        rw [e1]
        show CsAt z p (cksN d s (d.length / s + 1))
        rw [HJ.out]; exact b

end Go.Proofs.YtlimgcmhidooaaaGreatDoor

namespace Go.Proofs.YtlimgcmhidooaaaGreatDoor
open Go.RowKit

def LtP (d : List Int) (w : World) (e : Ending) (w' : World) : Prop :=
  (240 < d.length ∧ e = .returned (.agg #[.int .i64 6, .slice none 0 0, .slice none 0 0]) ∧ Below w.heap.size w w') ∨
  (¬ 240 < d.length ∧ ∃ tv us rs bl bh, e = .returned (.agg #[.int .i64 0, tv, .slice none 0 0]) ∧ TP w.heap.size w' tv (lexX d) us rs bl bh ∧ Below w.heap.size w w')

set_option maxRecDepth 100000 in
set_option maxHeartbeats 3200000 in
theorem implLT_any (tp : TypeId) (pv : Value) (d : List Int) (ad : Option Addr) (cd : Nat) (w : World) (hE : Env w.heap.size tp pv w) (hd : BAt w ad d) (hu : Byt d) (hl : (d.length : Int) ≤ 9223372036854775807) :
    Calls Tryz.prog 30 #[.slice ad d.length cd] w fun e w' => LtP d w e w' := by
  have N0 := below_new w (.cells #[.int .i64 0, .slice none 0 0, .slice none 0 0] 41)
  have HR := Hid.mk' (row3 w 41 (.int .i64 0) (.slice none 0 0) (.slice none 0 0))
  have KF := Hid.mk' (feedAll_any tp pv d ad cd _ ((hE.keep N0).up N0.size (Nat.le_refl _)) (hd.below N0) hu hl)
  have HB := Hid.mk' N0
  clear N0 hd hE
  generalize hW : w.alloc (.cells #[.int .i64 0, .slice none 0 0, .slice none 0 0] 41) = W at *
  go_enter Tryz.func30, Tryz.ntmps30
  go_wp2_with fail
  clear hW
  refine KF.out.mono ?_
  rintro e w1 (⟨h6, rfl, hb1⟩ | ⟨h6, hv, tv, us, rs, bl, bh, lo, g, rfl, hlo, hx, hb1⟩)
  · have N1 := below_new w1 (.cells #[.int .i64 6, .slice none 0 0, .slice none 0 0] 41)
    have M1 := hb1.trans (N1.mono hb1.size)
    have B1 := Hid.mk' (HB.out.trans (M1.mono HB.out.size))
    have BQ := Hid.mk' (HB.out.trans (hb1.mono HB.out.size))
    have R1 := rowB HR.out M1
    obtain ⟨y0, y1, y2, y3⟩ := cells3 R1
    have f0 := R1.frozen 0
    have f1 := R1.frozen 1
    have f2 := R1.frozen 2
    obtain ⟨z0, z1, z2, z3⟩ := cells3 (row3 w1 41 (.int .i64 6) (.slice none 0 0) (.slice none 0 0))
    clear hb1 R1 N1 M1 KF
    go_wp2
    refine bodyPost_ret (v := .agg #[.int .i64 6, .slice none 0 0, .slice none 0 0]) (by simp [results, Tryz.results30, go_sem, *]) rfl ?_
    exact .inl ⟨h6, rfl, three B1.out (Nat.le_refl _)⟩
  · have ug := Hid.mk' (allX_good d [] [] (.inl rfl))
    have ub := Hid.mk' (allX_byt d [] [] hu.mem Byt.nil)
    have ul : (allX [] [] d).1.length ≤ 161 * d.length := by simpa using allX_len d [] [] (by simp)
    have gl := ug.out.len
    obtain ⟨ha, hc, rfl, hbt⟩ := own_bat hx.held
    obtain ⟨ta, tc, rfl, _⟩ := own_src hx.row
    have N1 := below_new w1 (.cells #[.int .i64 0, .slice ta (allX [] [] d).1.length tc, .slice ha (allX [] [] d).2.length hc] 41)
    have M1 := hb1.trans (N1.mono hb1.size)
    have B1 := Hid.mk' (HB.out.trans (M1.mono HB.out.size))
    have R1 := Hid.mk' (rowB HR.out M1)
    have Z1 := row3 w1 41 (.int .i64 0) (.slice ta (allX [] [] d).1.length tc) (.slice ha (allX [] [] d).2.length hc)
    have ZZ := Hid.mk' Z1
    obtain ⟨z0, z1, z2, z3⟩ := cells3 Z1
    have TP1 := Hid.mk' (hx.tp.below N1)
    have KN := Hid.mk' (finishLex_any ha hc _ _ (hbt.below N1) ug.out ub.out)
    have LO := Hid.mk' hlo
    have LW := Hid.mk' (show lo ≤ w1.heap.size by have := hx.lg; have := hx.lt; omega)
    have SB := HB.out.size
    have S1 := hb1.size
    have EX : Hid (lexX d = (allX [] [] d).1 ++ bytesT (allX [] [] d).2) := Hid.mk' rfl
    clear hb1 N1 M1 KF hx hbt Z1 hlo ub ug
    generalize (allX [] [] d).1 = T at *
    generalize (allX [] [] d).2 = H at *
    generalize hV : w1.alloc (.cells #[.int .i64 0, .slice ta T.length tc, .slice ha H.length hc] 41) = V at *
    go_wp2_with fail
    clear hV
    refine KN.out.mono ?_
    rintro e w2 ⟨hv2, tv2, us2, rs2, bl2, bh2, lo2, g2, rfl, hlo2, hx2, hb2⟩
    obtain ⟨ha2, hc2, rfl, _⟩ := own_src hx2.held
    obtain ⟨ta2, tc2, rfl, _⟩ := own_src hx2.row
    have N2 := below_new w2 (.cells #[.int .i64 0, .slice ta2 (bytesT H).length tc2, .slice ha2 0 hc2] 41)
    have M2 := hb2.trans (N2.mono hb2.size)
    obtain ⟨_, _, e2, src2⟩ := own_src (own_keep hx2.row N2)
    cases e2
    have SRC := Hid.mk' src2
    have hlen : Hid ((tcs (bytesT H) us2).length = (bytesT H).length * 5) := Hid.mk' (tcs_len _ _ hx2.ta.len)
    have hone : Hid (∀ u ∈ tcs (bytesT H) us2, u.oneCell' = true) := Hid.mk' (tcs_one _ _ hx2.ta.one)
    have B2 := Hid.mk' (B1.out.trans (M2.mono B1.out.size))
    have R2 := Hid.mk' (rowB R1.out M2)
    obtain ⟨q0, q1, q2_, q3⟩ := cells3 (rowB ZZ.out M2)
    obtain ⟨s0, s1_, s2_, s3_⟩ := cells3 (row3 w2 41 (.int .i64 0) (.slice ta2 (bytesT H).length tc2) (.slice ha2 0 hc2))
    have TPX := Hid.mk' (TP1.out.below M2)
    have TV := Hid.mk' TP1.out
    have MM := Hid.mk' M2
    have TA2 := Hid.mk' ((hx2.ta.below N2).widen hlo2 N2.size)
    have hne : Hid (some w.heap.size ≠ (Value.slice ta T.length tc).ownBlock) := Hid.mk' (fun e => by have := (TP1.out.row.lt _ e.symm).1; have := LO.out; have := HR.out.lt; omega)
    have hlo3 : Hid (∀ k, (Value.slice ta T.length tc).ownBlock = some k → w.heap.size ≤ k) := Hid.mk' (fun k e => by have := (TP1.out.row.lt _ e).1; have := LO.out; omega)
    have bl2' : (bytesT H).length ≤ 160 := by rw [bytesT_len]; omega
    have SZ : Hid (lo ≤ (w2.alloc (.cells #[.int .i64 0, .slice ta2 (bytesT H).length tc2, .slice ha2 0 hc2] 41)).heap.size) := Hid.mk' (by have := LW.out; have := M2.size; have := z3; omega)
    have LWV : Hid (lo ≤ V.heap.size) := Hid.mk' (by have := LW.out; omega)
    clear hx2 hb2 N2 M2 src2 KN z0 z1 z2 z3 TP1 R1 B1 ZZ
    generalize hV2 : w2.alloc (.cells #[.int .i64 0, .slice ta2 (bytesT H).length tc2, .slice ha2 0 hc2] 41) = V2 at *
    go_wp2_with (first | (at_builtin; refine wpList_append_at _ rfl (.tmp 18) (.tmp 20) 24 rfl lo 107 (.agg #[.int .i64 0, .int .i64 0, .string ⟨#[]⟩, .slice none 0 0, .bool false]) 5 64 Tryz.underlying24 Tryz.infoTok rfl (by decide) _ _ _ rfl TPX.out.row _ _ _ (tcs (bytesT H) us2) rfl hlen.out SRC.out hone.out (by unfold maxLen; omega) (by omega) SZ.out ?_; intro v' w3 ho hgr hat; obtain ⟨a', c', rfl, _⟩ := own_src ho; have R3 := R2.out.of_block (hgr.block w.heap.size R2.out.lt hne.out); obtain ⟨y0, y1, y2, y3⟩ := cells3 R3; have f0 := R3.frozen 0; have f1 := R3.frozen 1; have f2 := R3.frozen 2; clear R3) | fail)
    have B3 := Hid.mk' (B2.out.grown hgr (by have := B2.out.size; omega) hlo3.out)
    have TP3 := Hid.mk' (TV.out.app LWV.out MM.out TA2.out ho hgr hat)
    clear ho hgr hat
    refine bodyPost_ret (v := .agg #[.int .i64 0, .slice a' (T.length + (bytesT H).length) c', .slice none 0 0]) (by simp [results, Tryz.results30, go_sem, *]) rfl ?_
    have LOV := LO.out
    have HRL := HR.out.lt
    have TPF := (TP3.out.keep (w' := ((w3.setCell ⟨w.heap.size, 0, none⟩ (.int .i64 0)).setCell ⟨w.heap.size, 1, none⟩ (.slice a' (T.length + (bytesT H).length) c')).setCell ⟨w.heap.size, 2, none⟩ (.slice none 0 0)) (by simp [World.setCell]) (fun k h1 h2 => by
      rw [Deep.blk_setCell_other _ _ _ _ (by show k ≠ w.heap.size; omega), Deep.blk_setCell_other _ _ _ _ (by show k ≠ w.heap.size; omega), Deep.blk_setCell_other _ _ _ _ (by show k ≠ w.heap.size; omega)])).down (show w.heap.size ≤ lo by omega)
    rw [← EX.out] at TPF
    exact .inr ⟨h6, _, _, _, _, _, rfl, TPF, three B3.out (Nat.le_refl _)⟩

end Go.Proofs.YtlimgcmhidooaaaGreatDoor

namespace Go.Proofs.YtlimgcmhidooaaaGreatDoor
open Go.RowKit

theorem TokS.keep {base : Nat} {w w' : World} {v : Value} {ts : List TK} {us : List Value} (h : TokS base w v ts us) (hs : w.heap.size ≤ w'.heap.size) (hk : ∀ k, base ≤ k → k < w.heap.size → w'.heap[k]? = w.heap[k]?) : TokS base w' v ts us :=
  ⟨h.len, own_of h.row (Nat.le_refl _) (fun k e hl => hk k hl (h.row.lt k e).2), h.one, fun i t u ht hu => by
    rcases h.all i t u ht hu with h | ⟨lo, w9, rs, h1, h2, h3, h4, h5⟩
    · exact .inl h
    · exact .inr ⟨lo, w9, rs, h1, h2, Nat.le_trans h3 hs, fun k a b => (hk k (by omega) (by omega)).trans (h4 k a b), h5⟩⟩

end Go.Proofs.YtlimgcmhidooaaaGreatDoor

namespace Go.Proofs.YtlimgcmhidooaaaGreatDoor
open Go.RowKit

theorem tssz_app : ∀ (a b : List TK), tssz (a ++ b) = tssz a + tssz b
  | [], b => by simp [tssz]
  | x :: a, b => by simp [tssz, tssz_app a b]; omega

theorem tssz_bytes : ∀ (l : List Int), tssz (bytesT l) = 0
  | [] => rfl
  | x :: l => by
    have := tssz_bytes l
    unfold bytesT at this ⊢
    rw [List.map_cons]
    simp only [tssz, this]
    rfl

theorem asz_end : ∀ (l : List AT) (a : AT), asz (l ++ [a]) = asz l + (a.nm.size + a.vl.length)
  | [], a => by simp [asz]
  | b :: l, a => by simp [asz, asz_end l a]; omega

theorem attr_fits {L : List UInt8} {a : AT} {n : Nat} (h : attrA L = some (a, n)) : a.nm.size + a.vl.length + 1 ≤ n ∧ n ≤ L.length := by
  unfold attrA at h
  split at h
  · split at h
    · rename_i h1 h2
      injection h with h
      injection h with ha hn
      have e1 : a.nm.size = (L.take (spn pL L)).length := by rw [← ha]; simp [ByteArray.size]
      have e2 : a.vl.length ≤ ((L.drop (spn pL L + 2)).take (spn pQ (L.drop (spn pL L + 2)))).length := by rw [← ha]; exact Nat.le_trans (dec_len _ _) (Nat.le_refl _)
      rw [List.length_take] at e1 e2
      omega
    · cases h
  · cases h

theorem inside_fits : ∀ (f : Nat) (L : List UInt8) (acc l : List AT) (sh : Bool), insideA f L acc = some (l, sh) → l.length + asz l ≤ acc.length + asz acc + L.length
  | 0, L, acc, l, sh, h => by simp [insideA] at h
  | f + 1, L, acc, l, sh, h => by
    unfold insideA at h
    split at h
    · split at h
      · cases h; omega
      · cases h
    · split at h
      · split at h
        · cases h; omega
        · cases h
      · split at h
        · cases h
        · split at h
          · cases h
          · rename_i a n ha
            have h1 := attr_fits ha
            have h2 := inside_fits f _ _ l sh h
            rw [List.length_drop] at h1 h2
            have h3 : (addA acc a).length + asz (addA acc a) ≤ acc.length + asz acc + (a.nm.size + a.vl.length + 1) := by
              unfold addA
              split
              · omega
              · rw [asz_end]; simp; omega
            omega

theorem tag_fits {L : List UInt8} {t : TK} (h : tagA L = some t) : tsz t ≤ L.length := by
  unfold tagA at h
  split at h
  · split at h
    · split at h
      · cases h; simp [tsz, asz, ByteArray.size]
      · cases h
    · split at h
      · split at h
        · cases h; simp [tsz, asz, ByteArray.size]; omega
        · cases h
      · split at h
        · split at h
          · cases h
          · rename_i l sh hi
            cases h
            have := inside_fits _ _ _ l sh hi
            rw [List.length_drop] at this
            simp only [tsz, asz, ByteArray.size, List.size_toArray, List.length_take, List.length_drop, List.length_nil] at this ⊢
            omega
        · cases h
  · cases h

def wei (ts : List TK) : Nat := ts.length + tssz ts
theorem wei_app (a b : List TK) : wei (a ++ b) = wei a + wei b := by unfold wei; rw [List.length_append, tssz_app]; omega
theorem wei_bytes (l : List Int) : wei (bytesT l) = l.length := by unfold wei; rw [bytesT_len, tssz_bytes]; rfl

theorem len_fits (hs : List Int) (b : Nat) : wei (lenX hs b).1 + 2 * (lenX hs b).2.length ≤ 2 * hs.length + 2 := by
  unfold lenX
  split
  · show wei (bytesT _) + 2 * 0 ≤ _
    rw [wei_bytes]; simp; omega
  · show 0 + 2 * (hs ++ [(b : Int)]).length ≤ _
    simp; omega

theorem strU_len (l : List Int) : (strU l).length = l.length := by unfold strU; rw [len_list, strI_size]

theorem feed_fits (hs : List Int) (b : Nat) : wei (feedX hs b).1 + 2 * (feedX hs b).2.length ≤ 2 * hs.length + 2 := by
  unfold feedX
  split
  · show wei (bytesT (noneT (b : Int))) + 2 * (noneH (b : Int)).length ≤ _
    rw [wei_bytes]
    unfold noneT noneH
    split <;> simp <;> omega
  · split
    · show wei (bytesT (refT hs b)) + 2 * (refH hs b).length ≤ _
      rw [wei_bytes]
      unfold refT refH
      split
      · split
        · simp
        · simp; omega
      · split
        · split
          · simp; omega
          · simp; omega
        · unfold noneT noneH
          rw [List.length_append]
          split <;> simp <;> omega
    · unfold tagX
      split
      · split
        · rename_i t ht
          have := tag_fits ht
          rw [strU_len] at this
          show ([t].length + (tsz t + 0)) + 2 * 0 ≤ _
          simp at this ⊢
          omega
        · split
          · show wei (bytesT _) + 2 * 0 ≤ _
            rw [wei_bytes]; simp; omega
          · exact len_fits hs b
      · split
        · show wei (bytesT hs) + 2 * 1 ≤ _
          rw [wei_bytes]; omega
        · exact len_fits hs b

theorem all_fits : ∀ (l : List Int) (ts : List TK) (hs : List Int), wei (allX ts hs l).1 + 2 * (allX ts hs l).2.length ≤ wei ts + 2 * hs.length + 2 * l.length
  | [], ts, hs => by show wei ts + 2 * hs.length ≤ _; simp
  | x :: l, ts, hs => by
    have ih := all_fits l (ts ++ (feedX hs x.toNat).1) (feedX hs x.toNat).2
    have := feed_fits hs x.toNat
    rw [wei_app] at ih
    show wei (allX (ts ++ (feedX hs x.toNat).1) (feedX hs x.toNat).2 l).1 + 2 * (allX (ts ++ (feedX hs x.toNat).1) (feedX hs x.toNat).2 l).2.length ≤ _
    rw [List.length_cons]
    omega

theorem lex_fits (d : List Int) : wei (lexX d) ≤ 2 * d.length := by
  have := all_fits d [] []
  unfold lexX
  rw [wei_app, wei_bytes]
  have e : wei [] = 0 := rfl
  rw [e] at this
  simp at this
  omega

end Go.Proofs.YtlimgcmhidooaaaGreatDoor

namespace Go.Proofs.YtlimgcmhidooaaaGreatDoor
open Go.RowKit

theorem csz_mul (b : Nat) : ∀ (l : List CK), (∀ x ∈ l, x.hd.length ≤ b) → csz l ≤ l.length * b
  | [], _ => by simp [csz]
  | x :: l, h => by
    have h1 := csz_mul b l (fun y hy => h y (List.mem_cons_of_mem _ hy))
    have h2 := h x (List.mem_cons_self ..)
    simp only [csz, List.length_cons, Nat.add_mul]
    omega

theorem mem_small (d : List Int) (s : Nat) (hl : d.length ≤ 240) : msz (memX d s) ≤ 100000 := by
  have h1 := all_fits d [] []
  have h2 : csz (cksN d s (d.length / s + 1)) ≤ (cksN d s (d.length / s + 1)).length * 240 := csz_mul 240 _ (fun x hx => by
    unfold cksN at hx
    obtain ⟨j, _, rfl⟩ := List.mem_map.1 hx
    have h3 := all_fits (d.take (j * s)) [] []
    have h4 : (d.take (j * s)).length ≤ 240 := by rw [List.length_take]; omega
    simp only [wei, tssz, List.length_nil] at h3
    show (allX [] [] (d.take (j * s))).2.length ≤ 240
    omega)
  have h5 : d.length / s ≤ d.length := Nat.div_le_self _ _
  rw [cksN_len] at h2
  have h6 : (d.length / s + 1) * 240 ≤ 241 * 240 := Nat.mul_le_mul_right _ (by omega)
  simp only [wei, tssz, List.length_nil] at h1
  unfold msz memX
  dsimp only
  rw [cksN_len]
  omega

theorem beqB_refl (l : List Int) : beqB l l = true := by unfold beqB; simp

def askC (d : List Int) (st : Int) : Int := if 240 < d.length then 6 else if st < 1 ∨ 60 < st then 3 else 0

def memF (m : ME) : Int := if askC m.dt m.st ≠ 0 then askC m.dt m.st else if sameR (memX m.dt m.st.toNat) m then 0 else 1

theorem askC_ok {d : List Int} {st : Int} (h : askC d st = 0) : d.length ≤ 240 ∧ ∃ s : Nat, st = (s : Int) ∧ 1 ≤ s ∧ s ≤ 60 := by
  unfold askC at h
  by_cases h1 : 240 < d.length
  · rw [if_pos h1] at h; cases h
  · rw [if_neg h1] at h
    by_cases h2 : st < 1 ∨ 60 < st
    · rw [if_pos h2] at h; cases h
    · exact ⟨by omega, st.toNat, by omega, by omega, by omega⟩

set_option maxHeartbeats 1600000 in
theorem l12Asked_any (a : Option Addr) (c : Nat) (d : List Int) (st : Int) (w : World) (hl : (d.length : Int) ≤ 9223372036854775807) :
    Calls Tryz.prog 71 #[.slice a d.length c, .int .i64 st] w fun e w' => e = .returned (.int .i64 (askC d st)) ∧ w' = w := by
  by_cases h1 : 240 < d.length
  · have c1 : (240 : Int) < d.length := by omega
    have E : Hid (askC d st = 6) := Hid.mk' (by unfold askC; rw [if_pos h1])
    go_enter Tryz.func71, Tryz.ntmps71
    go_wp2
    go_ret
    exact ⟨by rw [E.out]; rfl, rfl⟩
  have c1 : ¬ (240 : Int) < d.length := by omega
  have KI := l1In_any st 1 60 w
  by_cases h2 : st < 1 ∨ 60 < st
  · have E : Hid (askC d st = 3) := Hid.mk' (by unfold askC; rw [if_neg h1, if_pos h2])
    have e1 : (decide ((1 : Int) ≤ st) && decide (st ≤ 60)) = false := by
      rcases h2 with h | h
      · rw [decide_eq_false (by omega)]; rfl
      · rw [decide_eq_false (p := st ≤ 60) (by omega)]; simp
    rw [e1] at KI
    have KI := Hid.mk' KI
    clear h2 e1
    go_enter Tryz.func71, Tryz.ntmps71
    go_wp2_with fail
    refine KI.out.mono ?_
    rintro e w1 ⟨rfl, rfl⟩
    go_wp2
    go_ret
    exact ⟨by rw [E.out]; rfl, rfl⟩
  · have E : Hid (askC d st = 0) := Hid.mk' (by unfold askC; rw [if_neg h1, if_neg h2])
    have e1 : (decide ((1 : Int) ≤ st) && decide (st ≤ 60)) = true := by
      rw [decide_eq_true (by omega), decide_eq_true (by omega)]; rfl
    rw [e1] at KI
    have KI := Hid.mk' KI
    clear h2 e1
    go_enter Tryz.func71, Tryz.ntmps71
    go_wp2_with fail
    refine KI.out.mono ?_
    rintro e w1 ⟨rfl, rfl⟩
    go_wp2
    go_ret
    exact ⟨by rw [E.out]; rfl, rfl⟩

structure P1 (g : Nat) (m : ME) (a t u c : Option Addr) (ca ct cu cc : Nat) (wi : World) : Prop where
  r : wi.rowIs g 27 5 (r5 (.slice a m.dt.length ca) (.int .i64 m.st) (.slice t m.tk.length ct) (.slice u m.hd.length cu) (.slice c m.cs.length cc))
  m1 : MAt wi a t u c m

theorem P1.below {g : Nat} {m : ME} {a t u c : Option Addr} {ca ct cu cc : Nat} {wi wj : World} (x : P1 g m a t u c ca ct cu cc wi) (hb : Below wi.heap.size wi wj) : P1 g m a t u c ca ct cu cc wj := ⟨rowB x.r hb, x.m1.below hb⟩

set_option maxRecDepth 100000 in
set_option maxHeartbeats 3200000 in
theorem l12Fault_any (g : Nat) (m : ME) (a t u c : Option Addr) (ca ct cu cc : Nat) (w : World) (hp : P1 g m a t u c ca ct cu cc w) (hub : Byt m.dt) (hm : (msz m : Int) ≤ 1048576) :
    Calls Tryz.prog 49 #[.pointer (some ⟨g, 0, none⟩)] w fun e w' => e = .returned (.int .i64 (memF m)) ∧ Below w.heap.size w w' := by
  have MS_ : (msz m : Int) = m.dt.length + m.tk.length + tssz m.tk + m.hd.length + m.cs.length + csz m.cs := by unfold msz; omega
  have hl : (m.dt.length : Int) ≤ 9223372036854775807 := by omega
  have HP := Hid.mk' hp
  have HM := Hid.mk' hm
  obtain ⟨x0, x1, x2, x3, x4, x5⟩ := cells5 hp.r
  clear MS_ hp hm
  by_cases h1 : askC m.dt m.st = 0
  rotate_left
  · have E : Hid (memF m = askC m.dt m.st) := Hid.mk' (by unfold memF; rw [if_pos h1])
    have KA : Hid (∀ v, Calls Tryz.prog 71 #[.slice a m.dt.length ca, .int .i64 m.st] v fun e w' => e = .returned (.int .i64 (askC m.dt m.st)) ∧ w' = v) := Hid.mk' (fun v => l12Asked_any a ca m.dt m.st v hl)
    generalize askC m.dt m.st = K at *
    have h1' : (K != 0) = true := by simp [h1]
    have h1'' : ¬ K = 0 := h1
    clear h1
    go_enter Tryz.func49, Tryz.ntmps49
    go_wp2
    go_region_held3 (fun w' => w'.cell? ⟨g, 0, none⟩ = some (.slice a m.dt.length ca) ∧ w'.cell? ⟨g, 1, none⟩ = some (.int .i64 m.st)) (simp [*])
      ((go_at_call 71; refine (KA.out _).mono ?_; rintro e w1 ⟨rfl, hw1⟩; subst hw1))
    go_wp2
    go_ret
    exact ⟨by rw [E.out]; rfl, (Below.refl _ _).drew⟩
  obtain ⟨h240, s, hst, hs, hs2⟩ := askC_ok h1
  have E : Hid (memF m = if sameR (memX m.dt s) m then 0 else 1) := Hid.mk' (by
    unfold memF
    rw [if_neg (by rw [h1]; simp), hst]; rfl)
  have KA : Hid (∀ v, Calls Tryz.prog 71 #[.slice a m.dt.length ca, .int .i64 (s : Int)] v fun e w' => e = .returned (.int .i64 0) ∧ w' = v) := Hid.mk' (fun v => by rw [← h1, ← hst]; exact l12Asked_any a ca m.dt m.st v hl)
  rw [hst] at x1
  have KN : Hid (∀ v, Below w.heap.size w v → Calls Tryz.prog 72 #[.slice a m.dt.length ca, .int .i64 (s : Int)] v fun e w' => LnP m.dt s v e w') := Hid.mk' (fun v hb => l12New_any m.dt a ca s v (HP.out.m1.1.below hb) hub h240 hs hs2)
  have ES : Hid (sameM (memX m.dt s) m = sameR (memX m.dt s) m) := Hid.mk' (by
    unfold sameM
    show (beqB m.dt m.dt && (((s : Int) == m.st) && sameR (memX m.dt s) m)) = _
    rw [beqB_refl, hst]; simp)
  have HST := Hid.mk' hst
  have HX := Hid.mk' (mem_small m.dt s h240)
  clear h1 hst hs hs2 h240 hub
  go_enter Tryz.func49, Tryz.ntmps49
  go_wp2
  go_region_held3 (fun w' => w'.cell? ⟨g, 0, none⟩ = some (.slice a m.dt.length ca) ∧ w'.cell? ⟨g, 1, none⟩ = some (.int .i64 (s : Int))) (simp [*])
    ((go_at_call 71; refine (KA.out _).mono ?_; rintro e w1 ⟨rfl, hw1⟩; subst hw1))
  clear KA
  obtain ⟨T, hT⟩ : ∃ T, (allX [] [] m.dt).1 = T := ⟨_, rfl⟩
  obtain ⟨H, hH⟩ : ∃ H, (allX [] [] m.dt).2 = H := ⟨_, rfl⟩
  obtain ⟨J, hJ⟩ : ∃ J, m.dt.length / s + 1 = J := ⟨_, rfl⟩
  have KN : Hid (∀ v, Below w.heap.size w v → Calls Tryz.prog 72 #[.slice a m.dt.length ca, .int .i64 (s : Int)] v fun e w' => ∃ pa pt pu pc qa qt qu qc, e = .returned (.agg #[.slice pa m.dt.length qa, .int .i64 (s : Int), .slice pt T.length qt, .slice pu H.length qu, .slice pc J qc]) ∧ (∀ z : World, w'.heap.size ≤ z.heap.size → (∀ q, v.heap.size < q → q < w'.heap.size → z.heap[q]? = w'.heap[q]?) → MAt z pa pt pu pc (memX m.dt s)) ∧ Below v.heap.size v w') := Hid.mk' (fun v hb => by
    have := KN.out v hb
    unfold LnP at this
    rw [hT, hH, hJ] at this
    exact this)
  have KS : Hid (∀ (x : Nat) (v : World) (pa pt pu pc : Option Addr) (qa qt qu qc : Nat), v.rowIs x 27 5 (r5 (.slice pa m.dt.length qa) (.int .i64 (s : Int)) (.slice pt T.length qt) (.slice pu H.length qu) (.slice pc J qc)) → MAt v pa pt pu pc (memX m.dt s) → Below w.heap.size w v → Calls Tryz.prog 48 #[.pointer (some ⟨x, 0, none⟩), .pointer (some ⟨g, 0, none⟩)] v fun e w' => e = .returned (.bool (sameR (memX m.dt s) m)) ∧ Below v.heap.size v w') := Hid.mk' (fun x v pa pt pu pc qa qt qu qc hr hm hb => by
    have px := HP.out.below hb
    have := l12Same_any x g (memX m.dt s) m pa pt pu pc a t u c qa qt qu qc ca ct cu cc v ⟨by
      show World.rowIs _ _ _ _ (r5 (.slice pa m.dt.length qa) (.int .i64 (s : Int)) (.slice pt (allX [] [] m.dt).1.length qt) (.slice pu (allX [] [] m.dt).2.length qu) (.slice pc (cksN m.dt s (m.dt.length / s + 1)).length qc))
      rw [cksN_len, hT, hH, hJ]; exact hr, px.r, hm, px.m1⟩ (by have := HX.out; omega) HM.out
    rw [ES.out] at this
    exact this)
  clear hT hH hJ HX
  generalize hR : sameR (memX m.dt s) m = R at *
  clear hR
  have HCE : Hid (∀ v, Below w.heap.size w v → (fun w' => w'.cell? ⟨g, 0, none⟩ = some (.slice a m.dt.length ca) ∧ w'.cell? ⟨g, 1, none⟩ = some (.int .i64 (s : Int))) v) := Hid.mk' (fun v hb => ⟨(hb.cell x5).trans x0, (hb.cell x5).trans x1⟩)
  clear x0 x1 x2 x3 x4 x5
  have DD : Hid (Below w.heap.size w w.drew.drew) := Hid.mk' ((Below.refl _ _).drew.drew)
  go_wp2
  refine wp_region_held_drew (S := (fun w' => w'.cell? ⟨g, 0, none⟩ = some (.slice a m.dt.length ca) ∧ w'.cell? ⟨g, 1, none⟩ = some (.int .i64 (s : Int)))) (by kernel_rfl) (HCE.out _ DD.out) (fun hHeld => ?_)
  refine tkY 0 ?_
  refine tkY 1 ?_
  refine tkY 2 ?_
  refine tkY 3 ?_
  refine tkY 4 ?_
  refine tkY 5 ?_
  refine tkY 6 ?_
  refine tkY 7 ?_
  refine wpAnyH_ready (rs := [8, 9]) (by kernel_rfl) (by simp) ?_
  refine AllReadyH.cons (o := ⟨_, _, _, _, _, _⟩) rfl (fun K hK => ?_) (AllReadyH.cons (o := ⟨_, _, _, _, _, _⟩) rfl (fun K hK => ?_) AllReadyH.nil)
  · go_simp
    refine (KN.out _ DD.out).mono ?_
    rintro e w1 ⟨pa, pt, pu, pc, qa, qt, qu, qc, rfl, hmx, hb1⟩
    have B1 := DD.out.trans (hb1.mono DD.out.size)
    refine hK.out _ _ (HCE.out _ B1) (fun hHeld => ?_)
    clear hK K
    try simp only [Act.put, zA, zB, zC]
    refine wpAnyH_ready (rs := [9]) (by kernel_rfl) (by simp) ?_
    refine AllReadyH.cons (o := ⟨_, _, _, _, _, _⟩) rfl (fun K hK => ?_) AllReadyH.nil
    go_simp
    refine hK.out _ _ (HCE.out _ (B1.trans ((below_new w1 _).mono B1.size))) (fun hHeld => ?_)
    clear hK K
    try simp only [Act.put, zA, zB, zC]
    have Z := row5 w1 27 (.slice none 0 0) (.int .i64 0) (.slice none 0 0) (.slice none 0 0) (.slice none 0 0)
    obtain ⟨z0, z1, z2, z3, z4, z5⟩ := cells5 Z
    have y0 := Z.frozen 0
    have y1 := Z.frozen 1
    have y2 := Z.frozen 2
    have y3 := Z.frozen 3
    have y4 := Z.frozen 4
    refine wpAnyH_ready (rs := [10]) (by kernel_rfl) (by simp) ?_
    refine AllReadyH.cons (o := ⟨_, _, _, _, _, _⟩) rfl (fun K hK => ?_) AllReadyH.nil
    go_simp
    refine hK.out _ _ (HCE.out _ (B1.trans ((below_new w1 _).mono B1.size))) (fun hHeld => ?_)
    clear hK K
    try simp only [Act.put, zA, zB, zC]
    have N1 := below_new w1 (.cells #[.slice pa m.dt.length qa, .int .i64 (s : Int), .slice pt T.length qt, .slice pu H.length qu, .slice pc J qc] 27)
    have BX := Hid.mk' (B1.trans (N1.mono B1.size))
    have RX := Hid.mk' (row5 w1 27 (.slice pa m.dt.length qa) (.int .i64 (s : Int)) (.slice pt T.length qt) (.slice pu H.length qu) (.slice pc J qc))
    have MX := Hid.mk' (hmx _ N1.size (fun q _ h => N1.block q h))
    clear N1 B1 hb1 hmx Z z0 z1 z2 z3 z4 z5 y0 y1 y2 y3 y4
    generalize hV : w1.alloc (.cells #[.slice pa m.dt.length qa, .int .i64 (s : Int), .slice pt T.length qt, .slice pu H.length qu, .slice pc J qc] 27) = V at *
    clear hV
    refine wpAnyH_done (by kernel_rfl) ?_ _
    clear hHeld
    cases R with
    | true =>
      go_wp2_with fail
      refine (KS.out _ _ _ _ _ _ _ _ _ _ RX.out MX.out BX.out).mono ?_
      rintro e w2 ⟨rfl, hb2⟩
      have HB2 := Hid.mk' (BX.out.trans (hb2.mono BX.out.size))
      clear hb2 KS
      go_wp2
      go_ret
      exact ⟨by rw [E.out]; rfl, HB2.out⟩
    | false =>
      go_wp2_with fail
      refine (KS.out _ _ _ _ _ _ _ _ _ _ RX.out MX.out BX.out).mono ?_
      rintro e w2 ⟨rfl, hb2⟩
      have HB2 := Hid.mk' (BX.out.trans (hb2.mono BX.out.size))
      clear hb2 KS
      go_wp2
      go_ret
      exact ⟨by rw [E.out]; rfl, HB2.out⟩
  · go_simp
    have NB := below_new w (.cells #[.slice none 0 0, .int .i64 0, .slice none 0 0, .slice none 0 0, .slice none 0 0] 27)
    have DB : Below w.heap.size w (w.alloc (.cells #[.slice none 0 0, .int .i64 0, .slice none 0 0, .slice none 0 0, .slice none 0 0] 27)).drew.drew := NB.drew.drew
    refine hK.out _ _ (HCE.out _ DB) (fun hHeld => ?_)
    clear hK K
    try simp only [Act.put, zA, zB, zC]
    refine wpAnyH_ready (rs := [8]) (by kernel_rfl) (by simp) ?_
    refine AllReadyH.cons (o := ⟨_, _, _, _, _, _⟩) rfl (fun K hK => ?_) AllReadyH.nil
    go_simp
    refine (KN.out _ DB).mono ?_
    rintro e w1 ⟨pa, pt, pu, pc, qa, qt, qu, qc, rfl, hmx, hb1⟩
    replace hb1 : Below (w.alloc (.cells #[.slice none 0 0, .int .i64 0, .slice none 0 0, .slice none 0 0, .slice none 0 0] 27)).heap.size (w.alloc (.cells #[.slice none 0 0, .int .i64 0, .slice none 0 0, .slice none 0 0, .slice none 0 0] 27)) w1 := undrew (undrew hb1)
    have B1 := NB.trans (hb1.mono NB.size)
    refine hK.out _ _ (HCE.out _ B1) (fun hHeld => ?_)
    clear hK K
    try simp only [Act.put, zA, zB, zC]
    have Z := rowB (row5 w 27 (.slice none 0 0) (.int .i64 0) (.slice none 0 0) (.slice none 0 0) (.slice none 0 0)) hb1
    obtain ⟨z0, z1, z2, z3, z4, z5⟩ := cells5 Z
    have y0 := Z.frozen 0
    have y1 := Z.frozen 1
    have y2 := Z.frozen 2
    have y3 := Z.frozen 3
    have y4 := Z.frozen 4
    have K1 := ((((KeptIn.refl w.heap.size (w.heap.size + 1) w1).setCell (p := ⟨w.heap.size, 0, none⟩) (by simp) (by simp) (.slice pa m.dt.length qa)).setCell (p := ⟨w.heap.size, 1, none⟩) (by simp) (by simp) (.int .i64 (s : Int))).setCell (p := ⟨w.heap.size, 2, none⟩) (by simp) (by simp) (.slice pt T.length qt)).setCell (p := ⟨w.heap.size, 3, none⟩) (by simp) (by simp) (.slice pu H.length qu) |>.setCell (p := ⟨w.heap.size, 4, none⟩) (by simp) (by simp) (.slice pc J qc)
    have B2 := B1.trans (K1.below (Nat.le_refl _) B1.size)
    refine wpAnyH_ready (rs := [10]) (by kernel_rfl) (by simp) ?_
    refine AllReadyH.cons (o := ⟨_, _, _, _, _, _⟩) rfl (fun K hK => ?_) AllReadyH.nil
    go_simp
    refine hK.out _ _ (HCE.out _ B2) (fun hHeld => ?_)
    clear hK K
    try simp only [Act.put, zA, zB, zC]
    have BX := Hid.mk' B2
    have RX := Hid.mk' ((((((Z.set 0 (.slice pa m.dt.length qa)).set 1 (.int .i64 (s : Int))).set 2 (.slice pt T.length qt)).set 3 (.slice pu H.length qu)).set 4 (.slice pc J qc)).congr (g := r5 (.slice pa m.dt.length qa) (.int .i64 (s : Int)) (.slice pt T.length qt) (.slice pu H.length qu) (.slice pc J qc)) (fun i hi => by
      have h : i = 0 ∨ i = 1 ∨ i = 2 ∨ i = 3 ∨ i = 4 := by omega
      rcases h with rfl | rfl | rfl | rfl | rfl <;> simp [r5]))
    have MX := Hid.mk' (hmx _ K1.size (fun q h1 h2 => K1.block q h2 (.inr (by simp at h1; omega))))
    clear NB DB B1 B2 hb1 hmx Z K1 z0 z1 z2 z3 z4 z5 y0 y1 y2 y3 y4
    generalize hV : ((((w1.setCell ⟨w.heap.size, 0, none⟩ (.slice pa m.dt.length qa)).setCell ⟨w.heap.size, 1, none⟩ (.int .i64 (s : Int))).setCell ⟨w.heap.size, 2, none⟩ (.slice pt T.length qt)).setCell ⟨w.heap.size, 3, none⟩ (.slice pu H.length qu)).setCell ⟨w.heap.size, 4, none⟩ (.slice pc J qc) = V at *
    clear hV
    refine wpAnyH_done (by kernel_rfl) ?_ _
    clear hHeld
    cases R with
    | true =>
      go_wp2_with fail
      refine (KS.out _ _ _ _ _ _ _ _ _ _ RX.out MX.out BX.out).mono ?_
      rintro e w2 ⟨rfl, hb2⟩
      have HB2 := Hid.mk' (BX.out.trans (hb2.mono BX.out.size))
      clear hb2 KS
      go_wp2
      go_ret
      exact ⟨by rw [E.out]; rfl, HB2.out⟩
    | false =>
      go_wp2_with fail
      refine (KS.out _ _ _ _ _ _ _ _ _ _ RX.out MX.out BX.out).mono ?_
      rintro e w2 ⟨rfl, hb2⟩
      have HB2 := Hid.mk' (BX.out.trans (hb2.mono BX.out.size))
      clear hb2 KS
      go_wp2
      go_ret
      exact ⟨by rw [E.out]; rfl, HB2.out⟩

set_option maxHeartbeats 1600000 in
theorem specMF_any (m : ME) (a t u c : Option Addr) (ca ct cu cc : Nat) (w : World) (h1 : MAt w a t u c m) (hub : Byt m.dt) (hm : (msz m : Int) ≤ 1048576) :
    Calls Tryz.prog 32 #[.agg #[.slice a m.dt.length ca, .int .i64 m.st, .slice t m.tk.length ct, .slice u m.hd.length cu, .slice c m.cs.length cc]] w fun e w' => e = .returned (.int .i64 (memF m)) ∧ Below w.heap.size w w' := by
  have N0 := below_new w (.cells #[.slice a m.dt.length ca, .int .i64 m.st, .slice t m.tk.length ct, .slice u m.hd.length cu, .slice c m.cs.length cc] 27)
  have KS := Hid.mk' (l12Fault_any w.heap.size m a t u c ca ct cu cc _ ⟨row5 w 27 (.slice a m.dt.length ca) (.int .i64 m.st) (.slice t m.tk.length ct) (.slice u m.hd.length cu) (.slice c m.cs.length cc), h1.below N0⟩ hub hm)
  have HB := Hid.mk' N0
  clear N0 h1
  generalize hW : w.alloc (.cells #[.slice a m.dt.length ca, .int .i64 m.st, .slice t m.tk.length ct, .slice u m.hd.length cu, .slice c m.cs.length cc] 27) = W at *
  go_enter Tryz.func32, Tryz.ntmps32
  go_wp2_with fail
  clear hW
  refine KS.out.mono ?_
  rintro e w1 ⟨rfl, hb⟩
  have HB := Hid.mk' (HB.out.trans (hb.mono HB.out.size))
  clear hb KS
  go_wp2
  go_ret
  exact ⟨rfl, HB.out⟩

end Go.Proofs.YtlimgcmhidooaaaGreatDoor
