/- The model's memo: the walk. -/
import Derived.Test.YtdloogkjnjklcaaGreatDoorE27
import Derived.Test.YtdloogkjnjklcaaGreatDoorE23
import Derived.Test.YtdloogkjnjklcaaGreatDoorE25
set_option linter.unusedVariables false
set_option linter.unusedSimpArgs false
namespace Go.Proofs.YtdloogkjnjklcaaGreatDoor
open Go.RowKit

theorem infoCheck : (Tryz.prog.info? 57).map (fun i => (i.zero, i.size, i.bytes)) = some (some (.agg #[.int .i64 0, .int .i64 0, .slice none 0 0]), 3, 40) := Tryz.info57

theorem cnt_div {k s : Nat} (hs : 1 ≤ s) (h : k % s = 0) : (k + s - 1) / s * s = k ∧ (k + 1 + s - 1) / s = (k + s - 1) / s + 1 := by
  obtain ⟨m, rfl⟩ : ∃ m, k = m * s := ⟨k / s, by have := Nat.div_add_mod k s; rw [h] at this; rw [Nat.mul_comm]; omega⟩
  have e : (m * s + s - 1) / s = m := by
    rw [show m * s + s - 1 = (s - 1) + m * s by omega, Nat.add_mul_div_right _ _ (by omega), Nat.div_eq_of_lt (by omega)]; omega
  have e2 : (m * s + 1 + s - 1) / s = m + 1 := by
    rw [show m * s + 1 + s - 1 = 0 + (m + 1) * s by rw [Nat.add_mul]; omega, Nat.add_mul_div_right _ _ (by omega)]; simp
  rw [e, e2]; exact ⟨rfl, rfl⟩

theorem cnt_not {k s : Nat} (hs : 1 ≤ s) (h : ¬ k % s = 0) : (k + 1 + s - 1) / s = (k + s - 1) / s := by
  have h1 := Nat.div_add_mod k s
  have h2 := Nat.mod_lt k (show 0 < s by omega)
  have e : (k + s - 1) / s = k / s + 1 := by
    have : k + s - 1 = (k % s - 1) + (k / s + 1) * s := by rw [Nat.add_mul, Nat.mul_comm (k / s)]; omega
    rw [this, Nat.add_mul_div_right _ _ (by omega), Nat.div_eq_of_lt (by omega)]; omega
  have e2 : (k + 1 + s - 1) / s = k / s + 1 := by
    have : k + 1 + s - 1 = k % s + (k / s + 1) * s := by rw [Nat.add_mul, Nat.mul_comm (k / s)]; omega
    rw [this, Nat.add_mul_div_right _ _ (by omega), Nat.div_eq_of_lt (by omega)]; omega
  rw [e, e2]

theorem cnt_all (n s : Nat) (hs : 1 ≤ s) : (n + 1 + s - 1) / s = n / s + 1 := by
  rw [show n + 1 + s - 1 = n + 1 * s by omega, Nat.add_mul_div_right _ _ (by omega)]

theorem MS.over {w : World} {d : List Int} {s k c g : Nat} {dv tv cv hv : Value} {us : List Value} {hs : Nat → Value} {wr : World} (x : MS w d s k c g dv tv cv hv us hs wr) (h : d.length ≤ k) : MS w d s (k + 1) c g dv tv cv hv us hs wr := by
  have e : d.take (k + 1) = d.take k := by rw [List.take_of_length_le h, List.take_of_length_le (by omega)]
  obtain ⟨a1, a2, a3, a4, a5, a6, a7, a8, a9, b1, b2, b3, b4, b5, b6⟩ := x
  exact ⟨a1, a2, a3, a4, a5, a6, by rw [e]; exact a7, by rw [e]; exact a8, a9, b1, b2, by rw [e]; exact b3, b4, by rw [e]; exact b5, b6⟩

theorem checks_at {w : World} {base : Nat} {cv : Value} {d : List Int} {s c : Nat} {hs : Nat → Value} (h : w.ownsRow base 57 3 cv c (cvs d s c hs)) (hh : ∀ i, i < c → ∃ p q, hs i = .slice p (hdN d s i).length q ∧ (hdN d s i).length ≤ q ∧ BAt w p (hdN d s i)) : ∃ a k, cv = .slice a c k ∧ CsAt w a (cksN d s c) := by
  rcases h.2 with ⟨rfl, h0⟩ | ⟨g, cap, cur, rfl, hg, hh0, hc, hm, hs', ht⟩
  · exact ⟨none, 0, by rw [h0], .inl (by rw [h0]; rfl)⟩
  · have glt : g < w.heap.size := (Array.getElem?_eq_some_iff.1 hh0).1
    have cell : ∀ i, i < c * 3 → w.cell? ⟨g, i, none⟩ = some (ckV d s c hs i) := fun i hi => by
      rw [Lib.cell_of_heap hh0]
      have := cvs_at d s c hs i hi
      rw [← ht, List.getElem?_take_of_lt hi] at this
      simpa using this
    refine ⟨_, _, rfl, .inr ⟨g, 0, rfl, glt, fun k hk => ?_⟩⟩
    rw [cksN_len] at hk
    rw [cksN_at d s c k hk]
    have v0 := cell (k * 3) (by omega)
    have v1 := cell (k * 3 + 1) (by omega)
    have v2 := cell (k * 3 + 2) (by omega)
    unfold ckV at v0 v1 v2
    rw [show k * 3 / 3 = k by omega, show k * 3 % 3 = 0 by omega, if_pos hk] at v0
    rw [show (k * 3 + 1) / 3 = k by omega, show (k * 3 + 1) % 3 = 1 by omega, if_pos hk] at v1
    rw [show (k * 3 + 2) / 3 = k by omega, show (k * 3 + 2) % 3 = 2 by omega, if_pos hk] at v2
    obtain ⟨p, q, e, _, b⟩ := hh k hk
    refine ⟨by rw [Nat.zero_add]; exact v0, by rw [Nat.zero_add]; exact v1, p, q, ?_, b⟩
    rw [Nat.zero_add, v2]
    show some (hs k) = _
    rw [e]; rfl

def LnP (d : List Int) (s : Nat) (w : World) (e : Ending) (w' : World) : Prop :=
  ∃ a t u c ca ct cu cc, e = .returned (.agg #[.slice a d.length ca, .int .i64 (s : Int), .slice t (allX [] [] d).1.length ct, .slice u (allX [] [] d).2.length cu, .slice c (d.length / s + 1) cc]) ∧ (∀ z : World, w'.heap.size ≤ z.heap.size → (∀ q, w.heap.size < q → q < w'.heap.size → z.heap[q]? = w'.heap[q]?) → MAt z a t u c (memX d s)) ∧ Below w.heap.size w w'

set_option maxRecDepth 100000 in
set_option maxHeartbeats 6400000 in
theorem l12New_any (d : List Int) (ad : Option Addr) (cd : Nat) (s : Nat) (w : World) (hd : BAt w ad d) (hu : Byt d) (hl : d.length ≤ 240) (hs : 1 ≤ s) (hs2 : s ≤ 60) :
    Calls Tryz.prog 27 #[.slice ad d.length cd, .int .i64 (s : Int)] w fun e w' => LnP d s w e w' := by
  have N0 := below_new w (.cells #[.slice none 0 0, .int .i64 0, .slice none 0 0, .slice none 0 0, .slice none 0 0] 26)
  have R0 := row5 w 26 (.slice none 0 0) (.int .i64 0) (.slice none 0 0) (.slice none 0 0) (.slice none 0 0)
  have KC := Hid.mk' (l1Copy_own ad cd d _ (hd.below N0) (by omega))
  have HB := Hid.mk' N0
  have HD := Hid.mk' hd
  have HU := Hid.mk' hu
  have HR := Hid.mk' R0
  have z0 : (w.alloc (.cells #[.slice none 0 0, .int .i64 0, .slice none 0 0, .slice none 0 0, .slice none 0 0] 26)).heap.size = w.heap.size + 1 := by simp
  have Z0 := Hid.mk' z0
  clear N0 R0 hd hu z0
  generalize hW : w.alloc (.cells #[.slice none 0 0, .int .i64 0, .slice none 0 0, .slice none 0 0, .slice none 0 0] 26) = W at *
  go_enter Tryz.func27, Tryz.ntmps27
  go_wp2_with fail
  clear hW
  refine KC.out.mono ?_
  rintro e w1 ⟨dv, rfl, od, hb1⟩
  obtain ⟨da, dc, rfl, -⟩ := own_src od
  rw [Z0.out] at od
  have B1 := HB.out.trans (hb1.mono HB.out.size)
  have N1 := below_new w1 (.cells #[.slice da d.length dc, .int .i64 (s : Int), .slice none 0 0, .slice none 0 0, .slice none 0 0] 26)
  have N2 := N1.alloc (by simp) (.cells #[] 5)
  have l1 := HR.out.lt
  have l2 := hb1.size
  have M0 : MS w d s 0 0 w1.heap.size (.slice da d.length dc) (.slice none 0 0) (.slice none 0 0) (.slice (some ⟨w1.heap.size + 1, 0, none⟩) 0 0) [] (fun _ => .slice none 0 0) ((w1.alloc (.cells #[.slice da d.length dc, .int .i64 (s : Int), .slice none 0 0, .slice none 0 0, .slice none 0 0] 26)).alloc (.cells #[] 5)) := by
    have e0 : allX [] [] (d.take 0) = ([], []) := by simp [allX]
    refine ⟨B1.trans (N2.mono B1.size), (row5 w1 26 _ _ _ _ _).alloc _, rowB (rowB HR.out hb1) N2, by omega, (fun h => by simp [Value.ownBlock] at h), (fun h => by simp [Value.ownBlock] at h), ?_, (by rw [e0]; rfl), fun u hu => (by cases hu), ⟨rfl, .inl ⟨rfl, rfl⟩⟩, fun q e => by simp [Value.ownBlock] at e, ?_, ?_, ?_, fun i hi => absurd hi (Nat.not_lt_zero _)⟩
    · rw [e0]; exact ⟨rfl, .inl ⟨rfl, rfl⟩⟩
    · rw [e0]; exact TC.nil _ _
    · exact BT.of_own (own_keep od N2) (fun q eq hx => by
        have h1 := od.lt q eq
        rcases hx with h | h | h | h
        · omega
        · omega
        · simp [Value.ownBlock] at h
        · simp [Value.ownBlock] at h)
    · rw [e0]; exact ⟨fun _ => False, fun k hk => absurd hk id, _, _, rfl, Nat.le_refl _, fun _ _ => .inl rfl⟩
  have HM := Hid.mk' M0
  clear M0 N1 N2 B1 l1 l2 od hb1 KC HB HR
  go_wp2
  generalize hG : w1.heap.size = g at *
  go_loopw [6, 7] (fun hv i wr => ∃ (k : Nat) (tv cv : Value) (us : List Value) (hvs : Nat → Value), k ≤ d.length + 1 ∧ i = .int .i64 k ∧ MS w d s k ((k + s - 1) / s) g (.slice da d.length dc) tv cv hv us hvs wr) (fun _ i _ => d.length + 1 - (intOf i).toNat)
  case atStart => exact ⟨0, _, _, _, _, Nat.zero_le _, rfl, by rw [show (0 + s - 1) / s = 0 from Nat.div_eq_of_lt (by omega)]; exact HM.out⟩
  case round =>
    obtain ⟨k, tv, cv, us, hvs, hk, rfl, hr⟩ := hrel
    by_cases hlt : k ≤ d.length
    · have ci : (k : Int) ≤ (d.length : Int) := by omega

      obtain ⟨r, hr1⟩ : ∃ r : Nat, k % s = r := ⟨_, rfl⟩
      have hmod : (k : Int).tmod (s : Int) = (r : Int) := by rw [← hr1]; rfl
      have HR1 := Hid.mk' hr1
      obtain ⟨C, hC⟩ : ∃ C, (k + s - 1) / s = C := ⟨_, rfl⟩
      rw [hC] at hr
      have hC2 : C ≤ k + s - 1 := by rw [← hC]; exact Nat.div_le_self _ _
      have HC := Hid.mk' hC
      clear hC hr1
      have MID : Hid (∀ (C' : Nat) (cv' : Value) (hvs' : Nat → Value) (wm : World), (k + 1 + s - 1) / s = C' → MS w d s k C' g (.slice da d.length dc) tv cv' u6 us hvs' wm → True) := Hid.mk' (fun _ _ _ _ _ _ => trivial)
      clear MID
      obtain ⟨ta, tc, rfl, -⟩ := own_src hr.tr
      obtain ⟨ca, cc, rfl, -⟩ := own_src hr.cr
      obtain ⟨ha, hc, rfl, hcap, hbt⟩ := hr.hd.at
      obtain ⟨c0, c1, c2, c3, c4, gl⟩ := cells5 hr.box
      have HBT := Hid.mk' hbt
      have HMS := Hid.mk' hr
      have hgd : GoodH (allX [] [] (d.take k)).2 := allX_good _ _ _ (.inl rfl)
      have hby : Byt (allX [] [] (d.take k)).2 := allX_byt _ _ _ (fun x hx => HU.out.mem x (List.mem_of_mem_take hx)) Byt.nil
      have lT : (allX [] [] (d.take k)).1.length ≤ 161 * 240 := by
        have := allX_len (d.take k) [] [] (by simp)
        have l2 : (d.take k).length ≤ 240 := by rw [List.length_take]; omega
        simp only [List.length_nil, Nat.zero_add] at this
        omega
      have lH := hgd.len
      have OLD : Hid (∀ q, XB w.heap.size g (.slice ta (allX [] [] (d.take k)).1.length tc) (.slice ca C cc) q → q < wr.heap.size) := Hid.mk' (fun q h => by
        rcases h with h | h | h | h
        · have := hr.r0.lt; omega
        · rw [h]; exact hr.box.lt
        · exact (hr.tr.lt q h).2
        · exact (hr.cr.lt q h).2)
      have HG := Hid.mk' hgd
      have HY := Hid.mk' hby
      clear hgd hby hr hbt
      generalize hT : (allX [] [] (d.take k)).1 = T at *
      generalize hH : (allX [] [] (d.take k)).2 = H at *
      have HT := Hid.mk' hT
      have HH := Hid.mk' hH
      clear hT hH
      by_cases h0 : r = 0
      · subst h0
        have H0 := HR1
        have HCS : Hid (C * s = k) := Hid.mk' (by have := (cnt_div hs H0.out).1; rw [HC.out] at this; exact this)
        have HTN : Hid (tkN d s C = T) := Hid.mk' (by show (allX [] [] (d.take (C * s))).1 = T; rw [HCS.out]; exact HT.out)
        have HHN : Hid (hdN d s C = H) := Hid.mk' (by show (allX [] [] (d.take (C * s))).2 = H; rw [HCS.out]; exact HH.out)
        go_wp2
        refine wp_region_held_drew (S := (fun w' => w'.cell? ⟨g, 2, none⟩ = some (.slice ta T.length tc))) (by kernel_rfl) c2 (fun hHeld => ?_)
        refine wpAnyH_take (i := 0) (oi := ⟨_, _, _, _, _, _⟩) (v := ?_) rfl (by kernel_rfl) (by kernel_rfl) (by kernel_rfl) (fun _ _ _ h => h) (Or.inl ⟨by rfl, ?_⟩) (by assumption) ?_
        rotate_left
        · (intro w hSw; (try dsimp only at hSw); go_simp; (try with_reducible rfl))
        try simp only [Act.put, zA, zB, zC]
        refine wpAnyH_take (i := 2) (oi := ⟨_, _, _, _, _, _⟩) (v := ?_) rfl (by kernel_rfl) (by kernel_rfl) (by kernel_rfl) (fun _ _ _ h => h) (Or.inl ⟨by rfl, ?_⟩) (by assumption) ?_
        rotate_left
        · (intro w hSw; (try dsimp only at hSw); go_simp; (try with_reducible rfl))
        try simp only [Act.put, zA, zB, zC]
        refine wpAnyH_take (i := 3) (oi := ⟨_, _, _, _, _, _⟩) (v := ?_) rfl (by kernel_rfl) (by kernel_rfl) (by kernel_rfl) (fun _ _ _ h => h) (Or.inl ⟨by rfl, ?_⟩) (by assumption) ?_
        rotate_left
        · (intro w hSw; (try dsimp only at hSw); go_simp; (try with_reducible rfl))
        try simp only [Act.put, zA, zB, zC]
        refine wpAnyH_take (i := 4) (oi := ⟨_, _, _, _, _, _⟩) (v := ?_) rfl (by kernel_rfl) (by kernel_rfl) (by kernel_rfl) (fun _ _ _ h => h) (Or.inl ⟨by rfl, ?_⟩) (by assumption) ?_
        rotate_left
        · (intro w hSw; (try dsimp only at hSw); go_simp; (try with_reducible rfl))
        try simp only [Act.put, zA, zB, zC]
        refine wpAnyH_take (i := 5) (oi := ⟨_, _, _, _, _, _⟩) (v := ?_) rfl (by kernel_rfl) (by kernel_rfl) (by kernel_rfl) (fun _ _ _ h => h) (Or.inl ⟨by rfl, ?_⟩) (by assumption) ?_
        rotate_left
        · (intro w hSw; (try dsimp only at hSw); go_simp; (try with_reducible rfl))
        try simp only [Act.put, zA, zB, zC]
        refine wpAnyH_take (i := 6) (oi := ⟨_, _, _, _, _, _⟩) (v := ?_) rfl (by kernel_rfl) (by kernel_rfl) (by kernel_rfl) (fun _ _ _ h => h) (Or.inl ⟨by rfl, ?_⟩) (by assumption) ?_
        rotate_left
        · (intro w hSw; (try dsimp only at hSw); go_simp; (try with_reducible rfl))
        try simp only [Act.put, zA, zB, zC]
        refine wpAnyH_ready (rs := [1, 7]) (by kernel_rfl) (by simp) ?_
        refine AllReadyH.cons (o := ⟨_, _, _, _, _, _⟩) rfl (fun K hK => ?_) (AllReadyH.cons (o := ⟨_, _, _, _, _, _⟩) rfl (fun K hK => ?_) AllReadyH.nil)
        · go_simp
          refine hK.out _ _ (by assumption) (fun hHeld => ?_)
          clear hK K
          try simp only [Act.put, zA, zB, zC]
          refine wpAnyH_ready (rs := [7]) (by kernel_rfl) (by simp) ?_
          refine AllReadyH.cons (o := ⟨_, _, _, _, _, _⟩) rfl (fun K hK => ?_) AllReadyH.nil
          go_simp
          refine (l1Copy_own ha hc H _ (HBT.out.below (Below.refl _ _).drew) (by omega)).mono ?_
          rintro e w2 ⟨v, rfl, ov, hb2⟩
          replace hb2 := undrew hb2
          obtain ⟨va, vc, rfl, -⟩ := own_src ov
          refine hK.out _ _ ((hb2.cell (p := ⟨g, 2, none⟩) gl).trans c2) (fun hHeld => ?_)
          clear hK K
          try simp only [Act.put, zA, zB, zC]
          refine wpAnyH_take (i := 8) (oi := ⟨_, _, _, _, _, _⟩) (v := ?_) rfl (by kernel_rfl) (by kernel_rfl) (by kernel_rfl) (fun _ _ _ h => h) (Or.inl ⟨by rfl, ?_⟩) (by assumption) ?_
          rotate_left
          · (intro w hSw; (try dsimp only at hSw); go_simp; (try with_reducible rfl))
          try simp only [Act.put, zA, zB, zC]
          refine wpAnyH_ready (rs := [9]) (by kernel_rfl) (by simp) ?_
          refine AllReadyH.cons (o := ⟨_, _, _, _, _, _⟩) rfl (fun K hK => ?_) AllReadyH.nil
          go_simp
          have N3 := below_new w2 (.cells #[.int .i64 (k : Int), .int .i64 (T.length : Int), .slice va H.length vc] 57)
          have B3 := hb2.trans (N3.mono hb2.size)
          refine hK.out _ _ ((B3.cell (p := ⟨g, 2, none⟩) gl).trans c2) (fun hHeld => ?_)
          clear hK K
          try simp only [Act.put, zA, zB, zC]
          have OWC := Hid.mk' (HMS.out.keep B3).cr
          obtain ⟨q0, q1, q2_, q3⟩ := cells3 (row3 w2 57 (.int .i64 (k : Int)) (.int .i64 (T.length : Int)) (.slice va H.length vc))
          have BV : Hid (BT (XB w.heap.size g (.slice ta T.length tc) (.slice ca C cc)) (w2.alloc (.cells #[.int .i64 (k : Int), .int .i64 (T.length : Int), .slice va H.length vc] 57)) (.slice va H.length vc) H) := Hid.mk' (BT.of_own (own_keep ov N3) (fun q eq hx => by
            have h1 := (ov.lt q eq).1
            have h2 := OLD.out q hx
            exact absurd h1 (Nat.not_le_of_lt h2)))
          have HB3 := Hid.mk' B3
          have hbs : Hid (w.heap.size + 1 ≤ (w2.alloc (.cells #[.int .i64 (k : Int), .int .i64 (T.length : Int), .slice va H.length vc] 57)).heap.size) := Hid.mk' (by have := HMS.out.gl; have := HMS.out.box.lt; have := B3.size; omega)
          clear N3 B3
          generalize hW3 : w2.alloc (.cells #[.int .i64 (k : Int), .int .i64 (T.length : Int), .slice va H.length vc] 57) = W3 at *
          refine wpAnyH_ready (rs := [10]) (by kernel_rfl) (by simp) ?_
          refine AllReadyH.cons (o := ⟨_, _, _, _, _, _⟩) rfl (fun K hK => ?_) AllReadyH.nil
          refine step_append_at rfl (.tmp 26) (.tmp 34) 24 rfl (w.heap.size + 1) 57 (.agg #[.int .i64 0, .int .i64 0, .slice none 0 0]) 3 40 Tryz.underlying24 infoCheck rfl (by decide) _ _ _ rfl OWC.out _ 1 1 [.int .i64 (k : Int), .int .i64 (T.length : Int), .slice va H.length vc] rfl rfl (.inr ⟨⟨w2.heap.size, 0, none⟩, rfl, fun j u hu => by
            have hj : j = 0 ∨ j = 1 ∨ j = 2 := by
              have := (List.getElem?_eq_some_iff.1 hu).1
              simp at this; omega
            rcases hj with rfl | rfl | rfl
            · cases hu; exact q0
            · cases hu; exact q1
            · cases hu; exact q2_⟩) (fun u hu => by
            simp only [List.mem_cons, List.mem_nil_iff, or_false] at hu
            rcases hu with rfl | rfl | rfl <;> rfl) (by unfold maxLen; omega) (by omega) hbs.out ?_
          intro cv' w4 ho hg hat
          obtain ⟨ca', cc', rfl, -⟩ := own_src ho
          have NEW := Hid.mk' (HMS.out.check (v := .slice va H.length vc) HB3.out (by rw [HHN.out]; exact BV.out) (by rw [HCS.out, HTN.out]; exact ho) hg hat)
          have RB := rowB HMS.out.box HB3.out
          have RB2 := RB.of_block (hg.block g RB.lt (fun e => HMS.out.gc e.symm))
          obtain ⟨m0, m1, m2, m3, m4, m5⟩ := cells5 RB2
          have fm4 := RB2.frozen 4
          refine hK.out _ _ m2 (fun hHeld => ?_)
          clear hK K ho hat RB
          try simp only [Act.put, zA, zB, zC]
          refine wpAnyH_take (i := 11) (oi := ⟨_, _, _, _, _, _⟩) (v := ?_) rfl (by kernel_rfl) (by kernel_rfl) (by kernel_rfl) (fun _ _ _ h => h) (Or.inl ⟨by rfl, ?_⟩) (by assumption) ?_
          rotate_left
          · (intro w hSw; (try dsimp only at hSw); go_simp; (try with_reducible rfl))
          try simp only [Act.put, zA, zB, zC]
          refine wpAnyH_ready (rs := [12]) (by kernel_rfl) (by simp) ?_
          refine AllReadyH.cons (o := ⟨_, _, _, _, _, _⟩) rfl (fun K hK => ?_) AllReadyH.nil
          go_simp
          refine hK.out _ _ (by rw [World.cell?_setCell_other _ _ _ _ (by simp)]; exact m2) (fun hHeld => ?_)
          clear hK K
          try simp only [Act.put, zA, zB, zC]
          refine wpAnyH_done (by kernel_rfl) ?_ _
          clear hHeld m0 m1 m2 m3 m4 m5 fm4 RB2 hg q0 q1 q2_ q3 hW3 OWC hbs HB3 BV ov hb2
          have e9 : Hid ((k + 1 + s - 1) / s = C + 1) := Hid.mk' (by have := (cnt_div hs H0.out).2; rw [HC.out] at this; exact this)
          generalize hWM : w4.setCell ⟨g, 4, none⟩ (.slice ca' (C + 1) cc') = WM at *
          clear hWM
          by_cases klt : k < d.length
          · have ck : (k : Int) < (d.length : Int) := by omega
            rcases HD.out.below NEW.out.bel with hd0 | ⟨b9, o9, rfl, hbs9, hc9⟩
            · exact absurd klt (by rw [hd0]; exact Nat.not_lt_zero _)
            obtain ⟨y0, y1⟩ := HU.out k klt
            obtain ⟨y, hyy⟩ : ∃ y : Nat, d.getD k 0 = (y : Int) := ⟨(d.getD k 0).toNat, by omega⟩
            rw [hyy] at y1
            have hcell : WM.cell? ⟨b9, o9 + k, none⟩ = some (.int .u8 y) := by rw [← hyy]; exact hc9 k klt
            have ES : Hid (allX [] [] (d.take (k + 1)) = (T ++ (feedX H y).1, (feedX H y).2)) := Hid.mk' (by
              rw [take_snoc_int klt, allX_append, hyy, HT.out, HH.out]
              simp [allX])
            have fl := feedX_len H y
            have pb : BAt WM ha H := by
              obtain ⟨pa, pc, pe, _, pb⟩ := NEW.out.hd.at
              rw [HH.out] at pe pb
              injection pe with pe1 _ _
              all_goals first | (subst pe1; exact pb) | exact pb
            have KF := Hid.mk' (l5Feed_any ha hc H y WM pb HY.out hcap (by omega) (by omega))
            obtain ⟨n0, n1, n2, n3, n4, n5⟩ := cells5 NEW.out.box
            clear hc9 hyy y0 pb
            generalize feedX H y = R at *
            go_wp2_with (first | go_big_skip | fail)
            refine KF.out.mono ?_
            intro e w5 hx
            obtain ⟨v1, u1, us1, rfl, t1, hA, o1, b1⟩ := hx.toks
            obtain ⟨a1, c1_, rfl, s1⟩ := own_src t1.row
            obtain ⟨ua, uc, rfl, -⟩ := own_src o1
            have BX := Hid.mk' (rowB NEW.out.box b1)
            obtain ⟨p0, p1, p2_, p3, p4, p5⟩ := cells5 BX.out
            have OV := Hid.mk' (own_keep NEW.out.tr b1)
            rw [HT.out] at OV
            have S1 := Hid.mk' s1
            have LN := Hid.mk' (tcs_len R.1 us1 t1.len)
            have P1 := Hid.mk' (tcs_one R.1 us1 t1.one)
            have HA := Hid.mk' (hA none (fun k hk => by cases hk))
            have O1 := Hid.mk' o1
            have B2 := Hid.mk' b1
            have T1 := Hid.mk' t1
            have SZ : Hid (w.heap.size + 1 ≤ w5.heap.size) := Hid.mk' (by have := NEW.out.gl; have := NEW.out.box.lt; have := b1.size; omega)
            have GT : Hid (some g ≠ (Value.slice ta T.length tc).ownBlock) := Hid.mk' (fun e => NEW.out.gt e.symm)
            clear hx t1 hA o1 b1 s1 KF n0 n1 n2 n3 n4 n5 hcell
            go_wp2_with (first | (at_builtin; refine wpList_append_at _ rfl (.tmp 51) (.tmp 52) 23 rfl (w.heap.size + 1) 101 (.agg #[.int .i64 0, .int .i64 0, .string ⟨#[]⟩, .slice none 0 0, .bool false]) 5 64 Tryz.underlying23 Tryz.infoTok rfl (by decide) _ _ _ rfl OV.out _ R.1.length _ (tcs R.1 us1) rfl LN.out S1.out P1.out (by unfold maxLen; omega) (by omega) SZ.out ?_; intro tv' w6 ho hg hat; obtain ⟨a6, c6, rfl, _⟩ := own_src ho; have RB6 := BX.out.of_block (hg.block g BX.out.lt GT.out); obtain ⟨k0, k1, k2, k3, k4, k5⟩ := cells5 RB6; have fk2 := RB6.frozen 2; clear RB6) | fail)
            have NEW2 := Hid.mk' (NEW.out.feed (R := R) (hv' := .slice ua R.2.length uc) (by rw [ES.out, HT.out]) B2.out T1.out.len T1.out.one HA.out O1.out (by rw [HT.out]; exact ho) hg hat)
            clear ho hg hat
            go_roundw
            case rel => exact ⟨k + 1, _, _, _, _, by omega, by go_num, by rw [e9.out]; exact NEW2.out⟩
            case measure => first | (simp [intOf]; omega) | simp [intOf]
          · have ck : ¬ (k : Int) < (d.length : Int) := by omega
            go_wp2
            go_roundw
            case rel => exact ⟨k + 1, _, _, _, _, by omega, by go_num, by rw [e9.out]; exact NEW.out.over (by omega)⟩
            case measure => first | (simp [intOf]; omega) | simp [intOf]

        · go_simp
          refine (l1Copy_own ha hc H _ (HBT.out.below (Below.refl _ _).drew) (by omega)).mono ?_
          rintro e w2 ⟨v, rfl, ov, hb2⟩
          replace hb2 := undrew hb2
          obtain ⟨va, vc, rfl, -⟩ := own_src ov
          refine hK.out _ _ ((hb2.cell (p := ⟨g, 2, none⟩) gl).trans c2) (fun hHeld => ?_)
          clear hK K
          try simp only [Act.put, zA, zB, zC]
          refine wpAnyH_take (i := 8) (oi := ⟨_, _, _, _, _, _⟩) (v := ?_) rfl (by kernel_rfl) (by kernel_rfl) (by kernel_rfl) (fun _ _ _ h => h) (Or.inl ⟨by rfl, ?_⟩) (by assumption) ?_
          rotate_left
          · (intro w hSw; (try dsimp only at hSw); go_simp; (try with_reducible rfl))
          try simp only [Act.put, zA, zB, zC]
          have c4' := (hb2.cell (p := ⟨g, 4, none⟩) gl).trans c4
          refine wpAnyH_ready (rs := [1, 9]) (by kernel_rfl) (by simp) ?_
          refine AllReadyH.cons (o := ⟨_, _, _, _, _, _⟩) rfl (fun K hK => ?_) (AllReadyH.cons (o := ⟨_, _, _, _, _, _⟩) rfl (fun K hK => ?_) AllReadyH.nil)
          · go_simp
            refine hK.out _ _ (by assumption) (fun hHeld => ?_)
            clear hK K c4' 
            try simp only [Act.put, zA, zB, zC]
            refine wpAnyH_ready (rs := [9]) (by kernel_rfl) (by simp) ?_
            refine AllReadyH.cons (o := ⟨_, _, _, _, _, _⟩) rfl (fun K hK => ?_) AllReadyH.nil
            go_simp
            have N3 := below_new w2 (.cells #[.int .i64 (k : Int), .int .i64 (T.length : Int), .slice va H.length vc] 57)
            have B3 := hb2.trans (N3.mono hb2.size)
            refine hK.out _ _ ((B3.cell (p := ⟨g, 2, none⟩) gl).trans c2) (fun hHeld => ?_)
            clear hK K
            try simp only [Act.put, zA, zB, zC]
            have OWC := Hid.mk' (HMS.out.keep B3).cr
            obtain ⟨q0, q1, q2_, q3⟩ := cells3 (row3 w2 57 (.int .i64 (k : Int)) (.int .i64 (T.length : Int)) (.slice va H.length vc))
            have BV : Hid (BT (XB w.heap.size g (.slice ta T.length tc) (.slice ca C cc)) (w2.alloc (.cells #[.int .i64 (k : Int), .int .i64 (T.length : Int), .slice va H.length vc] 57)) (.slice va H.length vc) H) := Hid.mk' (BT.of_own (own_keep ov N3) (fun q eq hx => by
              have h1 := (ov.lt q eq).1
              have h2 := OLD.out q hx
              exact absurd h1 (Nat.not_le_of_lt h2)))
            have HB3 := Hid.mk' B3
            have hbs : Hid (w.heap.size + 1 ≤ (w2.alloc (.cells #[.int .i64 (k : Int), .int .i64 (T.length : Int), .slice va H.length vc] 57)).heap.size) := Hid.mk' (by have := HMS.out.gl; have := HMS.out.box.lt; have := B3.size; omega)
            clear N3 B3
            generalize hW3 : w2.alloc (.cells #[.int .i64 (k : Int), .int .i64 (T.length : Int), .slice va H.length vc] 57) = W3 at *
            refine wpAnyH_ready (rs := [10]) (by kernel_rfl) (by simp) ?_
            refine AllReadyH.cons (o := ⟨_, _, _, _, _, _⟩) rfl (fun K hK => ?_) AllReadyH.nil
            refine step_append_at rfl (.tmp 26) (.tmp 34) 24 rfl (w.heap.size + 1) 57 (.agg #[.int .i64 0, .int .i64 0, .slice none 0 0]) 3 40 Tryz.underlying24 infoCheck rfl (by decide) _ _ _ rfl OWC.out _ 1 1 [.int .i64 (k : Int), .int .i64 (T.length : Int), .slice va H.length vc] rfl rfl (.inr ⟨⟨w2.heap.size, 0, none⟩, rfl, fun j u hu => by
              have hj : j = 0 ∨ j = 1 ∨ j = 2 := by
                have := (List.getElem?_eq_some_iff.1 hu).1
                simp at this; omega
              rcases hj with rfl | rfl | rfl
              · cases hu; exact q0
              · cases hu; exact q1
              · cases hu; exact q2_⟩) (fun u hu => by
              simp only [List.mem_cons, List.mem_nil_iff, or_false] at hu
              rcases hu with rfl | rfl | rfl <;> rfl) (by unfold maxLen; omega) (by omega) hbs.out ?_
            intro cv' w4 ho hg hat
            obtain ⟨ca', cc', rfl, -⟩ := own_src ho
            have NEW := Hid.mk' (HMS.out.check (v := .slice va H.length vc) HB3.out (by rw [HHN.out]; exact BV.out) (by rw [HCS.out, HTN.out]; exact ho) hg hat)
            have RB := rowB HMS.out.box HB3.out
            have RB2 := RB.of_block (hg.block g RB.lt (fun e => HMS.out.gc e.symm))
            obtain ⟨m0, m1, m2, m3, m4, m5⟩ := cells5 RB2
            have fm4 := RB2.frozen 4
            refine hK.out _ _ m2 (fun hHeld => ?_)
            clear hK K ho hat RB
            try simp only [Act.put, zA, zB, zC]
            refine wpAnyH_take (i := 11) (oi := ⟨_, _, _, _, _, _⟩) (v := ?_) rfl (by kernel_rfl) (by kernel_rfl) (by kernel_rfl) (fun _ _ _ h => h) (Or.inl ⟨by rfl, ?_⟩) (by assumption) ?_
            rotate_left
            · (intro w hSw; (try dsimp only at hSw); go_simp; (try with_reducible rfl))
            try simp only [Act.put, zA, zB, zC]
            refine wpAnyH_ready (rs := [12]) (by kernel_rfl) (by simp) ?_
            refine AllReadyH.cons (o := ⟨_, _, _, _, _, _⟩) rfl (fun K hK => ?_) AllReadyH.nil
            go_simp
            refine hK.out _ _ (by rw [World.cell?_setCell_other _ _ _ _ (by simp)]; exact m2) (fun hHeld => ?_)
            clear hK K
            try simp only [Act.put, zA, zB, zC]
            refine wpAnyH_done (by kernel_rfl) ?_ _
            clear hHeld m0 m1 m2 m3 m4 m5 fm4 RB2 hg q0 q1 q2_ q3 hW3 OWC hbs HB3 BV ov hb2
            have e9 : Hid ((k + 1 + s - 1) / s = C + 1) := Hid.mk' (by have := (cnt_div hs H0.out).2; rw [HC.out] at this; exact this)
            generalize hWM : w4.setCell ⟨g, 4, none⟩ (.slice ca' (C + 1) cc') = WM at *
            clear hWM
            by_cases klt : k < d.length
            · have ck : (k : Int) < (d.length : Int) := by omega
              rcases HD.out.below NEW.out.bel with hd0 | ⟨b9, o9, rfl, hbs9, hc9⟩
              · exact absurd klt (by rw [hd0]; exact Nat.not_lt_zero _)
              obtain ⟨y0, y1⟩ := HU.out k klt
              obtain ⟨y, hyy⟩ : ∃ y : Nat, d.getD k 0 = (y : Int) := ⟨(d.getD k 0).toNat, by omega⟩
              rw [hyy] at y1
              have hcell : WM.cell? ⟨b9, o9 + k, none⟩ = some (.int .u8 y) := by rw [← hyy]; exact hc9 k klt
              have ES : Hid (allX [] [] (d.take (k + 1)) = (T ++ (feedX H y).1, (feedX H y).2)) := Hid.mk' (by
                rw [take_snoc_int klt, allX_append, hyy, HT.out, HH.out]
                simp [allX])
              have fl := feedX_len H y
              have pb : BAt WM ha H := by
                obtain ⟨pa, pc, pe, _, pb⟩ := NEW.out.hd.at
                rw [HH.out] at pe pb
                injection pe with pe1 _ _
                all_goals first | (subst pe1; exact pb) | exact pb
              have KF := Hid.mk' (l5Feed_any ha hc H y WM pb HY.out hcap (by omega) (by omega))
              obtain ⟨n0, n1, n2, n3, n4, n5⟩ := cells5 NEW.out.box
              clear hc9 hyy y0 pb
              generalize feedX H y = R at *
              go_wp2_with (first | go_big_skip | fail)
              refine KF.out.mono ?_
              intro e w5 hx
              obtain ⟨v1, u1, us1, rfl, t1, hA, o1, b1⟩ := hx.toks
              obtain ⟨a1, c1_, rfl, s1⟩ := own_src t1.row
              obtain ⟨ua, uc, rfl, -⟩ := own_src o1
              have BX := Hid.mk' (rowB NEW.out.box b1)
              obtain ⟨p0, p1, p2_, p3, p4, p5⟩ := cells5 BX.out
              have OV := Hid.mk' (own_keep NEW.out.tr b1)
              rw [HT.out] at OV
              have S1 := Hid.mk' s1
              have LN := Hid.mk' (tcs_len R.1 us1 t1.len)
              have P1 := Hid.mk' (tcs_one R.1 us1 t1.one)
              have HA := Hid.mk' (hA none (fun k hk => by cases hk))
              have O1 := Hid.mk' o1
              have B2 := Hid.mk' b1
              have T1 := Hid.mk' t1
              have SZ : Hid (w.heap.size + 1 ≤ w5.heap.size) := Hid.mk' (by have := NEW.out.gl; have := NEW.out.box.lt; have := b1.size; omega)
              have GT : Hid (some g ≠ (Value.slice ta T.length tc).ownBlock) := Hid.mk' (fun e => NEW.out.gt e.symm)
              clear hx t1 hA o1 b1 s1 KF n0 n1 n2 n3 n4 n5 hcell
              go_wp2_with (first | (at_builtin; refine wpList_append_at _ rfl (.tmp 51) (.tmp 52) 23 rfl (w.heap.size + 1) 101 (.agg #[.int .i64 0, .int .i64 0, .string ⟨#[]⟩, .slice none 0 0, .bool false]) 5 64 Tryz.underlying23 Tryz.infoTok rfl (by decide) _ _ _ rfl OV.out _ R.1.length _ (tcs R.1 us1) rfl LN.out S1.out P1.out (by unfold maxLen; omega) (by omega) SZ.out ?_; intro tv' w6 ho hg hat; obtain ⟨a6, c6, rfl, _⟩ := own_src ho; have RB6 := BX.out.of_block (hg.block g BX.out.lt GT.out); obtain ⟨k0, k1, k2, k3, k4, k5⟩ := cells5 RB6; have fk2 := RB6.frozen 2; clear RB6) | fail)
              have NEW2 := Hid.mk' (NEW.out.feed (R := R) (hv' := .slice ua R.2.length uc) (by rw [ES.out, HT.out]) B2.out T1.out.len T1.out.one HA.out O1.out (by rw [HT.out]; exact ho) hg hat)
              clear ho hg hat
              go_roundw
              case rel => exact ⟨k + 1, _, _, _, _, by omega, by go_num, by rw [e9.out]; exact NEW2.out⟩
              case measure => first | (simp [intOf]; omega) | simp [intOf]
            · have ck : ¬ (k : Int) < (d.length : Int) := by omega
              go_wp2
              go_roundw
              case rel => exact ⟨k + 1, _, _, _, _, by omega, by go_num, by rw [e9.out]; exact NEW.out.over (by omega)⟩
              case measure => first | (simp [intOf]; omega) | simp [intOf]

          · go_simp
            have N3 := below_new w2 (.cells #[.int .i64 (k : Int), .int .i64 (T.length : Int), .slice va H.length vc] 57)
            have B3 := hb2.trans (N3.mono hb2.size)
            refine hK.out _ _ ((B3.cell (p := ⟨g, 2, none⟩) gl).trans c2) (fun hHeld => ?_)
            clear hK K
            try simp only [Act.put, zA, zB, zC]
            have OWC := Hid.mk' (HMS.out.keep B3).cr
            obtain ⟨q0, q1, q2_, q3⟩ := cells3 (row3 w2 57 (.int .i64 (k : Int)) (.int .i64 (T.length : Int)) (.slice va H.length vc))
            have BV : Hid (BT (XB w.heap.size g (.slice ta T.length tc) (.slice ca C cc)) (w2.alloc (.cells #[.int .i64 (k : Int), .int .i64 (T.length : Int), .slice va H.length vc] 57)) (.slice va H.length vc) H) := Hid.mk' (BT.of_own (own_keep ov N3) (fun q eq hx => by
              have h1 := (ov.lt q eq).1
              have h2 := OLD.out q hx
              exact absurd h1 (Nat.not_le_of_lt h2)))
            have HB3 := Hid.mk' B3
            have hbs : Hid (w.heap.size + 1 ≤ (w2.alloc (.cells #[.int .i64 (k : Int), .int .i64 (T.length : Int), .slice va H.length vc] 57)).heap.size) := Hid.mk' (by have := HMS.out.gl; have := HMS.out.box.lt; have := B3.size; omega)
            clear N3 B3
            generalize hW3 : w2.alloc (.cells #[.int .i64 (k : Int), .int .i64 (T.length : Int), .slice va H.length vc] 57) = W3 at *
            have c5' := (HB3.out.cell (p := ⟨g, 4, none⟩) gl).trans c4
            clear c4'
            refine wpAnyH_ready (rs := [1]) (by kernel_rfl) (by simp) ?_
            refine AllReadyH.cons (o := ⟨_, _, _, _, _, _⟩) rfl (fun K hK => ?_) AllReadyH.nil
            go_simp
            refine hK.out _ _ (by assumption) (fun hHeld => ?_)
            clear hK K
            try simp only [Act.put, zA, zB, zC]
            clear c5'
            refine wpAnyH_ready (rs := [10]) (by kernel_rfl) (by simp) ?_
            refine AllReadyH.cons (o := ⟨_, _, _, _, _, _⟩) rfl (fun K hK => ?_) AllReadyH.nil
            refine step_append_at rfl (.tmp 26) (.tmp 34) 24 rfl (w.heap.size + 1) 57 (.agg #[.int .i64 0, .int .i64 0, .slice none 0 0]) 3 40 Tryz.underlying24 infoCheck rfl (by decide) _ _ _ rfl OWC.out _ 1 1 [.int .i64 (k : Int), .int .i64 (T.length : Int), .slice va H.length vc] rfl rfl (.inr ⟨⟨w2.heap.size, 0, none⟩, rfl, fun j u hu => by
              have hj : j = 0 ∨ j = 1 ∨ j = 2 := by
                have := (List.getElem?_eq_some_iff.1 hu).1
                simp at this; omega
              rcases hj with rfl | rfl | rfl
              · cases hu; exact q0
              · cases hu; exact q1
              · cases hu; exact q2_⟩) (fun u hu => by
              simp only [List.mem_cons, List.mem_nil_iff, or_false] at hu
              rcases hu with rfl | rfl | rfl <;> rfl) (by unfold maxLen; omega) (by omega) hbs.out ?_
            intro cv' w4 ho hg hat
            obtain ⟨ca', cc', rfl, -⟩ := own_src ho
            have NEW := Hid.mk' (HMS.out.check (v := .slice va H.length vc) HB3.out (by rw [HHN.out]; exact BV.out) (by rw [HCS.out, HTN.out]; exact ho) hg hat)
            have RB := rowB HMS.out.box HB3.out
            have RB2 := RB.of_block (hg.block g RB.lt (fun e => HMS.out.gc e.symm))
            obtain ⟨m0, m1, m2, m3, m4, m5⟩ := cells5 RB2
            have fm4 := RB2.frozen 4
            refine hK.out _ _ m2 (fun hHeld => ?_)
            clear hK K ho hat RB
            try simp only [Act.put, zA, zB, zC]
            refine wpAnyH_take (i := 11) (oi := ⟨_, _, _, _, _, _⟩) (v := ?_) rfl (by kernel_rfl) (by kernel_rfl) (by kernel_rfl) (fun _ _ _ h => h) (Or.inl ⟨by rfl, ?_⟩) (by assumption) ?_
            rotate_left
            · (intro w hSw; (try dsimp only at hSw); go_simp; (try with_reducible rfl))
            try simp only [Act.put, zA, zB, zC]
            refine wpAnyH_ready (rs := [12]) (by kernel_rfl) (by simp) ?_
            refine AllReadyH.cons (o := ⟨_, _, _, _, _, _⟩) rfl (fun K hK => ?_) AllReadyH.nil
            go_simp
            refine hK.out _ _ (by rw [World.cell?_setCell_other _ _ _ _ (by simp)]; exact m2) (fun hHeld => ?_)
            clear hK K
            try simp only [Act.put, zA, zB, zC]
            refine wpAnyH_done (by kernel_rfl) ?_ _
            clear hHeld m0 m1 m2 m3 m4 m5 fm4 RB2 hg q0 q1 q2_ q3 hW3 OWC hbs HB3 BV ov hb2
            have e9 : Hid ((k + 1 + s - 1) / s = C + 1) := Hid.mk' (by have := (cnt_div hs H0.out).2; rw [HC.out] at this; exact this)
            generalize hWM : w4.setCell ⟨g, 4, none⟩ (.slice ca' (C + 1) cc') = WM at *
            clear hWM
            by_cases klt : k < d.length
            · have ck : (k : Int) < (d.length : Int) := by omega
              rcases HD.out.below NEW.out.bel with hd0 | ⟨b9, o9, rfl, hbs9, hc9⟩
              · exact absurd klt (by rw [hd0]; exact Nat.not_lt_zero _)
              obtain ⟨y0, y1⟩ := HU.out k klt
              obtain ⟨y, hyy⟩ : ∃ y : Nat, d.getD k 0 = (y : Int) := ⟨(d.getD k 0).toNat, by omega⟩
              rw [hyy] at y1
              have hcell : WM.cell? ⟨b9, o9 + k, none⟩ = some (.int .u8 y) := by rw [← hyy]; exact hc9 k klt
              have ES : Hid (allX [] [] (d.take (k + 1)) = (T ++ (feedX H y).1, (feedX H y).2)) := Hid.mk' (by
                rw [take_snoc_int klt, allX_append, hyy, HT.out, HH.out]
                simp [allX])
              have fl := feedX_len H y
              have pb : BAt WM ha H := by
                obtain ⟨pa, pc, pe, _, pb⟩ := NEW.out.hd.at
                rw [HH.out] at pe pb
                injection pe with pe1 _ _
                all_goals first | (subst pe1; exact pb) | exact pb
              have KF := Hid.mk' (l5Feed_any ha hc H y WM pb HY.out hcap (by omega) (by omega))
              obtain ⟨n0, n1, n2, n3, n4, n5⟩ := cells5 NEW.out.box
              clear hc9 hyy y0 pb
              generalize feedX H y = R at *
              go_wp2_with (first | go_big_skip | fail)
              refine KF.out.mono ?_
              intro e w5 hx
              obtain ⟨v1, u1, us1, rfl, t1, hA, o1, b1⟩ := hx.toks
              obtain ⟨a1, c1_, rfl, s1⟩ := own_src t1.row
              obtain ⟨ua, uc, rfl, -⟩ := own_src o1
              have BX := Hid.mk' (rowB NEW.out.box b1)
              obtain ⟨p0, p1, p2_, p3, p4, p5⟩ := cells5 BX.out
              have OV := Hid.mk' (own_keep NEW.out.tr b1)
              rw [HT.out] at OV
              have S1 := Hid.mk' s1
              have LN := Hid.mk' (tcs_len R.1 us1 t1.len)
              have P1 := Hid.mk' (tcs_one R.1 us1 t1.one)
              have HA := Hid.mk' (hA none (fun k hk => by cases hk))
              have O1 := Hid.mk' o1
              have B2 := Hid.mk' b1
              have T1 := Hid.mk' t1
              have SZ : Hid (w.heap.size + 1 ≤ w5.heap.size) := Hid.mk' (by have := NEW.out.gl; have := NEW.out.box.lt; have := b1.size; omega)
              have GT : Hid (some g ≠ (Value.slice ta T.length tc).ownBlock) := Hid.mk' (fun e => NEW.out.gt e.symm)
              clear hx t1 hA o1 b1 s1 KF n0 n1 n2 n3 n4 n5 hcell
              go_wp2_with (first | (at_builtin; refine wpList_append_at _ rfl (.tmp 51) (.tmp 52) 23 rfl (w.heap.size + 1) 101 (.agg #[.int .i64 0, .int .i64 0, .string ⟨#[]⟩, .slice none 0 0, .bool false]) 5 64 Tryz.underlying23 Tryz.infoTok rfl (by decide) _ _ _ rfl OV.out _ R.1.length _ (tcs R.1 us1) rfl LN.out S1.out P1.out (by unfold maxLen; omega) (by omega) SZ.out ?_; intro tv' w6 ho hg hat; obtain ⟨a6, c6, rfl, _⟩ := own_src ho; have RB6 := BX.out.of_block (hg.block g BX.out.lt GT.out); obtain ⟨k0, k1, k2, k3, k4, k5⟩ := cells5 RB6; have fk2 := RB6.frozen 2; clear RB6) | fail)
              have NEW2 := Hid.mk' (NEW.out.feed (R := R) (hv' := .slice ua R.2.length uc) (by rw [ES.out, HT.out]) B2.out T1.out.len T1.out.one HA.out O1.out (by rw [HT.out]; exact ho) hg hat)
              clear ho hg hat
              go_roundw
              case rel => exact ⟨k + 1, _, _, _, _, by omega, by go_num, by rw [e9.out]; exact NEW2.out⟩
              case measure => first | (simp [intOf]; omega) | simp [intOf]
            · have ck : ¬ (k : Int) < (d.length : Int) := by omega
              go_wp2
              go_roundw
              case rel => exact ⟨k + 1, _, _, _, _, by omega, by go_num, by rw [e9.out]; exact NEW.out.over (by omega)⟩
              case measure => first | (simp [intOf]; omega) | simp [intOf]

      · have e0 : ((r : Int) == 0) = false := beq_eq_false_iff_ne.2 (by omega)
        have e9 : Hid ((k + 1 + s - 1) / s = C) := Hid.mk' (by have := cnt_not hs (by rw [HR1.out]; exact h0); rw [this]; exact HC.out)
        have NEW := HMS
        have h0' : ¬ (r : Int) = 0 := by omega
        by_cases klt : k < d.length
        · have ck : (k : Int) < (d.length : Int) := by omega
          rcases HD.out.below NEW.out.bel with hd0 | ⟨b9, o9, rfl, hbs9, hc9⟩
          · exact absurd klt (by rw [hd0]; exact Nat.not_lt_zero _)
          obtain ⟨y0, y1⟩ := HU.out k klt
          obtain ⟨y, hyy⟩ : ∃ y : Nat, d.getD k 0 = (y : Int) := ⟨(d.getD k 0).toNat, by omega⟩
          rw [hyy] at y1
          have hcell : wr.cell? ⟨b9, o9 + k, none⟩ = some (.int .u8 y) := by rw [← hyy]; exact hc9 k klt
          have ES : Hid (allX [] [] (d.take (k + 1)) = (T ++ (feedX H y).1, (feedX H y).2)) := Hid.mk' (by
            rw [take_snoc_int klt, allX_append, hyy, HT.out, HH.out]
            simp [allX])
          have fl := feedX_len H y
          have pb : BAt wr ha H := by
            obtain ⟨pa, pc, pe, _, pb⟩ := NEW.out.hd.at
            rw [HH.out] at pe pb
            injection pe with pe1 _ _
            all_goals first | (subst pe1; exact pb) | exact pb
          have KF := Hid.mk' (l5Feed_any ha hc H y wr pb HY.out hcap (by omega) (by omega))
          obtain ⟨n0, n1, n2, n3, n4, n5⟩ := cells5 NEW.out.box
          clear hc9 hyy y0 pb
          generalize feedX H y = R at *
          go_wp2_with (first | go_big_skip | fail)
          refine KF.out.mono ?_
          intro e w5 hx
          obtain ⟨v1, u1, us1, rfl, t1, hA, o1, b1⟩ := hx.toks
          obtain ⟨a1, c1_, rfl, s1⟩ := own_src t1.row
          obtain ⟨ua, uc, rfl, -⟩ := own_src o1
          have BX := Hid.mk' (rowB NEW.out.box b1)
          obtain ⟨p0, p1, p2_, p3, p4, p5⟩ := cells5 BX.out
          have OV := Hid.mk' (own_keep NEW.out.tr b1)
          rw [HT.out] at OV
          have S1 := Hid.mk' s1
          have LN := Hid.mk' (tcs_len R.1 us1 t1.len)
          have P1 := Hid.mk' (tcs_one R.1 us1 t1.one)
          have HA := Hid.mk' (hA none (fun k hk => by cases hk))
          have O1 := Hid.mk' o1
          have B2 := Hid.mk' b1
          have T1 := Hid.mk' t1
          have SZ : Hid (w.heap.size + 1 ≤ w5.heap.size) := Hid.mk' (by have := NEW.out.gl; have := NEW.out.box.lt; have := b1.size; omega)
          have GT : Hid (some g ≠ (Value.slice ta T.length tc).ownBlock) := Hid.mk' (fun e => NEW.out.gt e.symm)
          clear hx t1 hA o1 b1 s1 KF n0 n1 n2 n3 n4 n5 hcell
          go_wp2_with (first | (at_builtin; refine wpList_append_at _ rfl (.tmp 51) (.tmp 52) 23 rfl (w.heap.size + 1) 101 (.agg #[.int .i64 0, .int .i64 0, .string ⟨#[]⟩, .slice none 0 0, .bool false]) 5 64 Tryz.underlying23 Tryz.infoTok rfl (by decide) _ _ _ rfl OV.out _ R.1.length _ (tcs R.1 us1) rfl LN.out S1.out P1.out (by unfold maxLen; omega) (by omega) SZ.out ?_; intro tv' w6 ho hg hat; obtain ⟨a6, c6, rfl, _⟩ := own_src ho; have RB6 := BX.out.of_block (hg.block g BX.out.lt GT.out); obtain ⟨k0, k1, k2, k3, k4, k5⟩ := cells5 RB6; have fk2 := RB6.frozen 2; clear RB6) | fail)
          have NEW2 := Hid.mk' (NEW.out.feed (R := R) (hv' := .slice ua R.2.length uc) (by rw [ES.out, HT.out]) B2.out T1.out.len T1.out.one HA.out O1.out (by rw [HT.out]; exact ho) hg hat)
          clear ho hg hat
          go_roundw
          case rel => exact ⟨k + 1, _, _, _, _, by omega, by go_num, by rw [e9.out]; exact NEW2.out⟩
          case measure => first | (simp [intOf]; omega) | simp [intOf]
        · have ck : ¬ (k : Int) < (d.length : Int) := by omega
          go_wp2
          go_roundw
          case rel => exact ⟨k + 1, _, _, _, _, by omega, by go_num, by rw [e9.out]; exact NEW.out.over (by omega)⟩
          case measure => first | (simp [intOf]; omega) | simp [intOf]

    · have ci : ¬ (k : Int) ≤ (d.length : Int) := by omega
      obtain rfl : k = d.length + 1 := by omega
      rw [cnt_all d.length s hs] at hr
      have eD : d.take (d.length + 1) = d := List.take_of_length_le (by omega)
      obtain ⟨ha, hc, rfl, hcap, hbt⟩ := hr.hd.at
      obtain ⟨ta, tc, rfl, -⟩ := own_src hr.tr
      obtain ⟨ca, cc, rfl, -⟩ := own_src hr.cr
      have lH : (allX [] [] (d.take (d.length + 1))).2.length ≤ 159 := (allX_good _ _ _ (.inl rfl)).len
      have KC := Hid.mk' (l1Copy_own ha hc _ wr hbt (by omega))
      have HMS := Hid.mk' hr
      obtain ⟨c0, c1, c2, c3, c4, gl⟩ := cells5 hr.box
      have ED := Hid.mk' eD
      clear hr hbt eD
      generalize hT : (allX [] [] (d.take (d.length + 1))).1 = T at *
      generalize hH : (allX [] [] (d.take (d.length + 1))).2 = H at *
      have HT := Hid.mk' hT
      have HH := Hid.mk' hH
      generalize hJ : d.length / s + 1 = J at *
      have HJ := Hid.mk' hJ
      clear hT hH hJ
      go_wp2_with fail
      refine KC.out.mono ?_
      rintro e w2 ⟨v, rfl, ov, hb2⟩
      obtain ⟨va, vc, rfl, -⟩ := own_src ov
      have Y := HMS.out.keep hb2
      obtain ⟨c0, c1, c2, c3, c4, gl⟩ := cells5 Y.box
      obtain ⟨d0, d1, d2, d3, d4, d5⟩ := cells5 Y.r0
      have f3 := Y.box.frozen 3
      have q0 := Y.r0.frozen 0
      have q1 := Y.r0.frozen 1
      have q2_ := Y.r0.frozen 2
      have q3 := Y.r0.frozen 3
      have q4 := Y.r0.frozen 4
      have hne : w.heap.size ≠ g := by have := Y.gl; omega
      have hne2 : g ≠ w.heap.size := by have := Y.gl; omega
      have HY := Hid.mk' Y
      have OV := Hid.mk' ov
      have B2 := Hid.mk' hb2
      clear Y ov hb2 KC
      go_wp2
      refine bodyPost_ret (v := .agg #[.slice da d.length dc, .int .i64 (s : Int), .slice ta T.length tc, .slice va H.length vc, .slice ca J cc]) (by simp [results, Tryz.results27, go_sem, *]) rfl ?_
      have K1 := (KeptIn.refl g (g + 1) w2).setCell (p := ⟨g, 3, none⟩) (by simp) (by simp) (.slice va H.length vc)
      generalize hU : w2.setCell ⟨g, 3, none⟩ (.slice va H.length vc) = U at *
      have K2 := ((((KeptIn.refl w.heap.size (w.heap.size + 1) U).setCell (p := ⟨w.heap.size, 0, none⟩) (by simp) (by simp) (.slice da d.length dc)).setCell (p := ⟨w.heap.size, 1, none⟩) (by simp) (by simp) (.int .i64 (s : Int))).setCell (p := ⟨w.heap.size, 2, none⟩) (by simp) (by simp) (.slice ta T.length tc)).setCell (p := ⟨w.heap.size, 3, none⟩) (by simp) (by simp) (.slice va H.length vc) |>.setCell (p := ⟨w.heap.size, 4, none⟩) (by simp) (by simp) (.slice ca J cc)
      generalize hV : ((((U.setCell ⟨w.heap.size, 0, none⟩ (.slice da d.length dc)).setCell ⟨w.heap.size, 1, none⟩ (.int .i64 (s : Int))).setCell ⟨w.heap.size, 2, none⟩ (.slice ta T.length tc)).setCell ⟨w.heap.size, 3, none⟩ (.slice va H.length vc)).setCell ⟨w.heap.size, 4, none⟩ (.slice ca J cc) = V at *
      have y := HY.out
      have sz1 := K1.size
      have sz2 := K2.size
      have szV : w2.heap.size ≤ V.heap.size := Nat.le_trans sz1 sz2
      have kV : ∀ q, q < w2.heap.size → q ≠ g → q ≠ w.heap.size → V.heap[q]? = w2.heap[q]? := fun q h1 h2 h3 => (K2.block q (by omega) (by omega)).trans (K1.block q h1 (by omega))
      have BV : Below w.heap.size w V := y.bel.trans ⟨K2.os.trans K1.os, K2.tape.trans K1.tape, K2.output.trans K1.output, szV, fun q hq => kV q (by have := y.bel.size; omega) (by have := y.gl; omega) (by omega)⟩
      have eT : T = (allX [] [] d).1 := by rw [← HT.out, ED.out]
      have eH : H = (allX [] [] d).2 := by rw [← HH.out, ED.out]
      unfold LnP
      rw [HJ.out, ← eT, ← eH]
      refine ⟨da, ta, va, ca, dc, tc, vc, cc, rfl, fun z hz hzk => ?_, BV⟩
      have kb : ∀ q, w.heap.size < q → q < w2.heap.size → q ≠ g → z.heap[q]? = w2.heap[q]? := fun q h0 h1 h2 => (hzk q h0 (by omega)).trans (kV q h1 h2 (by omega))
      have kX : ∀ q, q < w2.heap.size → ¬ XB w.heap.size g (.slice ta T.length tc) (.slice ca J cc) q → z.heap[q]? = w2.heap[q]? := fun q h1 h2 => kb q (Nat.lt_of_not_le (fun e => h2 (.inl e))) h1 (fun e => h2 (.inr (.inl e)))
      have szz : w2.heap.size ≤ z.heap.size := Nat.le_trans szV hz
      have bd := (y.dt.step (X' := XB w.heap.size g (.slice ta T.length tc) (.slice ca J cc)) kX szz (fun _ h => .inl h)).at
      have ttr : z.ownsRow (w.heap.size + 1) 101 5 (.slice ta T.length tc) T.length (tcs T us) := by
        have r := y.tr
        rw [HT.out] at r
        exact own_of r (Nat.le_refl _) (fun q eq hq => kb q (by omega) (r.lt q eq).2 (fun e => y.gt (e ▸ eq)))
      have tts := (y.tc.step (X' := XB w.heap.size g (.slice ta T.length tc) (.slice ca J cc)) kX szz (fun _ h => .inl h))
      rw [HT.out] at tts
      have ul := y.ul
      rw [HT.out] at ul
      have tsr := tts.ts ul ttr
      have ovr : z.ownsRow wr.heap.size 5 1 (.slice va H.length vc) H.length (bcs H) := own_of OV.out (Nat.le_refl _) (fun q eq hq => kb q (by have := HMS.out.r0.lt; omega) (OV.out.lt q eq).2 (by have := HMS.out.box.lt; omega))
      have bh := own_bat ovr
      have ccr : z.ownsRow (w.heap.size + 1) 57 3 (.slice ca J cc) J (cvs d s J hvs) := own_of y.cr (Nat.le_refl _) (fun q eq hq => kb q (by omega) (y.cr.lt q eq).2 (fun e => y.gc (e ▸ eq)))
      have ccs := checks_at ccr (fun i hi => ((y.hc i hi).step (X' := XB w.heap.size g (.slice ta T.length tc) (.slice ca J cc)) kX szz (fun _ h => .inl h)).at)
      refine ⟨?_, ?_, ?_, ?_⟩
      · obtain ⟨p, c, e, _, b⟩ := bd
        injection e with e1 _ _
        rw [e1]; exact b
      · obtain ⟨p, c, e, b⟩ := tsr
        injection e with e1 _ _
        rw [e1]
        show TsAt z p (allX [] [] d).1
        rw [← eT]; exact b
      · obtain ⟨p, c, e, b⟩ := bh
        injection e with e1 _ _
        rw [e1]
        show BAt z p (allX [] [] d).2
        rw [← eH]; exact b
      · obtain ⟨p, c, e, b⟩ := ccs
        injection e with e1 _ _
        rw [e1]
        show CsAt z p (cksN d s (d.length / s + 1))
        rw [HJ.out]; exact b

end Go.Proofs.YtdloogkjnjklcaaGreatDoor

namespace Go.Proofs.YtdloogkjnjklcaaGreatDoor
open Go.RowKit

theorem csz_mul (b : Nat) : ∀ (l : List CK), (∀ x ∈ l, x.hd.length ≤ b) → csz l ≤ l.length * b
  | [], _ => by simp [csz]
  | x :: l, h => by
    have h1 := csz_mul b l (fun y hy => h y (List.mem_cons_of_mem _ hy))
    have h2 := h x (List.mem_cons_self ..)
    simp only [csz, List.length_cons, Nat.add_mul]
    omega

theorem mem_small (d : List Int) (s : Nat) (hl : d.length ≤ 240) : msz (memX d s) ≤ 100000 := by
  have h1 := all_fits d [] []
  have h2 : csz (cksN d s (d.length / s + 1)) ≤ (cksN d s (d.length / s + 1)).length * 240 := csz_mul 240 _ (fun x hx => by
    unfold cksN at hx
    obtain ⟨j, _, rfl⟩ := List.mem_map.1 hx
    have h3 := all_fits (d.take (j * s)) [] []
    have h4 : (d.take (j * s)).length ≤ 240 := by rw [List.length_take]; omega
    simp only [wei, tssz, List.length_nil] at h3
    show (allX [] [] (d.take (j * s))).2.length ≤ 240
    omega)
  have h5 : d.length / s ≤ d.length := Nat.div_le_self _ _
  rw [cksN_len] at h2
  have h6 : (d.length / s + 1) * 240 ≤ 241 * 240 := Nat.mul_le_mul_right _ (by omega)
  simp only [wei, tssz, List.length_nil] at h1
  unfold msz memX
  dsimp only
  rw [cksN_len]
  omega

def askC (d : List Int) (st : Int) : Int := if 240 < d.length then 6 else if st < 1 ∨ 60 < st then 3 else 0

theorem askC_ok {d : List Int} {st : Int} (h : askC d st = 0) : d.length ≤ 240 ∧ ∃ s : Nat, st = (s : Int) ∧ 1 ≤ s ∧ s ≤ 60 := by
  unfold askC at h
  by_cases h1 : 240 < d.length
  · rw [if_pos h1] at h; cases h
  · rw [if_neg h1] at h
    by_cases h2 : st < 1 ∨ 60 < st
    · rw [if_pos h2] at h; cases h
    · exact ⟨by omega, st.toNat, by omega, by omega, by omega⟩

set_option maxHeartbeats 1600000 in
theorem l12Asked_any (a : Option Addr) (c : Nat) (d : List Int) (st : Int) (w : World) (hl : (d.length : Int) ≤ 9223372036854775807) :
    Calls Tryz.prog 26 #[.slice a d.length c, .int .i64 st] w fun e w' => e = .returned (.int .i64 (askC d st)) ∧ w' = w := by
  by_cases h1 : 240 < d.length
  · have c1 : (240 : Int) < d.length := by omega
    have E : Hid (askC d st = 6) := Hid.mk' (by unfold askC; rw [if_pos h1])
    go_enter Tryz.func26, Tryz.ntmps26
    go_wp2
    go_ret
    exact ⟨by rw [E.out]; rfl, rfl⟩
  have c1 : ¬ (240 : Int) < d.length := by omega
  have KI := l1In_any st 1 60 w
  by_cases h2 : st < 1 ∨ 60 < st
  · have E : Hid (askC d st = 3) := Hid.mk' (by unfold askC; rw [if_neg h1, if_pos h2])
    have e1 : (decide ((1 : Int) ≤ st) && decide (st ≤ 60)) = false := by
      rcases h2 with h | h
      · rw [decide_eq_false (by omega)]; rfl
      · rw [decide_eq_false (p := st ≤ 60) (by omega)]; simp
    rw [e1] at KI
    have KI := Hid.mk' KI
    clear h2 e1
    go_enter Tryz.func26, Tryz.ntmps26
    go_wp2_with fail
    refine KI.out.mono ?_
    rintro e w1 ⟨rfl, rfl⟩
    go_wp2
    go_ret
    exact ⟨by rw [E.out]; rfl, rfl⟩
  · have E : Hid (askC d st = 0) := Hid.mk' (by unfold askC; rw [if_neg h1, if_neg h2])
    have e1 : (decide ((1 : Int) ≤ st) && decide (st ≤ 60)) = true := by
      rw [decide_eq_true (by omega), decide_eq_true (by omega)]; rfl
    rw [e1] at KI
    have KI := Hid.mk' KI
    clear h2 e1
    go_enter Tryz.func26, Tryz.ntmps26
    go_wp2_with fail
    refine KI.out.mono ?_
    rintro e w1 ⟨rfl, rfl⟩
    go_wp2
    go_ret
    exact ⟨by rw [E.out]; rfl, rfl⟩

end Go.Proofs.YtdloogkjnjklcaaGreatDoor

namespace Go.Proofs.YtdloogkjnjklcaaGreatDoor
open Go.RowKit

theorem takeM_all (d : List Int) (s : Nat) (hs : 1 ≤ s) : d.take ((d.length / s + 1) * s) = d := List.take_of_length_le (by
  have h1 := Nat.div_add_mod d.length s
  have h2 := Nat.mod_lt d.length (show 0 < s by omega)
  rw [Nat.add_mul, Nat.mul_comm (d.length / s)]; omega)

theorem NM.down {base base' : Nat} {d : List Int} {s : Nat} {gd gc : Nat} {tv : Value} {hvs : Nat → Value} {us : List Value} {rs : Nat → List Value} {bl bh : Nat → Nat} {w : World} (x : NM base d s gd gc tv hvs us rs bl bh w) (h : base' ≤ base) : NM base' d s gd gc tv hvs us rs bl bh w :=
  ⟨by obtain ⟨v, h1, h2⟩ := x.v1; exact ⟨v, h1, h2.down h⟩, x.rx.down h, x.dt, x.ck, by have := x.o1; omega, x.o2⟩

theorem askC_large {d : List Int} {st : Int} (h : 240 < d.length) : askC d st = 6 := by unfold askC; rw [if_pos h]
theorem askC_range {d : List Int} {st : Int} (h : d.length ≤ 240) (h2 : st < 1 ∨ 60 < st) : askC d st = 3 := by unfold askC; rw [if_neg (by omega), if_pos h2]
theorem askC_good {d : List Int} {s : Nat} (h : d.length ≤ 240) (h1 : 1 ≤ s) (h2 : s ≤ 60) : askC d (s : Int) = 0 := by unfold askC; rw [if_neg (by omega), if_neg (by omega)]

end Go.Proofs.YtdloogkjnjklcaaGreatDoor

namespace Go.Proofs.YtdloogkjnjklcaaGreatDoor
open Go.RowKit

def ckZ (z : Nat) (l : List CK) (k : Nat) : Nat := z + 2 * k + csz (l.take k)

def mkC (z : Nat) (l : List CK) : List CK := (List.range l.length).map (fun k => ⟨(ckZ z l k : Int), (ckZ z l k : Int) + 1, mb (ckZ z l k + 1 + 1) (ckK l k).hd.length⟩)

theorem mkC_len (z : Nat) (l : List CK) : (mkC z l).length = l.length := by simp [mkC]
theorem mkC_at (z : Nat) (l : List CK) (k : Nat) (h : k < l.length) : ckK (mkC z l) k = ⟨(ckZ z l k : Int), (ckZ z l k : Int) + 1, mb (ckZ z l k + 1 + 1) (ckK l k).hd.length⟩ := by
  show (mkC z l).getD k ⟨0, 0, []⟩ = _
  unfold mkC
  simp [h]
theorem ckZ_zero (z : Nat) (l : List CK) : ckZ z l 0 = z := by simp [ckZ, csz]
theorem ckZ_succ (z : Nat) (l : List CK) (k : Nat) (h : k < l.length) : ckZ z l (k + 1) = ckZ z l k + 1 + 1 + (ckK l k).hd.length := by
  unfold ckZ; rw [csz_take l k h]; omega
theorem ckZ_le (z : Nat) (l : List CK) (k : Nat) (h : k ≤ l.length) : ckZ z l k ≤ z + 2 * l.length + csz l := by
  have := csz_le l k
  unfold ckZ; omega
theorem ckZ_all (z : Nat) (l : List CK) : ckZ z l l.length = z + 2 * l.length + csz l := by unfold ckZ; rw [List.take_length]

def cvF (l : List CK) (hvs : Nat → Value) (i : Nat) : Value := if i % 3 = 0 then .int .i64 (ckK l (i / 3)).pl else if i % 3 = 1 then .int .i64 (ckK l (i / 3)).ct else hvs (i / 3)

def cvH (z : Nat) (l : List CK) (hvs : Nat → Value) (k i : Nat) : Value := if i / 3 < k then cvF (mkC z l) hvs i else cvF l hvs i

theorem cvF0 (l : List CK) (hvs : Nat → Value) (k : Nat) : cvF l hvs (k * 3) = .int .i64 (ckK l k).pl := by unfold cvF; rw [if_pos (by omega), show k * 3 / 3 = k by omega]
theorem cvF1 (l : List CK) (hvs : Nat → Value) (k : Nat) : cvF l hvs (k * 3 + 1) = .int .i64 (ckK l k).ct := by unfold cvF; rw [if_neg (by omega), if_pos (by omega), show (k * 3 + 1) / 3 = k by omega]
theorem cvF2 (l : List CK) (hvs : Nat → Value) (k : Nat) : cvF l hvs (k * 3 + 2) = hvs k := by unfold cvF; rw [if_neg (by omega), if_neg (by omega), show (k * 3 + 2) / 3 = k by omega]

theorem cvH_step {w : World} {g n : Nat} {T : TypeId} {z : Nat} {l : List CK} {hvs : Nat → Value} {k : Nat} (hk : k < l.length) (h : w.rowIs g T n (cvH z l hvs k)) :
    ((w.setCell ⟨g, k * 3, none⟩ (.int .i64 (ckZ z l k : Int))).setCell ⟨g, k * 3 + 1, none⟩ (.int .i64 ((ckZ z l k : Int) + 1))).rowIs g T n (cvH z l hvs (k + 1)) :=
  ((h.set (k * 3) _).set (k * 3 + 1) _).congr (fun j _ => by
    have m := mkC_at z l k hk
    by_cases e1 : j = k * 3 + 1
    · rw [if_pos e1]; subst e1; unfold cvH; rw [if_pos (by omega), cvF1, m]
    rw [if_neg e1]
    by_cases e0 : j = k * 3
    · rw [if_pos e0]; subst e0; unfold cvH; rw [if_pos (by omega), cvF0, m]
    rw [if_neg e0]
    unfold cvH
    by_cases c : j / 3 < k
    · rw [if_pos c, if_pos (by omega)]
    · rw [if_neg c]
      by_cases c2 : j / 3 < k + 1
      · rw [if_pos c2]
        have : j = k * 3 + 2 := by omega
        subst this
        rw [cvF2, cvF2]
      · rw [if_neg c2])

set_option maxRecDepth 100000 in
set_option maxHeartbeats 3200000 in
theorem markCheckS_is (g c z : Nat) (l : List CK) (hvs : Nat → Value) (w : World) (hr : w.rowIs g 57 (l.length * 3) (cvF l hvs)) (ho : ∀ k, k < l.length → OB w (hvs k) (ckK l k).hd) (hap : ∀ i k, i < l.length → k < l.length → i ≠ k → Ap (hvs i) (hvs k)) (hg : ∀ k, k < l.length → (hvs k).ownBlock ≠ some g) (hz : 0 < z) (hz2 : (z : Int) + 2 * l.length + csz l ≤ 50000000) :
    Calls Tryz.prog 46 #[.slice (some ⟨g, 0, none⟩) l.length c, .int .i64 (z : Int)] w fun e w' => e = .returned (.int .i64 ((z + 2 * l.length + csz l : Nat) : Int)) ∧ w'.rowIs g 57 (l.length * 3) (cvF (mkC z l) hvs) ∧ (∀ k, k < l.length → OB w' (hvs k) (ckK (mkC z l) k).hd) ∧ Kp (fun q => q ≠ g ∧ ∀ k, k < l.length → (hvs k).ownBlock ≠ some q) w w' := by
  have HR := Hid.mk' hr
  have HO := Hid.mk' ho
  have HAP := Hid.mk' hap
  have HG := Hid.mk' hg
  clear hr ho hap hg
  go_enter Tryz.func46, Tryz.ntmps46
  go_wp2
  go_loopw [1, 5] (fun x i wr => ∃ k : Nat, k ≤ l.length ∧ i = .int .i64 k ∧ x = .int .i64 (ckZ z l k : Int) ∧ wr.rowIs g 57 (l.length * 3) (cvH z l hvs k) ∧ (∀ i, i < k → OB wr (hvs i) (ckK (mkC z l) i).hd) ∧ (∀ i, k ≤ i → i < l.length → OB wr (hvs i) (ckK l i).hd) ∧ Kp (fun q => q ≠ g ∧ ∀ k, k < l.length → (hvs k).ownBlock ≠ some q) w wr) (fun _ i _ => l.length - (intOf i).toNat)
  case atStart => exact ⟨0, Nat.zero_le _, rfl, by rw [ckZ_zero], HR.out.congr (fun i _ => by unfold cvH; rw [if_neg (by omega)]), fun i h => absurd h (Nat.not_lt_zero _), fun i _ h => HO.out i h, Kp.refl _ _⟩
  case round =>
    obtain ⟨k, hk, rfl, rfl, hrow, hm, hn, hkp⟩ := hrel
    by_cases hlt : k < l.length
    · have ci : (k : Int) < (l.length : Int) := by omega
      have sl := ckZ_le z l (k + 1) hlt
      have ss := ckZ_succ z l k hlt
      have r1 := cvH_step hlt hrow
      obtain ⟨Z, hZ⟩ : ∃ Z, ckZ z l k = Z := ⟨_, rfl⟩
      rw [hZ] at r1 ss ⊢
      have ok := hn k (Nat.le_refl _) hlt
      obtain ⟨pa, pc, ev, -⟩ := ok.len
      have f0 := hrow.frozen (k * 3)
      have f1 := hrow.frozen (k * 3 + 1)
      obtain ⟨v0, g0⟩ : ∃ v, wr.cell? ⟨g, k * 3, none⟩ = some v := ⟨_, hrow.cell (by omega)⟩
      obtain ⟨v1, g1⟩ : ∃ v, wr.cell? ⟨g, k * 3 + 1, none⟩ = some v := ⟨_, hrow.cell (by omega)⟩
      have ne : (hvs k).ownBlock ≠ some g := HG.out k hlt
      have q1 : Kp (fun q => q ≠ g) wr ((wr.setCell ⟨g, k * 3, none⟩ (.int .i64 (Z : Int))).setCell ⟨g, k * 3 + 1, none⟩ (.int .i64 ((Z : Int) + 1))) := ((Kp.refl _ wr).setCell (q := ⟨g, k * 3, none⟩) (by simp) _).setCell (q := ⟨g, k * 3 + 1, none⟩) (by simp) _
      have ok1 := ok.keep (w' := (wr.setCell ⟨g, k * 3, none⟩ (.int .i64 (Z : Int))).setCell ⟨g, k * 3 + 1, none⟩ (.int .i64 ((Z : Int) + 1))) (fun q e h => q1.block q h (fun e' => ne (by rw [e, e'])))
      have c2 : ((wr.setCell ⟨g, k * 3, none⟩ (.int .i64 (Z : Int))).setCell ⟨g, k * 3 + 1, none⟩ (.int .i64 ((Z : Int) + 1))).cell? ⟨g, k * 3 + 2, none⟩ = some (.slice pa (ckK l k).hd.length pc) := by
        rw [r1.cell (by omega)]
        unfold cvH
        rw [if_pos (by omega), cvF2, ev]
      have lg := r1.lt
      have KA := markByteS_own (Z + 1 + 1) (hvs k) (ckK l k).hd _ ok1 (by omega)
      rw [ev] at KA
      have KA := Hid.mk' KA
      have R1 := Hid.mk' r1
      have Q1 := Hid.mk' q1
      have HM := Hid.mk' hm
      have HN := Hid.mk' hn
      have HK := Hid.mk' hkp
      have EV := Hid.mk' ev
      have hw1 : IntKind.i64.wrap ((Z : Int) + 1) = (Z : Int) + 1 := by rw [IntKind.wrap_i64]; omega
      have hw2 : IntKind.i64.wrap ((Z : Int) + 1 + 1) = (Z : Int) + 1 + 1 := by rw [IntKind.wrap_i64]; omega
      have NE := Hid.mk' ne
      have SS := Hid.mk' ss
      clear r1 ok ok1 hrow hm hn hkp q1 ev ne ss sl
      generalize hV2 : (wr.setCell ⟨g, k * 3, none⟩ (.int .i64 (Z : Int))).setCell ⟨g, k * 3 + 1, none⟩ (.int .i64 ((Z : Int) + 1)) = V2 at *
      go_wp2_with fail
      clear hV2
      refine KA.out.mono ?_
      rintro e w2 ⟨rfl, ob2, tu2⟩
      have T2 := Hid.mk' tu2
      have O2 := Hid.mk' ob2
      clear KA ob2 tu2 c2 g0 g1 f0 f1
      go_wp2
      go_roundw
      case rel =>
        have t2 := T2.out
        rw [← EV.out] at t2
        have nk : ∀ i, i < l.length → i ≠ k → ∀ q, (hvs i).ownBlock = some q → q < wr.heap.size → w2.heap[q]? = wr.heap[q]? := fun i hi hne q e h =>
          (t2.block q (Nat.lt_of_lt_of_le h Q1.out.size) (fun e' => HAP.out i k hi hlt hne q e e')).trans (Q1.out.block q h (fun e' => HG.out i hi (by rw [e, e'])))
        refine ⟨k + 1, by omega, by go_num, by rw [SS.out]; congr 1, ?_, fun i hi => ?_, fun i h1 h2 => (HN.out i (by omega) h2).keep (nk i h2 (by omega)), ?_⟩
        · exact R1.out.of_block (t2.block g R1.out.lt NE.out)
        · by_cases e : i = k
          · subst e
            rw [mkC_at z l i hlt, hZ]
            have := O2.out
            rw [← EV.out] at this
            exact this
          · exact (HM.out i (by omega)).keep (nk i (by omega) e)
        · exact HK.out.trans ⟨t2.os.trans Q1.out.os, t2.tape.trans Q1.out.tape, t2.output.trans Q1.out.output, Nat.le_trans Q1.out.size t2.size, fun q h hp => (t2.block q (Nat.lt_of_lt_of_le h Q1.out.size) (hp.2 k hlt)).trans (Q1.out.block q h hp.1)⟩
      case measure => simp [intOf]; omega
    · have ci : ¬ (k : Int) < (l.length : Int) := by omega
      have e : k = l.length := by omega
      subst e
      have R1 := Hid.mk' hrow
      have HM := Hid.mk' hm
      have HK := Hid.mk' hkp
      clear hrow hm hn hkp
      go_wp2
      go_ret
      exact ⟨by rw [ckZ_all]; rfl, R1.out.congr (fun i hi => by unfold cvH; rw [if_pos (by omega)]), HM.out, HK.out⟩

set_option maxRecDepth 100000 in
set_option maxHeartbeats 3200000 in
theorem heldCheckS_is (z : Nat) (a : Option Addr) (c : Nat) (l : List CK) (w : World) (ha : CsAt w a (mkC z l)) (hz : 0 < z) (hz2 : (z : Int) + 2 * l.length + csz l ≤ 50000000) :
    Calls Tryz.prog 54 #[.slice a l.length c, .int .i64 (z : Int)] w fun e w' => e = .returned (.int .i64 ((z + 2 * l.length + csz l : Nat) : Int)) ∧ Below w.heap.size w w' := by
  have HA := Hid.mk' ha
  clear ha
  go_enter Tryz.func54, Tryz.ntmps54
  go_wp2
  go_loopw [1, 5] (fun x i wr => ∃ k : Nat, k ≤ l.length ∧ i = .int .i64 k ∧ x = .int .i64 (ckZ z l k : Int) ∧ Below w.heap.size w wr) (fun _ i _ => l.length - (intOf i).toNat)
  case atStart => exact ⟨0, Nat.zero_le _, rfl, by rw [ckZ_zero], Below.refl _ _⟩
  case round =>
    obtain ⟨k, hk, rfl, rfl, hbl⟩ := hrel
    have HB := Hid.mk' hbl
    by_cases hlt : k < l.length
    · have ci : (k : Int) < (l.length : Int) := by omega
      have sl := ckZ_le z l (k + 1) hlt
      have ss := ckZ_succ z l k hlt
      rcases HA.out.below hbl with h0 | ⟨b1, o1, rfl, s1, hc1⟩
      · have := mkC_len z l; rw [h0] at this; simp at this; omega
      obtain ⟨h1, h2, p1, d1, h4, h5⟩ := hc1 k (by rw [mkC_len]; exact hlt)
      rw [mkC_at z l k hlt] at h1 h2 h4 h5
      obtain ⟨q, hq⟩ : ∃ q : Nat, ckZ z l k = q := ⟨_, rfl⟩
      rw [hq] at h1 h2 h4 h5 ss ⊢
      replace h1 : wr.cell? ⟨b1, o1 + k * 3, none⟩ = some (.int .i64 (q : Int)) := h1
      replace h2 : wr.cell? ⟨b1, o1 + k * 3 + 1, none⟩ = some (.int .i64 ((q : Int) + 1)) := h2
      replace h4 : wr.cell? ⟨b1, o1 + k * 3 + 2, none⟩ = some (.slice p1 (ckK l k).hd.length d1) := by
        have e : (mb (q + 1 + 1) (ckK l k).hd.length).length = (ckK l k).hd.length := mb_len _ _
        rw [← e]; exact h4
      have KB := Hid.mk' (heldByteS_any p1 d1 (ckK l k).hd.length (q + 1 + 1) wr h5 (by omega))
      have SS := Hid.mk' ss
      have hw1 : IntKind.i64.wrap ((q : Int) + 1) = (q : Int) + 1 := by rw [IntKind.wrap_i64]; omega
      have hw2 : IntKind.i64.wrap ((q : Int) + 1 + 1) = (q : Int) + 1 + 1 := by rw [IntKind.wrap_i64]; omega
      have zz : ¬ ((q : Int) + 1 + 1 + ((ckK l k).hd.length : Int) < 0) := by omega
      clear hbl hc1 h5 sl ss hq
      go_wp2_with fail
      refine KB.out.mono ?_
      rintro e w1 ⟨rfl, hb1⟩
      have B1 := Hid.mk' (HB.out.trans (hb1.mono HB.out.size))
      clear hb1 KB
      go_wp2
      go_roundw
      case rel => exact ⟨k + 1, by omega, by go_num, by rw [SS.out]; congr 1, B1.out⟩
      case measure => simp [intOf]; omega
    · have ci : ¬ (k : Int) < (l.length : Int) := by omega
      have e : k = l.length := by omega
      subst e
      go_wp2
      go_ret
      exact ⟨by rw [ckZ_all]; rfl, HB.out⟩

end Go.Proofs.YtdloogkjnjklcaaGreatDoor

namespace Go.Proofs.YtdloogkjnjklcaaGreatDoor
open Go.RowKit

def OC (w : World) (v : Value) (l : List CK) (hvs : Nat → Value) : Prop := (v = .slice none 0 0 ∧ l = []) ∨
  ∃ g, v = .slice (some ⟨g, 0, none⟩) l.length l.length ∧ w.rowIs g 57 (l.length * 3) (cvF l hvs)

theorem OC.keep {w w' : World} {v : Value} {l : List CK} {hvs : Nat → Value} (h : OC w v l hvs) (hk : ∀ q, v.ownBlock = some q → q < w.heap.size → w'.heap[q]? = w.heap[q]?) : OC w' v l hvs := by
  rcases h with h | ⟨g, rfl, hr⟩
  · exact .inl h
  · exact .inr ⟨g, rfl, hr.of_block (hk g rfl hr.lt)⟩

theorem OC.at {w : World} {v : Value} {l : List CK} {hvs : Nat → Value} (h : OC w v l hvs) (ho : ∀ k, k < l.length → OB w (hvs k) (ckK l k).hd) : ∃ a c, v = .slice a l.length c ∧ CsAt w a l := by
  rcases h with ⟨rfl, rfl⟩ | ⟨g, rfl, hr⟩
  · exact ⟨none, 0, rfl, .inl rfl⟩
  · refine ⟨_, _, rfl, .inr ⟨g, 0, rfl, hr.lt, fun k hk => ?_⟩⟩
    obtain ⟨p, c, e, hb⟩ := (ho k hk).len
    simp only [Nat.zero_add]
    exact ⟨by rw [hr.cell (by omega), cvF0], by rw [hr.cell (by omega), cvF1], p, c, by rw [hr.cell (by omega), cvF2, e], hb⟩

set_option maxHeartbeats 800000 in
theorem markCheckS_nil (z : Nat) (w : World) (hz : (z : Int) ≤ 50000000) :
    Calls Tryz.prog 46 #[.slice none 0 0, .int .i64 (z : Int)] w fun e w' => e = .returned (.int .i64 (z : Int)) ∧ w' = w := by
  go_enter Tryz.func46, Tryz.ntmps46
  go_wp2
  go_loop [1, 5] (fun s x => x = .int .i64 0 ∧ s = .int .i64 (z : Int)) (fun _ _ => 0)
  case atStart => exact ⟨rfl, rfl⟩
  case round =>
    obtain ⟨rfl, rfl⟩ := hrel
    go_wp2
    go_ret
    exact ⟨rfl, rfl⟩

theorem markCheckS_oc (z : Nat) (v : Value) (l : List CK) (hvs : Nat → Value) (w : World) (hr : OC w v l hvs) (ho : ∀ k, k < l.length → OB w (hvs k) (ckK l k).hd) (hap : ∀ i k, i < l.length → k < l.length → i ≠ k → Ap (hvs i) (hvs k)) (hg : ∀ k, k < l.length → Ap (hvs k) v) (hz : 0 < z) (hz2 : (z : Int) + 2 * l.length + csz l ≤ 50000000) :
    Calls Tryz.prog 46 #[v, .int .i64 (z : Int)] w fun e w' => e = .returned (.int .i64 ((z + 2 * l.length + csz l : Nat) : Int)) ∧ OC w' v (mkC z l) hvs ∧ (∀ k, k < l.length → OB w' (hvs k) (ckK (mkC z l) k).hd) ∧ Kp (fun q => v.ownBlock ≠ some q ∧ ∀ k, k < l.length → (hvs k).ownBlock ≠ some q) w w' := by
  rcases hr with ⟨rfl, rfl⟩ | ⟨g, rfl, hr⟩
  · refine (markCheckS_nil z w (by simp [csz] at hz2; omega)).mono ?_
    rintro e w' ⟨rfl, rfl⟩
    exact ⟨by simp [csz], .inl ⟨rfl, rfl⟩, fun k hk => absurd hk (Nat.not_lt_zero _), Kp.refl _ _⟩
  · refine (markCheckS_is g l.length z l hvs w hr ho hap (fun k hk e => hg k hk g e rfl) hz hz2).mono ?_
    rintro e w' ⟨rfl, h1, h2, h3⟩
    exact ⟨rfl, .inr ⟨g, by rw [mkC_len], by rw [mkC_len]; exact h1⟩, h2, h3.mono (fun q hq => ⟨fun e => hq.1 (by rw [e]; rfl), hq.2⟩)⟩

structure GM (lo hi : Nat) (tau : Nat → Nat) (m : ME) (vd tv hv cv : Value) (us : List Value) (rs : Nat → List Value) (bl bh : Nat → Nat) (hvs : Nat → Value) (w : World) : Prop where
  d : OB w vd m.dt
  t : TP lo w tv m.tk us rs bl bh
  h : OB w hv m.hd
  c : OC w cv m.cs hvs
  k : ∀ i, i < m.cs.length → OB w (hvs i) (ckK m.cs i).hd
  ld : ∀ q, vd.ownBlock = some q → tau q = 0 ∧ lo ≤ q ∧ q < hi
  lt : ∀ q, ¬ TFree tv m.tk.length bl bh q → tau q = 1 ∧ lo ≤ q ∧ q < hi
  lh : ∀ q, hv.ownBlock = some q → tau q = 2 ∧ lo ≤ q ∧ q < hi
  lc : ∀ q, cv.ownBlock = some q → tau q = 3 ∧ lo ≤ q ∧ q < hi
  lk : ∀ i, i < m.cs.length → ∀ q, (hvs i).ownBlock = some q → tau q = 4 + i ∧ lo ≤ q ∧ q < hi

theorem TP.keepF {lo : Nat} {w w' : World} {tv : Value} {ts : List TK} {us : List Value} {rs : Nat → List Value} {bl bh : Nat → Nat} (h : TP lo w tv ts us rs bl bh) (hs : w.heap.size ≤ w'.heap.size) (hk : ∀ q, ¬ TFree tv ts.length bl bh q → q < w.heap.size → w'.heap[q]? = w.heap[q]?) : TP lo w' tv ts us rs bl bh :=
  ⟨own_of h.row (Nat.le_refl _) (fun k e hl => hk k (fun f => f.1 e) (h.row.lt k e).2), (h.ta.keep (fun j hj k h1 h2 h3 => hk k (fun f => f.2 j hj ⟨h1, h2⟩) h3)).widen (Nat.le_refl _) hs, h.vt⟩

theorem GM.below {lo hi : Nat} {tau : Nat → Nat} {m : ME} {vd tv hv cv : Value} {us : List Value} {rs : Nat → List Value} {bl bh : Nat → Nat} {hvs : Nat → Value} {w w' : World} (x : GM lo hi tau m vd tv hv cv us rs bl bh hvs w) (hb : Below w.heap.size w w') : GM lo hi tau m vd tv hv cv us rs bl bh hvs w' :=
  ⟨x.d.below hb, x.t.below hb, x.h.below hb, x.c.keep (fun q _ h => hb.block q h), fun i hi => (x.k i hi).below hb, x.ld, x.lt, x.lh, x.lc, x.lk⟩

theorem GM.kept {lo hi a b : Nat} {tau : Nat → Nat} {m : ME} {vd tv hv cv : Value} {us : List Value} {rs : Nat → List Value} {bl bh : Nat → Nat} {hvs : Nat → Value} {w w' : World} (x : GM lo hi tau m vd tv hv cv us rs bl bh hvs w) (hk : KeptIn a b w w') (hb : b ≤ lo) : GM lo hi tau m vd tv hv cv us rs bl bh hvs w' :=
  ⟨x.d.keep (fun q e h => hk.block q h (.inr (by have := x.ld q e; omega))), x.t.keepF hk.size (fun q e h => hk.block q h (.inr (by have := x.lt q e; omega))), x.h.keep (fun q e h => hk.block q h (.inr (by have := x.lh q e; omega))), x.c.keep (fun q e h => hk.block q h (.inr (by have := x.lc q e; omega))), fun i hi => (x.k i hi).keep (fun q e h => hk.block q h (.inr (by have := x.lk i hi q e; omega))), x.ld, x.lt, x.lh, x.lc, x.lk⟩

theorem GM.at {lo hi : Nat} {tau : Nat → Nat} {m : ME} {vd tv hv cv : Value} {us : List Value} {rs : Nat → List Value} {bl bh : Nat → Nat} {hvs : Nat → Value} {w : World} (x : GM lo hi tau m vd tv hv cv us rs bl bh hvs w) : ∃ a t u c ca ct cu cc, vd = .slice a m.dt.length ca ∧ tv = .slice t m.tk.length ct ∧ hv = .slice u m.hd.length cu ∧ cv = .slice c m.cs.length cc ∧ MAt w a t u c m := by
  obtain ⟨a, ca, e1, h1⟩ := x.d.len
  obtain ⟨t, ct, e2, h2⟩ := x.t.tsAt
  obtain ⟨u, cu, e3, h3⟩ := x.h.len
  obtain ⟨c, cc, e4, h4⟩ := x.c.at x.k
  exact ⟨a, t, u, c, ca, ct, cu, cc, e1, e2, e3, e4, h1, h2, h3, h4⟩

def mkM (m : ME) : ME := ⟨mb 1 m.dt.length, m.st, mkT (1 + m.dt.length) m.tk, mb (1 + m.dt.length + ctN m.tk) m.hd.length, mkC (1 + m.dt.length + ctN m.tk + m.hd.length) m.cs⟩
def mkN (m : ME) : Nat := 1 + m.dt.length + ctN m.tk + m.hd.length + 2 * m.cs.length + csz m.cs

set_option maxRecDepth 100000 in
set_option maxHeartbeats 3200000 in
theorem markMemo_is (lo hi : Nat) (tau : Nat → Nat) (m : ME) (vd tv hv cv : Value) (us : List Value) (rs : Nat → List Value) (bl bh : Nat → Nat) (hvs : Nat → Value) (w : World) (x : GM lo hi tau m vd tv hv cv us rs bl bh hvs w) (hlo : lo ≤ w.heap.size) (hhi : hi ≤ w.heap.size) (hm : (msz m : Int) ≤ 1048576) :
    Calls Tryz.prog 20 #[.agg #[vd, .int .i64 m.st, tv, hv, cv], .int .i64 1] w fun e w' => e = .returned (.int .i64 (mkN m : Int)) ∧ (∃ tau', GM lo hi tau' (mkM m) vd tv hv cv us rs bl bh hvs w') ∧ KeptIn lo hi w w' := by
  have MS_ : (msz m : Int) = m.dt.length + m.tk.length + tssz m.tk + m.hd.length + m.cs.length + csz m.cs := by unfold msz; omega
  have ctl := ctN_le m.tk m.tk.length
  rw [List.take_length] at ctl
  obtain ⟨a, t, u, c, ca, ct, cu, cc, e1, e2, e3, e4, -⟩ := x.at
  have N0 := below_new w (.cells #[vd, .int .i64 m.st, tv, hv, cv] 26)
  have R0 := Hid.mk' (row5 w 26 vd (.int .i64 m.st) tv hv cv)
  have X0 := Hid.mk' (x.below N0)
  have K0 : Hid (KeptIn lo hi w (w.alloc (.cells #[vd, .int .i64 m.st, tv, hv, cv] 26))) := Hid.mk' (KeptIn.of_below N0)
  have E1 := Hid.mk' e1
  have E2 := Hid.mk' e2
  have E3 := Hid.mk' e3
  have E4 := Hid.mk' e4
  have XX := Hid.mk' x
  clear N0 x
  have KD := Hid.mk' (markByteS_own 1 vd m.dt _ X0.out.d (by omega))
  obtain ⟨z1, hz1⟩ : ∃ z1 : Nat, z1 = 1 + m.dt.length := ⟨_, rfl⟩
  obtain ⟨z2, hz2⟩ : ∃ z2 : Nat, z2 = 1 + m.dt.length + ctN m.tk := ⟨_, rfl⟩
  obtain ⟨z3, hz3⟩ : ∃ z3 : Nat, z3 = 1 + m.dt.length + ctN m.tk + m.hd.length := ⟨_, rfl⟩
  have s1 : ((1 : Nat) : Int) + (m.dt.length : Int) = (z1 : Int) := by omega
  have s2 : z1 + ctN m.tk = z2 := by omega
  have s3 : (z2 : Int) + (m.hd.length : Int) = (z3 : Int) := by omega
  have s4 : z3 + 2 * m.cs.length + csz m.cs = mkN m := by unfold mkN; omega
  have b1 : z1 ≤ 1048577 := by omega
  have b2 : z2 ≤ 6000000 := by omega
  have b3 : z3 ≤ 7100000 := by omega
  have p1 : 0 < z1 := by omega
  have p2_ : 0 < z2 := by omega
  have p3 : 0 < z3 := by omega
  have sB : (m.tk.length : Int) + tssz m.tk ≤ 1048576 := by omega
  have sC : (m.hd.length : Int) ≤ 1048576 := by omega
  have sD : (m.cs.length : Int) + csz m.cs ≤ 1048576 := by omega
  have Z1 := Hid.mk' hz1
  have Z2 := Hid.mk' hz2
  have Z3 := Hid.mk' hz3
  have S4 := Hid.mk' s4
  clear MS_ hm ctl hz1 hz2 hz3 s4
  rw [e1, e2, e3, e4] at R0
  generalize hW : w.alloc (.cells #[vd, .int .i64 m.st, tv, hv, cv] 26) = W at *
  rw [e1, e2, e3, e4] at hW
  rw [e1, e2, e3, e4]
  rw [hW] at R0
  rw [e1] at KD
  have hne : ∀ q, q < hi → q ≠ w.heap.size := fun q hq => by omega
  clear e1 e2 e3 e4
  obtain ⟨x0, x1, x2, x3, x4, x5⟩ := cells5 R0.out
  go_enter Tryz.func20, Tryz.ntmps20
  go_wp2_with fail
  clear hW x0 x1 x2 x3 x4 x5
  refine KD.out.mono ?_
  rintro e w1 ⟨he, o1, t1⟩
  rw [s1] at he
  subst he
  rw [← E1.out] at o1 t1
  have R1 := Hid.mk' (R0.out.of_block (t1.block _ R0.out.lt (fun e => hne _ (X0.out.ld _ e).2.2 rfl)))
  have O1 := Hid.mk' o1
  have T1 := Hid.mk' (X0.out.t.keepF t1.size (fun q f h => t1.block q h (fun e => by have := X0.out.ld q e; have := X0.out.lt q f; omega)))
  have H1 := Hid.mk' (X0.out.h.keep (fun q f h => t1.block q h (fun e => by have := X0.out.ld q e; have := X0.out.lh q f; omega)))
  have C1 := Hid.mk' (X0.out.c.keep (fun q f h => t1.block q h (fun e => by have := X0.out.ld q e; have := X0.out.lc q f; omega)))
  have Q1 : Hid (∀ i, i < m.cs.length → OB w1 (hvs i) (ckK m.cs i).hd) := Hid.mk' (fun i hi => (X0.out.k i hi).keep (fun q f h => t1.block q h (fun e => by have := X0.out.ld q e; have := X0.out.lk i hi q f; omega)))
  have K1 := Hid.mk' (K0.out.trans (t1.kept (fun q e => (X0.out.ld q e).2)))
  clear o1 t1 KD K0 R0 s1
  have KT := markTokenS_is z1 lo tv m.tk us rs bl bh w1 T1.out (by have := K1.out.size; omega) p1 (by omega) sB
  rw [s2, E2.out] at KT
  have KT := Hid.mk' KT
  obtain ⟨x0, x1, x2, x3, x4, x5⟩ := cells5 R1.out
  go_wp2_with fail
  clear x0 x1 x2 x3 x4 x5
  refine KT.out.mono ?_
  rintro e w2 ⟨rfl, o2, t2⟩
  rw [← E2.out] at o2 t2
  have R2 := Hid.mk' (R1.out.of_block (t2.block _ R1.out.lt (Classical.byContradiction fun f => hne _ (XX.out.lt _ f).2.2 rfl)))
  have D2 := Hid.mk' (O1.out.keep (fun q f h => t2.block q h (Classical.byContradiction fun e => by have := XX.out.lt q e; have := XX.out.ld q f; omega)))
  have T2 := Hid.mk' o2
  have H2 := Hid.mk' (H1.out.keep (fun q f h => t2.block q h (Classical.byContradiction fun e => by have := XX.out.lt q e; have := XX.out.lh q f; omega)))
  have C2 := Hid.mk' (C1.out.keep (fun q f h => t2.block q h (Classical.byContradiction fun e => by have := XX.out.lt q e; have := XX.out.lc q f; omega)))
  have Q2 : Hid (∀ i, i < m.cs.length → OB w2 (hvs i) (ckK m.cs i).hd) := Hid.mk' (fun i hi => (Q1.out i hi).keep (fun q f h => t2.block q h (Classical.byContradiction fun e => by have := XX.out.lt q e; have := XX.out.lk i hi q f; omega)))
  have K2 : Hid (KeptIn lo hi w w2) := Hid.mk' (K1.out.trans ⟨t2.os, t2.tape, t2.output, t2.size, fun q h hc => t2.block q h (Classical.byContradiction fun e => by have := XX.out.lt q e; omega)⟩)
  clear o2 t2 KT K1 R1 O1 T1 H1 C1 Q1 s2
  have KH := markByteS_own z2 hv m.hd w2 H2.out (by omega)
  rw [s3, E3.out] at KH
  have KH := Hid.mk' KH
  obtain ⟨x0, x1, x2, x3, x4, x5⟩ := cells5 R2.out
  go_wp2_with fail
  clear x0 x1 x2 x3 x4 x5
  refine KH.out.mono ?_
  rintro e w3 ⟨rfl, o3, t3⟩
  rw [← E3.out] at o3 t3
  have R3 := Hid.mk' (R2.out.of_block (t3.block _ R2.out.lt (fun e => hne _ (XX.out.lh _ e).2.2 rfl)))
  have D3 := Hid.mk' (D2.out.keep (fun q f h => t3.block q h (fun e => by have := XX.out.lh q e; have := XX.out.ld q f; omega)))
  have T3 := Hid.mk' (T2.out.keepF t3.size (fun q f h => t3.block q h (fun e => by have := XX.out.lh q e; rw [mkT_len] at f; have := XX.out.lt q f; omega)))
  have H3 := Hid.mk' o3
  have C3 := Hid.mk' (C2.out.keep (fun q f h => t3.block q h (fun e => by have := XX.out.lh q e; have := XX.out.lc q f; omega)))
  have Q3 : Hid (∀ i, i < m.cs.length → OB w3 (hvs i) (ckK m.cs i).hd) := Hid.mk' (fun i hi => (Q2.out i hi).keep (fun q f h => t3.block q h (fun e => by have := XX.out.lh q e; have := XX.out.lk i hi q f; omega)))
  have K3 := Hid.mk' (K2.out.trans (t3.kept (fun q e => (XX.out.lh q e).2)))
  clear o3 t3 KH K2 R2 D2 T2 H2 C2 Q2 s3
  have KC := markCheckS_oc z3 cv m.cs hvs w3 C3.out Q3.out (fun i k h1 h2 hne q f g => by have := XX.out.lk i h1 q f; have := XX.out.lk k h2 q g; omega) (fun k hk q f g => by have := XX.out.lk k hk q f; have := XX.out.lc q g; omega) p3 (by omega)
  rw [S4.out, E4.out] at KC
  have KC := Hid.mk' KC
  obtain ⟨x0, x1, x2, x3, x4, x5⟩ := cells5 R3.out
  go_wp2_with fail
  clear x0 x1 x2 x3 x4 x5
  refine KC.out.mono ?_
  rintro e w4 ⟨rfl, o4, q4, t4⟩
  rw [← E4.out] at o4 t4
  have D4 := Hid.mk' (D3.out.keep (fun q f h => t4.block q h ⟨fun e => by have := XX.out.lc q e; have := XX.out.ld q f; omega, fun k hk e => by have := XX.out.lk k hk q e; have := XX.out.ld q f; omega⟩))
  have T4 := Hid.mk' (T3.out.keepF t4.size (fun q f h => t4.block q h ⟨fun e => by rw [mkT_len] at f; have := XX.out.lc q e; have := XX.out.lt q f; omega, fun k hk e => by rw [mkT_len] at f; have := XX.out.lk k hk q e; have := XX.out.lt q f; omega⟩))
  have H4 := Hid.mk' (H3.out.keep (fun q f h => t4.block q h ⟨fun e => by have := XX.out.lc q e; have := XX.out.lh q f; omega, fun k hk e => by have := XX.out.lk k hk q e; have := XX.out.lh q f; omega⟩))
  have C4 := Hid.mk' o4
  have Q4 := Hid.mk' q4
  have K4 : Hid (KeptIn lo hi w w4) := Hid.mk' (K3.out.trans ⟨t4.os, t4.tape, t4.output, t4.size, fun q h hc => t4.block q h ⟨fun e => by have := XX.out.lc q e; omega, fun k hk e => by have := XX.out.lk k hk q e; omega⟩⟩)
  clear o4 t4 q4 KC K3 R3 D3 T3 H3 C3 Q3
  go_wp2
  go_ret
  refine ⟨rfl, ⟨tau, ?_⟩, K4.out⟩
  rw [← E1.out, ← E2.out, ← E3.out, ← E4.out]
  unfold mkM
  rw [← Z3.out, ← Z2.out, ← Z1.out]
  exact ⟨D4.out, T4.out, H4.out, C4.out, fun i hi => Q4.out i (by rw [mkC_len] at hi; exact hi), XX.out.ld, fun q f => XX.out.lt q (by rw [mkT_len] at f; exact f), XX.out.lh, XX.out.lc, fun i hi q f => XX.out.lk i (by rw [mkC_len] at hi; exact hi) q f⟩

end Go.Proofs.YtdloogkjnjklcaaGreatDoor
