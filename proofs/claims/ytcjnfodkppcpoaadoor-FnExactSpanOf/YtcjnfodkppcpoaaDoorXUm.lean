/- WriteTree and WriteNode, the program's side. -/
import Derived.Test.YtcjnfodkppcpoaaDoorXUk
namespace Go.Proofs.YtcjnfodkppcpoaaDoor
open Go.RowKit Go.Maps
set_option linter.unusedVariables false
set_option linter.unusedSimpArgs false

set_option maxRecDepth 100000 in
set_option maxHeartbeats 3200000 in
theorem implWR_any (a : Option Addr) (c : Nat) (l : List ND) (w : World) (hr : Refs w) (ha : NsAt w a l) (hB : NB l) (hl : (l.length : Int) + nssz l ≤ 1048576) :
    Calls Tryd.prog 9 #[.slice a l.length c] w fun e w' => KqP (wtF l) w e w' := by
  have N0 := below_new w (.cells #[.int .i64 0, .slice none 0 0] 26)
  have KF := Hid.mk' (treeOf_any a c l _ (ha.below N0) hl)
  have RB := Hid.mk' (rowQ2 w 26 (.int .i64 0) (.slice none 0 0))
  have HN := Hid.mk' N0
  have HA := Hid.mk' ha
  have HRf := Hid.mk' hr
  have HBn := Hid.mk' hB
  clear ha N0 hr hB
  generalize hW : w.alloc (.cells #[.int .i64 0, .slice none 0 0] 26) = W at *
  go_enter Tryd.func9, Tryd.ntmps9
  go_wp2_with fail
  clear hW
  refine KF.out.mono ?_
  rintro e w1 (⟨h0, rfl, hb⟩ | ⟨h0, pa, ca, g, vn, vw, rfl, hT⟩)
  · have E : Hid (wtF l = (treeF l, [])) := Hid.mk' (by unfold wtF; rw [if_neg h0])
    have HB := Hid.mk' (HN.out.trans (hb.mono HN.out.size))
    have h0b : (treeF l != 0) = true := by simp [h0]
    obtain ⟨b0, b1, b2⟩ := cellsQ2 (rowB RB.out hb)
    obtain ⟨f0, f1⟩ := frzQ2 (rowB RB.out hb)
    clear hb KF h0
    generalize treeF l = C at *
    go_wp2
    refine bodyPost_ret (v := .agg #[.int .i64 C, .slice none 0 0]) (by simp [results, Tryd.results9, go_sem, *]) rfl ?_
    have T := (HB.out.setCell (p := ⟨w.heap.size, 0, none⟩) (Nat.le_refl _) (.int .i64 C)).setCell (p := ⟨w.heap.size, 1, none⟩) (Nat.le_refl _) (.slice none 0 0)
    exact kqP_nil E.out (T.alloc T.size _)
  · obtain ⟨an, cn, ev, _⟩ := own_len hT.on
    subst ev
    obtain ⟨aw, cw, ev, _⟩ := own_len hT.ow
    subst ev
    have N2 := below_new w1 (.cells #[.slice an l.length cn, .slice aw (wayU (upF l) l.length).length cw] 54)
    have HT2 := Hid.mk' (hT.rebox N2 (Nat.le_refl _) (rowp2 w1 54 (.slice an l.length cn) (.slice aw (wayU (upF l) l.length).length cw)))
    have HR2 := Hid.mk' (rowB RB.out (hT.bl.trans (N2.mono hT.bl.size)))
    have HB2 := Hid.mk' (HN.out.trans ((hT.bl.trans (N2.mono hT.bl.size)).mono HN.out.size))
    have h60 := treeF_len h0
    clear hT N2 KF
    generalize hW2 : w1.alloc (.cells #[.slice an l.length cn, .slice aw (wayU (upF l) l.length).length cw] 54) = W2 at *
    have KO := Hid.mk' (opensFault_any a c l W2 (HRf.out.below HB2.out) (HA.out.below HB2.out) h0 HBn.out hl)
    go_wp2_with fail
    clear hW2
    refine KO.out.mono ?_
    rintro e w3 ⟨rfl, hb3⟩
    have HB3 := Hid.mk' (HB2.out.trans (hb3.mono HB2.out.size))
    have HR3 := Hid.mk' (rowB HR2.out hb3)
    have HT3 := Hid.mk' (HT2.out.below hb3)
    clear hb3 KO HT2 HR2
    by_cases h2 : opensF l = 0
    · have KW0 := written_any l ⟨h0, h2⟩ HBn.out hl a c W W.heap.size w1.heap.size pa ca _ _ 0 0 l.length (Seg.top (treeF_ways h0)) w3 (HRf.out.below HB3.out) (HA.out.below HB3.out) HT3.out
      have E : wtF l = ansT (aT l) := by unfold wtF; rw [if_pos h0, if_pos h2]
      rw [show tx (egE l) (endN l) 0 l.length = aT l from rfl, ← E] at KW0
      have KW := Hid.mk' KW0
      obtain ⟨CC, KK, hCK⟩ : ∃ CC KK, (CC, KK) = wtF l := ⟨_, _, rfl⟩
      rw [← hCK] at KW
      have HCK := Hid.mk' hCK
      rw [h2]
      clear KW0 E hCK h0 h2
      go_wp2_with fail
      refine KW.out.mono ?_
      rintro e w5 ⟨v, c', rfl, hat, hfa, hfr, hb5⟩
      have R5 := rowB HR3.out hb5
      have HB5 := Hid.mk' (HB3.out.trans (hb5.mono HB3.out.size))
      have HLT := Hid.mk' HR3.out.lt
      have E5 := Hid.mk' HCK.out
      have HAT := Hid.mk' hat
      have HFA := Hid.mk' hfa
      have HFR := Hid.mk' hfr
      obtain ⟨b0, b1, b2⟩ := cellsQ2 R5
      obtain ⟨f0, f1⟩ := frzQ2 R5
      clear hat hfa hfr hb5 KW R5 HR3
      go_wp2
      refine bodyPost_ret (v := .agg #[.int .i64 CC, .slice v KK.length c']) (by simp [results, Tryd.results9, go_sem, *]) rfl ?_
      rw [← E5.out]
      exact ⟨v, c', rfl, HAT.out.setTwo (fun b o e _ => by have := HFR.out b o e; have := HLT.out; omega), HFA.out.setTwo, (fun b o e => by have := HFR.out b o e; have := HB3.out.size; omega), (HB5.out.setCell (p := ⟨w.heap.size, 0, none⟩) (Nat.le_refl _) _).setCell (p := ⟨w.heap.size, 1, none⟩) (Nat.le_refl _) _⟩
    · have E : Hid (wtF l = (opensF l, [])) := Hid.mk' (by unfold wtF; rw [if_pos h0, if_neg h2])
      have h0b : (opensF l != 0) = true := by simp [h2]
      obtain ⟨b0, b1, b2⟩ := cellsQ2 HR3.out
      obtain ⟨f0, f1⟩ := frzQ2 HR3.out
      have HB := HB3
      clear h0 h2
      generalize opensF l = C at *
      go_wp2
      refine bodyPost_ret (v := .agg #[.int .i64 C, .slice none 0 0]) (by simp [results, Tryd.results9, go_sem, *]) rfl ?_
      have T := (HB.out.setCell (p := ⟨w.heap.size, 0, none⟩) (Nat.le_refl _) (.int .i64 C)).setCell (p := ⟨w.heap.size, 1, none⟩) (Nat.le_refl _) (.slice none 0 0)
      exact kqP_nil E.out (T)

set_option maxRecDepth 100000 in
set_option maxHeartbeats 3200000 in
theorem implWN_any (a : Option Addr) (c : Nat) (l : List ND) (x : Int) (w : World) (hr : Refs w) (ha : NsAt w a l) (hB : NB l) (hl : (l.length : Int) + nssz l ≤ 1048576) :
    Calls Tryd.prog 16 #[.slice a l.length c, .int .i64 x] w fun e w' => KqP (wnF l x) w e w' := by
  have N0 := below_new w (.cells #[.int .i64 0, .slice none 0 0] 26)
  have KF := Hid.mk' (treeOf_any a c l _ (ha.below N0) hl)
  have RB := Hid.mk' (rowQ2 w 26 (.int .i64 0) (.slice none 0 0))
  have HN := Hid.mk' N0
  have HA := Hid.mk' ha
  have HRf := Hid.mk' hr
  have HBn := Hid.mk' hB
  clear ha N0 hr hB
  generalize hW : w.alloc (.cells #[.int .i64 0, .slice none 0 0] 26) = W at *
  go_enter Tryd.func16, Tryd.ntmps16
  go_wp2_with fail
  clear hW
  refine KF.out.mono ?_
  rintro e w1 (⟨h0, rfl, hb⟩ | ⟨h0, pa, ca, g, vn, vw, rfl, hT⟩)
  · have E : Hid (wnF l x = (treeF l, [])) := Hid.mk' (by unfold wnF; rw [if_neg h0])
    have HB := Hid.mk' (HN.out.trans (hb.mono HN.out.size))
    have h0b : (treeF l != 0) = true := by simp [h0]
    obtain ⟨b0, b1, b2⟩ := cellsQ2 (rowB RB.out hb)
    obtain ⟨f0, f1⟩ := frzQ2 (rowB RB.out hb)
    clear hb KF h0
    generalize treeF l = C at *
    go_wp2
    refine bodyPost_ret (v := .agg #[.int .i64 C, .slice none 0 0]) (by simp [results, Tryd.results16, go_sem, *]) rfl ?_
    have T := (HB.out.setCell (p := ⟨w.heap.size, 0, none⟩) (Nat.le_refl _) (.int .i64 C)).setCell (p := ⟨w.heap.size, 1, none⟩) (Nat.le_refl _) (.slice none 0 0)
    exact kqP_nil E.out (T.alloc T.size _)
  · obtain ⟨an, cn, ev, _⟩ := own_len hT.on
    subst ev
    obtain ⟨aw, cw, ev, _⟩ := own_len hT.ow
    subst ev
    have N2 := below_new w1 (.cells #[.slice an l.length cn, .slice aw (wayU (upF l) l.length).length cw] 54)
    have HT2 := Hid.mk' (hT.rebox N2 (Nat.le_refl _) (rowp2 w1 54 (.slice an l.length cn) (.slice aw (wayU (upF l) l.length).length cw)))
    have HR2 := Hid.mk' (rowB RB.out (hT.bl.trans (N2.mono hT.bl.size)))
    have HB2 := Hid.mk' (HN.out.trans ((hT.bl.trans (N2.mono hT.bl.size)).mono HN.out.size))
    have h60 := treeF_len h0
    clear hT N2 KF
    generalize hW2 : w1.alloc (.cells #[.slice an l.length cn, .slice aw (wayU (upF l) l.length).length cw] 54) = W2 at *
    obtain ⟨t0, t1, t2⟩ := cells2 HT2.out.box
    have KH := Hid.mk' (hasPlace_any w1.heap.size an l.length cn x W2 t0)
    go_wp2_with fail
    clear hW2
    refine KH.out.mono ?_
    rintro e w2 ⟨rfl, hw2⟩
    obtain rfl := hw2.symm
    clear KH t0 t1 t2
    by_cases hin : 0 ≤ x ∧ x < (l.length : Int)
    rotate_left
    · have E : Hid (wnF l x = (3, [])) := Hid.mk' (by unfold wnF; rw [if_pos h0, if_neg hin])
      have hd : (decide (x ≥ 0) && decide (x < (l.length : Int))) = false := by
        cases hq : (decide (x ≥ 0) && decide (x < (l.length : Int))) with
        | false => rfl
        | true =>
          simp only [Bool.and_eq_true, decide_eq_true_eq] at hq
          exact absurd ⟨hq.1, hq.2⟩ hin
      rw [hd]
      obtain ⟨b0, b1, b2⟩ := cellsQ2 HR2.out
      obtain ⟨f0, f1⟩ := frzQ2 HR2.out
      have HB := HB2
      clear h0 hin hd
      go_wp2
      refine bodyPost_ret (v := .agg #[.int .i64 3, .slice none 0 0]) (by simp [results, Tryd.results16, go_sem, *]) rfl ?_
      have T := (HB.out.setCell (p := ⟨w.heap.size, 0, none⟩) (Nat.le_refl _) (.int .i64 3)).setCell (p := ⟨w.heap.size, 1, none⟩) (Nat.le_refl _) (.slice none 0 0)
      exact kqP_nil E.out (T)
    obtain ⟨m, rfl⟩ : ∃ m : Nat, x = (m : Int) := ⟨x.toNat, by omega⟩
    have hm : m < l.length := by omega
    have hd : (decide ((m : Int) ≥ 0) && decide ((m : Int) < (l.length : Int))) = true := by simp; omega
    rw [hd]
    have KO := Hid.mk' (opensFault_any a c l W2 (HRf.out.below HB2.out) (HA.out.below HB2.out) h0 HBn.out hl)
    clear hd
    go_wp2_with fail
    refine KO.out.mono ?_
    rintro e w3 ⟨rfl, hb3⟩
    have HB3 := Hid.mk' (HB2.out.trans (hb3.mono HB2.out.size))
    have HR3 := Hid.mk' (rowB HR2.out hb3)
    have HT3 := Hid.mk' (HT2.out.below hb3)
    clear hb3 KO HT2 HR2
    by_cases h2 : opensF l = 0
    · have KE := Hid.mk' (end_any W W.heap.size w1.heap.size l pa ca _ _ m w3 HT3.out hm (by omega))
      have KW0 : Hid (∀ w', Below w3.heap.size w3 w' → Calls Tryd.prog 26 #[.pointer (some ⟨w1.heap.size, 0, none⟩), .slice a l.length c, .int .i64 (m : Int), .int .i64 (endN l m : Int)] w' fun e w'' => KqP (ansT (nT l m)) w' e w'') := Hid.mk' (fun w' hb => written_any l ⟨h0, h2⟩ HBn.out hl a c W W.heap.size w1.heap.size pa ca _ _ (dp l m) m (endN l m) (Seg.one (treeF_ways h0) hm) w' (HRf.out.below (HB3.out.trans (hb.mono HB3.out.size))) (HA.out.below (HB3.out.trans (hb.mono HB3.out.size))) (HT3.out.below hb))
      have E : wnF l (m : Int) = ansT (nT l m) := by unfold wnF; rw [if_pos h0, if_pos hin, if_pos h2, Int.toNat_natCast]
      rw [← E] at KW0
      obtain ⟨CC, KK, hCK⟩ : ∃ CC KK, (CC, KK) = wnF l (m : Int) := ⟨_, _, rfl⟩
      rw [← hCK] at KW0
      have HCK := Hid.mk' hCK
      rw [h2]
      clear E hCK h0 h2 hin
      go_wp2_with fail
      refine KE.out.mono ?_
      rintro e w4 ⟨rfl, hb4⟩
      have KW := Hid.mk' (KW0.out w4 hb4)
      have HB3 := Hid.mk' (HB3.out.trans (hb4.mono HB3.out.size))
      have HR3 := Hid.mk' (rowB HR3.out hb4)
      clear KE KW0 hb4 HT3
      go_wp2_with fail
      refine KW.out.mono ?_
      rintro e w5 ⟨v, c', rfl, hat, hfa, hfr, hb5⟩
      have R5 := rowB HR3.out hb5
      have HB5 := Hid.mk' (HB3.out.trans (hb5.mono HB3.out.size))
      have HLT := Hid.mk' HR3.out.lt
      have E5 := Hid.mk' HCK.out
      have HAT := Hid.mk' hat
      have HFA := Hid.mk' hfa
      have HFR := Hid.mk' hfr
      obtain ⟨b0, b1, b2⟩ := cellsQ2 R5
      obtain ⟨f0, f1⟩ := frzQ2 R5
      clear hat hfa hfr hb5 KW R5 HR3
      go_wp2
      refine bodyPost_ret (v := .agg #[.int .i64 CC, .slice v KK.length c']) (by simp [results, Tryd.results16, go_sem, *]) rfl ?_
      rw [← E5.out]
      exact ⟨v, c', rfl, HAT.out.setTwo (fun b o e _ => by have := HFR.out b o e; have := HLT.out; omega), HFA.out.setTwo, (fun b o e => by have := HFR.out b o e; have := HB3.out.size; omega), (HB5.out.setCell (p := ⟨w.heap.size, 0, none⟩) (Nat.le_refl _) _).setCell (p := ⟨w.heap.size, 1, none⟩) (Nat.le_refl _) _⟩
    · have E : Hid (wnF l (m : Int) = (opensF l, [])) := Hid.mk' (by unfold wnF; rw [if_pos h0, if_pos hin, if_neg h2])
      have h0b : (opensF l != 0) = true := by simp [h2]
      obtain ⟨b0, b1, b2⟩ := cellsQ2 HR3.out
      obtain ⟨f0, f1⟩ := frzQ2 HR3.out
      have HB := HB3
      clear h0 h2 hin
      generalize opensF l = C at *
      go_wp2
      refine bodyPost_ret (v := .agg #[.int .i64 C, .slice none 0 0]) (by simp [results, Tryd.results16, go_sem, *]) rfl ?_
      have T := (HB.out.setCell (p := ⟨w.heap.size, 0, none⟩) (Nat.le_refl _) (.int .i64 C)).setCell (p := ⟨w.heap.size, 1, none⟩) (Nat.le_refl _) (.slice none 0 0)
      exact kqP_nil E.out (T)

end Go.Proofs.YtcjnfodkppcpoaaDoor
