/- PreviewOf: both sides. -/
import Derived.Test.YtbdjppiagjhfmaaXpv
namespace Go.Proofs.Ytbdjppiagjhfmaa
open Go.RowKit
set_option linter.unusedVariables false
set_option linter.unusedSimpArgs false

set_option maxRecDepth 100000 in
set_option maxHeartbeats 6400000 in
theorem specPV_any (e : Option Addr) (c : Nat) (d : List Int) (a : Option Addr) (m : Nat) (L : List (List XK)) (w : World) (hd : BAt w e d) (ha : XssAt w a L) (hw : WideXX L) (hs : d.length ≤ 1048576) (hl : (L.length : Int) ≤ 1048576) :
    Calls Try.prog 12 #[.slice e d.length c, .slice a L.length m] w fun e w' => ∃ v, e = .returned (.agg #[.int .i64 (pvA d L).1, v]) ∧ OB w' v (pvA d L).2 ∧ In w.heap.size w'.heap.size v ∧ Below w.heap.size w w' := by
  have B0 := below_new w (.cells #[.int .i64 0, .slice none 0 0] 39)
  have R0 := rowp2 w 39 (.int .i64 0) (.slice none 0 0)
  generalize hW : w.alloc (.cells #[.int .i64 0, .slice none 0 0] 39) = W at *
  have BB := Hid.mk' B0
  have RR := Hid.mk' R0
  by_cases h20 : 20 < L.length
  · have PV : Hid (pvA d L = (2, [])) := Hid.mk' (by unfold pvA; rw [if_pos h20])
    have g20 : (L.length : Int) > 20 := by omega
    rw [PV.out]
    obtain ⟨b0, b1, _⟩ := cells2 R0
    have f0 := R0.frozen 0
    have f1 := R0.frozen 1
    clear B0 R0 hd ha hw
    go_enter Try.func12, Try.ntmps12
    go_wp2
    clear hW
    refine bodyPost_ret (v := .agg #[.int .i64 2, .slice none 0 0]) (by simp [results, Try.results12, go_sem, *]) rfl ?_
    exact ⟨_, rfl, OB.none _, In.nil _ _, (BB.out.setCell (p := ⟨w.heap.size, 0, none⟩) (Nat.le_refl _) _).setCell (p := ⟨w.heap.size, 1, none⟩) (Nat.le_refl _) _⟩
  have g20 : ¬ (L.length : Int) > 20 := by omega
  have PV : Hid (pvA d L = pvR d L) := Hid.mk' (by unfold pvA; rw [if_neg h20])
  rw [PV.out]
  have KC := Hid.mk' (l1Copy_any e c d W (hd.below B0) (by omega))
  have HA := Hid.mk' (ha.below B0)
  have HW := Hid.mk' hw
  obtain ⟨A, hA⟩ : ∃ A, pvR d L = A := ⟨_, rfl⟩
  have EA := Hid.mk' hA
  rw [hA]
  clear ha hd B0 R0 hw hA PV h20
  go_enter Try.func12, Try.ntmps12
  go_wp2_with fail
  clear hW
  refine KC.out.mono ?_
  rintro e1 w1 ⟨v, rfl, o1, i1, hb1⟩
  have O1 := Hid.mk' o1
  have I1 := Hid.mk' i1
  have B1 := Hid.mk' hb1
  clear o1 i1 hb1 KC
  go_wp2
  go_loopw [5, 6, 7] (fun v i _ wr => ∃ (k : Nat) (t : List Int), k ≤ L.length ∧ i = .int .i64 k ∧ OB wr v t ∧ In W.heap.size wr.heap.size v ∧ t.length ≤ 1048576 ∧ pvR t (L.drop k) = A ∧ Below W.heap.size W wr) (fun _ i _ _ => L.length - (intOf i).toNat)
  case atStart => exact ⟨0, d, Nat.zero_le _, rfl, O1.out, I1.out, hs, EA.out, B1.out⟩
  case round =>
    obtain ⟨k, t, hk, rfl, hO, hI, ht, hq, hbl⟩ := hrel
    have HB := Hid.mk' hbl
    have HO := Hid.mk' hO
    have HI := Hid.mk' hI
    have HQ := Hid.mk' hq
    have HT := Hid.mk' ht
    clear hbl hO hI hq ht O1 I1 B1 EA
    by_cases hlt : k < L.length
    · have ci : (k : Int) < (L.length : Int) := by omega
      rcases HA.out with ha | ⟨b1, o1, rfl, hbs, hc1⟩
      · exact absurd hlt (by rw [ha]; exact Nat.not_lt_zero _)
      obtain ⟨p, pc, q0, hp⟩ := hc1 k hlt
      replace q0 := (HB.out.cell hbs).trans q0
      have KP := Hid.mk' (specAPO_any u5 t p pc (xxK L k) wr HO.out (hp.below HB.out) (HW.out k hlt).1 HT.out)
      have QS : Hid (A = if apC t (xxK L k) = 0 then pvR (apB t (xxK L k)) (L.drop (k + 1)) else (apC t (xxK L k), [])) := Hid.mk' (by rw [← HQ.out]; exact pvR_step hlt)
      have L3 := Hid.mk' (apB_len t (xxK L k))
      clear hc1 hp HQ
      generalize hn : (xxK L k).length = n at *
      generalize hC : apC t (xxK L k) = C at *
      generalize hD : apB t (xxK L k) = D at *
      clear hn hC hD
      go_wp2_with fail
      refine KP.out.mono ?_
      rintro e2 w2 ⟨v2, rfl, o2, i2, hb2⟩
      obtain ⟨va, vc, rfl, _⟩ := o2.len
      have NB := below_new w2 (.cells #[.int .i64 C, .slice va D.length vc] 39)
      have M2 := hb2.trans (NB.mono hb2.size)
      have RP := Hid.mk' (rowp2 w2 39 (.int .i64 C) (.slice va D.length vc))
      have HB2 := Hid.mk' (HB.out.trans (M2.mono HB.out.size))
      have O2 := Hid.mk' (o2.below NB)
      have I2 := Hid.mk' (i2.mono (HB.out.size) NB.size)
      clear hb2 o2 i2 NB M2 KP HO HI
      generalize hV : w2.alloc (.cells #[.int .i64 C, .slice va D.length vc] 39) = V at *
      obtain ⟨z0, z1, z2⟩ := cells2 RP.out
      by_cases hz : C = 0
      · have Q2 : Hid (pvR D (L.drop (k + 1)) = A) := Hid.mk' (by rw [QS.out, if_pos hz])
        subst hz
        clear QS
        go_wp2
        clear hV
        go_roundw
        case rel => exact ⟨k + 1, D, by omega, by go_num, O2.out, I2.out, by have := L3.out; omega, Q2.out, HB2.out⟩
        case measure => simp [intOf]; omega
      · have Q2 : Hid (A = (C, [])) := Hid.mk' (by rw [QS.out, if_neg hz])
        have hne : (C != 0) = true := by simp [hz]
        have RZ := rowB RR.out HB2.out
        obtain ⟨b0, b1', _⟩ := cells2 RZ
        have f0 := RZ.frozen 0
        have f1 := RZ.frozen 1
        clear QS RZ
        go_wp2
        clear hV
        refine bodyPost_ret (v := .agg #[.int .i64 C, .slice none 0 0]) (by simp [results, Try.results12, go_sem, *]) rfl ?_
        refine ⟨_, by rw [Q2.out], ?_, In.nil _ _, ((BB.out.trans (HB2.out.mono BB.out.size)).setCell (p := ⟨w.heap.size, 0, none⟩) (Nat.le_refl _) _).setCell (p := ⟨w.heap.size, 1, none⟩) (Nat.le_refl _) _⟩
        rw [Q2.out]
        exact OB.none _
    · have ci : ¬ (k : Int) < (L.length : Int) := by omega
      have e : k = L.length := by omega
      subst e
      have Q2 : Hid (A = (0, t)) := Hid.mk' (by rw [← HQ.out, pvR_end])
      have RZ := rowB RR.out HB.out
      have o3 := HO.out
      obtain ⟨va, vc, rfl, _⟩ := o3.len
      obtain ⟨b0, b1', _⟩ := cells2 RZ
      have f0 := RZ.frozen 0
      have f1 := RZ.frozen 1
      have s1 := RR.out.lt
      clear RZ HQ o3
      go_wp2
      refine bodyPost_ret (v := .agg #[.int .i64 0, .slice va t.length vc]) (by simp [results, Try.results12, go_sem, *]) rfl ?_
      have hk := kept2 wr w.heap.size 0 1 (.int .i64 0) (.slice va t.length vc)
      refine ⟨_, by rw [Q2.out], ?_, (show In W.heap.size wr.heap.size (.slice va t.length vc) from HI.out).mono (by omega) hk.size, (BB.out.trans (HB.out.mono BB.out.size)).trans (hk.below (by omega) (BB.out.trans (HB.out.mono BB.out.size)).size)⟩
      rw [Q2.out]
      exact OB.kept (show OB wr (.slice va t.length vc) t from HO.out) (show In W.heap.size wr.heap.size (.slice va t.length vc) from HI.out) hk (.inr (by omega))

set_option maxRecDepth 100000 in
set_option maxHeartbeats 6400000 in
theorem implPV_any (e : Option Addr) (c : Nat) (d : List Int) (a : Option Addr) (m : Nat) (L : List (List XK)) (w : World) (hd : BAt w e d) (ha : XssAt w a L) (hw : WideXX L) (hs : d.length ≤ 1048576) (hl : (L.length : Int) ≤ 1048576) :
    Calls Try.prog 15 #[.slice e d.length c, .slice a L.length m] w fun e w' => ∃ v, e = .returned (.agg #[.int .i64 (pvA d L).1, v]) ∧ OB w' v (pvA d L).2 ∧ In w.heap.size w'.heap.size v ∧ Below w.heap.size w w' := by
  have B0 := below_new w (.cells #[.int .i64 0, .slice none 0 0] 39)
  have R0 := rowp2 w 39 (.int .i64 0) (.slice none 0 0)
  generalize hW : w.alloc (.cells #[.int .i64 0, .slice none 0 0] 39) = W at *
  have BB := Hid.mk' B0
  have RR := Hid.mk' R0
  by_cases h20 : 20 < L.length
  · have PV : Hid (pvA d L = (2, [])) := Hid.mk' (by unfold pvA; rw [if_pos h20])
    have g20 : (L.length : Int) > 20 := by omega
    rw [PV.out]
    obtain ⟨b0, b1, _⟩ := cells2 R0
    have f0 := R0.frozen 0
    have f1 := R0.frozen 1
    clear B0 R0 hd ha hw
    go_enter Try.func15, Try.ntmps15
    go_wp2
    clear hW
    refine bodyPost_ret (v := .agg #[.int .i64 2, .slice none 0 0]) (by simp [results, Try.results15, go_sem, *]) rfl ?_
    exact ⟨_, rfl, OB.none _, In.nil _ _, (BB.out.setCell (p := ⟨w.heap.size, 0, none⟩) (Nat.le_refl _) _).setCell (p := ⟨w.heap.size, 1, none⟩) (Nat.le_refl _) _⟩
  have g20 : ¬ (L.length : Int) > 20 := by omega
  have PV : Hid (pvA d L = pvR d L) := Hid.mk' (by unfold pvA; rw [if_neg h20])
  rw [PV.out]
  have KC := Hid.mk' (fun v (hv : Below W.heap.size W v) => copyBytes_any e c d v ((hd.below B0).below hv) (by omega))
  have HA := Hid.mk' (ha.below B0)
  have HW := Hid.mk' hw
  obtain ⟨A, hA⟩ : ∃ A, pvR d L = A := ⟨_, rfl⟩
  have EA := Hid.mk' hA
  rw [hA]
  clear ha hd B0 R0 hw hA PV h20
  go_enter Try.func15, Try.ntmps15
  go_wp2_with (first | (go_at_call 39; refine (KC.out _ (by first | exact Below.refl _ _ | exact below_new _ _)).mono ?_; rintro e1 w1 ⟨gc, rfl, lc, rc, hb1⟩))
  clear hW KC
  have NB := below_new w1 (.cells #[.int .i64 0, .slice (some ⟨gc, 0, none⟩) d.length d.length] 39)
  have PB := Hid.mk' (rowp2 w1 39 (.int .i64 0) (.slice (some ⟨gc, 0, none⟩) d.length d.length))
  have HB1 := Hid.mk' (hb1.trans (NB.mono hb1.size))
  have SZ : Hid (W.heap.size ≤ w1.heap.size) := Hid.mk' hb1.size
  have LC : Hid (W.heap.size ≤ gc) := Hid.mk' lc
  have LG : Hid (gc < w1.heap.size) := Hid.mk' rc.lt
  have RC := Hid.mk' (rowB rc NB)
  clear NB hb1 rc lc
  generalize hV0 : w1.alloc (.cells #[.int .i64 0, .slice (some ⟨gc, 0, none⟩) d.length d.length] 39) = V0 at *
  clear hV0
  go_loopw [7, 17] (fun _ i wr => ∃ (k : Nat) (t : List Int) (va : Option Addr) (vc : Nat), k ≤ L.length ∧ i = .int .i64 k ∧ wr.rowIs w1.heap.size 39 2 (p2 (.int .i64 0) (.slice va t.length vc)) ∧ OB wr (.slice va t.length vc) t ∧ (∀ q, (Value.slice va t.length vc).ownBlock = some q → W.heap.size ≤ q ∧ q < wr.heap.size ∧ q ≠ w1.heap.size) ∧ t.length ≤ 1048576 ∧ pvR t (L.drop k) = A ∧ Below W.heap.size W wr) (fun _ i _ => L.length - (intOf i).toNat)
  case atStart => exact ⟨0, d, some ⟨gc, 0, none⟩, d.length, Nat.zero_le _, rfl, PB.out, .inr ⟨gc, d.length, d.length, _, rfl, Nat.le_refl _, RC.out, Nat.le_refl _, fun _ _ => rfl⟩, fun q hq => by simp [Value.ownBlock] at hq; subst hq; exact ⟨LC.out, RC.out.lt, by have := LG.out; omega⟩, hs, EA.out, HB1.out⟩
  case round =>
    obtain ⟨k, t, va, vc, hk, rfl, hP, hO, hI, ht, hq, hbl⟩ := hrel
    have HB := Hid.mk' hbl
    have HO := Hid.mk' hO
    have HI := Hid.mk' hI
    have HQ := Hid.mk' hq
    have HT := Hid.mk' ht
    have HP := Hid.mk' hP
    clear hbl hO hI hq ht hP PB RC LC LG HB1 EA
    by_cases hlt : k < L.length
    · have ci : (k : Int) < (L.length : Int) := by omega
      rcases HA.out with ha | ⟨b1, o1, rfl, hbs, hc1⟩
      · exact absurd hlt (by rw [ha]; exact Nat.not_lt_zero _)
      obtain ⟨p, pc, q0, hp⟩ := hc1 k hlt
      replace q0 := (HB.out.cell hbs).trans q0
      have KP := Hid.mk' (implAPO_any (.slice va t.length vc) t p pc (xxK L k) wr HO.out (hp.below HB.out) (HW.out k hlt).1 HT.out)
      have QS : Hid (A = if apC t (xxK L k) = 0 then pvR (apB t (xxK L k)) (L.drop (k + 1)) else (apC t (xxK L k), [])) := Hid.mk' (by rw [← HQ.out]; exact pvR_step hlt)
      have L3 := Hid.mk' (apB_len t (xxK L k))
      have E3 : Hid (¬ apC t (xxK L k) = 0 → apB t (xxK L k) = []) := Hid.mk' (fun h => by unfold apB; rw [if_neg h])
      obtain ⟨z0, z1, z2⟩ := cells2 HP.out
      clear hc1 hp HQ
      generalize hn : (xxK L k).length = n at *
      generalize hC : apC t (xxK L k) = C at *
      generalize hD : apB t (xxK L k) = D at *
      clear hn hC hD
      go_wp2_with fail
      clear z0 z1 z2
      refine KP.out.mono ?_
      rintro e2 w2 ⟨v2, rfl, o2, i2, hb2⟩
      obtain ⟨va, vc, rfl, _⟩ := o2.len
      have R2 := rowB HP.out hb2
      obtain ⟨y0, y1, y2⟩ := cells2 R2
      have f0 := R2.frozen 0
      have f1 := R2.frozen 1
      have s0 := HP.out.lt
      have s1 := SZ.out
      have s2 := HB.out.size
      have hk := kept2 w2 w1.heap.size 0 1 (.int .i64 C) (.slice va D.length vc)
      have B2 := HB.out.trans (hb2.mono HB.out.size)
      have HB2 := Hid.mk' (B2.trans (hk.below (by omega) B2.size))
      have O2 := Hid.mk' (o2.kept i2 hk (.inr (by omega)))
      have I2 : Hid (∀ q, (Value.slice va D.length vc).ownBlock = some q → W.heap.size ≤ q ∧ q < ((w2.setCell ⟨w1.heap.size, 0, none⟩ (.int .i64 C)).setCell ⟨w1.heap.size, 1, none⟩ (.slice va D.length vc)).heap.size ∧ q ≠ w1.heap.size) := Hid.mk' (fun q hq => by have := i2 q hq; have := hk.size; omega)
      have P2 : Hid (((w2.setCell ⟨w1.heap.size, 0, none⟩ (.int .i64 C)).setCell ⟨w1.heap.size, 1, none⟩ (.slice va D.length vc)).rowIs w1.heap.size 39 2 (p2 (.int .i64 C) (.slice va D.length vc))) := Hid.mk' (((R2.set 0 (.int .i64 C)).set 1 (.slice va D.length vc)).congr (fun j hj => by
        have : j = 0 ∨ j = 1 := by omega
        rcases this with rfl | rfl <;> rfl))
      clear hb2 o2 i2 KP HO HI R2 s0 s1 s2 B2 HP hk
      by_cases hz : C = 0
      · have Q2 : Hid (pvR D (L.drop (k + 1)) = A) := Hid.mk' (by rw [QS.out, if_pos hz])
        subst hz
        clear QS E3
        go_wp2
        go_roundw
        case rel => exact ⟨k + 1, D, va, vc, by omega, by go_num, P2.out, O2.out, I2.out, by have := L3.out; omega, Q2.out, HB2.out⟩
        case measure => simp [intOf]; omega
      · have Q2 : Hid (A = (C, D)) := Hid.mk' (by rw [QS.out, if_neg hz, E3.out hz])
        have hne : (C != 0) = true := by simp [hz]
        generalize hV2 : ((w2.setCell ⟨w1.heap.size, 0, none⟩ (.int .i64 C)).setCell ⟨w1.heap.size, 1, none⟩ (.slice va D.length vc)) = V2 at *
        have RZ := rowB RR.out HB2.out
        obtain ⟨b0, b1', _⟩ := cells2 RZ
        obtain ⟨p0, p1, _⟩ := cells2 P2.out
        have g0 := RZ.frozen 0
        have g1 := RZ.frozen 1
        have s9 := RR.out.lt
        clear QS RZ
        go_wp2
        refine bodyPost_ret (v := .agg #[.int .i64 C, .slice va D.length vc]) (by simp [results, Try.results15, go_sem, *]) rfl ?_
        have hk := kept2 V2 w.heap.size 0 1 (.int .i64 C) (.slice va D.length vc)
        have II : In W.heap.size V2.heap.size (.slice va D.length vc) := fun q hq => ⟨(I2.out q hq).1, (I2.out q hq).2.1⟩
        refine ⟨_, by rw [Q2.out], ?_, II.mono (by omega) hk.size, (BB.out.trans (HB2.out.mono BB.out.size)).trans (hk.below (by omega) (BB.out.trans (HB2.out.mono BB.out.size)).size)⟩
        rw [Q2.out]
        exact OB.kept O2.out II hk (.inr (by omega))
    · have ci : ¬ (k : Int) < (L.length : Int) := by omega
      have e : k = L.length := by omega
      subst e
      have Q2 : Hid (A = (0, t)) := Hid.mk' (by rw [← HQ.out, pvR_end])
      have RZ := rowB RR.out HB.out
      obtain ⟨b0, b1', _⟩ := cells2 RZ
      obtain ⟨p0, p1, _⟩ := cells2 HP.out
      have f0 := RZ.frozen 0
      have f1 := RZ.frozen 1
      have s1 := RR.out.lt
      clear RZ HQ
      go_wp2
      refine bodyPost_ret (v := .agg #[.int .i64 0, .slice va t.length vc]) (by simp [results, Try.results15, go_sem, *]) rfl ?_
      have hk := kept2 wr w.heap.size 0 1 (.int .i64 0) (.slice va t.length vc)
      have II : In W.heap.size wr.heap.size (.slice va t.length vc) := fun q hq => ⟨(HI.out q hq).1, (HI.out q hq).2.1⟩
      refine ⟨_, by rw [Q2.out], ?_, II.mono (by omega) hk.size, (BB.out.trans (HB.out.mono BB.out.size)).trans (hk.below (by omega) (BB.out.trans (HB.out.mono BB.out.size)).size)⟩
      rw [Q2.out]
      exact OB.kept HO.out II hk (.inr (by omega))

end Go.Proofs.Ytbdjppiagjhfmaa
