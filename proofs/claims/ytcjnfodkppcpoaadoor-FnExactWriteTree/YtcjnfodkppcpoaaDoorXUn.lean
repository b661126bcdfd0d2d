/- The laws on WriteTree and WriteNode. -/
import Derived.Test.YtcjnfodkppcpoaaDoorXUm
import Derived.Test.YtcjnfodkppcpoaaDoorXGt
import Derived.Test.YtcjnfodkppcpoaaDoorXV3
namespace Go.Proofs.YtcjnfodkppcpoaaDoor
open Go.RowKit Go.Maps
set_option linter.unusedVariables false
set_option linter.unusedSimpArgs false

set_option maxRecDepth 100000 in
set_option maxHeartbeats 12800000 in
theorem lawWR_any (a : Option Addr) (c : Nat) (l : List ND) (w : World) (ha : NsAt w a l) (hw : WideN l) (hB : NB l) (hl : (l.length : Int) ≤ 9223372036854775807) (hr : Refs w) :
    Calls Tryd.prog 3 #[.slice a l.length c] w fun e w' => e = .returned (.bool true) ∧ Below w.heap.size w w' := by
  have KS := szNodeS_any a c l 1048576 w ha hw (by omega) (by omega) hl
  have HA := Hid.mk' ha
  have HRF := Hid.mk' hr
  have HNB := Hid.mk' hB
  clear ha hw hr hB
  by_cases g1 : 1048576 < (l.length : Int) + nssz l
  · rw [if_pos g1] at KS
    have KS := Hid.mk' KS
    go_enter Tryd.func3, Tryd.ntmps3
    go_wp2_with fail
    refine KS.out.mono ?_
    rintro e w1 ⟨rfl, hb1⟩
    have HB := Hid.mk' hb1
    clear hb1 KS
    go_wp2
    go_ret
    exact ⟨rfl, HB.out⟩
  rw [if_neg g1] at KS
  have KS := Hid.mk' KS
  have zz : ¬ (1048576 - (l.length : Int) - nssz l < 0) := by omega
  have hl2 : (l.length : Int) + nssz l ≤ 1048576 := by omega
  have hR := Hid.mk' (wtF_len l)
  have KSP : Hid (∀ (X : World) (a' : Option Addr) (c' : Nat), NsAt X a' l → Calls Tryd.prog 7 #[.slice a' l.length c'] X fun e w' => ∃ v c', e = .returned (.agg #[.int .i64 (wtF l).1, .slice v (wtF l).2.length c']) ∧ BAt w' v (wtF l).2 ∧ FrA w' v (wtF l).2.length ∧ (∀ b o, v = some ⟨b, o, none⟩ → X.heap.size ≤ b) ∧ Below X.heap.size X w') := Hid.mk' (fun X a' c' h2 => specWR_any a' c' l X h2 HNB.out hl2)
  have KIM : Hid (∀ (X : World) (a' : Option Addr) (c' : Nat), NsAt X a' l → Refs X → Calls Tryd.prog 9 #[.slice a' l.length c'] X fun e w' => ∃ v c', e = .returned (.agg #[.int .i64 (wtF l).1, .slice v (wtF l).2.length c']) ∧ BAt w' v (wtF l).2 ∧ FrA w' v (wtF l).2.length ∧ (∀ b o, v = some ⟨b, o, none⟩ → X.heap.size ≤ b) ∧ Below X.heap.size X w') := Hid.mk' (fun X a' c' h2 h3 => implWR_any a' c' l X h3 h2 HNB.out hl2)
  generalize (wtF l).1 = C at *
  generalize (wtF l).2 = K at *
  go_enter Tryd.func3, Tryd.ntmps3
  go_wp2_with fail
  refine KS.out.mono ?_
  rintro e w2 ⟨rfl, hb2⟩
  have HB := Hid.mk' hb2
  clear hb2 KS g1
  go_wp2_with fail
  clear zz
  refine (toNodeS_any a c l w2 (HA.out.below HB.out) hl2).mono ?_
  rintro e w3 ⟨rfl, t3⟩
  have HB := Hid.mk' (HB.out.trans (t3.bl.mono HB.out.size))
  have KSP := Hid.mk' (KSP.out w3 _ l.length t3.at)
  clear t3
  go_wp2_with fail
  refine KSP.out.mono ?_
  rintro e w4 ⟨va, vc, rfl, hat, _, _, hb⟩
  have N4 := below_new w4 (.cells #[.int .i64 C, .slice va K.length vc] 26)
  have M4 := hb.trans (N4.mono hb.size)
  have HB := Hid.mk' (HB.out.trans (M4.mono HB.out.size))
  have XA := Hid.mk' (rowQ2 w4 26 (.int .i64 C) (.slice va K.length vc))
  have VA := Hid.mk' (hat.below N4)
  clear hb hat KSP N4 M4
  generalize hWA : w4.alloc (.cells #[.int .i64 C, .slice va K.length vc] 26) = WA at *
  have HZ := Hid.mk' HB.out.size
  have HXA := Hid.mk' XA.out.lt
  go_wp2_with fail
  clear hWA
  refine (toNodeS_any a c l WA (HA.out.below HB.out) hl2).mono ?_
  rintro e w6 ⟨rfl, t6⟩
  have DA := Hid.mk' t6.bl
  have T6 := Hid.mk' t6.at
  obtain ⟨hi, hi1, hi2, hnm⟩ := t6.nm
  have NM6 := Hid.mk' hnm
  clear t6 hnm
  have KI := Hid.mk' (KIM.out w6 _ l.length T6.out (HRF.out.below (HB.out.trans (DA.out.mono HB.out.size))))
  go_wp2_with fail
  refine KI.out.mono ?_
  rintro e w7 ⟨u, uc, rfl, hat, hfa, hfr, hb⟩
  have N7 := below_new w7 (.cells #[.int .i64 C, .slice u K.length uc] 26)
  have M7 := hb.trans (N7.mono hb.size)
  have DA := Hid.mk' (DA.out.trans (M7.mono DA.out.size))
  have T6 := Hid.mk' (T6.out.below M7)
  have NM6 := Hid.mk' (NM6.out.keep M7.size (fun q _ _ hq => M7.block q hq))
  have XG := Hid.mk' (rowQ2 w7 26 (.int .i64 C) (.slice u K.length uc))
  have UL : Hid (∀ b o, u = some ⟨b, o, none⟩ → K ≠ [] → w6.heap.size ≤ b ∧ b < w7.heap.size) := Hid.mk' (fun b o e hne => ⟨hfr b o e, by
    rcases hat with h | ⟨b', o', e', hlt, _⟩
    · exact absurd h hne
    · rw [e] at e'; cases e'; exact hlt⟩)
  have UA := Hid.mk' (hat.below N7)
  have UF : Hid (FrA (w7.alloc (.cells #[.int .i64 C, .slice u K.length uc] 26)) u K.length) := Hid.mk' (hfa.keptIn (KeptIn.of_below (lo := 0) (hi := 0) N7) (fun b o e hn => ⟨.inr (Nat.zero_le _), (UL.out b o e (fun x => by rw [x] at hn; exact absurd hn (by simp))).2⟩))
  have HS7 := Hid.mk' hb.size
  clear hb hat hfa hfr N7 M7 KI
  generalize hWC : w7.alloc (.cells #[.int .i64 C, .slice u K.length uc] 26) = WC at *
  have HXG := Hid.mk' XG.out.lt
  obtain ⟨y0, y1, y2⟩ := cellsQ2 XG.out
  obtain ⟨z0, z1, z2⟩ := cellsQ2 (rowB XA.out DA.out)
  go_wp2_with fail
  clear hWC
  refine (eqBR_any C (.slice u K.length uc) (.slice va K.length vc) K WC ⟨_, _, rfl, UA.out⟩ ⟨_, _, rfl, VA.out.below DA.out⟩ hR.out).mono ?_
  rintro e w8 ⟨rfl, hb⟩
  have DA := Hid.mk' (DA.out.trans (hb.mono DA.out.size))
  have DC := Hid.mk' hb
  have T6 := Hid.mk' (T6.out.below hb)
  have NM6 := Hid.mk' (NM6.out.keep hb.size (fun q _ _ hq => hb.block q hq))
  clear hb y0 y1 y2 z0 z1 z2
  go_wp2_with fail
  refine (toNodeS_any a c l w8 (HA.out.below (HB.out.trans (DA.out.mono HB.out.size))) hl2).mono ?_
  rintro e wE ⟨rfl, t9⟩
  have hb := t9.bl
  have DA := Hid.mk' (DA.out.trans (hb.mono DA.out.size))
  have DC := Hid.mk' (DC.out.trans (hb.mono DC.out.size))
  have T6 := Hid.mk' (T6.out.below hb)
  have NM6 := Hid.mk' (NM6.out.keep hb.size (fun q _ _ hq => hb.block q hq))
  have T9 := Hid.mk' t9.at
  clear hb t9
  go_wp2_with fail
  refine (eqNodeS_any _ _ _ _ l wE T6.out T9.out hl2).mono ?_
  rintro e wF ⟨rfl, hb⟩
  have DA := Hid.mk' (DA.out.trans (hb.mono DA.out.size))
  have DC := Hid.mk' (DC.out.trans (hb.mono DC.out.size))
  have NM6 := Hid.mk' (NM6.out.keep hb.size (fun q _ _ hq => hb.block q hq))
  clear hb T6 T9
  go_wp2_with fail
  refine (markNodeS_any WA.heap.size hi l.length l wF NM6.out hl2).mono ?_
  rintro e wH ⟨⟨z, rfl⟩, hk⟩
  have DA := Hid.mk' (DA.out.trans (hk.below (Nat.le_refl _) DA.out.size))
  have KC := Hid.mk' ((KeptIn.of_below (lo := WA.heap.size) (hi := w6.heap.size) DC.out).trans (hk.mono (Nat.le_refl _) (by omega)))
  clear hk NM6 DC
  have UA := Hid.mk' (UA.out.keptIn KC.out (fun b o e hne => .inr (UL.out b o e hne).1))
  have UF := Hid.mk' (UF.out.keptIn KC.out (fun b o e hn => (fun hh => ⟨.inr hh.1, by have := hh.2; have := HXG.out; omega⟩) (UL.out b o e (fun x => by rw [x] at hn; exact absurd hn (by simp)))))
  have XG := Hid.mk' (rowK XG.out KC.out (.inr HS7.out))
  have zn : ¬ ((z : Int) < 0) := by omega
  obtain ⟨y0, y1, y2⟩ := cellsQ2 XG.out
  obtain ⟨z0, z1, z2⟩ := cellsQ2 (rowB XA.out DA.out)
  clear KC
  go_wp2_with fail
  refine (eqBR_any C (.slice u K.length uc) (.slice va K.length vc) K wH ⟨_, _, rfl, UA.out⟩ ⟨_, _, rfl, VA.out.below DA.out⟩ hR.out).mono ?_
  rintro e wI ⟨rfl, hb⟩
  have DA := Hid.mk' (DA.out.trans (hb.mono DA.out.size))
  have UA := Hid.mk' (UA.out.below hb)
  have UF := Hid.mk' (UF.out.keptIn (KeptIn.of_below (lo := 0) (hi := 0) hb) (fun b o e hn => ⟨.inr (Nat.zero_le _), by have := (UL.out b o e (fun x => by rw [x] at hn; exact absurd hn (by simp))).2; have := XG.out.lt; omega⟩))
  have XG := Hid.mk' (rowB XG.out hb)
  clear hb y0 y1 y2 z0 z1 z2 zn
  obtain ⟨y0, y1, y2⟩ := cellsQ2 XG.out
  have KM := Hid.mk' (markBR_at C u uc w6.heap.size w7.heap.size K wI UA.out UF.out UL.out hR.out (by have := XG.out.lt; omega))
  go_wp2_with fail
  refine KM.out.mono ?_
  rintro e wJ ⟨rfl, um, hk⟩
  have DA := Hid.mk' (DA.out.trans (hk.below (by omega) DA.out.size))
  have XG := Hid.mk' (rowK XG.out hk (.inr (Nat.le_refl _)))
  have UM := Hid.mk' um
  clear hk um UA UF y0 y1 y2 KM
  obtain ⟨y0, y1, y2⟩ := cellsQ2 XG.out
  go_wp2_with fail
  refine (heldBR_any C (.slice u K.length uc) K.length wJ ⟨_, _, rfl, UM.out⟩ hR.out).mono ?_
  rintro e wK ⟨rfl, hb⟩
  have DA := Hid.mk' (DA.out.trans (hb.mono DA.out.size))
  have UM := Hid.mk' (UM.out.below hb)
  have XG := Hid.mk' (rowB XG.out hb)
  clear hb y0 y1 y2
  go_wp2_with fail
  refine (toNodeS_any a c l wK (HA.out.below (HB.out.trans (DA.out.mono HB.out.size))) hl2).mono ?_
  rintro e wM ⟨rfl, t9⟩
  have hb := t9.bl
  have DA := Hid.mk' (DA.out.trans (hb.mono DA.out.size))
  have UM := Hid.mk' (UM.out.below hb)
  have XG := Hid.mk' (rowB XG.out hb)
  have KI := Hid.mk' (KIM.out wM _ l.length t9.at (HRF.out.below (HB.out.trans (DA.out.mono HB.out.size))))
  clear hb t9
  go_wp2_with fail
  refine KI.out.mono ?_
  rintro e wN ⟨x', xc, rfl, hat, _, _, hb⟩
  have N9 := below_new wN (.cells #[.int .i64 C, .slice x' K.length xc] 26)
  have M9 := hb.trans (N9.mono hb.size)
  have DA := Hid.mk' (DA.out.trans (M9.mono DA.out.size))
  have UM := Hid.mk' (UM.out.below M9)
  have XG := Hid.mk' (rowB XG.out M9)
  have XH := Hid.mk' (rowQ2 wN 26 (.int .i64 C) (.slice x' K.length xc))
  have HAT := Hid.mk' (hat.below N9)
  clear hb hat N9 M9 KI
  generalize hWN : wN.alloc (.cells #[.int .i64 C, .slice x' K.length xc] 26) = WN at *
  obtain ⟨y0, y1, y2⟩ := cellsQ2 XH.out
  obtain ⟨z0, z1, z2⟩ := cellsQ2 (rowB XA.out DA.out)
  go_wp2_with fail
  clear hWN
  refine (eqBR_any C (.slice x' K.length xc) (.slice va K.length vc) K WN ⟨_, _, rfl, HAT.out⟩ ⟨_, _, rfl, VA.out.below DA.out⟩ hR.out).mono ?_
  rintro e wO ⟨rfl, hb⟩
  have DA := Hid.mk' (DA.out.trans (hb.mono DA.out.size))
  have UM := Hid.mk' (UM.out.below hb)
  have XG := Hid.mk' (rowB XG.out hb)
  clear hb y0 y1 y2 z0 z1 z2
  obtain ⟨y0, y1, y2⟩ := cellsQ2 XG.out
  go_wp2_with fail
  refine (heldBR_any C (.slice u K.length uc) K.length wO ⟨_, _, rfl, UM.out⟩ hR.out).mono ?_
  rintro e wQ ⟨rfl, hb⟩
  have DA := Hid.mk' (DA.out.trans (hb.mono DA.out.size))
  clear hb y0 y1 y2
  go_wp2
  go_ret
  exact ⟨rfl, HB.out.trans (DA.out.mono HB.out.size)⟩

set_option maxRecDepth 100000 in
set_option maxHeartbeats 12800000 in
theorem lawWN_any (a : Option Addr) (c : Nat) (l : List ND) (x : Int) (w : World) (ha : NsAt w a l) (hw : WideN l) (hB : NB l) (hl : (l.length : Int) ≤ 9223372036854775807) (hr : Refs w) :
    Calls Tryd.prog 4 #[.slice a l.length c, .int .i64 x] w fun e w' => e = .returned (.bool true) ∧ Below w.heap.size w w' := by
  have KS := szNodeS_any a c l 1048576 w ha hw (by omega) (by omega) hl
  have HA := Hid.mk' ha
  have HRF := Hid.mk' hr
  have HNB := Hid.mk' hB
  clear ha hw hr hB
  by_cases g1 : 1048576 < (l.length : Int) + nssz l
  · rw [if_pos g1] at KS
    have KS := Hid.mk' KS
    go_enter Tryd.func4, Tryd.ntmps4
    go_wp2_with fail
    refine KS.out.mono ?_
    rintro e w1 ⟨rfl, hb1⟩
    have HB := Hid.mk' hb1
    clear hb1 KS
    go_wp2
    go_ret
    exact ⟨rfl, HB.out⟩
  rw [if_neg g1] at KS
  have KS := Hid.mk' KS
  have zz : ¬ (1048576 - (l.length : Int) - nssz l < 0) := by omega
  have hl2 : (l.length : Int) + nssz l ≤ 1048576 := by omega
  have hR := Hid.mk' (wnF_len l x)
  have KSP : Hid (∀ (X : World) (a' : Option Addr) (c' : Nat), NsAt X a' l → Calls Tryd.prog 15 #[.slice a' l.length c', .int .i64 x] X fun e w' => ∃ v c', e = .returned (.agg #[.int .i64 (wnF l x).1, .slice v (wnF l x).2.length c']) ∧ BAt w' v (wnF l x).2 ∧ FrA w' v (wnF l x).2.length ∧ (∀ b o, v = some ⟨b, o, none⟩ → X.heap.size ≤ b) ∧ Below X.heap.size X w') := Hid.mk' (fun X a' c' h2 => specWN_any a' c' l x X h2 HNB.out hl2)
  have KIM : Hid (∀ (X : World) (a' : Option Addr) (c' : Nat), NsAt X a' l → Refs X → Calls Tryd.prog 16 #[.slice a' l.length c', .int .i64 x] X fun e w' => ∃ v c', e = .returned (.agg #[.int .i64 (wnF l x).1, .slice v (wnF l x).2.length c']) ∧ BAt w' v (wnF l x).2 ∧ FrA w' v (wnF l x).2.length ∧ (∀ b o, v = some ⟨b, o, none⟩ → X.heap.size ≤ b) ∧ Below X.heap.size X w') := Hid.mk' (fun X a' c' h2 h3 => implWN_any a' c' l x X h3 h2 HNB.out hl2)
  generalize (wnF l x).1 = C at *
  generalize (wnF l x).2 = K at *
  go_enter Tryd.func4, Tryd.ntmps4
  go_wp2_with fail
  refine KS.out.mono ?_
  rintro e w2 ⟨rfl, hb2⟩
  have HB := Hid.mk' hb2
  clear hb2 KS g1
  go_wp2_with fail
  clear zz
  refine (toNodeS_any a c l w2 (HA.out.below HB.out) hl2).mono ?_
  rintro e w3 ⟨rfl, t3⟩
  have HB := Hid.mk' (HB.out.trans (t3.bl.mono HB.out.size))
  have KSP := Hid.mk' (KSP.out w3 _ l.length t3.at)
  clear t3
  go_wp2_with fail
  refine KSP.out.mono ?_
  rintro e w4 ⟨va, vc, rfl, hat, _, _, hb⟩
  have N4 := below_new w4 (.cells #[.int .i64 C, .slice va K.length vc] 26)
  have M4 := hb.trans (N4.mono hb.size)
  have HB := Hid.mk' (HB.out.trans (M4.mono HB.out.size))
  have XA := Hid.mk' (rowQ2 w4 26 (.int .i64 C) (.slice va K.length vc))
  have VA := Hid.mk' (hat.below N4)
  clear hb hat KSP N4 M4
  generalize hWA : w4.alloc (.cells #[.int .i64 C, .slice va K.length vc] 26) = WA at *
  have HZ := Hid.mk' HB.out.size
  have HXA := Hid.mk' XA.out.lt
  go_wp2_with fail
  clear hWA
  refine (toNodeS_any a c l WA (HA.out.below HB.out) hl2).mono ?_
  rintro e w6 ⟨rfl, t6⟩
  have DA := Hid.mk' t6.bl
  have T6 := Hid.mk' t6.at
  obtain ⟨hi, hi1, hi2, hnm⟩ := t6.nm
  have NM6 := Hid.mk' hnm
  clear t6 hnm
  have KI := Hid.mk' (KIM.out w6 _ l.length T6.out (HRF.out.below (HB.out.trans (DA.out.mono HB.out.size))))
  go_wp2_with fail
  refine KI.out.mono ?_
  rintro e w7 ⟨u, uc, rfl, hat, hfa, hfr, hb⟩
  have N7 := below_new w7 (.cells #[.int .i64 C, .slice u K.length uc] 26)
  have M7 := hb.trans (N7.mono hb.size)
  have DA := Hid.mk' (DA.out.trans (M7.mono DA.out.size))
  have T6 := Hid.mk' (T6.out.below M7)
  have NM6 := Hid.mk' (NM6.out.keep M7.size (fun q _ _ hq => M7.block q hq))
  have XG := Hid.mk' (rowQ2 w7 26 (.int .i64 C) (.slice u K.length uc))
  have UL : Hid (∀ b o, u = some ⟨b, o, none⟩ → K ≠ [] → w6.heap.size ≤ b ∧ b < w7.heap.size) := Hid.mk' (fun b o e hne => ⟨hfr b o e, by
    rcases hat with h | ⟨b', o', e', hlt, _⟩
    · exact absurd h hne
    · rw [e] at e'; cases e'; exact hlt⟩)
  have UA := Hid.mk' (hat.below N7)
  have UF : Hid (FrA (w7.alloc (.cells #[.int .i64 C, .slice u K.length uc] 26)) u K.length) := Hid.mk' (hfa.keptIn (KeptIn.of_below (lo := 0) (hi := 0) N7) (fun b o e hn => ⟨.inr (Nat.zero_le _), (UL.out b o e (fun x => by rw [x] at hn; exact absurd hn (by simp))).2⟩))
  have HS7 := Hid.mk' hb.size
  clear hb hat hfa hfr N7 M7 KI
  generalize hWC : w7.alloc (.cells #[.int .i64 C, .slice u K.length uc] 26) = WC at *
  have HXG := Hid.mk' XG.out.lt
  obtain ⟨y0, y1, y2⟩ := cellsQ2 XG.out
  obtain ⟨z0, z1, z2⟩ := cellsQ2 (rowB XA.out DA.out)
  go_wp2_with fail
  clear hWC
  refine (eqBR_any C (.slice u K.length uc) (.slice va K.length vc) K WC ⟨_, _, rfl, UA.out⟩ ⟨_, _, rfl, VA.out.below DA.out⟩ hR.out).mono ?_
  rintro e w8 ⟨rfl, hb⟩
  have DA := Hid.mk' (DA.out.trans (hb.mono DA.out.size))
  have DC := Hid.mk' hb
  have T6 := Hid.mk' (T6.out.below hb)
  have NM6 := Hid.mk' (NM6.out.keep hb.size (fun q _ _ hq => hb.block q hq))
  clear hb y0 y1 y2 z0 z1 z2
  go_wp2_with fail
  refine (toNodeS_any a c l w8 (HA.out.below (HB.out.trans (DA.out.mono HB.out.size))) hl2).mono ?_
  rintro e wE ⟨rfl, t9⟩
  have hb := t9.bl
  have DA := Hid.mk' (DA.out.trans (hb.mono DA.out.size))
  have DC := Hid.mk' (DC.out.trans (hb.mono DC.out.size))
  have T6 := Hid.mk' (T6.out.below hb)
  have NM6 := Hid.mk' (NM6.out.keep hb.size (fun q _ _ hq => hb.block q hq))
  have T9 := Hid.mk' t9.at
  clear hb t9
  go_wp2_with fail
  refine (eqNodeS_any _ _ _ _ l wE T6.out T9.out hl2).mono ?_
  rintro e wF ⟨rfl, hb⟩
  have DA := Hid.mk' (DA.out.trans (hb.mono DA.out.size))
  have DC := Hid.mk' (DC.out.trans (hb.mono DC.out.size))
  have NM6 := Hid.mk' (NM6.out.keep hb.size (fun q _ _ hq => hb.block q hq))
  clear hb T6 T9
  go_wp2_with fail
  refine (markNodeS_any WA.heap.size hi l.length l wF NM6.out hl2).mono ?_
  rintro e wH ⟨⟨z, rfl⟩, hk⟩
  have DA := Hid.mk' (DA.out.trans (hk.below (Nat.le_refl _) DA.out.size))
  have KC := Hid.mk' ((KeptIn.of_below (lo := WA.heap.size) (hi := w6.heap.size) DC.out).trans (hk.mono (Nat.le_refl _) (by omega)))
  clear hk NM6 DC
  have UA := Hid.mk' (UA.out.keptIn KC.out (fun b o e hne => .inr (UL.out b o e hne).1))
  have UF := Hid.mk' (UF.out.keptIn KC.out (fun b o e hn => (fun hh => ⟨.inr hh.1, by have := hh.2; have := HXG.out; omega⟩) (UL.out b o e (fun x => by rw [x] at hn; exact absurd hn (by simp)))))
  have XG := Hid.mk' (rowK XG.out KC.out (.inr HS7.out))
  have zn : ¬ ((z : Int) < 0) := by omega
  obtain ⟨y0, y1, y2⟩ := cellsQ2 XG.out
  obtain ⟨z0, z1, z2⟩ := cellsQ2 (rowB XA.out DA.out)
  clear KC
  go_wp2_with fail
  refine (eqBR_any C (.slice u K.length uc) (.slice va K.length vc) K wH ⟨_, _, rfl, UA.out⟩ ⟨_, _, rfl, VA.out.below DA.out⟩ hR.out).mono ?_
  rintro e wI ⟨rfl, hb⟩
  have DA := Hid.mk' (DA.out.trans (hb.mono DA.out.size))
  have UA := Hid.mk' (UA.out.below hb)
  have UF := Hid.mk' (UF.out.keptIn (KeptIn.of_below (lo := 0) (hi := 0) hb) (fun b o e hn => ⟨.inr (Nat.zero_le _), by have := (UL.out b o e (fun x => by rw [x] at hn; exact absurd hn (by simp))).2; have := XG.out.lt; omega⟩))
  have XG := Hid.mk' (rowB XG.out hb)
  clear hb y0 y1 y2 z0 z1 z2 zn
  obtain ⟨y0, y1, y2⟩ := cellsQ2 XG.out
  have KM := Hid.mk' (markBR_at C u uc w6.heap.size w7.heap.size K wI UA.out UF.out UL.out hR.out (by have := XG.out.lt; omega))
  go_wp2_with fail
  refine KM.out.mono ?_
  rintro e wJ ⟨rfl, um, hk⟩
  have DA := Hid.mk' (DA.out.trans (hk.below (by omega) DA.out.size))
  have XG := Hid.mk' (rowK XG.out hk (.inr (Nat.le_refl _)))
  have UM := Hid.mk' um
  clear hk um UA UF y0 y1 y2 KM
  obtain ⟨y0, y1, y2⟩ := cellsQ2 XG.out
  go_wp2_with fail
  refine (heldBR_any C (.slice u K.length uc) K.length wJ ⟨_, _, rfl, UM.out⟩ hR.out).mono ?_
  rintro e wK ⟨rfl, hb⟩
  have DA := Hid.mk' (DA.out.trans (hb.mono DA.out.size))
  have UM := Hid.mk' (UM.out.below hb)
  have XG := Hid.mk' (rowB XG.out hb)
  clear hb y0 y1 y2
  go_wp2_with fail
  refine (toNodeS_any a c l wK (HA.out.below (HB.out.trans (DA.out.mono HB.out.size))) hl2).mono ?_
  rintro e wM ⟨rfl, t9⟩
  have hb := t9.bl
  have DA := Hid.mk' (DA.out.trans (hb.mono DA.out.size))
  have UM := Hid.mk' (UM.out.below hb)
  have XG := Hid.mk' (rowB XG.out hb)
  have KI := Hid.mk' (KIM.out wM _ l.length t9.at (HRF.out.below (HB.out.trans (DA.out.mono HB.out.size))))
  clear hb t9
  go_wp2_with fail
  refine KI.out.mono ?_
  rintro e wN ⟨x', xc, rfl, hat, _, _, hb⟩
  have N9 := below_new wN (.cells #[.int .i64 C, .slice x' K.length xc] 26)
  have M9 := hb.trans (N9.mono hb.size)
  have DA := Hid.mk' (DA.out.trans (M9.mono DA.out.size))
  have UM := Hid.mk' (UM.out.below M9)
  have XG := Hid.mk' (rowB XG.out M9)
  have XH := Hid.mk' (rowQ2 wN 26 (.int .i64 C) (.slice x' K.length xc))
  have HAT := Hid.mk' (hat.below N9)
  clear hb hat N9 M9 KI
  generalize hWN : wN.alloc (.cells #[.int .i64 C, .slice x' K.length xc] 26) = WN at *
  obtain ⟨y0, y1, y2⟩ := cellsQ2 XH.out
  obtain ⟨z0, z1, z2⟩ := cellsQ2 (rowB XA.out DA.out)
  go_wp2_with fail
  clear hWN
  refine (eqBR_any C (.slice x' K.length xc) (.slice va K.length vc) K WN ⟨_, _, rfl, HAT.out⟩ ⟨_, _, rfl, VA.out.below DA.out⟩ hR.out).mono ?_
  rintro e wO ⟨rfl, hb⟩
  have DA := Hid.mk' (DA.out.trans (hb.mono DA.out.size))
  have UM := Hid.mk' (UM.out.below hb)
  have XG := Hid.mk' (rowB XG.out hb)
  clear hb y0 y1 y2 z0 z1 z2
  obtain ⟨y0, y1, y2⟩ := cellsQ2 XG.out
  go_wp2_with fail
  refine (heldBR_any C (.slice u K.length uc) K.length wO ⟨_, _, rfl, UM.out⟩ hR.out).mono ?_
  rintro e wQ ⟨rfl, hb⟩
  have DA := Hid.mk' (DA.out.trans (hb.mono DA.out.size))
  clear hb y0 y1 y2
  go_wp2
  go_ret
  exact ⟨rfl, HB.out.trans (DA.out.mono HB.out.size)⟩

end Go.Proofs.YtcjnfodkppcpoaaDoor
