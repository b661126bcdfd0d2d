/- EscapeAll: the program's side, and the law. -/
import Derived.Test.YtlmmkmcchfnclaaDoorRh
namespace Go.Proofs.YtlmmkmcchfnclaaDoor
open Go.RowKit Go.Maps
set_option linter.unusedVariables false
set_option linter.unusedSimpArgs false

set_option maxRecDepth 100000 in
set_option maxHeartbeats 1600000 in
theorem implEA_any (a : Option Addr) (d : Nat) (l : List Int) (w : World) (hr : Refs w) (hE : ErrT w) (ha : BAt w a l) (hB : Bytes l) (hl : (l.length : Int) ≤ 1048576) :
    Calls Tryd.prog 6 #[.slice a l.length d] w fun e w' => KqP (eaF l) w e w' := by
  have N0 := below_new w (.cells #[.int .i64 0, .slice none 0 0] 24)
  have HB0 := Hid.mk' N0
  have HR0 := Hid.mk' (rowQ2 w 24 (.int .i64 0) (.slice none 0 0))
  have KT := Hid.mk' (escapedWhole_any a d l _ (hr.below N0) (ha.below N0) hB hl)
  have HE := Hid.mk' hE
  generalize eaF l = R at *
  clear ha hB N0 hr hE
  generalize hW : w.alloc (.cells #[.int .i64 0, .slice none 0 0] 24) = W at *
  obtain ⟨C, K⟩ := R
  go_enter Tryd.func6, Tryd.ntmps6
  go_wp2_with fail
  clear hW
  refine KT.out.mono ?_
  rintro e w2 ⟨v, c', rfl, hat, hfa, hfr, hb2⟩
  dsimp only at hat hfa
  have HB := Hid.mk' (HB0.out.trans (hb2.mono HB0.out.size))
  have HR := Hid.mk' (rowB HR0.out hb2)
  have HS0 := Hid.mk' HB0.out.size
  have HWW := Hid.mk' HR0.out.lt
  have HE2 := HE.out.below HB.out
  have KC := Hid.mk' (codeOf_any C w2 HE2)
  have HW := Hid.mk' HR.out.lt
  have hv : (∀ b o, v = some ⟨b, o, none⟩ → W.heap.size ≤ b) := hfr
  clear hb2 KT HB0 HE HE2
  obtain ⟨y0, y1, y2⟩ := cellsQ2 HR.out
  obtain ⟨f0, f1⟩ := frzQ2 HR.out
  go_wp2_with fail
  refine KC.out.mono ?_
  rintro e w3 ⟨rfl, hb3⟩
  have HB := Hid.mk' (HB.out.trans (hb3.mono HB.out.size))
  have HR := Hid.mk' (rowB HR.out hb3)
  have HAT := Hid.mk' (hat.below hb3)
  have HFA : Hid (FrA w3 v K.length) := Hid.mk' (fun b o e k hk => by
    have hne : K ≠ [] := fun x => by rw [x] at hk; exact absurd hk (by simp)
    have hlt : b < w2.heap.size := by
      rcases hat with h | ⟨b', o', e', hlt, _⟩
      · exact absurd h hne
      · rw [e] at e'; cases e'; exact hlt
    have := hfa b o e k hk
    unfold World.frozen? at this ⊢
    rw [hb3.block b hlt]
    exact this)
  have HV := Hid.mk' (show ∀ b o, v = some ⟨b, o, none⟩ → w.heap.size < b from fun b o e => by have := hv b o e; have := HWW.out; omega)
  clear hb3 KC y0 y1 y2 f0 f1 hat hfa hfr hv
  obtain ⟨y0, y1, y2⟩ := cellsQ2 HR.out
  obtain ⟨f0, f1⟩ := frzQ2 HR.out
  go_wp2_with fail
  refine bodyPost_ret (v := .agg #[.int .i64 C, .slice v K.length c']) (by simp [results, Tryd.results6, go_sem, *]) rfl ?_
  refine ⟨v, c', rfl, ?_, ?_, (fun b o e => Nat.le_of_lt (HV.out b o e)), (HB.out.setCell (p := ⟨w.heap.size, 0, none⟩) (by simp) _).setCell (p := ⟨w.heap.size, 1, none⟩) (by simp) _⟩
  · exact HAT.out.setTwo (fun b o e _ => by have := HV.out b o e; omega)
  · exact HFA.out.setTwo

set_option maxRecDepth 100000 in
set_option maxHeartbeats 12800000 in
theorem lawEA_any (q : Option Addr) (d : Nat) (l : List Int) (w : World) (hq : BAt w q l) (hu : Bytes l) (hm : (l.length : Int) ≤ 9223372036854775807) (hr : Refs w) (hE : ErrT w) :
    Calls Tryd.prog 3 #[.slice q l.length d] w fun e w' => e = .returned (.bool true) ∧ Below w.heap.size w w' := by
  have HQ := Hid.mk' hq
  have HB := Hid.mk' (Below.refl w.heap.size w)
  have HU := Hid.mk' hu
  have HRF := Hid.mk' hr
  have HER := Hid.mk' hE
  clear hq hu hr hE
  by_cases wideL : (l.length : Int) > 1048576
  · go_enter Tryd.func3, Tryd.ntmps3
    go_wp2
    go_ret
    exact ⟨rfl, HB.out⟩
  have ll : (l.length : Int) ≤ 1048576 := by omega
  have hR := Hid.mk' (eaF_len l)
  have KSP : Hid (∀ (X : World) (v1 : Nat), X.rowIs v1 5 l.length (bv l) → Calls Tryd.prog 4 #[.slice (some ⟨v1, 0, none⟩) l.length l.length] X fun e w' => ∃ v c', e = .returned (.agg #[.int .i64 (eaF l).1, .slice v (eaF l).2.length c']) ∧ BAt w' v (eaF l).2 ∧ FrA w' v (eaF l).2.length ∧ (∀ b o, v = some ⟨b, o, none⟩ → X.heap.size ≤ b) ∧ Below X.heap.size X w') := Hid.mk' (fun X v1 h2 => specEA_any _ _ l X (.of_row h2) HU.out ll)
  have KIM : Hid (∀ (X : World) (v1 : Nat), X.rowIs v1 5 l.length (bv l) → Refs X → ErrT X → Calls Tryd.prog 6 #[.slice (some ⟨v1, 0, none⟩) l.length l.length] X fun e w' => ∃ v c', e = .returned (.agg #[.int .i64 (eaF l).1, .slice v (eaF l).2.length c']) ∧ BAt w' v (eaF l).2 ∧ FrA w' v (eaF l).2.length ∧ (∀ b o, v = some ⟨b, o, none⟩ → X.heap.size ≤ b) ∧ Below X.heap.size X w') := Hid.mk' (fun X v1 h2 h3 h4 => implEA_any _ _ l X h3 h4 (.of_row h2) HU.out ll)
  generalize (eaF l).1 = C at *
  generalize (eaF l).2 = K at *
  go_enter Tryd.func3, Tryd.ntmps3
  go_wp2_with fail
  clear wideL
  refine (toByteS_any q d l w HQ.out ll).mono ?_
  rintro e w3 ⟨v1, rfl, _, rv, hb⟩
  have HB := Hid.mk' (HB.out.trans (hb.mono HB.out.size))
  have KSP := Hid.mk' (KSP.out w3 v1 rv)
  clear hb rv
  go_wp2_with fail
  refine KSP.out.mono ?_
  rintro e w4 ⟨va, vc, rfl, hat, _, _, hb⟩
  have N4 := below_new w4 (.cells #[.int .i64 C, .slice va K.length vc] 24)
  have M4 := hb.trans (N4.mono hb.size)
  have HB := Hid.mk' (HB.out.trans (M4.mono HB.out.size))
  have XA := Hid.mk' (rowQ2 w4 24 (.int .i64 C) (.slice va K.length vc))
  have VA := Hid.mk' (hat.below N4)
  clear hb hat KSP N4 M4
  generalize hWA : w4.alloc (.cells #[.int .i64 C, .slice va K.length vc] 24) = WA at *
  have HZ := Hid.mk' HB.out.size
  have HXA := Hid.mk' XA.out.lt
  go_wp2_with fail
  clear hWA
  refine (toByteS_any q d l WA (HQ.out.below HB.out) ll).mono ?_
  rintro e w6 ⟨v2, rfl, hv2, rv, hb⟩
  have HV2 := Hid.mk' hv2
  have DA := Hid.mk' hb
  have V2 := Hid.mk' rv
  clear hb rv hv2
  have KI := Hid.mk' (KIM.out w6 v2 V2.out (HRF.out.below (HB.out.trans (DA.out.mono HB.out.size))) (HER.out.below (HB.out.trans (DA.out.mono HB.out.size))))
  go_wp2_with fail
  refine KI.out.mono ?_
  rintro e w7 ⟨u, uc, rfl, hat, hfa, hfr, hb⟩
  have N7 := below_new w7 (.cells #[.int .i64 C, .slice u K.length uc] 24)
  have M7 := hb.trans (N7.mono hb.size)
  have DA := Hid.mk' (DA.out.trans (M7.mono DA.out.size))
  have V2L := Hid.mk' V2.out.lt
  have V2 := Hid.mk' (rowB V2.out M7)
  have XG := Hid.mk' (rowQ2 w7 24 (.int .i64 C) (.slice u K.length uc))
  have UL : Hid (∀ b o, u = some ⟨b, o, none⟩ → K ≠ [] → w6.heap.size ≤ b ∧ b < w7.heap.size) := Hid.mk' (fun b o e hne => ⟨hfr b o e, by
    rcases hat with h | ⟨b', o', e', hlt, _⟩
    · exact absurd h hne
    · rw [e] at e'; cases e'; exact hlt⟩)
  have UA := Hid.mk' (hat.below N7)
  have UF : Hid (FrA (w7.alloc (.cells #[.int .i64 C, .slice u K.length uc] 24)) u K.length) := Hid.mk' (hfa.keptIn (KeptIn.of_below (lo := 0) (hi := 0) N7) (fun b o e hn => ⟨.inr (Nat.zero_le _), (UL.out b o e (fun x => by rw [x] at hn; exact absurd hn (by simp))).2⟩))
  have HS7 := Hid.mk' hb.size
  clear hb hat hfa hfr N7 M7 KI
  generalize hWC : w7.alloc (.cells #[.int .i64 C, .slice u K.length uc] 24) = WC at *
  have HXG := Hid.mk' XG.out.lt
  obtain ⟨y0, y1, y2⟩ := cellsQ2 XG.out
  obtain ⟨z0, z1, z2⟩ := cellsQ2 (rowB XA.out DA.out)
  go_wp2_with fail
  clear hWC
  refine (eqBR_any C (.slice u K.length uc) (.slice va K.length vc) K WC ⟨_, _, rfl, UA.out⟩ ⟨_, _, rfl, VA.out.below DA.out⟩ hR.out).mono ?_
  rintro e w8 ⟨rfl, hb⟩
  have DA := Hid.mk' (DA.out.trans (hb.mono DA.out.size))
  have DC := Hid.mk' hb
  clear hb y0 y1 y2 z0 z1 z2
  go_wp2_with fail
  refine (toByteS_any q d l w8 (HQ.out.below (HB.out.trans (DA.out.mono HB.out.size))) ll).mono ?_
  rintro e wE ⟨v3, rfl, _, rv, hb⟩
  have DA := Hid.mk' (DA.out.trans (hb.mono DA.out.size))
  have DC := Hid.mk' (DC.out.trans (hb.mono DC.out.size))
  have V3 := Hid.mk' rv
  clear hb rv
  go_wp2_with fail
  refine (eqByteS_any _ _ _ _ l wE (.of_row (rowB V2.out DC.out)) (.of_row V3.out) ll).mono ?_
  rintro e wF ⟨rfl, hb⟩
  have DA := Hid.mk' (DA.out.trans (hb.mono DA.out.size))
  have DC := Hid.mk' (DC.out.trans (hb.mono DC.out.size))
  clear hb V3
  have KM := Hid.mk' (markByteS_row v2 l.length l.length l.length 1 (bv l) wF (rowB V2.out DC.out) (Nat.le_refl _) (by omega))
  go_wp2_with fail
  refine KM.out.mono ?_
  rintro e wH ⟨rfl, _, hk⟩
  have DA := Hid.mk' (DA.out.trans (hk.below (by have := HV2.out; omega) DA.out.size))
  have KC := Hid.mk' ((KeptIn.of_below (lo := WA.heap.size) (hi := w6.heap.size) DC.out).trans (hk.mono (by have := HV2.out; omega) (by have := V2L.out; omega)))
  clear hk V2 KM DC
  have UA := Hid.mk' (UA.out.keptIn KC.out (fun b o e hne => .inr (UL.out b o e hne).1))
  have UF := Hid.mk' (UF.out.keptIn KC.out (fun b o e hn => (fun hh => ⟨.inr hh.1, by have := hh.2; have := HXG.out; omega⟩) (UL.out b o e (fun x => by rw [x] at hn; exact absurd hn (by simp)))))
  have XG := Hid.mk' (rowK XG.out KC.out (.inr HS7.out))
  have kz : ¬ ((((1 : Nat) : Int)) + (l.length : Int) < 0) := by omega
  obtain ⟨y0, y1, y2⟩ := cellsQ2 XG.out
  obtain ⟨z0, z1, z2⟩ := cellsQ2 (rowB XA.out DA.out)
  clear KC
  go_wp2_with fail
  refine (eqBR_any C (.slice u K.length uc) (.slice va K.length vc) K wH ⟨_, _, rfl, UA.out⟩ ⟨_, _, rfl, VA.out.below DA.out⟩ hR.out).mono ?_
  rintro e wI ⟨rfl, hb⟩
  have DA := Hid.mk' (DA.out.trans (hb.mono DA.out.size))
  have UA := Hid.mk' (UA.out.below hb)
  have UF := Hid.mk' (UF.out.keptIn (KeptIn.of_below (lo := 0) (hi := 0) hb) (fun b o e hn => ⟨.inr (Nat.zero_le _), by have := (UL.out b o e (fun x => by rw [x] at hn; exact absurd hn (by simp))).2; have := XG.out.lt; omega⟩))
  have XG := Hid.mk' (rowB XG.out hb)
  clear hb y0 y1 y2 z0 z1 z2 kz
  obtain ⟨y0, y1, y2⟩ := cellsQ2 XG.out
  have KM := Hid.mk' (markBR_at C u uc w6.heap.size w7.heap.size K wI UA.out UF.out UL.out hR.out (by have := XG.out.lt; omega))
  go_wp2_with fail
  refine KM.out.mono ?_
  rintro e wJ ⟨rfl, um, hk⟩
  have DA := Hid.mk' (DA.out.trans (hk.below (by have := HV2.out; have := V2L.out; omega) DA.out.size))
  have XG := Hid.mk' (rowK XG.out hk (.inr (Nat.le_refl _)))
  have UM := Hid.mk' um
  clear hk um UA UF y0 y1 y2 KM
  obtain ⟨y0, y1, y2⟩ := cellsQ2 XG.out
  go_wp2_with fail
  refine (heldBR_any C (.slice u K.length uc) K.length wJ ⟨_, _, rfl, UM.out⟩ hR.out).mono ?_
  rintro e wK ⟨rfl, hb⟩
  have DA := Hid.mk' (DA.out.trans (hb.mono DA.out.size))
  have UM := Hid.mk' (UM.out.below hb)
  have XG := Hid.mk' (rowB XG.out hb)
  clear hb y0 y1 y2
  go_wp2_with fail
  refine (toByteS_any q d l wK (HQ.out.below (HB.out.trans (DA.out.mono HB.out.size))) ll).mono ?_
  rintro e wM ⟨v4, rfl, _, rv, hb⟩
  have DA := Hid.mk' (DA.out.trans (hb.mono DA.out.size))
  have UM := Hid.mk' (UM.out.below hb)
  have XG := Hid.mk' (rowB XG.out hb)
  have KI := Hid.mk' (KIM.out wM v4 rv (HRF.out.below (HB.out.trans (DA.out.mono HB.out.size))) (HER.out.below (HB.out.trans (DA.out.mono HB.out.size))))
  clear hb rv
  go_wp2_with fail
  refine KI.out.mono ?_
  rintro e wN ⟨x, xc, rfl, hat, _, _, hb⟩
  have N9 := below_new wN (.cells #[.int .i64 C, .slice x K.length xc] 24)
  have M9 := hb.trans (N9.mono hb.size)
  have DA := Hid.mk' (DA.out.trans (M9.mono DA.out.size))
  have UM := Hid.mk' (UM.out.below M9)
  have XG := Hid.mk' (rowB XG.out M9)
  have XH := Hid.mk' (rowQ2 wN 24 (.int .i64 C) (.slice x K.length xc))
  have HAT := Hid.mk' (hat.below N9)
  clear hb hat N9 M9 KI
  generalize hWN : wN.alloc (.cells #[.int .i64 C, .slice x K.length xc] 24) = WN at *
  obtain ⟨y0, y1, y2⟩ := cellsQ2 XH.out
  obtain ⟨z0, z1, z2⟩ := cellsQ2 (rowB XA.out DA.out)
  go_wp2_with fail
  clear hWN
  refine (eqBR_any C (.slice x K.length xc) (.slice va K.length vc) K WN ⟨_, _, rfl, HAT.out⟩ ⟨_, _, rfl, VA.out.below DA.out⟩ hR.out).mono ?_
  rintro e wO ⟨rfl, hb⟩
  have DA := Hid.mk' (DA.out.trans (hb.mono DA.out.size))
  have UM := Hid.mk' (UM.out.below hb)
  have XG := Hid.mk' (rowB XG.out hb)
  clear hb y0 y1 y2 z0 z1 z2
  obtain ⟨y0, y1, y2⟩ := cellsQ2 XG.out
  go_wp2_with fail
  refine (heldBR_any C (.slice u K.length uc) K.length wO ⟨_, _, rfl, UM.out⟩ hR.out).mono ?_
  rintro e wQ ⟨rfl, hb⟩
  have DA := Hid.mk' (DA.out.trans (hb.mono DA.out.size))
  clear hb y0 y1 y2
  go_wp2
  go_ret
  exact ⟨rfl, HB.out.trans (DA.out.mono HB.out.size)⟩

end Go.Proofs.YtlmmkmcchfnclaaDoor
