/- The edges of a node, the program's side. -/
import Derived.Test.YtcjnfodkppcpoaaDoorXV6
namespace Go.Proofs.YtcjnfodkppcpoaaDoor
open Go.RowKit Go.Maps
set_option linter.unusedVariables false
set_option linter.unusedSimpArgs false

theorem tf_end {s : ByteArray} {l : List AT} (h : tfault (startT s l) = 0) : tfault ⟨3, 0, s, [], false⟩ = 0 := by
  unfold startT at h
  rw [tf_start] at h
  have hn : nmB s = true := by
    split at h
    · assumption
    · exact absurd h (by decide)
  unfold tfault
  simp [tform, hn, afault]
  rfl

theorem wt_end {s : ByteArray} (h : tfault ⟨3, 0, s, [], false⟩ = 0) : wtCode ⟨3, 0, s, [], false⟩ = 0 ∧ wtText ⟨3, 0, s, [], false⟩ = ⟨([60, 47] ++ (s.data.toList ++ [62])).toArray⟩ := by
  unfold wtCode wtText
  rw [if_pos h, if_pos h]
  refine ⟨rfl, ?_⟩
  show (⟨#[60, 47]⟩ ++ s) ++ ⟨#[62]⟩ = _
  rw [show (⟨#[60, 47]⟩ : ByteArray) = ⟨([60, 47] : List UInt8).toArray⟩ from rfl, cat_ba, cat_ba]
  simp

theorem wt_start {s : ByteArray} {l : List AT} (h : wtCode (startT s l) = 0) : wtText (startT s l) = ⟨(openT s l false).toArray⟩ := by
  unfold wtCode at h
  unfold wtText
  split at h
  · rename_i h1
    rw [if_pos h1]
    rw [if_pos (show (startT s l).kd = 2 from rfl)] at h
    rw [if_neg (show ¬ (startT s l).kd = 1 from by show ¬ (2 : Int) = 1; decide), if_pos (show (startT s l).kd = 2 from rfl)]
    unfold wsCode at h
    unfold wsText
    split at h
    · exact absurd h (by decide)
    · rename_i h2
      rw [if_neg h2]
      rfl
  · contradiction

set_option maxRecDepth 100000 in
set_option maxHeartbeats 3200000 in
theorem edgeOf_any (l : List ND) (G : Good l) (hB : NB l) (hl : (l.length : Int) + nssz l ≤ 1048576) (k : Nat) (hk : k < l.length) (b : Bool) (p p' : Option Addr) (pc pc' : Nat) (w : World) (hr : Refs w) (hat : AAt w p (ndK l k).at_) (htx : BAt w p' (ndK l k).tx) :
    Calls Tryd.prog 53 #[.agg #[.int .i64 (ndK l k).up, .string (ndK l k).tg, .slice p (ndK l k).at_.length pc, .slice p' (ndK l k).tx.length pc'], .int .i64 (sideI (k, b))] w fun e w' => e = .returned (.agg #[.int .i64 0, .string ⟨(egE l (k, b)).toArray⟩]) ∧ Below w.heap.size w w' := by
  have hsz := nsz_k l k hk
  unfold nsz at hsz
  have N0 := below_new w (.cells #[.int .i64 (ndK l k).up, .string (ndK l k).tg, .slice p (ndK l k).at_.length pc, .slice p' (ndK l k).tx.length pc'] 49)
  have N1 := below_new (w.alloc (.cells #[.int .i64 (ndK l k).up, .string (ndK l k).tg, .slice p (ndK l k).at_.length pc, .slice p' (ndK l k).tx.length pc'] 49)) (.cells #[.int .i64 0, .string ⟨#[]⟩] 85)
  have B0 := N0.trans (N1.mono N0.size)
  have RN := Hid.mk' (rowB (row4 w 49 (.int .i64 (ndK l k).up) (.string (ndK l k).tg) (.slice p (ndK l k).at_.length pc) (.slice p' (ndK l k).tx.length pc')) N1)
  have RT := Hid.mk' (rowR (w.alloc (.cells #[.int .i64 (ndK l k).up, .string (ndK l k).tg, .slice p (ndK l k).at_.length pc, .slice p' (ndK l k).tx.length pc'] 49)) 85 (.int .i64 0) (.string ⟨#[]⟩))
  have HB0 := Hid.mk' B0
  have HRF := Hid.mk' (hr.below B0)
  have HAT := Hid.mk' (hat.below B0)
  have HTX := Hid.mk' (htx.below B0)
  have VB := Hid.mk' (hB k hk)
  have e0 : (w.alloc (.cells #[.int .i64 (ndK l k).up, .string (ndK l k).tg, .slice p (ndK l k).at_.length pc, .slice p' (ndK l k).tx.length pc'] 49)).heap.size = w.heap.size + 1 := by simp
  rw [e0] at RT
  clear hr hat htx N0 N1 B0 e0 hB
  generalize hW : (w.alloc (.cells #[.int .i64 (ndK l k).up, .string (ndK l k).tg, .slice p (ndK l k).at_.length pc, .slice p' (ndK l k).tx.length pc'] 49)).alloc (.cells #[.int .i64 0, .string ⟨#[]⟩] 85) = W at *
  obtain ⟨r0, r1, r2, r3, r4⟩ := cells4 RN.out
  cases b with
  | false =>
    have es : sideI (k, false) = 0 := rfl
    rw [es]
    by_cases ht : ((ndK l k).tg.toList == []) = true
    · have h240 := G.text hk ht
      have E1 : Hid (egE l (k, false) = escAll (ndK l k).tx) := Hid.mk' (by unfold egE egN; dsimp only; rw [if_pos ht])
      have KE := implET_any p' pc' (ndK l k).tx W HRF.out HTX.out VB.out.2 (by omega)
      have c1 : etCode (ndK l k).tx = 0 := by unfold etCode; rw [if_neg (by omega)]
      have c2 : etText (ndK l k).tx = ⟨(escAll (ndK l k).tx).toArray⟩ := by unfold etText; rw [if_neg (by omega)]
      rw [c1, c2] at KE
      have KE := Hid.mk' KE
      clear HRF HAT HTX VB c1 c2
      generalize ndK l k = t at *
      go_enter Tryd.func53, Tryd.ntmps53
      go_wp2_with fail
      clear hW
      refine KE.out.mono ?_
      rintro e w2 ⟨rfl, hb2⟩
      have HB := Hid.mk' (HB0.out.trans (hb2.mono HB0.out.size))
      obtain ⟨d0, d1, d2, d3, d4⟩ := cellsR (rowB RT.out hb2)
      clear hb2 KE r0 r1 r2 r3 r4
      go_wp2
      exact bodyPost_ret (v := .agg #[.int .i64 0, .string ⟨(escAll t.tx).toArray⟩]) (by simp [results, Tryd.results53, go_sem, *]) rfl ⟨by rw [E1.out], (HB.out.setCell (p := ⟨w.heap.size + 1, 0, none⟩) (by simp) _).setCell (p := ⟨w.heap.size + 1, 1, none⟩) (by simp) _⟩
    · have hf : ((ndK l k).tg.toList == []) = false := by simpa using ht
      have h0 : wtCode (startT (ndK l k).tg (ndK l k).at_) = 0 := by have := G.op hk; rwa [opF_el hf] at this
      have E1 : Hid (egE l (k, false) = openT (ndK l k).tg (ndK l k).at_ false) := Hid.mk' (by unfold egE egN; dsimp only; rw [hf]; rfl)
      have KE := implOT_any (ndK l k).tg (ndK l k).at_ p pc W HRF.out HAT.out VB.out.1 (by omega) (by omega)
      rw [h0, wt_start h0] at KE
      have KE := Hid.mk' KE
      clear HRF HAT HTX VB h0 ht
      generalize ndK l k = t at *
      go_enter Tryd.func53, Tryd.ntmps53
      go_wp2_with fail
      clear hW
      refine KE.out.mono ?_
      rintro e w2 ⟨rfl, hb2⟩
      have HB := Hid.mk' (HB0.out.trans (hb2.mono HB0.out.size))
      obtain ⟨d0, d1, d2, d3, d4⟩ := cellsR (rowB RT.out hb2)
      clear hb2 KE r0 r1 r2 r3 r4
      go_wp2
      exact bodyPost_ret (v := .agg #[.int .i64 0, .string ⟨(openT t.tg t.at_ false).toArray⟩]) (by simp [results, Tryd.results53, go_sem, *]) rfl ⟨by rw [E1.out], (HB.out.setCell (p := ⟨w.heap.size + 1, 0, none⟩) (by simp) _).setCell (p := ⟨w.heap.size + 1, 1, none⟩) (by simp) _⟩
  | true =>
    have es : sideI (k, true) = 1 := rfl
    rw [es]
    have KM := Hid.mk' (markOf_any (ndK l k) p p' pc pc' W)
    have vS : ∃ x y z, mkV (ndK l k) (.slice p (ndK l k).at_.length pc) = .slice x y z := by
      unfold mkV
      split
      · exact ⟨_, _, _, rfl⟩
      · exact ⟨_, _, _, rfl⟩
    obtain ⟨v1, v2, v3, hv⟩ := vS
    rw [hv] at KM
    have hk1 : (decide (mkK (ndK l k) = 1) && !voidB (mkS (ndK l k))) = holdB (ndK l k) := by
      have hkd := (G.kind hk).1
      unfold holdB
      rcases mkK_cases (ndK l k) with ⟨q1, _⟩ | ⟨_, q2, q3⟩ | ⟨_, q2, q3⟩
      · rw [hkd] at q1; exact absurd q1 (by decide)
      · rw [q3, q2]; rfl
      · have : mkS (ndK l k) = (ndK l k).tg := by unfold mkS; rw [if_pos q3]
        rw [q3, this, q2]; rfl
    clear hv
    go_enter Tryd.func53, Tryd.ntmps53
    go_wp2_with fail
    clear hW
    refine KM.out.mono ?_
    rintro e w1 ⟨rfl, hb1⟩
    clear KM
    have KH := mayHold_any (mkK (ndK l k)) (mkS (ndK l k)) (.slice v1 v2 v3) w1
    rw [hk1] at KH
    have KH := Hid.mk' KH
    have HB1 := Hid.mk' hb1
    clear hb1 r0 r1 r2 r3 r4 hk1
    go_wp2_with fail
    refine KH.out.mono ?_
    rintro e w2 ⟨rfl, hb2⟩
    have B2 := HB1.out.trans (hb2.mono HB1.out.size)
    have HB2 := Hid.mk' B2
    clear hb2 KH
    by_cases hh : holdB (ndK l k) = true
    · have hf : ((ndK l k).tg.toList == []) = false := by
        unfold holdB at hh
        simp only [Bool.and_eq_true, Bool.not_eq_true'] at hh
        exact hh.1
      have g4 := (G.el hk hf).2.2.2
      obtain ⟨q1, q2⟩ := wt_end (tf_end g4)
      have E1 : Hid (egE l (k, true) = [60, 47] ++ ((ndK l k).tg.data.toList ++ [62])) := Hid.mk' (by unfold egE egN; dsimp only; rw [if_pos hh])
      have KE := implWT_any ⟨3, 0, (ndK l k).tg, [], false⟩ none 0 w2 (HRF.out.below B2) (.inl rfl) (fun i hi => absurd hi (Nat.not_lt_zero _)) (by show ((ndK l k).tg.size : Int) ≤ _; omega) (by simp [asz])
      rw [q1, q2] at KE
      have KE := Hid.mk' KE
      obtain ⟨r0, r1, r2, r3, r4⟩ := cells4 (rowB RN.out B2)
      rw [hh]
      clear HRF HAT HTX VB g4 q1 q2 hf hh
      generalize ndK l k = t at *
      dsimp only [List.length_nil] at KE
      go_wp2_with fail
      refine KE.out.mono ?_
      rintro e w3 ⟨rfl, hb3⟩
      have HB := Hid.mk' (HB0.out.trans ((HB2.out.trans (hb3.mono HB2.out.size)).mono HB0.out.size))
      obtain ⟨d0, d1, d2, d3, d4⟩ := cellsR (rowB RT.out (HB2.out.trans (hb3.mono HB2.out.size)))
      clear hb3 KE r0 r1 r2 r3 r4
      generalize [60, 47] ++ (t.tg.data.toList ++ [62]) = TX at *
      go_wp2
      exact bodyPost_ret (v := .agg #[.int .i64 0, .string ⟨TX.toArray⟩]) (by simp [results, Tryd.results53, go_sem, *]) rfl ⟨by rw [E1.out], (HB.out.setCell (p := ⟨w.heap.size + 1, 0, none⟩) (by simp) _).setCell (p := ⟨w.heap.size + 1, 1, none⟩) (by simp) _⟩
    · have E1 : Hid (egE l (k, true) = []) := Hid.mk' (by unfold egE egN; dsimp only; rw [if_neg hh])
      have hh' : holdB (ndK l k) = false := by simpa using hh
      rw [hh']
      have HB := Hid.mk' (HB0.out.trans (HB2.out.mono HB0.out.size))
      obtain ⟨d0, d1, d2, d3, d4⟩ := cellsR (rowB RT.out HB2.out)
      clear HRF HAT HTX VB hh hh'
      generalize ndK l k = t at *
      go_wp2
      exact bodyPost_ret (v := .agg #[.int .i64 0, .string ⟨#[]⟩]) (by simp [results, Tryd.results53, go_sem, *]) rfl ⟨by rw [E1.out], (HB.out.setCell (p := ⟨w.heap.size + 1, 0, none⟩) (by simp) _).setCell (p := ⟨w.heap.size + 1, 1, none⟩) (by simp) _⟩
end Go.Proofs.YtcjnfodkppcpoaaDoor
