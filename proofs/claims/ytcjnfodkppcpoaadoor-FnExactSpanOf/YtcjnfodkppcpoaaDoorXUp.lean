/- Where the text of a node begins, the model's side. -/
import Derived.Test.YtcjnfodkppcpoaaDoorXUo
namespace Go.Proofs.YtcjnfodkppcpoaaDoor
open Go.RowKit Go.Maps
set_option linter.unusedVariables false
set_option linter.unusedSimpArgs false

theorem flat_at (f : Nat → List UInt8) (A B : List Nat) (k i : Nat) (h : i < A.length) : (A ++ k :: B).getD i 0 = A.getD i 0 := by
  rw [List.getD_eq_getElem?_getD, List.getD_eq_getElem?_getD, List.getElem?_append_left h]

theorem at_mid (A B : List Nat) (k : Nat) : (A ++ k :: B).getD A.length 0 = k := by simp

set_option maxRecDepth 100000 in
set_option maxHeartbeats 6400000 in
theorem l10From_any (a : Option Addr) (c : Nat) (l : List ND) (G : Good l) (hB : NB l) (hl : (l.length : Int) + nssz l ≤ 1048576) :
    ∀ (k : Nat) (w : World), k < l.length → NsAt w a l →
    Calls Tryd.prog 39 #[.slice a l.length c, .int .i64 (k : Int)] w fun e w' => e = .returned (.int .i64 (frm l k : Int)) ∧ Below w.heap.size w w' := by
  intro k
  induction k using Nat.strongRecOn with
  | _ k ih =>
    intro w hk ha
    have hw := treeF_ways G.tree
    have h60 := treeF_len G.tree
    have FB := G.frm_le hk
    have HA := Hid.mk' ha
    have hup : -1 ≤ upF l k ∧ upF l k < (l.length : Int) := by
      have h1 := up_at hw hk
      have GW := good_way (upF l) k (fun j hj => hw j (by omega))
      have h2 := GW.lo (hw k hk)
      have h3 := GW.hi (hw k hk)
      rw [show depU (upF l) k = dp l k from rfl, h1] at h2 h3
      omega
    have KK0 := Hid.mk' (fun (x : Int) (w' : World) (hb : Below w.heap.size w w') => l6Kids_any a c l x w' (ha.below hb) h60)
    have KW : Hid (∀ (m : Nat) (w' : World), m < l.length → Below w.heap.size w w' → Calls Tryd.prog 36 #[.slice a l.length c, .int .i64 (m : Int)] w' fun e w'' => e = .returned (.string ⟨(nT l m).toArray⟩) ∧ Below w'.heap.size w' w'') := Hid.mk' (fun m w' hm hb => l10Write_any a c l G hB hl (l.length - m) m w' rfl hm (ha.below hb))
    obtain ⟨K, A, B, hks, hK, hA, hAk⟩ : ∃ (K A B : List Nat), kidsU (upF l) (upF l k) l.length = K.map (fun (j : Nat) => (j : Int)) ∧ K = A ++ k :: B ∧ (∀ y ∈ A, y < k) ∧ ((upF l k = -1 ∧ (A.flatMap (fun y => nT l y)).length = frm l k) ∨ ∃ p : Nat, upF l k = (p : Int) ∧ p < k ∧ frm l k = frm l p + (egE l (p, false)).length + (A.flatMap (fun y => nT l y)).length) := by
      by_cases hu : upF l k = -1
      · obtain ⟨A, B, r1, r2, r3⟩ := frm_top hw hk hu
        exact ⟨_, A, B, by rw [hu]; exact r1, rfl, r2, .inl ⟨hu, r3⟩⟩
      · obtain ⟨p, hp⟩ : ∃ p : Nat, upF l k = (p : Int) := ⟨(upF l k).toNat, by omega⟩
        obtain ⟨r0, A, B, r1, r2, r3⟩ := frm_in hw (p := p) (by omega) hk hp
        exact ⟨_, A, B, by rw [hp]; exact r1, rfl, r2, .inr ⟨p, hp, r0, r3⟩⟩
    have KLE : K.length ≤ 60 := by
      have := kidsU_len (upF l) (upF l k) l.length
      rw [hks, List.length_map] at this
      omega
    have KIN : Hid (∀ i, i < A.length → K.getD i 0 = A.getD i 0 ∧ A.getD i 0 < k) := Hid.mk' (fun i hi => ⟨by rw [hK]; exact flat_at (fun _ => []) A B k i hi, hA _ (getD_mem A i hi)⟩)
    have KAT : Hid (K.getD A.length 0 = k) := Hid.mk' (by rw [hK]; exact at_mid A B k)
    have ALE : A.length < K.length := by rw [hK]; simp
    have ABD : (A.flatMap (fun y => nT l y)).length ≤ 172800 := by
      rcases hAk with ⟨_, h⟩ | ⟨p, _, _, h⟩ <;> omega
    have TK := Hid.mk' (fun i hi => flat_take (fun y => nT l y) A i hi)
    have LE := Hid.mk' (fun i => flat_le (fun y => nT l y) A i)
    have WV := Hid.mk' (fun i hi => kid_wv K i hi)
    have KLEN : Hid ((K.map (fun (j : Nat) => (j : Int))).length = K.length) := Hid.mk' (by simp)
    have IH := Hid.mk' ih
    have HAK := Hid.mk' hAk
    have HNB := Hid.mk' hB
    have HG := Hid.mk' G
    rcases ha with h0 | ⟨b, o, rfl, hbs, hc⟩
    · exact absurd hk (by rw [h0]; exact Nat.not_lt_zero _)
    obtain ⟨d0', _⟩ := hc k hk
    have KK := Hid.mk' (KK0.out (upF l k) w (Below.refl _ _))
    rw [hks] at KK
    have d0 : w.cell? ⟨b, o + k * 4, none⟩ = some (.int .i64 (upF l k)) := d0'
    clear d0'
    have ci : (k : Int) < (l.length : Int) := by omega
    clear ih hAk hA hks hK hc KK0 hB G hw
    generalize hUp : upF l k = up at *
    go_enter Tryd.func39, Tryd.ntmps39
    go_wp2_with fail
    refine KK.out.mono ?_
    rintro e w3 ⟨v, rfl, hown, hb3⟩
    have HB3 := Hid.mk' hb3
    obtain ⟨av, cv, ev, _⟩ := own_len hown
    subst ev
    rw [KLEN.out] at hown ⊢
    have IAT : Hid (∀ i, i < K.length → ∃ g, av = some ⟨g, 0, none⟩ ∧ g < w3.heap.size ∧ w3.cell? ⟨g, i, none⟩ = some (.int .i64 ((K.getD i 0 : Nat) : Int))) := Hid.mk' (fun i hi => by
      have hown' : w3.ownsRow w.heap.size 2 1 (.slice av K.length cv) K.length (ics (K.map (fun (j : Nat) => (j : Int)))) := hown
      obtain ⟨g, cap, e, _, hg, _, hcells⟩ := own_spot hown' (by omega)
      cases e
      refine ⟨g, rfl, hg, ?_⟩
      have := hcells i (by omega)
      rw [this, ics_get _ i (by rw [KLEN.out]; exact hi), WV.out i hi])
    clear hb3 hown KK KLEN WV
    go_wp2_with fail
    go_loopw [5, 8] (fun n x wr => ∃ i : Nat, i ≤ A.length ∧ x = .int .i64 i ∧ n = .int .i64 (((A.take i).flatMap (fun y => nT l y)).length : Int) ∧ Below w3.heap.size w3 wr) (fun _ x _ => A.length - (intOf x).toNat)
    case atStart => exact ⟨0, Nat.zero_le _, rfl, by simp, Below.refl _ _⟩
    case round =>
      obtain ⟨i, hi, rfl, rfl, hb⟩ := hrel
      have ci2 : (i : Int) < (K.length : Int) := by omega
      obtain ⟨g, rfl, hg, hcell⟩ := IAT.out i (by omega)
      have hc2 : wr.cell? ⟨g, i, none⟩ = some (.int .i64 ((K.getD i 0 : Nat) : Int)) := by rw [(bcell hb).1 _ _ hg]; exact hcell
      have HBW := Hid.mk' hb
      by_cases hlt : i < A.length
      · obtain ⟨q1, q2⟩ := KIN.out i hlt
        rw [q1] at hc2
        have ci3 : ((A.getD i 0 : Nat) : Int) < (k : Int) := by omega
        have T1 := TK.out i hlt
        have L1 := LE.out i
        have L2 := LE.out (i + 1)
        rw [T1, List.length_append] at L2
        have KW1 := Hid.mk' (KW.out (A.getD i 0) wr (by omega) (HB3.out.trans (hb.mono HB3.out.size)))
        have TT1 : Hid (((A.take (i + 1)).flatMap (fun y => nT l y)).length = ((A.take i).flatMap (fun y => nT l y)).length + (nT l (A.getD i 0)).length) := Hid.mk' (by rw [T1, List.length_append])
        clear T1 hcell hb q1 q2
        generalize A.getD i 0 = kd at *
        generalize ((A.take i).flatMap (fun y => nT l y)).length = PRE at *
        generalize nT l kd = TXK at *
        go_wp2_with fail
        refine KW1.out.mono ?_
        rintro e wk ⟨rfl, hbk⟩
        have HBK := Hid.mk' (HBW.out.trans (hbk.mono HBW.out.size))
        clear KW1 hbk hc2
        have hts : ((⟨TXK.toArray⟩ : ByteArray).size : Int) = (TXK.length : Int) := by simp [ByteArray.size]
        go_wp2
        go_roundw
        case rel => exact ⟨i + 1, by omega, by go_num, by rw [TT1.out]; go_num, HBK.out⟩
        case measure => simp [intOf]; omega
      · have hia : i = A.length := by omega
        subst hia
        rw [KAT.out] at hc2
        rw [List.take_length]
        clear hcell hb
        rcases HAK.out with ⟨hu, hF⟩ | ⟨p, hu, hpk, hF⟩
        · subst hu
          have EF := Hid.mk' hF
          generalize (A.flatMap (fun y => nT l y)).length = S at *
          go_wp2
          go_ret
          exact ⟨by rw [← EF.out]; rfl, HB3.out.trans (HBW.out.mono HB3.out.size)⟩
        · subst hu
          have EF := Hid.mk' hF
          have hpl : p < l.length := by omega
          have hpi : (p : Int) < (l.length : Int) := by omega
          have KR := Hid.mk' (fun (w' : World) (hb : Below w.heap.size w w') => IH.out p hpk w' hpl (HA.out.below hb))
          have nsZ := HA.out.below (HB3.out.trans (HBW.out.mono HB3.out.size))
          rcases nsZ with h0 | ⟨b', o', e', hbs', hc'⟩
          · exact absurd hpl (by rw [h0]; exact Nat.not_lt_zero _)
          cases e'
          obtain ⟨_, d1, ⟨pp, pc, d2, hpc, hat⟩, _⟩ := hc' p hpl
          have hh : holdB (ndK l p) = true := by
            cases hq : holdB (ndK l p) with
            | true => rfl
            | false =>
              have h1 := HG.out.nokids hpl hq
              have h2 := (kid_iff (treeF_ways HG.out.tree) hpl hk).1 hUp
              omega
          have hf : ((ndK l p).tg.toList == []) = false := by
            unfold holdB at hh
            simp only [Bool.and_eq_true, Bool.not_eq_true'] at hh
            exact hh.1
          obtain ⟨g1, g2, g3, g4⟩ := HG.out.el hpl hf
          have hsz := nsz_k l p hpl
          unfold nsz at hsz
          have E2 : Hid (egE l (p, false) = openT (ndK l p).tg (ndK l p).at_ false) := Hid.mk' (by unfold egE egN; dsimp only; rw [hf]; rfl)
          have KO : Hid (∀ w', Below wr.heap.size wr w' → Calls Tryd.prog 58 #[.string (ndK l p).tg, .slice pp (ndK l p).at_.length pc, .bool false] w' fun e w'' => e = .returned (.string ⟨(openT (ndK l p).tg (ndK l p).at_ false).toArray⟩) ∧ Below w'.heap.size w' w'') := Hid.mk' (fun w' hb => l4Open_any (ndK l p).tg pp pc (ndK l p).at_ false w' (hat.below hb) (HNB.out p hpl).1 g3 (by omega) (by omega))
          have FP := HG.out.frm_le hpl
          have hbw := HB3.out.trans (HBW.out.mono HB3.out.size)
          have KR2 : Hid (∀ w', Below wr.heap.size wr w' → Calls Tryd.prog 39 #[.slice (some ⟨b, o, none⟩) l.length c, .int .i64 (p : Int)] w' fun e w'' => e = .returned (.int .i64 (frm l p : Int)) ∧ Below w'.heap.size w' w'') := Hid.mk' (fun w' hb => KR.out w' (hbw.trans (hb.mono hbw.size)))
          have HBWW := Hid.mk' hbw
          clear hat hc' hh hf g3 g4 hbw KR HG HNB HA IH KW IAT KIN KAT TK LE hsz
          generalize ndK l p = t at *
          generalize hFp : frm l p = fp at *
          generalize openT t.tg t.at_ false = OT at *
          generalize hSS : (A.flatMap (fun y => nT l y)).length = S at *
          have hbs2 : b < wr.heap.size := hbs'
          have hts : ((⟨OT.toArray⟩ : ByteArray).size : Int) = (OT.length : Int) := by simp [ByteArray.size]
          go_wp2_with fail
          go_region_held3 (fun w' => w'.cell? ⟨b, o + p * 4 + 1, none⟩ = some (.string t.tg) ∧ w'.cell? ⟨b, o + p * 4 + 2, none⟩ = some (.slice pp t.at_.length pc)) (simp [*])
            (first | (go_at_call 39; refine (KR2.out _ ((Below.refl _ _).drew)).mono ?_; rintro e w7 ⟨rfl, hb7⟩; replace hb7 := undrew hb7; obtain ⟨hx1, hx2⟩ := bcell hb7; have zz1 := hb7.size; have zz2 : b < w7.heap.size := (by omega)) | (go_at_call 58; refine (KO.out _ hb7).mono ?_; rintro e w8 ⟨rfl, hb8⟩; obtain ⟨hx3, hx4⟩ := bcell hb8))
          have B8 := hb7.trans (hb8.mono hb7.size)
          have HB8 := Hid.mk' (HBWW.out.trans (B8.mono HBWW.out.size))
          have wr1 : IntKind.i64.wrap (IntKind.i64.wrap ((fp : Int) + (OT.length : Int)) + (S : Int)) = ((fp + OT.length + S : Nat) : Int) := by
            unfold IntKind.wrap
            simp [IntKind.bits, IntKind.signed]
            omega
          rw [wr1]
          clear hb7 hb8 hx1 hx2 hx3 hx4 zz1 zz2 B8 KO KR2 d1 d2 wr1
          go_wp2
          go_ret
          refine ⟨?_, HB8.out⟩
          rw [show frm l k = fp + OT.length + S from by rw [EF.out, E2.out]]
          rfl

end Go.Proofs.YtcjnfodkppcpoaaDoor
