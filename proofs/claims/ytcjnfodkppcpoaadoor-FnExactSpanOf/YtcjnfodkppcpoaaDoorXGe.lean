/- The model's side of a tree's fault: a node in its place, and all nodes. -/
import Derived.Test.YtcjnfodkppcpoaaDoorXV3
namespace Go.Proofs.YtcjnfodkppcpoaaDoor
open Go.RowKit
set_option linter.unusedVariables false
set_option linter.unusedSimpArgs false



set_option maxHeartbeats 8000000 in
theorem l6One_pos (a : Option Addr) (c : Nat) (l : List ND) (k : Nat) (w : World) (ha : NsAt w a l) (hk : k < l.length) (k0 : 0 < k) (hW : Ways l k) (hl : (l.length : Int) + nssz l ≤ 1048576) :
    Calls Tryd.prog 55 #[.slice a l.length c, .int .i64 (k : Int)] w fun e w' => e = .returned (.int .i64 (oneF l k)) ∧ Below w.heap.size w w' := by
  have hlen : (l.length : Int) ≤ 1048576 := by omega
  have KI0 : Hid (∀ w', Below w.heap.size w w' → Calls Tryd.prog 72 #[.slice a l.length c, .int .i64 ((k : Int) - 1), .int .i64 (ndK l k).up] w' fun e w'' => e = .returned (.bool (inW (wayU (upF l) k) (ndK l k).up)) ∧ w'' = w') := fun w' hb => l6In_any a c l k (ndK l k).up w' (ha.below hb) (by omega) hW hlen
  have KD0 : Hid (depU (upF l) k < (wayU (upF l) k).length → ∀ w', Below w.heap.size w w' → Calls Tryd.prog 73 #[.slice a l.length c, .int .i64 (k : Int)] w' fun e w'' => e = .returned (.int .i64 (depU (upF l) k : Int)) ∧ w'' = w') := fun hd w' hb => l6Depth_any a c l k w' (ha.below hb) hk hW hd hlen
  have KV0 : Hid (∀ (s : ByteArray) (w' : World), Calls Tryd.prog 59 #[.string s] w' fun e w'' => e = .returned (.bool (voidB s)) ∧ w'' = w') := fun s w' => l6Void_any s w'
  have G := hW.good
  have hsz := nssz_at hk
  rw [inW_iff] at KI0
  rcases ha with ha | ⟨b, o, rfl, hbs, hc⟩
  · rw [ha] at hk; exact absurd hk (Nat.not_lt_zero _)
  obtain ⟨c0, c1, ⟨p, d, c2, hd, hA⟩, ⟨p', d', c3, _⟩⟩ := hc k hk
  have HC := Hid.mk' hc
  have ck : (k : Int) < (l.length : Int) := by omega
  have KK := l6Kind_any (ndK l k) b (o + k * 4) p p' d d' w c1 c2 c3
  have KN := l4Name_any (ndK l k).tg w (by unfold nsz at hsz; omega)
  have KA := l4Attrs_any p d (ndK l k).at_ w hA hd (by unfold nsz at hsz; omega)
  have MU := Hid.mk' (show markF (ndK l k) = if kindB (ndK l k) = true then (if ((ndK l k).tg.toList == []) = true then 0 else if nmB (ndK l k).tg = true then afault (ndK l k).at_ else 5) else 1 from rfl)
  have PU := Hid.mk' (show placeF l k = if depU (upF l) k < (wayU (upF l) k).length then (if 0 ≤ (ndK l k).up ∧ holdB (ndK l (ndK l k).up.toNat) = false then 1 else if sideB l k = true then 1 else if 8 ≤ depU (upF l) k then 2 else 0) else 3 from rfl)
  have upb : depU (upF l) k < (wayU (upF l) k).length → -1 ≤ (ndK l k).up ∧ (ndK l k).up < k := fun h => by
    have e : wv (wayU (upF l) k) (depU (upF l) k) = (ndK l k).up := ixF_at h
    rw [← e]
    exact ⟨G.lo h, G.hi h⟩
  have SU := Hid.mk' (show sideB l k = (decide (0 < k) && ((ndK l k).tg.toList == []) && ((ndK l (k - 1)).tg.toList == []) && decide ((ndK l (k - 1)).up = (ndK l k).up)) from rfl)
  clear hc G hA hsz
  obtain ⟨y, hy⟩ : ∃ y : Int, (k : Int) - 1 = y := ⟨_, rfl⟩
  rw [hy] at KI0
  cases hkd : kindB (ndK l k) with
  | false =>
    rw [hkd] at KK
    have KK := Hid.mk' KK
    have E : Hid (oneF l k = 1) := Hid.mk' (oneF_mark (by rw [MU.out, hkd]; rfl) (by decide))
    clear KN KA upb
    go_enter Tryd.func55, Tryd.ntmps55
    go_wp2_with (first | go_big_skip | (go_at_call 69; refine KK.out.mono ?_; rintro e w9 ⟨rfl, hw9⟩; obtain rfl := hw9.symm))
    go_ret
    exact ⟨by rw [E.out]; rfl, by first | exact HB.out | exact Below.refl _ _⟩
  | true =>
    rw [hkd] at KK
    have KK := Hid.mk' KK
    cases htg : ((ndK l k).tg.toList == []) with
    | false =>
      cases hnm : nmB (ndK l k).tg with
      | false =>
        rw [hnm] at KN
        have KN := Hid.mk' KN
        have E : Hid (oneF l k = 5) := Hid.mk' (oneF_mark (by rw [MU.out, hkd, htg, hnm]; rfl) (by decide))
        clear KA upb
        go_enter Tryd.func55, Tryd.ntmps55
        go_wp2_with (first | go_big_skip | (go_at_call 69; refine KK.out.mono ?_; rintro e w9 ⟨rfl, hw9⟩; obtain rfl := hw9.symm) | (go_at_call 70; refine KN.out.mono ?_; rintro e w9 ⟨rfl, hw9⟩; obtain rfl := hw9.symm))
        go_ret
        exact ⟨by rw [E.out]; rfl, by first | exact HB.out | exact Below.refl _ _⟩
      | true =>
        rw [hnm] at KN
        have KN := Hid.mk' KN
        obtain ⟨f, hf⟩ : ∃ f, afault (ndK l k).at_ = f := ⟨_, rfl⟩
        rw [hf] at KA
        have KA := Hid.mk' KA
        by_cases hf0 : f = 0
        rotate_left
        · have E : Hid (oneF l k = f) := Hid.mk' (oneF_mark (by rw [MU.out, hkd, htg, hnm, ← hf]; rfl) hf0)
          clear upb
          go_enter Tryd.func55, Tryd.ntmps55
          go_wp2_with (first | go_big_skip | (go_at_call 69; refine KK.out.mono ?_; rintro e w9 ⟨rfl, hw9⟩; obtain rfl := hw9.symm) | (go_at_call 70; refine KN.out.mono ?_; rintro e w9 ⟨rfl, hw9⟩; obtain rfl := hw9.symm) | (go_at_call 71; refine KA.out.mono ?_; rintro e w1 ⟨rfl, hbb⟩; have HB := Hid.mk' hbb; clear hbb))
          go_ret
          exact ⟨by rw [E.out]; rfl, by first | exact HB.out | exact Below.refl _ _⟩
        rw [hf0] at KA
        have MZ : markF (ndK l k) = 0 := by rw [MU.out, hkd, htg, hnm, ← hf0, ← hf]; rfl
        clear hf0 hf MU
        have HTG := Hid.mk' htg
        have E0 := oneF_place MZ
        rw [PU.out] at E0
        clear PU MZ
        by_cases hd : depU (upF l) k < (wayU (upF l) k).length
        rotate_left
        · rw [if_neg hd] at E0
          have E := Hid.mk' E0
          rw [decide_eq_false hd] at KI0
          have KI := KI0
          clear E0 KI0 KD0 upb SU
          by_cases u1 : (ndK l k).up < -1
          · skip
            go_enter Tryd.func55, Tryd.ntmps55
            go_wp2_with (first | go_big_skip | (go_at_call 69; refine KK.out.mono ?_; rintro e w9 ⟨rfl, hw9⟩; obtain rfl := hw9.symm) | (go_at_call 70; refine KN.out.mono ?_; rintro e w9 ⟨rfl, hw9⟩; obtain rfl := hw9.symm) | (go_at_call 71; refine KA.out.mono ?_; rintro e w1 ⟨rfl, hbb⟩; have HB := Hid.mk' hbb; have d0 := (hbb.cell hbs).trans c0; have d1 := (hbb.cell hbs).trans c1; clear hbb) | (go_at_call 72; refine (KI.out _ (by first | exact HB.out | exact Below.refl _ _)).mono ?_; rintro e w9 ⟨rfl, hw9⟩; obtain rfl := hw9.symm))
            go_ret
            exact ⟨by rw [E.out]; rfl, by first | exact HB.out | exact Below.refl _ _⟩
          by_cases u2 : (ndK l k).up ≥ (k : Int)
          · skip
            go_enter Tryd.func55, Tryd.ntmps55
            go_wp2_with (first | go_big_skip | (go_at_call 69; refine KK.out.mono ?_; rintro e w9 ⟨rfl, hw9⟩; obtain rfl := hw9.symm) | (go_at_call 70; refine KN.out.mono ?_; rintro e w9 ⟨rfl, hw9⟩; obtain rfl := hw9.symm) | (go_at_call 71; refine KA.out.mono ?_; rintro e w1 ⟨rfl, hbb⟩; have HB := Hid.mk' hbb; have d0 := (hbb.cell hbs).trans c0; have d1 := (hbb.cell hbs).trans c1; clear hbb) | (go_at_call 72; refine (KI.out _ (by first | exact HB.out | exact Below.refl _ _)).mono ?_; rintro e w9 ⟨rfl, hw9⟩; obtain rfl := hw9.symm))
            go_ret
            exact ⟨by rw [E.out]; rfl, by first | exact HB.out | exact Below.refl _ _⟩
          go_enter Tryd.func55, Tryd.ntmps55
          go_wp2_with (first | go_big_skip | (go_at_call 69; refine KK.out.mono ?_; rintro e w9 ⟨rfl, hw9⟩; obtain rfl := hw9.symm) | (go_at_call 70; refine KN.out.mono ?_; rintro e w9 ⟨rfl, hw9⟩; obtain rfl := hw9.symm) | (go_at_call 71; refine KA.out.mono ?_; rintro e w1 ⟨rfl, hbb⟩; have HB := Hid.mk' hbb; have d0 := (hbb.cell hbs).trans c0; have d1 := (hbb.cell hbs).trans c1; clear hbb) | (go_at_call 72; refine (KI.out _ (by first | exact HB.out | exact Below.refl _ _)).mono ?_; rintro e w9 ⟨rfl, hw9⟩; obtain rfl := hw9.symm))
          go_ret
          exact ⟨by rw [E.out]; rfl, by first | exact HB.out | exact Below.refl _ _⟩
        obtain ⟨ub1, ub2⟩ := upb hd
        have n1 : ¬ (ndK l k).up < -1 := by omega
        have n2 : ¬ (ndK l k).up ≥ (k : Int) := by omega
        rw [if_pos hd] at E0
        rw [decide_eq_true hd] at KI0
        have KI := KI0
        have KD := Hid.mk' (KD0.out hd)
        obtain ⟨q, hq⟩ : ∃ q, depU (upF l) k = q := ⟨_, rfl⟩
        rw [hq] at E0 KD
        clear KI0 KD0 upb ub1 hd hq
        by_cases u0 : (ndK l k).up ≥ 0
        · obtain ⟨m, hm⟩ : ∃ m : Nat, (ndK l k).up = (m : Int) := ⟨(ndK l k).up.toNat, by omega⟩
          rw [hm] at c0 n1 n2 KI E0 u0 ub2
          rw [Int.toNat_natCast] at E0
          obtain ⟨c4, c5, _⟩ := HC.out m (by omega)
          have cm : (m : Int) < (l.length : Int) := by omega
          cases hh : ((ndK l m).tg.toList == []) with
          | true =>
            rw [if_pos ⟨u0, by unfold holdB; rw [hh]; rfl⟩] at E0
            have E := Hid.mk' E0
            clear E0 SU KD
            go_enter Tryd.func55, Tryd.ntmps55
            go_wp2_with (first | go_big_skip | (go_at_call 69; refine KK.out.mono ?_; rintro e w9 ⟨rfl, hw9⟩; obtain rfl := hw9.symm) | (go_at_call 70; refine KN.out.mono ?_; rintro e w9 ⟨rfl, hw9⟩; obtain rfl := hw9.symm) | (go_at_call 71; refine KA.out.mono ?_; rintro e w1 ⟨rfl, hbb⟩; have HB := Hid.mk' hbb; have d0 := (hbb.cell hbs).trans c0; have d1 := (hbb.cell hbs).trans c1; have d4 := (hbb.cell hbs).trans c4; have d5 := (hbb.cell hbs).trans c5; clear hbb) | (go_at_call 72; refine (KI.out _ (by first | exact HB.out | exact Below.refl _ _)).mono ?_; rintro e w9 ⟨rfl, hw9⟩; obtain rfl := hw9.symm))
            go_ret
            exact ⟨by rw [E.out]; rfl, by first | exact HB.out | exact Below.refl _ _⟩
          | false =>
            cases hv : voidB (ndK l m).tg with
            | true =>
              rw [if_pos ⟨u0, by unfold holdB; rw [hh, hv]; rfl⟩] at E0
              have E := Hid.mk' E0
              have KV := Hid.mk' (KV0.out (ndK l m).tg)
              rw [hv] at KV
              clear E0 SU KD
              go_enter Tryd.func55, Tryd.ntmps55
              go_wp2_with (first | go_big_skip | (go_at_call 69; refine KK.out.mono ?_; rintro e w9 ⟨rfl, hw9⟩; obtain rfl := hw9.symm) | (go_at_call 70; refine KN.out.mono ?_; rintro e w9 ⟨rfl, hw9⟩; obtain rfl := hw9.symm) | (go_at_call 71; refine KA.out.mono ?_; rintro e w1 ⟨rfl, hbb⟩; have HB := Hid.mk' hbb; have d0 := (hbb.cell hbs).trans c0; have d1 := (hbb.cell hbs).trans c1; have d4 := (hbb.cell hbs).trans c4; have d5 := (hbb.cell hbs).trans c5; clear hbb) | (go_at_call 72; refine (KI.out _ (by first | exact HB.out | exact Below.refl _ _)).mono ?_; rintro e w9 ⟨rfl, hw9⟩; obtain rfl := hw9.symm) | (go_at_call 59; refine (KV.out _).mono ?_; rintro e w9 ⟨rfl, hw9⟩; obtain rfl := hw9.symm))
              go_ret
              exact ⟨by rw [E.out]; rfl, by first | exact HB.out | exact Below.refl _ _⟩
            | false =>
              rw [if_neg (by unfold holdB; rw [hh, hv]; simp)] at E0
              have KV := Hid.mk' (KV0.out (ndK l m).tg)
              rw [hv] at KV
              rw [if_neg (by rw [SU.out, HTG.out]; simp)] at E0
              clear SU
              by_cases q8 : (q : Int) ≥ 8
              · rw [if_pos (by omega)] at E0
                have E := Hid.mk' E0
                clear E0
                go_enter Tryd.func55, Tryd.ntmps55
                go_wp2_with (first | go_big_skip | (go_at_call 69; refine KK.out.mono ?_; rintro e w9 ⟨rfl, hw9⟩; obtain rfl := hw9.symm) | (go_at_call 70; refine KN.out.mono ?_; rintro e w9 ⟨rfl, hw9⟩; obtain rfl := hw9.symm) | (go_at_call 71; refine KA.out.mono ?_; rintro e w1 ⟨rfl, hbb⟩; have HB := Hid.mk' hbb; have d0 := (hbb.cell hbs).trans c0; have d1 := (hbb.cell hbs).trans c1; have d4 := (hbb.cell hbs).trans c4; have d5 := (hbb.cell hbs).trans c5; clear hbb) | (go_at_call 72; refine (KI.out _ (by first | exact HB.out | exact Below.refl _ _)).mono ?_; rintro e w9 ⟨rfl, hw9⟩; obtain rfl := hw9.symm) | (go_at_call 59; refine (KV.out _).mono ?_; rintro e w9 ⟨rfl, hw9⟩; obtain rfl := hw9.symm))
                go_quiet (fail)
                go_wp2_with (first | go_big_skip | (go_at_call 73; refine (KD.out _ (by first | exact below_drewN HB.out _ | exact below_drewN (Below.refl _ _) _)).mono ?_; rintro e w9 ⟨rfl, hw9⟩; obtain rfl := hw9.symm))
                go_ret
                exact ⟨by rw [E.out]; rfl, by first | exact below_drewN HB.out _ | exact below_drewN (Below.refl _ _) _⟩
              · rw [if_neg (by omega)] at E0
                have E := Hid.mk' E0
                clear E0
                go_enter Tryd.func55, Tryd.ntmps55
                go_wp2_with (first | go_big_skip | (go_at_call 69; refine KK.out.mono ?_; rintro e w9 ⟨rfl, hw9⟩; obtain rfl := hw9.symm) | (go_at_call 70; refine KN.out.mono ?_; rintro e w9 ⟨rfl, hw9⟩; obtain rfl := hw9.symm) | (go_at_call 71; refine KA.out.mono ?_; rintro e w1 ⟨rfl, hbb⟩; have HB := Hid.mk' hbb; have d0 := (hbb.cell hbs).trans c0; have d1 := (hbb.cell hbs).trans c1; have d4 := (hbb.cell hbs).trans c4; have d5 := (hbb.cell hbs).trans c5; clear hbb) | (go_at_call 72; refine (KI.out _ (by first | exact HB.out | exact Below.refl _ _)).mono ?_; rintro e w9 ⟨rfl, hw9⟩; obtain rfl := hw9.symm) | (go_at_call 59; refine (KV.out _).mono ?_; rintro e w9 ⟨rfl, hw9⟩; obtain rfl := hw9.symm))
                go_quiet (fail)
                go_wp2_with (first | go_big_skip | (go_at_call 73; refine (KD.out _ (by first | exact below_drewN HB.out _ | exact below_drewN (Below.refl _ _) _)).mono ?_; rintro e w9 ⟨rfl, hw9⟩; obtain rfl := hw9.symm))
                go_ret
                exact ⟨by rw [E.out]; rfl, by first | exact below_drewN HB.out _ | exact below_drewN (Below.refl _ _) _⟩
        · rw [if_neg (fun h => u0 h.1)] at E0
          rw [if_neg (by rw [SU.out, HTG.out]; simp)] at E0
          clear SU
          by_cases q8 : (q : Int) ≥ 8
          · rw [if_pos (by omega)] at E0
            have E := Hid.mk' E0
            clear E0
            go_enter Tryd.func55, Tryd.ntmps55
            go_wp2_with (first | go_big_skip | (go_at_call 69; refine KK.out.mono ?_; rintro e w9 ⟨rfl, hw9⟩; obtain rfl := hw9.symm) | (go_at_call 70; refine KN.out.mono ?_; rintro e w9 ⟨rfl, hw9⟩; obtain rfl := hw9.symm) | (go_at_call 71; refine KA.out.mono ?_; rintro e w1 ⟨rfl, hbb⟩; have HB := Hid.mk' hbb; have d0 := (hbb.cell hbs).trans c0; have d1 := (hbb.cell hbs).trans c1; clear hbb) | (go_at_call 72; refine (KI.out _ (by first | exact HB.out | exact Below.refl _ _)).mono ?_; rintro e w9 ⟨rfl, hw9⟩; obtain rfl := hw9.symm))
            go_quiet (fail)
            go_wp2_with (first | go_big_skip | (go_at_call 73; refine (KD.out _ (by first | exact below_drewN HB.out _ | exact below_drewN (Below.refl _ _) _)).mono ?_; rintro e w9 ⟨rfl, hw9⟩; obtain rfl := hw9.symm))
            go_ret
            exact ⟨by rw [E.out]; rfl, by first | exact below_drewN HB.out _ | exact below_drewN (Below.refl _ _) _⟩
          · rw [if_neg (by omega)] at E0
            have E := Hid.mk' E0
            clear E0
            go_enter Tryd.func55, Tryd.ntmps55
            go_wp2_with (first | go_big_skip | (go_at_call 69; refine KK.out.mono ?_; rintro e w9 ⟨rfl, hw9⟩; obtain rfl := hw9.symm) | (go_at_call 70; refine KN.out.mono ?_; rintro e w9 ⟨rfl, hw9⟩; obtain rfl := hw9.symm) | (go_at_call 71; refine KA.out.mono ?_; rintro e w1 ⟨rfl, hbb⟩; have HB := Hid.mk' hbb; have d0 := (hbb.cell hbs).trans c0; have d1 := (hbb.cell hbs).trans c1; clear hbb) | (go_at_call 72; refine (KI.out _ (by first | exact HB.out | exact Below.refl _ _)).mono ?_; rintro e w9 ⟨rfl, hw9⟩; obtain rfl := hw9.symm))
            go_quiet (fail)
            go_wp2_with (first | go_big_skip | (go_at_call 73; refine (KD.out _ (by first | exact below_drewN HB.out _ | exact below_drewN (Below.refl _ _) _)).mono ?_; rintro e w9 ⟨rfl, hw9⟩; obtain rfl := hw9.symm))
            go_ret
            exact ⟨by rw [E.out]; rfl, by first | exact below_drewN HB.out _ | exact below_drewN (Below.refl _ _) _⟩
    | true =>
      have MZ : markF (ndK l k) = 0 := by rw [MU.out, hkd, htg]; rfl
      clear MU KN KA
      have HTG := Hid.mk' htg
      have E0 := oneF_place MZ
      rw [PU.out] at E0
      clear PU MZ
      by_cases hd : depU (upF l) k < (wayU (upF l) k).length
      rotate_left
      · rw [if_neg hd] at E0
        have E := Hid.mk' E0
        rw [decide_eq_false hd] at KI0
        have KI := KI0
        clear E0 KI0 KD0 upb SU
        by_cases u1 : (ndK l k).up < -1
        · skip
          go_enter Tryd.func55, Tryd.ntmps55
          go_wp2_with (first | go_big_skip | (go_at_call 69; refine KK.out.mono ?_; rintro e w9 ⟨rfl, hw9⟩; obtain rfl := hw9.symm) | (go_at_call 72; refine (KI.out _ (by first | exact HB.out | exact Below.refl _ _)).mono ?_; rintro e w9 ⟨rfl, hw9⟩; obtain rfl := hw9.symm))
          go_ret
          exact ⟨by rw [E.out]; rfl, by first | exact HB.out | exact Below.refl _ _⟩
        by_cases u2 : (ndK l k).up ≥ (k : Int)
        · skip
          go_enter Tryd.func55, Tryd.ntmps55
          go_wp2_with (first | go_big_skip | (go_at_call 69; refine KK.out.mono ?_; rintro e w9 ⟨rfl, hw9⟩; obtain rfl := hw9.symm) | (go_at_call 72; refine (KI.out _ (by first | exact HB.out | exact Below.refl _ _)).mono ?_; rintro e w9 ⟨rfl, hw9⟩; obtain rfl := hw9.symm))
          go_ret
          exact ⟨by rw [E.out]; rfl, by first | exact HB.out | exact Below.refl _ _⟩
        go_enter Tryd.func55, Tryd.ntmps55
        go_wp2_with (first | go_big_skip | (go_at_call 69; refine KK.out.mono ?_; rintro e w9 ⟨rfl, hw9⟩; obtain rfl := hw9.symm) | (go_at_call 72; refine (KI.out _ (by first | exact HB.out | exact Below.refl _ _)).mono ?_; rintro e w9 ⟨rfl, hw9⟩; obtain rfl := hw9.symm))
        go_ret
        exact ⟨by rw [E.out]; rfl, by first | exact HB.out | exact Below.refl _ _⟩
      obtain ⟨ub1, ub2⟩ := upb hd
      have n1 : ¬ (ndK l k).up < -1 := by omega
      have n2 : ¬ (ndK l k).up ≥ (k : Int) := by omega
      rw [if_pos hd] at E0
      rw [decide_eq_true hd] at KI0
      have KI := KI0
      have KD := Hid.mk' (KD0.out hd)
      obtain ⟨q, hq⟩ : ∃ q, depU (upF l) k = q := ⟨_, rfl⟩
      rw [hq] at E0 KD
      clear KI0 KD0 upb ub1 hd hq
      by_cases u0 : (ndK l k).up ≥ 0
      · obtain ⟨m, hm⟩ : ∃ m : Nat, (ndK l k).up = (m : Int) := ⟨(ndK l k).up.toNat, by omega⟩
        rw [hm] at c0 n1 n2 KI E0 u0 ub2
        rw [hm] at SU
        rw [Int.toNat_natCast] at E0
        obtain ⟨c4, c5, _⟩ := HC.out m (by omega)
        have cm : (m : Int) < (l.length : Int) := by omega
        cases hh : ((ndK l m).tg.toList == []) with
        | true =>
          rw [if_pos ⟨u0, by unfold holdB; rw [hh]; rfl⟩] at E0
          have E := Hid.mk' E0
          clear E0 SU KD
          go_enter Tryd.func55, Tryd.ntmps55
          go_wp2_with (first | go_big_skip | (go_at_call 69; refine KK.out.mono ?_; rintro e w9 ⟨rfl, hw9⟩; obtain rfl := hw9.symm) | (go_at_call 72; refine (KI.out _ (by first | exact HB.out | exact Below.refl _ _)).mono ?_; rintro e w9 ⟨rfl, hw9⟩; obtain rfl := hw9.symm))
          go_ret
          exact ⟨by rw [E.out]; rfl, by first | exact HB.out | exact Below.refl _ _⟩
        | false =>
          cases hv : voidB (ndK l m).tg with
          | true =>
            rw [if_pos ⟨u0, by unfold holdB; rw [hh, hv]; rfl⟩] at E0
            have E := Hid.mk' E0
            have KV := Hid.mk' (KV0.out (ndK l m).tg)
            rw [hv] at KV
            clear E0 SU KD
            go_enter Tryd.func55, Tryd.ntmps55
            go_wp2_with (first | go_big_skip | (go_at_call 69; refine KK.out.mono ?_; rintro e w9 ⟨rfl, hw9⟩; obtain rfl := hw9.symm) | (go_at_call 72; refine (KI.out _ (by first | exact HB.out | exact Below.refl _ _)).mono ?_; rintro e w9 ⟨rfl, hw9⟩; obtain rfl := hw9.symm) | (go_at_call 59; refine (KV.out _).mono ?_; rintro e w9 ⟨rfl, hw9⟩; obtain rfl := hw9.symm))
            go_ret
            exact ⟨by rw [E.out]; rfl, by first | exact HB.out | exact Below.refl _ _⟩
          | false =>
            rw [if_neg (by unfold holdB; rw [hh, hv]; simp)] at E0
            have KV := Hid.mk' (KV0.out (ndK l m).tg)
            rw [hv] at KV
            obtain ⟨j, hj⟩ : ∃ j, k - 1 = j := ⟨_, rfl⟩
            have SV := SU.out
            rw [hj, decide_eq_true (show 0 < k by omega), HTG.out] at SV
            obtain ⟨c6, c7, _⟩ := HC.out j (by omega)
            have ej : y = (j : Int) := by omega
            subst ej
            have cj : (j : Int) < (l.length : Int) := by omega
            have HJ := Hid.mk' hj
            clear hj SU
            cases hpt : ((ndK l j).tg.toList == []) with
            | false =>
              rw [if_neg (by rw [SV, hpt]; simp)] at E0
              clear SV
              by_cases q8 : (q : Int) ≥ 8
              · rw [if_pos (by omega)] at E0
                have E := Hid.mk' E0
                clear E0
                go_enter Tryd.func55, Tryd.ntmps55
                go_wp2_with (first | go_big_skip | (go_at_call 69; refine KK.out.mono ?_; rintro e w9 ⟨rfl, hw9⟩; obtain rfl := hw9.symm) | (go_at_call 72; refine (KI.out _ (by first | exact HB.out | exact Below.refl _ _)).mono ?_; rintro e w9 ⟨rfl, hw9⟩; obtain rfl := hw9.symm) | (go_at_call 59; refine (KV.out _).mono ?_; rintro e w9 ⟨rfl, hw9⟩; obtain rfl := hw9.symm))
                go_quiet (fail)
                go_wp2_with (first | go_big_skip | (go_at_call 73; refine (KD.out _ (by first | exact below_drewN HB.out _ | exact below_drewN (Below.refl _ _) _)).mono ?_; rintro e w9 ⟨rfl, hw9⟩; obtain rfl := hw9.symm))
                go_ret
                exact ⟨by rw [E.out]; rfl, by first | exact below_drewN HB.out _ | exact below_drewN (Below.refl _ _) _⟩
              · rw [if_neg (by omega)] at E0
                have E := Hid.mk' E0
                clear E0
                go_enter Tryd.func55, Tryd.ntmps55
                go_wp2_with (first | go_big_skip | (go_at_call 69; refine KK.out.mono ?_; rintro e w9 ⟨rfl, hw9⟩; obtain rfl := hw9.symm) | (go_at_call 72; refine (KI.out _ (by first | exact HB.out | exact Below.refl _ _)).mono ?_; rintro e w9 ⟨rfl, hw9⟩; obtain rfl := hw9.symm) | (go_at_call 59; refine (KV.out _).mono ?_; rintro e w9 ⟨rfl, hw9⟩; obtain rfl := hw9.symm))
                go_quiet (fail)
                go_wp2_with (first | go_big_skip | (go_at_call 73; refine (KD.out _ (by first | exact below_drewN HB.out _ | exact below_drewN (Below.refl _ _) _)).mono ?_; rintro e w9 ⟨rfl, hw9⟩; obtain rfl := hw9.symm))
                go_ret
                exact ⟨by rw [E.out]; rfl, by first | exact below_drewN HB.out _ | exact below_drewN (Below.refl _ _) _⟩
            | true =>
              by_cases hup : (ndK l j).up = (m : Int)
              · rw [if_pos (by rw [SV, hpt, hup]; simp)] at E0
                have E := Hid.mk' E0
                rw [hup] at c6
                clear E0 SV hup KD
                go_enter Tryd.func55, Tryd.ntmps55
                go_wp2_with (first | go_big_skip | (go_at_call 69; refine KK.out.mono ?_; rintro e w9 ⟨rfl, hw9⟩; obtain rfl := hw9.symm) | (go_at_call 72; refine (KI.out _ (by first | exact HB.out | exact Below.refl _ _)).mono ?_; rintro e w9 ⟨rfl, hw9⟩; obtain rfl := hw9.symm) | (go_at_call 59; refine (KV.out _).mono ?_; rintro e w9 ⟨rfl, hw9⟩; obtain rfl := hw9.symm))
                go_quiet (fail)
                go_wp2_with (first | go_big_skip | (go_at_call 73; refine (KD.out _ (by first | exact below_drewN HB.out _ | exact below_drewN (Below.refl _ _) _)).mono ?_; rintro e w9 ⟨rfl, hw9⟩; obtain rfl := hw9.symm))
                go_ret
                exact ⟨by rw [E.out]; rfl, by first | exact below_drewN HB.out _ | exact below_drewN (Below.refl _ _) _⟩
              · skip
                rw [if_neg (by rw [SV, hpt, decide_eq_false hup]; simp)] at E0
                clear SV
                by_cases q8 : (q : Int) ≥ 8
                · rw [if_pos (by omega)] at E0
                  have E := Hid.mk' E0
                  clear E0
                  go_enter Tryd.func55, Tryd.ntmps55
                  go_wp2_with (first | go_big_skip | (go_at_call 69; refine KK.out.mono ?_; rintro e w9 ⟨rfl, hw9⟩; obtain rfl := hw9.symm) | (go_at_call 72; refine (KI.out _ (by first | exact HB.out | exact Below.refl _ _)).mono ?_; rintro e w9 ⟨rfl, hw9⟩; obtain rfl := hw9.symm) | (go_at_call 59; refine (KV.out _).mono ?_; rintro e w9 ⟨rfl, hw9⟩; obtain rfl := hw9.symm))
                  go_quiet (fail)
                  go_wp2_with (first | go_big_skip | (go_at_call 73; refine (KD.out _ (by first | exact below_drewN HB.out _ | exact below_drewN (Below.refl _ _) _)).mono ?_; rintro e w9 ⟨rfl, hw9⟩; obtain rfl := hw9.symm))
                  go_ret
                  exact ⟨by rw [E.out]; rfl, by first | exact below_drewN HB.out _ | exact below_drewN (Below.refl _ _) _⟩
                · rw [if_neg (by omega)] at E0
                  have E := Hid.mk' E0
                  clear E0
                  go_enter Tryd.func55, Tryd.ntmps55
                  go_wp2_with (first | go_big_skip | (go_at_call 69; refine KK.out.mono ?_; rintro e w9 ⟨rfl, hw9⟩; obtain rfl := hw9.symm) | (go_at_call 72; refine (KI.out _ (by first | exact HB.out | exact Below.refl _ _)).mono ?_; rintro e w9 ⟨rfl, hw9⟩; obtain rfl := hw9.symm) | (go_at_call 59; refine (KV.out _).mono ?_; rintro e w9 ⟨rfl, hw9⟩; obtain rfl := hw9.symm))
                  go_quiet (fail)
                  go_wp2_with (first | go_big_skip | (go_at_call 73; refine (KD.out _ (by first | exact below_drewN HB.out _ | exact below_drewN (Below.refl _ _) _)).mono ?_; rintro e w9 ⟨rfl, hw9⟩; obtain rfl := hw9.symm))
                  go_ret
                  exact ⟨by rw [E.out]; rfl, by first | exact below_drewN HB.out _ | exact below_drewN (Below.refl _ _) _⟩
      · rw [if_neg (fun h => u0 h.1)] at E0
        obtain ⟨j, hj⟩ : ∃ j, k - 1 = j := ⟨_, rfl⟩
        have SV := SU.out
        rw [hj, decide_eq_true (show 0 < k by omega), HTG.out] at SV
        obtain ⟨c6, c7, _⟩ := HC.out j (by omega)
        have ej : y = (j : Int) := by omega
        subst ej
        have cj : (j : Int) < (l.length : Int) := by omega
        have HJ := Hid.mk' hj
        clear hj SU
        cases hpt : ((ndK l j).tg.toList == []) with
        | false =>
          rw [if_neg (by rw [SV, hpt]; simp)] at E0
          clear SV
          by_cases q8 : (q : Int) ≥ 8
          · rw [if_pos (by omega)] at E0
            have E := Hid.mk' E0
            clear E0
            go_enter Tryd.func55, Tryd.ntmps55
            go_wp2_with (first | go_big_skip | (go_at_call 69; refine KK.out.mono ?_; rintro e w9 ⟨rfl, hw9⟩; obtain rfl := hw9.symm) | (go_at_call 72; refine (KI.out _ (by first | exact HB.out | exact Below.refl _ _)).mono ?_; rintro e w9 ⟨rfl, hw9⟩; obtain rfl := hw9.symm))
            go_quiet (fail)
            go_wp2_with (first | go_big_skip | (go_at_call 73; refine (KD.out _ (by first | exact below_drewN HB.out _ | exact below_drewN (Below.refl _ _) _)).mono ?_; rintro e w9 ⟨rfl, hw9⟩; obtain rfl := hw9.symm))
            go_ret
            exact ⟨by rw [E.out]; rfl, by first | exact below_drewN HB.out _ | exact below_drewN (Below.refl _ _) _⟩
          · rw [if_neg (by omega)] at E0
            have E := Hid.mk' E0
            clear E0
            go_enter Tryd.func55, Tryd.ntmps55
            go_wp2_with (first | go_big_skip | (go_at_call 69; refine KK.out.mono ?_; rintro e w9 ⟨rfl, hw9⟩; obtain rfl := hw9.symm) | (go_at_call 72; refine (KI.out _ (by first | exact HB.out | exact Below.refl _ _)).mono ?_; rintro e w9 ⟨rfl, hw9⟩; obtain rfl := hw9.symm))
            go_quiet (fail)
            go_wp2_with (first | go_big_skip | (go_at_call 73; refine (KD.out _ (by first | exact below_drewN HB.out _ | exact below_drewN (Below.refl _ _) _)).mono ?_; rintro e w9 ⟨rfl, hw9⟩; obtain rfl := hw9.symm))
            go_ret
            exact ⟨by rw [E.out]; rfl, by first | exact below_drewN HB.out _ | exact below_drewN (Below.refl _ _) _⟩
        | true =>
          by_cases hup : (ndK l j).up = (ndK l k).up
          · rw [if_pos (by rw [SV, hpt, hup]; simp)] at E0
            have E := Hid.mk' E0
            rw [hup] at c6
            clear E0 SV hup KD
            go_enter Tryd.func55, Tryd.ntmps55
            go_wp2_with (first | go_big_skip | (go_at_call 69; refine KK.out.mono ?_; rintro e w9 ⟨rfl, hw9⟩; obtain rfl := hw9.symm) | (go_at_call 72; refine (KI.out _ (by first | exact HB.out | exact Below.refl _ _)).mono ?_; rintro e w9 ⟨rfl, hw9⟩; obtain rfl := hw9.symm))
            go_quiet (fail)
            go_wp2_with (first | go_big_skip | (go_at_call 73; refine (KD.out _ (by first | exact below_drewN HB.out _ | exact below_drewN (Below.refl _ _) _)).mono ?_; rintro e w9 ⟨rfl, hw9⟩; obtain rfl := hw9.symm))
            go_ret
            exact ⟨by rw [E.out]; rfl, by first | exact below_drewN HB.out _ | exact below_drewN (Below.refl _ _) _⟩
          · skip
            rw [if_neg (by rw [SV, hpt, decide_eq_false hup]; simp)] at E0
            clear SV
            by_cases q8 : (q : Int) ≥ 8
            · rw [if_pos (by omega)] at E0
              have E := Hid.mk' E0
              clear E0
              go_enter Tryd.func55, Tryd.ntmps55
              go_wp2_with (first | go_big_skip | (go_at_call 69; refine KK.out.mono ?_; rintro e w9 ⟨rfl, hw9⟩; obtain rfl := hw9.symm) | (go_at_call 72; refine (KI.out _ (by first | exact HB.out | exact Below.refl _ _)).mono ?_; rintro e w9 ⟨rfl, hw9⟩; obtain rfl := hw9.symm))
              go_quiet (fail)
              go_wp2_with (first | go_big_skip | (go_at_call 73; refine (KD.out _ (by first | exact below_drewN HB.out _ | exact below_drewN (Below.refl _ _) _)).mono ?_; rintro e w9 ⟨rfl, hw9⟩; obtain rfl := hw9.symm))
              go_ret
              exact ⟨by rw [E.out]; rfl, by first | exact below_drewN HB.out _ | exact below_drewN (Below.refl _ _) _⟩
            · rw [if_neg (by omega)] at E0
              have E := Hid.mk' E0
              clear E0
              go_enter Tryd.func55, Tryd.ntmps55
              go_wp2_with (first | go_big_skip | (go_at_call 69; refine KK.out.mono ?_; rintro e w9 ⟨rfl, hw9⟩; obtain rfl := hw9.symm) | (go_at_call 72; refine (KI.out _ (by first | exact HB.out | exact Below.refl _ _)).mono ?_; rintro e w9 ⟨rfl, hw9⟩; obtain rfl := hw9.symm))
              go_quiet (fail)
              go_wp2_with (first | go_big_skip | (go_at_call 73; refine (KD.out _ (by first | exact below_drewN HB.out _ | exact below_drewN (Below.refl _ _) _)).mono ?_; rintro e w9 ⟨rfl, hw9⟩; obtain rfl := hw9.symm))
              go_ret
              exact ⟨by rw [E.out]; rfl, by first | exact below_drewN HB.out _ | exact below_drewN (Below.refl _ _) _⟩

theorem wayU_zero (u : Nat → Int) : wayU u 0 = [-1] := rfl

theorem place_zero {l : List ND} (h : (ndK l 0).up = -1) : placeF l 0 = 0 := by
  have d0 : depU (upF l) 0 = 0 := by simp [depU, wayU, ixF, upF, h]
  unfold placeF
  rw [d0, wayU_zero, if_pos (by simp), if_neg (by omega), if_neg (by simp [sideB]), if_neg (by omega)]

theorem place_zero' {l : List ND} (h : ¬ (ndK l 0).up = -1) : placeF l 0 = 3 := by
  have d0 : depU (upF l) 0 = 1 := by
    have h2 : ¬ (-1 : Int) = (ndK l 0).up := fun e => h e.symm
    simp [depU, wayU, ixF, upF, h2]
  unfold placeF
  rw [d0, wayU_zero, if_neg (by simp)]

set_option maxHeartbeats 8000000 in
theorem l6One_zero (a : Option Addr) (c : Nat) (l : List ND) (w : World) (ha : NsAt w a l) (hk : 0 < l.length) (hl : (l.length : Int) + nssz l ≤ 1048576) :
    Calls Tryd.prog 55 #[.slice a l.length c, .int .i64 0] w fun e w' => e = .returned (.int .i64 (oneF l 0)) ∧ Below w.heap.size w w' := by
  have hlen : (l.length : Int) ≤ 1048576 := by omega
  have KI0 : Hid ((ndK l 0).up = -1 → ∀ w', Below w.heap.size w w' → Calls Tryd.prog 72 #[.slice a l.length c, .int .i64 (-1), .int .i64 (-1)] w' fun e w'' => e = .returned (.bool true) ∧ w'' = w') := fun hu w' hb => by
    have := l6In_any a c l 0 (-1) w' (ha.below hb) (by omega) (fun j hj => absurd hj (Nat.not_lt_zero _)) hlen
    exact this
  have KD0 : Hid ((ndK l 0).up = -1 → ∀ w', Below w.heap.size w w' → Calls Tryd.prog 73 #[.slice a l.length c, .int .i64 0] w' fun e w'' => e = .returned (.int .i64 0) ∧ w'' = w') := fun hu w' hb => by
    have d0 : depU (upF l) 0 = 0 := by simp [depU, wayU, ixF, upF, hu]
    have := l6Depth_any a c l 0 w' (ha.below hb) hk (fun j hj => absurd hj (Nat.not_lt_zero _)) (by rw [d0]; simp [wayU]) hlen
    rw [d0] at this
    exact this
  have hsz := nssz_at hk
  rcases ha with ha | ⟨b, o, rfl, hbs, hc⟩
  · rw [ha] at hk; exact absurd hk (Nat.not_lt_zero _)
  obtain ⟨c0, c1, ⟨p, d, c2, hd, hA⟩, ⟨p', d', c3, _⟩⟩ := hc 0 hk
  rw [Nat.zero_mul, Nat.add_zero] at c0 c1 c2 c3
  have ck : (0 : Int) < (l.length : Int) := by omega
  have KK := l6Kind_any (ndK l 0) b o p p' d d' w c1 c2 c3
  have KN := l4Name_any (ndK l 0).tg w (by unfold nsz at hsz; omega)
  have KA := l4Attrs_any p d (ndK l 0).at_ w hA hd (by unfold nsz at hsz; omega)
  have MU := Hid.mk' (show markF (ndK l 0) = if kindB (ndK l 0) = true then (if ((ndK l 0).tg.toList == []) = true then 0 else if nmB (ndK l 0).tg = true then afault (ndK l 0).at_ else 5) else 1 from rfl)
  clear hc hA hsz
  cases hkd : kindB (ndK l 0) with
  | false =>
    rw [hkd] at KK
    have KK := Hid.mk' KK
    have E : Hid (oneF l 0 = 1) := Hid.mk' (oneF_mark (by rw [MU.out, hkd]; rfl) (by decide))
    clear KN KA
    go_enter Tryd.func55, Tryd.ntmps55
    go_wp2_with (first | go_big_skip | (go_at_call 69; refine KK.out.mono ?_; rintro e w9 ⟨rfl, hw9⟩; obtain rfl := hw9.symm))
    go_ret
    exact ⟨by rw [E.out]; rfl, by first | exact HB.out | exact Below.refl _ _⟩
  | true =>
    rw [hkd] at KK
    have KK := Hid.mk' KK
    cases htg : ((ndK l 0).tg.toList == []) with
    | false =>
      cases hnm : nmB (ndK l 0).tg with
      | false =>
        rw [hnm] at KN
        have KN := Hid.mk' KN
        have E : Hid (oneF l 0 = 5) := Hid.mk' (oneF_mark (by rw [MU.out, hkd, htg, hnm]; rfl) (by decide))
        clear KA
        go_enter Tryd.func55, Tryd.ntmps55
        go_wp2_with (first | go_big_skip | (go_at_call 69; refine KK.out.mono ?_; rintro e w9 ⟨rfl, hw9⟩; obtain rfl := hw9.symm) | (go_at_call 70; refine KN.out.mono ?_; rintro e w9 ⟨rfl, hw9⟩; obtain rfl := hw9.symm))
        go_ret
        exact ⟨by rw [E.out]; rfl, by first | exact HB.out | exact Below.refl _ _⟩
      | true =>
        rw [hnm] at KN
        have KN := Hid.mk' KN
        obtain ⟨f, hf⟩ : ∃ f, afault (ndK l 0).at_ = f := ⟨_, rfl⟩
        rw [hf] at KA
        have KA := Hid.mk' KA
        by_cases hf0 : f = 0
        rotate_left
        · have E : Hid (oneF l 0 = f) := Hid.mk' (oneF_mark (by rw [MU.out, hkd, htg, hnm, ← hf]; rfl) hf0)
          go_enter Tryd.func55, Tryd.ntmps55
          go_wp2_with (first | go_big_skip | (go_at_call 69; refine KK.out.mono ?_; rintro e w9 ⟨rfl, hw9⟩; obtain rfl := hw9.symm) | (go_at_call 70; refine KN.out.mono ?_; rintro e w9 ⟨rfl, hw9⟩; obtain rfl := hw9.symm) | (go_at_call 71; refine KA.out.mono ?_; rintro e w1 ⟨rfl, hbb⟩; have HB := Hid.mk' hbb; clear hbb))
          go_ret
          exact ⟨by rw [E.out]; rfl, by first | exact HB.out | exact Below.refl _ _⟩
        rw [hf0] at KA
        have MZ : markF (ndK l 0) = 0 := by rw [MU.out, hkd, htg, hnm, ← hf0, ← hf]; rfl
        clear hf0 hf MU
        have E0 := oneF_place MZ
        by_cases hu : (ndK l 0).up = -1
        rotate_left
        · rw [place_zero' hu] at E0
          have E := Hid.mk' E0
          clear E0 KI0 KD0 MZ
          by_cases u1 : (ndK l 0).up < -1
          · skip
            go_enter Tryd.func55, Tryd.ntmps55
            go_wp2_with (first | go_big_skip | (go_at_call 69; refine KK.out.mono ?_; rintro e w9 ⟨rfl, hw9⟩; obtain rfl := hw9.symm) | (go_at_call 70; refine KN.out.mono ?_; rintro e w9 ⟨rfl, hw9⟩; obtain rfl := hw9.symm) | (go_at_call 71; refine KA.out.mono ?_; rintro e w1 ⟨rfl, hbb⟩; have HB := Hid.mk' hbb; have d0 := (hbb.cell hbs).trans c0; have d1 := (hbb.cell hbs).trans c1; clear hbb))
            go_ret
            exact ⟨by rw [E.out]; rfl, by first | exact HB.out | exact Below.refl _ _⟩
          have u2 : (ndK l 0).up ≥ 0 := by omega
          go_enter Tryd.func55, Tryd.ntmps55
          go_wp2_with (first | go_big_skip | (go_at_call 69; refine KK.out.mono ?_; rintro e w9 ⟨rfl, hw9⟩; obtain rfl := hw9.symm) | (go_at_call 70; refine KN.out.mono ?_; rintro e w9 ⟨rfl, hw9⟩; obtain rfl := hw9.symm) | (go_at_call 71; refine KA.out.mono ?_; rintro e w1 ⟨rfl, hbb⟩; have HB := Hid.mk' hbb; have d0 := (hbb.cell hbs).trans c0; have d1 := (hbb.cell hbs).trans c1; clear hbb))
          go_ret
          exact ⟨by rw [E.out]; rfl, by first | exact HB.out | exact Below.refl _ _⟩
        rw [place_zero hu] at E0
        have E := Hid.mk' E0
        have KI := Hid.mk' (KI0.out hu)
        have KD := Hid.mk' (KD0.out hu)
        rw [hu] at c0
        clear E0 KI0 KD0 MZ hu
        go_enter Tryd.func55, Tryd.ntmps55
        go_wp2_with (first | go_big_skip | (go_at_call 69; refine KK.out.mono ?_; rintro e w9 ⟨rfl, hw9⟩; obtain rfl := hw9.symm) | (go_at_call 70; refine KN.out.mono ?_; rintro e w9 ⟨rfl, hw9⟩; obtain rfl := hw9.symm) | (go_at_call 71; refine KA.out.mono ?_; rintro e w1 ⟨rfl, hbb⟩; have HB := Hid.mk' hbb; have d0 := (hbb.cell hbs).trans c0; have d1 := (hbb.cell hbs).trans c1; clear hbb) | (go_at_call 72; refine (KI.out _ (by first | exact HB.out | exact Below.refl _ _)).mono ?_; rintro e w9 ⟨rfl, hw9⟩; obtain rfl := hw9.symm))
        go_quiet (fail)
        go_wp2_with (first | go_big_skip | (go_at_call 73; refine (KD.out _ (by first | exact below_drewN HB.out _ | exact below_drewN (Below.refl _ _) _)).mono ?_; rintro e w9 ⟨rfl, hw9⟩; obtain rfl := hw9.symm))
        go_ret
        exact ⟨by rw [E.out]; rfl, by first | exact below_drewN HB.out _ | exact below_drewN (Below.refl _ _) _⟩
    | true =>
      have MZ : markF (ndK l 0) = 0 := by rw [MU.out, hkd, htg]; rfl
      clear MU KN KA
      have E0 := oneF_place MZ
      by_cases hu : (ndK l 0).up = -1
      rotate_left
      · rw [place_zero' hu] at E0
        have E := Hid.mk' E0
        clear E0 KI0 KD0 MZ
        by_cases u1 : (ndK l 0).up < -1
        · skip
          go_enter Tryd.func55, Tryd.ntmps55
          go_wp2_with (first | go_big_skip | (go_at_call 69; refine KK.out.mono ?_; rintro e w9 ⟨rfl, hw9⟩; obtain rfl := hw9.symm))
          go_ret
          exact ⟨by rw [E.out]; rfl, by first | exact HB.out | exact Below.refl _ _⟩
        have u2 : (ndK l 0).up ≥ 0 := by omega
        go_enter Tryd.func55, Tryd.ntmps55
        go_wp2_with (first | go_big_skip | (go_at_call 69; refine KK.out.mono ?_; rintro e w9 ⟨rfl, hw9⟩; obtain rfl := hw9.symm))
        go_ret
        exact ⟨by rw [E.out]; rfl, by first | exact HB.out | exact Below.refl _ _⟩
      rw [place_zero hu] at E0
      have E := Hid.mk' E0
      have KI := Hid.mk' (KI0.out hu)
      have KD := Hid.mk' (KD0.out hu)
      rw [hu] at c0
      clear E0 KI0 KD0 MZ hu
      go_enter Tryd.func55, Tryd.ntmps55
      go_wp2_with (first | go_big_skip | (go_at_call 69; refine KK.out.mono ?_; rintro e w9 ⟨rfl, hw9⟩; obtain rfl := hw9.symm) | (go_at_call 72; refine (KI.out _ (by first | exact HB.out | exact Below.refl _ _)).mono ?_; rintro e w9 ⟨rfl, hw9⟩; obtain rfl := hw9.symm))
      go_quiet (fail)
      go_wp2_with (first | go_big_skip | (go_at_call 73; refine (KD.out _ (by first | exact below_drewN HB.out _ | exact below_drewN (Below.refl _ _) _)).mono ?_; rintro e w9 ⟨rfl, hw9⟩; obtain rfl := hw9.symm))
      go_ret
      exact ⟨by rw [E.out]; rfl, by first | exact below_drewN HB.out _ | exact below_drewN (Below.refl _ _) _⟩

theorem l6One_any (a : Option Addr) (c : Nat) (l : List ND) (k : Nat) (w : World) (ha : NsAt w a l) (hk : k < l.length) (hW : Ways l k) (hl : (l.length : Int) + nssz l ≤ 1048576) :
    Calls Tryd.prog 55 #[.slice a l.length c, .int .i64 (k : Int)] w fun e w' => e = .returned (.int .i64 (oneF l k)) ∧ Below w.heap.size w w' := by
  rcases Nat.eq_zero_or_pos k with h | h
  · subst h; exact l6One_zero a c l w ha hk hl
  · exact l6One_pos a c l k w ha hk h hW hl

end Go.Proofs.YtcjnfodkppcpoaaDoor
