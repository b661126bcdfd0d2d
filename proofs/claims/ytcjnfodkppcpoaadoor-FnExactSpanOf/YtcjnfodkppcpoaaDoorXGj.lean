/- The program's side of a tree's fault: the next node. -/
import Derived.Test.YtcjnfodkppcpoaaDoorXGi
namespace Go.Proofs.YtcjnfodkppcpoaaDoor
open Go.RowKit
set_option linter.unusedVariables false
set_option linter.unusedSimpArgs false

theorem mark_kind {t : ND} (h : markF t = 0) : kindB t = true := by
  unfold markF at h
  cases e : kindB t
  · rw [e] at h; simp at h
  · rfl

theorem one_mark {l : List ND} {k : Nat} (h : oneF l k = 0) : markF (ndK l k) = 0 := by
  unfold oneF at h
  split at h
  · assumption
  · assumption

theorem mkK_two {t : ND} (h : kindB t = true) : decide (mkK t = 2) = (t.tg.toList == []) := by
  rcases mkK_cases t with ⟨h1, h2⟩ | ⟨h1, h2, h3⟩ | ⟨h1, h2, h3⟩
  · rw [h1] at h; cases h
  · rw [h2, h3]; rfl
  · rw [h2, h3]; rfl

theorem hold_mk {t : ND} (h : kindB t = true) : (decide (mkK t = 1) && !voidB (mkS t)) = holdB t := by
  rcases mkK_cases t with ⟨h1, h2⟩ | ⟨h1, h2, h3⟩ | ⟨h1, h2, h3⟩
  · rw [h1] at h; cases h
  · unfold holdB; rw [h2, h3]; rfl
  · unfold holdB mkS; rw [h2, h3]; rfl

theorem side_last {l : List ND} {k : Nat} (h : kindB (ndK l k) = true) (hz : ∀ j, j < k → oneF l j = 0) : sideB l k = (decide (mkK (ndK l k) = 2) && lastB l k (ndK l k).up) := by
  unfold sideB lastB
  rw [mkK_two h]
  rcases Nat.eq_zero_or_pos k with h0 | h0
  · subst h0; simp
  · rw [decide_eq_true h0, mkK_two (mark_kind (one_mark (hz (k - 1) (by omega))))]
    simp [Bool.and_assoc]

/-- What the place of a node asks, in the program's words. -/
theorem place_mk {l : List ND} {k : Nat} (h : kindB (ndK l k) = true) (hz : ∀ j, j < k → oneF l j = 0) (hd : depU (upF l) k < (wayU (upF l) k).length) :
    placeF l k = if 0 < depU (upF l) k ∧ holdB (ndK l (ndK l k).up.toNat) = false then 1 else if (decide (mkK (ndK l k) = 2) && lastB l k (ndK l k).up) = true then 1 else if 8 ≤ depU (upF l) k then 2 else 0 := by
  have G := (ways_of hz).good
  have e : wv (wayU (upF l) k) (depU (upF l) k) = (ndK l k).up := ixF_at hd
  have i : 0 ≤ (ndK l k).up ↔ 0 < depU (upF l) k := by
    constructor
    · intro h1
      rcases Nat.eq_zero_or_pos (depU (upF l) k) with h0 | h0
      · rw [h0, G.hd] at e; omega
      · exact h0
    · intro h1
      rw [← e]; exact G.pos h1 hd
  unfold placeF
  rw [if_pos hd, side_last h hz]
  by_cases hh : 0 < depU (upF l) k ∧ holdB (ndK l (ndK l k).up.toNat) = false
  · rw [if_pos hh, if_pos ⟨i.2 hh.1, hh.2⟩]
  · rw [if_neg hh, if_neg (fun h => hh ⟨i.1 h.1, h.2⟩)]

set_option maxHeartbeats 8000000 in
theorem faultNext_any (w0 : World) (base g : Nat) (l : List ND) (pa : Nat → Option Addr) (ca : Nat → Nat) (k : Nat) (vn vw : Value) (a : Option Addr) (c : Nat) (w : World) (h : TT w0 base g l pa ca k vn vw w) (hk : k < l.length) (h60 : l.length ≤ 60) (hz : ∀ j, j < k → oneF l j = 0) (ha : AAt w a (ndK l k).at_) (hl : (l.length : Int) + nssz l ≤ 1048576) :
    Calls Tryd.prog 48 #[.pointer (some ⟨g, 0, none⟩), .agg #[.int .i64 (mkK (ndK l k)), .string (mkS (ndK l k)), mkV (ndK l k) (.slice a (ndK l k).at_.length c), .int .i64 (ndK l k).up, .int .i64 (ixI (wayU (upF l) k) (ndK l k).up)]] w fun e w' => e = .returned (.int .i64 (oneF l k)) ∧ Below w.heap.size w w' := by
  have hsz := nssz_at hk
  obtain ⟨p9, n9, c9, hV⟩ : ∃ p n c', mkV (ndK l k) (.slice a (ndK l k).at_.length c) = .slice p n c' := by unfold mkV; split <;> exact ⟨_, _, _, rfl⟩
  have N0 := below_new w (.cells #[.int .i64 (mkK (ndK l k)), .string (mkS (ndK l k)), .slice p9 n9 c9, .int .i64 (ndK l k).up, .int .i64 (ixI (wayU (upF l) k) (ndK l k).up)] 80)
  have KF := fault_any (ndK l k) a c _ (ha.below N0) (by omega)
  rw [hV] at KF
  rw [hV]
  have KF := Hid.mk' KF
  have HT := Hid.mk' (h.below N0)
  have HP := Hid.mk' (row5 w 80 (.int .i64 (mkK (ndK l k))) (.string (mkS (ndK l k))) (.slice p9 n9 c9) (.int .i64 (ndK l k).up) (.int .i64 (ixI (wayU (upF l) k) (ndK l k).up)))
  have HB := Hid.mk' N0
  clear h N0 ha hV
  generalize hW : w.alloc (.cells #[.int .i64 (mkK (ndK l k)), .string (mkS (ndK l k)), .slice p9 n9 c9, .int .i64 (ndK l k).up, .int .i64 (ixI (wayU (upF l) k) (ndK l k).up)] 80) = W at *
  obtain ⟨p0, p1, p2_, p3, p4, p5⟩ := cells5 HP.out
  by_cases hm : markF (ndK l k) = 0
  rotate_left
  · have E : Hid (oneF l k = markF (ndK l k)) := Hid.mk' (oneF_mark rfl hm)
    generalize markF (ndK l k) = f at *
    go_enter Tryd.func48, Tryd.ntmps48
    go_wp2_with fail
    clear hW
    refine KF.out.mono ?_
    rintro e w1 ⟨rfl, hb⟩
    have HB := Hid.mk' (HB.out.trans (hb.mono HB.out.size))
    clear hb KF
    go_wp2
    go_ret
    exact ⟨by rw [E.out]; rfl, HB.out⟩
  have hkd := mark_kind hm
  have E0 : oneF l k = placeF l k := oneF_place hm
  rw [hm] at KF
  by_cases hd : depU (upF l) k < (wayU (upF l) k).length
  rotate_left
  · have E : Hid (oneF l k = 3) := Hid.mk' (by rw [E0]; unfold placeF; rw [if_neg hd])
    have ed : ixI (wayU (upF l) k) (ndK l k).up = -1 := by unfold ixI; exact if_neg hd
    rw [ed] at p4
    rw [ed] at hW
    rw [ed] at HP
    rw [ed]
    clear E0 hd ed
    go_enter Tryd.func48, Tryd.ntmps48
    go_wp2_with fail
    clear hW
    refine KF.out.mono ?_
    rintro e w1 ⟨rfl, hb⟩
    obtain ⟨q0, q1, q2, q3, q4, q5⟩ := cells5 (rowB HP.out hb)
    have HB := Hid.mk' (HB.out.trans (hb.mono HB.out.size))
    clear hb KF
    go_wp2
    go_ret
    exact ⟨by rw [E.out]; rfl, HB.out⟩
  have ed : ixI (wayU (upF l) k) (ndK l k).up = (depU (upF l) k : Int) := by unfold ixI; exact if_pos hd
  have hub : 0 < depU (upF l) k → 0 ≤ (ndK l k).up ∧ (ndK l k).up < k := fun h0 => by
    have G := (ways_of hz).good
    have e : wv (wayU (upF l) k) (depU (upF l) k) = (ndK l k).up := ixF_at hd
    rw [← e]; exact ⟨G.pos h0 hd, G.hi hd⟩
  rw [place_mk hkd hz hd] at E0
  have HZ := Hid.mk' hz
  rw [ed] at p4
  rw [ed] at hW
  rw [ed] at HP
  rw [ed]
  clear hd ed hz
  obtain ⟨q, hq⟩ : ∃ q, depU (upF l) k = q := ⟨_, rfl⟩
  obtain ⟨K, hK⟩ : ∃ K, mkK (ndK l k) = K := ⟨_, rfl⟩
  obtain ⟨S, hS⟩ : ∃ S, mkS (ndK l k) = S := ⟨_, rfl⟩
  obtain ⟨U, hU⟩ : ∃ U, (ndK l k).up = U := ⟨_, rfl⟩
  rw [hq, hK, hU] at E0
  rw [hq, hU] at hub
  rw [hq, hU, hK, hS] at HP hW ⊢
  rw [hq] at p4
  rw [hU] at p3
  rw [hK, hS] at KF
  rw [hK] at p0
  rw [hS] at p1
  have KT : Hid (∀ w', Calls Tryd.prog 50 #[.agg #[.int .i64 K, .string S, .slice p9 n9 c9]] w' fun e w'' => e = .returned (.bool (decide (K = 2))) ∧ Below w'.heap.size w' w'') := fun w' => isText_any K S _ w'
  have KL : Hid (∀ w', Below W.heap.size W w' → Calls Tryd.prog 64 #[.pointer (some ⟨g, 0, none⟩), .int .i64 U] w' fun e w'' => e = .returned (.bool (lastB l k U)) ∧ Below w'.heap.size w' w'') := fun w' hb => endsText_any w0 base g l pa ca k vn vw U w' (HT.out.below hb) (by omega)
  clear hq hK hS hU hkd hm hsz
  rcases Nat.eq_zero_or_pos q with h0 | h0
  · subst h0
    rw [if_neg (fun h => absurd h.1 (Nat.lt_irrefl _)), if_neg (show ¬ 8 ≤ 0 by omega)] at E0
    rw [show ((0 : Nat) : Int) = 0 from rfl] at hW HP p4 ⊢
    clear hub
    by_cases k2 : K = 2
    · rw [decide_eq_true k2, Bool.true_and] at E0
      rw [k2] at KT p0 HP hW KF ⊢
      rw [decide_eq_true (show (2 : Int) = 2 from rfl)] at KT
      cases hL : lastB l k U with
      | true =>
        rw [hL] at KL E0
        rw [if_pos rfl] at E0
        have E := Hid.mk' E0
        clear E0
        go_enter Tryd.func48, Tryd.ntmps48
        go_wp2_with fail
        clear hW
        refine KF.out.mono ?_
        rintro e w1 ⟨rfl, hb⟩
        obtain ⟨q0, q1, q2, q3, q4, q5⟩ := cells5 (rowB HP.out hb)
        have HC := Hid.mk' hb
        clear hb KF p0 p1 p2_ p3 p4 p5
        go_wp2_with fail
        go_quiet (fail)
        have HC := Hid.mk' (below_drewN HC.out nq)
        go_wp2_with (first | go_big_skip | (go_at_call 50; refine (KT.out _).mono ?_; rintro e w2 ⟨rfl, hb⟩; have HC := Hid.mk' (HC.out.trans (hb.mono HC.out.size)); obtain ⟨s0, s1, s2, s3, s4, s5⟩ := cells5 (rowB HP.out HC.out); clear hb) | (go_at_call 64; refine (KL.out _ HC.out).mono ?_; rintro e w3 ⟨rfl, hb⟩; have HC := Hid.mk' (HC.out.trans (hb.mono HC.out.size)); obtain ⟨s0, s1, s2, s3, s4, s5⟩ := cells5 (rowB HP.out HC.out); clear hb))
        go_ret
        exact ⟨by rw [E.out]; rfl, HB.out.trans (HC.out.mono HB.out.size)⟩
      | false =>
        rw [hL] at KL E0
        rw [if_neg (by decide)] at E0
        have E := Hid.mk' E0
        clear E0
        go_enter Tryd.func48, Tryd.ntmps48
        go_wp2_with fail
        clear hW
        refine KF.out.mono ?_
        rintro e w1 ⟨rfl, hb⟩
        obtain ⟨q0, q1, q2, q3, q4, q5⟩ := cells5 (rowB HP.out hb)
        have HC := Hid.mk' hb
        clear hb KF p0 p1 p2_ p3 p4 p5
        go_wp2_with fail
        go_quiet (fail)
        have HC := Hid.mk' (below_drewN HC.out nq)
        go_wp2_with (first | go_big_skip | (go_at_call 50; refine (KT.out _).mono ?_; rintro e w2 ⟨rfl, hb⟩; have HC := Hid.mk' (HC.out.trans (hb.mono HC.out.size)); obtain ⟨s0, s1, s2, s3, s4, s5⟩ := cells5 (rowB HP.out HC.out); clear hb) | (go_at_call 64; refine (KL.out _ HC.out).mono ?_; rintro e w3 ⟨rfl, hb⟩; have HC := Hid.mk' (HC.out.trans (hb.mono HC.out.size)); obtain ⟨s0, s1, s2, s3, s4, s5⟩ := cells5 (rowB HP.out HC.out); clear hb))
        go_ret
        exact ⟨by rw [E.out]; rfl, HB.out.trans (HC.out.mono HB.out.size)⟩
    · rw [decide_eq_false k2, Bool.false_and, if_neg (by decide)] at E0
      rw [decide_eq_false k2] at KT
      have E := Hid.mk' E0
      clear E0
      go_enter Tryd.func48, Tryd.ntmps48
      go_wp2_with fail
      clear hW
      refine KF.out.mono ?_
      rintro e w1 ⟨rfl, hb⟩
      obtain ⟨q0, q1, q2, q3, q4, q5⟩ := cells5 (rowB HP.out hb)
      have HC := Hid.mk' hb
      clear hb KF p0 p1 p2_ p3 p4 p5
      go_wp2_with fail
      go_quiet (fail)
      have HC := Hid.mk' (below_drewN HC.out nq)
      go_wp2_with (first | go_big_skip | (go_at_call 50; refine (KT.out _).mono ?_; rintro e w2 ⟨rfl, hb⟩; have HC := Hid.mk' (HC.out.trans (hb.mono HC.out.size)); obtain ⟨s0, s1, s2, s3, s4, s5⟩ := cells5 (rowB HP.out HC.out); clear hb) | (go_at_call 64; refine (KL.out _ HC.out).mono ?_; rintro e w3 ⟨rfl, hb⟩; have HC := Hid.mk' (HC.out.trans (hb.mono HC.out.size)); obtain ⟨s0, s1, s2, s3, s4, s5⟩ := cells5 (rowB HP.out HC.out); clear hb))
      go_ret
      exact ⟨by rw [E.out]; rfl, HB.out.trans (HC.out.mono HB.out.size)⟩
  · obtain ⟨u0, u1⟩ := hub h0
    obtain ⟨m, rfl⟩ : ∃ m : Nat, U = (m : Int) := ⟨U.toNat, by omega⟩
    rw [Int.toNat_natCast] at E0
    have HM := Hid.mk' (hold_mk (mark_kind (one_mark (HZ.out m (by omega)))))
    have KH : Hid (∀ v w', Calls Tryd.prog 63 #[.agg #[.int .i64 (mkK (ndK l m)), .string (mkS (ndK l m)), v]] w' fun e w'' => e = .returned (.bool (holdB (ndK l m))) ∧ Below w'.heap.size w' w'') := fun v w' => by have := mayHold_any (mkK (ndK l m)) (mkS (ndK l m)) v w'; rw [HM.out] at this; exact this
    have hmk : (m : Int) < (k : Int) := u1
    have HN : Hid (∀ w', Below W.heap.size W w' → ∃ b cap p n c', vn = .slice (some ⟨b, 0, none⟩) k cap ∧ w'.cell? ⟨g, 0, none⟩ = some (.slice (some ⟨b, 0, none⟩) k cap) ∧ w'.cell? ⟨b, m * 5, none⟩ = some (.int .i64 (mkK (ndK l m))) ∧ w'.cell? ⟨b, m * 5 + 1, none⟩ = some (.string (mkS (ndK l m))) ∧ w'.cell? ⟨b, m * 5 + 2, none⟩ = some (.slice p n c') ∧ w'.cell? ⟨b, m * 5 + 3, none⟩ = some (.int .i64 (ndK l m).up) ∧ w'.cell? ⟨b, m * 5 + 4, none⟩ = some (.int .i64 (depU (upF l) m : Int))) := fun w' hb => by
      have hT := HT.out.below hb
      obtain ⟨b, cap, e, _, _, h3⟩ := hT.node (by omega)
      obtain ⟨d0, d1, d2, d3, d4⟩ := h3 m (by omega)
      obtain ⟨p, n, c', e2⟩ := mkV_slice (ndK l m) l pa ca m
      refine ⟨b, cap, p, n, c', e, ?_, d0, d1, by rw [d2, e2], d3, d4⟩
      rw [← e]; exact (cells2 hT.box).1
    have dn : ¬ (q : Int) < 0 := by omega
    cases hh : holdB (ndK l m) with
    | false =>
      rw [hh] at KH E0
      rw [if_pos ⟨h0, rfl⟩] at E0
      have E := Hid.mk' E0
      clear E0 HM
      go_enter Tryd.func48, Tryd.ntmps48
      go_wp2_with fail
      clear hW
      refine KF.out.mono ?_
      rintro e w1 ⟨rfl, hb⟩
      obtain ⟨q0, q1, q2, q3, q4, q5⟩ := cells5 (rowB HP.out hb)
      obtain ⟨nb, ncap, np, nn, nc, _, m0, m1, m2, m3, m4, m5⟩ := HN.out w1 hb
      have mg : g < w1.heap.size := World.block_lt_of_cell? w1 ⟨g, 0, none⟩ m0
      have mb' : nb < w1.heap.size := World.block_lt_of_cell? w1 ⟨nb, m * 5, none⟩ m1
      have HC := Hid.mk' hb
      clear hb KF p0 p1 p2_ p3 p4 p5
      go_wp2_with fail
      go_region_held3 (fun w' => w'.cell? ⟨g, 0, none⟩ = some (.slice (some ⟨nb, 0, none⟩) k ncap) ∧ w'.cell? ⟨nb, m * 5, none⟩ = some (.int .i64 (mkK (ndK l m))) ∧ w'.cell? ⟨nb, m * 5 + 1, none⟩ = some (.string (mkS (ndK l m))) ∧ w'.cell? ⟨nb, m * 5 + 2, none⟩ = some (.slice np nn nc) ∧ w'.cell? ⟨w.heap.size, 3, none⟩ = some (.int .i64 (m : Int)) ∧ w'.cell? ⟨w.heap.size, 4, none⟩ = some (.int .i64 (q : Int))) (simp [*]) ((go_at_call 63; refine (KH.out _ _).mono ?_; rintro e w4 ⟨rfl, hb⟩; replace hb := undrew hb; obtain ⟨hx, hy⟩ := bcell hb; have HC := Hid.mk' (HC.out.trans (hb.mono HC.out.size)); clear hb))
      obtain ⟨s0, s1, s2, s3, s4, s5⟩ := cells5 (rowB HP.out HC.out)
      go_wp2_with (first | go_big_skip | (go_at_call 50; refine (KT.out _).mono ?_; rintro e w2 ⟨rfl, hb⟩; have HC := Hid.mk' (HC.out.trans (hb.mono HC.out.size)); obtain ⟨s0, s1, s2, s3, s4, s5⟩ := cells5 (rowB HP.out HC.out); clear hb) | (go_at_call 64; refine (KL.out _ HC.out).mono ?_; rintro e w3 ⟨rfl, hb⟩; have HC := Hid.mk' (HC.out.trans (hb.mono HC.out.size)); obtain ⟨s0, s1, s2, s3, s4, s5⟩ := cells5 (rowB HP.out HC.out); clear hb) | (go_at_call 63; refine (KH.out _ _).mono ?_; rintro e w4 ⟨rfl, hb⟩; have HC := Hid.mk' (HC.out.trans (hb.mono HC.out.size)); obtain ⟨s0, s1, s2, s3, s4, s5⟩ := cells5 (rowB HP.out HC.out); clear hb))
      go_ret
      exact ⟨by rw [E.out]; rfl, HB.out.trans (HC.out.mono HB.out.size)⟩
    | true =>
      rw [hh] at KH E0
      rw [if_neg (fun h => absurd h.2 (by decide))] at E0
      clear HM
      by_cases k2 : K = 2
      · rw [decide_eq_true k2, Bool.true_and] at E0
        rw [k2] at KT p0 HP hW KF ⊢
        rw [decide_eq_true (show (2 : Int) = 2 from rfl)] at KT
        cases hL : lastB l k (m : Int) with
        | true =>
          rw [hL] at KL E0
          rw [if_pos rfl] at E0
          have E := Hid.mk' E0
          clear E0
          go_enter Tryd.func48, Tryd.ntmps48
          go_wp2_with fail
          clear hW
          refine KF.out.mono ?_
          rintro e w1 ⟨rfl, hb⟩
          obtain ⟨q0, q1, q2, q3, q4, q5⟩ := cells5 (rowB HP.out hb)
          obtain ⟨nb, ncap, np, nn, nc, _, m0, m1, m2, m3, m4, m5⟩ := HN.out w1 hb
          have mg : g < w1.heap.size := World.block_lt_of_cell? w1 ⟨g, 0, none⟩ m0
          have mb' : nb < w1.heap.size := World.block_lt_of_cell? w1 ⟨nb, m * 5, none⟩ m1
          have HC := Hid.mk' hb
          clear hb KF p0 p1 p2_ p3 p4 p5
          go_wp2_with fail
          go_region_held3 (fun w' => w'.cell? ⟨g, 0, none⟩ = some (.slice (some ⟨nb, 0, none⟩) k ncap) ∧ w'.cell? ⟨nb, m * 5, none⟩ = some (.int .i64 (mkK (ndK l m))) ∧ w'.cell? ⟨nb, m * 5 + 1, none⟩ = some (.string (mkS (ndK l m))) ∧ w'.cell? ⟨nb, m * 5 + 2, none⟩ = some (.slice np nn nc) ∧ w'.cell? ⟨w.heap.size, 3, none⟩ = some (.int .i64 (m : Int)) ∧ w'.cell? ⟨w.heap.size, 4, none⟩ = some (.int .i64 (q : Int))) (simp [*]) ((go_at_call 63; refine (KH.out _ _).mono ?_; rintro e w4 ⟨rfl, hb⟩; replace hb := undrew hb; obtain ⟨hx, hy⟩ := bcell hb; have HC := Hid.mk' (HC.out.trans (hb.mono HC.out.size)); clear hb))
          obtain ⟨s0, s1, s2, s3, s4, s5⟩ := cells5 (rowB HP.out HC.out)
          go_wp2_with (first | go_big_skip | (go_at_call 50; refine (KT.out _).mono ?_; rintro e w2 ⟨rfl, hb⟩; have HC := Hid.mk' (HC.out.trans (hb.mono HC.out.size)); obtain ⟨s0, s1, s2, s3, s4, s5⟩ := cells5 (rowB HP.out HC.out); clear hb) | (go_at_call 64; refine (KL.out _ HC.out).mono ?_; rintro e w3 ⟨rfl, hb⟩; have HC := Hid.mk' (HC.out.trans (hb.mono HC.out.size)); obtain ⟨s0, s1, s2, s3, s4, s5⟩ := cells5 (rowB HP.out HC.out); clear hb) | (go_at_call 63; refine (KH.out _ _).mono ?_; rintro e w4 ⟨rfl, hb⟩; have HC := Hid.mk' (HC.out.trans (hb.mono HC.out.size)); obtain ⟨s0, s1, s2, s3, s4, s5⟩ := cells5 (rowB HP.out HC.out); clear hb))
          go_ret
          exact ⟨by rw [E.out]; rfl, HB.out.trans (HC.out.mono HB.out.size)⟩
        | false =>
          rw [hL] at KL E0
          rw [if_neg (by decide)] at E0
          by_cases q8 : (q : Int) ≥ 8
          · rw [if_pos (by omega)] at E0
            have E := Hid.mk' E0
            clear E0
            go_enter Tryd.func48, Tryd.ntmps48
            go_wp2_with fail
            clear hW
            refine KF.out.mono ?_
            rintro e w1 ⟨rfl, hb⟩
            obtain ⟨q0, q1, q2, q3, q4, q5⟩ := cells5 (rowB HP.out hb)
            obtain ⟨nb, ncap, np, nn, nc, _, m0, m1, m2, m3, m4, m5⟩ := HN.out w1 hb
            have mg : g < w1.heap.size := World.block_lt_of_cell? w1 ⟨g, 0, none⟩ m0
            have mb' : nb < w1.heap.size := World.block_lt_of_cell? w1 ⟨nb, m * 5, none⟩ m1
            have HC := Hid.mk' hb
            clear hb KF p0 p1 p2_ p3 p4 p5
            go_wp2_with fail
            go_region_held3 (fun w' => w'.cell? ⟨g, 0, none⟩ = some (.slice (some ⟨nb, 0, none⟩) k ncap) ∧ w'.cell? ⟨nb, m * 5, none⟩ = some (.int .i64 (mkK (ndK l m))) ∧ w'.cell? ⟨nb, m * 5 + 1, none⟩ = some (.string (mkS (ndK l m))) ∧ w'.cell? ⟨nb, m * 5 + 2, none⟩ = some (.slice np nn nc) ∧ w'.cell? ⟨w.heap.size, 3, none⟩ = some (.int .i64 (m : Int)) ∧ w'.cell? ⟨w.heap.size, 4, none⟩ = some (.int .i64 (q : Int))) (simp [*]) ((go_at_call 63; refine (KH.out _ _).mono ?_; rintro e w4 ⟨rfl, hb⟩; replace hb := undrew hb; obtain ⟨hx, hy⟩ := bcell hb; have HC := Hid.mk' (HC.out.trans (hb.mono HC.out.size)); clear hb))
            obtain ⟨s0, s1, s2, s3, s4, s5⟩ := cells5 (rowB HP.out HC.out)
            go_wp2_with (first | go_big_skip | (go_at_call 50; refine (KT.out _).mono ?_; rintro e w2 ⟨rfl, hb⟩; have HC := Hid.mk' (HC.out.trans (hb.mono HC.out.size)); obtain ⟨s0, s1, s2, s3, s4, s5⟩ := cells5 (rowB HP.out HC.out); clear hb) | (go_at_call 64; refine (KL.out _ HC.out).mono ?_; rintro e w3 ⟨rfl, hb⟩; have HC := Hid.mk' (HC.out.trans (hb.mono HC.out.size)); obtain ⟨s0, s1, s2, s3, s4, s5⟩ := cells5 (rowB HP.out HC.out); clear hb) | (go_at_call 63; refine (KH.out _ _).mono ?_; rintro e w4 ⟨rfl, hb⟩; have HC := Hid.mk' (HC.out.trans (hb.mono HC.out.size)); obtain ⟨s0, s1, s2, s3, s4, s5⟩ := cells5 (rowB HP.out HC.out); clear hb))
            go_ret
            exact ⟨by rw [E.out]; rfl, HB.out.trans (HC.out.mono HB.out.size)⟩
          · rw [if_neg (by omega)] at E0
            have E := Hid.mk' E0
            clear E0
            go_enter Tryd.func48, Tryd.ntmps48
            go_wp2_with fail
            clear hW
            refine KF.out.mono ?_
            rintro e w1 ⟨rfl, hb⟩
            obtain ⟨q0, q1, q2, q3, q4, q5⟩ := cells5 (rowB HP.out hb)
            obtain ⟨nb, ncap, np, nn, nc, _, m0, m1, m2, m3, m4, m5⟩ := HN.out w1 hb
            have mg : g < w1.heap.size := World.block_lt_of_cell? w1 ⟨g, 0, none⟩ m0
            have mb' : nb < w1.heap.size := World.block_lt_of_cell? w1 ⟨nb, m * 5, none⟩ m1
            have HC := Hid.mk' hb
            clear hb KF p0 p1 p2_ p3 p4 p5
            go_wp2_with fail
            go_region_held3 (fun w' => w'.cell? ⟨g, 0, none⟩ = some (.slice (some ⟨nb, 0, none⟩) k ncap) ∧ w'.cell? ⟨nb, m * 5, none⟩ = some (.int .i64 (mkK (ndK l m))) ∧ w'.cell? ⟨nb, m * 5 + 1, none⟩ = some (.string (mkS (ndK l m))) ∧ w'.cell? ⟨nb, m * 5 + 2, none⟩ = some (.slice np nn nc) ∧ w'.cell? ⟨w.heap.size, 3, none⟩ = some (.int .i64 (m : Int)) ∧ w'.cell? ⟨w.heap.size, 4, none⟩ = some (.int .i64 (q : Int))) (simp [*]) ((go_at_call 63; refine (KH.out _ _).mono ?_; rintro e w4 ⟨rfl, hb⟩; replace hb := undrew hb; obtain ⟨hx, hy⟩ := bcell hb; have HC := Hid.mk' (HC.out.trans (hb.mono HC.out.size)); clear hb))
            obtain ⟨s0, s1, s2, s3, s4, s5⟩ := cells5 (rowB HP.out HC.out)
            go_wp2_with (first | go_big_skip | (go_at_call 50; refine (KT.out _).mono ?_; rintro e w2 ⟨rfl, hb⟩; have HC := Hid.mk' (HC.out.trans (hb.mono HC.out.size)); obtain ⟨s0, s1, s2, s3, s4, s5⟩ := cells5 (rowB HP.out HC.out); clear hb) | (go_at_call 64; refine (KL.out _ HC.out).mono ?_; rintro e w3 ⟨rfl, hb⟩; have HC := Hid.mk' (HC.out.trans (hb.mono HC.out.size)); obtain ⟨s0, s1, s2, s3, s4, s5⟩ := cells5 (rowB HP.out HC.out); clear hb) | (go_at_call 63; refine (KH.out _ _).mono ?_; rintro e w4 ⟨rfl, hb⟩; have HC := Hid.mk' (HC.out.trans (hb.mono HC.out.size)); obtain ⟨s0, s1, s2, s3, s4, s5⟩ := cells5 (rowB HP.out HC.out); clear hb))
            go_ret
            exact ⟨by rw [E.out]; rfl, HB.out.trans (HC.out.mono HB.out.size)⟩
      · rw [decide_eq_false k2, Bool.false_and, if_neg (by decide)] at E0
        rw [decide_eq_false k2] at KT
        by_cases q8 : (q : Int) ≥ 8
        · rw [if_pos (by omega)] at E0
          have E := Hid.mk' E0
          clear E0
          go_enter Tryd.func48, Tryd.ntmps48
          go_wp2_with fail
          clear hW
          refine KF.out.mono ?_
          rintro e w1 ⟨rfl, hb⟩
          obtain ⟨q0, q1, q2, q3, q4, q5⟩ := cells5 (rowB HP.out hb)
          obtain ⟨nb, ncap, np, nn, nc, _, m0, m1, m2, m3, m4, m5⟩ := HN.out w1 hb
          have mg : g < w1.heap.size := World.block_lt_of_cell? w1 ⟨g, 0, none⟩ m0
          have mb' : nb < w1.heap.size := World.block_lt_of_cell? w1 ⟨nb, m * 5, none⟩ m1
          have HC := Hid.mk' hb
          clear hb KF p0 p1 p2_ p3 p4 p5
          go_wp2_with fail
          go_region_held3 (fun w' => w'.cell? ⟨g, 0, none⟩ = some (.slice (some ⟨nb, 0, none⟩) k ncap) ∧ w'.cell? ⟨nb, m * 5, none⟩ = some (.int .i64 (mkK (ndK l m))) ∧ w'.cell? ⟨nb, m * 5 + 1, none⟩ = some (.string (mkS (ndK l m))) ∧ w'.cell? ⟨nb, m * 5 + 2, none⟩ = some (.slice np nn nc) ∧ w'.cell? ⟨w.heap.size, 3, none⟩ = some (.int .i64 (m : Int)) ∧ w'.cell? ⟨w.heap.size, 4, none⟩ = some (.int .i64 (q : Int))) (simp [*]) ((go_at_call 63; refine (KH.out _ _).mono ?_; rintro e w4 ⟨rfl, hb⟩; replace hb := undrew hb; obtain ⟨hx, hy⟩ := bcell hb; have HC := Hid.mk' (HC.out.trans (hb.mono HC.out.size)); clear hb))
          obtain ⟨s0, s1, s2, s3, s4, s5⟩ := cells5 (rowB HP.out HC.out)
          go_wp2_with (first | go_big_skip | (go_at_call 50; refine (KT.out _).mono ?_; rintro e w2 ⟨rfl, hb⟩; have HC := Hid.mk' (HC.out.trans (hb.mono HC.out.size)); obtain ⟨s0, s1, s2, s3, s4, s5⟩ := cells5 (rowB HP.out HC.out); clear hb) | (go_at_call 64; refine (KL.out _ HC.out).mono ?_; rintro e w3 ⟨rfl, hb⟩; have HC := Hid.mk' (HC.out.trans (hb.mono HC.out.size)); obtain ⟨s0, s1, s2, s3, s4, s5⟩ := cells5 (rowB HP.out HC.out); clear hb) | (go_at_call 63; refine (KH.out _ _).mono ?_; rintro e w4 ⟨rfl, hb⟩; have HC := Hid.mk' (HC.out.trans (hb.mono HC.out.size)); obtain ⟨s0, s1, s2, s3, s4, s5⟩ := cells5 (rowB HP.out HC.out); clear hb))
          go_ret
          exact ⟨by rw [E.out]; rfl, HB.out.trans (HC.out.mono HB.out.size)⟩
        · rw [if_neg (by omega)] at E0
          have E := Hid.mk' E0
          clear E0
          go_enter Tryd.func48, Tryd.ntmps48
          go_wp2_with fail
          clear hW
          refine KF.out.mono ?_
          rintro e w1 ⟨rfl, hb⟩
          obtain ⟨q0, q1, q2, q3, q4, q5⟩ := cells5 (rowB HP.out hb)
          obtain ⟨nb, ncap, np, nn, nc, _, m0, m1, m2, m3, m4, m5⟩ := HN.out w1 hb
          have mg : g < w1.heap.size := World.block_lt_of_cell? w1 ⟨g, 0, none⟩ m0
          have mb' : nb < w1.heap.size := World.block_lt_of_cell? w1 ⟨nb, m * 5, none⟩ m1
          have HC := Hid.mk' hb
          clear hb KF p0 p1 p2_ p3 p4 p5
          go_wp2_with fail
          go_region_held3 (fun w' => w'.cell? ⟨g, 0, none⟩ = some (.slice (some ⟨nb, 0, none⟩) k ncap) ∧ w'.cell? ⟨nb, m * 5, none⟩ = some (.int .i64 (mkK (ndK l m))) ∧ w'.cell? ⟨nb, m * 5 + 1, none⟩ = some (.string (mkS (ndK l m))) ∧ w'.cell? ⟨nb, m * 5 + 2, none⟩ = some (.slice np nn nc) ∧ w'.cell? ⟨w.heap.size, 3, none⟩ = some (.int .i64 (m : Int)) ∧ w'.cell? ⟨w.heap.size, 4, none⟩ = some (.int .i64 (q : Int))) (simp [*]) ((go_at_call 63; refine (KH.out _ _).mono ?_; rintro e w4 ⟨rfl, hb⟩; replace hb := undrew hb; obtain ⟨hx, hy⟩ := bcell hb; have HC := Hid.mk' (HC.out.trans (hb.mono HC.out.size)); clear hb))
          obtain ⟨s0, s1, s2, s3, s4, s5⟩ := cells5 (rowB HP.out HC.out)
          go_wp2_with (first | go_big_skip | (go_at_call 50; refine (KT.out _).mono ?_; rintro e w2 ⟨rfl, hb⟩; have HC := Hid.mk' (HC.out.trans (hb.mono HC.out.size)); obtain ⟨s0, s1, s2, s3, s4, s5⟩ := cells5 (rowB HP.out HC.out); clear hb) | (go_at_call 64; refine (KL.out _ HC.out).mono ?_; rintro e w3 ⟨rfl, hb⟩; have HC := Hid.mk' (HC.out.trans (hb.mono HC.out.size)); obtain ⟨s0, s1, s2, s3, s4, s5⟩ := cells5 (rowB HP.out HC.out); clear hb) | (go_at_call 63; refine (KH.out _ _).mono ?_; rintro e w4 ⟨rfl, hb⟩; have HC := Hid.mk' (HC.out.trans (hb.mono HC.out.size)); obtain ⟨s0, s1, s2, s3, s4, s5⟩ := cells5 (rowB HP.out HC.out); clear hb))
          go_ret
          exact ⟨by rw [E.out]; rfl, HB.out.trans (HC.out.mono HB.out.size)⟩

end Go.Proofs.YtcjnfodkppcpoaaDoor
