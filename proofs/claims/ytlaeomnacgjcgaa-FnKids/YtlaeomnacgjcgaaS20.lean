/- The program's side of a tree's fault: the next node. -/
import Derived.Test.YtlaeomnacgjcgaaS19
set_option linter.unusedVariables false
set_option linter.unusedSimpArgs false
namespace Go.Proofs.Ytlaeomnacgjcgaa
open Go.RowKit

theorem mark_kind {t : ND} (h : markF t = 0) : kindB t = true := by
  unfold markF at h
  cases e : kindB t
  · rw [e] at h; simp at h
  · rfl

theorem one_mark {l : List ND} {k : Nat} (h : oneF l k = 0) : markF (ndK l k) = 0 := by
  unfold oneF at h
  split at h
  · assumption
  · assumption

theorem mkK_two {t : ND} (h : kindB t = true) : decide (mkK t = 2) = (t.tg.toList == []) := by
  rcases mkK_cases t with ⟨h1, h2⟩ | ⟨h1, h2, h3⟩ | ⟨h1, h2, h3⟩
  · rw [h1] at h; cases h
  · rw [h2, h3]; rfl
  · rw [h2, h3]; rfl

theorem hold_mk {t : ND} (h : kindB t = true) : (decide (mkK t = 1) && !voidB (mkS t)) = holdB t := by
  rcases mkK_cases t with ⟨h1, h2⟩ | ⟨h1, h2, h3⟩ | ⟨h1, h2, h3⟩
  · rw [h1] at h; cases h
  · unfold holdB; rw [h2, h3]; rfl
  · unfold holdB mkS; rw [h2, h3]; rfl

theorem side_last {l : List ND} {k : Nat} (h : kindB (ndK l k) = true) (hz : ∀ j, j < k → oneF l j = 0) : sideB l k = (decide (mkK (ndK l k) = 2) && lastB l k (ndK l k).up) := by
  unfold sideB lastB
  rw [mkK_two h]
  rcases Nat.eq_zero_or_pos k with h0 | h0
  · subst h0; simp
  · rw [decide_eq_true h0, mkK_two (mark_kind (one_mark (hz (k - 1) (by omega))))]
    simp [Bool.and_assoc]

theorem place_mk {l : List ND} {k : Nat} (h : kindB (ndK l k) = true) (hz : ∀ j, j < k → oneF l j = 0) (hd : depU (upF l) k < (wayU (upF l) k).length) :
    placeF l k = if 0 < depU (upF l) k ∧ holdB (ndK l (ndK l k).up.toNat) = false then 1 else if (decide (mkK (ndK l k) = 2) && lastB l k (ndK l k).up) = true then 1 else if 8 ≤ depU (upF l) k then 2 else 0 := by
  have G := (ways_of hz).good
  have e : wv (wayU (upF l) k) (depU (upF l) k) = (ndK l k).up := ixF_at hd
  have i : 0 ≤ (ndK l k).up ↔ 0 < depU (upF l) k := by
    constructor
    · intro h1
      rcases Nat.eq_zero_or_pos (depU (upF l) k) with h0 | h0
      · rw [h0, G.hd] at e; omega
      · exact h0
    · intro h1
      rw [← e]; exact G.pos h1 hd
  unfold placeF
  rw [if_pos hd, side_last h hz]
  by_cases hh : 0 < depU (upF l) k ∧ holdB (ndK l (ndK l k).up.toNat) = false
  · rw [if_pos hh, if_pos ⟨i.2 hh.1, hh.2⟩]
  · rw [if_neg hh, if_neg (fun h => hh ⟨i.1 h.1, h.2⟩)]

set_option maxHeartbeats 8000000 in
theorem faultNext_any (w0 : World) (base g : Nat) (l : List ND) (pa : Nat → Option Addr) (ca : Nat → Nat) (k : Nat) (vn vw : Value) (a : Option Addr) (c : Nat) (w : World) (h : TT w0 base g l pa ca k vn vw w) (hk : k < l.length) (h60 : l.length ≤ 60) (hz : ∀ j, j < k → oneF l j = 0) (ha : AAt w a (ndK l k).at_) (hl : (l.length : Int) + nssz l ≤ 1048576) :
    Calls Try.prog 41 #[.pointer (some ⟨g, 0, none⟩), .agg #[.int .i64 (mkK (ndK l k)), .string (mkS (ndK l k)), mkV (ndK l k) (.slice a (ndK l k).at_.length c), .int .i64 (ndK l k).up, .int .i64 (ixI (wayU (upF l) k) (ndK l k).up)]] w fun e w' => e = .returned (.int .i64 (oneF l k)) ∧ Below w.heap.size w w' := by
  have hsz := nssz_at hk
  obtain ⟨p9, n9, c9, hV⟩ : ∃ p n c', mkV (ndK l k) (.slice a (ndK l k).at_.length c) = .slice p n c' := by unfold mkV; split <;> exact ⟨_, _, _, rfl⟩
  have N0 := below_new w (.cells #[.int .i64 (mkK (ndK l k)), .string (mkS (ndK l k)), .slice p9 n9 c9, .int .i64 (ndK l k).up, .int .i64 (ixI (wayU (upF l) k) (ndK l k).up)] 58)
  have KF := fault_any (ndK l k) a c _ (ha.below N0) (by omega)
  rw [hV] at KF
  rw [hV]
  have KF := Hid.mk' KF
  have HT := Hid.mk' (h.below N0)
  have HP := Hid.mk' (row5 w 58 (.int .i64 (mkK (ndK l k))) (.string (mkS (ndK l k))) (.slice p9 n9 c9) (.int .i64 (ndK l k).up) (.int .i64 (ixI (wayU (upF l) k) (ndK l k).up)))
  have HB := Hid.mk' N0
  clear h N0 ha hV
  generalize hW : w.alloc (.cells #[.int .i64 (mkK (ndK l k)), .string (mkS (ndK l k)), .slice p9 n9 c9, .int .i64 (ndK l k).up, .int .i64 (ixI (wayU (upF l) k) (ndK l k).up)] 58) = W at *
  obtain ⟨p0, p1, p2_, p3, p4, p5⟩ := cells5 HP.out
  by_cases hm : markF (ndK l k) = 0
  rotate_left
  · have E : Hid (oneF l k = markF (ndK l k)) := Hid.mk' (oneF_mark rfl hm)
    generalize markF (ndK l k) = f at *
    go_enter Try.func41, Try.ntmps41
    go_wp2_with fail
    clear hW
    refine KF.out.mono ?_
    rintro e w1 ⟨rfl, hb⟩
    have HB := Hid.mk' (HB.out.trans (hb.mono HB.out.size))
    clear hb KF
    go_wp2
    go_ret
    exact ⟨by rw [E.out]; rfl, HB.out⟩
  have hkd := mark_kind hm
  have E0 : oneF l k = placeF l k := oneF_place hm
  rw [hm] at KF
  by_cases hd : depU (upF l) k < (wayU (upF l) k).length
  rotate_left
  · have E : Hid (oneF l k = 3) := Hid.mk' (by rw [E0]; unfold placeF; rw [if_neg hd])
    have ed : ixI (wayU (upF l) k) (ndK l k).up = -1 := by unfold ixI; exact if_neg hd
    rw [ed] at p4
    rw [ed] at hW
    rw [ed] at HP
    rw [ed]
    clear E0 hd ed
    go_enter Try.func41, Try.ntmps41
    go_wp2_with fail
    clear hW
    refine KF.out.mono ?_
    rintro e w1 ⟨rfl, hb⟩
    obtain ⟨q0, q1, q2, q3, q4, q5⟩ := cells5 (rowB HP.out hb)
    have HB := Hid.mk' (HB.out.trans (hb.mono HB.out.size))
    clear hb KF
    go_wp2
    go_ret
    exact ⟨by rw [E.out]; rfl, HB.out⟩
  have ed : ixI (wayU (upF l) k) (ndK l k).up = (depU (upF l) k : Int) := by unfold ixI; exact if_pos hd
  have hub : 0 < depU (upF l) k → 0 ≤ (ndK l k).up ∧ (ndK l k).up < k := fun h0 => by
    have G := (ways_of hz).good
    have e : wv (wayU (upF l) k) (depU (upF l) k) = (ndK l k).up := ixF_at hd
    rw [← e]; exact ⟨G.pos h0 hd, G.hi hd⟩
  rw [place_mk hkd hz hd] at E0
  have HZ := Hid.mk' hz
  rw [ed] at p4
  rw [ed] at hW
  rw [ed] at HP
  rw [ed]
  clear hd ed hz
  obtain ⟨q, hq⟩ : ∃ q, depU (upF l) k = q := ⟨_, rfl⟩
  obtain ⟨K, hK⟩ : ∃ K, mkK (ndK l k) = K := ⟨_, rfl⟩
  obtain ⟨S, hS⟩ : ∃ S, mkS (ndK l k) = S := ⟨_, rfl⟩
  obtain ⟨U, hU⟩ : ∃ U, (ndK l k).up = U := ⟨_, rfl⟩
  rw [hq, hK, hU] at E0
  rw [hq, hU] at hub
  rw [hq, hU, hK, hS] at HP hW ⊢
  rw [hq] at p4
  rw [hU] at p3
  rw [hK, hS] at KF
  rw [hK] at p0
  rw [hS] at p1
  have KT : Hid (∀ w', Calls Try.prog 49 #[.agg #[.int .i64 K, .string S, .slice p9 n9 c9]] w' fun e w'' => e = .returned (.bool (decide (K = 2))) ∧ Below w'.heap.size w' w'') := fun w' => isText_any K S _ w'
  have KL : Hid (∀ w', Below W.heap.size W w' → Calls Try.prog 50 #[.pointer (some ⟨g, 0, none⟩), .int .i64 U] w' fun e w'' => e = .returned (.bool (lastB l k U)) ∧ Below w'.heap.size w' w'') := fun w' hb => endsText_any w0 base g l pa ca k vn vw U w' (HT.out.below hb) (by omega)
  clear hq hK hS hU hkd hm hsz
  rcases Nat.eq_zero_or_pos q with h0 | h0
  · subst h0
    rw [if_neg (fun h => absurd h.1 (Nat.lt_irrefl _)), if_neg (show ¬ 8 ≤ 0 by omega)] at E0
    rw [show ((0 : Nat) : Int) = 0 from rfl] at hW HP p4 ⊢
    clear hub
    by_cases k2 : K = 2
    · rw [decide_eq_true k2, Bool.true_and] at E0
      rw [k2] at KT p0 HP hW KF ⊢
      rw [decide_eq_true (show (2 : Int) = 2 from rfl)] at KT
      cases hL : lastB l k U with
      | true =>
        rw [hL] at KL E0
        rw [if_pos rfl] at E0
        have E := Hid.mk' E0
        clear E0
        go_enter Try.func41, Try.ntmps41
        go_wp2_with fail
        clear hW
        refine KF.out.mono ?_
        rintro e w1 ⟨rfl, hb⟩
        obtain ⟨q0, q1, q2, q3, q4, q5⟩ := cells5 (rowB HP.out hb)
        have HC := Hid.mk' hb
        clear hb KF p0 p1 p2_ p3 p4 p5
        go_wp2_with fail
        go_quiet (fail)
        have HC := Hid.mk' (below_drewN HC.out nq)
        go_wp2_with (first | go_big_skip | (go_at_call 49; refine (KT.out _).mono ?_; rintro e w2 ⟨rfl, hb⟩; have HC := Hid.mk' (HC.out.trans (hb.mono HC.out.size)); obtain ⟨s0, s1, s2, s3, s4, s5⟩ := cells5 (rowB HP.out HC.out); clear hb) | (go_at_call 50; refine (KL.out _ HC.out).mono ?_; rintro e w3 ⟨rfl, hb⟩; have HC := Hid.mk' (HC.out.trans (hb.mono HC.out.size)); obtain ⟨s0, s1, s2, s3, s4, s5⟩ := cells5 (rowB HP.out HC.out); clear hb))
        go_ret
        exact ⟨by rw [E.out]; rfl, HB.out.trans (HC.out.mono HB.out.size)⟩
      | false =>
        rw [hL] at KL E0
        rw [if_neg (by decide)] at E0
        have E := Hid.mk' E0
        clear E0
        go_enter Try.func41, Try.ntmps41
        go_wp2_with fail
        clear hW
        refine KF.out.mono ?_
        rintro e w1 ⟨rfl, hb⟩
        obtain ⟨q0, q1, q2, q3, q4, q5⟩ := cells5 (rowB HP.out hb)
        have HC := Hid.mk' hb
        clear hb KF p0 p1 p2_ p3 p4 p5
        go_wp2_with fail
        go_quiet (fail)
        have HC := Hid.mk' (below_drewN HC.out nq)
        go_wp2_with (first | go_big_skip | (go_at_call 49; refine (KT.out _).mono ?_; rintro e w2 ⟨rfl, hb⟩; have HC := Hid.mk' (HC.out.trans (hb.mono HC.out.size)); obtain ⟨s0, s1, s2, s3, s4, s5⟩ := cells5 (rowB HP.out HC.out); clear hb) | (go_at_call 50; refine (KL.out _ HC.out).mono ?_; rintro e w3 ⟨rfl, hb⟩; have HC := Hid.mk' (HC.out.trans (hb.mono HC.out.size)); obtain ⟨s0, s1, s2, s3, s4, s5⟩ := cells5 (rowB HP.out HC.out); clear hb))
        go_ret
        exact ⟨by rw [E.out]; rfl, HB.out.trans (HC.out.mono HB.out.size)⟩
    · rw [decide_eq_false k2, Bool.false_and, if_neg (by decide)] at E0
      rw [decide_eq_false k2] at KT
      have E := Hid.mk' E0
      clear E0
      go_enter Try.func41, Try.ntmps41
      go_wp2_with fail
      clear hW
      refine KF.out.mono ?_
      rintro e w1 ⟨rfl, hb⟩
      obtain ⟨q0, q1, q2, q3, q4, q5⟩ := cells5 (rowB HP.out hb)
      have HC := Hid.mk' hb
      clear hb KF p0 p1 p2_ p3 p4 p5
      go_wp2_with fail
      go_quiet (fail)
      have HC := Hid.mk' (below_drewN HC.out nq)
      go_wp2_with (first | go_big_skip | (go_at_call 49; refine (KT.out _).mono ?_; rintro e w2 ⟨rfl, hb⟩; have HC := Hid.mk' (HC.out.trans (hb.mono HC.out.size)); obtain ⟨s0, s1, s2, s3, s4, s5⟩ := cells5 (rowB HP.out HC.out); clear hb) | (go_at_call 50; refine (KL.out _ HC.out).mono ?_; rintro e w3 ⟨rfl, hb⟩; have HC := Hid.mk' (HC.out.trans (hb.mono HC.out.size)); obtain ⟨s0, s1, s2, s3, s4, s5⟩ := cells5 (rowB HP.out HC.out); clear hb))
      go_ret
      exact ⟨by rw [E.out]; rfl, HB.out.trans (HC.out.mono HB.out.size)⟩
  · obtain ⟨u0, u1⟩ := hub h0
    obtain ⟨m, rfl⟩ : ∃ m : Nat, U = (m : Int) := ⟨U.toNat, by omega⟩
    rw [Int.toNat_natCast] at E0
    have HM := Hid.mk' (hold_mk (mark_kind (one_mark (HZ.out m (by omega)))))
    have KH : Hid (∀ v w', Calls Try.prog 48 #[.agg #[.int .i64 (mkK (ndK l m)), .string (mkS (ndK l m)), v]] w' fun e w'' => e = .returned (.bool (holdB (ndK l m))) ∧ Below w'.heap.size w' w'') := fun v w' => by have := mayHold_any (mkK (ndK l m)) (mkS (ndK l m)) v w'; rw [HM.out] at this; exact this
    have hmk : (m : Int) < (k : Int) := u1
    have HN : Hid (∀ w', Below W.heap.size W w' → ∃ b cap p n c', vn = .slice (some ⟨b, 0, none⟩) k cap ∧ w'.cell? ⟨g, 0, none⟩ = some (.slice (some ⟨b, 0, none⟩) k cap) ∧ w'.cell? ⟨b, m * 5, none⟩ = some (.int .i64 (mkK (ndK l m))) ∧ w'.cell? ⟨b, m * 5 + 1, none⟩ = some (.string (mkS (ndK l m))) ∧ w'.cell? ⟨b, m * 5 + 2, none⟩ = some (.slice p n c') ∧ w'.cell? ⟨b, m * 5 + 3, none⟩ = some (.int .i64 (ndK l m).up) ∧ w'.cell? ⟨b, m * 5 + 4, none⟩ = some (.int .i64 (depU (upF l) m : Int))) := fun w' hb => by
      have hT := HT.out.below hb
      obtain ⟨b, cap, e, _, _, h3⟩ := hT.node (by omega)
      obtain ⟨d0, d1, d2, d3, d4⟩ := h3 m (by omega)
      obtain ⟨p, n, c', e2⟩ := mkV_slice (ndK l m) l pa ca m
      refine ⟨b, cap, p, n, c', e, ?_, d0, d1, by rw [d2, e2], d3, d4⟩
      rw [← e]; exact (cells2 hT.box).1
    have dn : ¬ (q : Int) < 0 := by omega
    cases hh : holdB (ndK l m) with
    | false =>
      rw [hh] at KH E0
      rw [if_pos ⟨h0, rfl⟩] at E0
      have E := Hid.mk' E0
      clear E0 HM
      go_enter Try.func41, Try.ntmps41
      go_wp2_with fail
      clear hW
      refine KF.out.mono ?_
      rintro e w1 ⟨rfl, hb⟩
      obtain ⟨q0, q1, q2, q3, q4, q5⟩ := cells5 (rowB HP.out hb)
      obtain ⟨nb, ncap, np, nn, nc, _, m0, m1, m2, m3, m4, m5⟩ := HN.out w1 hb
      have mg : g < w1.heap.size := World.block_lt_of_cell? w1 ⟨g, 0, none⟩ m0
      have mb' : nb < w1.heap.size := World.block_lt_of_cell? w1 ⟨nb, m * 5, none⟩ m1
      have HC := Hid.mk' hb
      clear hb KF p0 p1 p2_ p3 p4 p5
      go_wp2_with fail
      go_region_held3 (fun w' => w'.cell? ⟨g, 0, none⟩ = some (.slice (some ⟨nb, 0, none⟩) k ncap) ∧ w'.cell? ⟨nb, m * 5, none⟩ = some (.int .i64 (mkK (ndK l m))) ∧ w'.cell? ⟨nb, m * 5 + 1, none⟩ = some (.string (mkS (ndK l m))) ∧ w'.cell? ⟨nb, m * 5 + 2, none⟩ = some (.slice np nn nc) ∧ w'.cell? ⟨w.heap.size, 3, none⟩ = some (.int .i64 (m : Int)) ∧ w'.cell? ⟨w.heap.size, 4, none⟩ = some (.int .i64 (q : Int))) (simp [*]) ((go_at_call 48; refine (KH.out _ _).mono ?_; rintro e w4 ⟨rfl, hb⟩; replace hb := undrew hb; obtain ⟨hx, hy⟩ := bcell hb; have HC := Hid.mk' (HC.out.trans (hb.mono HC.out.size)); clear hb))
      obtain ⟨s0, s1, s2, s3, s4, s5⟩ := cells5 (rowB HP.out HC.out)
      go_wp2_with (first | go_big_skip | (go_at_call 49; refine (KT.out _).mono ?_; rintro e w2 ⟨rfl, hb⟩; have HC := Hid.mk' (HC.out.trans (hb.mono HC.out.size)); obtain ⟨s0, s1, s2, s3, s4, s5⟩ := cells5 (rowB HP.out HC.out); clear hb) | (go_at_call 50; refine (KL.out _ HC.out).mono ?_; rintro e w3 ⟨rfl, hb⟩; have HC := Hid.mk' (HC.out.trans (hb.mono HC.out.size)); obtain ⟨s0, s1, s2, s3, s4, s5⟩ := cells5 (rowB HP.out HC.out); clear hb) | (go_at_call 48; refine (KH.out _ _).mono ?_; rintro e w4 ⟨rfl, hb⟩; have HC := Hid.mk' (HC.out.trans (hb.mono HC.out.size)); obtain ⟨s0, s1, s2, s3, s4, s5⟩ := cells5 (rowB HP.out HC.out); clear hb))
      go_ret
      exact ⟨by rw [E.out]; rfl, HB.out.trans (HC.out.mono HB.out.size)⟩
    | true =>
      rw [hh] at KH E0
      rw [if_neg (fun h => absurd h.2 (by decide))] at E0
      clear HM
      by_cases k2 : K = 2
      · rw [decide_eq_true k2, Bool.true_and] at E0
        rw [k2] at KT p0 HP hW KF ⊢
        rw [decide_eq_true (show (2 : Int) = 2 from rfl)] at KT
        cases hL : lastB l k (m : Int) with
        | true =>
          rw [hL] at KL E0
          rw [if_pos rfl] at E0
          have E := Hid.mk' E0
          clear E0
          go_enter Try.func41, Try.ntmps41
          go_wp2_with fail
          clear hW
          refine KF.out.mono ?_
          rintro e w1 ⟨rfl, hb⟩
          obtain ⟨q0, q1, q2, q3, q4, q5⟩ := cells5 (rowB HP.out hb)
          obtain ⟨nb, ncap, np, nn, nc, _, m0, m1, m2, m3, m4, m5⟩ := HN.out w1 hb
          have mg : g < w1.heap.size := World.block_lt_of_cell? w1 ⟨g, 0, none⟩ m0
          have mb' : nb < w1.heap.size := World.block_lt_of_cell? w1 ⟨nb, m * 5, none⟩ m1
          have HC := Hid.mk' hb
          clear hb KF p0 p1 p2_ p3 p4 p5
          go_wp2_with fail
          go_region_held3 (fun w' => w'.cell? ⟨g, 0, none⟩ = some (.slice (some ⟨nb, 0, none⟩) k ncap) ∧ w'.cell? ⟨nb, m * 5, none⟩ = some (.int .i64 (mkK (ndK l m))) ∧ w'.cell? ⟨nb, m * 5 + 1, none⟩ = some (.string (mkS (ndK l m))) ∧ w'.cell? ⟨nb, m * 5 + 2, none⟩ = some (.slice np nn nc) ∧ w'.cell? ⟨w.heap.size, 3, none⟩ = some (.int .i64 (m : Int)) ∧ w'.cell? ⟨w.heap.size, 4, none⟩ = some (.int .i64 (q : Int))) (simp [*]) ((go_at_call 48; refine (KH.out _ _).mono ?_; rintro e w4 ⟨rfl, hb⟩; replace hb := undrew hb; obtain ⟨hx, hy⟩ := bcell hb; have HC := Hid.mk' (HC.out.trans (hb.mono HC.out.size)); clear hb))
          obtain ⟨s0, s1, s2, s3, s4, s5⟩ := cells5 (rowB HP.out HC.out)
          go_wp2_with (first | go_big_skip | (go_at_call 49; refine (KT.out _).mono ?_; rintro e w2 ⟨rfl, hb⟩; have HC := Hid.mk' (HC.out.trans (hb.mono HC.out.size)); obtain ⟨s0, s1, s2, s3, s4, s5⟩ := cells5 (rowB HP.out HC.out); clear hb) | (go_at_call 50; refine (KL.out _ HC.out).mono ?_; rintro e w3 ⟨rfl, hb⟩; have HC := Hid.mk' (HC.out.trans (hb.mono HC.out.size)); obtain ⟨s0, s1, s2, s3, s4, s5⟩ := cells5 (rowB HP.out HC.out); clear hb) | (go_at_call 48; refine (KH.out _ _).mono ?_; rintro e w4 ⟨rfl, hb⟩; have HC := Hid.mk' (HC.out.trans (hb.mono HC.out.size)); obtain ⟨s0, s1, s2, s3, s4, s5⟩ := cells5 (rowB HP.out HC.out); clear hb))
          go_ret
          exact ⟨by rw [E.out]; rfl, HB.out.trans (HC.out.mono HB.out.size)⟩
        | false =>
          rw [hL] at KL E0
          rw [if_neg (by decide)] at E0
          by_cases q8 : (q : Int) ≥ 8
          · rw [if_pos (by omega)] at E0
            have E := Hid.mk' E0
            clear E0
            go_enter Try.func41, Try.ntmps41
            go_wp2_with fail
            clear hW
            refine KF.out.mono ?_
            rintro e w1 ⟨rfl, hb⟩
            obtain ⟨q0, q1, q2, q3, q4, q5⟩ := cells5 (rowB HP.out hb)
            obtain ⟨nb, ncap, np, nn, nc, _, m0, m1, m2, m3, m4, m5⟩ := HN.out w1 hb
            have mg : g < w1.heap.size := World.block_lt_of_cell? w1 ⟨g, 0, none⟩ m0
            have mb' : nb < w1.heap.size := World.block_lt_of_cell? w1 ⟨nb, m * 5, none⟩ m1
            have HC := Hid.mk' hb
            clear hb KF p0 p1 p2_ p3 p4 p5
            go_wp2_with fail
            go_region_held3 (fun w' => w'.cell? ⟨g, 0, none⟩ = some (.slice (some ⟨nb, 0, none⟩) k ncap) ∧ w'.cell? ⟨nb, m * 5, none⟩ = some (.int .i64 (mkK (ndK l m))) ∧ w'.cell? ⟨nb, m * 5 + 1, none⟩ = some (.string (mkS (ndK l m))) ∧ w'.cell? ⟨nb, m * 5 + 2, none⟩ = some (.slice np nn nc) ∧ w'.cell? ⟨w.heap.size, 3, none⟩ = some (.int .i64 (m : Int)) ∧ w'.cell? ⟨w.heap.size, 4, none⟩ = some (.int .i64 (q : Int))) (simp [*]) ((go_at_call 48; refine (KH.out _ _).mono ?_; rintro e w4 ⟨rfl, hb⟩; replace hb := undrew hb; obtain ⟨hx, hy⟩ := bcell hb; have HC := Hid.mk' (HC.out.trans (hb.mono HC.out.size)); clear hb))
            obtain ⟨s0, s1, s2, s3, s4, s5⟩ := cells5 (rowB HP.out HC.out)
            go_wp2_with (first | go_big_skip | (go_at_call 49; refine (KT.out _).mono ?_; rintro e w2 ⟨rfl, hb⟩; have HC := Hid.mk' (HC.out.trans (hb.mono HC.out.size)); obtain ⟨s0, s1, s2, s3, s4, s5⟩ := cells5 (rowB HP.out HC.out); clear hb) | (go_at_call 50; refine (KL.out _ HC.out).mono ?_; rintro e w3 ⟨rfl, hb⟩; have HC := Hid.mk' (HC.out.trans (hb.mono HC.out.size)); obtain ⟨s0, s1, s2, s3, s4, s5⟩ := cells5 (rowB HP.out HC.out); clear hb) | (go_at_call 48; refine (KH.out _ _).mono ?_; rintro e w4 ⟨rfl, hb⟩; have HC := Hid.mk' (HC.out.trans (hb.mono HC.out.size)); obtain ⟨s0, s1, s2, s3, s4, s5⟩ := cells5 (rowB HP.out HC.out); clear hb))
            go_ret
            exact ⟨by rw [E.out]; rfl, HB.out.trans (HC.out.mono HB.out.size)⟩
          · rw [if_neg (by omega)] at E0
            have E := Hid.mk' E0
            clear E0
            go_enter Try.func41, Try.ntmps41
            go_wp2_with fail
            clear hW
            refine KF.out.mono ?_
            rintro e w1 ⟨rfl, hb⟩
            obtain ⟨q0, q1, q2, q3, q4, q5⟩ := cells5 (rowB HP.out hb)
            obtain ⟨nb, ncap, np, nn, nc, _, m0, m1, m2, m3, m4, m5⟩ := HN.out w1 hb
            have mg : g < w1.heap.size := World.block_lt_of_cell? w1 ⟨g, 0, none⟩ m0
            have mb' : nb < w1.heap.size := World.block_lt_of_cell? w1 ⟨nb, m * 5, none⟩ m1
            have HC := Hid.mk' hb
            clear hb KF p0 p1 p2_ p3 p4 p5
            go_wp2_with fail
            go_region_held3 (fun w' => w'.cell? ⟨g, 0, none⟩ = some (.slice (some ⟨nb, 0, none⟩) k ncap) ∧ w'.cell? ⟨nb, m * 5, none⟩ = some (.int .i64 (mkK (ndK l m))) ∧ w'.cell? ⟨nb, m * 5 + 1, none⟩ = some (.string (mkS (ndK l m))) ∧ w'.cell? ⟨nb, m * 5 + 2, none⟩ = some (.slice np nn nc) ∧ w'.cell? ⟨w.heap.size, 3, none⟩ = some (.int .i64 (m : Int)) ∧ w'.cell? ⟨w.heap.size, 4, none⟩ = some (.int .i64 (q : Int))) (simp [*]) ((go_at_call 48; refine (KH.out _ _).mono ?_; rintro e w4 ⟨rfl, hb⟩; replace hb := undrew hb; obtain ⟨hx, hy⟩ := bcell hb; have HC := Hid.mk' (HC.out.trans (hb.mono HC.out.size)); clear hb))
            obtain ⟨s0, s1, s2, s3, s4, s5⟩ := cells5 (rowB HP.out HC.out)
            go_wp2_with (first | go_big_skip | (go_at_call 49; refine (KT.out _).mono ?_; rintro e w2 ⟨rfl, hb⟩; have HC := Hid.mk' (HC.out.trans (hb.mono HC.out.size)); obtain ⟨s0, s1, s2, s3, s4, s5⟩ := cells5 (rowB HP.out HC.out); clear hb) | (go_at_call 50; refine (KL.out _ HC.out).mono ?_; rintro e w3 ⟨rfl, hb⟩; have HC := Hid.mk' (HC.out.trans (hb.mono HC.out.size)); obtain ⟨s0, s1, s2, s3, s4, s5⟩ := cells5 (rowB HP.out HC.out); clear hb) | (go_at_call 48; refine (KH.out _ _).mono ?_; rintro e w4 ⟨rfl, hb⟩; have HC := Hid.mk' (HC.out.trans (hb.mono HC.out.size)); obtain ⟨s0, s1, s2, s3, s4, s5⟩ := cells5 (rowB HP.out HC.out); clear hb))
            go_ret
            exact ⟨by rw [E.out]; rfl, HB.out.trans (HC.out.mono HB.out.size)⟩
      · rw [decide_eq_false k2, Bool.false_and, if_neg (by decide)] at E0
        rw [decide_eq_false k2] at KT
        by_cases q8 : (q : Int) ≥ 8
        · rw [if_pos (by omega)] at E0
          have E := Hid.mk' E0
          clear E0
          go_enter Try.func41, Try.ntmps41
          go_wp2_with fail
          clear hW
          refine KF.out.mono ?_
          rintro e w1 ⟨rfl, hb⟩
          obtain ⟨q0, q1, q2, q3, q4, q5⟩ := cells5 (rowB HP.out hb)
          obtain ⟨nb, ncap, np, nn, nc, _, m0, m1, m2, m3, m4, m5⟩ := HN.out w1 hb
          have mg : g < w1.heap.size := World.block_lt_of_cell? w1 ⟨g, 0, none⟩ m0
          have mb' : nb < w1.heap.size := World.block_lt_of_cell? w1 ⟨nb, m * 5, none⟩ m1
          have HC := Hid.mk' hb
          clear hb KF p0 p1 p2_ p3 p4 p5
          go_wp2_with fail
          go_region_held3 (fun w' => w'.cell? ⟨g, 0, none⟩ = some (.slice (some ⟨nb, 0, none⟩) k ncap) ∧ w'.cell? ⟨nb, m * 5, none⟩ = some (.int .i64 (mkK (ndK l m))) ∧ w'.cell? ⟨nb, m * 5 + 1, none⟩ = some (.string (mkS (ndK l m))) ∧ w'.cell? ⟨nb, m * 5 + 2, none⟩ = some (.slice np nn nc) ∧ w'.cell? ⟨w.heap.size, 3, none⟩ = some (.int .i64 (m : Int)) ∧ w'.cell? ⟨w.heap.size, 4, none⟩ = some (.int .i64 (q : Int))) (simp [*]) ((go_at_call 48; refine (KH.out _ _).mono ?_; rintro e w4 ⟨rfl, hb⟩; replace hb := undrew hb; obtain ⟨hx, hy⟩ := bcell hb; have HC := Hid.mk' (HC.out.trans (hb.mono HC.out.size)); clear hb))
          obtain ⟨s0, s1, s2, s3, s4, s5⟩ := cells5 (rowB HP.out HC.out)
          go_wp2_with (first | go_big_skip | (go_at_call 49; refine (KT.out _).mono ?_; rintro e w2 ⟨rfl, hb⟩; have HC := Hid.mk' (HC.out.trans (hb.mono HC.out.size)); obtain ⟨s0, s1, s2, s3, s4, s5⟩ := cells5 (rowB HP.out HC.out); clear hb) | (go_at_call 50; refine (KL.out _ HC.out).mono ?_; rintro e w3 ⟨rfl, hb⟩; have HC := Hid.mk' (HC.out.trans (hb.mono HC.out.size)); obtain ⟨s0, s1, s2, s3, s4, s5⟩ := cells5 (rowB HP.out HC.out); clear hb) | (go_at_call 48; refine (KH.out _ _).mono ?_; rintro e w4 ⟨rfl, hb⟩; have HC := Hid.mk' (HC.out.trans (hb.mono HC.out.size)); obtain ⟨s0, s1, s2, s3, s4, s5⟩ := cells5 (rowB HP.out HC.out); clear hb))
          go_ret
          exact ⟨by rw [E.out]; rfl, HB.out.trans (HC.out.mono HB.out.size)⟩
        · rw [if_neg (by omega)] at E0
          have E := Hid.mk' E0
          clear E0
          go_enter Try.func41, Try.ntmps41
          go_wp2_with fail
          clear hW
          refine KF.out.mono ?_
          rintro e w1 ⟨rfl, hb⟩
          obtain ⟨q0, q1, q2, q3, q4, q5⟩ := cells5 (rowB HP.out hb)
          obtain ⟨nb, ncap, np, nn, nc, _, m0, m1, m2, m3, m4, m5⟩ := HN.out w1 hb
          have mg : g < w1.heap.size := World.block_lt_of_cell? w1 ⟨g, 0, none⟩ m0
          have mb' : nb < w1.heap.size := World.block_lt_of_cell? w1 ⟨nb, m * 5, none⟩ m1
          have HC := Hid.mk' hb
          clear hb KF p0 p1 p2_ p3 p4 p5
          go_wp2_with fail
          go_region_held3 (fun w' => w'.cell? ⟨g, 0, none⟩ = some (.slice (some ⟨nb, 0, none⟩) k ncap) ∧ w'.cell? ⟨nb, m * 5, none⟩ = some (.int .i64 (mkK (ndK l m))) ∧ w'.cell? ⟨nb, m * 5 + 1, none⟩ = some (.string (mkS (ndK l m))) ∧ w'.cell? ⟨nb, m * 5 + 2, none⟩ = some (.slice np nn nc) ∧ w'.cell? ⟨w.heap.size, 3, none⟩ = some (.int .i64 (m : Int)) ∧ w'.cell? ⟨w.heap.size, 4, none⟩ = some (.int .i64 (q : Int))) (simp [*]) ((go_at_call 48; refine (KH.out _ _).mono ?_; rintro e w4 ⟨rfl, hb⟩; replace hb := undrew hb; obtain ⟨hx, hy⟩ := bcell hb; have HC := Hid.mk' (HC.out.trans (hb.mono HC.out.size)); clear hb))
          obtain ⟨s0, s1, s2, s3, s4, s5⟩ := cells5 (rowB HP.out HC.out)
          go_wp2_with (first | go_big_skip | (go_at_call 49; refine (KT.out _).mono ?_; rintro e w2 ⟨rfl, hb⟩; have HC := Hid.mk' (HC.out.trans (hb.mono HC.out.size)); obtain ⟨s0, s1, s2, s3, s4, s5⟩ := cells5 (rowB HP.out HC.out); clear hb) | (go_at_call 50; refine (KL.out _ HC.out).mono ?_; rintro e w3 ⟨rfl, hb⟩; have HC := Hid.mk' (HC.out.trans (hb.mono HC.out.size)); obtain ⟨s0, s1, s2, s3, s4, s5⟩ := cells5 (rowB HP.out HC.out); clear hb) | (go_at_call 48; refine (KH.out _ _).mono ?_; rintro e w4 ⟨rfl, hb⟩; have HC := Hid.mk' (HC.out.trans (hb.mono HC.out.size)); obtain ⟨s0, s1, s2, s3, s4, s5⟩ := cells5 (rowB HP.out HC.out); clear hb))
          go_ret
          exact ⟨by rw [E.out]; rfl, HB.out.trans (HC.out.mono HB.out.size)⟩

end Go.Proofs.Ytlaeomnacgjcgaa

namespace Go.Proofs.Ytlaeomnacgjcgaa
open Go.RowKit

theorem Try.info58 : (Try.prog.info? 58).map (fun i => (i.zero, i.size, i.bytes)) = some (some (.agg #[.int .i64 0, .string ⟨#[]⟩, .slice none 0 0, .int .i64 0, .int .i64 0]), 5, 64) := by kernel_rfl

theorem Try.info2 : (Try.prog.info? 2).map (fun i => (i.zero, i.size, i.bytes)) = some (some (.int .i64 0), 1, 8) := by kernel_rfl

structure TH (w0 : World) (base g : Nat) (l : List ND) (pa : Nat → Option Addr) (ca : Nat → Nat) (k : Nat) (vn vw : Value) (w : World) : Prop where
  box : w.rowIs g 47 2 (p2 vn vw)
  on : w.ownsRow base 58 5 vn k (pcs5 l (sv l pa ca) k)
  ow : w.ownsRow base 2 1 vw (wayU (upF l) (k + 1)).length (ics (wayU (upF l) (k + 1)))
  ap : Ap vn vw
  an : ¬ vn.ownBlock = some g
  aw : ¬ vw.ownBlock = some g
  bl : Below base w0 w
  sz : base ≤ w.heap.size
  bg : base ≤ g

theorem TH.below {w0 w w' : World} {base g : Nat} {l : List ND} {pa : Nat → Option Addr} {ca : Nat → Nat} {k : Nat} {vn vw : Value} (h : TH w0 base g l pa ca k vn vw w) (hb : Below w.heap.size w w') : TH w0 base g l pa ca k vn vw w' :=
  ⟨rowB h.box hb, own_keep h.on hb, own_keep h.ow hb, h.ap, h.an, h.aw, h.bl.trans (hb.mono h.sz), Nat.le_trans h.sz hb.size, h.bg⟩

theorem own_setG {w : World} {base g j : Nat} {e : TypeId} {size : Nat} {v u : Value} {n : Nat} {xs : List Value} (h : w.ownsRow base e size v n xs) (hg : ¬ v.ownBlock = some g) : (w.setCell ⟨g, j, none⟩ u).ownsRow base e size v n xs :=
  h.kept (row := some g) ⟨rfl, rfl, rfl, by simp [World.setCell], fun k hk hne => Below.heap_setCell _ _ _ _ (fun e => hne (by rw [e]))⟩ (by
    cases hv : v.ownBlock with
    | none => exact .inl rfl
    | some k => exact .inr (fun e => hg (by rw [hv]; exact e)))

theorem ap_grown {w w1 : World} {va vb v' : Value} {base : Nat} {e : TypeId} {size n : Nat} {xs : List Value} (hb : w.ownsRow base e size vb n xs) (ha : Ap vb va) (hat : v'.ownBlock = va.ownBlock ∨ v'.ownBlock = some w.heap.size) : Ap vb v' := by
  intro k e1 e2
  rcases hat with h | h
  · exact ha k e1 (h ▸ e2)
  · rw [h] at e2
    have := (hb.lt k e1).2
    cases e2
    omega

theorem kept_of {w w1 : World} {v : Value} {base : Nat} {e : TypeId} {size n : Nat} {xs : List Value} {u : Value} (h : w.ownsRow base e size v n xs) (hg : w.grownBy w1 u.ownBlock) (ha : Ap v u) : w1.ownsRow base e size v n xs :=
  h.kept hg (by
    cases hv : v.ownBlock with
    | none => exact .inl rfl
    | some k => exact .inr (fun e' => ha k hv e'.symm))

theorem grown_box {w w1 : World} {g n : Nat} {t : TypeId} {f : Nat → Value} {u : Value} (h : w.rowIs g t n f) (hg : w.grownBy w1 u.ownBlock) (hu : ¬ u.ownBlock = some g) : w1.rowIs g t n f :=
  h.of_block (hg.block g h.lt (fun e => hu e.symm))

theorem TT.goOn {w0 w w1 : World} {base g bw cw d : Nat} {l : List ND} {pa : Nat → Option Addr} {ca : Nat → Nat} {k : Nat} {vn v' : Value} (h : TT w0 base g l pa ca k vn (.slice (some ⟨bw, 0, none⟩) (wayU (upF l) k).length cw) w) (hd : depU (upF l) k = d) (hl : d < (wayU (upF l) k).length)
    (ho : w1.ownsRow base 2 1 v' (d + 1 + 1) ((ics (wayU (upF l) k)).take ((d + 1) * 1) ++ ics [(k : Int)])) (hg : w.grownBy w1 (some bw)) (hat : v'.ownBlock = some bw ∨ v'.ownBlock = some w.heap.size) :
    TH w0 base g l pa ca k vn v' (w1.setCell ⟨g, 1, none⟩ v') := by
  have hbw : (Value.slice (some ⟨bw, 0, none⟩) (wayU (upF l) k).length cw).ownBlock = some bw := rfl
  have hglt := h.box.lt
  have hg' : w.grownBy w1 (Value.slice (some ⟨bw, 0, none⟩) (wayU (upF l) k).length cw).ownBlock := hg
  have hne : ¬ v'.ownBlock = some g := fun e => by
    rcases hat with h1 | h1
    · rw [h1] at e; exact h.aw (by rw [hbw]; exact e)
    · rw [h1] at e; cases e; omega
  have L := (way_succ (upF l) k (by rw [hd]; exact hl)).1
  rw [hd] at L
  have EW : ics (wayU (upF l) (k + 1)) = (ics (wayU (upF l) k)).take ((d + 1) * 1) ++ ics [(k : Int)] := by
    rw [Nat.mul_one, ← hd]
    show ics ((wayU (upF l) k).take (ixF (wayU (upF l) k) (upF l k) + 1) ++ [(k : Int)]) = _
    simp [ics, List.map_take, depU]
  refine ⟨?_, own_setG (kept_of h.on hg' h.ap) h.an, ?_, ap_grown (w1 := w1) h.on h.ap hat, h.an, hne, ?_, ?_, h.bg⟩
  · refine ((grown_box h.box hg' h.aw).set 1 v').congr (fun i hi => ?_)
    have : i = 0 ∨ i = 1 := by omega
    rcases this with rfl | rfl <;> rfl
  · rw [L, EW]; exact own_setG ho hne
  · exact (h.bl.grown hg' h.sz (own_lo h.ow)).setCell (p := ⟨g, 1, none⟩) h.bg _
  · have := h.sz; have := hg.size; simp [World.setCell]; omega

theorem TH.put {w0 w w1 : World} {base g : Nat} {l : List ND} {pa : Nat → Option Addr} {ca : Nat → Nat} {k : Nat} {vn vw v' : Value} (h : TH w0 base g l pa ca k vn vw w)
    (ho : w1.ownsRow base 58 5 v' (k + 1) (pcs5 l (sv l pa ca) k ++ pcell l (sv l pa ca) k)) (hg : w.grownBy w1 vn.ownBlock) (hat : v'.ownBlock = vn.ownBlock ∨ v'.ownBlock = some w.heap.size) :
    TT w0 base g l pa ca (k + 1) v' vw (w1.setCell ⟨g, 0, none⟩ v') := by
  have hglt := h.box.lt
  have hne : ¬ v'.ownBlock = some g := fun e => by
    rcases hat with h1 | h1
    · rw [h1] at e; exact h.an e
    · rw [h1] at e; cases e; omega
  refine ⟨?_, own_setG ho hne, own_setG (kept_of h.ow hg h.ap.symm) h.aw, (ap_grown (w1 := w1) h.ow h.ap.symm hat).symm, hne, h.aw, ?_, ?_, h.bg⟩
  · refine ((grown_box h.box hg h.an).set 0 v').congr (fun i hi => ?_)
    have : i = 0 ∨ i = 1 := by omega
    rcases this with rfl | rfl <;> rfl
  · exact (h.bl.grown hg h.sz (own_lo h.on)).setCell (p := ⟨g, 0, none⟩) h.bg _
  · have := h.sz; have := hg.size; simp [World.setCell]; omega

theorem rowIs_frozen {w : World} {b n : Nat} {t : TypeId} {f : Nat → Value} (h : w.rowIs b t n f) (i : Nat) : w.frozen? ⟨b, i, none⟩ = false := h.frozen i

theorem own_len {w : World} {base : Nat} {e : TypeId} {size : Nat} {v : Value} {n : Nat} {xs : List Value} (h : w.ownsRow base e size v n xs) : ∃ a c, v = .slice a n c ∧ n ≤ c := by
  rcases h.2 with ⟨rfl, rfl⟩ | ⟨g, cap, cur, rfl, hg, hh, hc, hm, hs, ht⟩
  · exact ⟨_, _, rfl, Nat.le_refl _⟩
  · exact ⟨_, _, rfl, hc⟩

theorem new_cells (w : World) (t : TypeId) (xs : List Value) (g : Nat) (hg : w.heap.size = g) : ∀ j u, xs[j]? = some u → (w.alloc (.cells xs.toArray t)).cell? ((⟨g, 0, none⟩ : Addr).add j) = some u := by
  intro j u h
  subst hg
  rw [Addr.add_mid, Nat.zero_add]
  have := Lib.cell_of_heap (w := w.alloc (.cells xs.toArray t)) (Deep.blk_alloc_new w (.cells xs.toArray t)) j
  rw [this]
  simpa using h

set_option maxRecDepth 100000 in
set_option maxHeartbeats 8000000 in
theorem put_any (w0 : World) (base g : Nat) (l : List ND) (pa : Nat → Option Addr) (ca : Nat → Nat) (k : Nat) (vn vw : Value) (w : World) (h : TT w0 base g l pa ca k vn vw w) (h60 : k < 60) (hd : depU (upF l) k < (wayU (upF l) k).length) (hlen : (wayU (upF l) k).length ≤ k + 1) :
    Calls Try.prog 42 #[.pointer (some ⟨g, 0, none⟩), .agg #[.int .i64 (mkK (ndK l k)), .string (mkS (ndK l k)), mkV (ndK l k) (sv l pa ca k), .int .i64 (ndK l k).up, .int .i64 (depU (upF l) k : Int)]] w fun e w' => (∃ v, e = .returned v) ∧ ∃ vn' vw', TT w0 base g l pa ca (k + 1) vn' vw' w' := by
  obtain ⟨p9, n9, c9, hV⟩ := mkV_slice (ndK l k) l pa ca k
  have hP : pcell l (sv l pa ca) k = [.int .i64 (mkK (ndK l k)), .string (mkS (ndK l k)), .slice p9 n9 c9, .int .i64 (ndK l k).up, .int .i64 (depU (upF l) k : Int)] := by unfold pcell; rw [hV]
  have HPc := Hid.mk' hP
  have P1 := Hid.mk' (pcell_one l pa ca k)
  rw [hV]
  obtain ⟨d, hdd⟩ : ∃ d, depU (upF l) k = d := ⟨_, rfl⟩
  obtain ⟨K, hK⟩ : ∃ K, mkK (ndK l k) = K := ⟨_, rfl⟩
  obtain ⟨S, hS⟩ : ∃ S, mkS (ndK l k) = S := ⟨_, rfl⟩
  obtain ⟨U, hU⟩ : ∃ U, (ndK l k).up = U := ⟨_, rfl⟩
  rw [hdd, hK, hS, hU] at HPc
  rw [hdd] at hd
  rw [hdd, hK, hS, hU]
  have N0 := below_new w (.cells #[.int .i64 K, .string S, .slice p9 n9 c9, .int .i64 U, .int .i64 (d : Int)] 58)
  have h1 := h.below N0
  have R0 := row5 w 58 (.int .i64 K) (.string S) (.slice p9 n9 c9) (.int .i64 U) (.int .i64 (d : Int))
  have gx : ¬ g = w.heap.size := by have := h.box.lt; omega
  have HX := Hid.mk' (fun k' e => (h.ow.lt k' e).2)
  have HY := Hid.mk' (fun k' e => (h.on.lt k' e).2)
  clear h hP hV hK hS hU N0
  generalize hW : w.alloc (.cells #[.int .i64 K, .string S, .slice p9 n9 c9, .int .i64 U, .int .i64 (d : Int)] 58) = W at *
  obtain ⟨bw, cw, ew, e1, e2, e3, e4⟩ := own_iat h1.ow (by omega)
  subst ew
  obtain ⟨an, cn, ev, ec⟩ := own_len h1.on
  subst ev
  obtain ⟨c0, c1, c2⟩ := cells2 h1.box
  obtain ⟨r0, r1, r2, r3_, r4_, r5_⟩ := cells5 R0
  have fz := h1.box.frozen 1
  have HT := Hid.mk' h1
  have HR := Hid.mk' R0
  generalize hn : w.heap.size = x at *
  have dw : IntKind.i64.wrap ((d : Int) + 1) = (d : Int) + 1 := by rw [IntKind.wrap_i64]; omega
  have d0 : (0 : Int) ≤ (d : Int) + 1 := by omega
  have d1 : (d : Int) + 1 ≤ (cw : Int) := by omega
  have d2 : ((d : Int) + 1).toNat = d + 1 := by omega
  have d9 : d < 61 := by omega
  have D0 := Hid.mk' hd
  have DD := Hid.mk' hdd
  clear h1 R0 e4 hlen hdd
  go_enter Try.func42, Try.ntmps42
  go_wp2_with fail
  clear hW
  refine wp_region_held_drew (S := fun w' => w'.cell? ⟨g, 0, none⟩ = some (.slice an k cn) ∧ w'.cell? ⟨x, 4, none⟩ = some (.int .i64 (d : Int))) (by kernel_rfl) (by simp [*]) (fun hHeld => ?_)
  refine tkY 0 ?_
  refine tkY 1 ?_
  refine tkY 2 ?_
  refine tkY 3 ?_
  refine tkY 5 ?_
  refine tkY 6 ?_
  refine tkY 7 ?_
  refine tkY 9 ?_
  refine tkY 10 ?_
  refine tkY 11 ?_
  refine tkY 12 ?_
  refine tkY 13 ?_
  have VB := below_new W (.cells #[.int .i64 (k : Int)] 2)
  have V1 := Hid.mk' (HT.out.below VB.drew)
  have O1 := Hid.mk' (own_take V1.out.ow (m := d + 1) (by omega))
  have RV := Hid.mk' (rowB HR.out VB.drew)
  have NC := Hid.mk' (new_cells W 2 [.int .i64 (k : Int)] W.heap.size rfl)
  clear VB
  have xn0 := World.new_ne W ⟨g, 0, none⟩ c0
  have xn1 := World.new_ne W ⟨x, 4, none⟩ r4_
  dsimp only at xn0 xn1
  refine wpAnyH_ready (rs := [4, 14]) (by kernel_rfl) (by simp) ?_
  refine AllReadyH.cons (o := ⟨_, _, _, _, _, _⟩) rfl (fun K hK => ?_) (AllReadyH.cons (o := ⟨_, _, _, _, _, _⟩) rfl (fun K hK => ?_) AllReadyH.nil)
  · go_simp
    refine hK.out _ _ (by (try dsimp only); go_keep) (fun hHeld => ?_)
    clear hK K
    try simp only [Act.put, zA, zB, zC]
    refine tkY 8 ?_
    refine wpAnyH_ready (rs := [14]) (by kernel_rfl) (by simp) ?_
    refine AllReadyH.cons (o := ⟨_, _, _, _, _, _⟩) rfl (fun K hK => ?_) AllReadyH.nil
    go_simp
    refine hK.out _ _ (by (try dsimp only); go_keep) (fun hHeld => ?_)
    clear hK K
    try simp only [Act.put, zA, zB, zC]
    refine wpAnyH_ready (rs := [15]) (by kernel_rfl) (by simp) ?_
    refine AllReadyH.cons (o := ⟨_, _, _, _, _, _⟩) rfl (fun K hK => ?_) AllReadyH.nil
    refine step_append_at rfl (.tmp 12) (.tmp 18) 30 rfl base 2 (.int .i64 0) 1 8 Try.underlying30 Try.info2 rfl (by decide) _ _ _ rfl O1.out _ 1 _ (ics [(k : Int)]) rfl (by simp [ics]) (.inr ⟨_, rfl, NC.out⟩) (ics_one _) (by unfold maxLen; omega) (by omega) V1.out.sz ?_
    intro v' w1 ho hgr hat
    have T1 := V1.out.goOn DD.out D0.out ho hgr hat
    obtain ⟨av, cv, ev', _⟩ := own_len ho
    subst ev'
    have gbw : ¬ (some g : Option Nat) = some bw := fun e => HT.out.aw e.symm
    have xbw : ¬ (some x : Option Nat) = some bw := fun e => by have := HX.out bw rfl; cases e; omega
    have y0 := hgr.cell (a := ⟨g, 0, none⟩) (cells2 V1.out.box).1 gbw
    have y1 := hgr.cell (a := ⟨g, 1, none⟩) (cells2 V1.out.box).2.1 gbw
    have y2 := hgr.cell (a := ⟨x, 4, none⟩) (cells5 RV.out).2.2.2.2.1 xbw
    have y3 := (rowIs_frozen (grown_box (u := .slice (some ⟨bw, 0, none⟩) 0 0) V1.out.box hgr HT.out.aw) 1)
    have RX := Hid.mk' (grown_box (u := .slice (some ⟨bw, 0, none⟩) 0 0) RV.out hgr (fun e => xbw e.symm))
    have HT1 := Hid.mk' T1
    have sz1 := hgr.size
    clear ho hgr hat T1
    refine hK.out _ _ (by (try dsimp only); go_keep) (fun hHeld => ?_)
    clear hK K
    try simp only [Act.put, zA, zB, zC]
    refine tkY 16 ?_
    refine tkY 17 ?_
    refine wpAnyH_ready (rs := [18]) (by kernel_rfl) (by simp) ?_
    refine AllReadyH.cons (o := ⟨_, _, _, _, _, _⟩) rfl (fun K hK => ?_) AllReadyH.nil
    go_simp
    refine hK.out _ _ ⟨by rw [World.cell?_setCell_other _ _ _ _ (by simp)]; exact y0, by rw [World.cell?_setCell_other _ _ _ _ (by simp)]; exact y2⟩ (fun hHeld => ?_)
    clear hK K
    try simp only [Act.put, zA, zB, zC]
    refine wpAnyH_done (by kernel_rfl) ?_ _
    have RY := Hid.mk' (RX.out.setOther (a := ⟨g, 1, none⟩) (fun e => gx e.symm) (.slice av (d + 1 + 1) cv))
    clear RX y0 y1 y2 y3 hHeld
    generalize hZ : w1.setCell ⟨g, 1, none⟩ (.slice av (d + 1 + 1) cv) = Z at *
    go_wp2_with fail
    clear hZ
    obtain ⟨q0, q1, q2, q3, q4, q5⟩ := cells5 RY.out
    obtain ⟨b0, b1, b2⟩ := cells2 HT1.out.box
    have VB := below_new Z (.cells #[.int .i64 K, .string S, .slice p9 n9 c9, .int .i64 U, .int .i64 (d : Int)] 58)
    have V2 := Hid.mk' (HT1.out.below VB.drew)
    have RZ := Hid.mk' (rowB RY.out VB.drew)
    have NC := Hid.mk' (new_cells Z 58 [.int .i64 K, .string S, .slice p9 n9 c9, .int .i64 U, .int .i64 (d : Int)] Z.heap.size rfl)
    clear VB
    have xn0 := World.new_ne Z ⟨g, 0, none⟩ b0
    have xn1 := World.new_ne Z ⟨x, 4, none⟩ q4
    dsimp only at xn0 xn1
    refine wp_region_held_drew (S := fun w' => w'.cell? ⟨x, 0, none⟩ = some (.int .i64 K) ∧ w'.cell? ⟨x, 1, none⟩ = some (.string S) ∧ w'.cell? ⟨x, 2, none⟩ = some (.slice p9 n9 c9) ∧ w'.cell? ⟨x, 3, none⟩ = some (.int .i64 U) ∧ w'.cell? ⟨x, 4, none⟩ = some (.int .i64 (d : Int))) (by kernel_rfl) (by simp [*]) (fun hHeld => ?_)
    refine tkY 0 ?_
    refine tkY 1 ?_
    refine tkY 2 ?_
    refine tkY 3 ?_
    refine tkY 5 ?_
    refine wpAnyH_ready (rs := [4, 6]) (by kernel_rfl) (by simp) ?_
    refine AllReadyH.cons (o := ⟨_, _, _, _, _, _⟩) rfl (fun K' hK => ?_) (AllReadyH.cons (o := ⟨_, _, _, _, _, _⟩) rfl (fun K' hK => ?_) AllReadyH.nil)
    · go_simp
      refine hK.out _ _ (by (try dsimp only); go_keep) (fun hHeld => ?_)
      clear hK K'
      try simp only [Act.put, zA, zB, zC]
      refine wpAnyH_ready (rs := [6]) (by kernel_rfl) (by simp) ?_
      refine AllReadyH.cons (o := ⟨_, _, _, _, _, _⟩) rfl (fun K' hK => ?_) AllReadyH.nil
      go_simp
      refine hK.out _ _ (by (try dsimp only); go_keep) (fun hHeld => ?_)
      clear hK K'
      try simp only [Act.put, zA, zB, zC]
      refine wpAnyH_ready (rs := [7]) (by kernel_rfl) (by simp) ?_
      refine AllReadyH.cons (o := ⟨_, _, _, _, _, _⟩) rfl (fun K' hK => ?_) AllReadyH.nil
      refine step_append_at rfl (.tmp 26) (.tmp 28) 45 rfl base 58 (.agg #[.int .i64 0, .string ⟨#[]⟩, .slice none 0 0, .int .i64 0, .int .i64 0]) 5 64 Try.underlying45 Try.info58 rfl (by decide) _ _ _ rfl V2.out.on _ 1 _ (pcell l (sv l pa ca) k) rfl (by rw [HPc.out]; rfl) (.inr ⟨_, rfl, by rw [HPc.out]; exact NC.out⟩) P1.out (by unfold maxLen; omega) (by omega) V2.out.sz ?_
      intro v2 w2 ho hgr hat
      have T2 := V2.out.put ho hgr hat
      obtain ⟨av2, cv2, ev', _⟩ := own_len ho
      subst ev'
      have gan : ¬ (some g : Option Nat) = (Value.slice an k cn).ownBlock := fun e => HT1.out.an e.symm
      have xan : ¬ (some x : Option Nat) = (Value.slice an k cn).ownBlock := fun e => by have := HY.out x e.symm; omega
      have z0 := hgr.cell (a := ⟨g, 0, none⟩) (cells2 V2.out.box).1 gan
      have z1 := rowIs_frozen (grown_box V2.out.box hgr HT1.out.an) 0
      obtain ⟨t0, t1, t2, t3, t4, t5⟩ := cells5 (grown_box RZ.out hgr (fun e => xan e.symm))
      have HT2 := Hid.mk' T2
      clear ho hgr hat T2
      refine hK.out _ _ (by (try dsimp only); go_keep) (fun hHeld => ?_)
      clear hK K'
      try simp only [Act.put, zA, zB, zC]
      refine tkY 8 ?_
      refine tkY 9 ?_
      refine wpAnyH_ready (rs := [10]) (by kernel_rfl) (by simp) ?_
      refine AllReadyH.cons (o := ⟨_, _, _, _, _, _⟩) rfl (fun K' hK => ?_) AllReadyH.nil
      go_simp
      have gx' : g ≠ x := gx
      refine hK.out _ _ (by (try dsimp only); go_keep) (fun hHeld => ?_)
      clear hK K'
      try simp only [Act.put, zA, zB, zC]
      refine wpAnyH_done (by kernel_rfl) ?_ _
      go_end0
      exact ⟨⟨_, rfl⟩, _, _, HT2.out⟩
    · go_simp
      refine hK.out _ _ (by (try dsimp only); go_keep) (fun hHeld => ?_)
      clear hK K'
      try simp only [Act.put, zA, zB, zC]
      refine wpAnyH_ready (rs := [4]) (by kernel_rfl) (by simp) ?_
      refine AllReadyH.cons (o := ⟨_, _, _, _, _, _⟩) rfl (fun K' hK => ?_) AllReadyH.nil
      go_simp
      refine hK.out _ _ (by (try dsimp only); go_keep) (fun hHeld => ?_)
      clear hK K'
      try simp only [Act.put, zA, zB, zC]
      refine wpAnyH_ready (rs := [7]) (by kernel_rfl) (by simp) ?_
      refine AllReadyH.cons (o := ⟨_, _, _, _, _, _⟩) rfl (fun K' hK => ?_) AllReadyH.nil
      refine step_append_at rfl (.tmp 26) (.tmp 28) 45 rfl base 58 (.agg #[.int .i64 0, .string ⟨#[]⟩, .slice none 0 0, .int .i64 0, .int .i64 0]) 5 64 Try.underlying45 Try.info58 rfl (by decide) _ _ _ rfl V2.out.on _ 1 _ (pcell l (sv l pa ca) k) rfl (by rw [HPc.out]; rfl) (.inr ⟨_, rfl, by rw [HPc.out]; exact NC.out⟩) P1.out (by unfold maxLen; omega) (by omega) V2.out.sz ?_
      intro v2 w2 ho hgr hat
      have T2 := V2.out.put ho hgr hat
      obtain ⟨av2, cv2, ev', _⟩ := own_len ho
      subst ev'
      have gan : ¬ (some g : Option Nat) = (Value.slice an k cn).ownBlock := fun e => HT1.out.an e.symm
      have xan : ¬ (some x : Option Nat) = (Value.slice an k cn).ownBlock := fun e => by have := HY.out x e.symm; omega
      have z0 := hgr.cell (a := ⟨g, 0, none⟩) (cells2 V2.out.box).1 gan
      have z1 := rowIs_frozen (grown_box V2.out.box hgr HT1.out.an) 0
      obtain ⟨t0, t1, t2, t3, t4, t5⟩ := cells5 (grown_box RZ.out hgr (fun e => xan e.symm))
      have HT2 := Hid.mk' T2
      clear ho hgr hat T2
      refine hK.out _ _ (by (try dsimp only); go_keep) (fun hHeld => ?_)
      clear hK K'
      try simp only [Act.put, zA, zB, zC]
      refine tkY 8 ?_
      refine tkY 9 ?_
      refine wpAnyH_ready (rs := [10]) (by kernel_rfl) (by simp) ?_
      refine AllReadyH.cons (o := ⟨_, _, _, _, _, _⟩) rfl (fun K' hK => ?_) AllReadyH.nil
      go_simp
      have gx' : g ≠ x := gx
      refine hK.out _ _ (by (try dsimp only); go_keep) (fun hHeld => ?_)
      clear hK K'
      try simp only [Act.put, zA, zB, zC]
      refine wpAnyH_done (by kernel_rfl) ?_ _
      go_end0
      exact ⟨⟨_, rfl⟩, _, _, HT2.out⟩
  · go_simp
    refine hK.out _ _ (by (try dsimp only); go_keep) (fun hHeld => ?_)
    clear hK K
    try simp only [Act.put, zA, zB, zC]
    refine wpAnyH_ready (rs := [4]) (by kernel_rfl) (by simp) ?_
    refine AllReadyH.cons (o := ⟨_, _, _, _, _, _⟩) rfl (fun K hK => ?_) AllReadyH.nil
    go_simp
    refine hK.out _ _ (by (try dsimp only); go_keep) (fun hHeld => ?_)
    clear hK K
    try simp only [Act.put, zA, zB, zC]
    refine tkY 8 ?_
    refine wpAnyH_ready (rs := [15]) (by kernel_rfl) (by simp) ?_
    refine AllReadyH.cons (o := ⟨_, _, _, _, _, _⟩) rfl (fun K hK => ?_) AllReadyH.nil
    refine step_append_at rfl (.tmp 12) (.tmp 18) 30 rfl base 2 (.int .i64 0) 1 8 Try.underlying30 Try.info2 rfl (by decide) _ _ _ rfl O1.out _ 1 _ (ics [(k : Int)]) rfl (by simp [ics]) (.inr ⟨_, rfl, NC.out⟩) (ics_one _) (by unfold maxLen; omega) (by omega) V1.out.sz ?_
    intro v' w1 ho hgr hat
    have T1 := V1.out.goOn DD.out D0.out ho hgr hat
    obtain ⟨av, cv, ev', _⟩ := own_len ho
    subst ev'
    have gbw : ¬ (some g : Option Nat) = some bw := fun e => HT.out.aw e.symm
    have xbw : ¬ (some x : Option Nat) = some bw := fun e => by have := HX.out bw rfl; cases e; omega
    have y0 := hgr.cell (a := ⟨g, 0, none⟩) (cells2 V1.out.box).1 gbw
    have y1 := hgr.cell (a := ⟨g, 1, none⟩) (cells2 V1.out.box).2.1 gbw
    have y2 := hgr.cell (a := ⟨x, 4, none⟩) (cells5 RV.out).2.2.2.2.1 xbw
    have y3 := (rowIs_frozen (grown_box (u := .slice (some ⟨bw, 0, none⟩) 0 0) V1.out.box hgr HT.out.aw) 1)
    have RX := Hid.mk' (grown_box (u := .slice (some ⟨bw, 0, none⟩) 0 0) RV.out hgr (fun e => xbw e.symm))
    have HT1 := Hid.mk' T1
    have sz1 := hgr.size
    clear ho hgr hat T1
    refine hK.out _ _ (by (try dsimp only); go_keep) (fun hHeld => ?_)
    clear hK K
    try simp only [Act.put, zA, zB, zC]
    refine tkY 16 ?_
    refine tkY 17 ?_
    refine wpAnyH_ready (rs := [18]) (by kernel_rfl) (by simp) ?_
    refine AllReadyH.cons (o := ⟨_, _, _, _, _, _⟩) rfl (fun K hK => ?_) AllReadyH.nil
    go_simp
    refine hK.out _ _ ⟨by rw [World.cell?_setCell_other _ _ _ _ (by simp)]; exact y0, by rw [World.cell?_setCell_other _ _ _ _ (by simp)]; exact y2⟩ (fun hHeld => ?_)
    clear hK K
    try simp only [Act.put, zA, zB, zC]
    refine wpAnyH_done (by kernel_rfl) ?_ _
    have RY := Hid.mk' (RX.out.setOther (a := ⟨g, 1, none⟩) (fun e => gx e.symm) (.slice av (d + 1 + 1) cv))
    clear RX y0 y1 y2 y3 hHeld
    generalize hZ : w1.setCell ⟨g, 1, none⟩ (.slice av (d + 1 + 1) cv) = Z at *
    go_wp2_with fail
    clear hZ
    obtain ⟨q0, q1, q2, q3, q4, q5⟩ := cells5 RY.out
    obtain ⟨b0, b1, b2⟩ := cells2 HT1.out.box
    have VB := below_new Z (.cells #[.int .i64 K, .string S, .slice p9 n9 c9, .int .i64 U, .int .i64 (d : Int)] 58)
    have V2 := Hid.mk' (HT1.out.below VB.drew)
    have RZ := Hid.mk' (rowB RY.out VB.drew)
    have NC := Hid.mk' (new_cells Z 58 [.int .i64 K, .string S, .slice p9 n9 c9, .int .i64 U, .int .i64 (d : Int)] Z.heap.size rfl)
    clear VB
    have xn0 := World.new_ne Z ⟨g, 0, none⟩ b0
    have xn1 := World.new_ne Z ⟨x, 4, none⟩ q4
    dsimp only at xn0 xn1
    refine wp_region_held_drew (S := fun w' => w'.cell? ⟨x, 0, none⟩ = some (.int .i64 K) ∧ w'.cell? ⟨x, 1, none⟩ = some (.string S) ∧ w'.cell? ⟨x, 2, none⟩ = some (.slice p9 n9 c9) ∧ w'.cell? ⟨x, 3, none⟩ = some (.int .i64 U) ∧ w'.cell? ⟨x, 4, none⟩ = some (.int .i64 (d : Int))) (by kernel_rfl) (by simp [*]) (fun hHeld => ?_)
    refine tkY 0 ?_
    refine tkY 1 ?_
    refine tkY 2 ?_
    refine tkY 3 ?_
    refine tkY 5 ?_
    refine wpAnyH_ready (rs := [4, 6]) (by kernel_rfl) (by simp) ?_
    refine AllReadyH.cons (o := ⟨_, _, _, _, _, _⟩) rfl (fun K' hK => ?_) (AllReadyH.cons (o := ⟨_, _, _, _, _, _⟩) rfl (fun K' hK => ?_) AllReadyH.nil)
    · go_simp
      refine hK.out _ _ (by (try dsimp only); go_keep) (fun hHeld => ?_)
      clear hK K'
      try simp only [Act.put, zA, zB, zC]
      refine wpAnyH_ready (rs := [6]) (by kernel_rfl) (by simp) ?_
      refine AllReadyH.cons (o := ⟨_, _, _, _, _, _⟩) rfl (fun K' hK => ?_) AllReadyH.nil
      go_simp
      refine hK.out _ _ (by (try dsimp only); go_keep) (fun hHeld => ?_)
      clear hK K'
      try simp only [Act.put, zA, zB, zC]
      refine wpAnyH_ready (rs := [7]) (by kernel_rfl) (by simp) ?_
      refine AllReadyH.cons (o := ⟨_, _, _, _, _, _⟩) rfl (fun K' hK => ?_) AllReadyH.nil
      refine step_append_at rfl (.tmp 26) (.tmp 28) 45 rfl base 58 (.agg #[.int .i64 0, .string ⟨#[]⟩, .slice none 0 0, .int .i64 0, .int .i64 0]) 5 64 Try.underlying45 Try.info58 rfl (by decide) _ _ _ rfl V2.out.on _ 1 _ (pcell l (sv l pa ca) k) rfl (by rw [HPc.out]; rfl) (.inr ⟨_, rfl, by rw [HPc.out]; exact NC.out⟩) P1.out (by unfold maxLen; omega) (by omega) V2.out.sz ?_
      intro v2 w2 ho hgr hat
      have T2 := V2.out.put ho hgr hat
      obtain ⟨av2, cv2, ev', _⟩ := own_len ho
      subst ev'
      have gan : ¬ (some g : Option Nat) = (Value.slice an k cn).ownBlock := fun e => HT1.out.an e.symm
      have xan : ¬ (some x : Option Nat) = (Value.slice an k cn).ownBlock := fun e => by have := HY.out x e.symm; omega
      have z0 := hgr.cell (a := ⟨g, 0, none⟩) (cells2 V2.out.box).1 gan
      have z1 := rowIs_frozen (grown_box V2.out.box hgr HT1.out.an) 0
      obtain ⟨t0, t1, t2, t3, t4, t5⟩ := cells5 (grown_box RZ.out hgr (fun e => xan e.symm))
      have HT2 := Hid.mk' T2
      clear ho hgr hat T2
      refine hK.out _ _ (by (try dsimp only); go_keep) (fun hHeld => ?_)
      clear hK K'
      try simp only [Act.put, zA, zB, zC]
      refine tkY 8 ?_
      refine tkY 9 ?_
      refine wpAnyH_ready (rs := [10]) (by kernel_rfl) (by simp) ?_
      refine AllReadyH.cons (o := ⟨_, _, _, _, _, _⟩) rfl (fun K' hK => ?_) AllReadyH.nil
      go_simp
      have gx' : g ≠ x := gx
      refine hK.out _ _ (by (try dsimp only); go_keep) (fun hHeld => ?_)
      clear hK K'
      try simp only [Act.put, zA, zB, zC]
      refine wpAnyH_done (by kernel_rfl) ?_ _
      go_end0
      exact ⟨⟨_, rfl⟩, _, _, HT2.out⟩
    · go_simp
      refine hK.out _ _ (by (try dsimp only); go_keep) (fun hHeld => ?_)
      clear hK K'
      try simp only [Act.put, zA, zB, zC]
      refine wpAnyH_ready (rs := [4]) (by kernel_rfl) (by simp) ?_
      refine AllReadyH.cons (o := ⟨_, _, _, _, _, _⟩) rfl (fun K' hK => ?_) AllReadyH.nil
      go_simp
      refine hK.out _ _ (by (try dsimp only); go_keep) (fun hHeld => ?_)
      clear hK K'
      try simp only [Act.put, zA, zB, zC]
      refine wpAnyH_ready (rs := [7]) (by kernel_rfl) (by simp) ?_
      refine AllReadyH.cons (o := ⟨_, _, _, _, _, _⟩) rfl (fun K' hK => ?_) AllReadyH.nil
      refine step_append_at rfl (.tmp 26) (.tmp 28) 45 rfl base 58 (.agg #[.int .i64 0, .string ⟨#[]⟩, .slice none 0 0, .int .i64 0, .int .i64 0]) 5 64 Try.underlying45 Try.info58 rfl (by decide) _ _ _ rfl V2.out.on _ 1 _ (pcell l (sv l pa ca) k) rfl (by rw [HPc.out]; rfl) (.inr ⟨_, rfl, by rw [HPc.out]; exact NC.out⟩) P1.out (by unfold maxLen; omega) (by omega) V2.out.sz ?_
      intro v2 w2 ho hgr hat
      have T2 := V2.out.put ho hgr hat
      obtain ⟨av2, cv2, ev', _⟩ := own_len ho
      subst ev'
      have gan : ¬ (some g : Option Nat) = (Value.slice an k cn).ownBlock := fun e => HT1.out.an e.symm
      have xan : ¬ (some x : Option Nat) = (Value.slice an k cn).ownBlock := fun e => by have := HY.out x e.symm; omega
      have z0 := hgr.cell (a := ⟨g, 0, none⟩) (cells2 V2.out.box).1 gan
      have z1 := rowIs_frozen (grown_box V2.out.box hgr HT1.out.an) 0
      obtain ⟨t0, t1, t2, t3, t4, t5⟩ := cells5 (grown_box RZ.out hgr (fun e => xan e.symm))
      have HT2 := Hid.mk' T2
      clear ho hgr hat T2
      refine hK.out _ _ (by (try dsimp only); go_keep) (fun hHeld => ?_)
      clear hK K'
      try simp only [Act.put, zA, zB, zC]
      refine tkY 8 ?_
      refine tkY 9 ?_
      refine wpAnyH_ready (rs := [10]) (by kernel_rfl) (by simp) ?_
      refine AllReadyH.cons (o := ⟨_, _, _, _, _, _⟩) rfl (fun K' hK => ?_) AllReadyH.nil
      go_simp
      have gx' : g ≠ x := gx
      refine hK.out _ _ (by (try dsimp only); go_keep) (fun hHeld => ?_)
      clear hK K'
      try simp only [Act.put, zA, zB, zC]
      refine wpAnyH_done (by kernel_rfl) ?_ _
      go_end0
      exact ⟨⟨_, rfl⟩, _, _, HT2.out⟩

end Go.Proofs.Ytlaeomnacgjcgaa

namespace Go.Proofs.Ytlaeomnacgjcgaa
open Go.RowKit

theorem NsAt.fn {w : World} {b o : Nat} {l : List ND} (hc : ∀ k, k < l.length → w.cell? ⟨b, o + k * 4, none⟩ = some (.int .i64 (ndK l k).up) ∧ w.cell? ⟨b, o + k * 4 + 1, none⟩ = some (.string (ndK l k).tg) ∧ (∃ p c, w.cell? ⟨b, o + k * 4 + 2, none⟩ = some (.slice p (ndK l k).at_.length c) ∧ (ndK l k).at_.length ≤ c ∧ AAt w p (ndK l k).at_) ∧ (∃ p c, w.cell? ⟨b, o + k * 4 + 3, none⟩ = some (.slice p (ndK l k).tx.length c) ∧ BAt w p (ndK l k).tx)) :
    ∃ (pa : Nat → Option Addr) (ca : Nat → Nat) (pt : Nat → Option Addr) (ct : Nat → Nat), ∀ k, k < l.length → w.cell? ⟨b, o + k * 4, none⟩ = some (.int .i64 (ndK l k).up) ∧ w.cell? ⟨b, o + k * 4 + 1, none⟩ = some (.string (ndK l k).tg) ∧ w.cell? ⟨b, o + k * 4 + 2, none⟩ = some (.slice (pa k) (ndK l k).at_.length (ca k)) ∧ AAt w (pa k) (ndK l k).at_ ∧ w.cell? ⟨b, o + k * 4 + 3, none⟩ = some (.slice (pt k) (ndK l k).tx.length (ct k)) := by
  classical
  refine ⟨fun k => if h : k < l.length then (hc k h).2.2.1.choose else none, fun k => if h : k < l.length then (hc k h).2.2.1.choose_spec.choose else 0, fun k => if h : k < l.length then (hc k h).2.2.2.choose else none, fun k => if h : k < l.length then (hc k h).2.2.2.choose_spec.choose else 0, fun k hk => ?_⟩
  simp only [dif_pos hk]
  exact ⟨(hc k hk).1, (hc k hk).2.1, (hc k hk).2.2.1.choose_spec.choose_spec.1, (hc k hk).2.2.1.choose_spec.choose_spec.2.2, (hc k hk).2.2.2.choose_spec.choose_spec.1⟩

def TreeP (l : List ND) (w : World) (e : Ending) (w' : World) : Prop :=
  (¬ treeF l = 0 ∧ e = .returned (.tuple #[.agg #[.slice none 0 0, .slice none 0 0], .int .i64 (treeF l)]) ∧ Below w.heap.size w w') ∨
  (treeF l = 0 ∧ ∃ pa ca g vn vw, e = .returned (.tuple #[.agg #[vn, vw], .int .i64 0]) ∧ TT w w.heap.size g l pa ca l.length vn vw w')

theorem own_base {w : World} {base base' : Nat} {e : TypeId} {size : Nat} {v : Value} {n : Nat} {xs : List Value} (h : w.ownsRow base e size v n xs) (hb : base' ≤ base) : w.ownsRow base' e size v n xs := by
  refine ⟨h.1, ?_⟩
  rcases h.2 with h | ⟨g, cap, cur, h1, h2, h3⟩
  · exact .inl h
  · exact .inr ⟨g, cap, cur, h1, Nat.le_trans hb h2, h3⟩

theorem TT.fin {w W0 wr : World} {g : Nat} {l : List ND} {pa : Nat → Option Addr} {ca : Nat → Nat} {k : Nat} {vn vw u u' : Value} (h : TT W0 (w.heap.size + 1) g l pa ca k vn vw wr) (hB : Below w.heap.size w W0) : TT w w.heap.size g l pa ca k vn vw ((wr.setCell ⟨w.heap.size, 0, none⟩ u).setCell ⟨w.heap.size, 1, none⟩ u') := by
  have hg := h.bg
  have n1 : ¬ vn.ownBlock = some w.heap.size := fun e => by have := own_lo h.on _ e; omega
  have n2 : ¬ vw.ownBlock = some w.heap.size := fun e => by have := own_lo h.ow _ e; omega
  refine ⟨(h.box.setOther (a := ⟨w.heap.size, 0, none⟩) (by dsimp only; omega) u).setOther (a := ⟨w.heap.size, 1, none⟩) (by dsimp only; omega) u', own_base (own_setG (own_setG h.on n1) n1) (by omega), own_base (own_setG (own_setG h.ow n2) n2) (by omega), h.ap, h.an, h.aw, ?_, ?_, by omega⟩
  · exact ((hB.trans (h.bl.mono (by omega))).setCell (p := ⟨w.heap.size, 0, none⟩) (Nat.le_refl _) _).setCell (p := ⟨w.heap.size, 1, none⟩) (Nat.le_refl _) _
  · have := h.sz; simp [World.setCell]; omega

set_option maxRecDepth 100000 in
set_option maxHeartbeats 16000000 in
theorem treeOf_any (a : Option Addr) (c : Nat) (l : List ND) (w : World) (ha : NsAt w a l) (hl : (l.length : Int) + nssz l ≤ 1048576) :
    Calls Try.prog 24 #[.slice a l.length c] w fun e w' => TreeP l w e w' := by
  by_cases h60 : (l.length : Int) > 60
  · have E : Hid (treeF l = 2) := Hid.mk' (by unfold treeF; rw [if_pos (by omega)])
    go_enter Try.func24, Try.ntmps24
    go_wp2
    refine bodyPost_ret (v := .tuple #[.agg #[.slice none 0 0, .slice none 0 0], .int .i64 2]) (by simp [results, Try.results24, go_sem, *]) rfl ?_
    exact .inl ⟨by rw [E.out]; decide, by rw [E.out], below_new _ _⟩
  have hle : l.length ≤ 60 := by omega
  have HN : Hid (∃ (b o : Nat) (pa : Nat → Option Addr) (ca : Nat → Nat) (pt : Nat → Option Addr) (ct : Nat → Nat), (0 < l.length → a = some ⟨b, o, none⟩ ∧ b < w.heap.size) ∧ ∀ k, k < l.length → w.cell? ⟨b, o + k * 4, none⟩ = some (.int .i64 (ndK l k).up) ∧ w.cell? ⟨b, o + k * 4 + 1, none⟩ = some (.string (ndK l k).tg) ∧ w.cell? ⟨b, o + k * 4 + 2, none⟩ = some (.slice (pa k) (ndK l k).at_.length (ca k)) ∧ AAt w (pa k) (ndK l k).at_ ∧ w.cell? ⟨b, o + k * 4 + 3, none⟩ = some (.slice (pt k) (ndK l k).tx.length (ct k))) := by
    rcases ha with ha | ⟨b, o, rfl, hbs, hc⟩
    · exact ⟨0, 0, fun _ => none, fun _ => 0, fun _ => none, fun _ => 0, fun h => by rw [ha] at h; exact absurd h (Nat.not_lt_zero _), fun k h => by rw [ha] at h; exact absurd h (Nat.not_lt_zero _)⟩
    · obtain ⟨pa, ca, pt, ct, h⟩ := NsAt.fn hc
      exact ⟨b, o, pa, ca, pt, ct, fun _ => ⟨rfl, hbs⟩, h⟩
  obtain ⟨b, o, pa, ca, pt, ct, hab, hcell⟩ := HN.out
  have HA := Hid.mk' hab
  have HCl := Hid.mk' hcell
  clear HN ha hab hcell
  have B0 := below_new w (.cells #[.slice none 0 0, .slice none 0 0] 47)
  have R0 := (rowp2 w 47 (.slice none 0 0) (.slice none 0 0))
  have z0 : (w.alloc (.cells #[.slice none 0 0, .slice none 0 0] 47)).heap.size = w.heap.size + 1 := by simp
  have TS : TT (w.alloc (.cells #[.slice none 0 0, .slice none 0 0] 47)) (w.heap.size + 1) (w.heap.size + 1 + 1) l pa ca 0 (.slice none 0 0) (.slice (some ⟨w.heap.size + 1, 0, none⟩) 1 1) (((w.alloc (.cells #[.slice none 0 0, .slice none 0 0] 47)).alloc (.cells #[.int .i64 (-1)] 2)).alloc (.cells #[.slice none 0 0, .slice (some ⟨w.heap.size + 1, 0, none⟩) 1 1] 47)) := by
    generalize hW0 : w.alloc (.cells #[.slice none 0 0, .slice none 0 0] 47) = W0 at *
    have z1 : (W0.alloc (.cells #[.int .i64 (-1)] 2)).heap.size = w.heap.size + 1 + 1 := by simp [z0]
    have RB := rowp2 (W0.alloc (.cells #[.int .i64 (-1)] 2)) 47 (.slice none 0 0) (.slice (some ⟨w.heap.size + 1, 0, none⟩) 1 1)
    rw [z1] at RB
    have OW : (W0.alloc (.cells #[.int .i64 (-1)] 2)).ownsRow (w.heap.size + 1) 2 1 (.slice (some ⟨w.heap.size + 1, 0, none⟩) 1 1) 1 (ics [-1]) := by
      have := World.ownsRow_lit (base := w.heap.size + 1) (e := 2) (size := 1) W0 #[.int .i64 (-1)] 1 (by omega) (by unfold maxLen; omega) rfl
      rw [z0] at this
      exact this
    refine ⟨RB, ⟨rfl, .inl ⟨rfl, rfl⟩⟩, OW.alloc _, Ap.nil_left _, by simp [Value.ownBlock], by simp [Value.ownBlock], ?_, ?_, by omega⟩
    · exact ((Below.refl _ _).alloc (by omega) _).alloc (by simp; omega) _
    · simp; omega
  obtain ⟨W0, hW0⟩ : ∃ W0, w.alloc (.cells #[.slice none 0 0, .slice none 0 0] 47) = W0 := ⟨_, rfl⟩
  have HTS : Hid (TT W0 (w.heap.size + 1) (w.heap.size + 1 + 1) l pa ca 0 (.slice none 0 0) (.slice (some ⟨w.heap.size + 1, 0, none⟩) 1 1) (((w.alloc (.cells #[.slice none 0 0, .slice none 0 0] 47)).alloc (.cells #[.int .i64 (-1)] 2)).alloc (.cells #[.slice none 0 0, .slice (some ⟨w.heap.size + 1, 0, none⟩) 1 1] 47))) := Hid.mk' (by have := TS; rw [hW0] at this; rw [hW0]; exact this)
  rw [hW0] at B0 R0 z0
  have HB0 := Hid.mk' B0
  have HR0 := Hid.mk' R0
  have Z0 := Hid.mk' z0
  clear B0 R0 z0 TS hW0
  go_enter Try.func24, Try.ntmps24
  go_wp2_with fail
  go_loopw [17] (fun i wr => ∃ k : Nat, k ≤ l.length ∧ i = .int .i64 k ∧ (∀ j, j < k → oneF l j = 0) ∧ ∃ vn vw, TT W0 (w.heap.size + 1) (w.heap.size + 1 + 1) l pa ca k vn vw wr) (fun i _ => l.length - (intOf i).toNat)
  case atStart =>
    exact ⟨0, Nat.zero_le _, rfl, fun j h => absurd h (Nat.not_lt_zero _), _, _, HTS.out⟩
  case round =>
    obtain ⟨k, hk, rfl, hz, vn, vw, hT⟩ := hrel
    have HT := Hid.mk' hT
    have HZ := Hid.mk' hz
    clear hT hz
    by_cases hlt : k < l.length
    · have ci : (k : Int) < (l.length : Int) := by omega
      obtain ⟨rfl, hbs⟩ := HA.out (by omega)
      obtain ⟨q0, q1, q2, q3, q4⟩ := HCl.out k hlt
      have bl0 : Below w.heap.size w wr := HB0.out.trans (HT.out.bl.mono (by omega))
      have c0 := (bl0.cell hbs).trans q0
      have c1 := (bl0.cell hbs).trans q1
      have c2 := (bl0.cell hbs).trans q2
      have c3 := (bl0.cell hbs).trans q4
      have G := (ways_of HZ.out).good
      have gle := G.le
      obtain ⟨bw, cw, ew, w1_, w2_, w3_, hIA⟩ := own_iat HT.out.ow (by have := G.ne; omega)
      subst ew
      have AA := Hid.mk' (q3.below bl0)
      have hsz := nssz_at hlt
      have N1 := below_new wr (.cells #[.int .i64 (ndK l k).up, .string (ndK l k).tg, .slice (pa k) (ndK l k).at_.length (ca k), .slice (pt k) (ndK l k).tx.length (ct k)] 44)
      have HN1 := Hid.mk' N1
      have RN := Hid.mk' (row4 wr 44 (.int .i64 (ndK l k).up) (.string (ndK l k).tg) (.slice (pa k) (ndK l k).at_.length (ca k)) (.slice (pt k) (ndK l k).tx.length (ct k)))
      have IA := Hid.mk' (hIA.below N1)
      have HT1 := Hid.mk' (HT.out.below N1)
      have AA1 := Hid.mk' (AA.out.below N1)
      obtain ⟨p9, n9, c9, hV⟩ := mkV_slice (ndK l k) l pa ca k
      have KM : Hid (∀ w', Calls Try.prog 39 #[.agg #[.int .i64 (ndK l k).up, .string (ndK l k).tg, .slice (pa k) (ndK l k).at_.length (ca k), .slice (pt k) (ndK l k).tx.length (ct k)]] w' fun e w'' => e = .returned (.agg #[.int .i64 (mkK (ndK l k)), .string (mkS (ndK l k)), .slice p9 n9 c9]) ∧ Below w'.heap.size w' w'') := fun w' => by
        have := markOf_any (ndK l k) (pa k) (pt k) (ca k) (ct k) w'
        rw [show mkV (ndK l k) (.slice (pa k) (ndK l k).at_.length (ca k)) = .slice p9 n9 c9 from hV] at this
        exact this
      have HV := Hid.mk' hV
      clear hsz N1 hIA G q0 q1 q2 q3 q4 hV AA w1_ w3_ HT
      generalize hW : wr.alloc (.cells #[.int .i64 (ndK l k).up, .string (ndK l k).tg, .slice (pa k) (ndK l k).at_.length (ca k), .slice (pt k) (ndK l k).tx.length (ct k)] 44) = W at *
      go_wp2_with fail
      clear hW c0 c1 c2 c3
      have KI : Hid (∀ w', Below W.drew.heap.size W.drew w' → Calls Try.prog 40 #[.slice (some ⟨bw, 0, none⟩) (wayU (upF l) k).length cw, .int .i64 (ndK l k).up] w' fun e w'' => e = .returned (.int .i64 (ixI (wayU (upF l) k) (ndK l k).up)) ∧ w'' = w') := fun w' hb => indexI_any _ _ _ _ _ (IA.out.below (undrew hb)) (by omega)
      obtain ⟨r0, r1, r2, r3_, r4_⟩ := cells4 RN.out
      obtain ⟨t0, t1, t2⟩ := cells2 HT1.out.box
      have HWD : Hid (Below W.heap.size W W.drew) := Hid.mk' ((Below.refl _ _).drew)
      refine Code.wp_mono (Q := fun ex a' w' => ex = .normal ∧ ∃ x, W.heap.size ≤ x ∧ a' = ({ tmps := ((.slice (some ⟨b, o, none⟩) l.length c : Value) :: undef :: .pointer (some ⟨w.heap.size, 0, none⟩) :: u3 :: .pointer (some ⟨w.heap.size + 1 + 1, 0, none⟩) :: undef :: .pointer (some ⟨wr.heap.size, 0, none⟩) :: .pointer (some ⟨x, 0, none⟩) :: u8 :: .slice (some ⟨b, o, none⟩) l.length c :: .int .i64 (l.length : Int) :: .bool false :: undef :: .slice (some ⟨w.heap.size + 1, 0, none⟩) 1 1 :: .agg #[.slice none 0 0, .slice (some ⟨w.heap.size + 1, 0, none⟩) 1 1] :: .slice (some ⟨b, o, none⟩) l.length c :: .int .i64 (l.length : Int) :: .int .i64 (k : Int) :: .bool true :: .pointer (some ⟨b, o + k * 4, none⟩) :: .agg #[.int .i64 (ndK l k).up, .string (ndK l k).tg, .slice (pa k) (ndK l k).at_.length (ca k), .slice (pt k) (ndK l k).tx.length (ct k)] :: .agg #[.int .i64 (ndK l k).up, .string (ndK l k).tg, .slice (pa k) (ndK l k).at_.length (ca k), .slice (pt k) (ndK l k).tx.length (ct k)] :: .agg #[.int .i64 (mkK (ndK l k)), .string (mkS (ndK l k)), .slice p9 n9 c9] :: .pointer (some ⟨wr.heap.size, 0, none⟩) :: .int .i64 (ndK l k).up :: .pointer (some ⟨w.heap.size + 1 + 1, 1, none⟩) :: .slice (some ⟨bw, 0, none⟩) (wayU (upF l) k).length cw :: .pointer (some ⟨wr.heap.size, 0, none⟩) :: .int .i64 (ndK l k).up :: .int .i64 (ixI (wayU (upF l) k) (ndK l k).up) :: .agg #[.int .i64 (mkK (ndK l k)), .string (mkS (ndK l k)), .slice p9 n9 c9, .int .i64 (ndK l k).up, .int .i64 (ixI (wayU (upF l) k) (ndK l k).up)] :: u31 :: u32 :: u33 :: u34 :: u35 :: u36 :: u37 :: u38 :: u39 :: undef :: []).toArray, defers := [] } : Act) ∧ Below W.heap.size W w' ∧ w'.rowIs x 58 5 (r5 (.int .i64 (mkK (ndK l k))) (.string (mkS (ndK l k))) (.slice p9 n9 c9) (.int .i64 (ndK l k).up) (.int .i64 (ixI (wayU (upF l) k) (ndK l k).up)))) ?_ ?_
      rotate_left
      · refine wp_region_held_drew (S := fun w' => Below W.drew.heap.size W.drew w') (by kernel_rfl) (Below.refl _ _) (fun hHeld => ?_)
        have f0 : ∀ w', Below W.drew.heap.size W.drew w' → w'.cell? ⟨wr.heap.size, 0, none⟩ = some (.int .i64 (ndK l k).up) ∧ w'.cell? ⟨wr.heap.size, 1, none⟩ = some (.string (ndK l k).tg) ∧ w'.cell? ⟨wr.heap.size, 2, none⟩ = some (.slice (pa k) (ndK l k).at_.length (ca k)) ∧ w'.cell? ⟨wr.heap.size, 3, none⟩ = some (.slice (pt k) (ndK l k).tx.length (ct k)) ∧ w'.cell? ⟨w.heap.size + 1 + 1, 1, none⟩ = some (.slice (some ⟨bw, 0, none⟩) (wayU (upF l) k).length cw) := fun w' hb => ⟨((undrew hb).cell r4_).trans r0, ((undrew hb).cell r4_).trans r1, ((undrew hb).cell r4_).trans r2, ((undrew hb).cell r4_).trans r3_, ((undrew hb).cell t2).trans t1⟩
        have BC := Hid.mk' (Below.refl W.drew.heap.size W.drew)
        have F0 := Hid.mk' f0
        have SZ : Hid (W.drew.heap.size = W.heap.size) := Hid.mk' rfl
        clear f0 r0 r1 r2 r3_ t0 t1
        generalize hVd : W.drew = V at *
        clear hVd
        refine wpAnyH_take (i := 0) (oi := ⟨_, _, _, _, _, _⟩) (v := ?_) rfl (by kernel_rfl) (by kernel_rfl) (by kernel_rfl) (fun _ _ _ h => absurd h.1 (by simp)) (Or.inl ⟨by rfl, ?_⟩) (by assumption) ?_
        rotate_left
        · (intro w' hSw; obtain ⟨u0, u1, u2, u3, u4⟩ := F0.out w' hSw; (try dsimp only at hSw); go_simp; (try with_reducible rfl))
        try simp only [Act.put, zA, zB, zC]
        refine wpAnyH_take (i := 2) (oi := ⟨_, _, _, _, _, _⟩) (v := ?_) rfl (by kernel_rfl) (by kernel_rfl) (by kernel_rfl) (fun _ _ _ h => absurd h.1 (by simp)) (Or.inl ⟨by rfl, ?_⟩) (by assumption) ?_
        rotate_left
        · (intro w' hSw; obtain ⟨u0, u1, u2, u3, u4⟩ := F0.out w' hSw; (try dsimp only at hSw); go_simp; (try with_reducible rfl))
        try simp only [Act.put, zA, zB, zC]
        refine wpAnyH_take (i := 3) (oi := ⟨_, _, _, _, _, _⟩) (v := ?_) rfl (by kernel_rfl) (by kernel_rfl) (by kernel_rfl) (fun _ _ _ h => absurd h.1 (by simp)) (Or.inl ⟨by rfl, ?_⟩) (by assumption) ?_
        rotate_left
        · (intro w' hSw; obtain ⟨u0, u1, u2, u3, u4⟩ := F0.out w' hSw; (try dsimp only at hSw); go_simp; (try with_reducible rfl))
        try simp only [Act.put, zA, zB, zC]
        refine wpAnyH_take (i := 4) (oi := ⟨_, _, _, _, _, _⟩) (v := ?_) rfl (by kernel_rfl) (by kernel_rfl) (by kernel_rfl) (fun _ _ _ h => absurd h.1 (by simp)) (Or.inl ⟨by rfl, ?_⟩) (by assumption) ?_
        rotate_left
        · (intro w' hSw; obtain ⟨u0, u1, u2, u3, u4⟩ := F0.out w' hSw; (try dsimp only at hSw); go_simp; (try with_reducible rfl))
        try simp only [Act.put, zA, zB, zC]
        refine wpAnyH_take (i := 5) (oi := ⟨_, _, _, _, _, _⟩) (v := ?_) rfl (by kernel_rfl) (by kernel_rfl) (by kernel_rfl) (fun _ _ _ h => absurd h.1 (by simp)) (Or.inl ⟨by rfl, ?_⟩) (by assumption) ?_
        rotate_left
        · (intro w' hSw; obtain ⟨u0, u1, u2, u3, u4⟩ := F0.out w' hSw; (try dsimp only at hSw); go_simp; (try with_reducible rfl))
        try simp only [Act.put, zA, zB, zC]
        refine wpAnyH_take (i := 6) (oi := ⟨_, _, _, _, _, _⟩) (v := ?_) rfl (by kernel_rfl) (by kernel_rfl) (by kernel_rfl) (fun _ _ _ h => absurd h.1 (by simp)) (Or.inl ⟨by rfl, ?_⟩) (by assumption) ?_
        rotate_left
        · (intro w' hSw; obtain ⟨u0, u1, u2, u3, u4⟩ := F0.out w' hSw; (try dsimp only at hSw); go_simp; (try with_reducible rfl))
        try simp only [Act.put, zA, zB, zC]
        refine wpAnyH_take (i := 7) (oi := ⟨_, _, _, _, _, _⟩) (v := ?_) rfl (by kernel_rfl) (by kernel_rfl) (by kernel_rfl) (fun _ _ _ h => absurd h.1 (by simp)) (Or.inl ⟨by rfl, ?_⟩) (by assumption) ?_
        rotate_left
        · (intro w' hSw; obtain ⟨u0, u1, u2, u3, u4⟩ := F0.out w' hSw; (try dsimp only at hSw); go_simp; (try with_reducible rfl))
        try simp only [Act.put, zA, zB, zC]
        refine wpAnyH_ready (rs := [1, 10]) (by kernel_rfl) (by simp) ?_
        refine AllReadyH.cons (o := ⟨_, _, _, _, _, _⟩) rfl (fun K hK => ?_) (AllReadyH.cons (o := ⟨_, _, _, _, _, _⟩) rfl (fun K hK => ?_) AllReadyH.nil)
        · go_simp
          go_at_call 39; refine (KM.out _).mono ?_; rintro e wm ⟨rfl, hb⟩; have BC := Hid.mk' (BC.out.trans (hb.mono BC.out.size))
          clear hb
          refine hK.out _ _ BC.out (fun hHeld => ?_)
          clear hK K
          try simp only [Act.put, zA, zB, zC]
          refine wpAnyH_ready (rs := [8, 10]) (by kernel_rfl) (by simp) ?_
          refine AllReadyH.cons (o := ⟨_, _, _, _, _, _⟩) rfl (fun K hK => ?_) (AllReadyH.cons (o := ⟨_, _, _, _, _, _⟩) rfl (fun K hK => ?_) AllReadyH.nil)
          · go_simp
            go_at_call 40; refine (KI.out _ BC.out).mono ?_; rintro e wi ⟨rfl, hw9⟩; obtain rfl := hw9.symm
            refine hK.out _ _ BC.out (fun hHeld => ?_)
            clear hK K
            try simp only [Act.put, zA, zB, zC]
            refine wpAnyH_take (i := 9) (oi := ⟨_, _, _, _, _, _⟩) (v := ?_) rfl (by kernel_rfl) (by kernel_rfl) (by kernel_rfl) (fun _ _ _ h => absurd h.1 (by simp)) (Or.inl ⟨by rfl, ?_⟩) (by assumption) ?_
            rotate_left
            · (intro w hSw; (try dsimp only at hSw); go_simp; (try with_reducible rfl))
            try simp only [Act.put, zA, zB, zC]
            refine wpAnyH_ready (rs := [10]) (by kernel_rfl) (by simp) ?_
            refine AllReadyH.cons (o := ⟨_, _, _, _, _, _⟩) rfl (fun K hK => ?_) AllReadyH.nil
            · go_simp
              have BC := Hid.mk' (BC.out.alloc BC.out.size (.cells #[.int .i64 0, .string ⟨#[]⟩, .slice none 0 0, .int .i64 0, .int .i64 0] 58))
              have RX := Hid.mk' (row5 wm 58 (.int .i64 0) (.string ⟨#[]⟩) (.slice none 0 0) (.int .i64 0) (.int .i64 0))
              have XL : Hid (W.heap.size ≤ wm.heap.size) := Hid.mk' (SZ.out ▸ hHeld.size)
              generalize hwa : wm.alloc (.cells #[.int .i64 0, .string ⟨#[]⟩, .slice none 0 0, .int .i64 0, .int .i64 0] 58) = wa at *
              refine hK.out _ _ BC.out (fun hHeld => ?_)
              clear hK K
              try simp only [Act.put, zA, zB, zC]
              generalize hx : wm.heap.size = x at *
              obtain ⟨s0, s1, s2, s3, s4, s5⟩ := cells5 RX.out
              have g0 := RX.out.frozen 0
              have g1 := RX.out.frozen 1
              have g2 := RX.out.frozen 2
              have g3 := RX.out.frozen 3
              have g4 := RX.out.frozen 4
              have XG : V.heap.size ≤ x := by have := XL.out; have := SZ.out; omega
              refine wpAnyH_ready (rs := [11]) (by kernel_rfl) (by simp) ?_
              refine AllReadyH.cons (o := ⟨_, _, _, _, _, _⟩) rfl (fun K hK => ?_) AllReadyH.nil
              go_simp
              have B9 := (((((BC.out.setCell (p := ⟨x, 0, none⟩) XG (.int .i64 (mkK (ndK l k)))).setCell (p := ⟨x, 1, none⟩) XG (.string (mkS (ndK l k)))).setCell (p := ⟨x, 2, none⟩) XG (.slice p9 n9 c9)).setCell (p := ⟨x, 3, none⟩) XG (.int .i64 (ndK l k).up)).setCell (p := ⟨x, 4, none⟩) XG (.int .i64 (ixI (wayU (upF l) k) (ndK l k).up)))
              have R9 := (((((RX.out.set 0 (.int .i64 (mkK (ndK l k)))).set 1 (.string (mkS (ndK l k)))).set 2 (.slice p9 n9 c9)).set 3 (.int .i64 (ndK l k).up)).set 4 (.int .i64 (ixI (wayU (upF l) k) (ndK l k).up))).congr (g := r5 (.int .i64 (mkK (ndK l k))) (.string (mkS (ndK l k))) (.slice p9 n9 c9) (.int .i64 (ndK l k).up) (.int .i64 (ixI (wayU (upF l) k) (ndK l k).up))) (fun i hi => by have h5 : i = 0 ∨ i = 1 ∨ i = 2 ∨ i = 3 ∨ i = 4 := (by omega); rcases h5 with rfl | rfl | rfl | rfl | rfl <;> rfl)
              refine hK.out _ _ B9 (fun hHeld => ?_)
              clear hK K
              try simp only [Act.put, zA, zB, zC]
              refine wpAnyH_done (by kernel_rfl) ?_ _
              exact ⟨rfl, x, XL.out, rfl, HWD.out.trans (B9.mono (by have := SZ.out; omega)), R9⟩
          · go_simp
            have BC := Hid.mk' (BC.out.alloc BC.out.size (.cells #[.int .i64 0, .string ⟨#[]⟩, .slice none 0 0, .int .i64 0, .int .i64 0] 58))
            have RX := Hid.mk' (row5 wm 58 (.int .i64 0) (.string ⟨#[]⟩) (.slice none 0 0) (.int .i64 0) (.int .i64 0))
            have XL : Hid (W.heap.size ≤ wm.heap.size) := Hid.mk' (SZ.out ▸ hHeld.size)
            generalize hwa : wm.alloc (.cells #[.int .i64 0, .string ⟨#[]⟩, .slice none 0 0, .int .i64 0, .int .i64 0] 58) = wa at *
            refine hK.out _ _ BC.out (fun hHeld => ?_)
            clear hK K
            try simp only [Act.put, zA, zB, zC]
            refine wpAnyH_ready (rs := [8]) (by kernel_rfl) (by simp) ?_
            refine AllReadyH.cons (o := ⟨_, _, _, _, _, _⟩) rfl (fun K hK => ?_) AllReadyH.nil
            · go_simp
              go_at_call 40; refine (KI.out _ BC.out).mono ?_; rintro e wi ⟨rfl, hw9⟩; obtain rfl := hw9.symm
              refine hK.out _ _ BC.out (fun hHeld => ?_)
              clear hK K
              try simp only [Act.put, zA, zB, zC]
              refine wpAnyH_take (i := 9) (oi := ⟨_, _, _, _, _, _⟩) (v := ?_) rfl (by kernel_rfl) (by kernel_rfl) (by kernel_rfl) (fun _ _ _ h => absurd h.1 (by simp)) (Or.inl ⟨by rfl, ?_⟩) (by assumption) ?_
              rotate_left
              · (intro w hSw; (try dsimp only at hSw); go_simp; (try with_reducible rfl))
              try simp only [Act.put, zA, zB, zC]
              generalize hx : wm.heap.size = x at *
              obtain ⟨s0, s1, s2, s3, s4, s5⟩ := cells5 RX.out
              have g0 := RX.out.frozen 0
              have g1 := RX.out.frozen 1
              have g2 := RX.out.frozen 2
              have g3 := RX.out.frozen 3
              have g4 := RX.out.frozen 4
              have XG : V.heap.size ≤ x := by have := XL.out; have := SZ.out; omega
              refine wpAnyH_ready (rs := [11]) (by kernel_rfl) (by simp) ?_
              refine AllReadyH.cons (o := ⟨_, _, _, _, _, _⟩) rfl (fun K hK => ?_) AllReadyH.nil
              go_simp
              have B9 := (((((BC.out.setCell (p := ⟨x, 0, none⟩) XG (.int .i64 (mkK (ndK l k)))).setCell (p := ⟨x, 1, none⟩) XG (.string (mkS (ndK l k)))).setCell (p := ⟨x, 2, none⟩) XG (.slice p9 n9 c9)).setCell (p := ⟨x, 3, none⟩) XG (.int .i64 (ndK l k).up)).setCell (p := ⟨x, 4, none⟩) XG (.int .i64 (ixI (wayU (upF l) k) (ndK l k).up)))
              have R9 := (((((RX.out.set 0 (.int .i64 (mkK (ndK l k)))).set 1 (.string (mkS (ndK l k)))).set 2 (.slice p9 n9 c9)).set 3 (.int .i64 (ndK l k).up)).set 4 (.int .i64 (ixI (wayU (upF l) k) (ndK l k).up))).congr (g := r5 (.int .i64 (mkK (ndK l k))) (.string (mkS (ndK l k))) (.slice p9 n9 c9) (.int .i64 (ndK l k).up) (.int .i64 (ixI (wayU (upF l) k) (ndK l k).up))) (fun i hi => by have h5 : i = 0 ∨ i = 1 ∨ i = 2 ∨ i = 3 ∨ i = 4 := (by omega); rcases h5 with rfl | rfl | rfl | rfl | rfl <;> rfl)
              refine hK.out _ _ B9 (fun hHeld => ?_)
              clear hK K
              try simp only [Act.put, zA, zB, zC]
              refine wpAnyH_done (by kernel_rfl) ?_ _
              exact ⟨rfl, x, XL.out, rfl, HWD.out.trans (B9.mono (by have := SZ.out; omega)), R9⟩
        · go_simp
          have BC := Hid.mk' (BC.out.alloc BC.out.size (.cells #[.int .i64 0, .string ⟨#[]⟩, .slice none 0 0, .int .i64 0, .int .i64 0] 58))
          have RX := Hid.mk' (row5 V 58 (.int .i64 0) (.string ⟨#[]⟩) (.slice none 0 0) (.int .i64 0) (.int .i64 0))
          have XL : Hid (W.heap.size ≤ V.heap.size) := Hid.mk' (SZ.out ▸ hHeld.size)
          generalize hwa : V.alloc (.cells #[.int .i64 0, .string ⟨#[]⟩, .slice none 0 0, .int .i64 0, .int .i64 0] 58) = wa at *
          refine hK.out _ _ BC.out (fun hHeld => ?_)
          clear hK K
          try simp only [Act.put, zA, zB, zC]
          refine wpAnyH_ready (rs := [1]) (by kernel_rfl) (by simp) ?_
          refine AllReadyH.cons (o := ⟨_, _, _, _, _, _⟩) rfl (fun K hK => ?_) AllReadyH.nil
          · go_simp
            go_at_call 39; refine (KM.out _).mono ?_; rintro e wm ⟨rfl, hb⟩; have BC := Hid.mk' (BC.out.trans (hb.mono BC.out.size))
            have RX := Hid.mk' (rowB RX.out hb)
            clear hb
            refine hK.out _ _ BC.out (fun hHeld => ?_)
            clear hK K
            try simp only [Act.put, zA, zB, zC]
            refine wpAnyH_ready (rs := [8]) (by kernel_rfl) (by simp) ?_
            refine AllReadyH.cons (o := ⟨_, _, _, _, _, _⟩) rfl (fun K hK => ?_) AllReadyH.nil
            · go_simp
              go_at_call 40; refine (KI.out _ BC.out).mono ?_; rintro e wi ⟨rfl, hw9⟩; obtain rfl := hw9.symm
              refine hK.out _ _ BC.out (fun hHeld => ?_)
              clear hK K
              try simp only [Act.put, zA, zB, zC]
              refine wpAnyH_take (i := 9) (oi := ⟨_, _, _, _, _, _⟩) (v := ?_) rfl (by kernel_rfl) (by kernel_rfl) (by kernel_rfl) (fun _ _ _ h => absurd h.1 (by simp)) (Or.inl ⟨by rfl, ?_⟩) (by assumption) ?_
              rotate_left
              · (intro w hSw; (try dsimp only at hSw); go_simp; (try with_reducible rfl))
              try simp only [Act.put, zA, zB, zC]
              obtain ⟨s0, s1, s2, s3, s4, s5⟩ := cells5 RX.out
              have g0 := RX.out.frozen 0
              have g1 := RX.out.frozen 1
              have g2 := RX.out.frozen 2
              have g3 := RX.out.frozen 3
              have g4 := RX.out.frozen 4
              have XG : V.heap.size ≤ V.heap.size := by have := XL.out; have := SZ.out; omega
              refine wpAnyH_ready (rs := [11]) (by kernel_rfl) (by simp) ?_
              refine AllReadyH.cons (o := ⟨_, _, _, _, _, _⟩) rfl (fun K hK => ?_) AllReadyH.nil
              go_simp
              have B9 := (((((BC.out.setCell (p := ⟨V.heap.size, 0, none⟩) XG (.int .i64 (mkK (ndK l k)))).setCell (p := ⟨V.heap.size, 1, none⟩) XG (.string (mkS (ndK l k)))).setCell (p := ⟨V.heap.size, 2, none⟩) XG (.slice p9 n9 c9)).setCell (p := ⟨V.heap.size, 3, none⟩) XG (.int .i64 (ndK l k).up)).setCell (p := ⟨V.heap.size, 4, none⟩) XG (.int .i64 (ixI (wayU (upF l) k) (ndK l k).up)))
              have R9 := (((((RX.out.set 0 (.int .i64 (mkK (ndK l k)))).set 1 (.string (mkS (ndK l k)))).set 2 (.slice p9 n9 c9)).set 3 (.int .i64 (ndK l k).up)).set 4 (.int .i64 (ixI (wayU (upF l) k) (ndK l k).up))).congr (g := r5 (.int .i64 (mkK (ndK l k))) (.string (mkS (ndK l k))) (.slice p9 n9 c9) (.int .i64 (ndK l k).up) (.int .i64 (ixI (wayU (upF l) k) (ndK l k).up))) (fun i hi => by have h5 : i = 0 ∨ i = 1 ∨ i = 2 ∨ i = 3 ∨ i = 4 := (by omega); rcases h5 with rfl | rfl | rfl | rfl | rfl <;> rfl)
              refine hK.out _ _ B9 (fun hHeld => ?_)
              clear hK K
              try simp only [Act.put, zA, zB, zC]
              refine wpAnyH_done (by kernel_rfl) ?_ _
              exact ⟨rfl, V.heap.size, XL.out, rfl, HWD.out.trans (B9.mono (by have := SZ.out; omega)), R9⟩
      · intro ex a' w' hR
        obtain ⟨rfl, x, hx, rfl, hb, hrow⟩ := hR
        have HT2 := Hid.mk' (HT1.out.below hb)
        have HX := Hid.mk' hrow
        have HL : Hid ((l.length : Int) + nssz l ≤ 1048576) := Hid.mk' hl
        have KF := faultNext_any W0 (w.heap.size + 1) (w.heap.size + 1 + 1) l pa ca k vn (.slice (some ⟨bw, 0, none⟩) (wayU (upF l) k).length cw) (pa k) (ca k) w' HT2.out hlt hle HZ.out (AA1.out.below hb) hl
        rw [show mkV (ndK l k) (.slice (pa k) (ndK l k).at_.length (ca k)) = .slice p9 n9 c9 from HV.out] at KF
        have KF := Hid.mk' KF
        obtain ⟨s0, s1, s2, s3, s4, s5⟩ := cells5 hrow
        have RR := Hid.mk' (HR0.out.of_block (HT2.out.bl.block _ (by omega)))
        clear hb hrow KM KI IA RN HN1 r4_ t2 HWD HT1 AA1 bl0 hl
        by_cases h0 : oneF l k = 0
        · rw [h0] at KF
          have hd := oneF_dep h0
          have ei : ixI (wayU (upF l) k) (ndK l k).up = (depU (upF l) k : Int) := by unfold ixI; exact if_pos hd
          have H0 := Hid.mk' h0
          have KP : Hid (∀ w', TT W0 (w.heap.size + 1) (w.heap.size + 1 + 1) l pa ca k vn (.slice (some ⟨bw, 0, none⟩) (wayU (upF l) k).length cw) w' → Calls Try.prog 42 #[.pointer (some ⟨w.heap.size + 1 + 1, 0, none⟩), .agg #[.int .i64 (mkK (ndK l k)), .string (mkS (ndK l k)), .slice p9 n9 c9, .int .i64 (ndK l k).up, .int .i64 (ixI (wayU (upF l) k) (ndK l k).up)]] w' fun e w'' => (∃ v, e = .returned v) ∧ ∃ vn' vw', TT W0 (w.heap.size + 1) (w.heap.size + 1 + 1) l pa ca (k + 1) vn' vw' w'') := fun w' ht => by
            have := put_any W0 (w.heap.size + 1) (w.heap.size + 1 + 1) l pa ca k vn (.slice (some ⟨bw, 0, none⟩) (wayU (upF l) k).length cw) w' ht (by omega) hd gle
            rw [HV.out] at this
            rw [ei]
            exact this
          clear h0 ei hd
          generalize ixI (wayU (upF l) k) (ndK l k).up = dI at *
          go_wp2_with fail
          refine KF.out.mono ?_
          rintro e w2 ⟨rfl, hb2⟩
          have HT3 := Hid.mk' (HT2.out.below hb2)
          obtain ⟨v0, v1, v2, v3, v4, v5⟩ := cells5 (rowB HX.out hb2)
          clear hb2 KF HT2 s0 s1 s2 s3 s4 s5
          go_wp2_with fail
          refine (KP.out _ HT3.out).mono ?_
          rintro e w3 ⟨⟨vv, rfl⟩, vn', vw', hT'⟩
          have HT4 := Hid.mk' hT'
          clear hT' KP HT3
          go_wp2
          go_roundw
          case rel => exact ⟨k + 1, by omega, by go_num, fun j hj => by
            by_cases h : j = k
            · subst h; exact H0.out
            · exact HZ.out j (by omega), vn', vw', HT4.out⟩
          case measure => simp [intOf]; omega
        · have E : Hid (treeF l = oneF l k) := Hid.mk' (treeF_hit (by omega) hlt HZ.out rfl h0)
          generalize hf : oneF l k = f at *
          go_wp2_with fail
          refine KF.out.mono ?_
          rintro e w2 ⟨rfl, hb2⟩
          have HB2 : Hid (Below w.heap.size w w2) := Hid.mk' ((HB0.out.trans (HT2.out.bl.mono (by omega))).trans (hb2.mono (by have := HT2.out.sz; omega)))
          have RS := rowB RR.out hb2
          obtain ⟨v0, v1, v2⟩ := cells2 RS
          have g0 := RS.frozen 0
          have g1 := RS.frozen 1
          clear hb2 KF RS HT2
          go_wp2
          refine bodyPost_ret (v := .tuple #[.agg #[.slice none 0 0, .slice none 0 0], .int .i64 f]) (by simp [results, Try.results24, go_sem, *]) rfl ?_
          refine .inl ⟨by rw [E.out]; exact h0, by rw [E.out], ?_⟩
          exact (HB2.out.setCell (p := ⟨w.heap.size, 0, none⟩) (Nat.le_refl _) _).setCell (p := ⟨w.heap.size, 1, none⟩) (Nat.le_refl _) _
    · have ci : ¬ (k : Int) < (l.length : Int) := by omega
      have e : k = l.length := by omega
      subst e
      have E : Hid (treeF l = 0) := Hid.mk' (treeF_none (by omega) HZ.out)
      obtain ⟨an, cn, ev, _⟩ := own_len HT.out.on
      subst ev
      obtain ⟨aw, cw, ev, _⟩ := own_len HT.out.ow
      subst ev
      obtain ⟨b0, b1, b2⟩ := cells2 HT.out.box
      have RS := HR0.out.of_block (HT.out.bl.block _ (by omega))
      obtain ⟨v0, v1, v2⟩ := cells2 RS
      have g0 := RS.frozen 0
      have g1 := RS.frozen 1
      have F1 := Hid.mk' (HT.out.fin (u := .slice an l.length cn) (u' := .slice aw (wayU (upF l) l.length).length cw) HB0.out)
      clear RS
      go_wp2
      refine bodyPost_ret (v := .tuple #[.agg #[.slice an l.length cn, .slice aw (wayU (upF l) l.length).length cw], .int .i64 0]) (by simp [results, Try.results24, go_sem, *]) rfl ?_
      exact .inr ⟨E.out, pa, ca, _, _, _, rfl, F1.out⟩

end Go.Proofs.Ytlaeomnacgjcgaa
