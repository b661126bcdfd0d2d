/- Walks: a table without a fault, drawn by edits: the loop. -/
import Derived.Test.YtahkneghmgmnbaaYb
namespace Go.Proofs.Ytahkneghmgmnbaa
open Go.RowKit
set_option linter.unusedVariables false

set_option maxRecDepth 100000 in
set_option maxHeartbeats 8000000 in
theorem l1Draw_any (b k : Nat) (l : List Int) (w : World) (h : Src b l k w) (hk : k ≤ 5000) (hl : (l.length : Int) ≤ 1048576) :
    Calls Try.prog 59 #[.pointer (some ⟨b, 0, none⟩)] w fun e w' => ∃ s1 s2 s3 t k', e = .returned (.agg #[s1, s2, s3]) ∧ Good t ∧ k' ≤ k + 100 ∧ OT w.heap.size w'.heap.size w' s1 s2 s3 t ∧ Src b l k' w' ∧ KeptIn b (b + 1) w w' := by
  have hbw := h.lt
  have N0 := below_new w (.cells #[.slice none 0 0, .slice none 0 0, .slice none 0 0] 26)
  have R0 := Hid.mk' (row3 w 26 (.slice none 0 0) (.slice none 0 0) (.slice none 0 0))
  have K0 := Hid.mk' (l1Marked_any b k 6 l _ (h.below N0) (by omega) (by decide) (by decide) hl)
  have A0 : Hid (KeptIn b (b + 1) w (w.alloc (.cells #[.slice none 0 0, .slice none 0 0, .slice none 0 0] 26))) := (KeptIn.refl _ _ _).alloc _
  have z0 : (w.alloc (.cells #[.slice none 0 0, .slice none 0 0, .slice none 0 0] 26)).heap.size = w.heap.size + 1 := by simp
  clear h N0
  generalize hW0 : w.alloc (.cells #[.slice none 0 0, .slice none 0 0, .slice none 0 0] 26) = W0 at *
  go_enter Try.func59, Try.ntmps59
  go_wp2_with fail
  clear hW0
  refine K0.out.mono ?_
  rintro e w1 ⟨v, out, k1, rfl, ol, hk1, hDr⟩
  obtain ⟨pv_, qv_, rfl⟩ := own_form hDr.own
  have B1 : Hid (BAt w1 pv_ out) := by
    obtain ⟨a', c', e, hb⟩ := (OB.of_own hDr.own).1.len
    cases e
    exact hb
  have D1 := Hid.mk' hDr
  clear K0 hDr
  go_wp2_with fail
  refine (l1New_any pv_ qv_ out w1 B1.out (by omega)).mono ?_
  rintro e w2 ⟨s1, s2, s3, rfl, ot2, hb2⟩
  have G0 := Hid.mk' (good_new (l := out) D1.out.u8 (by omega))
  have y1 := D1.out.kept.size
  have y2 := hb2.size
  have N2 := below_new w2 (.cells #[s1, s2, s3] 26)
  have S2 : Hid (DS w b w.heap.size w2.heap.size l k1 s1 s2 s3 (newT out) (w2.alloc (.cells #[s1, s2, s3] 26))) :=
    ⟨Nat.le_refl _, by omega, row3 w2 _ s1 s2 s3, rowB (rowB (rowK R0.out D1.out.kept (.inr (by omega))) hb2) N2, ((ot2.below N2).mono (by omega) (by simp)), ot2.off (.inr (Nat.le_refl _)), (D1.out.src.below hb2).below N2, ((A0.out.trans D1.out.kept).trans (KeptIn.of_below hb2)).trans (KeptIn.of_below N2)⟩
  obtain ⟨p1, q1, p2, q2, p3, q3, rfl, rfl, rfl⟩ := ot2.forms
  clear ot2 hb2 N2 R0 A0 D1 B1
  generalize hT : newT out = t0 at *
  clear hT
  generalize hW2 : w2.alloc (.cells #[.slice p1 t0.base.length q1, .slice p2 t0.more.length q2, .slice p3 t0.pcs.length q3] 26) = W2 at *
  go_wp2_with fail
  clear hW2
  refine (l1Next_any b k1 l 5 W2 S2.out.src (by omega) (by decide) (by decide) hl).mono ?_
  rintro e w3 ⟨c, rfl, c0, c1, hS3, hK3⟩
  have S3 := Hid.mk' (S2.out.next hbw hS3 hK3)
  clear S2 hS3 hK3
  go_wp2
  go_loopw [4] (fun i wr => ∃ (m k' : Nat) (s1 s2 s3 : Value) (t : TB), m ≤ 4 ∧ i = .int .i64 m ∧ k' + 12 * m ≤ k + 60 ∧ Good t ∧ DS w b w.heap.size w2.heap.size l k' s1 s2 s3 t wr) (fun i _ => (intOf i).toNat)
  case atStart => exact ⟨c.toNat, k1 + 1, _, _, _, t0, by omega, by rw [Int.toNat_of_nonneg c0], by omega, G0.out, S3.out⟩
  case round =>
    obtain ⟨m, k', s1, s2, s3, t, hm, rfl, hk', hG, hD⟩ := hrel
    by_cases cm : 0 < m
    · have ci : (0 : Int) < (m : Int) := by omega
      have D := Hid.mk' (hD.below (Below.refl _ _).drew)
      have GG := Hid.mk' hG
      have tot0 := total_nonneg _ (right_of_fault hG.fz)
      have tot1 : total t.pcs ≤ 240 := (fault_zero hG.fz).2.2.2.2
      obtain ⟨p1, q1, p2, q2, p3, q3, rfl, rfl, rfl⟩ := hD.ot.forms
      obtain ⟨n0, n1, n2, n3⟩ := cells3 hD.box
      have KS : Hid (∀ (kk : Nat) (W : World), DS w b w.heap.size w2.heap.size l kk (.slice p1 t.base.length q1) (.slice p2 t.more.length q2) (.slice p3 t.pcs.length q3) t W → Calls Try.prog 34 #[.pointer (some ⟨w2.heap.size, 0, none⟩)] W fun e w' => e = .returned (.int .i64 (total t.pcs)) ∧ w' = W) := fun kk W hW => by
        obtain ⟨a', c', e, hb⟩ := hW.ot.o3.len
        cases e
        exact l1Size_any w2.heap.size p3 q3 t.pcs W (cells3 hW.box).2.2.1 hb (fault_small hG.fz)
      have gl := good_len hG
      clear hD hG
      generalize total t.pcs = tot at *
      have KN : Hid (∀ W : World, Src b l k' W → Calls Try.prog 31 #[.pointer (some ⟨b, 0, none⟩), .int .i64 (IntKind.i64.wrap (tot + 1))] W fun e w' => ∃ v : Int, e = .returned (.int .i64 v) ∧ 0 ≤ v ∧ v < tot + 1 ∧ Src b l (k' + 1) w' ∧ KeptIn b (b + 1) W w') := fun W hS => by
        have hw : IntKind.i64.wrap (tot + 1) = tot + 1 := by rw [IntKind.wrap_i64]; omega
        rw [hw]
        exact l1Next_any b k' l (tot + 1) W hS (by omega) (by omega) (by omega) hl
      have KM : Hid (∀ W : World, Src b l (k' + 1) W → Calls Try.prog 29 #[.pointer (some ⟨b, 0, none⟩), .int .i64 3] W fun e w' => ∃ v out k2, e = .returned v ∧ out.length ≤ 18 * 3 ∧ k2 ≤ k' + 1 + 3 ∧ Drawn W b l k2 v out w') := fun W hS => l1Marked_any b (k' + 1) 3 l W hS (by omega) (by decide) (by decide) hl
      have KI : Hid (∀ (W : World) (x : Int) (pd : Option Addr) (qd : Nat) (od : List Int), TAtC W (.agg #[.slice p1 t.base.length q1, .slice p2 t.more.length q2, .slice p3 t.pcs.length q3]) t → 0 ≤ x → x < tot + 1 → BAt W pd od → od.length ≤ 18 * 3 → Calls Try.prog 16 #[.agg #[.slice p1 t.base.length q1, .slice p2 t.more.length q2, .slice p3 t.pcs.length q3], .int .i64 x, .slice pd od.length qd] W fun e w' => ∃ s1 s2 s3, e = .returned (.agg #[.int .i64 (insCode t x od), s1, s2, s3]) ∧ OT W.heap.size w'.heap.size w' s1 s2 s3 (insT t x od) ∧ Below W.heap.size W w') := fun W x pd qd od ht h0 h1 hb ho => specIns_any _ t x pd qd od W ht (by omega) (by omega) hb gl (by omega)
      go_wp2
      go_region_held3 (fun w' => w'.cell? ⟨w2.heap.size, 0, none⟩ = some (.slice p1 t.base.length q1) ∧ w'.cell? ⟨w2.heap.size, 1, none⟩ = some (.slice p2 t.more.length q2) ∧ w'.cell? ⟨w2.heap.size, 2, none⟩ = some (.slice p3 t.pcs.length q3)) (simp [*, go_sem, World.cell?_alloc_some, World.cell?_setCell_far])
        (first | (go_at_call 34; refine (KS.out _ _ D.out).mono ?_; rintro e u ⟨rfl, rfl⟩; skip) | (go_at_call 31; refine (KN.out _ D.out.src).mono ?_; rintro e u1 ⟨x, rfl, x0, x1, hS, hK⟩; have D := Hid.mk' (D.out.next hbw hS hK); obtain ⟨m0, m1, m2, m3⟩ := cells3 D.out.box; (first | (have RB := Hid.mk' (RB.out.next hK); obtain ⟨b0, b1, b2, b3, b4, b5, b6, b7, b8, b9, b10⟩ := RB.out.facts) | skip); clear hS hK) | (go_at_call 29; refine (KM.out _ D.out.src).mono ?_; rintro e u2 ⟨vv, od, k2, rfl, ol2, hk2, hDr⟩; obtain ⟨pd, qd, rfl⟩ := own_form hDr.own; have D := Hid.mk' (D.out.next hbw hDr.src hDr.kept); obtain ⟨o0, o1, o2, o3⟩ := cells3 D.out.box; have DR := Hid.mk' (own_bat hDr.own); have DU := Hid.mk' hDr.u8; (first | (have RB := Hid.mk' (RB.out.next hDr.kept); obtain ⟨b0, b1, b2, b3, b4, b5, b6, b7, b8, b9, b10⟩ := RB.out.facts) | skip); clear hDr) | (go_at_call 16; refine (KI.out _ x pd qd od D.out.ot.atC x0 x1 DR.out ol2).mono ?_; rintro e u3 ⟨t1, t2, t3, rfl, ot3, hb3⟩; obtain ⟨f1, e1, f2, e2, f3, e3, rfl, rfl, rfl⟩ := ot3.forms; have O3 := Hid.mk' (D.out.fresh ot3); (first | (have OJ := Hid.mk' (RB.out.fresh ot3); have RB := Hid.mk' (RB.out.below hb3); obtain ⟨b0, b1, b2, b3, b4, b5, b6, b7, b8, b9, b10⟩ := RB.out.facts) | skip); have D := Hid.mk' (D.out.below hb3); obtain ⟨r0, r1, r2, r3_⟩ := cells3 D.out.box; have y3 := hb3.size; have ne3 : ¬ w2.heap.size = u3.heap.size := (by omega); have ne4 : ¬ u3.heap.size = w2.heap.size := (by omega); clear hb3 ot3) | (go_at_call 34; have RB := Hid.mk' (D.out.rs hbw wr.heap.size rfl (.int .i64 0) (.slice none 0 0) (.slice none 0 0) (.slice none 0 0)); have D := Hid.mk' (D.out.below (below_new _ (.cells #[.int .i64 0, .slice none 0 0, .slice none 0 0, .slice none 0 0] 30))); refine (KS.out _ _ D.out).mono ?_; rintro e u ⟨rfl, rfl⟩; obtain ⟨b0, b1, b2, b3, b4, b5, b6, b7, b8, b9, b10⟩ := RB.out.facts) | (go_at_call 31; have RB := Hid.mk' (D.out.rs hbw wr.heap.size rfl (.int .i64 0) (.slice none 0 0) (.slice none 0 0) (.slice none 0 0)); have D := Hid.mk' (D.out.below (below_new _ (.cells #[.int .i64 0, .slice none 0 0, .slice none 0 0, .slice none 0 0] 30))); refine (KN.out _ D.out.src).mono ?_; rintro e u1 ⟨x, rfl, x0, x1, hS, hK⟩; have D := Hid.mk' (D.out.next hbw hS hK); obtain ⟨m0, m1, m2, m3⟩ := cells3 D.out.box; (first | (have RB := Hid.mk' (RB.out.next hK); obtain ⟨b0, b1, b2, b3, b4, b5, b6, b7, b8, b9, b10⟩ := RB.out.facts) | skip); clear hS hK) | (go_at_call 29; have RB := Hid.mk' (D.out.rs hbw _ rfl (.int .i64 0) (.slice none 0 0) (.slice none 0 0) (.slice none 0 0)); have D := Hid.mk' (D.out.below (below_new _ (.cells #[.int .i64 0, .slice none 0 0, .slice none 0 0, .slice none 0 0] 30))); refine (KM.out _ D.out.src).mono ?_; rintro e u2 ⟨vv, od, k2, rfl, ol2, hk2, hDr⟩; obtain ⟨pd, qd, rfl⟩ := own_form hDr.own; have D := Hid.mk' (D.out.next hbw hDr.src hDr.kept); obtain ⟨o0, o1, o2, o3⟩ := cells3 D.out.box; have DR := Hid.mk' (own_bat hDr.own); have DU := Hid.mk' hDr.u8; (first | (have RB := Hid.mk' (RB.out.next hDr.kept); obtain ⟨b0, b1, b2, b3, b4, b5, b6, b7, b8, b9, b10⟩ := RB.out.facts) | skip); clear hDr) | (go_at_call 16; have RB := Hid.mk' (D.out.rs hbw _ rfl (.int .i64 0) (.slice none 0 0) (.slice none 0 0) (.slice none 0 0)); have D := Hid.mk' (D.out.below (below_new _ (.cells #[.int .i64 0, .slice none 0 0, .slice none 0 0, .slice none 0 0] 30))); have DR := Hid.mk' (DR.out.below (below_new _ (.cells #[.int .i64 0, .slice none 0 0, .slice none 0 0, .slice none 0 0] 30))); refine (KI.out _ x pd qd od D.out.ot.atC x0 x1 DR.out ol2).mono ?_; rintro e u3 ⟨t1, t2, t3, rfl, ot3, hb3⟩; obtain ⟨f1, e1, f2, e2, f3, e3, rfl, rfl, rfl⟩ := ot3.forms; have O3 := Hid.mk' (D.out.fresh ot3); (first | (have OJ := Hid.mk' (RB.out.fresh ot3); have RB := Hid.mk' (RB.out.below hb3); obtain ⟨b0, b1, b2, b3, b4, b5, b6, b7, b8, b9, b10⟩ := RB.out.facts) | skip); have D := Hid.mk' (D.out.below hb3); obtain ⟨r0, r1, r2, r3_⟩ := cells3 D.out.box; have y3 := hb3.size; have ne3 : ¬ w2.heap.size = u3.heap.size := (by omega); have ne4 : ¬ u3.heap.size = w2.heap.size := (by omega); clear hb3 ot3))
      all_goals have GI := Hid.mk' (good_ins (x := x) GG.out DU.out)
      all_goals first | (have E := Hid.mk' (ES.put D.out hbw RB.out O3.out OJ.out GI.out); revert E; generalize hV : World.setCell _ _ _ = V) | (have E := Hid.mk' (ES.new D.out hbw O3.out GI.out); revert E; generalize hV : World.alloc _ _ = V)
      all_goals intro E
      all_goals clear hV KN KM KI D O3 DR DU GI
      all_goals generalize insCode t x od = cc at *
      all_goals generalize insT t x od = t' at *
      all_goals
        have KC : Hid (∀ W : World, Src b l k2 W → Calls Try.prog 30 #[.pointer (some ⟨b, 0, none⟩), .int .i64 3] W fun e w' => ∃ v : Bool, e = .returned (.bool v) ∧ Src b l (k2 + 1) w' ∧ KeptIn b (b + 1) W w') := fun W hS => l1Chance_any b k2 l 3 W hS (by omega) (by decide) (by decide) hl
        go_wp2_with fail
        refine (KC.out _ E.out.d.src).mono ?_
        rintro e u4 ⟨ch, rfl, hS4, hK4⟩
        have E4 := Hid.mk' (E.out.next hbw hS4 hK4)
        clear E hS4 hK4 KC
        cases ch with
        | false =>
          obtain ⟨a0, a1, a2, a3⟩ := cells3 E4.out.d.box
          have ga0 := E4.out.d.box.frozen 0
          have ga1 := E4.out.d.box.frozen 1
          have ga2 := E4.out.d.box.frozen 2
          obtain ⟨b0, b1, b2, b3, b4, b5, b6, b7, b8, b9, b10⟩ := E4.out.r.facts
          by_cases hc : cc = 0
          · have hc2 : (cc == 0) = true := by simp [hc]
            go_wp2
            exact ⟨⟨m - 1, k2 + 1, _, _, _, t', by omega, by rw [show ((m - 1 : Nat) : Int) = (m : Int) - 1 by omega], by omega, E4.out.gd hc, E4.out.take hbw⟩, by simp [intOf]; omega⟩
          · have hc2 : (cc == 0) = false := by simp [hc]
            go_wp2
            exact ⟨⟨m - 1, k2 + 1, _, _, _, t, by omega, by rw [show ((m - 1 : Nat) : Int) = (m : Int) - 1 by omega], by omega, GG.out, E4.out.d⟩, by simp [intOf]; omega⟩
        | true =>
          have KN : Hid (∀ W : World, Src b l (k2 + 1) W → Calls Try.prog 31 #[.pointer (some ⟨b, 0, none⟩), .int .i64 (IntKind.i64.wrap (tot + 1))] W fun e w' => ∃ v : Int, e = .returned (.int .i64 v) ∧ 0 ≤ v ∧ v < tot + 1 ∧ Src b l (k2 + 1 + 1) w' ∧ KeptIn b (b + 1) W w') := fun W hS => by
            have hw : IntKind.i64.wrap (tot + 1) = tot + 1 := by rw [IntKind.wrap_i64]; omega
            rw [hw]
            exact l1Next_any b (k2 + 1) l (tot + 1) W hS (by omega) (by omega) (by omega) hl
          have K4 : Hid (∀ W : World, Src b l (k2 + 1 + 1) W → Calls Try.prog 31 #[.pointer (some ⟨b, 0, none⟩), .int .i64 4] W fun e w' => ∃ v : Int, e = .returned (.int .i64 v) ∧ 0 ≤ v ∧ v < 4 ∧ Src b l (k2 + 1 + 1 + 1) w' ∧ KeptIn b (b + 1) W w') := fun W hS => l1Next_any b (k2 + 1 + 1) l 4 W hS (by omega) (by decide) (by decide) hl
          have KD : Hid (∀ (W : World) (y n : Int), TAtC W (.agg #[.slice p1 t.base.length q1, .slice p2 t.more.length q2, .slice p3 t.pcs.length q3]) t → 0 ≤ y → y < tot + 1 → 0 ≤ n → n < 4 → Calls Try.prog 23 #[.agg #[.slice p1 t.base.length q1, .slice p2 t.more.length q2, .slice p3 t.pcs.length q3], .int .i64 y, .int .i64 n] W fun e w' => ∃ s1 s2 s3, e = .returned (.agg #[.int .i64 (delCode t y n), s1, s2, s3]) ∧ OT W.heap.size w'.heap.size w' s1 s2 s3 (delT t y n) ∧ Below W.heap.size W w') := fun W y n ht h0 h1 h2 h3 => specDel_any _ t y n W ht (by omega) (by omega) (by omega) (by omega) gl
          have E := Hid.mk' (E4.out.below (Below.refl _ _).drew)
          obtain ⟨a0, a1, a2, a3⟩ := cells3 E4.out.d.box
          obtain ⟨b0, b1, b2, b3, b4, b5, b6, b7, b8, b9, b10⟩ := E4.out.r.facts
          clear E4
          go_wp2
          go_region_held3 (fun w' => w'.cell? ⟨w2.heap.size, 0, none⟩ = some (.slice p1 t.base.length q1) ∧ w'.cell? ⟨w2.heap.size, 1, none⟩ = some (.slice p2 t.more.length q2) ∧ w'.cell? ⟨w2.heap.size, 2, none⟩ = some (.slice p3 t.pcs.length q3)) (simp [*, go_sem, World.cell?_setCell_far])
            (first | (go_at_call 34; refine (KS.out _ _ E.out.d).mono ?_; rintro e u ⟨rfl, rfl⟩) | (go_at_call 31; have yy := y0; refine (K4.out _ E.out.d.src).mono ?_; rintro e u6 ⟨n, rfl, n0, n1, hS, hK⟩; have E := Hid.mk' (E.out.next hbw hS hK); obtain ⟨b0, b1, b2, b3, b4, b5, b6, b7, b8, b9, b10⟩ := E.out.r.facts; obtain ⟨m0, m1, m2, m3⟩ := cells3 E.out.d.box; clear hS hK) | (go_at_call 31; refine (KN.out _ E.out.d.src).mono ?_; rintro e u5 ⟨y, rfl, y0, y1_, hS, hK⟩; have E := Hid.mk' (E.out.next hbw hS hK); obtain ⟨b0, b1, b2, b3, b4, b5, b6, b7, b8, b9, b10⟩ := E.out.r.facts; obtain ⟨m0, m1, m2, m3⟩ := cells3 E.out.d.box; clear hS hK) | (go_at_call 23; refine (KD.out _ y n E.out.d.ot.atC y0 y1_ n0 n1).mono ?_; rintro e u7 ⟨t1, t2, t3, rfl, ot3, hb3⟩; obtain ⟨v1, z1, v2, z2, v3, z3, rfl, rfl, rfl⟩ := ot3.forms; have O7 := Hid.mk' (E.out.d.fresh ot3); have OJ7 := Hid.mk' (E.out.r.fresh ot3); have E := Hid.mk' (E.out.below hb3); obtain ⟨b0, b1, b2, b3, b4, b5, b6, b7, b8, b9, b10⟩ := E.out.r.facts; obtain ⟨m0, m1, m2, m3⟩ := cells3 E.out.d.box; clear hb3 ot3))
          have E7 := Hid.mk' (ES.put E.out.d hbw E.out.r O7.out OJ7.out (good_del (x := y) (n := n) GG.out))
          revert E7
          generalize hV7 : World.setCell _ _ _ = V7
          intro E7
          clear hV7 KN K4 KD E O7 OJ7
          generalize delCode t y n = cd at *
          generalize delT t y n = t7 at *
          obtain ⟨a0, a1, a2, a3⟩ := cells3 E7.out.d.box
          have ga0 := E7.out.d.box.frozen 0
          have ga1 := E7.out.d.box.frozen 1
          have ga2 := E7.out.d.box.frozen 2
          obtain ⟨b0, b1, b2, b3, b4, b5, b6, b7, b8, b9, b10⟩ := E7.out.r.facts
          by_cases hc : cd = 0
          · have hc2 : (cd == 0) = true := by simp [hc]
            go_wp2
            exact ⟨⟨m - 1, k2 + 1 + 1 + 1, _, _, _, t7, by omega, by rw [show ((m - 1 : Nat) : Int) = (m : Int) - 1 by omega], by omega, E7.out.gd hc, E7.out.take hbw⟩, by simp [intOf]; omega⟩
          · have hc2 : (cd == 0) = false := by simp [hc]
            go_wp2
            exact ⟨⟨m - 1, k2 + 1 + 1 + 1, _, _, _, t, by omega, by rw [show ((m - 1 : Nat) : Int) = (m : Int) - 1 by omega], by omega, GG.out, E7.out.d⟩, by simp [intOf]; omega⟩
    · have hm0 : m = 0 := by omega
      subst hm0
      obtain ⟨p1, q1, p2, q2, p3, q3, rfl, rfl, rfl⟩ := hD.ot.forms
      obtain ⟨a0, a1, a2, a3⟩ := cells3 hD.box
      obtain ⟨c0_, c1_, c2_, c3_⟩ := cells3 hD.res
      have ga0 := hD.res.frozen 0
      have ga1 := hD.res.frozen 1
      have ga2 := hD.res.frozen 2
      have qg := hD.qg
      have HD := Hid.mk' hD
      have GG := Hid.mk' hG
      clear hD hG
      go_wp2
      have ne1 : ¬ w.heap.size = w2.heap.size := by omega
      refine bodyPost_ret (v := .agg #[.slice p1 t.base.length q1, .slice p2 t.more.length q2, .slice p3 t.pcs.length q3]) (by simp [results, Try.results59, go_sem, *]) rfl ?_
      obtain ⟨x1, x2, x3⟩ := HD.out.done hbw (.slice p1 t.base.length q1) (.slice p2 t.more.length q2) (.slice p3 t.pcs.length q3)
      exact ⟨_, _, _, t, k', rfl, GG.out, by omega, x1, x2, x3⟩

end Go.Proofs.Ytahkneghmgmnbaa
