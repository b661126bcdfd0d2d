/- Walks: a table drawn, perhaps bent. -/
import Derived.Test.YtahkneghmgmnbaaYd
import Derived.Deep.RegionLaw
namespace Go.Proofs.Ytahkneghmgmnbaa
open Go.RowKit
set_option linter.unusedVariables false

set_option maxRecDepth 100000 in
set_option maxHeartbeats 60000000 in
theorem l1Bent_any (b k : Nat) (l : List Int) (w : World) (h : Src b l k w) (hk : k ≤ 4000) (hl : (l.length : Int) ≤ 1048576) :
    Calls Try.prog 28 #[.pointer (some ⟨b, 0, none⟩)] w fun e w' => ∃ s1 s2 s3 t k', e = .returned (.agg #[s1, s2, s3]) ∧ Bent t ∧ k' ≤ k + 110 ∧ OT w.heap.size w'.heap.size w' s1 s2 s3 t ∧ Src b l k' w' ∧ KeptIn b (b + 1) w w' := by
  have hbw := h.lt
  have N0 := below_new w (.cells #[.slice none 0 0, .slice none 0 0, .slice none 0 0] 26)
  have R0 := Hid.mk' (row3 w 26 (.slice none 0 0) (.slice none 0 0) (.slice none 0 0))
  have HS := Hid.mk' (h.below N0)
  have A0 : Hid (KeptIn b (b + 1) w (w.alloc (.cells #[.slice none 0 0, .slice none 0 0, .slice none 0 0] 26))) := (KeptIn.refl _ _ _).alloc _
  have z0 : (w.alloc (.cells #[.slice none 0 0, .slice none 0 0, .slice none 0 0] 26)).heap.size = w.heap.size + 1 := by simp
  clear h N0
  generalize hW0 : w.alloc (.cells #[.slice none 0 0, .slice none 0 0, .slice none 0 0] 26) = W0 at *
  go_enter Try.func28, Try.ntmps28
  go_wp2_with fail
  clear hW0
  refine (l1Draw_any b k l _ HS.out (by omega) hl).mono ?_
  rintro e w1 ⟨s1, s2, s3, t, k1, rfl, hG, hk1, ot1, hS1, hK1⟩
  obtain ⟨p1, q1, p2, q2, p3, q3, rfl, rfl, rfl⟩ := ot1.forms
  have y1 := hK1.size
  have N2 := below_new w1 (.cells #[.slice p1 t.base.length q1, .slice p2 t.more.length q2, .slice p3 t.pcs.length q3] 26)
  have S2 : Hid (DS w b w.heap.size w1.heap.size l k1 _ _ _ t (w1.alloc (.cells #[.slice p1 t.base.length q1, .slice p2 t.more.length q2, .slice p3 t.pcs.length q3] 26))) :=
    ⟨Nat.le_refl _, by omega, row3 w1 _ _ _ _, rowB (rowK R0.out hK1 (.inr (by omega))) N2, ((ot1.below N2).mono (by omega) (by simp)), ot1.off (.inr (Nat.le_refl _)), hS1.below N2, (A0.out.trans hK1).trans (KeptIn.of_below N2)⟩
  have GG := Hid.mk' hG
  clear ot1 hS1 hK1 hG HS A0 R0 N2
  generalize hW2 : w1.alloc (.cells #[.slice p1 t.base.length q1, .slice p2 t.more.length q2, .slice p3 t.pcs.length q3] 26) = W2 at *
  go_wp2_with fail
  clear hW2
  refine (l1Next_any b k1 l 14 W2 S2.out.src (by omega) (by decide) (by decide) hl).mono ?_
  rintro e w3 ⟨c, rfl, c0, c1, hS3, hK3⟩
  have HD := Hid.mk' (S2.out.next hbw hS3 hK3)
  clear S2 hS3 hK3
  have cases5 : c = 0 ∨ c = 1 ∨ c = 2 ∨ c = 3 ∨ 4 ≤ c := by omega
  rcases cases5 with rfl | rfl | rfl | rfl | c4
  · have KC : Hid (∀ W : World, Src b l (k1 + 1) W → Calls Try.prog 30 #[.pointer (some ⟨b, 0, none⟩), .int .i64 2] W fun e w' => ∃ v : Bool, e = .returned (.bool v) ∧ Src b l (k1 + 1 + 1) w' ∧ KeptIn b (b + 1) W w') := fun W hS => l1Chance_any b (k1 + 1) l 2 W hS (by omega) (by decide) (by decide) hl
    have KP1 : Hid (∀ (W : World) (g : Nat), Src b l (k1 + 1 + 1) W → IG b g [0, -1, 3] W → Calls Try.prog 43 #[.pointer (some ⟨b, 0, none⟩), .slice (some ⟨g, 0, none⟩) 3 3] W fun e w' => ∃ x : Int, e = .returned (.int .i64 x) ∧ x ≤ 3 ∧ Src b l (k1 + 1 + 1 + 1) w' ∧ KeptIn b (b + 1) W w') := fun W g hS hI => by
      refine (l1Pick_any b (k1 + 1 + 1) g 3 l [0, -1, 3] W hS hI.at_ (by have := hI.bg; omega) (by omega) (by decide) (by decide) hl).mono ?_
      rintro e w' ⟨i, hi, rfl, h1, h2⟩
      refine ⟨_, rfl, ?_, h1, h2⟩
      have h : i = 0 ∨ i = 1 ∨ i = 2 := by simp at hi; omega
      rcases h with rfl | rfl | rfl <;> simp
    have KP2 : Hid (∀ (W : World) (g : Nat), Src b l (k1 + 1 + 1 + 1) W → IG b g [1, 0, 300] W → Calls Try.prog 43 #[.pointer (some ⟨b, 0, none⟩), .slice (some ⟨g, 0, none⟩) 3 3] W fun e w' => ∃ x : Int, e = .returned (.int .i64 x) ∧ 0 ≤ x ∧ x ≤ 300 ∧ Src b l (k1 + 1 + 1 + 1 + 1) w' ∧ KeptIn b (b + 1) W w') := fun W g hS hI => by
      refine (l1Pick_any b (k1 + 1 + 1 + 1) g 3 l [1, 0, 300] W hS hI.at_ (by have := hI.bg; omega) (by omega) (by decide) (by decide) hl).mono ?_
      rintro e w' ⟨i, hi, rfl, h1, h2⟩
      have h : i = 0 ∨ i = 1 ∨ i = 2 := by simp at hi; omega
      refine ⟨_, rfl, ?_, ?_, h1, h2⟩ <;> (rcases h with rfl | rfl | rfl <;> simp)
    obtain ⟨a0, a1, a2, a3⟩ := cells3 HD.out.box
    have a4 := HD.out.box.frozen 2
    have D := HD
    have lp := GG.out.bent.lp
    have lp2 : t.pcs.length ≤ 40 := by have := (fault_zero GG.out.fz).2.2.1; omega
    have qg := HD.out.qg
    have y3 := HD.out.kept.size
    clear HD
    go_wp2_with fail
    go_region_law (first | (refine step_append_at rfl (.tmp 11) (.tmp 21) 24 rfl (w.heap.size + 1) 72 (.agg #[.bool false, .int .i64 0, .int .i64 0]) 3 24 Try.underlying24 Try.info72 rfl (by decide) (.slice p3 t.pcs.length q3) _ _ rfl (D.out.below (below_new _ (.cells #[.bool ad, .int .i64 fr, .int .i64 sz] 72))).own3 _ 1 _ (pcs [(⟨ad, fr, sz⟩ : PC)]) rfl (bcs3 _) (.inr ⟨_, rfl, one_piece' u3 72 (⟨ad, fr, sz⟩ : PC) _ rfl⟩) (pcs_one _) (by unfold maxLen; omega) (by omega) (by simp; omega) ?_; intro v4 u4 ho4 hg4 hat4; have D := Hid.mk' (D.out.below (below_new _ (.cells #[.bool ad, .int .i64 fr, .int .i64 sz] 72))); have HG := Hid.mk' hg4; have HA := Hid.mk' hat4; have HO := Hid.mk' ho4; obtain ⟨pv, qv, rfl⟩ := own_form ho4; obtain ⟨m0, m1, m2, m3⟩ := cells3 (D.out.box' HG.out); have m4 := (D.out.box' HG.out).frozen 2; clear ho4 hg4 hat4) | (go_simp; go_at_call 30; have D := Hid.mk' (D.out.below (Below.refl _ _).drew); (first | have I1 := Hid.mk' (I1.out.below (Below.refl _ _).drew) | skip); (first | have I2 := Hid.mk' (I2.out.below (Below.refl _ _).drew) | skip); with_reducible refine (KC.out _ D.out.src).mono ?_; rintro e u1 ⟨ad, rfl, hS, hK⟩; have D := Hid.mk' (D.out.next hbw hS hK); (first | have I1 := Hid.mk' (I1.out.next hK) | skip); (first | have I2 := Hid.mk' (I2.out.next hK) | skip); obtain ⟨m0, m1, m2, m3⟩ := cells3 D.out.box; have m4 := D.out.box.frozen 2; clear hS hK; go_wp2_with fail) | (go_simp; go_at_call 30; have I1 := Hid.mk' (D.out.ig1 w3.heap.size rfl); (first | have I2 := Hid.mk' (I2.out.below (below_new _ (.cells #[.int .i64 0, .int .i64 (-1), .int .i64 3] 2))) | skip); have D := Hid.mk' (D.out.below (below_new _ (.cells #[.int .i64 0, .int .i64 (-1), .int .i64 3] 2))); have D := Hid.mk' (D.out.below (Below.refl _ _).drew); (first | have I1 := Hid.mk' (I1.out.below (Below.refl _ _).drew) | skip); (first | have I2 := Hid.mk' (I2.out.below (Below.refl _ _).drew) | skip); with_reducible refine (KC.out _ D.out.src).mono ?_; rintro e u1 ⟨ad, rfl, hS, hK⟩; have D := Hid.mk' (D.out.next hbw hS hK); (first | have I1 := Hid.mk' (I1.out.next hK) | skip); (first | have I2 := Hid.mk' (I2.out.next hK) | skip); obtain ⟨m0, m1, m2, m3⟩ := cells3 D.out.box; have m4 := D.out.box.frozen 2; clear hS hK; go_wp2_with fail) | (go_simp; go_at_call 30; have I2 := Hid.mk' (D.out.ig2 w3.heap.size rfl); (first | have I1 := Hid.mk' (I1.out.below (below_new _ (.cells #[.int .i64 1, .int .i64 0, .int .i64 300] 2))) | skip); have D := Hid.mk' (D.out.below (below_new _ (.cells #[.int .i64 1, .int .i64 0, .int .i64 300] 2))); have D := Hid.mk' (D.out.below (Below.refl _ _).drew); (first | have I1 := Hid.mk' (I1.out.below (Below.refl _ _).drew) | skip); (first | have I2 := Hid.mk' (I2.out.below (Below.refl _ _).drew) | skip); with_reducible refine (KC.out _ D.out.src).mono ?_; rintro e u1 ⟨ad, rfl, hS, hK⟩; have D := Hid.mk' (D.out.next hbw hS hK); (first | have I1 := Hid.mk' (I1.out.next hK) | skip); (first | have I2 := Hid.mk' (I2.out.next hK) | skip); obtain ⟨m0, m1, m2, m3⟩ := cells3 D.out.box; have m4 := D.out.box.frozen 2; clear hS hK; go_wp2_with fail) | (go_simp; go_at_call 30; have I1 := Hid.mk' (D.out.ig1 w3.heap.size rfl); (first | have I2 := Hid.mk' (I2.out.below (below_new _ (.cells #[.int .i64 0, .int .i64 (-1), .int .i64 3] 2))) | skip); have D := Hid.mk' (D.out.below (below_new _ (.cells #[.int .i64 0, .int .i64 (-1), .int .i64 3] 2))); have I2 := Hid.mk' (D.out.ig2 (w3.heap.size + 1) (by simp)); (first | have I1 := Hid.mk' (I1.out.below (below_new _ (.cells #[.int .i64 1, .int .i64 0, .int .i64 300] 2))) | skip); have D := Hid.mk' (D.out.below (below_new _ (.cells #[.int .i64 1, .int .i64 0, .int .i64 300] 2))); have D := Hid.mk' (D.out.below (Below.refl _ _).drew); (first | have I1 := Hid.mk' (I1.out.below (Below.refl _ _).drew) | skip); (first | have I2 := Hid.mk' (I2.out.below (Below.refl _ _).drew) | skip); with_reducible refine (KC.out _ D.out.src).mono ?_; rintro e u1 ⟨ad, rfl, hS, hK⟩; have D := Hid.mk' (D.out.next hbw hS hK); (first | have I1 := Hid.mk' (I1.out.next hK) | skip); (first | have I2 := Hid.mk' (I2.out.next hK) | skip); obtain ⟨m0, m1, m2, m3⟩ := cells3 D.out.box; have m4 := D.out.box.frozen 2; clear hS hK; go_wp2_with fail) | (go_simp; go_at_call 30; have I2 := Hid.mk' (D.out.ig2 w3.heap.size rfl); (first | have I1 := Hid.mk' (I1.out.below (below_new _ (.cells #[.int .i64 1, .int .i64 0, .int .i64 300] 2))) | skip); have D := Hid.mk' (D.out.below (below_new _ (.cells #[.int .i64 1, .int .i64 0, .int .i64 300] 2))); have I1 := Hid.mk' (D.out.ig1 (w3.heap.size + 1) (by simp)); (first | have I2 := Hid.mk' (I2.out.below (below_new _ (.cells #[.int .i64 0, .int .i64 (-1), .int .i64 3] 2))) | skip); have D := Hid.mk' (D.out.below (below_new _ (.cells #[.int .i64 0, .int .i64 (-1), .int .i64 3] 2))); have D := Hid.mk' (D.out.below (Below.refl _ _).drew); (first | have I1 := Hid.mk' (I1.out.below (Below.refl _ _).drew) | skip); (first | have I2 := Hid.mk' (I2.out.below (Below.refl _ _).drew) | skip); with_reducible refine (KC.out _ D.out.src).mono ?_; rintro e u1 ⟨ad, rfl, hS, hK⟩; have D := Hid.mk' (D.out.next hbw hS hK); (first | have I1 := Hid.mk' (I1.out.next hK) | skip); (first | have I2 := Hid.mk' (I2.out.next hK) | skip); obtain ⟨m0, m1, m2, m3⟩ := cells3 D.out.box; have m4 := D.out.box.frozen 2; clear hS hK; go_wp2_with fail) | (go_simp; go_at_call 43; have hz := fz; with_reducible refine (KP2.out _ _ D.out.src I2.out).mono ?_; rintro e u3 ⟨sz, rfl, sz0, sz1, hS, hK⟩; have D := Hid.mk' (D.out.next hbw hS hK); (first | have I1 := Hid.mk' (I1.out.next hK) | skip); (first | have I2 := Hid.mk' (I2.out.next hK) | skip); obtain ⟨m0, m1, m2, m3⟩ := cells3 D.out.box; have m4 := D.out.box.frozen 2; clear hS hK; go_wp2_with fail) | (go_simp; go_at_call 43; have hz := fz; have I2 := Hid.mk' (D.out.ig2 u2.heap.size rfl); (first | have I1 := Hid.mk' (I1.out.below (below_new _ (.cells #[.int .i64 1, .int .i64 0, .int .i64 300] 2))) | skip); have D := Hid.mk' (D.out.below (below_new _ (.cells #[.int .i64 1, .int .i64 0, .int .i64 300] 2))); with_reducible refine (KP2.out _ _ D.out.src I2.out).mono ?_; rintro e u3 ⟨sz, rfl, sz0, sz1, hS, hK⟩; have D := Hid.mk' (D.out.next hbw hS hK); (first | have I1 := Hid.mk' (I1.out.next hK) | skip); (first | have I2 := Hid.mk' (I2.out.next hK) | skip); obtain ⟨m0, m1, m2, m3⟩ := cells3 D.out.box; have m4 := D.out.box.frozen 2; clear hS hK; go_wp2_with fail) | (go_simp; go_at_call 43; with_reducible refine (KP1.out _ _ D.out.src I1.out).mono ?_; rintro e u2 ⟨fr, rfl, fz, hS, hK⟩; have D := Hid.mk' (D.out.next hbw hS hK); (first | have I1 := Hid.mk' (I1.out.next hK) | skip); (first | have I2 := Hid.mk' (I2.out.next hK) | skip); obtain ⟨m0, m1, m2, m3⟩ := cells3 D.out.box; have m4 := D.out.box.frozen 2; clear hS hK; go_wp2_with fail) | (go_simp; go_at_call 43; have I1 := Hid.mk' (D.out.ig1 u1.heap.size rfl); (first | have I2 := Hid.mk' (I2.out.below (below_new _ (.cells #[.int .i64 0, .int .i64 (-1), .int .i64 3] 2))) | skip); have D := Hid.mk' (D.out.below (below_new _ (.cells #[.int .i64 0, .int .i64 (-1), .int .i64 3] 2))); with_reducible refine (KP1.out _ _ D.out.src I1.out).mono ?_; rintro e u2 ⟨fr, rfl, fz, hS, hK⟩; have D := Hid.mk' (D.out.next hbw hS hK); (first | have I1 := Hid.mk' (I1.out.next hK) | skip); (first | have I2 := Hid.mk' (I2.out.next hK) | skip); obtain ⟨m0, m1, m2, m3⟩ := cells3 D.out.box; have m4 := D.out.box.frozen 2; clear hS hK; go_wp2_with fail) | (go_simp; go_at_call 43; have I2 := Hid.mk' (D.out.ig2 u1.heap.size rfl); (first | have I1 := Hid.mk' (I1.out.below (below_new _ (.cells #[.int .i64 1, .int .i64 0, .int .i64 300] 2))) | skip); have D := Hid.mk' (D.out.below (below_new _ (.cells #[.int .i64 1, .int .i64 0, .int .i64 300] 2))); with_reducible refine (KP1.out _ _ D.out.src I1.out).mono ?_; rintro e u2 ⟨fr, rfl, fz, hS, hK⟩; have D := Hid.mk' (D.out.next hbw hS hK); (first | have I1 := Hid.mk' (I1.out.next hK) | skip); (first | have I2 := Hid.mk' (I2.out.next hK) | skip); obtain ⟨m0, m1, m2, m3⟩ := cells3 D.out.box; have m4 := D.out.box.frozen 2; clear hS hK; go_wp2_with fail) | (go_simp; go_at_call 43; have I1 := Hid.mk' (D.out.ig1 u1.heap.size rfl); (first | have I2 := Hid.mk' (I2.out.below (below_new _ (.cells #[.int .i64 0, .int .i64 (-1), .int .i64 3] 2))) | skip); have D := Hid.mk' (D.out.below (below_new _ (.cells #[.int .i64 0, .int .i64 (-1), .int .i64 3] 2))); have I2 := Hid.mk' (D.out.ig2 (u1.heap.size + 1) (by simp)); (first | have I1 := Hid.mk' (I1.out.below (below_new _ (.cells #[.int .i64 1, .int .i64 0, .int .i64 300] 2))) | skip); have D := Hid.mk' (D.out.below (below_new _ (.cells #[.int .i64 1, .int .i64 0, .int .i64 300] 2))); with_reducible refine (KP1.out _ _ D.out.src I1.out).mono ?_; rintro e u2 ⟨fr, rfl, fz, hS, hK⟩; have D := Hid.mk' (D.out.next hbw hS hK); (first | have I1 := Hid.mk' (I1.out.next hK) | skip); (first | have I2 := Hid.mk' (I2.out.next hK) | skip); obtain ⟨m0, m1, m2, m3⟩ := cells3 D.out.box; have m4 := D.out.box.frozen 2; clear hS hK; go_wp2_with fail) | (go_simp; go_at_call 43; have I2 := Hid.mk' (D.out.ig2 u1.heap.size rfl); (first | have I1 := Hid.mk' (I1.out.below (below_new _ (.cells #[.int .i64 1, .int .i64 0, .int .i64 300] 2))) | skip); have D := Hid.mk' (D.out.below (below_new _ (.cells #[.int .i64 1, .int .i64 0, .int .i64 300] 2))); have I1 := Hid.mk' (D.out.ig1 (u1.heap.size + 1) (by simp)); (first | have I2 := Hid.mk' (I2.out.below (below_new _ (.cells #[.int .i64 0, .int .i64 (-1), .int .i64 3] 2))) | skip); have D := Hid.mk' (D.out.below (below_new _ (.cells #[.int .i64 0, .int .i64 (-1), .int .i64 3] 2))); with_reducible refine (KP1.out _ _ D.out.src I1.out).mono ?_; rintro e u2 ⟨fr, rfl, fz, hS, hK⟩; have D := Hid.mk' (D.out.next hbw hS hK); (first | have I1 := Hid.mk' (I1.out.next hK) | skip); (first | have I2 := Hid.mk' (I2.out.next hK) | skip); obtain ⟨m0, m1, m2, m3⟩ := cells3 D.out.box; have m4 := D.out.box.frozen 2; clear hS hK; go_wp2_with fail))
    all_goals have H := Hid.mk' (D.out.app hbw HO.out HG.out HA.out)
    all_goals revert H
    all_goals generalize hV : World.setCell _ _ _ = V
    all_goals intro H
    all_goals clear hV D HG HA HO KC KP1 KP2
    all_goals
      have BB := Hid.mk' (GG.out.bent.app lp2 ad fr sz fz sz0 sz1)
      obtain ⟨a0, a1, a2, a3⟩ := cells3 H.out.box
      have fa0 := H.out.box.frozen 0
      have fa1 := H.out.box.frozen 1
      have fa2 := H.out.box.frozen 2
      obtain ⟨c0_, c1_, c2_, c3_⟩ := cells3 H.out.res
      have ga0 := H.out.res.frozen 0
      have ga1 := H.out.res.frozen 1
      have ga2 := H.out.res.frozen 2
      have qg_ := H.out.qg
      have ne1 : ¬ w.heap.size = w1.heap.size := by omega
      have ne2 : ¬ w1.heap.size = w.heap.size := by omega
      go_wp2
      refine bodyPost_ret (v := .agg #[.slice p1 t.base.length q1, .slice p2 t.more.length q2, .slice pv (t.pcs.length + 1) qv]) (by simp [results, Try.results28, go_sem, *]) rfl ?_
      obtain ⟨x1, x2, x3⟩ := H.out.done hbw (.slice p1 t.base.length q1) (.slice p2 t.more.length q2) (.slice pv (t.pcs.length + 1) qv)
      exact ⟨_, _, _, _, k1 + 1 + 1 + 1 + 1, rfl, BB.out, by omega, x1, x2, x3⟩
  · have hmk : (Instr.makeSlice 24 (.int .i64 41) (.int .i64 41)).run Try.prog w3 = .ok (.slice (some ⟨w3.heap.size, 0, none⟩) 41 41) (w3.alloc (.cells (madeCells #[.bool false, .int .i64 0, .int .i64 0] (41 * 3)) 72)) := make_pieces (P := Try.prog) 24 72 Try.underlying24 Try.info72 41 (by decide) w3
    have H3 := Hid.mk' (HD.out.below (below_new w3 (.cells (madeCells #[.bool false, .int .i64 0, .int .i64 0] (41 * 3)) 72)))
    have ZZ := Hid.mk' (HD.out.zp hbw 41 (by decide))
    have BT : Hid (Bent ⟨t.base, t.more, List.replicate 41 ⟨false, 0, 0⟩⟩) := ⟨GG.out.bent.ub, GG.out.bent.um, GG.out.bent.lb, GG.out.bent.lm, by simp, fun k hk => by rw [pc_replicate]; decide, fun k hk => by rw [pc_replicate]; decide⟩
    clear HD
    generalize hW3 : w3.alloc (.cells (madeCells #[.bool false, .int .i64 0, .int .i64 0] (41 * 3)) 72) = W3 at *
    obtain ⟨a0, a1, a2, a3⟩ := cells3 H3.out.box
    have fa0 := H3.out.box.frozen 0
    have fa1 := H3.out.box.frozen 1
    have fa2 := H3.out.box.frozen 2
    obtain ⟨c0_, c1_, c2_, c3_⟩ := cells3 H3.out.res
    have ga0 := H3.out.res.frozen 0
    have ga1 := H3.out.res.frozen 1
    have ga2 := H3.out.res.frozen 2
    have qg := H3.out.qg
    have ne1 : ¬ w.heap.size = w1.heap.size := by omega
    have ne2 : ¬ w1.heap.size = w.heap.size := by omega
    go_wp2
    refine bodyPost_ret (v := .agg #[.slice p1 t.base.length q1, .slice p2 t.more.length q2, .slice (some ⟨w3.heap.size, 0, none⟩) 41 41]) (by simp [results, Try.results28, go_sem, *]) rfl ?_
    obtain ⟨x1, x2, x3⟩ := ZZ.out.done hbw (.slice p1 t.base.length q1) (.slice p2 t.more.length q2) (.slice (some ⟨w3.heap.size, 0, none⟩) 41 41)
    exact ⟨_, _, _, _, k1 + 1, rfl, BT.out, by omega, x1, x2, x3⟩
  · go_wp2_with fail
    have y3 := HD.out.src.lt
    have IL := Hid.mk' (iat_lit w3 [2000, 2001])
    have H3 := Hid.mk' (HD.out.below (below_new w3 (.cells #[.int .i64 2000, .int .i64 2001] 2)))
    refine (l1Pick_any b (k1 + 1) w3.heap.size 2 l [2000, 2001] _ H3.out.src IL.out (by omega) (by omega) (by decide) (by decide) hl).mono ?_
    rintro e w4 ⟨i, hi, rfl, hS4, hK4⟩
    obtain ⟨x, hx, xl⟩ : ∃ x : Nat, ([2000, 2001] : List Int).getD i 0 = (x : Int) ∧ x ≤ 2001 := by
      have hi' : i = 0 ∨ i = 1 := by simp at hi; omega
      rcases hi' with rfl | rfl
      · exact ⟨2000, rfl, by decide⟩
      · exact ⟨2001, rfl, by decide⟩
    rw [hx]
    have H4 := Hid.mk' (H3.out.next hbw hS4 hK4)
    clear HD H3 IL hS4 hK4
    have hmk := run_make_row' (P := Try.prog) 22 5 (.int .u8 0) 1 Try.underlying22 Try.info5 rfl .i64 .i64 x (by omega) (by omega) w4
    have H5 := Hid.mk' (H4.out.below (below_new w4 (.cells (madeCells #[.int .u8 0] x) 5)))
    have ZZ := Hid.mk' (H4.out.zm hbw x)
    have BT : Hid (Bent ⟨t.base, List.replicate x 0, t.pcs⟩) := ⟨GG.out.bent.ub, U8.zeros x, GG.out.bent.lb, by simp; omega, GG.out.bent.lp, GG.out.bent.sz, GG.out.bent.wf⟩
    clear H4
    generalize hW5 : w4.alloc (.cells (madeCells #[.int .u8 0] x) 5) = W5 at *
    obtain ⟨a0, a1, a2, a3⟩ := cells3 H5.out.box
    have fa0 := H5.out.box.frozen 0
    have fa1 := H5.out.box.frozen 1
    have fa2 := H5.out.box.frozen 2
    obtain ⟨c0_, c1_, c2_, c3_⟩ := cells3 H5.out.res
    have ga0 := H5.out.res.frozen 0
    have ga1 := H5.out.res.frozen 1
    have ga2 := H5.out.res.frozen 2
    have qg := H5.out.qg
    have ne1 : ¬ w.heap.size = w1.heap.size := by omega
    have ne2 : ¬ w1.heap.size = w.heap.size := by omega
    go_wp2
    refine bodyPost_ret (v := .agg #[.slice p1 t.base.length q1, .slice (some ⟨w4.heap.size, 0, none⟩) x x, .slice p3 t.pcs.length q3]) (by simp [results, Try.results28, go_sem, *]) rfl ?_
    obtain ⟨x1, x2, x3⟩ := ZZ.out.done hbw (.slice p1 t.base.length q1) (.slice (some ⟨w4.heap.size, 0, none⟩) x x) (.slice p3 t.pcs.length q3)
    exact ⟨_, _, _, _, k1 + 2, rfl, BT.out, by omega, x1, x2, x3⟩
  · have hmk : (Instr.makeSlice 22 (.int .i64 240) (.int .i64 240)).run Try.prog w3 = .ok (.slice (some ⟨w3.heap.size, 0, none⟩) 240 240) (w3.alloc (.cells (madeCells #[.int .u8 0] 240) 5)) := run_make_row' (P := Try.prog) 22 5 (.int .u8 0) 1 Try.underlying22 Try.info5 rfl .i64 .i64 240 (by omega) (by omega) w3
    have H3 := Hid.mk' (HD.out.below (below_new w3 (.cells (madeCells #[.int .u8 0] 240) 5)))
    have ZZ := Hid.mk' (HD.out.zb hbw 240)
    clear HD
    generalize hW3 : w3.alloc (.cells (madeCells #[.int .u8 0] 240) 5) = W3 at *
    obtain ⟨a0, a1, a2, a3⟩ := cells3 H3.out.box
    have fa0 := H3.out.box.frozen 0
    have fa1 := H3.out.box.frozen 1
    have fa2 := H3.out.box.frozen 2
    obtain ⟨c0_, c1_, c2_, c3_⟩ := cells3 H3.out.res
    have ga0 := H3.out.res.frozen 0
    have ga1 := H3.out.res.frozen 1
    have ga2 := H3.out.res.frozen 2
    have qg := H3.out.qg
    have ne1 : ¬ w.heap.size = w1.heap.size := by omega
    have ne2 : ¬ w1.heap.size = w.heap.size := by omega
    have hz := set_size W3 ⟨w1.heap.size, 0, none⟩ (.slice (some ⟨w3.heap.size, 0, none⟩) 240 240)
    have IL : Hid (IAt ((W3.setCell ⟨w1.heap.size, 0, none⟩ (.slice (some ⟨w3.heap.size, 0, none⟩) 240 240)).alloc (.cells #[.int .i64 240, .int .i64 239] 2)) W3.heap.size [240, 239]) := by
      have := iat_lit (W3.setCell ⟨w1.heap.size, 0, none⟩ (.slice (some ⟨w3.heap.size, 0, none⟩) 240 240)) [240, 239]
      rw [hz] at this
      exact this
    have y3 := ZZ.out.src.lt
    rw [hz] at y3
    have H4 := Hid.mk' (ZZ.out.below (below_new _ (.cells #[.int .i64 240, .int .i64 239] 2)))
    clear H3 ZZ
    go_wp2_with fail
    refine (l1Pick_any b (k1 + 1) W3.heap.size 2 l [240, 239] _ H4.out.src IL.out (by omega) (by omega) (by decide) (by decide) hl).mono ?_
    rintro e w4 ⟨i, hi, rfl, hS4, hK4⟩
    obtain ⟨x, hx, x0, xl⟩ : ∃ x : Int, ([240, 239] : List Int).getD i 0 = x ∧ 0 ≤ x ∧ x ≤ 240 := by
      have hi' : i = 0 ∨ i = 1 := by simp at hi; omega
      rcases hi' with rfl | rfl
      · exact ⟨240, rfl, by decide, by decide⟩
      · exact ⟨239, rfl, by decide, by decide⟩
    rw [hx]
    have H5 := Hid.mk' (H4.out.next hbw hS4 hK4)
    clear H4 IL hS4 hK4 a0 a1 a2 a3 fa0 fa1 fa2 c0_ c1_ c2_ c3_ ga0 ga1 ga2 qg ne1 ne2 hW3 hmk
    have ZZ := Hid.mk' (H5.out.np hbw (.cells #[.bool false, .int .i64 0, .int .i64 x, .bool false, .int .i64 0, .int .i64 1] 72) (two_OP w4 x))
    have BT : Hid (Bent ⟨List.replicate 240 0, t.more, [⟨false, 0, x⟩, ⟨false, 0, 1⟩]⟩) := ⟨U8.zeros 240, GG.out.bent.um, by simp, GG.out.bent.lm, by simp, fun k hk => by
      have h : k = 0 ∨ k = 1 := by simp at hk; omega
      rcases h with rfl | rfl
      · exact ⟨x0, show x ≤ 2000 by omega⟩
      · exact ⟨show (0 : Int) ≤ 1 by decide, show (1 : Int) ≤ 2000 by decide⟩, fun k hk => by
      have h : k = 0 ∨ k = 1 := by simp at hk; omega
      rcases h with rfl | rfl
      · exact show (0 : Int) ≤ 9223372036854775807 by decide
      · exact show (0 : Int) ≤ 9223372036854775807 by decide⟩
    have H6 := Hid.mk' (H5.out.below (below_new w4 (.cells #[.bool false, .int .i64 0, .int .i64 x, .bool false, .int .i64 0, .int .i64 1] 72)))
    clear H5
    generalize hW6 : w4.alloc (.cells #[.bool false, .int .i64 0, .int .i64 x, .bool false, .int .i64 0, .int .i64 1] 72) = W6 at *
    obtain ⟨a0, a1, a2, a3⟩ := cells3 H6.out.box
    have fa0 := H6.out.box.frozen 0
    have fa1 := H6.out.box.frozen 1
    have fa2 := H6.out.box.frozen 2
    obtain ⟨c0_, c1_, c2_, c3_⟩ := cells3 H6.out.res
    have ga0 := H6.out.res.frozen 0
    have ga1 := H6.out.res.frozen 1
    have ga2 := H6.out.res.frozen 2
    have qg := H6.out.qg
    have ne1 : ¬ w.heap.size = w1.heap.size := by omega
    have ne2 : ¬ w1.heap.size = w.heap.size := by omega
    go_wp2
    refine bodyPost_ret (v := .agg #[.slice (some ⟨w3.heap.size, 0, none⟩) 240 240, .slice p2 t.more.length q2, .slice (some ⟨w4.heap.size, 0, none⟩) 2 2]) (by simp [results, Try.results28, go_sem, *]) rfl ?_
    obtain ⟨x1, x2, x3⟩ := ZZ.out.done hbw (.slice (some ⟨w3.heap.size, 0, none⟩) 240 240) (.slice p2 t.more.length q2) (.slice (some ⟨w4.heap.size, 0, none⟩) 2 2)
    exact ⟨_, _, _, _, k1 + 2, rfl, BT.out, by omega, x1, x2, x3⟩
  · have d0 : (c == 0) = false := by rw [beq_eq_false_iff_ne]; omega
    have d1 : (c == 1) = false := by rw [beq_eq_false_iff_ne]; omega
    have d2 : (c == 2) = false := by rw [beq_eq_false_iff_ne]; omega
    have d3 : (c == 3) = false := by rw [beq_eq_false_iff_ne]; omega
    obtain ⟨a0, a1, a2, a3⟩ := cells3 HD.out.box
    obtain ⟨c0_, c1_, c2_, c3_⟩ := cells3 HD.out.res
    have ga0 := HD.out.res.frozen 0
    have ga1 := HD.out.res.frozen 1
    have ga2 := HD.out.res.frozen 2
    have qg := HD.out.qg
    have ne1 : ¬ w.heap.size = w1.heap.size := by omega
    go_wp2
    refine bodyPost_ret (v := .agg #[.slice p1 t.base.length q1, .slice p2 t.more.length q2, .slice p3 t.pcs.length q3]) (by simp [results, Try.results28, go_sem, *]) rfl ?_
    obtain ⟨x1, x2, x3⟩ := HD.out.done hbw (.slice p1 t.base.length q1) (.slice p2 t.more.length q2) (.slice p3 t.pcs.length q3)
    exact ⟨_, _, _, t, k1 + 1, rfl, GG.out.bent, by omega, x1, x2, x3⟩

end Go.Proofs.Ytahkneghmgmnbaa
