/- PolicyFault: both sides, and the law. -/
import Derived.Test.YtlhjkjhppjogbaaCb
import Derived.BigGuard
namespace Go.Proofs.Ytlhjkjhppjogbaa
open Go.RowKit
set_option linter.unusedVariables false
set_option linter.unusedSimpArgs false

theorem pol_cases (p : PO) : (((p.tg.length : Int) > 10 ∨ (¬ (p.tg.length : Int) > 10 ∧ (p.at_.length : Int) > 10) ∨ (¬ (p.tg.length : Int) > 10 ∧ ¬ (p.at_.length : Int) > 10 ∧ (p.sc.length : Int) > 10)) ∧ polF p = 2) ∨
    ((¬ (p.tg.length : Int) > 10 ∧ ¬ (p.at_.length : Int) > 10 ∧ ¬ (p.sc.length : Int) > 10) ∧ polF p = if ¬ wfault p.tg = 0 then wfault p.tg else if ¬ wfault p.at_ = 0 then wfault p.at_ else wfault p.sc) := by
  by_cases h : 10 < p.tg.length ∨ 10 < p.at_.length ∨ 10 < p.sc.length
  · exact .inl ⟨by omega, by unfold polF; rw [if_pos h]⟩
  · exact .inr ⟨by omega, by unfold polF; rw [if_neg h]⟩

set_option maxHeartbeats 3200000 in
theorem l8Fault_any (p : PO) (g : Nat) (a b c : Option Addr) (n1 n2 n3 : Nat) (w : World) (hr : w.rowIs g 27 3 (r3 (.slice a p.tg.length n1) (.slice b p.at_.length n2) (.slice c p.sc.length n3))) (ha : POAt w a b c p) (hl : (psz p : Int) ≤ 1048576) :
    Calls Try.prog 22 #[.pointer (some ⟨g, 0, none⟩)] w fun e w' => e = .returned (.int .i64 (polF p)) ∧ Below w.heap.size w w' := by
  unfold psz at hl
  have HR := Hid.mk' hr
  have HA := Hid.mk' ha
  obtain ⟨x0, x1, x2, x3⟩ := cellsP hr
  clear hr ha
  rcases pol_cases p with ⟨hc, hE⟩ | ⟨⟨h1, h2, h3⟩, hE⟩
  · have E := Hid.mk' hE
    clear hE
    rcases hc with h1 | ⟨h1, h2⟩ | ⟨h1, h2, h3⟩
    all_goals go_enter Try.func22, Try.ntmps22
    all_goals go_wp2_with (first | go_big_skip)
    all_goals go_ret
    all_goals exact ⟨by rw [E.out]; rfl, Below.refl _ _⟩
  · have E := Hid.mk' hE
    clear hE
    have K1 := Hid.mk' (l8Words_any a n1 p.tg w HA.out.1 (by omega))
    go_enter Try.func22, Try.ntmps22
    go_wp2_with (first | go_big_skip)
    refine K1.out.mono ?_
    rintro e w1 ⟨rfl, hb⟩
    have HB := Hid.mk' hb
    have HR := Hid.mk' (rowB HR.out hb)
    have HA := Hid.mk' (HA.out.below hb)
    have K2 := Hid.mk' (l8Words_any b n2 p.at_ w1 HA.out.2.1 (by omega))
    clear hb x0 x1 x2 x3 K1
    obtain ⟨x0, x1, x2, x3⟩ := cellsP HR.out
    by_cases e1 : wfault p.tg = 0
    · have E : Hid (polF p = if ¬ wfault p.at_ = 0 then wfault p.at_ else wfault p.sc) := Hid.mk' (by rw [E.out, if_neg (by simp [e1])])
      rw [e1]
      clear e1
      go_wp2_with fail
      refine K2.out.mono ?_
      rintro e w2 ⟨rfl, hb⟩
      have HB := Hid.mk' (HB.out.trans (hb.mono HB.out.size))
      have HR := Hid.mk' (rowB HR.out hb)
      have HA := Hid.mk' (HA.out.below hb)
      have K3 := Hid.mk' (l8Words_any c n3 p.sc w2 HA.out.2.2 (by omega))
      clear hb x0 x1 x2 x3 K2
      obtain ⟨x0, x1, x2, x3⟩ := cellsP HR.out
      by_cases e2 : wfault p.at_ = 0
      · have E : Hid (polF p = wfault p.sc) := Hid.mk' (by rw [E.out, if_neg (by simp [e2])])
        rw [e2]
        clear e2
        go_wp2_with fail
        refine K3.out.mono ?_
        rintro e w3 ⟨rfl, hb⟩
        have HB := Hid.mk' (HB.out.trans (hb.mono HB.out.size))
        clear hb
        go_wp2
        go_ret
        exact ⟨by rw [E.out]; rfl, HB.out⟩
      · have E : Hid (polF p = wfault p.at_) := Hid.mk' (by rw [E.out, if_pos e2])
        generalize wfault p.at_ = f2 at *
        go_wp2
        go_ret
        exact ⟨by rw [E.out]; rfl, HB.out⟩
    · have E : Hid (polF p = wfault p.tg) := Hid.mk' (by rw [E.out, if_pos e1])
      generalize wfault p.tg = f1 at *
      go_wp2
      go_ret
      exact ⟨by rw [E.out]; rfl, HB.out⟩

theorem specPF_any (p : PO) (a b c : Option Addr) (n1 n2 n3 : Nat) (w : World) (ha : POAt w a b c p) (hl : (psz p : Int) ≤ 1048576) :
    Calls Try.prog 8 #[.agg #[.slice a p.tg.length n1, .slice b p.at_.length n2, .slice c p.sc.length n3]] w fun e w' => e = .returned (.int .i64 (polF p)) ∧ Below w.heap.size w w' := by
  have N0 := below_new w (.cells #[.slice a p.tg.length n1, .slice b p.at_.length n2, .slice c p.sc.length n3] 27)
  have KF := Hid.mk' (l8Fault_any p w.heap.size a b c n1 n2 n3 _ (row3 w 27 (.slice a p.tg.length n1) (.slice b p.at_.length n2) (.slice c p.sc.length n3)) (ha.below N0) hl)
  have HB := Hid.mk' N0
  clear N0 ha
  generalize hW : w.alloc (.cells #[.slice a p.tg.length n1, .slice b p.at_.length n2, .slice c p.sc.length n3] 27) = W at *
  go_enter Try.func8, Try.ntmps8
  go_wp2_with fail
  clear hW
  refine KF.out.mono ?_
  rintro e w1 ⟨rfl, hb⟩
  have HB := Hid.mk' (HB.out.trans (hb.mono HB.out.size))
  clear hb KF
  go_wp2
  go_ret
  exact ⟨rfl, HB.out⟩

set_option maxHeartbeats 3200000 in
theorem implPF_any (p : PO) (a b c : Option Addr) (n1 n2 n3 : Nat) (w : World) (ha : POAt w a b c p) (hl : (psz p : Int) ≤ 1048576) :
    Calls Try.prog 10 #[.agg #[.slice a p.tg.length n1, .slice b p.at_.length n2, .slice c p.sc.length n3]] w fun e w' => e = .returned (.int .i64 (polF p)) ∧ Below w.heap.size w w' := by
  unfold psz at hl
  have N0 := below_new w (.cells #[.slice a p.tg.length n1, .slice b p.at_.length n2, .slice c p.sc.length n3] 27)
  have HR := Hid.mk' (row3 w 27 (.slice a p.tg.length n1) (.slice b p.at_.length n2) (.slice c p.sc.length n3))
  have HA := Hid.mk' (ha.below N0)
  have HB := Hid.mk' N0
  clear N0 ha
  generalize hW : w.alloc (.cells #[.slice a p.tg.length n1, .slice b p.at_.length n2, .slice c p.sc.length n3] 27) = W at *
  obtain ⟨x0, x1, x2, x3⟩ := cellsP HR.out
  rcases pol_cases p with ⟨hc, hE⟩ | ⟨⟨h1, h2, h3⟩, hE⟩
  · have E := Hid.mk' hE
    clear hE
    rcases hc with h1 | ⟨h1, h2⟩ | ⟨h1, h2, h3⟩
    all_goals go_enter Try.func10, Try.ntmps10
    all_goals go_wp2_with (first | go_big_skip)
    all_goals go_ret
    all_goals exact ⟨by rw [E.out]; rfl, HB.out⟩
  · have E := Hid.mk' hE
    clear hE
    have K1 := Hid.mk' (wordsFault_any a n1 p.tg W HA.out.1 (by omega))
    go_enter Try.func10, Try.ntmps10
    go_wp2_with (first | go_big_skip)
    clear hW
    refine K1.out.mono ?_
    rintro e w1 ⟨rfl, hb⟩
    have HB := Hid.mk' (HB.out.trans (hb.mono HB.out.size))
    have HR := Hid.mk' (rowB HR.out hb)
    have HA := Hid.mk' (HA.out.below hb)
    have K2 := Hid.mk' (wordsFault_any b n2 p.at_ w1 HA.out.2.1 (by omega))
    clear hb x0 x1 x2 x3 K1
    obtain ⟨x0, x1, x2, x3⟩ := cellsP HR.out
    by_cases e1 : wfault p.tg = 0
    · have E : Hid (polF p = if ¬ wfault p.at_ = 0 then wfault p.at_ else wfault p.sc) := Hid.mk' (by rw [E.out, if_neg (by simp [e1])])
      rw [e1]
      clear e1
      go_wp2_with fail
      refine K2.out.mono ?_
      rintro e w2 ⟨rfl, hb⟩
      have HB := Hid.mk' (HB.out.trans (hb.mono HB.out.size))
      have HR := Hid.mk' (rowB HR.out hb)
      have HA := Hid.mk' (HA.out.below hb)
      have K3 := Hid.mk' (wordsFault_any c n3 p.sc w2 HA.out.2.2 (by omega))
      clear hb x0 x1 x2 x3 K2
      obtain ⟨x0, x1, x2, x3⟩ := cellsP HR.out
      by_cases e2 : wfault p.at_ = 0
      · have E : Hid (polF p = wfault p.sc) := Hid.mk' (by rw [E.out, if_neg (by simp [e2])])
        rw [e2]
        clear e2
        go_wp2_with fail
        refine K3.out.mono ?_
        rintro e w3 ⟨rfl, hb⟩
        have HB := Hid.mk' (HB.out.trans (hb.mono HB.out.size))
        clear hb
        go_wp2
        go_ret
        exact ⟨by rw [E.out]; rfl, HB.out⟩
      · have E : Hid (polF p = wfault p.at_) := Hid.mk' (by rw [E.out, if_pos e2])
        generalize wfault p.at_ = f2 at *
        go_wp2
        go_ret
        exact ⟨by rw [E.out]; rfl, HB.out⟩
    · have E : Hid (polF p = wfault p.tg) := Hid.mk' (by rw [E.out, if_pos e1])
      generalize wfault p.tg = f1 at *
      go_wp2
      go_ret
      exact ⟨by rw [E.out]; rfl, HB.out⟩

theorem toPolicy_at (p : PO) (a b c : Option Addr) (n1 n2 n3 : Nat) (w : World) (ha : POAt w a b c p) (hl : (psz p : Int) ≤ 1048576) :
    Calls Try.prog 9 #[.agg #[.slice a p.tg.length n1, .slice b p.at_.length n2, .slice c p.sc.length n3]] w fun e w' => ∃ g1 g2 g3, e = .returned (.agg #[.slice (some ⟨g1, 0, none⟩) p.tg.length p.tg.length, .slice (some ⟨g2, 0, none⟩) p.at_.length p.at_.length, .slice (some ⟨g3, 0, none⟩) p.sc.length p.sc.length]) ∧ POAt w' (some ⟨g1, 0, none⟩) (some ⟨g2, 0, none⟩) (some ⟨g3, 0, none⟩) p ∧ Below w.heap.size w w' :=
  (toPolicy_any p a b c n1 n2 n3 w ha hl).mono fun e w' ⟨g1, g2, g3, h1, h2, h3⟩ => ⟨g1, g2, g3, h1, h2.at, h3⟩

set_option maxHeartbeats 3200000 in
/-- The law on PolicyFault. -/
theorem lawPF_any (p : PO) (a b c : Option Addr) (n1 n2 n3 : Nat) (w : World) (ha : POAt w a b c p) (hw : WideP p) :
    Calls Try.prog 3 #[.agg #[.slice a p.tg.length n1, .slice b p.at_.length n2, .slice c p.sc.length n3]] w fun e w' => e = .returned (.bool true) ∧ Below w.heap.size w w' := by
  have N0 := below_new w (.cells #[.slice a p.tg.length n1, .slice b p.at_.length n2, .slice c p.sc.length n3] 24)
  have KS := szPolicy_any p a b c n1 n2 n3 _ (ha.below N0) hw
  have HP := Hid.mk' (row3 w 24 (.slice a p.tg.length n1) (.slice b p.at_.length n2) (.slice c p.sc.length n3))
  have HA := Hid.mk' (ha.below N0)
  have HB := Hid.mk' N0
  clear ha N0 hw
  generalize hW : w.alloc (.cells #[.slice a p.tg.length n1, .slice b p.at_.length n2, .slice c p.sc.length n3] 24) = W at *
  obtain ⟨c0, c1, c2, c3⟩ := cellsP HP.out
  by_cases big : 1048576 < (psz p : Int)
  · rw [if_pos big] at KS
    have KS := Hid.mk' KS
    go_enter Try.func3, Try.ntmps3
    go_wp2_with fail
    refine KS.out.mono ?_
    rintro e w1 ⟨rfl, hb⟩
    have HB := Hid.mk' (HB.out.trans (hb.mono HB.out.size))
    clear hb KS
    go_wp2
    go_ret
    exact ⟨rfl, HB.out⟩
  rw [if_neg big] at KS
  have KS := Hid.mk' KS
  have zz : ¬ (1048576 - (psz p : Int) < 0) := by omega
  have hl : (psz p : Int) ≤ 1048576 := by omega
  go_enter Try.func3, Try.ntmps3
  go_wp2_with fail
  clear hW
  refine KS.out.mono ?_
  rintro e w1 ⟨rfl, hb⟩
  have HP := Hid.mk' (rowB HP.out hb)
  have HA := Hid.mk' (HA.out.below hb)
  have HB := Hid.mk' (HB.out.trans (hb.mono HB.out.size))
  clear hb KS c0 c1 c2 c3 big
  obtain ⟨c0, c1, c2, c3⟩ := cellsP HP.out
  go_wp2_with fail
  clear zz
  refine (toPolicy_at p a b c n1 n2 n3 w1 HA.out hl).mono ?_
  rintro e w2 ⟨g1, g2, g3, rfl, t1, hb⟩
  have HP := Hid.mk' (rowB HP.out hb)
  have HA := Hid.mk' (HA.out.below hb)
  have HB := Hid.mk' (HB.out.trans (hb.mono HB.out.size))
  have T1 := Hid.mk' t1
  clear hb t1 c0 c1 c2 c3
  go_wp2_with fail
  refine (specPF_any p _ _ _ _ _ _ w2 T1.out hl).mono ?_
  rintro e w3 ⟨rfl, hb⟩
  have HP := Hid.mk' (rowB HP.out hb)
  have HA := Hid.mk' (HA.out.below hb)
  have HB := Hid.mk' (HB.out.trans (hb.mono HB.out.size))
  clear hb T1
  obtain ⟨c0, c1, c2, c3⟩ := cellsP HP.out
  go_wp2_with fail
  refine (toPolicy_at p a b c n1 n2 n3 w3 HA.out hl).mono ?_
  rintro e w4 ⟨h1, h2, h3, rfl, t2, hb⟩
  have N4 := below_new w4 (.cells #[.slice (some ⟨h1, 0, none⟩) p.tg.length p.tg.length, .slice (some ⟨h2, 0, none⟩) p.at_.length p.at_.length, .slice (some ⟨h3, 0, none⟩) p.sc.length p.sc.length] 27)
  have M4 := hb.trans (N4.mono hb.size)
  have HP := Hid.mk' (rowB HP.out M4)
  have HA := Hid.mk' (HA.out.below M4)
  have HB := Hid.mk' (HB.out.trans (M4.mono HB.out.size))
  have T2 := Hid.mk' (t2.below N4)
  have HX := Hid.mk' (row3 w4 27 (.slice (some ⟨h1, 0, none⟩) p.tg.length p.tg.length) (.slice (some ⟨h2, 0, none⟩) p.at_.length p.at_.length) (.slice (some ⟨h3, 0, none⟩) p.sc.length p.sc.length))
  clear hb t2 N4 M4 c0 c1 c2 c3
  generalize hW4 : w4.alloc (.cells #[.slice (some ⟨h1, 0, none⟩) p.tg.length p.tg.length, .slice (some ⟨h2, 0, none⟩) p.at_.length p.at_.length, .slice (some ⟨h3, 0, none⟩) p.sc.length p.sc.length] 27) = W4 at *
  obtain ⟨d0, d1, d2, d3⟩ := cellsP HX.out
  go_wp2_with fail
  clear hW4
  refine (implPF_any p _ _ _ _ _ _ W4 T2.out hl).mono ?_
  rintro e w5 ⟨rfl, hb⟩
  have HP := Hid.mk' (rowB HP.out hb)
  have HX := Hid.mk' (rowB HX.out hb)
  have HA := Hid.mk' (HA.out.below hb)
  have T2 := Hid.mk' (T2.out.below hb)
  have HB := Hid.mk' (HB.out.trans (hb.mono HB.out.size))
  clear hb d0 d1 d2 d3
  obtain ⟨c0, c1, c2, c3⟩ := cellsP HP.out
  obtain ⟨d0, d1, d2, d3⟩ := cellsP HX.out
  generalize polF p = tf at *
  go_wp2
  go_region_held3 (fun w' => w'.cell? ⟨w.heap.size, 0, none⟩ = some (.slice a p.tg.length n1) ∧ w'.cell? ⟨w.heap.size, 1, none⟩ = some (.slice b p.at_.length n2) ∧ w'.cell? ⟨w.heap.size, 2, none⟩ = some (.slice c p.sc.length n3) ∧ w'.cell? ⟨w4.heap.size, 0, none⟩ = some (.slice (some ⟨h1, 0, none⟩) p.tg.length p.tg.length) ∧ w'.cell? ⟨w4.heap.size, 1, none⟩ = some (.slice (some ⟨h2, 0, none⟩) p.at_.length p.at_.length) ∧ w'.cell? ⟨w4.heap.size, 2, none⟩ = some (.slice (some ⟨h3, 0, none⟩) p.sc.length p.sc.length)) (simp [*])
    (first | (go_at_call 9; refine (toPolicy_at p a b c n1 n2 n3 _ (HA.out.below (Below.refl _ _).drew) hl).mono ?_; rintro e w9 ⟨k1, k2, k3, rfl, t9, hb9⟩; replace hb9 := undrew hb9; obtain ⟨hx1, hx2⟩ := bcell hb9; have z1 := hb9.size; have z2 : w.heap.size < w9.heap.size := (by omega); have z3 : w4.heap.size < w9.heap.size := (by omega)) | (go_at_call 11; refine (eqPolicy_any p _ _ _ _ _ _ _ _ _ _ _ _ _ (T2.out.below hb9) t9 hl).mono ?_; rintro e wA ⟨rfl, hbA⟩; obtain ⟨hx3, hx4⟩ := bcell hbA))
  have HB := Hid.mk' (HB.out.trans ((hb9.trans (hbA.mono hb9.size)).mono HB.out.size))
  clear hx1 hx2 hx3 hx4 z1 z2 z3 hb9 hbA t9 c0 c1 c2 c3 d0 d1 d2 d3
  go_wp2
  go_ret
  exact ⟨rfl, HB.out⟩

end Go.Proofs.Ytlhjkjhppjogbaa
