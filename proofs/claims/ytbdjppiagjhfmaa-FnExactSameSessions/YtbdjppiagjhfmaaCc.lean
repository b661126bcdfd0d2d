/- PolicyFault: both sides, and the law. -/
import Derived.Test.YtbdjppiagjhfmaaCb
import Derived.BigGuard
namespace Go.Proofs.Ytbdjppiagjhfmaa
open Go.RowKit
set_option linter.unusedVariables false
set_option linter.unusedSimpArgs false

theorem pol_cases (p : PO) : (((p.tg.length : Int) > 10 ∨ (¬ (p.tg.length : Int) > 10 ∧ (p.at_.length : Int) > 10) ∨ (¬ (p.tg.length : Int) > 10 ∧ ¬ (p.at_.length : Int) > 10 ∧ (p.sc.length : Int) > 10)) ∧ polF p = 2) ∨
    ((¬ (p.tg.length : Int) > 10 ∧ ¬ (p.at_.length : Int) > 10 ∧ ¬ (p.sc.length : Int) > 10) ∧ polF p = if ¬ wfault p.tg = 0 then wfault p.tg else if ¬ wfault p.at_ = 0 then wfault p.at_ else wfault p.sc) := by
  by_cases h : 10 < p.tg.length ∨ 10 < p.at_.length ∨ 10 < p.sc.length
  · exact .inl ⟨by omega, by unfold polF; rw [if_pos h]⟩
  · exact .inr ⟨by omega, by unfold polF; rw [if_neg h]⟩

set_option maxHeartbeats 3200000 in
theorem l8Fault_any (p : PO) (g : Nat) (a b c : Option Addr) (n1 n2 n3 : Nat) (w : World) (hr : w.rowIs g 30 3 (r3 (.slice a p.tg.length n1) (.slice b p.at_.length n2) (.slice c p.sc.length n3))) (ha : POAt w a b c p) (hl : (psz p : Int) ≤ 1048576) :
    Calls Try.prog 59 #[.pointer (some ⟨g, 0, none⟩)] w fun e w' => e = .returned (.int .i64 (polF p)) ∧ Below w.heap.size w w' := by
  unfold psz at hl
  have HR := Hid.mk' hr
  have HA := Hid.mk' ha
  obtain ⟨x0, x1, x2, x3⟩ := cellsP hr
  clear hr ha
  rcases pol_cases p with ⟨hc, hE⟩ | ⟨⟨h1, h2, h3⟩, hE⟩
  · have E := Hid.mk' hE
    clear hE
    rcases hc with h1 | ⟨h1, h2⟩ | ⟨h1, h2, h3⟩
    all_goals go_enter Try.func59, Try.ntmps59
    all_goals go_wp2_with (first | go_big_skip)
    all_goals go_ret
    all_goals exact ⟨by rw [E.out]; rfl, Below.refl _ _⟩
  · have E := Hid.mk' hE
    clear hE
    have K1 := Hid.mk' (l8Words_any a n1 p.tg w HA.out.1 (by omega))
    go_enter Try.func59, Try.ntmps59
    go_wp2_with (first | go_big_skip)
    refine K1.out.mono ?_
    rintro e w1 ⟨rfl, hb⟩
    have HB := Hid.mk' hb
    have HR := Hid.mk' (rowB HR.out hb)
    have HA := Hid.mk' (HA.out.below hb)
    have K2 := Hid.mk' (l8Words_any b n2 p.at_ w1 HA.out.2.1 (by omega))
    clear hb x0 x1 x2 x3 K1
    obtain ⟨x0, x1, x2, x3⟩ := cellsP HR.out
    by_cases e1 : wfault p.tg = 0
    · have E : Hid (polF p = if ¬ wfault p.at_ = 0 then wfault p.at_ else wfault p.sc) := Hid.mk' (by rw [E.out, if_neg (by simp [e1])])
      rw [e1]
      clear e1
      go_wp2_with fail
      refine K2.out.mono ?_
      rintro e w2 ⟨rfl, hb⟩
      have HB := Hid.mk' (HB.out.trans (hb.mono HB.out.size))
      have HR := Hid.mk' (rowB HR.out hb)
      have HA := Hid.mk' (HA.out.below hb)
      have K3 := Hid.mk' (l8Words_any c n3 p.sc w2 HA.out.2.2 (by omega))
      clear hb x0 x1 x2 x3 K2
      obtain ⟨x0, x1, x2, x3⟩ := cellsP HR.out
      by_cases e2 : wfault p.at_ = 0
      · have E : Hid (polF p = wfault p.sc) := Hid.mk' (by rw [E.out, if_neg (by simp [e2])])
        rw [e2]
        clear e2
        go_wp2_with fail
        refine K3.out.mono ?_
        rintro e w3 ⟨rfl, hb⟩
        have HB := Hid.mk' (HB.out.trans (hb.mono HB.out.size))
        clear hb
        go_wp2
        go_ret
        exact ⟨by rw [E.out]; rfl, HB.out⟩
      · have E : Hid (polF p = wfault p.at_) := Hid.mk' (by rw [E.out, if_pos e2])
        generalize wfault p.at_ = f2 at *
        go_wp2
        go_ret
        exact ⟨by rw [E.out]; rfl, HB.out⟩
    · have E : Hid (polF p = wfault p.tg) := Hid.mk' (by rw [E.out, if_pos e1])
      generalize wfault p.tg = f1 at *
      go_wp2
      go_ret
      exact ⟨by rw [E.out]; rfl, HB.out⟩

set_option maxHeartbeats 3200000 in
theorem implPF_any (p : PO) (a b c : Option Addr) (n1 n2 n3 : Nat) (w : World) (ha : POAt w a b c p) (hl : (psz p : Int) ≤ 1048576) :
    Calls Try.prog 33 #[.agg #[.slice a p.tg.length n1, .slice b p.at_.length n2, .slice c p.sc.length n3]] w fun e w' => e = .returned (.int .i64 (polF p)) ∧ Below w.heap.size w w' := by
  unfold psz at hl
  have N0 := below_new w (.cells #[.slice a p.tg.length n1, .slice b p.at_.length n2, .slice c p.sc.length n3] 30)
  have HR := Hid.mk' (row3 w 30 (.slice a p.tg.length n1) (.slice b p.at_.length n2) (.slice c p.sc.length n3))
  have HA := Hid.mk' (ha.below N0)
  have HB := Hid.mk' N0
  clear N0 ha
  generalize hW : w.alloc (.cells #[.slice a p.tg.length n1, .slice b p.at_.length n2, .slice c p.sc.length n3] 30) = W at *
  obtain ⟨x0, x1, x2, x3⟩ := cellsP HR.out
  rcases pol_cases p with ⟨hc, hE⟩ | ⟨⟨h1, h2, h3⟩, hE⟩
  · have E := Hid.mk' hE
    clear hE
    rcases hc with h1 | ⟨h1, h2⟩ | ⟨h1, h2, h3⟩
    all_goals go_enter Try.func33, Try.ntmps33
    all_goals go_wp2_with (first | go_big_skip)
    all_goals go_ret
    all_goals exact ⟨by rw [E.out]; rfl, HB.out⟩
  · have E := Hid.mk' hE
    clear hE
    have K1 := Hid.mk' (wordsFault_any a n1 p.tg W HA.out.1 (by omega))
    go_enter Try.func33, Try.ntmps33
    go_wp2_with (first | go_big_skip)
    clear hW
    refine K1.out.mono ?_
    rintro e w1 ⟨rfl, hb⟩
    have HB := Hid.mk' (HB.out.trans (hb.mono HB.out.size))
    have HR := Hid.mk' (rowB HR.out hb)
    have HA := Hid.mk' (HA.out.below hb)
    have K2 := Hid.mk' (wordsFault_any b n2 p.at_ w1 HA.out.2.1 (by omega))
    clear hb x0 x1 x2 x3 K1
    obtain ⟨x0, x1, x2, x3⟩ := cellsP HR.out
    by_cases e1 : wfault p.tg = 0
    · have E : Hid (polF p = if ¬ wfault p.at_ = 0 then wfault p.at_ else wfault p.sc) := Hid.mk' (by rw [E.out, if_neg (by simp [e1])])
      rw [e1]
      clear e1
      go_wp2_with fail
      refine K2.out.mono ?_
      rintro e w2 ⟨rfl, hb⟩
      have HB := Hid.mk' (HB.out.trans (hb.mono HB.out.size))
      have HR := Hid.mk' (rowB HR.out hb)
      have HA := Hid.mk' (HA.out.below hb)
      have K3 := Hid.mk' (wordsFault_any c n3 p.sc w2 HA.out.2.2 (by omega))
      clear hb x0 x1 x2 x3 K2
      obtain ⟨x0, x1, x2, x3⟩ := cellsP HR.out
      by_cases e2 : wfault p.at_ = 0
      · have E : Hid (polF p = wfault p.sc) := Hid.mk' (by rw [E.out, if_neg (by simp [e2])])
        rw [e2]
        clear e2
        go_wp2_with fail
        refine K3.out.mono ?_
        rintro e w3 ⟨rfl, hb⟩
        have HB := Hid.mk' (HB.out.trans (hb.mono HB.out.size))
        clear hb
        go_wp2
        go_ret
        exact ⟨by rw [E.out]; rfl, HB.out⟩
      · have E : Hid (polF p = wfault p.at_) := Hid.mk' (by rw [E.out, if_pos e2])
        generalize wfault p.at_ = f2 at *
        go_wp2
        go_ret
        exact ⟨by rw [E.out]; rfl, HB.out⟩
    · have E : Hid (polF p = wfault p.tg) := Hid.mk' (by rw [E.out, if_pos e1])
      generalize wfault p.tg = f1 at *
      go_wp2
      go_ret
      exact ⟨by rw [E.out]; rfl, HB.out⟩

theorem toPolicy_at (p : PO) (a b c : Option Addr) (n1 n2 n3 : Nat) (w : World) (ha : POAt w a b c p) (hl : (psz p : Int) ≤ 1048576) :
    Calls Try.prog 31 #[.agg #[.slice a p.tg.length n1, .slice b p.at_.length n2, .slice c p.sc.length n3]] w fun e w' => ∃ g1 g2 g3, e = .returned (.agg #[.slice (some ⟨g1, 0, none⟩) p.tg.length p.tg.length, .slice (some ⟨g2, 0, none⟩) p.at_.length p.at_.length, .slice (some ⟨g3, 0, none⟩) p.sc.length p.sc.length]) ∧ POAt w' (some ⟨g1, 0, none⟩) (some ⟨g2, 0, none⟩) (some ⟨g3, 0, none⟩) p ∧ Below w.heap.size w w' :=
  (toPolicy_any p a b c n1 n2 n3 w ha hl).mono fun e w' ⟨g1, g2, g3, h1, h2, h3⟩ => ⟨g1, g2, g3, h1, h2.at, h3⟩

end Go.Proofs.Ytbdjppiagjhfmaa
