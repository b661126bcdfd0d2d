/- A change: its policy measured at any count, and asked for its fault where it stands in a box. -/
import Derived.Test.YtbdjppiagjhfmaaCc
import Derived.Test.YtbdjppiagjhfmaaSxa
namespace Go.Proofs.Ytbdjppiagjhfmaa
open Go.RowKit
set_option linter.unusedVariables false
set_option linter.unusedSimpArgs false

set_option maxHeartbeats 1600000 in
theorem szPolicyZ_any (p : PO) (a b c : Option Addr) (n1 n2 n3 : Nat) (z : Int) (w : World) (ha : POAt w a b c p) (hw : WideP p) (z0 : 0 ≤ z) (z1 : z ≤ 1048576) :
    Calls Try.prog 29 #[.agg #[.slice a p.tg.length n1, .slice b p.at_.length n2, .slice c p.sc.length n3], .int .i64 z] w fun e w' => e = .returned (.int .i64 (if z < (psz p : Int) then -1 else z - psz p)) ∧ Below w.heap.size w w' := by
  have N0 := below_new w (.cells #[.slice a p.tg.length n1, .slice b p.at_.length n2, .slice c p.sc.length n3] 25)
  have HP := Hid.mk' (row3 w 25 (.slice a p.tg.length n1) (.slice b p.at_.length n2) (.slice c p.sc.length n3))
  have HA := Hid.mk' (ha.below N0)
  have HW := Hid.mk' hw
  have HB := Hid.mk' N0
  have hps : psz p = p.tg.length + ssz p.tg + p.at_.length + ssz p.at_ + p.sc.length + ssz p.sc := rfl
  have PS := Hid.mk' hps
  clear ha hw N0 hps
  generalize psz p = ps at *
  have K1 := szStringS_any a n1 p.tg z _ HA.out.1 HW.out.1 (by omega) (by omega) HW.out.2.2.2.1
  generalize hW : w.alloc (.cells #[.slice a p.tg.length n1, .slice b p.at_.length n2, .slice c p.sc.length n3] 25) = W at *
  obtain ⟨x0, x1, x2, x3⟩ := cellsP HP.out
  by_cases g1 : z < (p.tg.length : Int) + ssz p.tg
  · rw [if_pos g1] at K1
    rw [if_pos (by have := PS.out; omega)]
    have K1 := Hid.mk' K1
    go_enter Try.func29, Try.ntmps29
    go_wp2_with fail
    refine K1.out.mono ?_
    rintro e w1 ⟨rfl, hb⟩
    have HB := Hid.mk' (HB.out.trans (hb.mono HB.out.size))
    clear hb K1
    go_wp2
    go_ret
    exact ⟨rfl, HB.out⟩
  rw [if_neg g1] at K1
  have K1 := Hid.mk' K1
  have gy1 : ¬ (z - (p.tg.length : Int) - ssz p.tg < 0) := by omega
  go_enter Try.func29, Try.ntmps29
  go_wp2_with fail
  clear hW
  refine K1.out.mono ?_
  rintro e w1 ⟨rfl, hb⟩
  have HP := Hid.mk' (rowB HP.out hb)
  have HA := Hid.mk' (HA.out.below hb)
  have HB := Hid.mk' (HB.out.trans (hb.mono HB.out.size))
  have K2 := szStringS_any b n2 p.at_ (z - (p.tg.length : Int) - ssz p.tg) w1 HA.out.2.1 HW.out.2.1 (by omega) (by omega) HW.out.2.2.2.2.1
  clear hb K1 x0 x1 x2 x3
  obtain ⟨x0, x1, x2, x3⟩ := cellsP HP.out
  by_cases g2 : z - (p.tg.length : Int) - ssz p.tg < (p.at_.length : Int) + ssz p.at_
  · rw [if_pos g2] at K2
    have gp : z < (ps : Int) := by have := PS.out; omega
    have K2 := Hid.mk' K2
    go_wp2_with fail
    refine K2.out.mono ?_
    rintro e w2 ⟨rfl, hb⟩
    have HB := Hid.mk' (HB.out.trans (hb.mono HB.out.size))
    clear hb K2
    go_wp2
    go_ret
    exact ⟨by first | rfl | (rw [if_pos gp]; rfl), HB.out⟩
  rw [if_neg g2] at K2
  have K2 := Hid.mk' K2
  have gy2 : ¬ (z - (p.tg.length : Int) - ssz p.tg - p.at_.length - ssz p.at_ < 0) := by omega
  go_wp2_with fail
  refine K2.out.mono ?_
  rintro e w2 ⟨rfl, hb⟩
  have HP := Hid.mk' (rowB HP.out hb)
  have HA := Hid.mk' (HA.out.below hb)
  have HB := Hid.mk' (HB.out.trans (hb.mono HB.out.size))
  have K3 := szStringS_any c n3 p.sc (z - (p.tg.length : Int) - ssz p.tg - p.at_.length - ssz p.at_) w2 HA.out.2.2 HW.out.2.2.1 (by omega) (by omega) HW.out.2.2.2.2.2
  clear hb K2 x0 x1 x2 x3
  obtain ⟨x0, x1, x2, x3⟩ := cellsP HP.out
  by_cases g3 : z - (p.tg.length : Int) - ssz p.tg - p.at_.length - ssz p.at_ < (p.sc.length : Int) + ssz p.sc
  · rw [if_pos g3] at K3
    have gp : z < (ps : Int) := by have := PS.out; omega
    have K3 := Hid.mk' K3
    go_wp2_with fail
    refine K3.out.mono ?_
    rintro e w3 ⟨rfl, hb⟩
    have HB := Hid.mk' (HB.out.trans (hb.mono HB.out.size))
    clear hb K3
    go_wp2
    go_ret
    exact ⟨by first | rfl | (rw [if_pos gp]; rfl), HB.out⟩
  rw [if_neg g3] at K3
  have gp : ¬ z < (ps : Int) := by have := PS.out; omega
  have K3 := Hid.mk' K3
  have gy3 : ¬ (z - (p.tg.length : Int) - ssz p.tg - p.at_.length - ssz p.at_ - p.sc.length - ssz p.sc < 0) := by omega
  go_wp2_with fail
  refine K3.out.mono ?_
  rintro e w3 ⟨rfl, hb⟩
  have HB := Hid.mk' (HB.out.trans (hb.mono HB.out.size))
  clear hb K3
  go_wp2
  go_ret
  exact ⟨congrArg (fun x => Ending.returned (Value.int .i64 x)) (show z - (p.tg.length : Int) - ssz p.tg - p.at_.length - ssz p.at_ - p.sc.length - ssz p.sc = z - (ps : Int) by have := PS.out; omega), HB.out⟩

/-- A policy in the cells of a box from the 4-th on. -/
def PCell4 (w : World) (g : Nat) (x y z : Value) : Prop := w.cell? ⟨g, 4, none⟩ = some x ∧ w.cell? ⟨g, 5, none⟩ = some y ∧ w.cell? ⟨g, 6, none⟩ = some z ∧ g < w.heap.size

theorem PCell4.below {w w' : World} {g : Nat} {x y z : Value} (h : PCell4 w g x y z) (hb : Below w.heap.size w w') : PCell4 w' g x y z :=
  ⟨(hb.cell h.2.2.2).trans h.1, (hb.cell h.2.2.2).trans h.2.1, (hb.cell h.2.2.2).trans h.2.2.1, Nat.lt_of_lt_of_le h.2.2.2 hb.size⟩

set_option maxHeartbeats 3200000 in
theorem l8Fault4_any (p : PO) (g : Nat) (a b c : Option Addr) (n1 n2 n3 : Nat) (w : World) (hr : PCell4 w g (.slice a p.tg.length n1) (.slice b p.at_.length n2) (.slice c p.sc.length n3)) (ha : POAt w a b c p) (hl : (psz p : Int) ≤ 1048576) :
    Calls Try.prog 59 #[.pointer (some ⟨g, 4, none⟩)] w fun e w' => e = .returned (.int .i64 (polF p)) ∧ Below w.heap.size w w' := by
  unfold psz at hl
  have HR := Hid.mk' hr
  have HA := Hid.mk' ha
  obtain ⟨x0, x1, x2, x3⟩ := HR.out
  clear hr ha
  rcases pol_cases p with ⟨hc, hE⟩ | ⟨⟨h1, h2, h3⟩, hE⟩
  · have E := Hid.mk' hE
    clear hE
    rcases hc with h1 | ⟨h1, h2⟩ | ⟨h1, h2, h3⟩
    all_goals go_enter Try.func59, Try.ntmps59
    all_goals go_wp2_with (first | go_big_skip)
    all_goals go_ret
    all_goals exact ⟨by rw [E.out]; rfl, Below.refl _ _⟩
  · have E := Hid.mk' hE
    clear hE
    have K1 := Hid.mk' (l8Words_any a n1 p.tg w HA.out.1 (by omega))
    go_enter Try.func59, Try.ntmps59
    go_wp2_with (first | go_big_skip)
    refine K1.out.mono ?_
    rintro e w1 ⟨rfl, hb⟩
    have HB := Hid.mk' hb
    have HR := Hid.mk' (HR.out.below hb)
    have HA := Hid.mk' (HA.out.below hb)
    have K2 := Hid.mk' (l8Words_any b n2 p.at_ w1 HA.out.2.1 (by omega))
    clear hb x0 x1 x2 x3 K1
    obtain ⟨x0, x1, x2, x3⟩ := HR.out
    by_cases e1 : wfault p.tg = 0
    · have E : Hid (polF p = if ¬ wfault p.at_ = 0 then wfault p.at_ else wfault p.sc) := Hid.mk' (by rw [E.out, if_neg (by simp [e1])])
      rw [e1]
      clear e1
      go_wp2_with fail
      refine K2.out.mono ?_
      rintro e w2 ⟨rfl, hb⟩
      have HB := Hid.mk' (HB.out.trans (hb.mono HB.out.size))
      have HR := Hid.mk' (HR.out.below hb)
      have HA := Hid.mk' (HA.out.below hb)
      have K3 := Hid.mk' (l8Words_any c n3 p.sc w2 HA.out.2.2 (by omega))
      clear hb x0 x1 x2 x3 K2
      obtain ⟨x0, x1, x2, x3⟩ := HR.out
      by_cases e2 : wfault p.at_ = 0
      · have E : Hid (polF p = wfault p.sc) := Hid.mk' (by rw [E.out, if_neg (by simp [e2])])
        rw [e2]
        clear e2
        go_wp2_with fail
        refine K3.out.mono ?_
        rintro e w3 ⟨rfl, hb⟩
        have HB := Hid.mk' (HB.out.trans (hb.mono HB.out.size))
        clear hb
        go_wp2
        go_ret
        exact ⟨by rw [E.out]; rfl, HB.out⟩
      · have E : Hid (polF p = wfault p.at_) := Hid.mk' (by rw [E.out, if_pos e2])
        generalize wfault p.at_ = f2 at *
        go_wp2
        go_ret
        exact ⟨by rw [E.out]; rfl, HB.out⟩
    · have E : Hid (polF p = wfault p.tg) := Hid.mk' (by rw [E.out, if_pos e1])
      generalize wfault p.tg = f1 at *
      go_wp2
      go_ret
      exact ⟨by rw [E.out]; rfl, HB.out⟩

end Go.Proofs.Ytbdjppiagjhfmaa
