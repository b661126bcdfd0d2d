/- The form and the fault of a change: the program's side. -/
import Derived.Test.YtbdjppiagjhfmaaSxe
import Derived.Test.YtbdjppiagjhfmaaSxa
namespace Go.Proofs.Ytbdjppiagjhfmaa
open Go.RowKit
set_option linter.unusedVariables false
set_option linter.unusedSimpArgs false

theorem sameP_none (p : PO) : sameP p ⟨[], [], []⟩ = noP p := by
  unfold sameP noP
  simp only [sameSs_none]
  rw [Bool.and_assoc]

set_option maxHeartbeats 1600000 in
theorem hasNoEdit_any (c : CH) (p a b d : Option Addr) (np n1 n2 n3 : Nat) (w : World) (hl : (chsz c : Int) ≤ 1048576) :
    Calls Try.prog 61 #[.agg (chV c p a b d np n1 n2 n3)] w fun e w' => e = .returned (.bool (noE c)) ∧ Below w.heap.size w w' := by
  unfold chsz at hl
  have B0 := below_new w (.cells (chV c p a b d np n1 n2 n3) 32)
  have h := RowA.new w 32 (chV c p a b d np n1 n2 n3)
  have x1 := h.cell 1 (.int .i64 c.pl) rfl
  have x2 := h.cell 2 (.int .i64 c.nn) rfl
  have x3 := h.cell 3 (.slice p c.pt.length np) rfl
  have HB := Hid.mk' B0
  have E : Hid (noE c = (decide (c.pl = 0) && (decide (c.nn = 0) && decide (c.pt.length = 0)))) := Hid.mk' rfl
  clear B0 h
  generalize noE c = R at *
  unfold chV at *
  generalize hV : w.alloc (.cells #[.int .i64 c.kd, .int .i64 c.pl, .int .i64 c.nn, .slice p c.pt.length np, .slice a c.po.tg.length n1, .slice b c.po.at_.length n2, .slice d c.po.sc.length n3] 32) = V at *
  by_cases g1 : c.pl = 0
  · by_cases g2 : c.nn = 0
    · by_cases g3 : c.pt.length = 0
      all_goals go_enter Try.func61, Try.ntmps61
      all_goals go_wp2_with (first | go_big_skip)
      all_goals go_ret
      all_goals exact ⟨by rw [E.out]; simp [g1, g2, g3], by first | exact HB.out | exact below_new _ _⟩
    · go_enter Try.func61, Try.ntmps61
      go_wp2_with (first | go_big_skip)
      go_ret
      exact ⟨by rw [E.out]; simp [g1, g2], by first | exact HB.out | exact below_new _ _⟩
  · go_enter Try.func61, Try.ntmps61
    go_wp2_with (first | go_big_skip)
    go_ret
    exact ⟨by rw [E.out]; simp [g1], by first | exact HB.out | exact below_new _ _⟩

theorem ch_cells {w : World} {g : Nat} {ty : TypeId} {c : CH} {p a b d : Option Addr} {np n1 n2 n3 : Nat} (h : RowA w g ty (chV c p a b d np n1 n2 n3)) :
    w.cell? ⟨g, 0, none⟩ = some (.int .i64 c.kd) ∧ w.cell? ⟨g, 1, none⟩ = some (.int .i64 c.pl) ∧ w.cell? ⟨g, 2, none⟩ = some (.int .i64 c.nn) ∧ w.cell? ⟨g, 3, none⟩ = some (.slice p c.pt.length np) ∧ w.cell? ⟨g, 4, none⟩ = some (.slice a c.po.tg.length n1) ∧ w.cell? ⟨g, 5, none⟩ = some (.slice b c.po.at_.length n2) ∧ w.cell? ⟨g, 6, none⟩ = some (.slice d c.po.sc.length n3) :=
  ⟨h.cell 0 _ rfl, h.cell 1 _ rfl, h.cell 2 _ rfl, h.cell 3 _ rfl, h.cell 4 _ rfl, h.cell 5 _ rfl, h.cell 6 _ rfl⟩

set_option maxRecDepth 100000 in
set_option maxHeartbeats 6400000 in
theorem fitsKind_any (c : CH) (p a b d : Option Addr) (np n1 n2 n3 : Nat) (w : World) (ha : POAt w a b d c.po) (hl : (chsz c : Int) ≤ 1048576) :
    Calls Try.prog 32 #[.agg (chV c p a b d np n1 n2 n3)] w fun e w' => e = .returned (.bool (formC c)) ∧ Below w.heap.size w w' := by
  have B0 := below_new w (.cells (chV c p a b d np n1 n2 n3) 32)
  have h := RowA.new w 32 (chV c p a b d np n1 n2 n3)
  have HB := Hid.mk' B0
  have HL := Hid.mk' hl
  have HR := Hid.mk' h
  have E : Hid (formC c = (if c.kd = 1 then decide (c.nn = 0) && noP c.po else if c.kd = 2 then decide (c.pt.length = 0) && noP c.po else if c.kd = 3 then noP c.po else if c.kd = 4 then noE c else if c.kd = 5 then noE c && noP c.po else false)) := Hid.mk' rfl
  unfold chsz at hl
  have KS := samePolicy_any c.po ⟨[], [], []⟩ a b d none none none n1 n2 n3 0 0 0 _ (ha.below B0) ⟨.inl rfl, .inl rfl, .inl rfl⟩ (by omega) (by show ((0 : Nat) : Int) ≤ 1048576; omega)
  rw [sameP_none] at KS
  simp only [List.length_nil] at KS
  have KS := Hid.mk' KS
  have KN := Hid.mk' (fun v => hasNoEdit_any c p a b d np n1 n2 n3 v HL.out)
  obtain ⟨x0, x1, x2, x3, x4, x5, x6⟩ := ch_cells h
  clear B0 ha h
  generalize formC c = R at *
  generalize noP c.po = NP at *
  generalize noE c = NE at *
  unfold chV at *
  generalize hV : w.alloc (.cells #[.int .i64 c.kd, .int .i64 c.pl, .int .i64 c.nn, .slice p c.pt.length np, .slice a c.po.tg.length n1, .slice b c.po.at_.length n2, .slice d c.po.sc.length n3] 32) = V at *
  go_enter Try.func32, Try.ntmps32
  go_wp2_with (first | go_big_skip | fail)
  clear hV x0 x1 x2 x3 x4 x5 x6
  refine KS.out.mono ?_
  rintro e w1 ⟨rfl, hb⟩
  have HR := Hid.mk' (HR.out.below hb)
  have HB := Hid.mk' (HB.out.trans (hb.mono HB.out.size))
  clear hb KS
  obtain ⟨x0, x1, x2, x3, x4, x5, x6⟩ := ch_cells HR.out
  have KN1 := Hid.mk' (KN.out w1)
  clear KN
  generalize hk : c.kd = kd at *
  clear hk
  by_cases h1 : kd = 1
  · have E1 : Hid (R = (decide (c.nn = 0) && NP)) := Hid.mk' (by rw [E.out, if_pos h1])
    clear E
    by_cases g1 : c.nn = 0
    all_goals go_wp2_with (first | go_big_skip)
    all_goals go_ret
    all_goals exact ⟨by rw [E1.out]; simp [g1], HB.out⟩
  by_cases h2 : kd = 2
  · have E1 : Hid (R = (decide (c.pt.length = 0) && NP)) := Hid.mk' (by rw [E.out, if_neg h1, if_pos h2])
    clear E
    by_cases g1 : c.pt.length = 0
    all_goals go_wp2_with (first | go_big_skip)
    all_goals go_ret
    all_goals exact ⟨by rw [E1.out]; simp [g1], HB.out⟩
  by_cases h3 : kd = 3
  · have E1 : Hid (R = NP) := Hid.mk' (by rw [E.out, if_neg h1, if_neg h2, if_pos h3])
    clear E
    go_wp2_with (first | go_big_skip)
    go_ret
    exact ⟨by have h := E1.out; subst h; rfl, HB.out⟩
  by_cases h4 : kd = 4
  · have E1 : Hid (R = NE) := Hid.mk' (by rw [E.out, if_neg h1, if_neg h2, if_neg h3, if_pos h4])
    clear E h1 h2 h3
    subst h4
    go_wp2_with (first | go_big_skip | (go_at_call 61; refine KN1.out.mono ?_; rintro e w2 ⟨rfl, hb2⟩; have HB := Hid.mk' (HB.out.trans (hb2.mono HB.out.size)); clear hb2))
    go_ret
    exact ⟨by have h := E1.out; subst h; rfl, HB.out⟩
  by_cases h5 : kd = 5
  · have E1 : Hid (R = (NE && NP)) := Hid.mk' (by rw [E.out, if_neg h1, if_neg h2, if_neg h3, if_neg h4, if_pos h5])
    clear E h1 h2 h3 h4
    subst h5
    cases NE
    all_goals go_wp2_with (first | go_big_skip | (go_at_call 61; refine KN1.out.mono ?_; rintro e w2 ⟨rfl, hb2⟩; have HB := Hid.mk' (HB.out.trans (hb2.mono HB.out.size)); clear hb2))
    all_goals go_ret
    all_goals exact ⟨by rw [E1.out]; simp, HB.out⟩
  · have E1 : Hid (R = false) := Hid.mk' (by rw [E.out, if_neg h1, if_neg h2, if_neg h3, if_neg h4, if_neg h5])
    clear E
    go_wp2_with (first | go_big_skip)
    go_ret
    exact ⟨by have h := E1.out; subst h; rfl, HB.out⟩

set_option maxHeartbeats 3200000 in
theorem implCF_any (c : CH) (p a b d : Option Addr) (np n1 n2 n3 : Nat) (w : World) (ha : POAt w a b d c.po) (hl : (chsz c : Int) ≤ 1048576) :
    Calls Try.prog 9 #[.agg (chV c p a b d np n1 n2 n3)] w fun e w' => e = .returned (.int .i64 (chF c)) ∧ Below w.heap.size w w' := by
  have B0 := below_new w (.cells (chV c p a b d np n1 n2 n3) 32)
  have h := RowA.new w 32 (chV c p a b d np n1 n2 n3)
  have HB := Hid.mk' B0
  have HR := Hid.mk' h
  have HA := Hid.mk' ha
  have KF := Hid.mk' (fitsKind_any c p a b d np n1 n2 n3 _ (ha.below B0) hl)
  have E : Hid (chF c = (if formC c = true then (if 240 < c.pt.length then 6 else polF c.po) else 1)) := Hid.mk' rfl
  unfold chsz at hl
  obtain ⟨x0, x1, x2, x3, x4, x5, x6⟩ := ch_cells h
  clear B0 ha h
  generalize chF c = R at *
  generalize formC c = F at *
  unfold chV at *
  generalize hV : w.alloc (.cells #[.int .i64 c.kd, .int .i64 c.pl, .int .i64 c.nn, .slice p c.pt.length np, .slice a c.po.tg.length n1, .slice b c.po.at_.length n2, .slice d c.po.sc.length n3] 32) = V at *
  go_enter Try.func9, Try.ntmps9
  go_wp2_with fail
  clear hV x0 x1 x2 x3 x4 x5 x6
  refine KF.out.mono ?_
  rintro e w1 ⟨rfl, hb⟩
  have HR := Hid.mk' (HR.out.below hb)
  have HB := Hid.mk' (HB.out.trans (hb.mono HB.out.size))
  clear hb KF
  obtain ⟨x0, x1, x2, x3, x4, x5, x6⟩ := ch_cells HR.out
  cases F with
  | false =>
    have E1 : Hid (R = 1) := Hid.mk' (by rw [E.out]; simp)
    clear E
    go_wp2
    go_ret
    exact ⟨by have h := E1.out; subst h; rfl, HB.out⟩
  | true =>
    have E1 : Hid (R = if 240 < c.pt.length then 6 else polF c.po) := Hid.mk' (by rw [E.out]; simp)
    clear E
    have KP := Hid.mk' (implPF_any c.po a b d n1 n2 n3 w1 (HA.out.below HB.out) (by omega))
    by_cases g2 : 240 < c.pt.length
    · have g3 : (c.pt.length : Int) > 240 := by omega
      have E1 : Hid (R = 6) := Hid.mk' (by rw [E1.out, if_pos g2])
      go_wp2
      go_ret
      exact ⟨by have h := E1.out; subst h; rfl, HB.out⟩
    · have g3 : ¬ (c.pt.length : Int) > 240 := by omega
      have E1 : Hid (R = polF c.po) := Hid.mk' (by rw [E1.out, if_neg g2])
      generalize polF c.po = pf at *
      go_wp2_with fail
      refine KP.out.mono ?_
      rintro e w2 ⟨rfl, hb⟩
      have HB := Hid.mk' (HB.out.trans (hb.mono HB.out.size))
      clear hb
      go_wp2
      go_ret
      exact ⟨by have h := E1.out; subst h; rfl, HB.out⟩

end Go.Proofs.Ytbdjppiagjhfmaa
