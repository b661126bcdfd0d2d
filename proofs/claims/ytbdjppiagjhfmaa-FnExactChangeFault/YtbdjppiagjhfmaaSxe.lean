/- The form of a change: the model's side. -/
import Derived.Test.YtbdjppiagjhfmaaSxc
import Derived.BigGuard
namespace Go.Proofs.Ytbdjppiagjhfmaa
open Go.RowKit
set_option linter.unusedVariables false
set_option linter.unusedSimpArgs false

/-- A policy without a word. -/
def noP (p : PO) : Bool := decide (p.tg.length = 0) && (decide (p.at_.length = 0) && decide (p.sc.length = 0))

/-- Nothing of an edit. -/
def noE (c : CH) : Bool := decide (c.pl = 0) && (decide (c.nn = 0) && decide (c.pt.length = 0))

/-- A change has a form. -/
def formC (c : CH) : Bool :=
  if c.kd = 1 then decide (c.nn = 0) && noP c.po
  else if c.kd = 2 then decide (c.pt.length = 0) && noP c.po
  else if c.kd = 3 then noP c.po
  else if c.kd = 4 then noE c
  else if c.kd = 5 then noE c && noP c.po
  else false

/-- The fault of a change. -/
def chF (c : CH) : Int := if formC c = true then (if 240 < c.pt.length then 6 else polF c.po) else 1

theorem noPolicy_any (g : Nat) (p : PO) (a b d : Option Addr) (n1 n2 n3 : Nat) (w : World) (h : PCell4 w g (.slice a p.tg.length n1) (.slice b p.at_.length n2) (.slice d p.sc.length n3)) (hl : (psz p : Int) ≤ 1048576) :
    Calls Try.prog 88 #[.pointer (some ⟨g, 4, none⟩)] w fun e w' => e = .returned (.bool (noP p)) ∧ Below w.heap.size w w' := by
  unfold psz at hl
  obtain ⟨x0, x1, x2, x3⟩ := h
  have E : Hid (noP p = (decide (p.tg.length = 0) && (decide (p.at_.length = 0) && decide (p.sc.length = 0)))) := Hid.mk' rfl
  generalize noP p = R at *
  by_cases g1 : p.tg.length = 0
  · by_cases g2 : p.at_.length = 0
    · by_cases g3 : p.sc.length = 0
      · go_enter Try.func88, Try.ntmps88
        go_wp2_with (first | go_big_skip)
        go_ret
        exact ⟨by rw [E.out]; simp [g1, g2, g3], Below.refl _ _⟩
      · go_enter Try.func88, Try.ntmps88
        go_wp2_with (first | go_big_skip)
        go_ret
        exact ⟨by rw [E.out]; simp [g1, g2, g3], Below.refl _ _⟩
    · go_enter Try.func88, Try.ntmps88
      go_wp2_with (first | go_big_skip)
      go_ret
      exact ⟨by rw [E.out]; simp [g1, g2], Below.refl _ _⟩
  · go_enter Try.func88, Try.ntmps88
    go_wp2_with (first | go_big_skip)
    go_ret
    exact ⟨by rw [E.out]; simp [g1], Below.refl _ _⟩

theorem l1InC_any (v lo hi : Int) (w : World) : Calls Try.prog 87 #[.int .i64 v, .int .i64 lo, .int .i64 hi] w fun e w' => e = .returned (.bool (decide (lo ≤ v) && decide (v ≤ hi))) ∧ w' = w := by
  by_cases h1 : lo ≤ v
  · by_cases h2 : v ≤ hi
    · go_enter Try.func87, Try.ntmps87
      go_wp2
      go_ret
      exact ⟨by simp [h1, h2], rfl⟩
    · go_enter Try.func87, Try.ntmps87
      go_wp2
      go_ret
      exact ⟨by simp; omega, rfl⟩
  · go_enter Try.func87, Try.ntmps87
    go_wp2
    go_ret
    exact ⟨by simp; omega, rfl⟩

set_option maxHeartbeats 1600000 in
theorem l15Form1_any (g : Nat) (c : CH) (p a b d : Option Addr) (np n1 n2 n3 : Nat) (w : World) (h : RowA w g 32 (chV c p a b d np n1 n2 n3)) (hl : (chsz c : Int) ≤ 1048576) (hk : c.kd = 1) :
    Calls Try.prog 58 #[.pointer (some ⟨g, 0, none⟩)] w fun e w' => e = .returned (.bool (formC c)) ∧ Below w.heap.size w w' := by
  unfold chsz at hl
  have KN := Hid.mk' (noPolicy_any g c.po a b d n1 n2 n3 w ⟨h.cell 4 _ rfl, h.cell 5 _ rfl, h.cell 6 _ rfl, h.lt⟩ (by omega))
  have x0 := h.cell 0 (.int .i64 c.kd) rfl
  have x1 := h.cell 1 (.int .i64 c.pl) rfl
  have x2 := h.cell 2 (.int .i64 c.nn) rfl
  have x3 := h.cell 3 (.slice p c.pt.length np) rfl
  have E : Hid (formC c = (if c.kd = 1 then decide (c.nn = 0) && noP c.po else if c.kd = 2 then decide (c.pt.length = 0) && noP c.po else if c.kd = 3 then noP c.po else if c.kd = 4 then noE c else if c.kd = 5 then noE c && noP c.po else false)) := Hid.mk' rfl
  rw [hk] at x0 E
  have EN : Hid (noE c = (decide (c.pl = 0) && (decide (c.nn = 0) && decide (c.pt.length = 0)))) := Hid.mk' rfl
  clear h
  generalize formC c = R at *
  generalize noP c.po = NP at *
  by_cases g1 : c.nn = 0
  · go_enter Try.func58, Try.ntmps58
    go_wp2_with (first | go_big_skip | (go_at_call 87; refine (l1InC_any _ _ _ _).mono ?_; rintro e w1 ⟨rfl, hw1⟩; obtain rfl := hw1.symm) | (go_at_call 88; refine KN.out.mono ?_; rintro e w2 ⟨rfl, hb2⟩; have HB := Hid.mk' hb2; clear hb2))
    go_ret
    exact ⟨by rw [E.out]; simp [g1, EN.out], HB.out⟩
  · go_enter Try.func58, Try.ntmps58
    go_wp2_with (first | go_big_skip | (go_at_call 87; refine (l1InC_any _ _ _ _).mono ?_; rintro e w1 ⟨rfl, hw1⟩; obtain rfl := hw1.symm) | (go_at_call 88; refine KN.out.mono ?_; rintro e w2 ⟨rfl, hb2⟩; have HB := Hid.mk' hb2; clear hb2))
    go_ret
    exact ⟨by rw [E.out]; simp [g1, EN.out], Below.refl _ _⟩

set_option maxHeartbeats 1600000 in
theorem l15Form2_any (g : Nat) (c : CH) (p a b d : Option Addr) (np n1 n2 n3 : Nat) (w : World) (h : RowA w g 32 (chV c p a b d np n1 n2 n3)) (hl : (chsz c : Int) ≤ 1048576) (hk : c.kd = 2) :
    Calls Try.prog 58 #[.pointer (some ⟨g, 0, none⟩)] w fun e w' => e = .returned (.bool (formC c)) ∧ Below w.heap.size w w' := by
  unfold chsz at hl
  have KN := Hid.mk' (noPolicy_any g c.po a b d n1 n2 n3 w ⟨h.cell 4 _ rfl, h.cell 5 _ rfl, h.cell 6 _ rfl, h.lt⟩ (by omega))
  have x0 := h.cell 0 (.int .i64 c.kd) rfl
  have x1 := h.cell 1 (.int .i64 c.pl) rfl
  have x2 := h.cell 2 (.int .i64 c.nn) rfl
  have x3 := h.cell 3 (.slice p c.pt.length np) rfl
  have E : Hid (formC c = (if c.kd = 1 then decide (c.nn = 0) && noP c.po else if c.kd = 2 then decide (c.pt.length = 0) && noP c.po else if c.kd = 3 then noP c.po else if c.kd = 4 then noE c else if c.kd = 5 then noE c && noP c.po else false)) := Hid.mk' rfl
  rw [hk] at x0 E
  have EN : Hid (noE c = (decide (c.pl = 0) && (decide (c.nn = 0) && decide (c.pt.length = 0)))) := Hid.mk' rfl
  clear h
  generalize formC c = R at *
  generalize noP c.po = NP at *
  by_cases g1 : c.pt.length = 0
  · go_enter Try.func58, Try.ntmps58
    go_wp2_with (first | go_big_skip | (go_at_call 87; refine (l1InC_any _ _ _ _).mono ?_; rintro e w1 ⟨rfl, hw1⟩; obtain rfl := hw1.symm) | (go_at_call 88; refine KN.out.mono ?_; rintro e w2 ⟨rfl, hb2⟩; have HB := Hid.mk' hb2; clear hb2))
    go_ret
    exact ⟨by rw [E.out]; simp [g1, EN.out], HB.out⟩
  · go_enter Try.func58, Try.ntmps58
    go_wp2_with (first | go_big_skip | (go_at_call 87; refine (l1InC_any _ _ _ _).mono ?_; rintro e w1 ⟨rfl, hw1⟩; obtain rfl := hw1.symm) | (go_at_call 88; refine KN.out.mono ?_; rintro e w2 ⟨rfl, hb2⟩; have HB := Hid.mk' hb2; clear hb2))
    go_ret
    exact ⟨by rw [E.out]; simp [g1, EN.out], Below.refl _ _⟩

set_option maxHeartbeats 1600000 in
theorem l15Form3_any (g : Nat) (c : CH) (p a b d : Option Addr) (np n1 n2 n3 : Nat) (w : World) (h : RowA w g 32 (chV c p a b d np n1 n2 n3)) (hl : (chsz c : Int) ≤ 1048576) (hk : c.kd = 3) :
    Calls Try.prog 58 #[.pointer (some ⟨g, 0, none⟩)] w fun e w' => e = .returned (.bool (formC c)) ∧ Below w.heap.size w w' := by
  unfold chsz at hl
  have KN := Hid.mk' (noPolicy_any g c.po a b d n1 n2 n3 w ⟨h.cell 4 _ rfl, h.cell 5 _ rfl, h.cell 6 _ rfl, h.lt⟩ (by omega))
  have x0 := h.cell 0 (.int .i64 c.kd) rfl
  have x1 := h.cell 1 (.int .i64 c.pl) rfl
  have x2 := h.cell 2 (.int .i64 c.nn) rfl
  have x3 := h.cell 3 (.slice p c.pt.length np) rfl
  have E : Hid (formC c = (if c.kd = 1 then decide (c.nn = 0) && noP c.po else if c.kd = 2 then decide (c.pt.length = 0) && noP c.po else if c.kd = 3 then noP c.po else if c.kd = 4 then noE c else if c.kd = 5 then noE c && noP c.po else false)) := Hid.mk' rfl
  rw [hk] at x0 E
  have EN : Hid (noE c = (decide (c.pl = 0) && (decide (c.nn = 0) && decide (c.pt.length = 0)))) := Hid.mk' rfl
  clear h
  generalize formC c = R at *
  generalize noP c.po = NP at *
  go_enter Try.func58, Try.ntmps58
  go_wp2_with (first | go_big_skip | (go_at_call 87; refine (l1InC_any _ _ _ _).mono ?_; rintro e w1 ⟨rfl, hw1⟩; obtain rfl := hw1.symm) | (go_at_call 88; refine KN.out.mono ?_; rintro e w2 ⟨rfl, hb2⟩; have HB := Hid.mk' hb2; clear hb2))
  go_ret
  exact ⟨by rw [E.out]; simp [EN.out], HB.out⟩

set_option maxHeartbeats 1600000 in
theorem l15Form4_any (g : Nat) (c : CH) (p a b d : Option Addr) (np n1 n2 n3 : Nat) (w : World) (h : RowA w g 32 (chV c p a b d np n1 n2 n3)) (hl : (chsz c : Int) ≤ 1048576) (hk : c.kd = 4) :
    Calls Try.prog 58 #[.pointer (some ⟨g, 0, none⟩)] w fun e w' => e = .returned (.bool (formC c)) ∧ Below w.heap.size w w' := by
  unfold chsz at hl
  have KN := Hid.mk' (noPolicy_any g c.po a b d n1 n2 n3 w ⟨h.cell 4 _ rfl, h.cell 5 _ rfl, h.cell 6 _ rfl, h.lt⟩ (by omega))
  have x0 := h.cell 0 (.int .i64 c.kd) rfl
  have x1 := h.cell 1 (.int .i64 c.pl) rfl
  have x2 := h.cell 2 (.int .i64 c.nn) rfl
  have x3 := h.cell 3 (.slice p c.pt.length np) rfl
  have E : Hid (formC c = (if c.kd = 1 then decide (c.nn = 0) && noP c.po else if c.kd = 2 then decide (c.pt.length = 0) && noP c.po else if c.kd = 3 then noP c.po else if c.kd = 4 then noE c else if c.kd = 5 then noE c && noP c.po else false)) := Hid.mk' rfl
  rw [hk] at x0 E
  have EN : Hid (noE c = (decide (c.pl = 0) && (decide (c.nn = 0) && decide (c.pt.length = 0)))) := Hid.mk' rfl
  clear h
  generalize formC c = R at *
  generalize noP c.po = NP at *
  by_cases g1 : c.pl = 0
  · by_cases g2 : c.nn = 0
    · by_cases g3 : c.pt.length = 0
      · go_enter Try.func58, Try.ntmps58
        go_wp2_with (first | go_big_skip | (go_at_call 87; refine (l1InC_any _ _ _ _).mono ?_; rintro e w1 ⟨rfl, hw1⟩; obtain rfl := hw1.symm) | (go_at_call 88; refine KN.out.mono ?_; rintro e w2 ⟨rfl, hb2⟩; have HB := Hid.mk' hb2; clear hb2))
        go_ret
        exact ⟨by rw [E.out]; simp [g1, g2, g3, EN.out], Below.refl _ _⟩
      · go_enter Try.func58, Try.ntmps58
        go_wp2_with (first | go_big_skip | (go_at_call 87; refine (l1InC_any _ _ _ _).mono ?_; rintro e w1 ⟨rfl, hw1⟩; obtain rfl := hw1.symm) | (go_at_call 88; refine KN.out.mono ?_; rintro e w2 ⟨rfl, hb2⟩; have HB := Hid.mk' hb2; clear hb2))
        go_ret
        exact ⟨by rw [E.out]; simp [g1, g2, g3, EN.out], Below.refl _ _⟩
    · go_enter Try.func58, Try.ntmps58
      go_wp2_with (first | go_big_skip | (go_at_call 87; refine (l1InC_any _ _ _ _).mono ?_; rintro e w1 ⟨rfl, hw1⟩; obtain rfl := hw1.symm) | (go_at_call 88; refine KN.out.mono ?_; rintro e w2 ⟨rfl, hb2⟩; have HB := Hid.mk' hb2; clear hb2))
      go_ret
      exact ⟨by rw [E.out]; simp [g1, g2, EN.out], Below.refl _ _⟩
  · go_enter Try.func58, Try.ntmps58
    go_wp2_with (first | go_big_skip | (go_at_call 87; refine (l1InC_any _ _ _ _).mono ?_; rintro e w1 ⟨rfl, hw1⟩; obtain rfl := hw1.symm) | (go_at_call 88; refine KN.out.mono ?_; rintro e w2 ⟨rfl, hb2⟩; have HB := Hid.mk' hb2; clear hb2))
    go_ret
    exact ⟨by rw [E.out]; simp [g1, EN.out], Below.refl _ _⟩

set_option maxHeartbeats 1600000 in
theorem l15Form5_any (g : Nat) (c : CH) (p a b d : Option Addr) (np n1 n2 n3 : Nat) (w : World) (h : RowA w g 32 (chV c p a b d np n1 n2 n3)) (hl : (chsz c : Int) ≤ 1048576) (hk : c.kd = 5) :
    Calls Try.prog 58 #[.pointer (some ⟨g, 0, none⟩)] w fun e w' => e = .returned (.bool (formC c)) ∧ Below w.heap.size w w' := by
  unfold chsz at hl
  have KN := Hid.mk' (noPolicy_any g c.po a b d n1 n2 n3 w ⟨h.cell 4 _ rfl, h.cell 5 _ rfl, h.cell 6 _ rfl, h.lt⟩ (by omega))
  have x0 := h.cell 0 (.int .i64 c.kd) rfl
  have x1 := h.cell 1 (.int .i64 c.pl) rfl
  have x2 := h.cell 2 (.int .i64 c.nn) rfl
  have x3 := h.cell 3 (.slice p c.pt.length np) rfl
  have E : Hid (formC c = (if c.kd = 1 then decide (c.nn = 0) && noP c.po else if c.kd = 2 then decide (c.pt.length = 0) && noP c.po else if c.kd = 3 then noP c.po else if c.kd = 4 then noE c else if c.kd = 5 then noE c && noP c.po else false)) := Hid.mk' rfl
  rw [hk] at x0 E
  have EN : Hid (noE c = (decide (c.pl = 0) && (decide (c.nn = 0) && decide (c.pt.length = 0)))) := Hid.mk' rfl
  clear h
  generalize formC c = R at *
  generalize noP c.po = NP at *
  by_cases g1 : c.pl = 0
  · by_cases g2 : c.nn = 0
    · by_cases g3 : c.pt.length = 0
      · go_enter Try.func58, Try.ntmps58
        go_wp2_with (first | go_big_skip | (go_at_call 87; refine (l1InC_any _ _ _ _).mono ?_; rintro e w1 ⟨rfl, hw1⟩; obtain rfl := hw1.symm) | (go_at_call 88; refine KN.out.mono ?_; rintro e w2 ⟨rfl, hb2⟩; have HB := Hid.mk' hb2; clear hb2))
        go_ret
        exact ⟨by rw [E.out]; simp [g1, g2, g3, EN.out], HB.out⟩
      · go_enter Try.func58, Try.ntmps58
        go_wp2_with (first | go_big_skip | (go_at_call 87; refine (l1InC_any _ _ _ _).mono ?_; rintro e w1 ⟨rfl, hw1⟩; obtain rfl := hw1.symm) | (go_at_call 88; refine KN.out.mono ?_; rintro e w2 ⟨rfl, hb2⟩; have HB := Hid.mk' hb2; clear hb2))
        go_ret
        exact ⟨by rw [E.out]; simp [g1, g2, g3, EN.out], Below.refl _ _⟩
    · go_enter Try.func58, Try.ntmps58
      go_wp2_with (first | go_big_skip | (go_at_call 87; refine (l1InC_any _ _ _ _).mono ?_; rintro e w1 ⟨rfl, hw1⟩; obtain rfl := hw1.symm) | (go_at_call 88; refine KN.out.mono ?_; rintro e w2 ⟨rfl, hb2⟩; have HB := Hid.mk' hb2; clear hb2))
      go_ret
      exact ⟨by rw [E.out]; simp [g1, g2, EN.out], Below.refl _ _⟩
  · go_enter Try.func58, Try.ntmps58
    go_wp2_with (first | go_big_skip | (go_at_call 87; refine (l1InC_any _ _ _ _).mono ?_; rintro e w1 ⟨rfl, hw1⟩; obtain rfl := hw1.symm) | (go_at_call 88; refine KN.out.mono ?_; rintro e w2 ⟨rfl, hb2⟩; have HB := Hid.mk' hb2; clear hb2))
    go_ret
    exact ⟨by rw [E.out]; simp [g1, EN.out], Below.refl _ _⟩

set_option maxHeartbeats 1600000 in
theorem l15FormN_any (g : Nat) (c : CH) (p a b d : Option Addr) (np n1 n2 n3 : Nat) (w : World) (h : RowA w g 32 (chV c p a b d np n1 n2 n3)) (hl : (chsz c : Int) ≤ 1048576) (hk : c.kd < 1 ∨ 5 < c.kd) :
    Calls Try.prog 58 #[.pointer (some ⟨g, 0, none⟩)] w fun e w' => e = .returned (.bool (formC c)) ∧ Below w.heap.size w w' := by
  unfold chsz at hl
  have KN := Hid.mk' (noPolicy_any g c.po a b d n1 n2 n3 w ⟨h.cell 4 _ rfl, h.cell 5 _ rfl, h.cell 6 _ rfl, h.lt⟩ (by omega))
  have x0 := h.cell 0 (.int .i64 c.kd) rfl
  have x1 := h.cell 1 (.int .i64 c.pl) rfl
  have x2 := h.cell 2 (.int .i64 c.nn) rfl
  have x3 := h.cell 3 (.slice p c.pt.length np) rfl
  have E : Hid (formC c = (if c.kd = 1 then decide (c.nn = 0) && noP c.po else if c.kd = 2 then decide (c.pt.length = 0) && noP c.po else if c.kd = 3 then noP c.po else if c.kd = 4 then noE c else if c.kd = 5 then noE c && noP c.po else false)) := Hid.mk' rfl
  have EN : Hid (noE c = (decide (c.pl = 0) && (decide (c.nn = 0) && decide (c.pt.length = 0)))) := Hid.mk' rfl
  clear h
  have EF : Hid (formC c = false) := Hid.mk' (by rw [E.out, if_neg (by omega), if_neg (by omega), if_neg (by omega), if_neg (by omega), if_neg (by omega)])
  clear E
  generalize formC c = R at *
  generalize c.kd = kd at *
  generalize noP c.po = NP at *
  have o1 : (decide (1 ≤ kd) && decide (kd ≤ 5)) = false := by
    rcases hk with hk | hk
    · have : ¬ 1 ≤ kd := by omega
      simp [this]
    · have : ¬ kd ≤ 5 := by omega
      simp [this]
  have K1 : Hid (Calls Try.prog 87 #[.int .i64 kd, .int .i64 1, .int .i64 5] w fun e w' => e = .returned (.bool false) ∧ w' = w) := Hid.mk' (by rw [← o1]; exact l1InC_any kd 1 5 w)
  clear o1
  have m1 : ¬ kd = 2 := by omega
  have m2 : ¬ kd = 3 := by omega
  have m3 : ¬ kd = 1 := by omega
  rcases hk with hk | hk
  · have m4 : ¬ 1 ≤ kd := by omega
    go_enter Try.func58, Try.ntmps58
    go_wp2_with (first | go_big_skip | (go_at_call 87; refine K1.out.mono ?_; rintro e w1 ⟨rfl, hw1⟩; obtain rfl := hw1.symm))
    go_ret
    exact ⟨by rw [EF.out]; rfl, Below.refl _ _⟩
  · have m4 : 1 ≤ kd := by omega
    have m5 : ¬ kd ≤ 3 := by omega
    go_enter Try.func58, Try.ntmps58
    go_wp2_with (first | go_big_skip | (go_at_call 87; refine K1.out.mono ?_; rintro e w1 ⟨rfl, hw1⟩; obtain rfl := hw1.symm))
    go_ret
    exact ⟨by rw [EF.out]; rfl, Below.refl _ _⟩

theorem l15Form_any (g : Nat) (c : CH) (p a b d : Option Addr) (np n1 n2 n3 : Nat) (w : World) (h : RowA w g 32 (chV c p a b d np n1 n2 n3)) (hl : (chsz c : Int) ≤ 1048576) :
    Calls Try.prog 58 #[.pointer (some ⟨g, 0, none⟩)] w fun e w' => e = .returned (.bool (formC c)) ∧ Below w.heap.size w w' := by
  by_cases h1 : c.kd = 1
  · exact l15Form1_any g c p a b d np n1 n2 n3 w h hl h1
  by_cases h2 : c.kd = 2
  · exact l15Form2_any g c p a b d np n1 n2 n3 w h hl h2
  by_cases h3 : c.kd = 3
  · exact l15Form3_any g c p a b d np n1 n2 n3 w h hl h3
  by_cases h4 : c.kd = 4
  · exact l15Form4_any g c p a b d np n1 n2 n3 w h hl h4
  by_cases h5 : c.kd = 5
  · exact l15Form5_any g c p a b d np n1 n2 n3 w h hl h5
  exact l15FormN_any g c p a b d np n1 n2 n3 w h hl (by omega)

set_option maxHeartbeats 1600000 in
theorem l15Change_any (g : Nat) (c : CH) (p a b d : Option Addr) (np n1 n2 n3 : Nat) (w : World) (hr : RowA w g 32 (chV c p a b d np n1 n2 n3)) (ha : POAt w a b d c.po) (hl : (chsz c : Int) ≤ 1048576) :
    Calls Try.prog 30 #[.pointer (some ⟨g, 0, none⟩)] w fun e w' => e = .returned (.int .i64 (chF c)) ∧ Below w.heap.size w w' := by
  have KF := Hid.mk' (l15Form_any g c p a b d np n1 n2 n3 w hr hl)
  have HR := Hid.mk' hr
  have HA := Hid.mk' ha
  have E : Hid (chF c = (if formC c = true then (if 240 < c.pt.length then 6 else polF c.po) else 1)) := Hid.mk' rfl
  unfold chsz at hl
  clear hr ha
  generalize chF c = R at *
  cases hf : formC c with
  | false =>
    rw [hf] at KF E
    have E1 : Hid (R = 1) := Hid.mk' (by rw [E.out]; simp)
    clear E
    go_enter Try.func30, Try.ntmps30
    go_wp2_with fail
    refine KF.out.mono ?_
    rintro e w1 ⟨rfl, hb⟩
    have HB := Hid.mk' hb
    clear hb KF
    go_wp2
    go_ret
    exact ⟨by have h := E1.out; subst h; rfl, HB.out⟩
  | true =>
    rw [hf] at KF E
    have E1 : Hid (R = if 240 < c.pt.length then 6 else polF c.po) := Hid.mk' (by rw [E.out]; simp)
    clear E
    go_enter Try.func30, Try.ntmps30
    go_wp2_with fail
    refine KF.out.mono ?_
    rintro e w1 ⟨rfl, hb⟩
    have HB := Hid.mk' hb
    have h1 := HR.out.below hb
    have x3 := h1.cell 3 (.slice p c.pt.length np) rfl
    have KP := Hid.mk' (l8Fault4_any c.po g a b d n1 n2 n3 w1 ⟨h1.cell 4 _ rfl, h1.cell 5 _ rfl, h1.cell 6 _ rfl, h1.lt⟩ (HA.out.below hb) (by omega))
    clear hb KF h1
    by_cases g2 : 240 < c.pt.length
    · have g3 : (c.pt.length : Int) > 240 := by omega
      have E1 : Hid (R = 6) := Hid.mk' (by rw [E1.out, if_pos g2])
      go_wp2
      go_ret
      exact ⟨by have h := E1.out; subst h; rfl, HB.out⟩
    · have g3 : ¬ (c.pt.length : Int) > 240 := by omega
      have E1 : Hid (R = polF c.po) := Hid.mk' (by rw [E1.out, if_neg g2])
      generalize polF c.po = pf at *
      go_wp2_with fail
      refine KP.out.mono ?_
      rintro e w2 ⟨rfl, hb⟩
      have HB := Hid.mk' (HB.out.trans (hb.mono HB.out.size))
      clear hb
      go_wp2
      go_ret
      exact ⟨by have h := E1.out; subst h; rfl, HB.out⟩

theorem specCF_any (c : CH) (p a b d : Option Addr) (np n1 n2 n3 : Nat) (w : World) (ha : CHAt w p a b d c) (hl : (chsz c : Int) ≤ 1048576) :
    Calls Try.prog 7 #[.agg (chV c p a b d np n1 n2 n3)] w fun e w' => e = .returned (.int .i64 (chF c)) ∧ Below w.heap.size w w' := by
  have B0 := below_new w (.cells (chV c p a b d np n1 n2 n3) 32)
  have KC := Hid.mk' (l15Change_any w.heap.size c p a b d np n1 n2 n3 _ (RowA.new w 32 _) (ha.2.below B0) hl)
  have HB := Hid.mk' B0
  clear B0 ha
  unfold chV at *
  generalize hV : w.alloc (.cells #[.int .i64 c.kd, .int .i64 c.pl, .int .i64 c.nn, .slice p c.pt.length np, .slice a c.po.tg.length n1, .slice b c.po.at_.length n2, .slice d c.po.sc.length n3] 32) = V at *
  go_enter Try.func7, Try.ntmps7
  go_wp2_with fail
  clear hV
  refine KC.out.mono ?_
  rintro e w1 ⟨rfl, hb⟩
  have HB := Hid.mk' (HB.out.trans (hb.mono HB.out.size))
  clear hb KC
  go_wp2
  go_ret
  exact ⟨rfl, HB.out⟩

end Go.Proofs.Ytbdjppiagjhfmaa
