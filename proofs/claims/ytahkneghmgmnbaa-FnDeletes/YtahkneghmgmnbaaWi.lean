/- Walks: NewTable, both sides. -/
import Derived.Test.YtahkneghmgmnbaaWh
namespace Go.Proofs.Ytahkneghmgmnbaa
open Go.RowKit
set_option linter.unusedVariables false

/-- The code of a new table, and the table beside it. -/
def newCode (l : List Int) : Int := if 240 < l.length then 6 else 0
def newTR (l : List Int) : TB := if 240 < l.length then ⟨[], [], []⟩ else newT l

theorem OT.empty (lo hi : Nat) (w : World) : OT lo hi w (.slice none 0 0) (.slice none 0 0) (.slice none 0 0) ⟨[], [], []⟩ :=
  ⟨OB.none _, OB.none _, OP.none _, In.nil _ _, In.nil _ _, In.nil _ _, Ap.nil_left _, Ap.nil_left _, Ap.nil_left _⟩

theorem OT.mono {lo hi lo' hi' : Nat} {w : World} {s1 s2 s3 : Value} {t : TB} (h : OT lo hi w s1 s2 s3 t) (h1 : lo' ≤ lo) (h2 : hi ≤ hi') : OT lo' hi' w s1 s2 s3 t :=
  ⟨h.o1, h.o2, h.o3, h.i1.mono h1 h2, h.i2.mono h1 h2, h.i3.mono h1 h2, h.a12, h.a13, h.a23⟩

/-- The three slices of a table of one's own, by their lengths. -/
theorem OT.forms {lo hi : Nat} {w : World} {s1 s2 s3 : Value} {t : TB} (h : OT lo hi w s1 s2 s3 t) : ∃ a1 b1 a2 b2 a3 b3, s1 = .slice a1 t.base.length b1 ∧ s2 = .slice a2 t.more.length b2 ∧ s3 = .slice a3 t.pcs.length b3 := by
  obtain ⟨a1, b1, e1, _⟩ := h.o1.len
  obtain ⟨a2, b2, e2, _⟩ := h.o2.len
  obtain ⟨a3, b3, e3, _⟩ := h.o3.len
  exact ⟨a1, b1, a2, b2, a3, b3, e1, e2, e3⟩

set_option maxHeartbeats 400000 in
theorem specNew_any (a : Option Addr) (c : Nat) (l : List Int) (w : World) (ha : BAt w a l) (hl : (l.length : Int) ≤ 1048576) :
    Calls Try.prog 12 #[.slice a l.length c] w fun e w' => ∃ s1 s2 s3, e = .returned (.agg #[.int .i64 (newCode l), s1, s2, s3]) ∧ OT w.heap.size w'.heap.size w' s1 s2 s3 (newTR l) ∧ Below w.heap.size w w' := by
  have B0 := below_new w (.cells #[.int .i64 0, .slice none 0 0, .slice none 0 0, .slice none 0 0] 30)
  by_cases h0 : 240 < l.length
  · have e1 : newCode l = 6 := by unfold newCode; rw [if_pos h0]
    have e2 : newTR l = ⟨[], [], []⟩ := by unfold newTR; rw [if_pos h0]
    rw [e1, e2]
    clear e1 e2 ha
    go_enter Try.func12, Try.ntmps12
    go_wp2
    refine bodyPost_ret (v := .agg #[.int .i64 6, .slice none 0 0, .slice none 0 0, .slice none 0 0]) (by simp [results, Try.results12, go_sem]) rfl ?_
    exact ⟨_, _, _, rfl, OT.empty _ _ _, below_new w _⟩
  · have E1 : Hid (newCode l = 0) := by unfold newCode; rw [if_neg h0]; exact rfl
    have E2 : Hid (newTR l = newT l) := by unfold newTR; rw [if_neg h0]; exact rfl
    have K := Hid.mk' (l1New_any a c l _ (ha.below B0) hl)
    have BB := Hid.mk' B0
    clear B0 ha
    go_enter Try.func12, Try.ntmps12
    go_wp2_with fail
    refine K.out.mono ?_
    rintro e w1 ⟨s1, s2, s3, rfl, ot1, hb1⟩
    have O1 := Hid.mk' ot1
    obtain ⟨a1, b1, a2, b2, a3, b3, rfl, rfl, rfl⟩ := ot1.forms
    have B1 := Hid.mk' (BB.out.trans (hb1.mono BB.out.size))
    obtain ⟨hc1, hf1⟩ := bcell hb1
    simp at hc1 hf1
    have y := hb1.size
    simp at y
    have y' : w.heap.size < w1.heap.size := by omega
    clear K hb1 ot1
    go_wp2
    refine bodyPost_ret (v := .agg #[.int .i64 0, .slice a1 (newT l).base.length b1, .slice a2 (newT l).more.length b2, .slice a3 (newT l).pcs.length b3]) (by simp [results, Try.results12, go_sem, *]) rfl ?_
    have hk := kept4 w1 w.heap.size 0 1 2 3 (.int .i64 0) (.slice a1 (newT l).base.length b1) (.slice a2 (newT l).more.length b2) (.slice a3 (newT l).pcs.length b3)
    refine ⟨_, _, _, by rw [E1.out], ?_, B1.out.trans (hk.below (Nat.le_refl _) (by omega))⟩
    rw [E2.out]
    exact ((O1.out.kept hk (by simp)).mono (by simp) (by simp))

set_option maxHeartbeats 400000 in
theorem copyBytes_any (a : Option Addr) (c : Nat) (l : List Int) (w : World) (ha : BAt w a l) (hl : (l.length : Int) ≤ 1048576) :
    Calls Try.prog 39 #[.slice a l.length c] w fun e w' => ∃ g, e = .returned (.slice (some ⟨g, 0, none⟩) l.length l.length) ∧ w.heap.size ≤ g ∧ w'.rowIs g 5 l.length (bv l) ∧ Below w.heap.size w w' := by
  have K := Hid.mk' (joinBytes_nil a none c 0 l w ha (by omega))
  go_enter Try.func39, Try.ntmps39
  go_wp2_with fail
  refine K.out.mono ?_
  rintro e w1 ⟨g, rfl, h1, h2, h3⟩
  have H1 := Hid.mk' h2
  have H2 := Hid.mk' h3
  clear K h2 h3
  go_wp2
  go_ret
  exact ⟨g, rfl, h1, H1.out, H2.out⟩

theorem ob_of_row {w : World} {g n : Nat} {l : List Int} (e : l.length = n) (h : w.rowIs g 5 n (bv l)) : OB w (.slice (some ⟨g, 0, none⟩) n n) l := by
  subst e; exact .inr ⟨g, _, _, _, rfl, Nat.le_refl _, h, Nat.le_refl _, fun _ _ => rfl⟩

set_option maxHeartbeats 400000 in
theorem implNew_any (a : Option Addr) (c : Nat) (l : List Int) (w : World) (ha : BAt w a l) (hl : (l.length : Int) ≤ 1048576) :
    Calls Try.prog 11 #[.slice a l.length c] w fun e w' => ∃ s1 s2 s3, e = .returned (.agg #[.int .i64 (newCode l), s1, s2, s3]) ∧ OT w.heap.size w'.heap.size w' s1 s2 s3 (newTR l) ∧ Below w.heap.size w w' := by
  have B0 := below_new w (.cells #[.int .i64 0, .slice none 0 0, .slice none 0 0, .slice none 0 0] 30)
  by_cases h0 : 240 < l.length
  · have e1 : newCode l = 6 := by unfold newCode; rw [if_pos h0]
    have e2 : newTR l = ⟨[], [], []⟩ := by unfold newTR; rw [if_pos h0]
    rw [e1, e2]
    clear e1 e2 ha
    go_enter Try.func11, Try.ntmps11
    go_wp2
    refine bodyPost_ret (v := .agg #[.int .i64 6, .slice none 0 0, .slice none 0 0, .slice none 0 0]) (by simp [results, Try.results11, go_sem]) rfl ?_
    exact ⟨_, _, _, rfl, OT.empty _ _ _, below_new w _⟩
  · have E1 : Hid (newCode l = 0) := by unfold newCode; rw [if_neg h0]; exact rfl
    have E2 : Hid (newTR l = newT l) := by unfold newTR; rw [if_neg h0]; exact rfl
    have K := Hid.mk' (copyBytes_any a c l _ (ha.below B0) hl)
    have BB := Hid.mk' B0
    clear B0 ha
    by_cases h1 : l.length = 0
    · have e3 : Hid (newPcs l = []) := by unfold newPcs; rw [if_pos h1]; exact rfl
      have H1 := Hid.mk' h1
      rw [h1] at K ⊢
      clear h1 h0
      go_enter Try.func11, Try.ntmps11
      go_wp2_with fail
      refine K.out.mono ?_
      rintro e w1 ⟨g, rfl, hg, hr1, hb1⟩
      have R1 := Hid.mk' hr1
      have hlt := hr1.lt
      have B1 := Hid.mk' (BB.out.trans (hb1.mono BB.out.size))
      obtain ⟨hc1, hf1⟩ := bcell hb1
      simp at hc1 hf1 hg
      have y := hb1.size
      simp at y
      have y' : w.heap.size < w1.heap.size := by omega
      clear K hb1 hr1
      go_wp2
      refine bodyPost_ret (v := .agg #[.int .i64 0, .slice (some ⟨g, 0, none⟩) 0 0, .slice none 0 0, .slice none 0 0]) (by simp [results, Try.results11, go_sem, *]) rfl ?_
      have hk := (kept4 w1 w.heap.size 0 1 2 3 (.int .i64 0) (.slice (some ⟨g, 0, none⟩) 0 0) (.slice none 0 0) (.slice none 0 0)).alloc (.cells #[.slice (some ⟨g, 0, none⟩) 0 0, .slice none 0 0, .slice none 0 0] 26)
      have i1 := In.at (n := 0) (c := 0) (lo := w.heap.size + 1) (g := g) (hi := w1.heap.size) (by omega) (by omega)
      refine ⟨_, _, _, by rw [E1.out], ?_, B1.out.trans (hk.below (Nat.le_refl _) (by omega))⟩
      rw [E2.out]
      refine ⟨(ob_of_row H1.out R1.out).kept i1 hk (by simp), OB.none _, ?_, i1.mono (by simp) hk.size, In.nil _ _, In.nil _ _, Ap.nil_right _, Ap.nil_right _, Ap.nil_left _⟩
      show OP _ _ (newPcs l)
      rw [e3.out]; exact OP.none _
    · have hp : (0 : Int) < (l.length : Int) := by omega
      have e3 : Hid (newPcs l = [⟨false, 0, l.length⟩]) := by unfold newPcs; rw [if_neg h1]; exact rfl
      go_enter Try.func11, Try.ntmps11
      go_wp2_with fail
      refine K.out.mono ?_
      rintro e w1 ⟨g, rfl, hg, hr1, hb1⟩
      have R1 := Hid.mk' hr1
      have hlt := hr1.lt
      have B1 := Hid.mk' (BB.out.trans (hb1.mono BB.out.size))
      obtain ⟨hc1, hf1⟩ := bcell hb1
      simp at hc1 hf1 hg
      have y := hb1.size
      simp at y
      have y' : w.heap.size < w1.heap.size := by omega
      clear K hb1 hr1
      go_wp2
      refine bodyPost_ret (v := .agg #[.int .i64 0, .slice (some ⟨g, 0, none⟩) l.length l.length, .slice none 0 0, .slice (some ⟨w1.heap.size + 1, 0, none⟩) 1 1]) (by simp [results, Try.results11, go_sem, *]) rfl ?_
      have k1 := kept4 w1 w.heap.size 0 1 2 3 (.int .i64 0) (.slice (some ⟨g, 0, none⟩) l.length l.length) (.slice none 0 0) (.slice (some ⟨w1.heap.size + 1, 0, none⟩) 1 1)
      have hk := (k1.alloc (.cells #[.slice (some ⟨g, 0, none⟩) l.length l.length, .slice none 0 0, .slice (some ⟨w1.heap.size + 1, 0, none⟩) 1 1] 26)).alloc (.cells #[.bool false, .int .i64 0, .int .i64 l.length] 72)
      have hr := row3 (((((w1.setCell ⟨w.heap.size, 0, none⟩ (.int .i64 0)).setCell ⟨w.heap.size, 1, none⟩ (.slice (some ⟨g, 0, none⟩) l.length l.length)).setCell ⟨w.heap.size, 2, none⟩ (.slice none 0 0)).setCell ⟨w.heap.size, 3, none⟩ (.slice (some ⟨w1.heap.size + 1, 0, none⟩) 1 1)).alloc (.cells #[.slice (some ⟨g, 0, none⟩) l.length l.length, .slice none 0 0, .slice (some ⟨w1.heap.size + 1, 0, none⟩) 1 1] 26)) 72 (.bool false) (.int .i64 0) (.int .i64 l.length)
      simp only [World.heap_size_setCell', World.heap_size_alloc'] at hr
      have i1 := In.at (n := l.length) (c := l.length) (lo := w.heap.size + 1) (g := g) (hi := w1.heap.size) (by omega) (by omega)
      have i3 := In.at (n := 1) (c := 1) (lo := w.heap.size) (g := w1.heap.size + 1) (hi := w1.heap.size + 2) (by omega) (by omega)
      refine ⟨_, _, _, by rw [E1.out], ?_, B1.out.trans (hk.below (Nat.le_refl _) (by omega))⟩
      rw [E2.out]
      refine ⟨(ob_of_row rfl R1.out).kept i1 hk (by simp), OB.none _, ?_, i1.mono (by simp) hk.size, In.nil _ _, i3.mono (Nat.le_refl _) (by simp), Ap.nil_right _, ?_, Ap.nil_left _⟩
      · show OP _ _ (newPcs l)
        rw [e3.out]
        exact .inr ⟨_, 1, 3, _, rfl, Nat.le_refl _, hr, ⟨rfl, by decide⟩, fun i hi => by
          have : i = 0 ∨ i = 1 ∨ i = 2 := by simp at hi; omega
          rcases this with rfl | rfl | rfl <;> simp [r3, pv, pc]⟩
      · intro k h1 h2
        have := i1 k h1
        simp [Value.ownBlock] at h2
        omega

end Go.Proofs.Ytahkneghmgmnbaa
