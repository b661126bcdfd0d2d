/- EscapeAll: both sides. -/
import Derived.Test.YtlmmkmcchfnclaaDoorRf
import Derived.Test.YtlmmkmcchfnclaaDoorRm
namespace Go.Proofs.YtlmmkmcchfnclaaDoor
open Go.RowKit Go.Maps
set_option linter.unusedVariables false
set_option linter.unusedSimpArgs false

/-- The handle of the type of errors. -/
def ErrT (w : World) : Prop := w.cell? ⟨0, 0, none⟩ = some (.iface 71 (.agg #[.pointer (some ⟨2, 36, none⟩)]))

theorem ErrT.lt {w : World} (h : ErrT w) : 0 < w.heap.size := by
  rcases Nat.eq_zero_or_pos w.heap.size with h0 | h'
  · simp [ErrT, World.cell?, h0] at h
  · exact h'
theorem ErrT.below {w w' : World} (h : ErrT w) (hb : Below w.heap.size w w') : ErrT w' := by
  unfold ErrT
  rw [hb.cell (p := ⟨0, 0, none⟩) h.lt]; exact h

theorem codeOf_nil (w : World) : Calls Tryd.prog 14 #[.nilIface] w fun e w' => e = .returned (.int .i64 0) ∧ Below w.heap.size w w' := by
  have B0 := Hid.mk' (below_new w (.cells #[.int .i64 0] 43))
  go_enter Tryd.func14, Tryd.ntmps14
  go_wp2_with (go_at_call 19; refine (as_nil _ _).mono ?_; rintro e w' ⟨rfl, rfl⟩)
  go_ret
  exact ⟨rfl, B0.out⟩

set_option maxHeartbeats 800000 in
theorem codeOf_hit (c : Int) (w : World) (hE : ErrT w) : Calls Tryd.prog 14 #[.iface 43 (.agg #[.int .i64 c])] w fun e w' => e = .returned (.int .i64 c) ∧ Below w.heap.size w w' := by
  have B0 := below_new w (.cells #[.int .i64 0] 43)
  have hit := Hid.mk' (as_hit c ⟨w.heap.size, 0, none⟩ (.int .i64 0) _ (hE.below B0) (by simp) (by simp))
  have hh : Below w.heap.size w (((((w.alloc (.cells #[.int .i64 0] 43)).alloc (.cells #[.pointer (some ⟨w.heap.size, 0, none⟩)] 45)).alloc (.cells #[.pointer (some ⟨2, 45, none⟩), .pointer (some ⟨(w.alloc (.cells #[.int .i64 0] 43)).heap.size, 0, none⟩), .int .u64 150] 56)).alloc (.cells #[.pointer (some ⟨2, 45, none⟩), .pointer (some ⟨(w.alloc (.cells #[.int .i64 0] 43)).heap.size, 0, none⟩), .int .u64 150] 56)).alloc (.cells #[.int .i64 c] 43)) :=
    ((((B0.alloc (by simp) _).alloc (by simp; omega) _).alloc (by simp; omega) _).alloc (by simp; omega) _)
  have hc : (((((w.alloc (.cells #[.int .i64 0] 43)).alloc (.cells #[.pointer (some ⟨w.heap.size, 0, none⟩)] 45)).alloc (.cells #[.pointer (some ⟨2, 45, none⟩), .pointer (some ⟨(w.alloc (.cells #[.int .i64 0] 43)).heap.size, 0, none⟩), .int .u64 150] 56)).alloc (.cells #[.pointer (some ⟨2, 45, none⟩), .pointer (some ⟨(w.alloc (.cells #[.int .i64 0] 43)).heap.size, 0, none⟩), .int .u64 150] 56)).alloc (.cells #[.int .i64 c] 43)).cell? ⟨w.heap.size, 0, none⟩ = some (.int .i64 0) := by
    rw [World.cell?_alloc_lt _ _ ⟨w.heap.size, 0, none⟩ (by simp; omega), World.cell?_alloc_lt _ _ ⟨w.heap.size, 0, none⟩ (by simp; omega), World.cell?_alloc_lt _ _ ⟨w.heap.size, 0, none⟩ (by simp; omega), World.cell?_alloc_lt _ _ ⟨w.heap.size, 0, none⟩ (by simp)]
    simp
  have HH := Hid.mk' (hh.setCell (p := ⟨w.heap.size, 0, none⟩) (Nat.le_refl _) (.int .i64 c))
  have HC := Hid.mk' (World.cell?_setCell_same _ _ (.int .i64 c) hc)
  clear hh hc B0 hE
  go_enter Tryd.func14, Tryd.ntmps14
  go_wp2_with fail
  refine hit.out.mono ?_
  rintro e w' ⟨rfl, hw⟩
  rw [← hw] at HH HC
  have hc := HC.out
  clear hw hit HC
  go_wp2
  go_ret
  exact ⟨rfl, HH.out⟩

/-- A code as an error. -/
def eV (c : Int) : Value := if c = 0 then .nilIface else .iface 43 (.agg #[.int .i64 c])

set_option maxHeartbeats 400000 in
theorem fit_any (c : Int) (w : World) : Calls Tryd.prog 18 #[.int .i64 c] w fun e w' => e = .returned (eV c) ∧ Below w.heap.size w w' := by
  have B0 := Hid.mk' (below_new w (.cells #[.int .i64 0] 43))
  unfold eV
  by_cases h : c = 0
  · rw [if_pos h]
    subst h
    go_enter Tryd.func18, Tryd.ntmps18
    go_wp2
    go_ret
    exact ⟨rfl, Below.refl _ _⟩
  · rw [if_neg h]
    have hb : (c == 0) = false := by simp [h]
    go_enter Tryd.func18, Tryd.ntmps18
    go_wp2
    go_ret
    first
    | exact ⟨rfl, Below.refl _ _⟩
    | exact ⟨rfl, B0.out.setCell (p := ⟨w.heap.size, 0, none⟩) (Nat.le_refl _) _⟩

theorem codeOf_any (c : Int) (w : World) (hE : ErrT w) : Calls Tryd.prog 14 #[eV c] w fun e w' => e = .returned (.int .i64 c) ∧ Below w.heap.size w w' := by
  unfold eV
  by_cases h : c = 0
  · rw [if_pos h, h]; exact codeOf_nil w
  · rw [if_neg h]; exact codeOf_hit c w hE
end Go.Proofs.YtlmmkmcchfnclaaDoor
