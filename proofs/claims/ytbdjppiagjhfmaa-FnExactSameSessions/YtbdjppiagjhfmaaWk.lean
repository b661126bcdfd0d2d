/- Walks: the text of a table, the program's side. -/
import Derived.Test.YtbdjppiagjhfmaaWj
namespace Go.Proofs.Ytbdjppiagjhfmaa
open Go.RowKit
set_option linter.unusedVariables false

set_option maxHeartbeats 400000 in
theorem eqBR_any (c : Int) (s u : Value) (l : List Int) (w : World) (h : ∃ a d, s = .slice a l.length d ∧ BAt w a l) (h' : ∃ a d, u = .slice a l.length d ∧ BAt w a l) (hl : (l.length : Int) ≤ 1048576) :
    Calls Try.prog 16 #[.agg #[.int .i64 c, s], .agg #[.int .i64 c, u]] w fun e w' => e = .returned (.bool true) ∧ Below w.heap.size w w' := by
  obtain ⟨a, d, rfl, h1⟩ := h
  obtain ⟨a', d', rfl, h2⟩ := h'
  have B0 := (below_new w (.cells #[.int .i64 c, .slice a l.length d] 39)).alloc (by simp) (.cells #[.int .i64 c, .slice a' l.length d'] 39)
  have KK := Hid.mk' (eqByteS_any a a' d d' l _ (h1.below B0) (h2.below B0) hl)
  have BB := Hid.mk' B0
  clear B0 h1 h2
  go_enter Try.func16, Try.ntmps16
  go_wp2_with fail
  refine KK.out.mono ?_
  rintro e w1 ⟨rfl, hb1⟩
  have B1 := Hid.mk' (BB.out.trans (hb1.mono BB.out.size))
  clear KK BB hb1
  go_wp2
  go_ret
  exact ⟨rfl, B1.out⟩

set_option maxHeartbeats 400000 in
theorem markBR_any (c : Int) (s : Value) (l : List Int) (w : World) (h : OB w s l) (hl : (l.length : Int) ≤ 1048576) :
    Calls Try.prog 21 #[.agg #[.int .i64 c, s], .int .i64 1] w fun e w' => e = .returned (.int .i64 (1 + (l.length : Int))) ∧ OB w' s (mb 1 l.length) ∧ ∃ w1, Below w.heap.size w w1 ∧ Turned s w1 w' := by
  have B0 := below_new w (.cells #[.int .i64 c, s] 39)
  have KK := Hid.mk' (markByteS_own 1 s l _ (h.below B0) (by omega))
  obtain ⟨a, d, rfl, _⟩ := h.len
  have BB := Hid.mk' B0
  clear B0 h
  go_enter Try.func21, Try.ntmps21
  go_wp2_with fail
  refine KK.out.mono ?_
  rintro e w1 ⟨rfl, o1, t1⟩
  have O1 := Hid.mk' o1
  have T1 := Hid.mk' t1
  clear KK o1 t1
  go_wp2
  go_ret
  exact ⟨rfl, O1.out, _, BB.out, T1.out⟩

set_option maxHeartbeats 400000 in
theorem heldBR_any (c : Int) (s : Value) (n : Nat) (w : World) (h : ∃ a d, s = .slice a n d ∧ BAt w a (mb 1 n)) (hl : (n : Int) ≤ 1048576) :
    Calls Try.prog 22 #[.agg #[.int .i64 c, s], .int .i64 1] w fun e w' => e = .returned (.int .i64 (1 + (n : Int))) ∧ Below w.heap.size w w' := by
  obtain ⟨a, d, rfl, h1⟩ := h
  have B0 := below_new w (.cells #[.int .i64 c, .slice a n d] 39)
  have KK := Hid.mk' (heldByteS_any a d n 1 _ (h1.below B0) (by omega))
  have BB := Hid.mk' B0
  clear B0 h1
  go_enter Try.func22, Try.ntmps22
  go_wp2_with fail
  refine KK.out.mono ?_
  rintro e w1 ⟨rfl, hb1⟩
  have B1 := Hid.mk' (BB.out.trans (hb1.mono BB.out.size))
  clear KK BB hb1
  go_wp2
  go_ret
  exact ⟨rfl, B1.out⟩

end Go.Proofs.Ytbdjppiagjhfmaa
