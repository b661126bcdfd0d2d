/- The walk of the law on NewTable. -/
import Derived.Test.YtbdjppiagjhfmaaWi
namespace Go.Proofs.Ytbdjppiagjhfmaa
open Go.RowKit
set_option linter.unusedVariables false

theorem TAt.below' {B : Nat} {w w' : World} {v : Value} {t : TB} (h : TAt w v t) (hb : Below B w w') (hB : B = w.heap.size) : TAt w' v t := by subst hB; exact h.below hb

theorem newTR_len (l : List Int) (hl : (l.length : Int) ≤ 1048576) : ((newTR l).base.length : Int) + (newTR l).more.length + (newTR l).pcs.length ≤ 1048576 ∧ (cnt (newTR l) : Int) ≤ 10000000 := by
  unfold newTR cnt
  split
  · simp
  · unfold newT newPcs
    split <;> simp <;> omega

theorem mb1 (n : Nat) : (((1 : Nat) : Int) + (n : Int)) = 1 + (n : Int) := by omega

/-- Behind a call: the argument, the model's answer and the program's answer, all as they were. -/
theorem markX (g n : Nat) (w : World) (l : List Int) (hr : w.rowIs g 5 l.length (bv l)) (hl : (l.length : Int) ≤ 1048576) :
    Calls Try.prog 19 #[.slice (some ⟨g, 0, none⟩) l.length l.length, .int .i64 1] w fun e w' => e = .returned (.int .i64 (1 + (l.length : Int))) ∧ KeptIn g (g + 1) w w' := by
  refine (markByteS_row g l.length l.length l.length 1 _ w hr (Nat.le_refl _) (by omega)).mono ?_
  rintro e w' ⟨rfl, _, hk⟩
  exact ⟨rfl, hk⟩

end Go.Proofs.Ytbdjppiagjhfmaa
