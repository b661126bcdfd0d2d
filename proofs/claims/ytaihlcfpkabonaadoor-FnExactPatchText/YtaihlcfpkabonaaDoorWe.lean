/- Walks of the program's side: the fault of a table. -/
import Derived.Test.YtaihlcfpkabonaaDoorWd
namespace Go.Proofs.YtaihlcfpkabonaaDoor
open Go.RowKit
set_option linter.unusedVariables false

theorem below_three {B : Nat} {w w' : World} (h : Below B w w') {o1 o2 o3 : Nat} {v1 v2 v3 : Value} : Below B w (((w'.setCell ⟨B, o1, none⟩ v1).setCell ⟨B, o2, none⟩ v2).setCell ⟨B, o3, none⟩ v3) :=
  ((h.setCell (p := ⟨B, o1, none⟩) (Nat.le_refl _) _).setCell (p := ⟨B, o2, none⟩) (Nat.le_refl _) _).setCell (p := ⟨B, o3, none⟩) (Nat.le_refl _) _

theorem join2 {B : Nat} {w a b c : World} (h : Below B w a) (h1 : Below a.heap.size a b) (h2 : Below b.heap.size b c) (hB : B ≤ a.heap.size := by first | omega | (simp; omega)) : Below B w c :=
  (h.trans (h1.mono hB)).trans (h2.mono (Nat.le_trans hB h1.size))

theorem row2 {a b c : World} {g n : Nat} {t : TypeId} {f : Nat → Value} (h : a.rowIs g t n f) (h1 : Below a.heap.size a b) (h2 : Below b.heap.size b c) : c.rowIs g t n f := by
  have h' := h.of_block (h1.block _ h.lt)
  exact h'.of_block (h2.block _ h'.lt)

/-- Each piece begins at a place that is an int64. -/
def WFT (t : TB) : Prop := ∀ k, k < t.pcs.length → (pc t.pcs k).fr ≤ 9223372036854775807

end Go.Proofs.YtaihlcfpkabonaaDoor
