/- Boxes of two cells. -/
import Derived.Test.YtaihlcfpkabonaaDoorOwn
namespace Go.Proofs.YtaihlcfpkabonaaDoor
open Go.RowKit
set_option linter.unusedVariables false

/-- The i-th of two cells. -/
def q2 (x y : Value) (i : Nat) : Value := if i = 0 then x else y

/-- A box of two cells. -/
theorem rowQ2 (w : World) (t : TypeId) (x y : Value) : (w.alloc (.cells #[x, y] t)).rowIs w.heap.size t 2 (q2 x y) :=
  World.rowIs_alloc w #[x, y] t _ (fun i hi => by
    have h : i = 0 ∨ i = 1 := by simp at hi; omega
    rcases h with rfl | rfl <;> simp [q2])

theorem cellsQ2 {w : World} {g : Nat} {ty : TypeId} {x y : Value} (h : w.rowIs g ty 2 (q2 x y)) : w.cell? ⟨g, 0, none⟩ = some x ∧ w.cell? ⟨g, 1, none⟩ = some y ∧ g < w.heap.size :=
  ⟨h.cell (by omega), h.cell (by omega), h.lt⟩

theorem frzQ2 {w : World} {g : Nat} {T : TypeId} {f : Nat → Value} (h : w.rowIs g T 2 f) : w.frozen? ⟨g, 0, none⟩ = false ∧ w.frozen? ⟨g, 1, none⟩ = false := ⟨h.frozen 0, h.frozen 1⟩

end Go.Proofs.YtaihlcfpkabonaaDoor
