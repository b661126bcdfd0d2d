/- Walks: a token copied; attributes and tokens compared. -/
import Derived.Test.YtlmmkmcchfnclaaDoorTb
namespace Go.Proofs.YtlmmkmcchfnclaaDoor
open Go.RowKit
set_option linter.unusedVariables false

/-- The i-th of five cells. -/
def r5 (x y z u v : Value) (i : Nat) : Value := if i = 0 then x else if i = 1 then y else if i = 2 then z else if i = 3 then u else v

theorem row5 (w : World) (t : TypeId) (x y z u v : Value) : (w.alloc (.cells #[x, y, z, u, v] t)).rowIs w.heap.size t 5 (r5 x y z u v) :=
  ⟨_, Deep.blk_alloc_new _ _, rfl, fun i hi => by
    have : i = 0 ∨ i = 1 ∨ i = 2 ∨ i = 3 ∨ i = 4 := by omega
    rcases this with rfl | rfl | rfl | rfl | rfl <;> rfl⟩

theorem cells5 {w : World} {g : Nat} {ty : TypeId} {x y z u v : Value} (h : w.rowIs g ty 5 (r5 x y z u v)) : w.cell? ⟨g, 0, none⟩ = some x ∧ w.cell? ⟨g, 1, none⟩ = some y ∧ w.cell? ⟨g, 2, none⟩ = some z ∧ w.cell? ⟨g, 3, none⟩ = some u ∧ w.cell? ⟨g, 4, none⟩ = some v ∧ g < w.heap.size :=
  ⟨h.cell (by omega), h.cell (by omega), h.cell (by omega), h.cell (by omega), h.cell (by omega), h.lt⟩

end Go.Proofs.YtlmmkmcchfnclaaDoor
