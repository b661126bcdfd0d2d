/- Walks: attributes and tokens copied. -/
import Derived.Test.YtlmmkmcchfnclaaDoorTa
namespace Go.Proofs.YtlmmkmcchfnclaaDoor
open Go.RowKit
set_option linter.unusedVariables false

theorem make_attrs {P : Program} (t e : TypeId) (ht : P.underlying t = some (.slice e)) (hinfo : (P.info? e).map (fun i => (i.zero, i.size, i.bytes)) = some (some (.agg #[.string ⟨#[]⟩, .slice none 0 0]), 2, 40))
    (n : Nat) (hn : (n : Int) ≤ 1048576) (w : World) :
    (Instr.makeSlice t (.int .i64 (n : Int)) (.int .i64 (n : Int))).run P w = .ok (.slice (some ⟨w.heap.size, 0, none⟩) n n) (w.alloc (.cells (madeCells #[.string ⟨#[]⟩, .slice none 0 0] (n * 2)) e)) := by
  obtain ⟨i, hi, hzz⟩ := Option.map_eq_some_iff.1 hinfo
  simp only [Prod.mk.injEq] at hzz
  obtain ⟨hz, hs, hb⟩ := hzz
  have hr := run_make (P := P) w t e i _ ht hi hz .i64 .i64 n n (by omega) (Int.le_refl _) (by rw [hb]; omega) (by omega)
  simp only [Int.toNat_natCast, hs] at hr
  exact hr

/-- The i-th of two cells. -/
def p2 (x y : Value) (i : Nat) : Value := if i = 0 then x else y

theorem rowp2 (w : World) (t : TypeId) (x y : Value) : (w.alloc (.cells #[x, y] t)).rowIs w.heap.size t 2 (p2 x y) :=
  ⟨_, Deep.blk_alloc_new _ _, rfl, fun i hi => by
    have : i = 0 ∨ i = 1 := by omega
    rcases this with rfl | rfl <;> rfl⟩

theorem cells2 {w : World} {g : Nat} {ty : TypeId} {x y : Value} (h : w.rowIs g ty 2 (p2 x y)) : w.cell? ⟨g, 0, none⟩ = some x ∧ w.cell? ⟨g, 1, none⟩ = some y ∧ g < w.heap.size :=
  ⟨h.cell (by omega), h.cell (by omega), h.lt⟩

end Go.Proofs.YtlmmkmcchfnclaaDoor
