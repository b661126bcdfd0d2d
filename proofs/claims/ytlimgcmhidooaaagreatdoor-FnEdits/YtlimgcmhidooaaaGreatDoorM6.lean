/- Walks: a byte escaped, both sides (a seat with tokens and a Door). -/
import Derived.Test.YtlimgcmhidooaaaGreatDoorM5
import Derived.WalkKit
import Derived.WalkSpells
import Derived.WalkLawsBesides
import Derived.Laws.IdiomStrings
set_option linter.unusedVariables false
set_option linter.unusedSimpArgs false
namespace Go.Proofs.YtlimgcmhidooaaaGreatDoor
open Go.RowKit
def refCell : Nat → Value
 | 0 => .int .u8 60
 | 1 => .string ⟨#[38, 108, 116, 59]⟩
 | 2 => .int .u8 62
 | 3 => .string ⟨#[38, 103, 116, 59]⟩
 | 4 => .int .u8 38
 | 5 => .string ⟨#[38, 97, 109, 112, 59]⟩
 | 6 => .int .u8 34
 | _ => .string ⟨#[38, 113, 117, 111, 116, 59]⟩
def Refs (w : World) : Prop := ∀ i, i < 8 → w.cell? ⟨2, i, none⟩ = some (refCell i)
theorem Refs.lt {w : World} (h : Refs w) : 2 < w.heap.size := by
 have h0 := h 0 (by decide)
 refine Nat.lt_of_not_le fun hn => ?_
 have : w.heap[2]? = none := Array.getElem?_eq_none hn
 simp [World.cell?, this] at h0
theorem Refs.below {w w' : World} (h : Refs w) (hb : Below w.heap.size w w') : Refs w' := fun i hi => by
 rw [hb.cell (p := ⟨2, i, none⟩) h.lt]; exact h i hi
theorem ix0 (w : World) : (Instr.index 192 (.agg #[.int .u8 60, .string ⟨#[38, 108, 116, 59]⟩, .int .u8 62, .string ⟨#[38, 103, 116, 59]⟩, .int .u8 38, .string ⟨#[38, 97, 109, 112, 59]⟩, .int .u8 34, .string ⟨#[38, 113, 117, 111, 116, 59]⟩]) (.int .i64 0)).run Tryz.prog w = .ok (.agg #[.int .u8 60, .string ⟨#[38, 108, 116, 59]⟩]) w := by kernel_rfl
theorem ix1 (w : World) : (Instr.index 192 (.agg #[.int .u8 60, .string ⟨#[38, 108, 116, 59]⟩, .int .u8 62, .string ⟨#[38, 103, 116, 59]⟩, .int .u8 38, .string ⟨#[38, 97, 109, 112, 59]⟩, .int .u8 34, .string ⟨#[38, 113, 117, 111, 116, 59]⟩]) (.int .i64 1)).run Tryz.prog w = .ok (.agg #[.int .u8 62, .string ⟨#[38, 103, 116, 59]⟩]) w := by kernel_rfl
theorem ix2 (w : World) : (Instr.index 192 (.agg #[.int .u8 60, .string ⟨#[38, 108, 116, 59]⟩, .int .u8 62, .string ⟨#[38, 103, 116, 59]⟩, .int .u8 38, .string ⟨#[38, 97, 109, 112, 59]⟩, .int .u8 34, .string ⟨#[38, 113, 117, 111, 116, 59]⟩]) (.int .i64 2)).run Tryz.prog w = .ok (.agg #[.int .u8 38, .string ⟨#[38, 97, 109, 112, 59]⟩]) w := by kernel_rfl
theorem ix3 (w : World) : (Instr.index 192 (.agg #[.int .u8 60, .string ⟨#[38, 108, 116, 59]⟩, .int .u8 62, .string ⟨#[38, 103, 116, 59]⟩, .int .u8 38, .string ⟨#[38, 97, 109, 112, 59]⟩, .int .u8 34, .string ⟨#[38, 113, 117, 111, 116, 59]⟩]) (.int .i64 3)).run Tryz.prog w = .ok (.agg #[.int .u8 34, .string ⟨#[38, 113, 117, 111, 116, 59]⟩]) w := by kernel_rfl

end Go.Proofs.YtlimgcmhidooaaaGreatDoor
