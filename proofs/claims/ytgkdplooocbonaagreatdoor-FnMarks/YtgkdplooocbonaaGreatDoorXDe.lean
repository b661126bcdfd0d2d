/- Walks: a byte escaped, both sides (a seat with tokens and a Door). -/
import Derived.Test.YtgkdplooocbonaaGreatDoorXV1
import Derived.WalkKit
import Derived.WalkSpells
import Derived.WalkLawsBesides
import Derived.Laws.IdiomStrings
namespace Go.Proofs.YtgkdplooocbonaaGreatDoor
open Go.RowKit
set_option linter.unusedVariables false

def escB (b : Int) : ByteArray := if b = 60 then ⟨#[38, 108, 116, 59]⟩ else if b = 62 then ⟨#[38, 103, 116, 59]⟩ else if b = 38 then ⟨#[38, 97, 109, 112, 59]⟩ else if b = 34 then ⟨#[38, 113, 117, 111, 116, 59]⟩ else ⟨#[UInt8.ofNat b.toNat]⟩

theorem conv1 (b : Int) (w : World) (h0 : 0 ≤ b) (h1 : b ≤ 255) : (convert 22 9 (.slice (some ⟨w.heap.size, 0, none⟩) 1 1)).run Tryz.prog (w.alloc (.cells #[.int .u8 b] 5)) = .ok (.string ⟨#[UInt8.ofNat b.toNat]⟩) (w.alloc (.cells #[.int .u8 b] 5)) := by
  refine run_convert_bytes_back (P := Tryz.prog) (w.alloc (.cells #[.int .u8 b] 5)) 22 9 5 ⟨w.heap.size, 0, none⟩ 1 [UInt8.ofNat b.toNat] Tryz.underlying22 Tryz.underlying5 Tryz.underlying9 ?_
  intro j hj
  obtain rfl : j = 0 := by simpa using hj
  have hb : ((UInt8.ofNat b.toNat).toNat : Int) = b := by
    rw [UInt8.toNat_ofNat']; omega
  have := World.cell?_alloc_mark w #[.int .u8 b] 5 (0, 0) 0
  simp only [Addr.add, Nat.zero_add, List.getElem_cons_zero, hb]
  exact this

/-- The cells of the table of names. -/
def refCell : Nat → Value
  | 0 => .int .u8 60
  | 1 => .string ⟨#[38, 108, 116, 59]⟩
  | 2 => .int .u8 62
  | 3 => .string ⟨#[38, 103, 116, 59]⟩
  | 4 => .int .u8 38
  | 5 => .string ⟨#[38, 97, 109, 112, 59]⟩
  | 6 => .int .u8 34
  | _ => .string ⟨#[38, 113, 117, 111, 116, 59]⟩
def Refs (w : World) : Prop := ∀ i, i < 8 → w.cell? ⟨2, i, none⟩ = some (refCell i)
theorem Refs.lt {w : World} (h : Refs w) : 2 < w.heap.size := by
  have h0 := h 0 (by decide)
  refine Nat.lt_of_not_le fun hn => ?_
  have : w.heap[2]? = none := Array.getElem?_eq_none hn
  simp [World.cell?, this] at h0
theorem Refs.below {w w' : World} (h : Refs w) (hb : Below w.heap.size w w') : Refs w' := fun i hi => by
  rw [hb.cell (p := ⟨2, i, none⟩) h.lt]; exact h i hi
def keyAt : Nat → Int
  | 0 => 60
  | 1 => 62
  | 2 => 38
  | _ => 34

theorem ix0 (w : World) : (Instr.index 99 (.agg #[.int .u8 60, .string ⟨#[38, 108, 116, 59]⟩, .int .u8 62, .string ⟨#[38, 103, 116, 59]⟩, .int .u8 38, .string ⟨#[38, 97, 109, 112, 59]⟩, .int .u8 34, .string ⟨#[38, 113, 117, 111, 116, 59]⟩]) (.int .i64 0)).run Tryz.prog w = .ok (.agg #[.int .u8 60, .string ⟨#[38, 108, 116, 59]⟩]) w := by kernel_rfl
theorem ix1 (w : World) : (Instr.index 99 (.agg #[.int .u8 60, .string ⟨#[38, 108, 116, 59]⟩, .int .u8 62, .string ⟨#[38, 103, 116, 59]⟩, .int .u8 38, .string ⟨#[38, 97, 109, 112, 59]⟩, .int .u8 34, .string ⟨#[38, 113, 117, 111, 116, 59]⟩]) (.int .i64 1)).run Tryz.prog w = .ok (.agg #[.int .u8 62, .string ⟨#[38, 103, 116, 59]⟩]) w := by kernel_rfl
theorem ix2 (w : World) : (Instr.index 99 (.agg #[.int .u8 60, .string ⟨#[38, 108, 116, 59]⟩, .int .u8 62, .string ⟨#[38, 103, 116, 59]⟩, .int .u8 38, .string ⟨#[38, 97, 109, 112, 59]⟩, .int .u8 34, .string ⟨#[38, 113, 117, 111, 116, 59]⟩]) (.int .i64 2)).run Tryz.prog w = .ok (.agg #[.int .u8 38, .string ⟨#[38, 97, 109, 112, 59]⟩]) w := by kernel_rfl
theorem ix3 (w : World) : (Instr.index 99 (.agg #[.int .u8 60, .string ⟨#[38, 108, 116, 59]⟩, .int .u8 62, .string ⟨#[38, 103, 116, 59]⟩, .int .u8 38, .string ⟨#[38, 97, 109, 112, 59]⟩, .int .u8 34, .string ⟨#[38, 113, 117, 111, 116, 59]⟩]) (.int .i64 3)).run Tryz.prog w = .ok (.agg #[.int .u8 34, .string ⟨#[38, 113, 117, 111, 116, 59]⟩]) w := by kernel_rfl

/-- The code and the text of a byte that is escaped. -/
def ebCode (b : Int) : Int := if 0 ≤ b ∧ b ≤ 255 then 0 else 3
def ebText (b : Int) : ByteArray := if 0 ≤ b ∧ b ≤ 255 then escB b else ⟨#[]⟩

end Go.Proofs.YtgkdplooocbonaaGreatDoor
