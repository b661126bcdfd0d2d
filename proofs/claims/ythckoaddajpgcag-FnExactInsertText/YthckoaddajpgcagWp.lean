/- Walks: CompactTable, both sides. -/
import Derived.Test.YthckoaddajpgcagLaw
namespace Go.Proofs.Ythckoaddajpgcag
open Go.RowKit
set_option linter.unusedVariables false

set_option maxHeartbeats 400000 in
theorem l1Bad_any (c : Int) (w : World) :
    Calls Try.prog 52 #[.int .i64 c] w fun e w' => e = .returned (.agg #[.int .i64 c, .slice none 0 0, .slice none 0 0, .slice none 0 0]) ∧ Below w.heap.size w w' := by
  go_enter Try.func52, Try.ntmps52
  go_wp2
  exact bodyPost_ret (v := .agg #[.int .i64 c, .slice none 0 0, .slice none 0 0, .slice none 0 0]) (by simp [results, Try.results52, go_sem]) rfl ⟨rfl, below_new w _⟩

/-- What CompactTable answers: a new table of the text. -/
def compT (t : TB) : TB := if fault t = 0 then newT (text t) else ⟨[], [], []⟩

theorem compT_len (t : TB) : ((compT t).base.length : Int) + (compT t).more.length + (compT t).pcs.length ≤ 1048576 ∧ (cnt (compT t) : Int) ≤ 10000000 := by
  unfold compT
  split
  · rename_i h
    have h2 := (text_len h).2
    unfold cnt newT newPcs
    split <;> simp <;> omega
  · simp [cnt]

end Go.Proofs.Ythckoaddajpgcag
