/- Walks: pieces copied; bytes and pieces compared. -/
import Derived.Test.YthckoaddajpgcaaDoorWa
import Derived.BigQuiet
import Derived.Deep.QuietTactic
import Derived.Deep.RegionHeld3
import Derived.WalkSmall
namespace Go.Proofs.YthckoaddajpgcaaDoor
open Go.RowKit
set_option linter.unusedVariables false

/-- Behind a call that turns nothing old: each old cell reads as it did. -/
theorem undrew {W w1 : World} (h : Below W.drew.heap.size W.drew w1) : Below W.heap.size W w1 := ⟨h.os, h.tape, h.output, h.size, h.block⟩

end Go.Proofs.YthckoaddajpgcaaDoor
