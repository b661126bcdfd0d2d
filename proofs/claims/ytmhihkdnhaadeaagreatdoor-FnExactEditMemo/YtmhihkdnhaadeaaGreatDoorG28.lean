/- LastCheck: the program's side. -/
import Derived.Test.YtmhihkdnhaadeaaGreatDoorG27
set_option linter.unusedVariables false
set_option linter.unusedSimpArgs false
namespace Go.Proofs.YtmhihkdnhaadeaaGreatDoor
open Go.RowKit
theorem keptIn_cell {lo hi : Nat} {w w' : World} (h : KeptIn lo hi w w') (b o : Nat) (hb : b < w.heap.size) (hn : b < lo ∨ hi ≤ b) : w'.cell? ⟨b, o, none⟩ = w.cell? ⟨b, o, none⟩ :=
 World.cell?_of_block (a := ⟨b, o, none⟩) (h.block b hb hn)

end Go.Proofs.YtmhihkdnhaadeaaGreatDoor
