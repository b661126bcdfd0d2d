/- The closed facts of the row on ReadBound, one by one. -/
import Derived.Test.YtdloogkjnjklcaaGreatDoorRows
import Derived.JoinedOf
import Derived.ProofKit
set_option linter.unusedVariables false
set_option linter.unusedSimpArgs false
namespace Go.Proofs.YtdloogkjnjklcaaGreatDoor
namespace fnExactReadBound

theorem jA : ((Rows.fnExactReadBoundRow).inPlace == Tryz.prog.inPlace 5) = true := by kernel_rfl

theorem jB : ((Rows.fnExactReadBoundRow).unfollowed == Tryz.prog.unfollowed 5) = true := by kernel_rfl

theorem jC : ((Rows.fnExactReadBoundRow).recurses == Tryz.prog.recurses 5) = true := by kernel_rfl

theorem jD : ((Rows.fnExactReadBoundRow).named == Tryz.prog.varsNamed 5) = true := by kernel_rfl

theorem jE : laidOutB Tryz.prog = true := by kernel_rfl

theorem jF : mapsRowed Tryz.prog = true := by kernel_rfl

theorem jG : namedTie Tryz.prog (Rows.fnExactReadBoundRow).named (Rows.fnExactReadBoundSpec).vars = true := by kernel_rfl

theorem jH : (Rows.fnExactReadBoundRow).wf (OpenSpec.ofChange Rows.fnExactReadBoundSpec) = true := by kernel_rfl

end fnExactReadBound

theorem closed_fnExactReadBound : joinedFacts Tryz.prog 5 Tryz.f5 Rows.fnExactReadBoundSpec Rows.fnExactReadBoundRow = true := by
  unfold joinedFacts
  rw [fnExactReadBound.jA, fnExactReadBound.jB, fnExactReadBound.jC, fnExactReadBound.jD, fnExactReadBound.jE, fnExactReadBound.jF, fnExactReadBound.jG, fnExactReadBound.jH]
  kernel_rfl

end Go.Proofs.YtdloogkjnjklcaaGreatDoor
