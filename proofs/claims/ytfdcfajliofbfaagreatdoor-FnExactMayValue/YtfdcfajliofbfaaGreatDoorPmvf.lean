/- The closed facts of the row on MayValue, one by one. -/
import Derived.Test.YtfdcfajliofbfaaGreatDoorRows
import Derived.JoinedOf
import Derived.ProofKit
namespace Go.Proofs.YtfdcfajliofbfaaGreatDoor
namespace fnExactMayValue

theorem jA : ((Rows.fnExactMayValueRow).inPlace == Tryz.prog.inPlace 5) = true := by kernel_rfl

theorem jB : ((Rows.fnExactMayValueRow).unfollowed == Tryz.prog.unfollowed 5) = true := by kernel_rfl

theorem jC : ((Rows.fnExactMayValueRow).recurses == Tryz.prog.recurses 5) = true := by kernel_rfl

theorem jD : ((Rows.fnExactMayValueRow).named == Tryz.prog.varsNamed 5) = true := by kernel_rfl

theorem jE : laidOutB Tryz.prog = true := by kernel_rfl

theorem jF : mapsRowed Tryz.prog = true := by kernel_rfl

theorem jG : namedTie Tryz.prog (Rows.fnExactMayValueRow).named (Rows.fnExactMayValueSpec).vars = true := by kernel_rfl

theorem jH : (Rows.fnExactMayValueRow).wf (OpenSpec.ofChange Rows.fnExactMayValueSpec) = true := by kernel_rfl

end fnExactMayValue

theorem closed_fnExactMayValue : joinedFacts Tryz.prog 5 Tryz.f5 Rows.fnExactMayValueSpec Rows.fnExactMayValueRow = true := by
  unfold joinedFacts
  rw [fnExactMayValue.jA, fnExactMayValue.jB, fnExactMayValue.jC, fnExactMayValue.jD, fnExactMayValue.jE, fnExactMayValue.jF, fnExactMayValue.jG, fnExactMayValue.jH]
  kernel_rfl

end Go.Proofs.YtfdcfajliofbfaaGreatDoor
