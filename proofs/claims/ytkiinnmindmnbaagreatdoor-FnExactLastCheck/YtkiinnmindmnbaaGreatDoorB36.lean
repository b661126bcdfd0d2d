/- The closed facts of the row on LastCheck, one by one. -/
import Derived.Test.YtkiinnmindmnbaaGreatDoorRows
import Derived.JoinedOf
import Derived.ProofKit
set_option linter.unusedVariables false
set_option linter.unusedSimpArgs false
namespace Go.Proofs.YtkiinnmindmnbaaGreatDoor
namespace fnExactLastCheck

theorem jA : ((Rows.fnExactLastCheckRow).inPlace == Tryz.prog.inPlace 5) = true := by kernel_rfl

theorem jB : ((Rows.fnExactLastCheckRow).unfollowed == Tryz.prog.unfollowed 5) = true := by kernel_rfl

theorem jC : ((Rows.fnExactLastCheckRow).recurses == Tryz.prog.recurses 5) = true := by kernel_rfl

theorem jD : ((Rows.fnExactLastCheckRow).named == Tryz.prog.varsNamed 5) = true := by kernel_rfl

theorem jE : laidOutB Tryz.prog = true := by kernel_rfl

theorem jF : mapsRowed Tryz.prog = true := by kernel_rfl

theorem jG : namedTie Tryz.prog (Rows.fnExactLastCheckRow).named (Rows.fnExactLastCheckSpec).vars = true := by kernel_rfl

theorem jH : (Rows.fnExactLastCheckRow).wf (OpenSpec.ofChange Rows.fnExactLastCheckSpec) = true := by kernel_rfl

end fnExactLastCheck

theorem closed_fnExactLastCheck : joinedFacts Tryz.prog 5 Tryz.f5 Rows.fnExactLastCheckSpec Rows.fnExactLastCheckRow = true := by
  unfold joinedFacts
  rw [fnExactLastCheck.jA, fnExactLastCheck.jB, fnExactLastCheck.jC, fnExactLastCheck.jD, fnExactLastCheck.jE, fnExactLastCheck.jF, fnExactLastCheck.jG, fnExactLastCheck.jH]
  kernel_rfl

end Go.Proofs.YtkiinnmindmnbaaGreatDoor
