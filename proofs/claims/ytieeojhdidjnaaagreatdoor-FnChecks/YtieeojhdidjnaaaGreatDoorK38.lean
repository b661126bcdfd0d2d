/- The closed facts of the row on FnChecks, one by one. -/
import Derived.Test.YtieeojhdidjnaaaGreatDoorRows
import Derived.JoinedOf
import Derived.ProofKit
set_option linter.unusedVariables false
set_option linter.unusedSimpArgs false
namespace Go.Proofs.YtieeojhdidjnaaaGreatDoor
namespace fnChecks

theorem jA : ((Rows.fnChecksRow).inPlace == Tryz.prog.inPlace 3) = true := by kernel_rfl

theorem jB : ((Rows.fnChecksRow).unfollowed == Tryz.prog.unfollowed 3) = true := by kernel_rfl

theorem jC : ((Rows.fnChecksRow).recurses == Tryz.prog.recurses 3) = true := by kernel_rfl

theorem jD : ((Rows.fnChecksRow).named == Tryz.prog.varsNamed 3) = true := by kernel_rfl

theorem jE : laidOutB Tryz.prog = true := by kernel_rfl

theorem jF : mapsRowed Tryz.prog = true := by kernel_rfl

theorem jG : namedTie Tryz.prog (Rows.fnChecksRow).named (Rows.fnChecksSpec).vars = true := by kernel_rfl

theorem jH : (Rows.fnChecksRow).wf (OpenSpec.ofChange Rows.fnChecksSpec) = true := by kernel_rfl

end fnChecks

theorem closed_fnChecks : joinedFacts Tryz.prog 3 Tryz.f3 Rows.fnChecksSpec Rows.fnChecksRow = true := by
  unfold joinedFacts
  rw [fnChecks.jA, fnChecks.jB, fnChecks.jC, fnChecks.jD, fnChecks.jE, fnChecks.jF, fnChecks.jG, fnChecks.jH]
  kernel_rfl

end Go.Proofs.YtieeojhdidjnaaaGreatDoor
