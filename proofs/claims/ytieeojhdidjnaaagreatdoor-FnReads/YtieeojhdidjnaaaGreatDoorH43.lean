/- The closed facts of the row on FnReads, one by one. -/
import Derived.Test.YtieeojhdidjnaaaGreatDoorRows
import Derived.JoinedOf
import Derived.ProofKit
set_option linter.unusedVariables false
set_option linter.unusedSimpArgs false
namespace Go.Proofs.YtieeojhdidjnaaaGreatDoor
namespace fnReads
theorem jA : ((Rows.fnReadsRow).inPlace == Tryz.prog.inPlace 4) = true := by kernel_rfl
theorem jB : ((Rows.fnReadsRow).unfollowed == Tryz.prog.unfollowed 4) = true := by kernel_rfl
theorem jC : ((Rows.fnReadsRow).recurses == Tryz.prog.recurses 4) = true := by kernel_rfl
theorem jD : ((Rows.fnReadsRow).named == Tryz.prog.varsNamed 4) = true := by kernel_rfl
theorem jE : laidOutB Tryz.prog = true := by kernel_rfl
theorem jF : mapsRowed Tryz.prog = true := by kernel_rfl
theorem jG : namedTie Tryz.prog (Rows.fnReadsRow).named (Rows.fnReadsSpec).vars = true := by kernel_rfl
theorem jH : (Rows.fnReadsRow).wf (OpenSpec.ofChange Rows.fnReadsSpec) = true := by kernel_rfl

end fnReads
theorem closed_fnReads : joinedFacts Tryz.prog 4 Tryz.f4 Rows.fnReadsSpec Rows.fnReadsRow = true := by
 unfold joinedFacts
 rw [fnReads.jA, fnReads.jB, fnReads.jC, fnReads.jD, fnReads.jE, fnReads.jF, fnReads.jG, fnReads.jH]
 kernel_rfl

end Go.Proofs.YtieeojhdidjnaaaGreatDoor
