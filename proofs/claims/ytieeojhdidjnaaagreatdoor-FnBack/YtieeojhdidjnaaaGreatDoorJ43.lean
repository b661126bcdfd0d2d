/- The closed facts of the row on FnBack, one by one. -/
import Derived.Test.YtieeojhdidjnaaaGreatDoorRows
import Derived.JoinedOf
import Derived.ProofKit
set_option linter.unusedVariables false
set_option linter.unusedSimpArgs false
namespace Go.Proofs.YtieeojhdidjnaaaGreatDoor
namespace fnBack
theorem jA : ((Rows.fnBackRow).inPlace == Tryz.prog.inPlace 7) = true := by kernel_rfl
theorem jB : ((Rows.fnBackRow).unfollowed == Tryz.prog.unfollowed 7) = true := by kernel_rfl
theorem jC : ((Rows.fnBackRow).recurses == Tryz.prog.recurses 7) = true := by kernel_rfl
theorem jD : ((Rows.fnBackRow).named == Tryz.prog.varsNamed 7) = true := by kernel_rfl
theorem jE : laidOutB Tryz.prog = true := by kernel_rfl
theorem jF : mapsRowed Tryz.prog = true := by kernel_rfl
theorem jG : namedTie Tryz.prog (Rows.fnBackRow).named (Rows.fnBackSpec).vars = true := by kernel_rfl
theorem jH : (Rows.fnBackRow).wf (OpenSpec.ofChange Rows.fnBackSpec) = true := by kernel_rfl

end fnBack
theorem closed_fnBack : joinedFacts Tryz.prog 7 Tryz.f7 Rows.fnBackSpec Rows.fnBackRow = true := by
 unfold joinedFacts
 rw [fnBack.jA, fnBack.jB, fnBack.jC, fnBack.jD, fnBack.jE, fnBack.jF, fnBack.jG, fnBack.jH]
 kernel_rfl

end Go.Proofs.YtieeojhdidjnaaaGreatDoor
