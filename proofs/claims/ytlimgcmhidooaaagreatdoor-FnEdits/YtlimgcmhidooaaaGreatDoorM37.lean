/- The closed facts of the row on FnEdits, one by one. -/
import Derived.Test.YtlimgcmhidooaaaGreatDoorRows
import Derived.JoinedOf
import Derived.ProofKit
set_option linter.unusedVariables false
set_option linter.unusedSimpArgs false
namespace Go.Proofs.YtlimgcmhidooaaaGreatDoor
namespace fnEdits
theorem jA : ((Rows.fnEditsRow).inPlace == Tryz.prog.inPlace 6) = true := by kernel_rfl
theorem jB : ((Rows.fnEditsRow).unfollowed == Tryz.prog.unfollowed 6) = true := by kernel_rfl
theorem jC : ((Rows.fnEditsRow).recurses == Tryz.prog.recurses 6) = true := by kernel_rfl
theorem jD : ((Rows.fnEditsRow).named == Tryz.prog.varsNamed 6) = true := by kernel_rfl
theorem jE : laidOutB Tryz.prog = true := by kernel_rfl
theorem jF : mapsRowed Tryz.prog = true := by kernel_rfl
theorem jG : namedTie Tryz.prog (Rows.fnEditsRow).named (Rows.fnEditsSpec).vars = true := by kernel_rfl
theorem jH : (Rows.fnEditsRow).wf (OpenSpec.ofChange Rows.fnEditsSpec) = true := by kernel_rfl

end fnEdits
theorem closed_fnEdits : joinedFacts Tryz.prog 6 Tryz.f6 Rows.fnEditsSpec Rows.fnEditsRow = true := by
 unfold joinedFacts
 rw [fnEdits.jA, fnEdits.jB, fnEdits.jC, fnEdits.jD, fnEdits.jE, fnEdits.jF, fnEdits.jG, fnEdits.jH]
 kernel_rfl

end Go.Proofs.YtlimgcmhidooaaaGreatDoor
