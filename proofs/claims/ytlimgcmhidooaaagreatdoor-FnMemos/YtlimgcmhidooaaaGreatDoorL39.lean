/- The closed facts of the row on FnMemos, one by one. -/
import Derived.Test.YtlimgcmhidooaaaGreatDoorRows
import Derived.JoinedOf
import Derived.ProofKit
set_option linter.unusedVariables false
set_option linter.unusedSimpArgs false
namespace Go.Proofs.YtlimgcmhidooaaaGreatDoor
namespace fnMemos

theorem jA : ((Rows.fnMemosRow).inPlace == Tryz.prog.inPlace 5) = true := by kernel_rfl

theorem jB : ((Rows.fnMemosRow).unfollowed == Tryz.prog.unfollowed 5) = true := by kernel_rfl

theorem jC : ((Rows.fnMemosRow).recurses == Tryz.prog.recurses 5) = true := by kernel_rfl

theorem jD : ((Rows.fnMemosRow).named == Tryz.prog.varsNamed 5) = true := by kernel_rfl

theorem jE : laidOutB Tryz.prog = true := by kernel_rfl

theorem jF : mapsRowed Tryz.prog = true := by kernel_rfl

theorem jG : namedTie Tryz.prog (Rows.fnMemosRow).named (Rows.fnMemosSpec).vars = true := by kernel_rfl

theorem jH : (Rows.fnMemosRow).wf (OpenSpec.ofChange Rows.fnMemosSpec) = true := by kernel_rfl

end fnMemos

theorem closed_fnMemos : joinedFacts Tryz.prog 5 Tryz.f5 Rows.fnMemosSpec Rows.fnMemosRow = true := by
  unfold joinedFacts
  rw [fnMemos.jA, fnMemos.jB, fnMemos.jC, fnMemos.jD, fnMemos.jE, fnMemos.jF, fnMemos.jG, fnMemos.jH]
  kernel_rfl

end Go.Proofs.YtlimgcmhidooaaaGreatDoor
