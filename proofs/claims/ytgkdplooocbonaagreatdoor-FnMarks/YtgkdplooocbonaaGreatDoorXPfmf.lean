/- The closed facts of the row on FnMarks, one by one. -/
import Derived.Test.YtgkdplooocbonaaGreatDoorRows
import Derived.JoinedOf
import Derived.ProofKit
namespace Go.Proofs.YtgkdplooocbonaaGreatDoor
namespace fnMarks

theorem jA : ((Rows.fnMarksRow).inPlace == Tryz.prog.inPlace 3) = true := by kernel_rfl

theorem jB : ((Rows.fnMarksRow).unfollowed == Tryz.prog.unfollowed 3) = true := by kernel_rfl

theorem jC : ((Rows.fnMarksRow).recurses == Tryz.prog.recurses 3) = true := by kernel_rfl

theorem jD : ((Rows.fnMarksRow).named == Tryz.prog.varsNamed 3) = true := by kernel_rfl

theorem jE : laidOutB Tryz.prog = true := by kernel_rfl

theorem jF : mapsRowed Tryz.prog = true := by kernel_rfl

theorem jG : namedTie Tryz.prog (Rows.fnMarksRow).named (Rows.fnMarksSpec).vars = true := by kernel_rfl

theorem jH : (Rows.fnMarksRow).wf (OpenSpec.ofChange Rows.fnMarksSpec) = true := by kernel_rfl

end fnMarks

theorem closed_fnMarks : joinedFacts Tryz.prog 3 Tryz.f3 Rows.fnMarksSpec Rows.fnMarksRow = true := by
  unfold joinedFacts
  rw [fnMarks.jA, fnMarks.jB, fnMarks.jC, fnMarks.jD, fnMarks.jE, fnMarks.jF, fnMarks.jG, fnMarks.jH]
  kernel_rfl

end Go.Proofs.YtgkdplooocbonaaGreatDoor
