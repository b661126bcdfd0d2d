/- The closed facts of the row on FnMeasures, one by one. -/
import Derived.Test.YteakocifjmkmjaaGreatDoorRows
import Derived.JoinedOf
import Derived.ProofKit
namespace Go.Proofs.YteakocifjmkmjaaGreatDoor
namespace fnMeasures

theorem jA : ((Rows.fnMeasuresRow).inPlace == Tryz.prog.inPlace 3) = true := by kernel_rfl

theorem jB : ((Rows.fnMeasuresRow).unfollowed == Tryz.prog.unfollowed 3) = true := by kernel_rfl

theorem jC : ((Rows.fnMeasuresRow).recurses == Tryz.prog.recurses 3) = true := by kernel_rfl

theorem jD : ((Rows.fnMeasuresRow).named == Tryz.prog.varsNamed 3) = true := by kernel_rfl

theorem jE : laidOutB Tryz.prog = true := by kernel_rfl

theorem jF : mapsRowed Tryz.prog = true := by kernel_rfl

theorem jG : namedTie Tryz.prog (Rows.fnMeasuresRow).named (Rows.fnMeasuresSpec).vars = true := by kernel_rfl

theorem jH : (Rows.fnMeasuresRow).wf (OpenSpec.ofChange Rows.fnMeasuresSpec) = true := by kernel_rfl

end fnMeasures

theorem closed_fnMeasures : joinedFacts Tryz.prog 3 Tryz.f3 Rows.fnMeasuresSpec Rows.fnMeasuresRow = true := by
  unfold joinedFacts
  rw [fnMeasures.jA, fnMeasures.jB, fnMeasures.jC, fnMeasures.jD, fnMeasures.jE, fnMeasures.jF, fnMeasures.jG, fnMeasures.jH]
  kernel_rfl

end Go.Proofs.YteakocifjmkmjaaGreatDoor
