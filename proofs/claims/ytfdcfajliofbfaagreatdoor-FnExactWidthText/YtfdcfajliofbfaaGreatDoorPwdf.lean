/- The closed facts of the row on WidthText, one by one. -/
import Derived.Test.YtfdcfajliofbfaaGreatDoorRows
import Derived.JoinedOf
import Derived.ProofKit
namespace Go.Proofs.YtfdcfajliofbfaaGreatDoor
namespace fnExactWidthText

theorem jA : ((Rows.fnExactWidthTextRow).inPlace == Tryz.prog.inPlace 3) = true := by kernel_rfl

theorem jB : ((Rows.fnExactWidthTextRow).unfollowed == Tryz.prog.unfollowed 3) = true := by kernel_rfl

theorem jC : ((Rows.fnExactWidthTextRow).recurses == Tryz.prog.recurses 3) = true := by kernel_rfl

theorem jD : ((Rows.fnExactWidthTextRow).named == Tryz.prog.varsNamed 3) = true := by kernel_rfl

theorem jE : laidOutB Tryz.prog = true := by kernel_rfl

theorem jF : mapsRowed Tryz.prog = true := by kernel_rfl

theorem jG : namedTie Tryz.prog (Rows.fnExactWidthTextRow).named (Rows.fnExactWidthTextSpec).vars = true := by kernel_rfl

theorem jH : (Rows.fnExactWidthTextRow).wf (OpenSpec.ofChange Rows.fnExactWidthTextSpec) = true := by kernel_rfl

end fnExactWidthText

theorem closed_fnExactWidthText : joinedFacts Tryz.prog 3 Tryz.f3 Rows.fnExactWidthTextSpec Rows.fnExactWidthTextRow = true := by
  unfold joinedFacts
  rw [fnExactWidthText.jA, fnExactWidthText.jB, fnExactWidthText.jC, fnExactWidthText.jD, fnExactWidthText.jE, fnExactWidthText.jF, fnExactWidthText.jG, fnExactWidthText.jH]
  kernel_rfl

end Go.Proofs.YtfdcfajliofbfaaGreatDoor
