/- The closed facts of the row on FnWidths, one by one. -/
import Derived.Test.YteakocifjmkmjaaGreatDoorRows
import Derived.JoinedOf
import Derived.ProofKit
namespace Go.Proofs.YteakocifjmkmjaaGreatDoor
namespace fnWidths

theorem jA : ((Rows.fnWidthsRow).inPlace == Tryz.prog.inPlace 4) = true := by kernel_rfl

theorem jB : ((Rows.fnWidthsRow).unfollowed == Tryz.prog.unfollowed 4) = true := by kernel_rfl

theorem jC : ((Rows.fnWidthsRow).recurses == Tryz.prog.recurses 4) = true := by kernel_rfl

theorem jD : ((Rows.fnWidthsRow).named == Tryz.prog.varsNamed 4) = true := by kernel_rfl

theorem jE : laidOutB Tryz.prog = true := by kernel_rfl

theorem jF : mapsRowed Tryz.prog = true := by kernel_rfl

theorem jG : namedTie Tryz.prog (Rows.fnWidthsRow).named (Rows.fnWidthsSpec).vars = true := by kernel_rfl

theorem jH : (Rows.fnWidthsRow).wf (OpenSpec.ofChange Rows.fnWidthsSpec) = true := by kernel_rfl

end fnWidths

theorem closed_fnWidths : joinedFacts Tryz.prog 4 Tryz.f4 Rows.fnWidthsSpec Rows.fnWidthsRow = true := by
  unfold joinedFacts
  rw [fnWidths.jA, fnWidths.jB, fnWidths.jC, fnWidths.jD, fnWidths.jE, fnWidths.jF, fnWidths.jG, fnWidths.jH]
  kernel_rfl

end Go.Proofs.YteakocifjmkmjaaGreatDoor
