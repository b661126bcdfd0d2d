/- The closed facts of the row on NewMemo, one by one. -/
import Derived.Test.YtdloogkjnjklcaaGreatDoorRows
import Derived.JoinedOf
import Derived.ProofKit
set_option linter.unusedVariables false
set_option linter.unusedSimpArgs false
namespace Go.Proofs.YtdloogkjnjklcaaGreatDoor
namespace fnExactNewMemo

theorem jA : ((Rows.fnExactNewMemoRow).inPlace == Tryz.prog.inPlace 3) = true := by kernel_rfl

theorem jB : ((Rows.fnExactNewMemoRow).unfollowed == Tryz.prog.unfollowed 3) = true := by kernel_rfl

theorem jC : ((Rows.fnExactNewMemoRow).recurses == Tryz.prog.recurses 3) = true := by kernel_rfl

theorem jD : ((Rows.fnExactNewMemoRow).named == Tryz.prog.varsNamed 3) = true := by kernel_rfl

theorem jE : laidOutB Tryz.prog = true := by kernel_rfl

theorem jF : mapsRowed Tryz.prog = true := by kernel_rfl

theorem jG : namedTie Tryz.prog (Rows.fnExactNewMemoRow).named (Rows.fnExactNewMemoSpec).vars = true := by kernel_rfl

theorem jH : (Rows.fnExactNewMemoRow).wf (OpenSpec.ofChange Rows.fnExactNewMemoSpec) = true := by kernel_rfl

end fnExactNewMemo

theorem closed_fnExactNewMemo : joinedFacts Tryz.prog 3 Tryz.f3 Rows.fnExactNewMemoSpec Rows.fnExactNewMemoRow = true := by
  unfold joinedFacts
  rw [fnExactNewMemo.jA, fnExactNewMemo.jB, fnExactNewMemo.jC, fnExactNewMemo.jD, fnExactNewMemo.jE, fnExactNewMemo.jF, fnExactNewMemo.jG, fnExactNewMemo.jH]
  kernel_rfl

end Go.Proofs.YtdloogkjnjklcaaGreatDoor
