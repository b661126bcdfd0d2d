/- The closed facts of the row on EditMemo, one by one. -/
import Derived.Test.YtmhihkdnhaadeaaGreatDoorRows
import Derived.JoinedOf
import Derived.ProofKit
set_option linter.unusedVariables false
set_option linter.unusedSimpArgs false
namespace Go.Proofs.YtmhihkdnhaadeaaGreatDoor
namespace fnExactEditMemo
theorem jA : ((Rows.fnExactEditMemoRow).inPlace == Tryz.prog.inPlace 4) = true := by kernel_rfl
theorem jB : ((Rows.fnExactEditMemoRow).unfollowed == Tryz.prog.unfollowed 4) = true := by kernel_rfl
theorem jC : ((Rows.fnExactEditMemoRow).recurses == Tryz.prog.recurses 4) = true := by kernel_rfl
theorem jD : ((Rows.fnExactEditMemoRow).named == Tryz.prog.varsNamed 4) = true := by kernel_rfl
theorem jE : laidOutB Tryz.prog = true := by kernel_rfl
theorem jF : mapsRowed Tryz.prog = true := by kernel_rfl
theorem jG : namedTie Tryz.prog (Rows.fnExactEditMemoRow).named (Rows.fnExactEditMemoSpec).vars = true := by kernel_rfl
theorem jH : (Rows.fnExactEditMemoRow).wf (OpenSpec.ofChange Rows.fnExactEditMemoSpec) = true := by kernel_rfl

end fnExactEditMemo
theorem closed_fnExactEditMemo : joinedFacts Tryz.prog 4 Tryz.f4 Rows.fnExactEditMemoSpec Rows.fnExactEditMemoRow = true := by
 unfold joinedFacts
 rw [fnExactEditMemo.jA, fnExactEditMemo.jB, fnExactEditMemo.jC, fnExactEditMemo.jD, fnExactEditMemo.jE, fnExactEditMemo.jF, fnExactEditMemo.jG, fnExactEditMemo.jH]
 kernel_rfl

end Go.Proofs.YtmhihkdnhaadeaaGreatDoor
