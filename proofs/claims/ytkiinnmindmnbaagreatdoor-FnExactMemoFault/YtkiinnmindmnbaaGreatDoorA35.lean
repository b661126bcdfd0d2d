/- The closed facts of the row on MemoFault, one by one. -/
import Derived.Test.YtkiinnmindmnbaaGreatDoorRows
import Derived.JoinedOf
import Derived.ProofKit
set_option linter.unusedVariables false
set_option linter.unusedSimpArgs false
namespace Go.Proofs.YtkiinnmindmnbaaGreatDoor
namespace fnExactMemoFault

theorem jA : ((Rows.fnExactMemoFaultRow).inPlace == Tryz.prog.inPlace 4) = true := by kernel_rfl

theorem jB : ((Rows.fnExactMemoFaultRow).unfollowed == Tryz.prog.unfollowed 4) = true := by kernel_rfl

theorem jC : ((Rows.fnExactMemoFaultRow).recurses == Tryz.prog.recurses 4) = true := by kernel_rfl

theorem jD : ((Rows.fnExactMemoFaultRow).named == Tryz.prog.varsNamed 4) = true := by kernel_rfl

theorem jE : laidOutB Tryz.prog = true := by kernel_rfl

theorem jF : mapsRowed Tryz.prog = true := by kernel_rfl

theorem jG : namedTie Tryz.prog (Rows.fnExactMemoFaultRow).named (Rows.fnExactMemoFaultSpec).vars = true := by kernel_rfl

theorem jH : (Rows.fnExactMemoFaultRow).wf (OpenSpec.ofChange Rows.fnExactMemoFaultSpec) = true := by kernel_rfl

end fnExactMemoFault

theorem closed_fnExactMemoFault : joinedFacts Tryz.prog 4 Tryz.f4 Rows.fnExactMemoFaultSpec Rows.fnExactMemoFaultRow = true := by
  unfold joinedFacts
  rw [fnExactMemoFault.jA, fnExactMemoFault.jB, fnExactMemoFault.jC, fnExactMemoFault.jD, fnExactMemoFault.jE, fnExactMemoFault.jF, fnExactMemoFault.jG, fnExactMemoFault.jH]
  kernel_rfl

end Go.Proofs.YtkiinnmindmnbaaGreatDoor
