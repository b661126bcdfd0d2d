/- The closed facts of the row on KeptAttrs, one by one. -/
import Derived.Test.YthhdfbgjdfoalaaGreatDoorRows
import Derived.JoinedOf
import Derived.ProofKit
namespace Go.Proofs.YthhdfbgjdfoalaaGreatDoor
namespace fnExactKeptAttrs

theorem jA : ((Rows.fnExactKeptAttrsRow).inPlace == Tryz.prog.inPlace 3) = true := by kernel_rfl

theorem jB : ((Rows.fnExactKeptAttrsRow).unfollowed == Tryz.prog.unfollowed 3) = true := by kernel_rfl

theorem jC : ((Rows.fnExactKeptAttrsRow).recurses == Tryz.prog.recurses 3) = true := by kernel_rfl

theorem jD : ((Rows.fnExactKeptAttrsRow).named == Tryz.prog.varsNamed 3) = true := by kernel_rfl

theorem jE : laidOutB Tryz.prog = true := by kernel_rfl

theorem jF : mapsRowed Tryz.prog = true := by kernel_rfl

theorem jG : namedTie Tryz.prog (Rows.fnExactKeptAttrsRow).named (Rows.fnExactKeptAttrsSpec).vars = true := by kernel_rfl

theorem jH : (Rows.fnExactKeptAttrsRow).wf (OpenSpec.ofChange Rows.fnExactKeptAttrsSpec) = true := by kernel_rfl

end fnExactKeptAttrs

theorem closed_fnExactKeptAttrs : joinedFacts Tryz.prog 3 Tryz.f3 Rows.fnExactKeptAttrsSpec Rows.fnExactKeptAttrsRow = true := by
  unfold joinedFacts
  rw [fnExactKeptAttrs.jA, fnExactKeptAttrs.jB, fnExactKeptAttrs.jC, fnExactKeptAttrs.jD, fnExactKeptAttrs.jE, fnExactKeptAttrs.jF, fnExactKeptAttrs.jG, fnExactKeptAttrs.jH]
  kernel_rfl

end Go.Proofs.YthhdfbgjdfoalaaGreatDoor
