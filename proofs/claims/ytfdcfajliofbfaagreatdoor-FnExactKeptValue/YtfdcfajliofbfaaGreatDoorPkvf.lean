/- The closed facts of the row on KeptValue, one by one. -/
import Derived.Test.YtfdcfajliofbfaaGreatDoorRows
import Derived.JoinedOf
import Derived.ProofKit
namespace Go.Proofs.YtfdcfajliofbfaaGreatDoor
namespace fnExactKeptValue

theorem jA : ((Rows.fnExactKeptValueRow).inPlace == Tryz.prog.inPlace 4) = true := by kernel_rfl

theorem jB : ((Rows.fnExactKeptValueRow).unfollowed == Tryz.prog.unfollowed 4) = true := by kernel_rfl

theorem jC : ((Rows.fnExactKeptValueRow).recurses == Tryz.prog.recurses 4) = true := by kernel_rfl

theorem jD : ((Rows.fnExactKeptValueRow).named == Tryz.prog.varsNamed 4) = true := by kernel_rfl

theorem jE : laidOutB Tryz.prog = true := by kernel_rfl

theorem jF : mapsRowed Tryz.prog = true := by kernel_rfl

theorem jG : namedTie Tryz.prog (Rows.fnExactKeptValueRow).named (Rows.fnExactKeptValueSpec).vars = true := by kernel_rfl

theorem jH : (Rows.fnExactKeptValueRow).wf (OpenSpec.ofChange Rows.fnExactKeptValueSpec) = true := by kernel_rfl

end fnExactKeptValue

theorem closed_fnExactKeptValue : joinedFacts Tryz.prog 4 Tryz.f4 Rows.fnExactKeptValueSpec Rows.fnExactKeptValueRow = true := by
  unfold joinedFacts
  rw [fnExactKeptValue.jA, fnExactKeptValue.jB, fnExactKeptValue.jC, fnExactKeptValue.jD, fnExactKeptValue.jE, fnExactKeptValue.jF, fnExactKeptValue.jG, fnExactKeptValue.jH]
  kernel_rfl

end Go.Proofs.YtfdcfajliofbfaaGreatDoor
