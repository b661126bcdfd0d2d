/- The closed facts of the row on TokensOf, one by one. -/
import Derived.Test.YtkiinnmindmnbaaGreatDoorRows
import Derived.JoinedOf
import Derived.ProofKit
set_option linter.unusedVariables false
set_option linter.unusedSimpArgs false
namespace Go.Proofs.YtkiinnmindmnbaaGreatDoor
namespace fnExactTokensOf

theorem jA : ((Rows.fnExactTokensOfRow).inPlace == Tryz.prog.inPlace 6) = true := by kernel_rfl

theorem jB : ((Rows.fnExactTokensOfRow).unfollowed == Tryz.prog.unfollowed 6) = true := by kernel_rfl

theorem jC : ((Rows.fnExactTokensOfRow).recurses == Tryz.prog.recurses 6) = true := by kernel_rfl

theorem jD : ((Rows.fnExactTokensOfRow).named == Tryz.prog.varsNamed 6) = true := by kernel_rfl

theorem jE : laidOutB Tryz.prog = true := by kernel_rfl

theorem jF : mapsRowed Tryz.prog = true := by kernel_rfl

theorem jG : namedTie Tryz.prog (Rows.fnExactTokensOfRow).named (Rows.fnExactTokensOfSpec).vars = true := by kernel_rfl

theorem jH : (Rows.fnExactTokensOfRow).wf (OpenSpec.ofChange Rows.fnExactTokensOfSpec) = true := by kernel_rfl

end fnExactTokensOf

theorem closed_fnExactTokensOf : joinedFacts Tryz.prog 6 Tryz.f6 Rows.fnExactTokensOfSpec Rows.fnExactTokensOfRow = true := by
  unfold joinedFacts
  rw [fnExactTokensOf.jA, fnExactTokensOf.jB, fnExactTokensOf.jC, fnExactTokensOf.jD, fnExactTokensOf.jE, fnExactTokensOf.jF, fnExactTokensOf.jG, fnExactTokensOf.jH]
  kernel_rfl

end Go.Proofs.YtkiinnmindmnbaaGreatDoor
