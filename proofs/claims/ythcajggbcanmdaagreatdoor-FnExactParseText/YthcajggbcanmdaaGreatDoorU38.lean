/- The closed facts of the row on ParseText, one by one. -/
import Derived.Test.YthcajggbcanmdaaGreatDoorRows
import Derived.JoinedOf
import Derived.ProofKit
set_option linter.unusedVariables false
set_option linter.unusedSimpArgs false
namespace Go.Proofs.YthcajggbcanmdaaGreatDoor
namespace fnExactParseText

theorem jA : ((Rows.fnExactParseTextRow).inPlace == Tryz.prog.inPlace 5) = true := by kernel_rfl

theorem jB : ((Rows.fnExactParseTextRow).unfollowed == Tryz.prog.unfollowed 5) = true := by kernel_rfl

theorem jC : ((Rows.fnExactParseTextRow).recurses == Tryz.prog.recurses 5) = true := by kernel_rfl

theorem jD : ((Rows.fnExactParseTextRow).named == Tryz.prog.varsNamed 5) = true := by kernel_rfl

theorem jE : laidOutB Tryz.prog = true := by kernel_rfl

theorem jF : mapsRowed Tryz.prog = true := by kernel_rfl

theorem jG : namedTie Tryz.prog (Rows.fnExactParseTextRow).named (Rows.fnExactParseTextSpec).vars = true := by kernel_rfl

theorem jH : (Rows.fnExactParseTextRow).wf (OpenSpec.ofChange Rows.fnExactParseTextSpec) = true := by kernel_rfl

end fnExactParseText

theorem closed_fnExactParseText : joinedFacts Tryz.prog 5 Tryz.f5 Rows.fnExactParseTextSpec Rows.fnExactParseTextRow = true := by
  unfold joinedFacts
  rw [fnExactParseText.jA, fnExactParseText.jB, fnExactParseText.jC, fnExactParseText.jD, fnExactParseText.jE, fnExactParseText.jF, fnExactParseText.jG, fnExactParseText.jH]
  kernel_rfl

end Go.Proofs.YthcajggbcanmdaaGreatDoor
