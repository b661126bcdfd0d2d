/- The closed facts of the row on LexText, one by one. -/
import Derived.Test.YthcajggbcanmdaaGreatDoorRows
import Derived.JoinedOf
import Derived.ProofKit
set_option linter.unusedVariables false
set_option linter.unusedSimpArgs false
namespace Go.Proofs.YthcajggbcanmdaaGreatDoor
namespace fnExactLexText

theorem jA : ((Rows.fnExactLexTextRow).inPlace == Tryz.prog.inPlace 3) = true := by kernel_rfl

theorem jB : ((Rows.fnExactLexTextRow).unfollowed == Tryz.prog.unfollowed 3) = true := by kernel_rfl

theorem jC : ((Rows.fnExactLexTextRow).recurses == Tryz.prog.recurses 3) = true := by kernel_rfl

theorem jD : ((Rows.fnExactLexTextRow).named == Tryz.prog.varsNamed 3) = true := by kernel_rfl

theorem jE : laidOutB Tryz.prog = true := by kernel_rfl

theorem jF : mapsRowed Tryz.prog = true := by kernel_rfl

theorem jG : namedTie Tryz.prog (Rows.fnExactLexTextRow).named (Rows.fnExactLexTextSpec).vars = true := by kernel_rfl

theorem jH : (Rows.fnExactLexTextRow).wf (OpenSpec.ofChange Rows.fnExactLexTextSpec) = true := by kernel_rfl

end fnExactLexText

theorem closed_fnExactLexText : joinedFacts Tryz.prog 3 Tryz.f3 Rows.fnExactLexTextSpec Rows.fnExactLexTextRow = true := by
  unfold joinedFacts
  rw [fnExactLexText.jA, fnExactLexText.jB, fnExactLexText.jC, fnExactLexText.jD, fnExactLexText.jE, fnExactLexText.jF, fnExactLexText.jG, fnExactLexText.jH]
  kernel_rfl

end Go.Proofs.YthcajggbcanmdaaGreatDoor
