/- The closed facts of the row on PatchText, one by one. -/
import Derived.Test.YtaihlcfpkabonaaDoorRows
import Derived.JoinedOf
import Derived.ProofKit
namespace Go.Proofs.YtaihlcfpkabonaaDoor
namespace fnExactPatchText

theorem jA : ((Rows.fnExactPatchTextRow).inPlace == Tryd.prog.inPlace 3) = true := by kernel_rfl

theorem jB : ((Rows.fnExactPatchTextRow).unfollowed == Tryd.prog.unfollowed 3) = true := by kernel_rfl

theorem jC : ((Rows.fnExactPatchTextRow).recurses == Tryd.prog.recurses 3) = true := by kernel_rfl

theorem jD : ((Rows.fnExactPatchTextRow).named == Tryd.prog.varsNamed 3) = true := by kernel_rfl

theorem jE : laidOutB Tryd.prog = true := by kernel_rfl

theorem jF : mapsRowed Tryd.prog = true := by kernel_rfl

theorem jG : namedTie Tryd.prog (Rows.fnExactPatchTextRow).named (Rows.fnExactPatchTextSpec).vars = true := by kernel_rfl

theorem jH : (Rows.fnExactPatchTextRow).wf (OpenSpec.ofChange Rows.fnExactPatchTextSpec) = true := by kernel_rfl

end fnExactPatchText

theorem closed_fnExactPatchText : joinedFacts Tryd.prog 3 Tryd.f3 Rows.fnExactPatchTextSpec Rows.fnExactPatchTextRow = true := by
  unfold joinedFacts
  rw [fnExactPatchText.jA, fnExactPatchText.jB, fnExactPatchText.jC, fnExactPatchText.jD, fnExactPatchText.jE, fnExactPatchText.jF, fnExactPatchText.jG, fnExactPatchText.jH]
  kernel_rfl

end Go.Proofs.YtaihlcfpkabonaaDoor
