/- The closed facts of the row on MeetOf, one by one. -/
import Derived.Test.YtmhihkdnhaadeaaGreatDoorRows
import Derived.JoinedOf
import Derived.ProofKit
set_option linter.unusedVariables false
set_option linter.unusedSimpArgs false
namespace Go.Proofs.YtmhihkdnhaadeaaGreatDoor
namespace fnExactMeetOf

theorem jA : ((Rows.fnExactMeetOfRow).inPlace == Tryz.prog.inPlace 3) = true := by kernel_rfl

theorem jB : ((Rows.fnExactMeetOfRow).unfollowed == Tryz.prog.unfollowed 3) = true := by kernel_rfl

theorem jC : ((Rows.fnExactMeetOfRow).recurses == Tryz.prog.recurses 3) = true := by kernel_rfl

theorem jD : ((Rows.fnExactMeetOfRow).named == Tryz.prog.varsNamed 3) = true := by kernel_rfl

theorem jE : laidOutB Tryz.prog = true := by kernel_rfl

theorem jF : mapsRowed Tryz.prog = true := by kernel_rfl

theorem jG : namedTie Tryz.prog (Rows.fnExactMeetOfRow).named (Rows.fnExactMeetOfSpec).vars = true := by kernel_rfl

theorem jH : (Rows.fnExactMeetOfRow).wf (OpenSpec.ofChange Rows.fnExactMeetOfSpec) = true := by kernel_rfl

end fnExactMeetOf

theorem closed_fnExactMeetOf : joinedFacts Tryz.prog 3 Tryz.f3 Rows.fnExactMeetOfSpec Rows.fnExactMeetOfRow = true := by
  unfold joinedFacts
  rw [fnExactMeetOf.jA, fnExactMeetOf.jB, fnExactMeetOf.jC, fnExactMeetOf.jD, fnExactMeetOf.jE, fnExactMeetOf.jF, fnExactMeetOf.jG, fnExactMeetOf.jH]
  kernel_rfl

end Go.Proofs.YtmhihkdnhaadeaaGreatDoor
