/- An attribute of a token: the program. -/
import Derived.Test.YtbdjppiagjhfmaaTj
namespace Go.Proofs.Ytbdjppiagjhfmaa
open Go.RowKit
set_option linter.unusedVariables false
set_option linter.unusedSimpArgs false

theorem copyBytes_own (a : Option Addr) (c : Nat) (l : List Int) (w : World) (ha : BAt w a l) (hl : (l.length : Int) ≤ 1048576) :
    Calls Try.prog 39 #[.slice a l.length c] w fun e w' => ∃ v, e = .returned v ∧ OB w' v l ∧ In w.heap.size w'.heap.size v ∧ Below w.heap.size w w' := by
  refine (copyBytes_any a c l w ha hl).mono ?_
  rintro e w1 ⟨g, rfl, hg, hr, hb⟩
  refine ⟨_, rfl, ob_of_row rfl hr, fun k hk => ?_, hb⟩
  simp [Value.ownBlock] at hk
  subst hk
  exact ⟨hg, hr.lt⟩

end Go.Proofs.Ytbdjppiagjhfmaa
