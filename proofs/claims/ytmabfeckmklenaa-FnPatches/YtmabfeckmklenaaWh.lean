/- Walks: a new table, both sides. -/
import Derived.Test.YtmabfeckmklenaaWg
import Derived.Test.YtmabfeckmklenaaApp
namespace Go.Proofs.Ytmabfeckmklenaa
open Go.RowKit
set_option linter.unusedVariables false

set_option maxHeartbeats 400000 in
theorem l1Copy_own (a : Option Addr) (c : Nat) (l : List Int) (w : World) (ha : BAt w a l) (hl : (l.length : Int) ≤ 1048576) :
    Calls Try.prog 22 #[.slice a l.length c] w fun e w' => ∃ v, e = .returned v ∧ w'.ownsRow w.heap.size 5 1 v l.length (bcs l) ∧ Below w.heap.size w w' := by
  have B0 := below_new w (.cells #[] 5)
  go_enter Try.func22, Try.ntmps22
  go_wp2_with (at_builtin; refine wpList_append_any _ rfl (.tmp 3) (.tmp 4) 22 rfl w.heap.size 5 (.int .u8 0) 1 1 Try.underlying22 Try.info5 rfl (by decide) _ 0 [] rfl (World.ownsRow_lit w #[] 0 (Nat.le_refl _) (by decide) rfl) a l.length c (bcs l) rfl (bcs_len l) (ha.below B0).src (bcs_one l) (by unfold maxLen; omega) (by omega) (by simp) ?_; intro v' w1 hown hgr)
  go_ret
  rw [Nat.zero_add, List.nil_append] at hown
  refine ⟨_, rfl, hown, B0.grown hgr (by simp) (fun k hk => ?_)⟩
  simp [Act.eval, Value.ownBlock] at hk
  omega

theorem l1Copy_any (a : Option Addr) (c : Nat) (l : List Int) (w : World) (ha : BAt w a l) (hl : (l.length : Int) ≤ 1048576) :
    Calls Try.prog 22 #[.slice a l.length c] w fun e w' => ∃ v, e = .returned v ∧ OB w' v l ∧ In w.heap.size w'.heap.size v ∧ Below w.heap.size w w' := by
  refine (l1Copy_own a c l w ha hl).mono ?_
  rintro e w1 ⟨v, rfl, hown, hb⟩
  obtain ⟨ho, hlo⟩ := OB.of_own hown
  exact ⟨_, rfl, ho, fun k hk => ⟨hlo k hk, ho.lt k hk⟩, hb⟩

/-- The pieces of a new table. -/
def newPcs (l : List Int) : List PC := if l.length = 0 then [] else [⟨false, 0, l.length⟩]
/-- A new table. -/
def newT (l : List Int) : TB := ⟨l, [], newPcs l⟩

end Go.Proofs.Ytmabfeckmklenaa
