/- Walks: NewTable, both sides. -/
import Derived.Test.YtieldfcgdgggnajWh
namespace Go.Proofs.Ytieldfcgdgggnaj
open Go.RowKit
set_option linter.unusedVariables false

/-- The code of a new table, and the table beside it. -/
def newCode (l : List Int) : Int := if 240 < l.length then 6 else 0
def newTR (l : List Int) : TB := if 240 < l.length then ⟨[], [], []⟩ else newT l

set_option maxHeartbeats 400000 in
theorem copyBytes_any (a : Option Addr) (c : Nat) (l : List Int) (w : World) (ha : BAt w a l) (hl : (l.length : Int) ≤ 1048576) :
    Calls Try.prog 39 #[.slice a l.length c] w fun e w' => ∃ g, e = .returned (.slice (some ⟨g, 0, none⟩) l.length l.length) ∧ w.heap.size ≤ g ∧ w'.rowIs g 5 l.length (bv l) ∧ Below w.heap.size w w' := by
  have K := Hid.mk' (joinBytes_nil a none c 0 l w ha (by omega))
  go_enter Try.func39, Try.ntmps39
  go_wp2_with fail
  refine K.out.mono ?_
  rintro e w1 ⟨g, rfl, h1, h2, h3⟩
  have H1 := Hid.mk' h2
  have H2 := Hid.mk' h3
  clear K h2 h3
  go_wp2
  go_ret
  exact ⟨g, rfl, h1, H1.out, H2.out⟩

theorem ob_of_row {w : World} {g n : Nat} {l : List Int} (e : l.length = n) (h : w.rowIs g 5 n (bv l)) : OB w (.slice (some ⟨g, 0, none⟩) n n) l := by
  subst e; exact .inr ⟨g, _, _, _, rfl, Nat.le_refl _, h, Nat.le_refl _, fun _ _ => rfl⟩

end Go.Proofs.Ytieldfcgdgggnaj
