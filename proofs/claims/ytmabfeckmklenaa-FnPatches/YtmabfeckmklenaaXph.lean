/- The law on SamePatches. -/
import Derived.Test.YtmabfeckmklenaaXpg
namespace Go.Proofs.Ytmabfeckmklenaa
open Go.RowKit
set_option linter.unusedVariables false
set_option linter.unusedSimpArgs false

theorem implSX_any (a b : Option Addr) (c d : Nat) (l m : List XK) (w : World) (ha : XsAt w a l) (hb : XsAt w b m) (hl : (l.length : Int) + xsz l ≤ 1048576) (hm : (m.length : Int) + xsz m ≤ 1048576) :
    Calls Try.prog 12 #[.slice a l.length c, .slice b m.length d] w fun e w' => e = .returned (.bool (sameXs l m)) ∧ Below w.heap.size w w' := by
  have K := Hid.mk' (equalPatches_any a b c d l m w ha hb (by omega) (by omega))
  clear ha hb
  go_enter Try.func12, Try.ntmps12
  go_wp2_with fail
  refine K.out.mono ?_
  rintro e w1 ⟨rfl, hb⟩
  have HB := Hid.mk' hb
  clear hb K
  go_wp2
  go_ret
  exact ⟨rfl, HB.out⟩

end Go.Proofs.Ytmabfeckmklenaa
