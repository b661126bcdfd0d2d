/- Walks: BitsOf, both sides, and the law. -/
import Derived.Test.YtjofghkmommpoaaDoorMc
import Derived.Test.YtjofghkmommpoaaDoorWb
namespace Go.Proofs.YtjofghkmommpoaaDoor
open Go.RowKit
open Ieee
set_option linter.unusedVariables false

theorem below_two {B : Nat} {w w' : World} (h : Below B w w') {c o1 o2 : Nat} {v1 v2 : Value} (hc : B ≤ c) : Below B w ((w'.setCell ⟨c, o1, none⟩ v1).setCell ⟨c, o2, none⟩ v2) :=
  (h.setCell (p := ⟨c, o1, none⟩) hc _).setCell (p := ⟨c, o2, none⟩) hc _

abbrev bitsIn (x y : Int) : Prop := (0 ≤ x ∧ x ≤ 9999) ∧ 0 ≤ y ∧ y ≤ 3
def bitsC (x y : Int) : Int := if bitsIn x y then 0 else 3
def bitsV (b : Bool) (x y : Int) : Int := if bitsIn x y then signBits b (wordQ (4 * x + y).toNat) else 0

theorem eqIntResult_any (x y : Int) (w : World) :
    Calls Tryd.prog 6 #[.agg #[.int .i64 x, .int .i64 y], .agg #[.int .i64 x, .int .i64 y]] w fun e w' => e = .returned (.bool true) ∧ Below w.heap.size w w' := by
  go_enter Tryd.func6, Tryd.ntmps6
  go_wp2
  go_ret
  exact ⟨rfl, ((Below.refl _ _).alloc (Nat.le_refl _) _).alloc (by simp) _⟩

end Go.Proofs.YtjofghkmommpoaaDoor
