/- Walks: BitsOf, both sides, and the law. -/
import Derived.Test.YthhdfbgjdfoalaaGreatDoorMc
import Derived.Test.YthhdfbgjdfoalaaGreatDoorWb
namespace Go.Proofs.YthhdfbgjdfoalaaGreatDoor
open Go.RowKit
open Ieee
set_option linter.unusedVariables false

theorem below_two {B : Nat} {w w' : World} (h : Below B w w') {c o1 o2 : Nat} {v1 v2 : Value} (hc : B ≤ c) : Below B w ((w'.setCell ⟨c, o1, none⟩ v1).setCell ⟨c, o2, none⟩ v2) :=
  (h.setCell (p := ⟨c, o1, none⟩) hc _).setCell (p := ⟨c, o2, none⟩) hc _

abbrev bitsIn (x y : Int) : Prop := (0 ≤ x ∧ x ≤ 9999) ∧ 0 ≤ y ∧ y ≤ 3
def bitsC (x y : Int) : Int := if bitsIn x y then 0 else 3
def bitsV (b : Bool) (x y : Int) : Int := if bitsIn x y then signBits b (wordQ (4 * x + y).toNat) else 0

theorem in_true {v lo hi : Int} (h : lo ≤ v ∧ v ≤ hi) (w : World) : Calls Tryz.prog 139 #[.int .i64 v, .int .i64 lo, .int .i64 hi] w fun e w' => e = .returned (.bool true) ∧ w' = w := by
  have k := l1In_any v lo hi w
  rw [show (decide (lo ≤ v) && decide (v ≤ hi)) = true from by simp [h]] at k
  exact k
theorem in_false {v lo hi : Int} (h : ¬ (lo ≤ v ∧ v ≤ hi)) (w : World) : Calls Tryz.prog 139 #[.int .i64 v, .int .i64 lo, .int .i64 hi] w fun e w' => e = .returned (.bool false) ∧ w' = w := by
  have k := l1In_any v lo hi w
  rw [show (decide (lo ≤ v) && decide (v ≤ hi)) = false from by
    cases e : (decide (lo ≤ v) && decide (v ≤ hi)) with
    | false => rfl
    | true => exact absurd (by simpa using e) h] at k
  exact k

end Go.Proofs.YthhdfbgjdfoalaaGreatDoor
