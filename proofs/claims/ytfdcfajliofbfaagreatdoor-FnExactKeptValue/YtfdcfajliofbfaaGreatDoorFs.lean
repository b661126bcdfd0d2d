/- A whole number over a power of ten, as the program's library has it. -/
import Derived.Test.YtfdcfajliofbfaaGreatDoorFo
import Derived.Test.YtfdcfajliofbfaaGreatDoorMc
namespace Go.Proofs.YtfdcfajliofbfaaGreatDoor
open Go.RowKit
open Ieee
set_option linter.unusedVariables false
set_option linter.unusedSimpArgs false

set_option maxHeartbeats 1600000 in
theorem exact_zero (m : Nat) (w : World) (hm : m < 4503599627370496) (h7 : w.cell? ⟨7, 0, none⟩ = some (.int .u64 52)) :
    Calls Tryz.prog 266 #[.int .u64 m, .int .i64 0, .bool false] w fun e w' => e = .returned (.tuple #[.float .f64 (double.nearest false m 0), .bool true]) ∧ w' = w := by
  have hf := float_nat m
  have hz : (m : Int) / 4503599627370496 = 0 := by omega
  generalize double.nearest false m 0 = F at *
  go_enter Tryz.func266, Tryz.ntmps266
  go_wp2
  go_ret2
  exact ⟨rfl, rfl⟩

set_option maxHeartbeats 1600000 in
theorem exact_over (m j D word g o c : Nat) (w : World) (hm : m < 4503599627370496) (h7 : w.cell? ⟨7, 0, none⟩ = some (.int .u64 52)) (hj : 1 ≤ j) (hj2 : j ≤ 3)
    (ht : w.cell? ⟨13, 0, none⟩ = some (.slice (some ⟨g, o, none⟩) 23 c)) (hc : w.cell? ⟨g, o + j, none⟩ = some (.float .f64 (double.nearest false D 0))) (hd : double.div (double.nearest false m 0) (double.nearest false D 0) = some word) :
    Calls Tryz.prog 266 #[.int .u64 m, .int .i64 (-(j : Int)), .bool false] w fun e w' => e = .returned (.tuple #[.float .f64 word, .bool true]) ∧ w' = w := by
  have hf := float_nat m
  have hz : (m : Int) / 4503599627370496 = 0 := by omega
  have e1 : (-(j : Int) == 0) = false := by rw [beq_eq_false_iff_ne]; omega
  have e2 : ¬ -(j : Int) > 0 := by omega
  have e3 : -(j : Int) < 0 := by omega
  have e4 : -(j : Int) ≥ -22 := by omega
  have e5 : - -(j : Int) = j := by omega
  have e6 : (j : Int) < 23 := by omega
  have HQ : ∀ W : World, (binOp .quo 74 (.float .f64 (double.nearest false m 0)) (.float .f64 (double.nearest false D 0))).run Tryz.prog W = .ok (.float .f64 word) W := fun W => run_float_arith W _ _ _ _ _ _ hd
  clear hd
  generalize double.nearest false m 0 = F at *
  generalize double.nearest false D 0 = P at *
  go_enter Tryz.func266, Tryz.ntmps266
  go_wp2
  go_ret2
  exact ⟨rfl, rfl⟩

end Go.Proofs.YtfdcfajliofbfaaGreatDoor
