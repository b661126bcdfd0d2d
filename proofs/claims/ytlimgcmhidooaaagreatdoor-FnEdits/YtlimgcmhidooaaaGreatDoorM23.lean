/- Whole numbers as floats, up to 480: read back, one more, the same. -/
import Derived.Laws.ComplexArith
set_option maxRecDepth 100000
set_option linter.unusedVariables false
set_option linter.unusedSimpArgs false
namespace Go.Proofs.YtlimgcmhidooaaaGreatDoor
theorem fl_all : ((List.range 481).all fun k => decide (floatToIntVal .f64 (floatOfInt .f64 (k : Int)) .i64 = some (k : Int)) && decide (floatBits .add .f64 (floatOfInt .f64 (k : Int)) 4607182418800017408 = some (floatOfInt .f64 ((k : Int) + 1)))) = true := by kernel_rfl
theorem fl_int (k : Nat) (h : k ≤ 480) : floatToIntVal .f64 (floatOfInt .f64 (k : Int)) .i64 = some (k : Int) := by
 have := List.all_eq_true.1 fl_all k (List.mem_range.2 (by omega))
 simp only [Bool.and_eq_true, decide_eq_true_eq] at this
 exact this.1
theorem fl_add (k : Nat) (h : k ≤ 480) : floatBits .add .f64 (floatOfInt .f64 (k : Int)) 4607182418800017408 = some (floatOfInt .f64 ((k : Int) + 1)) := by
 have := List.all_eq_true.1 fl_all k (List.mem_range.2 (by omega))
 simp only [Bool.and_eq_true, decide_eq_true_eq] at this
 exact this.2

end Go.Proofs.YtlimgcmhidooaaaGreatDoor
