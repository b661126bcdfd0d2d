/- No text that begins with a digit is a special one. -/
import Derived.Test.YtfdcfajliofbfaaGreatDoorFp
namespace Go.Proofs.YtfdcfajliofbfaaGreatDoor
open Go.RowKit
set_option linter.unusedVariables false
set_option linter.unusedSimpArgs false

set_option maxRecDepth 100000 in
set_option maxHeartbeats 1600000 in
theorem special_any (s : ByteArray) (w : World) (hd : isDec s) :
    Calls Tryz.prog 255 #[.string s] w fun e w' => e = .returned (.tuple #[.float .f64 0, .int .i64 0, .bool false]) ∧ w' = w := by
  have n8 := hd.2.1
  have n0 := hd.1
  have b0 := byS_is (s := s) (k := 0) (by omega)
  have hse : ¬ s = ByteArray.empty := by rintro rfl; simp at n0
  have hsz : ¬ s.size = 0 := by omega
  have hz : ((s.size : Int) == 0) = false := by rw [beq_eq_false_iff_ne]; omega
  have p1 : (0 : Int) < (s.size : Int) := by omega
  have hc := hd.2.2.1
  have q1 : ((byS s 0 : Int) == 43) = false := by rw [beq_eq_false_iff_ne]; omega
  have q2 : ((byS s 0 : Int) == 45) = false := by rw [beq_eq_false_iff_ne]; omega
  have q3 : ((byS s 0 : Int) == 105) = false := by rw [beq_eq_false_iff_ne]; omega
  have q4 : ((byS s 0 : Int) == 73) = false := by rw [beq_eq_false_iff_ne]; omega
  have q5 : ((byS s 0 : Int) == 110) = false := by rw [beq_eq_false_iff_ne]; omega
  have q6 : ((byS s 0 : Int) == 78) = false := by rw [beq_eq_false_iff_ne]; omega
  clear hc
  go_enter Tryz.func255, Tryz.ntmps255
  go_wp2
  go_ret3
  exact ⟨rfl, rfl⟩

end Go.Proofs.YtfdcfajliofbfaaGreatDoor
