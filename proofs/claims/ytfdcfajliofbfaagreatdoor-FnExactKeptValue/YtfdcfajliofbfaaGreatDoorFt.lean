/- ParseFloat at a text of digits with at most one point. -/
import Derived.Test.YtfdcfajliofbfaaGreatDoorFq
import Derived.Test.YtfdcfajliofbfaaGreatDoorFr
import Derived.Test.YtfdcfajliofbfaaGreatDoorFs
namespace Go.Proofs.YtfdcfajliofbfaaGreatDoor
open Go.RowKit
set_option linter.unusedVariables false
set_option linter.unusedSimpArgs false

/-- The power of ten that readFloat tells. -/
def rfX (s : ByteArray) : Int := if rfM s s.size = 0 then 0 else if rfD s s.size = true then -(rfF s s.size : Int) else 0

theorem rfX_bd (s : ByteArray) (hd : isDec s) : -8 ≤ rfX s ∧ rfX s ≤ 0 := by
  have h1 := rfF_le s s.size
  have h2 := hd.2.1
  unfold rfX
  split
  · omega
  · split <;> omega

@[go_sem] theorem run_fromI (n : Int) (w : World) : (callFunc 265 #[.int .u64 n]).run Tryz.prog w = .ok (.value (.float .f64 n.toNat)) w := by
  rw [run_callFunc_extern Tryz.func265 (by kernel_rfl) (by kernel_rfl) (by kernel_rfl) (e := Extern.MathFloatBits.float64frombits) (by kernel_rfl)]
  rfl

set_option maxRecDepth 100000 in
set_option maxHeartbeats 3200000 in
theorem atof64_pos (s : ByteArray) (word : Nat) (w : World) (hd : isDec s) (hM : rfM s s.size ≠ 0) (ho : w.cell? ⟨1, 0, none⟩ = some (.bool true))
    (KE : Calls Tryz.prog 266 #[.int .u64 (rfM s s.size), .int .i64 (rfX s), .bool false] w fun e w' => e = .returned (.tuple #[.float .f64 word, .bool true]) ∧ w' = w) :
    Calls Tryz.prog 212 #[.string s] w fun e w' => e = .returned (.tuple #[.float .f64 word, .int .i64 s.size, .nilIface]) ∧ w' = w := by
  have KS := Hid.mk' (special_any s w hd)
  have KR : Hid (Calls Tryz.prog 256 #[.string s] w fun e w' => e = .returned (.tuple #[.int .u64 (rfM s s.size), .int .i64 (rfX s), .bool false, .bool false, .bool false, .int .i64 s.size, .bool true]) ∧ w' = w) := Hid.mk' (readFloat_any s w hd)
  have KB := Hid.mk' (bool2u_any false w)
  have n8 := hd.2.1
  have KX := Hid.mk' KE
  obtain ⟨x1, x2⟩ := rfX_bd s hd
  have y1 : ((rfM s s.size : Int) == 0) = false := by rw [beq_eq_false_iff_ne]; omega
  have y2 : ¬ rfX s > 310 := by omega
  have y3 : ¬ rfX s < -345 := by omega
  clear KE hd hM
  generalize rfM s s.size = M at *
  generalize rfX s = X at *
  go_enter Tryz.func212, Tryz.ntmps212
  go_wp2_with fail
  refine KS.out.mono ?_
  rintro e w1 ⟨rfl, hw⟩
  obtain rfl := hw.symm
  go_wp2_with fail
  refine KR.out.mono ?_
  rintro e w1 ⟨rfl, hw⟩
  obtain rfl := hw.symm
  go_wp2_with fail
  refine KB.out.mono ?_
  rintro e w1 ⟨rfl, hw⟩
  obtain rfl := hw.symm
  go_wp2_with fail
  refine KX.out.mono ?_
  rintro e w1 ⟨rfl, hw⟩
  obtain rfl := hw.symm
  go_wp2
  go_ret3
  exact ⟨rfl, rfl⟩

set_option maxRecDepth 100000 in
set_option maxHeartbeats 3200000 in
theorem atof64_zero (s : ByteArray) (w : World) (hd : isDec s) (hM : rfM s s.size = 0) (ho : w.cell? ⟨1, 0, none⟩ = some (.bool true)) :
    Calls Tryz.prog 212 #[.string s] w fun e w' => e = .returned (.tuple #[.float .f64 0, .int .i64 s.size, .nilIface]) ∧ w' = w := by
  have KS := Hid.mk' (special_any s w hd)
  have KR : Hid (Calls Tryz.prog 256 #[.string s] w fun e w' => e = .returned (.tuple #[.int .u64 (rfM s s.size), .int .i64 (rfX s), .bool false, .bool false, .bool false, .int .i64 s.size, .bool true]) ∧ w' = w) := Hid.mk' (readFloat_any s w hd)
  rw [hM] at KR
  have KB := Hid.mk' (bool2u_any false w)
  have n8 := hd.2.1
  have hz : bits .or .u64 0 0 = 0 := by decide
  clear hd hM
  generalize rfX s = X at *
  go_enter Tryz.func212, Tryz.ntmps212
  go_wp2_with fail
  refine KS.out.mono ?_
  rintro e w1 ⟨rfl, hw⟩
  obtain rfl := hw.symm
  go_wp2_with fail
  refine KR.out.mono ?_
  rintro e w1 ⟨rfl, hw⟩
  obtain rfl := hw.symm
  go_wp2_with fail
  refine KB.out.mono ?_
  rintro e w1 ⟨rfl, hw⟩
  obtain rfl := hw.symm
  go_wp2
  go_ret3
  exact ⟨rfl, rfl⟩

theorem prefix_any (s : ByteArray) (word : Nat) (w : World) (KA : Calls Tryz.prog 212 #[.string s] w fun e w' => e = .returned (.tuple #[.float .f64 word, .int .i64 s.size, .nilIface]) ∧ w' = w) :
    Calls Tryz.prog 174 #[.string s, .int .i64 64] w fun e w' => e = .returned (.tuple #[.float .f64 word, .int .i64 s.size, .nilIface]) ∧ w' = w := by
  have KA := Hid.mk' KA
  go_enter Tryz.func174, Tryz.ntmps174
  go_wp2_with fail
  refine KA.out.mono ?_
  rintro e w1 ⟨rfl, hw⟩
  obtain rfl := hw.symm
  go_wp2
  go_ret3
  exact ⟨rfl, rfl⟩

theorem parseI_any (s : ByteArray) (word : Nat) (w : World) (hs : s.size ≤ 8) (KA : Calls Tryz.prog 212 #[.string s] w fun e w' => e = .returned (.tuple #[.float .f64 word, .int .i64 s.size, .nilIface]) ∧ w' = w) :
    Calls Tryz.prog 154 #[.string s, .int .i64 64] w fun e w' => e = .returned (.tuple #[.float .f64 word, .nilIface]) ∧ w' = w := by
  have KA := Hid.mk' (prefix_any s word w KA)
  go_enter Tryz.func154, Tryz.ntmps154
  go_wp2_with fail
  refine KA.out.mono ?_
  rintro e w1 ⟨rfl, hw⟩
  obtain rfl := hw.symm
  go_wp2
  go_ret2
  exact ⟨rfl, rfl⟩

/-- strconv.ParseFloat(s, 64). -/
theorem parse_any (s : ByteArray) (word : Nat) (w : World) (hs : s.size ≤ 8) (KA : Calls Tryz.prog 212 #[.string s] w fun e w' => e = .returned (.tuple #[.float .f64 word, .int .i64 s.size, .nilIface]) ∧ w' = w) :
    Calls Tryz.prog 125 #[.string s, .int .i64 64] w fun e w' => e = .returned (.tuple #[.float .f64 word, .nilIface]) ∧ w' = w := by
  have KA := Hid.mk' (parseI_any s word w hs KA)
  go_enter Tryz.func125, Tryz.ntmps125
  go_wp2_with fail
  refine KA.out.mono ?_
  rintro e w1 ⟨rfl, hw⟩
  obtain rfl := hw.symm
  go_wp2
  go_ret2
  exact ⟨rfl, rfl⟩

end Go.Proofs.YtfdcfajliofbfaaGreatDoor
