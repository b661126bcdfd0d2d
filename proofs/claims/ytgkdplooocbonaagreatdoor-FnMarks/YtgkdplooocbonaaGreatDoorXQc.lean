/- Walks: references read, the program's side. -/
import Derived.Test.YtgkdplooocbonaaGreatDoorXV2
import Derived.Test.YtgkdplooocbonaaGreatDoorXShp
import Derived.BigQuiet
import Derived.Deep.QuietTactic
namespace Go.Proofs.YtgkdplooocbonaaGreatDoor
open Go.RowKit
set_option linter.unusedVariables false

def nameText : Nat → List UInt8
  | 0 => [38, 108, 116, 59]
  | 1 => [38, 103, 116, 59]
  | 2 => [38, 97, 109, 112, 59]
  | _ => [38, 113, 117, 111, 116, 59]
/-- The reference by name that a text begins with. -/
def nameOf (L : List UInt8) : Nat × Nat := if Lib.hasPrefix L (nameText 0) = true then (60, 4) else if Lib.hasPrefix L (nameText 1) = true then (62, 4) else if Lib.hasPrefix L (nameText 2) = true then (38, 5) else if Lib.hasPrefix L (nameText 3) = true then (34, 6) else (0, 0)
theorem drewN_below {B : Nat} {w w' : World} (h : Below B w w') (n : Nat) : Below B w (w'.drewN n) := ⟨h.os, h.tape, h.output, h.size, h.block⟩

set_option maxRecDepth 100000 in
set_option maxHeartbeats 800000 in
theorem nameAhead_any (s : ByteArray) (w : World) (hr : Refs w) :
    Calls Tryz.prog 52 #[.string s] w fun e w' => e = .returned (.tuple #[.int .u8 (nameOf s.data.toList).1, .int .i64 (nameOf s.data.toList).2]) ∧ Below w.heap.size w w' := by
  have g0 := hr 0 (by decide)
  have g1 := hr 1 (by decide)
  have g2 := hr 2 (by decide)
  have g3 := hr 3 (by decide)
  have g4 := hr 4 (by decide)
  have g5 := hr 5 (by decide)
  have g6 := hr 6 (by decide)
  have g7 := hr 7 (by decide)
  simp only [refCell] at g0 g1 g2 g3 g4 g5 g6 g7
  clear hr
  go_enter Tryz.func52, Tryz.ntmps52
  go_wp2
  clear g0 g1 g2 g3 g4 g5 g6 g7
  go_loopw [7] (fun i wr => ∃ k : Nat, k ≤ 4 ∧ i = .int .i64 k ∧ (∀ j, j < k → ¬ Lib.hasPrefix s.data.toList (nameText j) = true) ∧ Below w.heap.size w wr) (fun i _ => 4 - (intOf i).toNat)
  case atStart => exact ⟨0, by decide, rfl, fun j h => by omega, Below.refl _ _⟩
  case round =>
    obtain ⟨k, hk, rfl, hn, hb⟩ := hrel
    have HB := Hid.mk' hb
    have hs := hb.size
    have HN := Hid.mk' hn
    clear hb hn
    match k, hk with
    | 0, _ =>
      go_wp2
      rw [show ((0 : Nat) : Int) = 0 from rfl, ix0 wr]
      go_wp2_with fail
      refine (Tryz.strings_HasPrefix s ⟨#[38, 108, 116, 59]⟩ _).mono ?_
      rintro e w1 ⟨rfl, rfl⟩
      by_cases hp : Lib.hasPrefix s.data.toList (nameText 0) = true
      · have hp' : Lib.hasPrefix s.data.toList [38, 108, 116, 59] = true := hp
        have Z := Hid.mk' (show nameOf s.data.toList = (60, 4) by
          unfold nameOf
          rw [if_pos hp])
        clear hp
        go_wp2
        go_quiet (fail)
        go_wp2
        go_ret2
        rw [Z.out]
        exact ⟨rfl, drewN_below (HB.out.alloc hs _) _⟩
      · have hp' : Lib.hasPrefix s.data.toList [38, 108, 116, 59] = false := eq_false_of_ne_true hp
        have HP := Hid.mk' hp
        clear hp
        go_wp2
        refine ⟨⟨1, by decide, rfl, fun j hj => ?_, HB.out.alloc hs _⟩, by decide⟩
        by_cases hjk : j = 0
        · subst hjk
          exact HP.out
        · exact HN.out j (by omega)
    | 1, _ =>
      go_wp2
      rw [show ((1 : Nat) : Int) = 1 from rfl, ix1 wr]
      go_wp2_with fail
      refine (Tryz.strings_HasPrefix s ⟨#[38, 103, 116, 59]⟩ _).mono ?_
      rintro e w1 ⟨rfl, rfl⟩
      by_cases hp : Lib.hasPrefix s.data.toList (nameText 1) = true
      · have hp' : Lib.hasPrefix s.data.toList [38, 103, 116, 59] = true := hp
        have Z := Hid.mk' (show nameOf s.data.toList = (62, 4) by
          unfold nameOf
          rw [if_neg (HN.out 0 (by decide)), if_pos hp])
        clear hp
        go_wp2
        go_quiet (fail)
        go_wp2
        go_ret2
        rw [Z.out]
        exact ⟨rfl, drewN_below (HB.out.alloc hs _) _⟩
      · have hp' : Lib.hasPrefix s.data.toList [38, 103, 116, 59] = false := eq_false_of_ne_true hp
        have HP := Hid.mk' hp
        clear hp
        go_wp2
        refine ⟨⟨2, by decide, rfl, fun j hj => ?_, HB.out.alloc hs _⟩, by decide⟩
        by_cases hjk : j = 1
        · subst hjk
          exact HP.out
        · exact HN.out j (by omega)
    | 2, _ =>
      go_wp2
      rw [show ((2 : Nat) : Int) = 2 from rfl, ix2 wr]
      go_wp2_with fail
      refine (Tryz.strings_HasPrefix s ⟨#[38, 97, 109, 112, 59]⟩ _).mono ?_
      rintro e w1 ⟨rfl, rfl⟩
      by_cases hp : Lib.hasPrefix s.data.toList (nameText 2) = true
      · have hp' : Lib.hasPrefix s.data.toList [38, 97, 109, 112, 59] = true := hp
        have Z := Hid.mk' (show nameOf s.data.toList = (38, 5) by
          unfold nameOf
          rw [if_neg (HN.out 0 (by decide)), if_neg (HN.out 1 (by decide)), if_pos hp])
        clear hp
        go_wp2
        go_quiet (fail)
        go_wp2
        go_ret2
        rw [Z.out]
        exact ⟨rfl, drewN_below (HB.out.alloc hs _) _⟩
      · have hp' : Lib.hasPrefix s.data.toList [38, 97, 109, 112, 59] = false := eq_false_of_ne_true hp
        have HP := Hid.mk' hp
        clear hp
        go_wp2
        refine ⟨⟨3, by decide, rfl, fun j hj => ?_, HB.out.alloc hs _⟩, by decide⟩
        by_cases hjk : j = 2
        · subst hjk
          exact HP.out
        · exact HN.out j (by omega)
    | 3, _ =>
      go_wp2
      rw [show ((3 : Nat) : Int) = 3 from rfl, ix3 wr]
      go_wp2_with fail
      refine (Tryz.strings_HasPrefix s ⟨#[38, 113, 117, 111, 116, 59]⟩ _).mono ?_
      rintro e w1 ⟨rfl, rfl⟩
      by_cases hp : Lib.hasPrefix s.data.toList (nameText 3) = true
      · have hp' : Lib.hasPrefix s.data.toList [38, 113, 117, 111, 116, 59] = true := hp
        have Z := Hid.mk' (show nameOf s.data.toList = (34, 6) by
          unfold nameOf
          rw [if_neg (HN.out 0 (by decide)), if_neg (HN.out 1 (by decide)), if_neg (HN.out 2 (by decide)), if_pos hp])
        clear hp
        go_wp2
        go_quiet (fail)
        go_wp2
        go_ret2
        rw [Z.out]
        exact ⟨rfl, drewN_below (HB.out.alloc hs _) _⟩
      · have hp' : Lib.hasPrefix s.data.toList [38, 113, 117, 111, 116, 59] = false := eq_false_of_ne_true hp
        have HP := Hid.mk' hp
        clear hp
        go_wp2
        refine ⟨⟨4, by decide, rfl, fun j hj => ?_, HB.out.alloc hs _⟩, by decide⟩
        by_cases hjk : j = 3
        · subst hjk
          exact HP.out
        · exact HN.out j (by omega)
    | 4, _ =>
      have Z := Hid.mk' (show nameOf s.data.toList = (0, 0) by
        unfold nameOf
        rw [if_neg (HN.out 0 (by decide)), if_neg (HN.out 1 (by decide)), if_neg (HN.out 2 (by decide)), if_neg (HN.out 3 (by decide))])
      go_wp2
      go_ret2
      rw [Z.out]
      exact ⟨rfl, HB.out⟩
end Go.Proofs.YtgkdplooocbonaaGreatDoor
