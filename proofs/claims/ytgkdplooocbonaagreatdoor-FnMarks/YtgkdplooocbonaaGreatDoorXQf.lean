/- The law on RefAt. -/
import Derived.Test.YtgkdplooocbonaaGreatDoorXQe
namespace Go.Proofs.YtgkdplooocbonaaGreatDoor
open Go.RowKit
set_option linter.unusedVariables false

def raOf (L : List UInt8) (x : Int) : Int × Int × Int := if 0 ≤ x ∧ x < L.length then (if (refOf (L.drop x.toNat)).2 = 0 then (5, 0, 0) else (0, (refOf (L.drop x.toNat)).1, (refOf (L.drop x.toNat)).2)) else (3, 0, 0)
theorem tail_list (s : ByteArray) (k : Nat) : (s.extract k s.size).data.toList = s.data.toList.drop k := by
  rw [ext_list, List.take_of_length_le (by rw [List.length_drop, len_list]; omega)]
theorem three {B : Nat} {w w' : World} (h : Below B w w') {c : Nat} {v1 v2 v3 : Value} (hc : B ≤ c) : Below B w (((w'.setCell ⟨c, 0, none⟩ v1).setCell ⟨c, 1, none⟩ v2).setCell ⟨c, 2, none⟩ v3) :=
  ((h.setCell (p := ⟨c, 0, none⟩) hc _).setCell (p := ⟨c, 1, none⟩) hc _).setCell (p := ⟨c, 2, none⟩) hc _

theorem refOf_byte (L : List UInt8) : (refOf L).1 ≤ 255 := by
  cases L with
  | nil => exact Nat.zero_le _
  | cons c R =>
    rw [refOf]
    split
    · cases semi R 5 with
      | none => exact Nat.zero_le _
      | some m =>
        cases hn : namedOf (R.take m) with
        | none => simp only [hn]; exact Nat.zero_le _
        | some b =>
          simp only [hn]
          unfold namedOf at hn
          split at hn
          · cases hn; decide
          split at hn
          · cases hn; decide
          split at hn
          · cases hn; decide
          split at hn
          · cases hn; decide
          split at hn
          · unfold numOf at hn
            split at hn
            · split at hn
              · rename_i h; cases hn; exact h.2
              · cases hn
            · cases hn
          · cases hn
    · exact Nat.zero_le _

set_option maxRecDepth 100000 in
set_option maxHeartbeats 800000 in
theorem implRA_any (s : ByteArray) (x : Int) (w : World) (hs : s.size ≤ 1048576) (b1 : -9223372036854775808 ≤ x) (b2 : x ≤ 9223372036854775807) (hr : Refs w) (he : Errs w) :
    Calls Tryz.prog 39 #[.string s, .int .i64 x] w fun e w' => e = .returned (.agg #[.int .i64 (raOf s.data.toList x).1, .int .i64 (raOf s.data.toList x).2.1, .int .i64 (raOf s.data.toList x).2.2]) ∧ Below w.heap.size w w' := by
  have hL := len_list s
  have B0 := (Below.refl w.heap.size w).alloc (Nat.le_refl _) (.cells #[.int .i64 0, .int .i64 0, .int .i64 0] 70)
  unfold raOf
  by_cases h : 0 ≤ x ∧ x < s.data.toList.length
  · rw [if_pos h]
    obtain ⟨k, rfl⟩ : ∃ k : Nat, x = k := ⟨x.toNat, by omega⟩
    have hk : k < s.size := by omega
    have hk' : (k : Int) < s.size := by omega
    have F2 := refAhead_any (s.extract k s.size) _ (by rw [ByteArray.size_extract]; omega) (hr.below B0) (he.below B0)
    rw [tail_list] at F2
    have G2 := Hid.mk' F2
    have BB := Hid.mk' B0
    rw [Int.toNat_natCast]
    clear F2 h hL B0 hr he
    have rb := refOf_byte (s.data.toList.drop k)
    generalize refOf (s.data.toList.drop k) = q at *
    obtain ⟨q1, q2⟩ := q
    simp only at rb
    by_cases h0 : q2 = 0
    · subst h0
      rw [if_pos rfl]
      go_enter Tryz.func39, Tryz.ntmps39
      go_wp2_with fail
      refine G2.out.mono ?_
      rintro e w1 ⟨rfl, hb1⟩
      have B1 := Hid.mk' (BB.out.trans (hb1.mono (by simp)))
      obtain ⟨hx, hy⟩ := bcell hb1
      simp at hx hy
      have y := hb1.size
      simp at y
      clear G2 hb1
      go_wp2
      exact bodyPost_ret (v := .agg #[.int .i64 5, .int .i64 0, .int .i64 0]) (by simp [results, Tryz.results39, go_sem, *]) rfl ⟨rfl, three B1.out (Nat.le_refl _)⟩
    · rw [if_neg h0]
      have i0 : ((q2 : Int) == 0) = false := by rw [beq_eq_false_iff_ne]; omega
      clear h0
      go_enter Tryz.func39, Tryz.ntmps39
      go_wp2_with fail
      refine G2.out.mono ?_
      rintro e w1 ⟨rfl, hb1⟩
      have B1 := Hid.mk' (BB.out.trans (hb1.mono (by simp)))
      obtain ⟨hx, hy⟩ := bcell hb1
      simp at hx hy
      have y := hb1.size
      simp at y
      clear G2 hb1
      go_wp2
      exact bodyPost_ret (v := .agg #[.int .i64 0, .int .i64 (q1 : Int), .int .i64 (q2 : Int)]) (by simp [results, Tryz.results39, go_sem, *]) rfl ⟨rfl, three B1.out (Nat.le_refl _)⟩
  · rw [if_neg h]
    clear hr he
    by_cases h1 : x < 0
    · clear h
      go_enter Tryz.func39, Tryz.ntmps39
      go_wp2
      exact bodyPost_ret (v := .agg #[.int .i64 3, .int .i64 0, .int .i64 0]) (by simp [results, Tryz.results39, go_sem, *]) rfl ⟨rfl, (Below.refl _ _).alloc (Nat.le_refl _) _⟩
    · have h2 : (s.size : Int) ≤ x := by omega
      clear h
      go_enter Tryz.func39, Tryz.ntmps39
      go_wp2
      exact bodyPost_ret (v := .agg #[.int .i64 3, .int .i64 0, .int .i64 0]) (by simp [results, Tryz.results39, go_sem, *]) rfl ⟨rfl, (Below.refl _ _).alloc (Nat.le_refl _) _⟩

end Go.Proofs.YtgkdplooocbonaaGreatDoor
