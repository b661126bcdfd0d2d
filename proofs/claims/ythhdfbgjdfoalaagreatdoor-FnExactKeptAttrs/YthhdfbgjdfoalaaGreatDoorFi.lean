/- ftoa64 at a measure; FormatFloat(x, 'f', -1, 64). -/
import Derived.Test.YthhdfbgjdfoalaaGreatDoorFh
import Derived.Test.YthhdfbgjdfoalaaGreatDoorCm
import Derived.Test.YthhdfbgjdfoalaaGreatDoorMe
namespace Go.Proofs.YthhdfbgjdfoalaaGreatDoor
open Go.RowKit Go.Joins
set_option linter.unusedVariables false
set_option linter.unusedSimpArgs false

/-- The text of so many quarters. -/
def txtQ (neg : Bool) (q : Nat) : List Int := (if neg = true then [45] else []) ++ (digL (q / 4) ++ fracL (q % 4))

set_option maxRecDepth 100000 in
set_option maxHeartbeats 6400000 in
theorem ftoa_zf (w0 w : World) (v : Value) (hG : GrF w0 v [] w) :
    Calls Tryz.prog 196 #[v, .float .f64 0, .int .u8 102, .int .i64 (-1)] w fun e w' => ∃ v', e = .returned v' ∧ GrF w0 v' [48] w' := by
  have hE : bits .and .i64 0 2047 = 0 := by decide
  have hA : bits .and .u64 0 4503599627370495 = 0 := by decide
  have KF : Hid (∀ m, Calls Tryz.prog 217 #[v, .bool false, .slice none 0 0, .int .i64 0, .int .i64 0, .int .i64 (-1), .int .u8 102, .bool true] (w.drewN m) fun e w' => ∃ v', e = .returned v' ∧ GrF w0 v' [48] w') := fun m => fmtZ_f w0 _ v (hG.below (below_draws _ w m))
  clear hG
  go_enter Tryz.func196, Tryz.ntmps196
  go_wp2_with fail
  go_quiet (fail)
  go_wp2_with fail
  refine (KF.out _).mono ?_
  rintro e w5 ⟨v', rfl, h5⟩
  have H5 := Hid.mk' h5
  clear h5
  go_wp2_with fail
  go_ret
  exact ⟨_, rfl, H5.out⟩

set_option maxRecDepth 100000 in
set_option maxHeartbeats 6400000 in
theorem ftoa_zt (w0 w : World) (v : Value) (hG : GrF w0 v [] w) :
    Calls Tryz.prog 196 #[v, .float .f64 9223372036854775808, .int .u8 102, .int .i64 (-1)] w fun e w' => ∃ v', e = .returned v' ∧ GrF w0 v' [45, 48] w' := by
  have hE : bits .and .i64 2048 2047 = 0 := by decide
  have hA : bits .and .u64 9223372036854775808 4503599627370495 = 0 := by decide
  have KF : Hid (∀ m, Calls Tryz.prog 217 #[v, .bool true, .slice none 0 0, .int .i64 0, .int .i64 0, .int .i64 (-1), .int .u8 102, .bool true] (w.drewN m) fun e w' => ∃ v', e = .returned v' ∧ GrF w0 v' [45, 48] w') := fun m => fmtZ_t w0 _ v (hG.below (below_draws _ w m))
  clear hG
  go_enter Tryz.func196, Tryz.ntmps196
  go_wp2_with fail
  go_quiet (fail)
  go_wp2_with fail
  refine (KF.out _).mono ?_
  rintro e w5 ⟨v', rfl, h5⟩
  have H5 := Hid.mk' h5
  clear h5
  go_wp2_with fail
  go_ret
  exact ⟨_, rfl, H5.out⟩

theorem quarters_zero : quarters 0 = 0 := by decide
theorem ftoa_any (b : Int) (w0 w : World) (v : Value) (h1 : -9223372036854775808 ≤ b) (h2 : b ≤ 9223372036854775807) (hq : 0 ≤ quarters (rung b)) (hp : PT w) (ht : TabW w) (hG : GrF w0 v [] w) :
    Calls Tryz.prog 196 #[v, .float .f64 (bw b), .int .u8 102, .int .i64 (-1)] w fun e w' => ∃ v', e = .returned v' ∧ GrF w0 v' (txtQ (decide (b < 0)) (quarters (rung b)).toNat) w' := by
  by_cases h0 : rung b = 0
  · rw [h0, quarters_zero]
    by_cases hb : b < 0
    · have e : bw b = 9223372036854775808 := by unfold bw; unfold rung at h0; rw [if_pos hb] at h0 ⊢; omega
      rw [e, decide_eq_true hb]
      exact ftoa_zt w0 w v hG
    · have e : bw b = 0 := by unfold bw; unfold rung at h0; rw [if_neg hb] at h0 ⊢; omega
      rw [e, decide_eq_false hb]
      exact ftoa_zf w0 w v hG
  · obtain ⟨q, k, e, k15, g1, g2, q9, en⟩ := quarters_pos (rung b) hq h0
    rw [e, Int.toNat_natCast]
    refine ftoa_pos q k (bw b) (decide (b < 0)) w0 w v ?_ k15 g1 g2 q9 hp ht hG
    rw [← en]
    by_cases hb : b < 0
    · rw [decide_eq_true hb, if_pos rfl]; unfold bw rung; rw [if_pos hb, if_pos hb]; omega
    · rw [decide_eq_false hb, if_neg (by decide)]; unfold bw rung; rw [if_neg hb, if_neg hb]; omega

theorem makeF (w : World) : (Instr.makeSlice 51 (.int .i64 0) (.int .i64 24)).run Tryz.prog w = .ok (.slice (some ⟨w.heap.size, 0, none⟩) 0 24) (w.alloc (.cells (madeCells #[.int .u8 0] 24) 5)) := by
  obtain ⟨i, hi, hzz⟩ := Option.map_eq_some_iff.1 infoF5
  simp only [Prod.mk.injEq] at hzz
  obtain ⟨hz, hs, hb⟩ := hzz
  have hr := run_make (P := Tryz.prog) w 51 5 i _ Tryz.underlying51 hi hz .i64 .i64 0 24 (by omega) (by omega) (by rw [hb]; omega) (by omega)
  simp only [hs] at hr
  exact hr
theorem GrF.made (w : World) : GrF w (.slice (some ⟨w.heap.size, 0, none⟩) 0 24) [] (w.alloc (.cells (madeCells #[.int .u8 0] 24) 5)) :=
  ⟨⟨rfl, .inr ⟨w.heap.size, 24, _, rfl, Nat.le_refl _, Deep.blk_alloc_new _ _, Nat.zero_le _, by unfold maxLen; omega, by rw [size_madeCells], by simp [bcs]⟩⟩, below_new w _, by simp⟩

theorem GrF.conv {w0 w : World} {v : Value} {l : List Int} (h : GrF w0 v l w) : (convert 51 9 v).run Tryz.prog w = .ok (.string (strS l)) w := by
  obtain ⟨p, c, rfl, hb⟩ := (OB.of_own h.own).1.len
  exact conv_bytesS c hb

set_option maxRecDepth 100000 in
set_option maxHeartbeats 1600000 in
theorem formatI_any (b : Int) (w : World) (h1 : -9223372036854775808 ≤ b) (h2 : b ≤ 9223372036854775807) (hq : 0 ≤ quarters (rung b)) (hp : PT w) (ht : TabW w) :
    Calls Tryz.prog 168 #[.float .f64 (bw b), .int .u8 102, .int .i64 (-1), .int .i64 64] w fun e w' => e = .returned (.string (strS (txtQ (decide (b < 0)) (quarters (rung b)).toNat))) ∧ Below w.heap.size w w' := by
  have hmk := makeF w
  have hmx : max (3 : Int) 24 = 24 := by decide
  have N0 := below_new w (.cells (madeCells #[.int .u8 0] 24) 5)
  have KA := Hid.mk' (ftoa_any b w _ _ h1 h2 hq (hp.below N0) (tab_below ht N0) (GrF.made w))
  clear hp ht N0
  generalize txtQ (decide (b < 0)) (quarters (rung b)).toNat = L at *
  generalize w.alloc (.cells (madeCells #[.int .u8 0] 24) 5) = W at *
  go_enter Tryz.func168, Tryz.ntmps168
  go_wp2_with fail
  refine KA.out.mono ?_
  rintro e w5 ⟨v', rfl, h5⟩
  have H5 := Hid.mk' h5
  have hc := h5.conv
  clear h5
  go_wp2_with fail
  go_ret
  exact ⟨rfl, H5.out.bl⟩

theorem format_any (b : Int) (w : World) (h1 : -9223372036854775808 ≤ b) (h2 : b ≤ 9223372036854775807) (hq : 0 ≤ quarters (rung b)) (hp : PT w) (ht : TabW w) :
    Calls Tryz.prog 148 #[.float .f64 (bw b), .int .u8 102, .int .i64 (-1), .int .i64 64] w fun e w' => e = .returned (.string (strS (txtQ (decide (b < 0)) (quarters (rung b)).toNat))) ∧ Below w.heap.size w w' := by
  have KA := Hid.mk' (formatI_any b w h1 h2 hq hp ht)
  clear hp ht
  generalize txtQ (decide (b < 0)) (quarters (rung b)).toNat = L at *
  go_enter Tryz.func148, Tryz.ntmps148
  go_wp2_with fail
  refine KA.out.mono ?_
  rintro e w5 ⟨rfl, h5⟩
  have H5 := Hid.mk' h5
  clear h5
  go_wp2_with fail
  go_ret
  exact ⟨rfl, H5.out⟩

end Go.Proofs.YthhdfbgjdfoalaaGreatDoor
