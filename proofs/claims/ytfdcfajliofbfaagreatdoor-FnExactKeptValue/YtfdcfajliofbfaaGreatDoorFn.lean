/- MeasureText, both sides; the law. -/
import Derived.Test.YtfdcfajliofbfaaGreatDoorFm
import Derived.Test.YtfdcfajliofbfaaGreatDoorCq
namespace Go.Proofs.YtfdcfajliofbfaaGreatDoor
open Go.RowKit Go.Joins
set_option linter.unusedVariables false
set_option linter.unusedSimpArgs false

set_option maxRecDepth 100000 in
set_option maxHeartbeats 3200000 in
theorem implMT_any (b : Int) (w : World) (h1 : -9223372036854775808 ≤ b) (h2 : b ≤ 9223372036854775807) (hp : PT w) (ht : TabW w) :
    Calls Tryz.prog 47 #[.int .i64 b] w fun e w' => e = .returned (.agg #[.int .i64 (mtC b), .string (mtT b)]) ∧ Below w.heap.size w w' := by
  have N0 := below_new w (.cells #[.int .i64 0, .string ⟨#[]⟩] 23)
  have HP := Hid.mk' (hp.below N0)
  have HT := Hid.mk' (tab_below ht N0)
  have HR := Hid.mk' (rowQ2 w 23 (.int .i64 0) (.string ⟨#[]⟩))
  have HB := Hid.mk' N0
  clear N0 hp ht
  generalize hW : w.alloc (.cells #[.int .i64 0, .string ⟨#[]⟩] 23) = W at *
  have KF := Hid.mk' (floatOf_any b W h1 h2)
  have KN := isNaN_any b W h1 h2
  have KP := isInfP_any b W h1 h2
  have KM := isInfM_any b W h1 h2
  have KA := implParts_any b W h1 h2
  have HW : Hid (∀ W2 : World, Below W.heap.size W W2 → 0 ≤ quarters (rung b) → Calls Tryz.prog 88 #[.float .f64 (bw b), .int .u8 102, .int .i64 (-1), .int .i64 64] W2 fun e w' => e = .returned (.string (strS (txtQ (decide (b < 0)) (quarters (rung b)).toNat))) ∧ Below W2.heap.size W2 w') :=
    Hid.mk' (fun W2 hb hq => format_any b W2 h1 h2 hq (HP.out.below hb) (tab_below HT.out hb))
  obtain ⟨x0, x1, x2⟩ := cellsQ2 HR.out
  obtain ⟨f0, f1⟩ := frzQ2 HR.out
  unfold mtC mtT
  by_cases c1 : 9218868437227405312 < rung b
  · rw [if_pos c1, if_neg (by omega)]
    rw [decide_eq_true c1] at KN
    replace KN := Hid.mk' KN
    clear KP KM KA HW c1
    go_enter Tryz.func47, Tryz.ntmps47
    go_wp2_with fail
    refine KF.out.mono ?_
    rintro e w1 ⟨rfl, hw⟩
    obtain rfl := hw.symm
    go_wp2_with fail
    refine KN.out.mono ?_
    rintro e w1 ⟨rfl, hw⟩
    obtain rfl := hw.symm
    go_wp2
    clear hW
    refine bodyPost_ret (v := .agg #[.int .i64 0, .string ⟨#[110, 97, 110]⟩]) (by simp [results, Tryz.results47, go_sem, *]) rfl ⟨rfl, ?_⟩
    exact (HB.out.setCell (p := ⟨w.heap.size, 0, none⟩) (by simp) _).setCell (p := ⟨w.heap.size, 1, none⟩) (by simp) _
  rw [if_neg c1]
  rw [decide_eq_false c1] at KN
  replace KN := Hid.mk' KN
  by_cases c2 : rung b = 9218868437227405312
  · by_cases hb : b < 0
    · rw [if_pos c2, if_pos hb, if_neg (by omega)]
      rw [decide_eq_false (by omega : ¬ 0 ≤ b), Bool.false_and] at KP
      rw [decide_eq_true hb, decide_eq_true c2, Bool.true_and] at KM
      replace KP := Hid.mk' KP
      replace KM := Hid.mk' KM
      clear KA HW c1 c2
      go_enter Tryz.func47, Tryz.ntmps47
      go_wp2_with fail
      refine KF.out.mono ?_
      rintro e w1 ⟨rfl, hw⟩
      obtain rfl := hw.symm
      go_wp2_with fail
      refine KN.out.mono ?_
      rintro e w1 ⟨rfl, hw⟩
      obtain rfl := hw.symm
      go_wp2_with fail
      refine KP.out.mono ?_
      rintro e w1 ⟨rfl, hw⟩
      obtain rfl := hw.symm
      go_wp2_with fail
      refine KM.out.mono ?_
      rintro e w1 ⟨rfl, hw⟩
      obtain rfl := hw.symm
      go_wp2
      clear hW
      refine bodyPost_ret (v := .agg #[.int .i64 0, .string ⟨#[45, 105, 110, 102]⟩]) (by simp [results, Tryz.results47, go_sem, *]) rfl ⟨rfl, ?_⟩
      exact (HB.out.setCell (p := ⟨w.heap.size, 0, none⟩) (by simp) _).setCell (p := ⟨w.heap.size, 1, none⟩) (by simp) _
    · rw [if_pos c2, if_neg hb, if_neg (by omega)]
      rw [decide_eq_true (by omega : 0 ≤ b), decide_eq_true c2, Bool.true_and] at KP
      replace KP := Hid.mk' KP
      clear KM KA HW c1 c2
      go_enter Tryz.func47, Tryz.ntmps47
      go_wp2_with fail
      refine KF.out.mono ?_
      rintro e w1 ⟨rfl, hw⟩
      obtain rfl := hw.symm
      go_wp2_with fail
      refine KN.out.mono ?_
      rintro e w1 ⟨rfl, hw⟩
      obtain rfl := hw.symm
      go_wp2_with fail
      refine KP.out.mono ?_
      rintro e w1 ⟨rfl, hw⟩
      obtain rfl := hw.symm
      go_wp2
      clear hW
      refine bodyPost_ret (v := .agg #[.int .i64 0, .string ⟨#[105, 110, 102]⟩]) (by simp [results, Tryz.results47, go_sem, *]) rfl ⟨rfl, ?_⟩
      exact (HB.out.setCell (p := ⟨w.heap.size, 0, none⟩) (by simp) _).setCell (p := ⟨w.heap.size, 1, none⟩) (by simp) _
  rw [if_neg c2]
  rw [decide_eq_false c2, Bool.and_false] at KP KM
  replace KP := Hid.mk' KP
  replace KM := Hid.mk' KM
  have eC : partsC b = if quarters (rung b) < 0 then 3 else 0 := by unfold partsC; rw [if_neg (by omega)]
  rw [eC] at KA
  by_cases c3 : quarters (rung b) < 0
  · rw [if_pos c3, if_pos ⟨by omega, c3⟩]
    rw [if_pos c3] at KA
    replace KA := Hid.mk' KA
    clear HW eC c1 c2 c3
    generalize partsM b = m at *
    generalize partsW b = x at *
    generalize partsQ b = y at *
    go_enter Tryz.func47, Tryz.ntmps47
    go_wp2_with fail
    refine KF.out.mono ?_
    rintro e w1 ⟨rfl, hw⟩
    obtain rfl := hw.symm
    go_wp2_with fail
    refine KN.out.mono ?_
    rintro e w1 ⟨rfl, hw⟩
    obtain rfl := hw.symm
    go_wp2_with fail
    refine KP.out.mono ?_
    rintro e w1 ⟨rfl, hw⟩
    obtain rfl := hw.symm
    go_wp2_with fail
    refine KM.out.mono ?_
    rintro e w1 ⟨rfl, hw⟩
    obtain rfl := hw.symm
    go_wp2_with fail
    clear hW x0 x1 x2 f0 f1
    refine KA.out.mono ?_
    rintro e w1 ⟨rfl, hb⟩
    obtain ⟨x0, x1, x2⟩ := cellsQ2 (rowB HR.out hb)
    obtain ⟨f0, f1⟩ := frzQ2 (rowB HR.out hb)
    have HB := Hid.mk' (HB.out.trans (hb.mono HB.out.size))
    have j1 : w.heap.size < w1.heap.size := x2
    have j2 : ¬ w.heap.size = w1.heap.size := by omega
    have j3 : ¬ w1.heap.size = w.heap.size := by omega
    clear hb
    go_wp2
    refine bodyPost_ret (v := .agg #[.int .i64 3, .string ⟨#[]⟩]) (by simp [results, Tryz.results47, go_sem, *]) rfl ⟨rfl, ?_⟩
    exact ((HB.out.setCell (p := ⟨w.heap.size, 0, none⟩) (by simp) _).setCell (p := ⟨w.heap.size, 1, none⟩) (by simp) _).alloc (by simp; omega) _
  · rw [if_neg c3, if_neg (by omega)]
    rw [if_neg c3] at KA
    replace KA := Hid.mk' KA
    have HW := Hid.mk' (fun W2 hb => HW.out W2 hb (by omega))
    clear eC c1 c2 c3
    generalize strS (txtQ (decide (b < 0)) (quarters (rung b)).toNat) = t at *
    generalize partsM b = m at *
    generalize partsW b = x at *
    generalize partsQ b = y at *
    go_enter Tryz.func47, Tryz.ntmps47
    go_wp2_with fail
    refine KF.out.mono ?_
    rintro e w1 ⟨rfl, hw⟩
    obtain rfl := hw.symm
    go_wp2_with fail
    refine KN.out.mono ?_
    rintro e w1 ⟨rfl, hw⟩
    obtain rfl := hw.symm
    go_wp2_with fail
    refine KP.out.mono ?_
    rintro e w1 ⟨rfl, hw⟩
    obtain rfl := hw.symm
    go_wp2_with fail
    refine KM.out.mono ?_
    rintro e w1 ⟨rfl, hw⟩
    obtain rfl := hw.symm
    go_wp2_with fail
    clear hW x0 x1 x2 f0 f1
    refine KA.out.mono ?_
    rintro e w1 ⟨rfl, hb⟩
    have HN := Hid.mk' (hb.alloc hb.size (.cells #[.int .i64 0, .bool m, .int .i64 x, .int .i64 y] 127))
    have HR2 := Hid.mk' (rowB HR.out HN.out)
    have HB := Hid.mk' (HB.out.trans (HN.out.mono HB.out.size))
    have KW := Hid.mk' (HW.out _ HN.out)
    clear hb HW
    go_wp2_with fail
    generalize hW : w1.alloc (.cells #[.int .i64 0, .bool m, .int .i64 x, .int .i64 y] 127) = W2 at HR2 HB KW ⊢
    clear hW
    refine KW.out.mono ?_
    rintro e w2 ⟨rfl, hb⟩
    obtain ⟨x0, x1, x2⟩ := cellsQ2 (rowB HR2.out hb)
    obtain ⟨f0, f1⟩ := frzQ2 (rowB HR2.out hb)
    have HB := Hid.mk' (HB.out.trans (hb.mono HB.out.size))
    clear hb
    go_wp2
    refine bodyPost_ret (v := .agg #[.int .i64 0, .string t]) (by simp [results, Tryz.results47, go_sem, *]) rfl ⟨rfl, ?_⟩
    exact (HB.out.setCell (p := ⟨w.heap.size, 0, none⟩) (by simp) _).setCell (p := ⟨w.heap.size, 1, none⟩) (by simp) _

theorem eqTextM_any (z : Int) (s : ByteArray) (w : World) :
    Calls Tryz.prog 10 #[.agg #[.int .i64 z, .string s], .agg #[.int .i64 z, .string s]] w fun e w' => e = .returned (.bool true) ∧ Below w.heap.size w w' := by
  go_enter Tryz.func10, Tryz.ntmps10
  go_wp2
  go_ret
  exact ⟨rfl, ((Below.refl _ _).alloc (Nat.le_refl _) _).alloc (by simp) _⟩

end Go.Proofs.YtfdcfajliofbfaaGreatDoor
