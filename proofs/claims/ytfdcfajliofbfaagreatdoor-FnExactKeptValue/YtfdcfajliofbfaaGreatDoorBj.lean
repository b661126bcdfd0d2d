/- WidthText, both sides; the law. -/
import Derived.Test.YtfdcfajliofbfaaGreatDoorBh
import Derived.Test.YtfdcfajliofbfaaGreatDoorFn
namespace Go.Proofs.YtfdcfajliofbfaaGreatDoor
open Go.RowKit
set_option linter.unusedVariables false
set_option linter.unusedSimpArgs false

/-- What WidthText answers. -/
def wtC (s : ByteArray) : Int := if moB s = true then (if width (moV s) = true then 0 else 3) else 5
def wtT (s : ByteArray) : ByteArray := if moB s = true then (if width (moV s) = true then mtT (rung (moV s) : Int) else ⟨#[]⟩) else ⟨#[]⟩

theorem wt_no {s : ByteArray} (h : moB s = false) : wtC s = 5 ∧ wtT s = ⟨#[]⟩ := by unfold wtC wtT; rw [h]; exact ⟨rfl, rfl⟩
theorem wt_out {s : ByteArray} (h : moB s = true) (h2 : width (moV s) = false) : wtC s = 3 ∧ wtT s = ⟨#[]⟩ := by unfold wtC wtT; rw [h, h2]; exact ⟨rfl, rfl⟩
theorem wt_in {s : ByteArray} (h : moB s = true) (h2 : width (moV s) = true) : wtC s = 0 ∧ wtT s = mtT (rung (moV s) : Int) := by unfold wtC wtT; rw [h, h2]; exact ⟨rfl, rfl⟩

theorem rung_rung {b : Int} (h1 : -9223372036854775808 ≤ b) (h2 : b ≤ 9223372036854775807) : rung (rung b : Int) = rung b := by
  have e : ∀ n : Nat, rung (n : Int) = n := fun n => by unfold rung; rw [if_neg (by omega), Int.toNat_natCast]
  exact e _

theorem mtC_width {b : Int} (h1 : -9223372036854775808 ≤ b) (h2 : b ≤ 9223372036854775807) (h : width b = true) : mtC (rung b : Int) = 0 := by
  unfold width at h
  rw [Bool.and_eq_true, decide_eq_true_eq] at h
  unfold mtC
  rw [rung_rung h1 h2, if_neg (fun c => by omega)]

set_option maxHeartbeats 800000 in
theorem specWT_any (s : ByteArray) (w : World) (hs : (s.size : Int) ≤ 1048576) :
    Calls Tryz.prog 8 #[.string s] w fun e w' => e = .returned (.agg #[.int .i64 (wtC s), .string (wtT s)]) ∧ Below w.heap.size w w' := by
  have N0 := below_new w (.cells #[.int .i64 0, .string ⟨#[]⟩] 23)
  have KO : Hid (∀ W : World, Calls Tryz.prog 39 #[.string s] W fun e w' => e = .returned (.tuple #[.int .i64 (moV s), .bool (moB s)]) ∧ w' = W) := fun W => l3Of_any s W hs
  obtain ⟨m1, m2⟩ := mo_bd s
  have KW : Hid (∀ W : World, Calls Tryz.prog 40 #[.int .i64 (moV s)] W fun e w' => e = .returned (.bool (width (moV s))) ∧ w' = W) := fun W => l3Width_any (moV s) W m1 m2
  have KZ : Hid (∀ W : World, Calls Tryz.prog 42 #[.int .i64 (moV s)] W fun e w' => e = .returned (.int .i64 (rung (moV s))) ∧ w' = W) := fun W => size_any (moV s) W m1 m2
  have rl := rung_lt m1 m2
  have KS : Hid (∀ W : World, Calls Tryz.prog 41 #[.int .i64 (rung (moV s) : Int)] W fun e w' => e = .returned (.tuple #[.string (mtT (rung (moV s) : Int)), .int .i64 (mtC (rung (moV s) : Int))]) ∧ Below W.heap.size W w') := fun W => l3Text_any (rung (moV s) : Int) W (by omega) (by omega)
  have HR := Hid.mk' (rowQ2 w 23 (.int .i64 0) (.string ⟨#[]⟩))
  have HB := Hid.mk' N0
  clear N0 m1 m2 rl
  generalize hW : w.alloc (.cells #[.int .i64 0, .string ⟨#[]⟩] 23) = W at *
  cases hb : moB s
  · obtain ⟨e1, e2⟩ := wt_no hb
    rw [e1, e2]
    rw [hb] at KO
    clear e1 e2 hb KW KZ KS
    obtain ⟨x0, x1, x2⟩ := cellsQ2 HR.out
    obtain ⟨f0, f1⟩ := frzQ2 HR.out
    go_enter Tryz.func8, Tryz.ntmps8
    go_wp2_with fail
    clear hW
    refine (KO.out _).mono ?_
    rintro e w1 ⟨rfl, hw⟩
    obtain rfl := hw.symm
    go_wp2
    refine bodyPost_ret (v := .agg #[.int .i64 5, .string ⟨#[]⟩]) (by simp [results, Tryz.results8, go_sem, *]) rfl ⟨rfl, ?_⟩
    exact (HB.out.setCell (p := ⟨w.heap.size, 0, none⟩) (by simp) _).setCell (p := ⟨w.heap.size, 1, none⟩) (by simp) _
  cases hq : width (moV s)
  · obtain ⟨e1, e2⟩ := wt_out hb hq
    rw [e1, e2]
    rw [hb] at KO
    rw [hq] at KW
    clear e1 e2 hb hq KZ KS
    obtain ⟨x0, x1, x2⟩ := cellsQ2 HR.out
    obtain ⟨f0, f1⟩ := frzQ2 HR.out
    generalize moV s = V at *
    go_enter Tryz.func8, Tryz.ntmps8
    go_wp2_with fail
    clear hW
    refine (KO.out _).mono ?_
    rintro e w1 ⟨rfl, hw⟩
    obtain rfl := hw.symm
    go_wp2_with fail
    refine (KW.out _).mono ?_
    rintro e w1 ⟨rfl, hw⟩
    obtain rfl := hw.symm
    go_wp2
    refine bodyPost_ret (v := .agg #[.int .i64 3, .string ⟨#[]⟩]) (by simp [results, Tryz.results8, go_sem, *]) rfl ⟨rfl, ?_⟩
    exact (HB.out.setCell (p := ⟨w.heap.size, 0, none⟩) (by simp) _).setCell (p := ⟨w.heap.size, 1, none⟩) (by simp) _
  · obtain ⟨e1, e2⟩ := wt_in hb hq
    rw [e1, e2]
    rw [hb] at KO
    rw [hq] at KW
    clear e1 e2 hb hq
    generalize mtT (rung (moV s) : Int) = T at *
    generalize mtC (rung (moV s) : Int) = Z at *
    generalize rung (moV s) = R at *
    generalize moV s = V at *
    go_enter Tryz.func8, Tryz.ntmps8
    go_wp2_with fail
    clear hW
    refine (KO.out _).mono ?_
    rintro e w1 ⟨rfl, hw⟩
    obtain rfl := hw.symm
    go_wp2_with fail
    refine (KW.out _).mono ?_
    rintro e w1 ⟨rfl, hw⟩
    obtain rfl := hw.symm
    go_wp2_with fail
    refine (KZ.out _).mono ?_
    rintro e w1 ⟨rfl, hw⟩
    obtain rfl := hw.symm
    go_wp2_with fail
    refine (KS.out _).mono ?_
    rintro e w1 ⟨rfl, hb⟩
    obtain ⟨x0, x1, x2⟩ := cellsQ2 (rowB HR.out hb)
    obtain ⟨f0, f1⟩ := frzQ2 (rowB HR.out hb)
    have HB := Hid.mk' (HB.out.trans (hb.mono HB.out.size))
    clear hb
    go_wp2
    refine bodyPost_ret (v := .agg #[.int .i64 0, .string T]) (by simp [results, Tryz.results8, go_sem, *]) rfl ⟨rfl, ?_⟩
    exact (HB.out.setCell (p := ⟨w.heap.size, 0, none⟩) (by simp) _).setCell (p := ⟨w.heap.size, 1, none⟩) (by simp) _

/-- The tables that MeasureText and MeasureOf read. -/
structure TBS (w : World) : Prop where
  tb : TBL w
  pt : PT w
  tw : TabW w

theorem TBS.below {w w' : World} (h : TBS w) (hb : Below w.heap.size w w') : TBS w' := ⟨h.tb.below hb, h.pt.below hb, tab_below h.tw hb⟩

set_option maxRecDepth 100000 in
set_option maxHeartbeats 1600000 in
theorem implWT_any (s : ByteArray) (w : World) (hs : (s.size : Int) ≤ 1048576) (t : TBS w) :
    Calls Tryz.prog 9 #[.string s] w fun e w' => e = .returned (.agg #[.int .i64 (wtC s), .string (wtT s)]) ∧ Below w.heap.size w w' := by
  have N0 := below_new w (.cells #[.int .i64 0, .string ⟨#[]⟩] 23)
  have KO := Hid.mk' (implMO_any s _ hs (t.below N0).tb)
  have HT := Hid.mk' (t.below N0)
  obtain ⟨m1, m2⟩ := mo_bd s
  have KW : Hid (∀ W : World, Calls Tryz.prog 44 #[.int .i64 (moV s)] W fun e w' => e = .returned (.bool (width (moV s))) ∧ w' = W) := fun W => implWidth_any (moV s) W m1 m2
  have KF : Hid (∀ W : World, Calls Tryz.prog 46 #[.int .i64 (moV s)] W fun e w' => e = .returned (.float .f64 (bw (moV s))) ∧ w' = W) := fun W => floatOf_any (moV s) W m1 m2
  have bl := bw_lt m1 m2
  have em := bw_mod m1 m2
  have KA : Hid (∀ W : World, Calls Tryz.prog 45 #[.float .f64 (bw (moV s))] W fun e w' => e = .returned (.float .f64 (bw (moV s) % 9223372036854775808)) ∧ w' = W) := fun W => abs_any (bw (moV s)) W bl
  rw [em] at KA
  have rl := rung_lt m1 m2
  have KS : Hid (∀ W : World, TBS W → Calls Tryz.prog 47 #[.int .i64 (rung (moV s) : Int)] W fun e w' => e = .returned (.agg #[.int .i64 (mtC (rung (moV s) : Int)), .string (mtT (rung (moV s) : Int))]) ∧ Below W.heap.size W w') := fun W h => implMT_any (rung (moV s) : Int) W (by omega) (by omega) h.pt h.tw
  have mc := fun h => mtC_width (b := moV s) m1 m2 h
  have wr1 : IntKind.i64.wrap (rung (moV s) : Int) = (rung (moV s) : Int) := by rw [IntKind.wrap_i64]; omega
  have HR := Hid.mk' (rowQ2 w 23 (.int .i64 0) (.string ⟨#[]⟩))
  have HB := Hid.mk' N0
  have hC : moC s = if moB s = true then 0 else 5 := rfl
  clear N0 m1 m2 bl em t
  generalize hW : w.alloc (.cells #[.int .i64 0, .string ⟨#[]⟩] 23) = W at *
  cases hb : moB s
  · obtain ⟨e1, e2⟩ := wt_no hb
    rw [e1, e2]
    rw [hC, hb] at KO
    clear e1 e2 hb hC KW KF KA KS mc wr1 rl
    generalize moV s = V at *
    go_enter Tryz.func9, Tryz.ntmps9
    go_wp2_with fail
    clear hW
    refine KO.out.mono ?_
    rintro e w1 ⟨rfl, hb⟩
    obtain ⟨x0, x1, x2⟩ := cellsQ2 (rowB HR.out (hb.trans ((below_new w1 (.cells #[.int .i64 5, .int .i64 V] 72)).mono hb.size)))
    obtain ⟨f0, f1⟩ := frzQ2 (rowB HR.out (hb.trans ((below_new w1 (.cells #[.int .i64 5, .int .i64 V] 72)).mono hb.size)))
    have RM := rowQ2 w1 72 (.int .i64 5) (.int .i64 V)
    obtain ⟨y0, y1, y2⟩ := cellsQ2 RM
    have HB := Hid.mk' (HB.out.trans ((hb.trans ((below_new w1 (.cells #[.int .i64 5, .int .i64 V] 72)).mono hb.size)).mono HB.out.size))
    clear hb RM
    generalize hW1 : w1.alloc (.cells #[.int .i64 5, .int .i64 V] 72) = W1 at *
    go_wp2
    clear hW1
    refine bodyPost_ret (v := .agg #[.int .i64 5, .string ⟨#[]⟩]) (by simp [results, Tryz.results9, go_sem, *]) rfl ⟨rfl, ?_⟩
    exact (HB.out.setCell (p := ⟨w.heap.size, 0, none⟩) (by simp) _).setCell (p := ⟨w.heap.size, 1, none⟩) (by simp) _
  rw [hC, hb] at KO
  cases hq : width (moV s)
  · obtain ⟨e1, e2⟩ := wt_out hb hq
    rw [e1, e2]
    rw [hq] at KW
    clear e1 e2 hb hq hC KF KA KS mc wr1 rl
    generalize moV s = V at *
    go_enter Tryz.func9, Tryz.ntmps9
    go_wp2_with fail
    clear hW
    refine KO.out.mono ?_
    rintro e w1 ⟨rfl, hb⟩
    have B1 := hb.trans ((below_new w1 (.cells #[.int .i64 0, .int .i64 V] 72)).mono hb.size)
    obtain ⟨x0, x1, x2⟩ := cellsQ2 (rowB HR.out B1)
    obtain ⟨f0, f1⟩ := frzQ2 (rowB HR.out B1)
    have RM := rowQ2 w1 72 (.int .i64 0) (.int .i64 V)
    obtain ⟨y0, y1, y2⟩ := cellsQ2 RM
    have HB := Hid.mk' (HB.out.trans (B1.mono HB.out.size))
    clear hb RM B1
    generalize hW1 : w1.alloc (.cells #[.int .i64 0, .int .i64 V] 72) = W1 at *
    go_wp2_with fail
    clear hW1
    refine (KW.out _).mono ?_
    rintro e w2 ⟨rfl, hw⟩
    obtain rfl := hw.symm
    go_wp2
    refine bodyPost_ret (v := .agg #[.int .i64 3, .string ⟨#[]⟩]) (by simp [results, Tryz.results9, go_sem, *]) rfl ⟨rfl, ?_⟩
    exact (HB.out.setCell (p := ⟨w.heap.size, 0, none⟩) (by simp) _).setCell (p := ⟨w.heap.size, 1, none⟩) (by simp) _
  · obtain ⟨e1, e2⟩ := wt_in hb hq
    rw [e1, e2]
    rw [hq] at KW
    rw [mc hq] at KS
    clear e1 e2 hb hq hC mc
    generalize mtT (rung (moV s) : Int) = T at *
    generalize bw (moV s) = BW at *
    generalize rung (moV s) = R at *
    generalize moV s = V at *
    go_enter Tryz.func9, Tryz.ntmps9
    go_wp2_with fail
    clear hW
    refine KO.out.mono ?_
    rintro e w1 ⟨rfl, hb⟩
    have B1 := hb.trans ((below_new w1 (.cells #[.int .i64 0, .int .i64 V] 72)).mono hb.size)
    have RM := rowQ2 w1 72 (.int .i64 0) (.int .i64 V)
    obtain ⟨y0, y1, y2⟩ := cellsQ2 RM
    have HR := Hid.mk' (rowB HR.out B1)
    have HB := Hid.mk' (HB.out.trans (B1.mono HB.out.size))
    have HT := Hid.mk' (HT.out.below B1)
    clear hb RM B1
    generalize hW1 : w1.alloc (.cells #[.int .i64 0, .int .i64 V] 72) = W1 at *
    go_wp2_with fail
    clear hW1
    refine (KW.out _).mono ?_
    rintro e w2 ⟨rfl, hw⟩
    obtain rfl := hw.symm
    go_wp2_with fail
    refine (KF.out _).mono ?_
    rintro e w2 ⟨rfl, hw⟩
    obtain rfl := hw.symm
    go_wp2_with fail
    refine (KA.out _).mono ?_
    rintro e w2 ⟨rfl, hw⟩
    obtain rfl := hw.symm
    go_wp2_with fail
    refine (KS.out _ HT.out).mono ?_
    rintro e w2 ⟨rfl, hb⟩
    obtain ⟨x0, x1, x2⟩ := cellsQ2 (rowB HR.out hb)
    obtain ⟨f0, f1⟩ := frzQ2 (rowB HR.out hb)
    have HB := Hid.mk' (HB.out.trans (hb.mono HB.out.size))
    clear hb
    go_wp2
    refine bodyPost_ret (v := .agg #[.int .i64 0, .string T]) (by simp [results, Tryz.results9, go_sem, *]) rfl ⟨rfl, ?_⟩
    exact (HB.out.setCell (p := ⟨w.heap.size, 0, none⟩) (by simp) _).setCell (p := ⟨w.heap.size, 1, none⟩) (by simp) _

set_option maxRecDepth 100000 in
set_option maxHeartbeats 3200000 in
/-- The law on WidthText. -/
theorem lawWT_any (s : ByteArray) (w : World) (hs : (s.size : Int) ≤ 9223372036854775807) (t : TBS w) :
    Calls Tryz.prog 3 #[.string s] w fun e w' => e = .returned (.bool true) ∧ Below w.heap.size w w' := by
  by_cases g0 : (s.size : Int) > 1048576
  · go_enter Tryz.func3, Tryz.ntmps3
    go_wp2
    go_ret
    exact ⟨rfl, Below.refl _ _⟩
  have K1 := Hid.mk' (specWT_any s w (by omega))
  have K2 : Hid (∀ W : World, Below w.heap.size w W → Calls Tryz.prog 9 #[.string s] W fun e w' => e = .returned (.agg #[.int .i64 (wtC s), .string (wtT s)]) ∧ Below W.heap.size W w') := Hid.mk' (fun W hb => implWT_any s W (by omega) (t.below hb))
  clear t
  generalize wtC s = z at *
  generalize wtT s = t at *
  go_enter Tryz.func3, Tryz.ntmps3
  go_wp2_with fail
  refine K1.out.mono ?_
  rintro e w2 ⟨rfl, hb⟩
  have N2 := below_new w2 (.cells #[.int .i64 z, .string t] 23)
  have B := Hid.mk' (hb.trans (N2.mono hb.size))
  have X1 := Hid.mk' (rowQ2 w2 23 (.int .i64 z) (.string t))
  clear hb N2 K1
  generalize hW : w2.alloc (.cells #[.int .i64 z, .string t] 23) = W2 at *
  go_wp2_with fail
  clear hW
  refine (K2.out _ B.out).mono ?_
  rintro e w4 ⟨rfl, hb⟩
  have N4 := below_new w4 (.cells #[.int .i64 z, .string t] 23)
  have M4 := hb.trans (N4.mono hb.size)
  have B := Hid.mk' (B.out.trans (M4.mono B.out.size))
  have X1 := Hid.mk' (rowB X1.out M4)
  have X4 := Hid.mk' (rowQ2 w4 23 (.int .i64 z) (.string t))
  clear hb N4 M4 K2
  generalize hW : w4.alloc (.cells #[.int .i64 z, .string t] 23) = W4 at *
  obtain ⟨x0, x1, x2⟩ := cellsQ2 X1.out
  obtain ⟨y0, y1, y2⟩ := cellsQ2 X4.out
  go_wp2_with fail
  clear hW
  refine (eqTextM_any z t W4).mono ?_
  rintro e w5 ⟨rfl, hb⟩
  have B := Hid.mk' (B.out.trans (hb.mono B.out.size))
  clear hb x0 x1 x2 y0 y1 y2
  go_wp2
  go_ret
  exact ⟨rfl, B.out⟩

end Go.Proofs.YtfdcfajliofbfaaGreatDoor
