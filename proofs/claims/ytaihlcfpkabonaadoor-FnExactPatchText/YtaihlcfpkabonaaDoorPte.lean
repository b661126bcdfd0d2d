/- The law on PatchText. -/
import Derived.Test.YtaihlcfpkabonaaDoorPtd
namespace Go.Proofs.YtaihlcfpkabonaaDoor
open Go.RowKit Go.Joins
set_option linter.unusedVariables false
set_option linter.unusedSimpArgs false

theorem eqTextP_any (z : Int) (s : ByteArray) (w : World) :
    Calls Tryd.prog 8 #[.agg #[.int .i64 z, .string s], .agg #[.int .i64 z, .string s]] w fun e w' => e = .returned (.bool true) ∧ Below w.heap.size w w' := by
  go_enter Tryd.func8, Tryd.ntmps8
  go_wp2
  go_ret
  exact ⟨rfl, ((Below.refl _ _).alloc (Nat.le_refl _) _).alloc (by simp) _⟩

set_option maxRecDepth 100000 in
set_option maxHeartbeats 6000000 in
theorem lawPT_any (a : Option Addr) (c : Nat) (l : List XK) (w : World) (ha : XsAt w a l) (hw : WideX l) (hl : (l.length : Int) ≤ 9223372036854775807) (ht : TabW w) :
    Calls Tryd.prog 3 #[.slice a l.length c] w fun e w' => e = .returned (.bool true) ∧ Below w.heap.size w w' := by
  have KS := szPatchS_any a c l 1048576 w ha hw (by omega) (by omega) hl
  have HA := Hid.mk' ha
  have HWX := Hid.mk' hw
  have HT := Hid.mk' ht
  clear ha hw ht
  by_cases g1 : 1048576 < (l.length : Int) + xsz l
  · rw [if_pos g1] at KS
    have KS := Hid.mk' KS
    go_enter Tryd.func3, Tryd.ntmps3
    go_wp2_with fail
    refine KS.out.mono ?_
    rintro e w1 ⟨rfl, hb1⟩
    have HB := Hid.mk' hb1
    clear hb1 KS
    go_wp2
    go_ret
    exact ⟨rfl, HB.out⟩
  rw [if_neg g1] at KS
  have KS := Hid.mk' KS
  have zz : ¬ (1048576 - (l.length : Int) - xsz l < 0) := by omega
  have hl2 : (l.length : Int) + xsz l ≤ 1048576 := by omega
  go_enter Tryd.func3, Tryd.ntmps3
  go_wp2_with fail
  refine KS.out.mono ?_
  rintro e w2 ⟨rfl, hb2⟩
  have HB := Hid.mk' hb2
  clear hb2 KS g1
  go_wp2_with fail
  clear zz
  refine (toPatchS_any a c l w2 (HA.out.below HB.out) hl2).mono ?_
  rintro e w3 ⟨rfl, t3⟩
  have HB := Hid.mk' (HB.out.trans (t3.bl.mono HB.out.size))
  have T3 := Hid.mk' t3.at
  clear t3
  go_wp2_with fail
  refine (specPT_any _ _ l w3 T3.out HWX.out).mono ?_
  rintro e w5 ⟨rfl, hb5⟩
  have N5 := below_new w5 (.cells #[.int .i64 (patF l 2000), .string (ptC l)] 25)
  have HB := Hid.mk' (HB.out.trans ((hb5.trans (N5.mono hb5.size)).mono HB.out.size))
  have X5 := Hid.mk' (rowQ2 w5 25 (.int .i64 (patF l 2000)) (.string (ptC l)))
  clear hb5 T3 N5
  generalize hW : w5.alloc (.cells #[.int .i64 (patF l 2000), .string (ptC l)] 25) = W5 at *
  go_wp2_with fail
  clear hW
  refine (toPatchS_any a c l W5 (HA.out.below HB.out) hl2).mono ?_
  rintro e w6 ⟨rfl, t6⟩
  have HB := Hid.mk' (HB.out.trans (t6.bl.mono HB.out.size))
  have X5 := Hid.mk' (rowB X5.out t6.bl)
  have T6 := Hid.mk' t6.at
  clear t6
  go_wp2_with fail
  refine (implPT_any _ _ l w6 T6.out HWX.out (tab_below HT.out HB.out)).mono ?_
  rintro e w8 ⟨rfl, hb8⟩
  have N8 := below_new w8 (.cells #[.int .i64 (patF l 2000), .string (ptC l)] 25)
  have M8 := hb8.trans (N8.mono hb8.size)
  have HB := Hid.mk' (HB.out.trans (M8.mono HB.out.size))
  have X5 := Hid.mk' (rowB X5.out M8)
  have X8 := Hid.mk' (rowQ2 w8 25 (.int .i64 (patF l 2000)) (.string (ptC l)))
  have T6 := Hid.mk' (T6.out.below M8)
  clear hb8 N8 M8
  generalize hW : w8.alloc (.cells #[.int .i64 (patF l 2000), .string (ptC l)] 25) = W8 at *
  generalize patF l 2000 = tf at *
  generalize ptC l = tx at *
  obtain ⟨x0, x1, x2⟩ := cellsQ2 X5.out
  obtain ⟨y0, y1, y2⟩ := cellsQ2 X8.out
  go_wp2_with fail
  clear hW
  refine (eqTextP_any tf tx W8).mono ?_
  rintro e wC ⟨rfl, hbC⟩
  have HB := Hid.mk' (HB.out.trans (hbC.mono HB.out.size))
  have T6 := Hid.mk' (T6.out.below hbC)
  clear hbC x0 x1 x2 y0 y1 y2
  go_wp2_with fail
  refine (toPatchS_any a c l wC (HA.out.below HB.out) hl2).mono ?_
  rintro e w9 ⟨rfl, t9⟩
  have HB := Hid.mk' (HB.out.trans (t9.bl.mono HB.out.size))
  have T6 := Hid.mk' (T6.out.below t9.bl)
  have T9 := Hid.mk' t9.at
  clear t9
  go_wp2_with fail
  refine (eqPatchS_any _ _ _ _ l w9 T6.out T9.out hl2).mono ?_
  rintro e w10 ⟨rfl, hb10⟩
  have HB := Hid.mk' (HB.out.trans (hb10.mono HB.out.size))
  clear hb10 T6 T9
  go_wp2
  go_ret
  exact ⟨rfl, HB.out⟩

end Go.Proofs.YtaihlcfpkabonaaDoor
