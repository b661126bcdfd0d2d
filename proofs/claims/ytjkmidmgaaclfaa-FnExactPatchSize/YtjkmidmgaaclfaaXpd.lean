/- The law on PatchSize. -/
import Derived.Test.YtjkmidmgaaclfaaXpc
namespace Go.Proofs.Ytjkmidmgaaclfaa
open Go.RowKit
set_option linter.unusedVariables false
set_option linter.unusedSimpArgs false

set_option maxRecDepth 100000 in
set_option maxHeartbeats 6000000 in
theorem lawPS_any (a : Option Addr) (c : Nat) (l : List XK) (w : World) (ha : XsAt w a l) (hw : WideX l) (hl : (l.length : Int) ≤ 9223372036854775807) :
    Calls Try.prog 6 #[.slice a l.length c] w fun e w' => e = .returned (.bool true) ∧ Below w.heap.size w w' := by
  have KS := szPatchS_any a c l 1048576 w ha hw (by omega) (by omega) hl
  have HA := Hid.mk' ha
  clear ha hw
  by_cases g1 : 1048576 < (l.length : Int) + xsz l
  · rw [if_pos g1] at KS
    have KS := Hid.mk' KS
    go_enter Try.func6, Try.ntmps6
    go_wp2_with fail
    refine KS.out.mono ?_
    rintro e w1 ⟨rfl, hb1⟩
    have HB := Hid.mk' hb1
    clear hb1 KS
    go_wp2
    go_ret
    exact ⟨rfl, HB.out⟩
  rw [if_neg g1] at KS
  have KS := Hid.mk' KS
  have zz : ¬ (1048576 - (l.length : Int) - xsz l < 0) := by omega
  have hl2 : (l.length : Int) + xsz l ≤ 1048576 := by omega
  go_enter Try.func6, Try.ntmps6
  go_wp2_with fail
  refine KS.out.mono ?_
  rintro e w2 ⟨rfl, hb2⟩
  have HB := Hid.mk' hb2
  clear hb2 KS g1
  go_wp2_with fail
  clear zz
  refine (toPatchS_any a c l w2 (HA.out.below HB.out) hl2).mono ?_
  rintro e w3 ⟨rfl, t3⟩
  have HB := Hid.mk' (HB.out.trans (t3.bl.mono HB.out.size))
  have T3 := Hid.mk' t3.at
  clear t3
  go_wp2_with fail
  refine (specPS_any _ _ l w3 T3.out hl2).mono ?_
  rintro e w5 ⟨rfl, hb5⟩
  generalize hA : psC l = A at *
  generalize hV : psV l = V at *
  have N5 := below_new w5 (.cells #[.int .i64 A, .int .i64 V] 46)
  have M5 := hb5.trans (N5.mono hb5.size)
  have HB := Hid.mk' (HB.out.trans (M5.mono HB.out.size))
  have RW := Hid.mk' (rowp2 w5 46 (.int .i64 A) (.int .i64 V))
  clear hb5 T3 N5 M5
  generalize hW5 : w5.alloc (.cells #[.int .i64 A, .int .i64 V] 46) = W5 at *
  go_wp2_with fail
  clear hW5
  refine (toPatchS_any a c l W5 (HA.out.below HB.out) hl2).mono ?_
  rintro e w6 ⟨rfl, t6⟩
  have HB := Hid.mk' (HB.out.trans (t6.bl.mono HB.out.size))
  have RW := Hid.mk' (rowB RW.out t6.bl)
  have T6 := Hid.mk' t6.at
  clear t6
  go_wp2_with fail
  refine (implPS_any _ _ l w6 T6.out hl2).mono ?_
  rintro e w8 ⟨rfl, hb8⟩
  rw [hA, hV]
  have N8 := below_new w8 (.cells #[.int .i64 A, .int .i64 V] 46)
  have M8 := hb8.trans (N8.mono hb8.size)
  have HB := Hid.mk' (HB.out.trans (M8.mono HB.out.size))
  have RW := Hid.mk' (rowB RW.out M8)
  have RG := Hid.mk' (rowp2 w8 46 (.int .i64 A) (.int .i64 V))
  have T6 := Hid.mk' (T6.out.below M8)
  clear hb8 N8 M8
  generalize hW8 : w8.alloc (.cells #[.int .i64 A, .int .i64 V] 46) = W8 at *
  obtain ⟨g0, g1, g2⟩ := cells2 RG.out
  obtain ⟨k0, k1, k2⟩ := cells2 RW.out
  go_wp2_with fail
  clear hW8
  refine (eqIntResult_any A V W8).mono ?_
  rintro e w1 ⟨rfl, hb1⟩
  have HB := Hid.mk' (HB.out.trans (hb1.mono HB.out.size))
  have T6 := Hid.mk' (T6.out.below hb1)
  clear hb1 g0 g1 g2 k0 k1 k2
  go_wp2_with fail
  refine (toPatchS_any a c l w1 (HA.out.below HB.out) hl2).mono ?_
  rintro e w9 ⟨rfl, t9⟩
  have HB := Hid.mk' (HB.out.trans (t9.bl.mono HB.out.size))
  have T6 := Hid.mk' (T6.out.below t9.bl)
  have T9 := Hid.mk' t9.at
  clear t9
  go_wp2_with fail
  refine (eqPatchS_any _ _ _ _ l w9 T6.out T9.out hl2).mono ?_
  rintro e w10 ⟨rfl, hb10⟩
  have HB := Hid.mk' (HB.out.trans (hb10.mono HB.out.size))
  clear hb10 T6 T9
  go_wp2
  go_ret
  exact ⟨rfl, HB.out⟩

end Go.Proofs.Ytjkmidmgaaclfaa
