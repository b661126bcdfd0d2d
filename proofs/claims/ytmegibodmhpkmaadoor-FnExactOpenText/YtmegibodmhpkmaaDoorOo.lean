/- OpenText: both sides, and the law on it. -/
import Derived.Test.YtmegibodmhpkmaaDoorKd
namespace Go.Proofs.YtmegibodmhpkmaaDoor
open Go.RowKit
set_option linter.unusedVariables false
set_option linter.unusedSimpArgs false

/-- A start, not shut. -/
def startT (tg : ByteArray) (l : List AT) : TK := ⟨2, 0, tg, l, false⟩

set_option maxRecDepth 100000 in
set_option maxHeartbeats 3200000 in
theorem specOT_any (tg : ByteArray) (l : List AT) (a : Option Addr) (c : Nat) (w : World) (ha : AAt w a l) (hB : VB l) (hc : l.length ≤ c) (hn : (tg.size : Int) ≤ 1048576) (hl : (l.length : Int) + asz l ≤ 1048576) :
    Calls Tryd.prog 5 #[.string tg, .slice a l.length c] w fun e w' => e = .returned (.agg #[.int .i64 (wtCode (startT tg l)), .string (wtText (startT tg l))]) ∧ Below w.heap.size w w' := by
  have N0 := below_new w (.cells #[.int .i64 0, .string ⟨#[]⟩] 25)
  have HR := Hid.mk' (rowR w 25 (.int .i64 0) (.string ⟨#[]⟩))
  have K := Hid.mk' (specWT_any (startT tg l) a c (w.alloc (.cells #[.int .i64 0, .string ⟨#[]⟩] 25)) (ha.below N0) hB hc hn hl)
  have HB := Hid.mk' N0
  clear N0 ha
  generalize hW : w.alloc (.cells #[.int .i64 0, .string ⟨#[]⟩] 25) = W at *
  generalize wtCode (startT tg l) = C at *
  generalize wtText (startT tg l) = T at *
  go_enter Tryd.func5, Tryd.ntmps5
  go_wp2_with fail
  clear hW
  refine K.out.mono ?_
  rintro e w1 ⟨rfl, hb⟩
  have HR := Hid.mk' (rowB HR.out hb)
  have HB := Hid.mk' (HB.out.trans (hb.mono HB.out.size))
  clear hb K
  obtain ⟨d0, d1, d2, d3, d4⟩ := cellsR HR.out
  go_wp2
  exact bodyPost_ret (v := .agg #[.int .i64 C, .string T]) (by simp [results, Tryd.results5, go_sem, *]) rfl ⟨rfl, (HB.out.setCell (p := ⟨w.heap.size, 0, none⟩) (by simp) _).setCell (p := ⟨w.heap.size, 1, none⟩) (by simp) _⟩

set_option maxRecDepth 100000 in
set_option maxHeartbeats 3200000 in
theorem implOT_any (tg : ByteArray) (l : List AT) (a : Option Addr) (c : Nat) (w : World) (hr : Refs w) (ha : AAt w a l) (hB : VB l) (hn : (tg.size : Int) ≤ 1048576) (hl : (l.length : Int) + asz l ≤ 1048576) :
    Calls Tryd.prog 7 #[.string tg, .slice a l.length c] w fun e w' => e = .returned (.agg #[.int .i64 (wtCode (startT tg l)), .string (wtText (startT tg l))]) ∧ Below w.heap.size w w' := by
  have N0 := below_new w (.cells #[.int .i64 0, .string ⟨#[]⟩] 25)
  have HR := Hid.mk' (rowR w 25 (.int .i64 0) (.string ⟨#[]⟩))
  have K := Hid.mk' (implWT_any (startT tg l) a c (w.alloc (.cells #[.int .i64 0, .string ⟨#[]⟩] 25)) (hr.below N0) (ha.below N0) hB hn hl)
  have HB := Hid.mk' N0
  clear N0 ha
  generalize hW : w.alloc (.cells #[.int .i64 0, .string ⟨#[]⟩] 25) = W at *
  generalize wtCode (startT tg l) = C at *
  generalize wtText (startT tg l) = T at *
  go_enter Tryd.func7, Tryd.ntmps7
  go_wp2_with fail
  clear hW
  refine K.out.mono ?_
  rintro e w1 ⟨rfl, hb⟩
  have HR := Hid.mk' (rowB HR.out hb)
  have HB := Hid.mk' (HB.out.trans (hb.mono HB.out.size))
  clear hb K
  obtain ⟨d0, d1, d2, d3, d4⟩ := cellsR HR.out
  go_wp2
  exact bodyPost_ret (v := .agg #[.int .i64 C, .string T]) (by simp [results, Tryd.results7, go_sem, *]) rfl ⟨rfl, (HB.out.setCell (p := ⟨w.heap.size, 0, none⟩) (by simp) _).setCell (p := ⟨w.heap.size, 1, none⟩) (by simp) _⟩

set_option maxRecDepth 100000 in
set_option maxHeartbeats 3200000 in
theorem lawOT_any (tg : ByteArray) (l : List AT) (a : Option Addr) (c : Nat) (w : World) (hr : Refs w) (ha : AAt w a l) (hwb : Wide l ∧ VB l) (hn : (tg.size : Int) ≤ 9223372036854775807) (hl : (l.length : Int) ≤ 9223372036854775807) :
    Calls Tryd.prog 3 #[.string tg, .slice a l.length c] w fun e w' => e = .returned (.bool true) ∧ Below w.heap.size w w' := by
  obtain ⟨hw, hV⟩ := hwb
  have HV := Hid.mk' hV
  have HF := Hid.mk' hr
  clear hV hr
  by_cases g1 : 1048576 < (tg.size : Int)
  · go_enter Tryd.func3, Tryd.ntmps3
    go_wp2
    go_ret
    exact ⟨rfl, Below.refl _ _⟩
  have KS := szAttrS_any a c l 1048576 w ha hw (by omega) (by omega) hl
  have HA := Hid.mk' ha
  clear ha hw
  by_cases big : 1048576 < (l.length : Int) + asz l
  · rw [if_pos big] at KS
    have KS := Hid.mk' KS
    go_enter Tryd.func3, Tryd.ntmps3
    go_wp2_with fail
    refine KS.out.mono ?_
    rintro e w1 ⟨rfl, hb⟩
    have HB := Hid.mk' hb
    clear hb KS
    go_wp2
    go_ret
    exact ⟨rfl, HB.out⟩
  rw [if_neg big] at KS
  have KS := Hid.mk' KS
  have zz : ¬ (1048576 - (l.length : Int) - asz l < 0) := by omega
  go_enter Tryd.func3, Tryd.ntmps3
  go_wp2_with fail
  refine KS.out.mono ?_
  rintro e w1 ⟨rfl, hb⟩
  have HB := Hid.mk' hb
  clear hb KS
  go_wp2_with fail
  refine (toAttrS_any a c l w1 (HA.out.below HB.out) (by omega)).mono ?_
  rintro e w2 ⟨rfl, h2⟩
  have O1 := Hid.mk' (AO.of h2 (KeptIn.refl 0 0 w2) (Nat.zero_le _))
  have HB := Hid.mk' (HB.out.trans (h2.bl.mono HB.out.size))
  clear h2
  go_wp2_with fail
  refine (specOT_any tg l _ l.length w2 O1.out.at HV.out (Nat.le_refl _) (by omega) (by omega)).mono ?_
  rintro e w3 ⟨rfl, hb⟩
  have N3 := below_new w3 (.cells #[.int .i64 (wtCode (startT tg l)), .string (wtText (startT tg l))] 25)
  have M3 := hb.trans (N3.mono hb.size)
  have HB := Hid.mk' (HB.out.trans (M3.mono HB.out.size))
  have HQ := Hid.mk' (rowR w3 25 (.int .i64 (wtCode (startT tg l))) (.string (wtText (startT tg l))))
  clear hb O1 N3 M3
  generalize hW3 : w3.alloc (.cells #[.int .i64 (wtCode (startT tg l)), .string (wtText (startT tg l))] 25) = W3 at *
  go_wp2_with fail
  clear hW3
  refine (toAttrS_any a c l W3 (HA.out.below HB.out) (by omega)).mono ?_
  rintro e w4 ⟨rfl, h4⟩
  have O2 := Hid.mk' (AO.of h4 (KeptIn.refl 0 0 w4) (Nat.zero_le _))
  have HQ := Hid.mk' (rowB HQ.out h4.bl)
  have HB := Hid.mk' (HB.out.trans (h4.bl.mono HB.out.size))
  clear h4
  go_wp2_with fail
  refine (implOT_any tg l _ l.length w4 (HF.out.below HB.out) O2.out.at HV.out (by omega) (by omega)).mono ?_
  rintro e w5a ⟨rfl, hb⟩
  have N5 := below_new w5a (.cells #[.int .i64 (wtCode (startT tg l)), .string (wtText (startT tg l))] 25)
  have M5 := hb.trans (N5.mono hb.size)
  have HQ := Hid.mk' (rowB HQ.out M5)
  have O2 := Hid.mk' (O2.out.below M5)
  have HB := Hid.mk' (HB.out.trans (M5.mono HB.out.size))
  have HY := Hid.mk' (rowR w5a 25 (.int .i64 (wtCode (startT tg l))) (.string (wtText (startT tg l))))
  clear hb N5 M5
  generalize hW5 : w5a.alloc (.cells #[.int .i64 (wtCode (startT tg l)), .string (wtText (startT tg l))] 25) = W5 at *
  obtain ⟨q0, q1, q2, q3, q4⟩ := cellsR HQ.out
  obtain ⟨y0, y1, y2, y3, y4⟩ := cellsR HY.out
  go_wp2_with fail
  clear hW5
  refine (eqTR_any _ _ _).mono ?_
  rintro e w5 ⟨rfl, hb⟩
  have O2 := Hid.mk' (O2.out.below hb)
  have HB := Hid.mk' (HB.out.trans (hb.mono HB.out.size))
  clear hb q0 q1 q2 q3 q4 y0 y1 y2 y3 y4 HQ HY
  go_wp2_with fail
  refine (toAttrS_any a c l w5 (HA.out.below HB.out) (by omega)).mono ?_
  rintro e w6 ⟨rfl, h6⟩
  have O3 := Hid.mk' (AO.of h6 (KeptIn.refl 0 0 w6) (Nat.zero_le _))
  have O2 := Hid.mk' (O2.out.below h6.bl)
  have HB := Hid.mk' (HB.out.trans (h6.bl.mono HB.out.size))
  clear h6
  go_wp2_with fail
  refine (eqAttrS_any _ _ l.length l.length l w6 O2.out.at O3.out.at (by omega)).mono ?_
  rintro e w7 ⟨rfl, hb⟩
  have HB := Hid.mk' (HB.out.trans (hb.mono HB.out.size))
  clear hb O2 O3
  go_wp2
  go_ret
  exact ⟨rfl, HB.out⟩

end Go.Proofs.YtmegibodmhpkmaaDoor
