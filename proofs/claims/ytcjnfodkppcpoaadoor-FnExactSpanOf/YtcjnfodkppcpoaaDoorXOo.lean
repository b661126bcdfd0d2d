/- OpenText: both sides, and the law on it. -/
import Derived.Test.YtcjnfodkppcpoaaDoorXKd
namespace Go.Proofs.YtcjnfodkppcpoaaDoor
open Go.RowKit
set_option linter.unusedVariables false
set_option linter.unusedSimpArgs false

/-- A start, not shut. -/
def startT (tg : ByteArray) (l : List AT) : TK := ⟨2, 0, tg, l, false⟩

set_option maxRecDepth 100000 in
set_option maxHeartbeats 3200000 in
theorem specOT_any (tg : ByteArray) (l : List AT) (a : Option Addr) (c : Nat) (w : World) (ha : AAt w a l) (hB : VB l) (hc : l.length ≤ c) (hn : (tg.size : Int) ≤ 1048576) (hl : (l.length : Int) + asz l ≤ 1048576) :
    Calls Tryd.prog 56 #[.string tg, .slice a l.length c] w fun e w' => e = .returned (.agg #[.int .i64 (wtCode (startT tg l)), .string (wtText (startT tg l))]) ∧ Below w.heap.size w w' := by
  have N0 := below_new w (.cells #[.int .i64 0, .string ⟨#[]⟩] 85)
  have HR := Hid.mk' (rowR w 85 (.int .i64 0) (.string ⟨#[]⟩))
  have K := Hid.mk' (specWT_any (startT tg l) a c (w.alloc (.cells #[.int .i64 0, .string ⟨#[]⟩] 85)) (ha.below N0) hB hc hn hl)
  have HB := Hid.mk' N0
  clear N0 ha
  generalize hW : w.alloc (.cells #[.int .i64 0, .string ⟨#[]⟩] 85) = W at *
  generalize wtCode (startT tg l) = C at *
  generalize wtText (startT tg l) = T at *
  go_enter Tryd.func56, Tryd.ntmps56
  go_wp2_with fail
  clear hW
  refine K.out.mono ?_
  rintro e w1 ⟨rfl, hb⟩
  have HR := Hid.mk' (rowB HR.out hb)
  have HB := Hid.mk' (HB.out.trans (hb.mono HB.out.size))
  clear hb K
  obtain ⟨d0, d1, d2, d3, d4⟩ := cellsR HR.out
  go_wp2
  exact bodyPost_ret (v := .agg #[.int .i64 C, .string T]) (by simp [results, Tryd.results56, go_sem, *]) rfl ⟨rfl, (HB.out.setCell (p := ⟨w.heap.size, 0, none⟩) (by simp) _).setCell (p := ⟨w.heap.size, 1, none⟩) (by simp) _⟩

set_option maxRecDepth 100000 in
set_option maxHeartbeats 3200000 in
theorem implOT_any (tg : ByteArray) (l : List AT) (a : Option Addr) (c : Nat) (w : World) (hr : Refs w) (ha : AAt w a l) (hB : VB l) (hn : (tg.size : Int) ≤ 1048576) (hl : (l.length : Int) + asz l ≤ 1048576) :
    Calls Tryd.prog 51 #[.string tg, .slice a l.length c] w fun e w' => e = .returned (.agg #[.int .i64 (wtCode (startT tg l)), .string (wtText (startT tg l))]) ∧ Below w.heap.size w w' := by
  have N0 := below_new w (.cells #[.int .i64 0, .string ⟨#[]⟩] 85)
  have HR := Hid.mk' (rowR w 85 (.int .i64 0) (.string ⟨#[]⟩))
  have K := Hid.mk' (implWT_any (startT tg l) a c (w.alloc (.cells #[.int .i64 0, .string ⟨#[]⟩] 85)) (hr.below N0) (ha.below N0) hB hn hl)
  have HB := Hid.mk' N0
  clear N0 ha
  generalize hW : w.alloc (.cells #[.int .i64 0, .string ⟨#[]⟩] 85) = W at *
  generalize wtCode (startT tg l) = C at *
  generalize wtText (startT tg l) = T at *
  go_enter Tryd.func51, Tryd.ntmps51
  go_wp2_with fail
  clear hW
  refine K.out.mono ?_
  rintro e w1 ⟨rfl, hb⟩
  have HR := Hid.mk' (rowB HR.out hb)
  have HB := Hid.mk' (HB.out.trans (hb.mono HB.out.size))
  clear hb K
  obtain ⟨d0, d1, d2, d3, d4⟩ := cellsR HR.out
  go_wp2
  exact bodyPost_ret (v := .agg #[.int .i64 C, .string T]) (by simp [results, Tryd.results51, go_sem, *]) rfl ⟨rfl, (HB.out.setCell (p := ⟨w.heap.size, 0, none⟩) (by simp) _).setCell (p := ⟨w.heap.size, 1, none⟩) (by simp) _⟩

end Go.Proofs.YtcjnfodkppcpoaaDoor
