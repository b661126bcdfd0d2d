/- Walks: the size of a table, both sides, and the law on it. -/
import Derived.Test.YtahkneghmgmnbaaLtf
namespace Go.Proofs.Ytahkneghmgmnbaa
open Go.RowKit
set_option linter.unusedVariables false

theorem below_two {B : Nat} {w w' : World} (h : Below B w w') {c o1 o2 : Nat} {v1 v2 : Value} (hc : B ≤ c) : Below B w ((w'.setCell ⟨c, o1, none⟩ v1).setCell ⟨c, o2, none⟩ v2) :=
  (h.setCell (p := ⟨c, o1, none⟩) hc _).setCell (p := ⟨c, o2, none⟩) hc _

set_option maxHeartbeats 400000 in
theorem implSize_any (v : Value) (t : TB) (w : World) (ht : TAt w v t) (hwf : WFT t) (hl : (t.base.length : Int) + t.more.length + t.pcs.length ≤ 1048576) :
    Calls Try.prog 15 #[v] w fun e w' => e = .returned (.agg #[.int .i64 (fault t), .int .i64 (sizeVal t)]) ∧ Below w.heap.size w w' := by
  obtain ⟨a1, a2, a3, c1, c2, c3, rfl, h1, h2, h3⟩ := id ht
  have B0 := ((Below.refl w.heap.size w).alloc (Nat.le_refl _) (.cells #[.slice a1 t.base.length c1, .slice a2 t.more.length c2, .slice a3 t.pcs.length c3] 26)).alloc (by simp) (.cells #[.int .i64 0, .int .i64 0] 40)
  have R0 := (row3 w 26 (.slice a1 t.base.length c1) (.slice a2 t.more.length c2) (.slice a3 t.pcs.length c3)).alloc (.cells #[.int .i64 0, .int .i64 0] 40)
  have K := tableFault_any _ t _ (ht.below B0) hwf hl
  have H3 := Hid.mk' (h3.below B0)
  by_cases hz : fault t = 0
  · have S := Hid.mk' (fault_small hz)
    have V : Hid (sizeVal t = total t.pcs) := by unfold sizeVal; rw [hz]; rfl
    rw [hz] at K
    have Z := Hid.mk' hz
    have KK := Hid.mk' K
    have BB := Hid.mk' B0
    have RR := Hid.mk' R0
    clear K hz h1 h2 h3 B0 R0 ht
    go_enter Try.func15, Try.ntmps15
    go_wp2_with fail
    refine KK.out.mono ?_
    rintro e w1 ⟨rfl, hb1⟩
    have R1 := RR.out.of_block (hb1.block _ RR.out.lt)
    have H1 := Hid.mk' (H3.out.below hb1)
    have B1 := Hid.mk' (BB.out.trans (hb1.mono BB.out.size))
    obtain ⟨hc1, hf1⟩ := bcell hb1
    simp at hc1 hf1
    have y := hb1.size
    simp at y
    have y' : w.heap.size + 1 < w1.heap.size := by omega
    clear KK BB RR hb1 H3
    go_wp2_with fail
    refine (chainOf_any a3 c3 t.pcs w1 H1.out (by omega)).mono ?_
    rintro e w2 ⟨b2, rfl, _, hr2, hb2⟩
    go_wp2_with fail
    refine (size_any _ _ t.pcs w2 (.of_row hr2) S.out).mono ?_
    rintro e w3 ⟨rfl, hb3⟩
    have B3 := Hid.mk' (join2 B1.out hb2 hb3)
    obtain ⟨hc2, hf2⟩ := bcell hb2
    obtain ⟨hc3, hf3⟩ := bcell hb3
    have y2 : w.heap.size + 1 < w2.heap.size := Nat.lt_of_lt_of_le y' hb2.size
    clear hb2 hb3 hr2 R1 H1 B1
    go_wp2
    exact bodyPost_ret (v := .agg #[.int .i64 0, .int .i64 (total t.pcs)]) (by simp [results, Try.results15, go_sem, *]) rfl ⟨by rw [Z.out, V.out], below_two B3.out (by omega)⟩
  · have V : Hid (sizeVal t = 0) := by unfold sizeVal; rw [if_neg hz]; exact rfl
    have hb : (fault t != 0) = true := by rw [bne_iff_ne]; exact hz
    have KK := Hid.mk' K
    have BB := Hid.mk' B0
    clear K hz h1 h2 h3 B0 R0 H3 ht
    go_enter Try.func15, Try.ntmps15
    go_wp2_with fail
    refine KK.out.mono ?_
    rintro e w1 ⟨rfl, hb1⟩
    have B1 := Hid.mk' (BB.out.trans (hb1.mono BB.out.size))
    obtain ⟨hc1, hf1⟩ := bcell hb1
    simp at hc1 hf1
    have y := hb1.size
    simp at y
    clear KK BB hb1
    go_wp2
    exact bodyPost_ret (v := .agg #[.int .i64 (fault t), .int .i64 0]) (by simp [results, Try.results15, go_sem, *]) rfl ⟨by rw [V.out], below_two B1.out (by omega)⟩

end Go.Proofs.Ytahkneghmgmnbaa
