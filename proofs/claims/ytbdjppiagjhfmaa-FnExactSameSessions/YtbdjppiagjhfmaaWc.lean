/- Walks: a table copied, two tables compared. -/
import Derived.Test.YtbdjppiagjhfmaaWb
namespace Go.Proofs.Ytbdjppiagjhfmaa
open Go.RowKit
set_option linter.unusedVariables false

/-- A row behind four stores into other blocks. -/
theorem four_other {w : World} {b n c d o1 o2 o3 o4 : Nat} {t : TypeId} {f : Nat → Value} {v1 v2 v3 v4 : Value} (h : w.rowIs b t n f) (h1 : b ≠ c) (h2 : b ≠ d) :
    ((((w.setCell ⟨c, o1, none⟩ v1).setCell ⟨d, o2, none⟩ v2).setCell ⟨d, o3, none⟩ v3).setCell ⟨d, o4, none⟩ v4).rowIs b t n f :=
  (((h.setOther (a := ⟨c, o1, none⟩) h1 _).setOther (a := ⟨d, o2, none⟩) h2 _).setOther (a := ⟨d, o3, none⟩) h2 _).setOther (a := ⟨d, o4, none⟩) h2 _

set_option maxHeartbeats 400000 in
theorem toTable_any (v : Value) (t : TB) (w : World) (ht : TAt w v t) (hl : (t.base.length : Int) + t.more.length + t.pcs.length ≤ 1048576) :
    Calls Try.prog 49 #[v] w fun e w' => ∃ v', e = .returned v' ∧ TRow w.heap.size w' v' t ∧ Below w.heap.size w w' := by
  obtain ⟨a1, a2, a3, c1, c2, c3, rfl, h1, h2, h3⟩ := ht
  go_enter Try.func49, Try.ntmps49
  go_wp2_with fail
  have hb0 : Below w.heap.size w (((w.alloc (Obj.cells #[.slice a1 t.base.length c1, .slice a2 t.more.length c2, .slice a3 t.pcs.length c3] 53)).alloc (Obj.cells #[.slice none 0 0, .slice none 0 0, .slice none 0 0] 64)).alloc (Obj.cells #[.slice none 0 0, .slice none 0 0, .slice none 0 0] 64)) :=
    (((Below.refl _ _).alloc (Nat.le_refl _) _).alloc (by simp) _).alloc (by simp; omega) _
  refine (toByteS_any a1 c1 t.base _ (h1.below hb0) (by omega)).mono ?_
  rintro e w1 ⟨b1, rfl, hs1, hr1, hb1⟩
  have B1 := hb0.trans (hb1.mono hb0.size)
  obtain ⟨hc1, hf1⟩ := bcell hb1
  simp at hs1 hc1 hf1
  have S1 := hb1.size
  simp at S1
  have y1 : w.heap.size < w1.heap.size := by omega
  have y1' : w.heap.size + 1 < w1.heap.size := by omega
  have y1'' : w.heap.size + 1 + 1 < w1.heap.size := by omega
  clear hb1 hb0
  go_wp2_with fail
  have B1' := B1.setCell (p := ⟨w.heap.size + 1 + 1, 0, none⟩) (by show w.heap.size ≤ w.heap.size + 1 + 1; omega) (.slice (some ⟨b1, 0, none⟩) t.base.length t.base.length)
  have hr1' := hr1.setOther (a := ⟨w.heap.size + 1 + 1, 0, none⟩) (by show b1 ≠ w.heap.size + 1 + 1; omega) (.slice (some ⟨b1, 0, none⟩) t.base.length t.base.length)
  refine (toByteS_any a2 c2 t.more _ (h2.below B1') (by omega)).mono ?_
  rintro e w2 ⟨b2, rfl, hs2, hr2, hb2⟩
  have B2 := B1'.trans (hb2.mono B1'.size)
  have hr12 := hr1'.of_block (hb2.block _ hr1'.lt)
  have hlt := hr1'.lt
  obtain ⟨hc2, hf2⟩ := bcell hb2
  simp at hs2 hc2 hf2 hlt
  have S2 := hb2.size
  simp at S2
  have y2 : w.heap.size < w2.heap.size := by omega
  have y2' : w.heap.size + 1 < w2.heap.size := by omega
  have y2'' : w.heap.size + 1 + 1 < w2.heap.size := by omega
  clear hb2 hr1 B1 hr1' B1'
  go_wp2_with fail
  have B2' := B2.setCell (p := ⟨w.heap.size + 1 + 1, 1, none⟩) (by show w.heap.size ≤ w.heap.size + 1 + 1; omega) (.slice (some ⟨b2, 0, none⟩) t.more.length t.more.length)
  have hr2' := hr2.setOther (a := ⟨w.heap.size + 1 + 1, 1, none⟩) (by show b2 ≠ w.heap.size + 1 + 1; omega) (.slice (some ⟨b2, 0, none⟩) t.more.length t.more.length)
  have hr12' := hr12.setOther (a := ⟨w.heap.size + 1 + 1, 1, none⟩) (by show b1 ≠ w.heap.size + 1 + 1; omega) (.slice (some ⟨b2, 0, none⟩) t.more.length t.more.length)
  refine (toPieceS_any a3 c3 t.pcs _ (h3.below B2') (by omega)).mono ?_
  rintro e w3 ⟨b3, rfl, hs3, hr3, hb3⟩
  have B3 := Hid.mk' (B2'.trans (hb3.mono B2'.size))
  have hr13 := Hid.mk' (hr12'.of_block (hb3.block _ hr12'.lt))
  have hr23 := Hid.mk' (hr2'.of_block (hb3.block _ hr2'.lt))
  have hlt2 := hr2'.lt
  obtain ⟨hc3, hf3⟩ := bcell hb3
  simp at hs3 hc3 hf3 hlt2
  have S3 := hb3.size
  simp at S3
  have y3 : w.heap.size < w3.heap.size := by omega
  have y3' : w.heap.size + 1 < w3.heap.size := by omega
  have y3'' : w.heap.size + 1 + 1 < w3.heap.size := by omega
  clear hb3 hr2 hr12 B2 hr2' hr12' B2'
  go_wp2
  refine bodyPost_ret (v := .agg #[.slice (some ⟨b1, 0, none⟩) t.base.length t.base.length, .slice (some ⟨b2, 0, none⟩) t.more.length t.more.length, .slice (some ⟨b3, 0, none⟩) t.pcs.length t.pcs.length]) (by simp [results, Try.results49, go_sem, *]) rfl ⟨_, rfl, ⟨b1, b2, b3, rfl, by omega, by omega, by omega, ?_, ?_, ?_⟩, ?_⟩
  · exact four_other hr13.out (by omega) (by omega)
  · exact four_other hr23.out (by omega) (by omega)
  · exact four_other hr3 (by omega) (by omega)
  · exact (((B3.out.setCell (p := ⟨w.heap.size + 1 + 1, 2, none⟩) (by show w.heap.size ≤ w.heap.size + 1 + 1; omega) _).setCell (p := ⟨w.heap.size + 1, 0, none⟩) (by show w.heap.size ≤ w.heap.size + 1; omega) _).setCell (p := ⟨w.heap.size + 1, 1, none⟩) (by show w.heap.size ≤ w.heap.size + 1; omega) _).setCell (p := ⟨w.heap.size + 1, 2, none⟩) (by show w.heap.size ≤ w.heap.size + 1; omega) _

set_option maxHeartbeats 400000 in
theorem eqTable_any (u v : Value) (t : TB) (w : World) (hu : TAt w u t) (hv : TAt w v t) (hl : (t.base.length : Int) + t.more.length + t.pcs.length ≤ 1048576) :
    Calls Try.prog 55 #[u, v] w fun e w' => e = .returned (.bool true) ∧ Below w.heap.size w w' := by
  obtain ⟨a1, a2, a3, c1, c2, c3, rfl, h1, h2, h3⟩ := hu
  obtain ⟨a4, a5, a6, c4, c5, c6, rfl, h4, h5, h6⟩ := hv
  go_enter Try.func55, Try.ntmps55
  go_wp2_with fail
  have hb0 : Below w.heap.size w ((w.alloc (Obj.cells #[.slice a1 t.base.length c1, .slice a2 t.more.length c2, .slice a3 t.pcs.length c3] 64)).alloc (Obj.cells #[.slice a4 t.base.length c4, .slice a5 t.more.length c5, .slice a6 t.pcs.length c6] 64)) :=
    ((Below.refl _ _).alloc (Nat.le_refl _) _).alloc (by simp) _
  refine (eqByteS_any a1 a4 c1 c4 t.base _ (h1.below hb0) (h4.below hb0) (by omega)).mono ?_
  rintro e w1 ⟨rfl, hb1⟩
  have B1 := hb0.trans (hb1.mono hb0.size)
  obtain ⟨hc1, hf1⟩ := bcell hb1
  simp at hc1 hf1
  have S1 := hb1.size
  simp at S1
  have y1 : w.heap.size < w1.heap.size := by omega
  have y1' : w.heap.size + 1 < w1.heap.size := by omega
  clear hb1 hb0
  go_wp2_with fail
  refine (eqByteS_any a2 a5 c2 c5 t.more _ (h2.below B1) (h5.below B1) (by omega)).mono ?_
  rintro e w2 ⟨rfl, hb2⟩
  have B2 := B1.trans (hb2.mono B1.size)
  obtain ⟨hc2, hf2⟩ := bcell hb2
  clear hb2 B1
  go_wp2_with fail
  refine (eqPieceS_any a3 a6 c3 c6 t.pcs _ (h3.below B2) (h6.below B2) (by omega)).mono ?_
  rintro e w3 ⟨rfl, hb3⟩
  have B3 := Hid.mk' (B2.trans (hb3.mono B2.size))
  clear hb3 B2
  go_wp2
  go_ret
  exact ⟨rfl, B3.out⟩

end Go.Proofs.Ytbdjppiagjhfmaa
