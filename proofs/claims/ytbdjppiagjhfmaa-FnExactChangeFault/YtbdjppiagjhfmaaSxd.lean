/- A change copied. -/
import Derived.Test.YtbdjppiagjhfmaaSxc
namespace Go.Proofs.Ytbdjppiagjhfmaa
open Go.RowKit
set_option linter.unusedVariables false
set_option linter.unusedSimpArgs false

theorem three7 (w : World) (c1 c2 c3 : Array Value) :
    Below w.heap.size w (((w.alloc (.cells c1 27)).alloc (.cells c2 32)).alloc (.cells c3 32)) ∧
    RowA (((w.alloc (.cells c1 27)).alloc (.cells c2 32)).alloc (.cells c3 32)) w.heap.size 27 c1 ∧
    RowA (((w.alloc (.cells c1 27)).alloc (.cells c2 32)).alloc (.cells c3 32)) (w.heap.size + 1) 32 c2 ∧
    RowA (((w.alloc (.cells c1 27)).alloc (.cells c2 32)).alloc (.cells c3 32)) (w.heap.size + 1 + 1) 32 c3 := by
  have a1 := RowA.new w 27 c1
  have a2 := RowA.new (w.alloc (.cells c1 27)) 32 c2
  have a3 := RowA.new ((w.alloc (.cells c1 27)).alloc (.cells c2 32)) 32 c3
  have b1 := below_new (w.alloc (.cells c1 27)) (.cells c2 32)
  have b2 := below_new ((w.alloc (.cells c1 27)).alloc (.cells c2 32)) (.cells c3 32)
  have e1 : (w.alloc (.cells c1 27)).heap.size = w.heap.size + 1 := by simp
  have e2 : ((w.alloc (.cells c1 27)).alloc (.cells c2 32)).heap.size = w.heap.size + 1 + 1 := by simp
  rw [e1] at a2
  rw [e2] at a3
  exact ⟨((below_new w _).alloc (by omega) _).alloc (by omega) _, (a1.below b1).below b2, a2.below b2, a3⟩

set_option maxHeartbeats 3200000 in
theorem toChange_any (c : CH) (p a b d : Option Addr) (np n1 n2 n3 : Nat) (w : World) (ha : CHAt w p a b d c) (hl : (chsz c : Int) ≤ 1048576) :
    Calls Try.prog 8 #[.agg (chV c p a b d np n1 n2 n3)] w fun e w' => ∃ q g1 g2 g3, e = .returned (.agg (chV c (some ⟨q, 0, none⟩) (some ⟨g1, 0, none⟩) (some ⟨g2, 0, none⟩) (some ⟨g3, 0, none⟩) c.pt.length c.po.tg.length c.po.at_.length c.po.sc.length)) ∧ CHAt w' (some ⟨q, 0, none⟩) (some ⟨g1, 0, none⟩) (some ⟨g2, 0, none⟩) (some ⟨g3, 0, none⟩) c ∧ Below w.heap.size w w' := by
  unfold chsz at hl
  obtain ⟨B0, P0, T0, O0⟩ := three7 w (chV c p a b d np n1 n2 n3) #[.int .i64 0, .int .i64 0, .int .i64 0, .slice none 0 0, .slice none 0 0, .slice none 0 0, .slice none 0 0] #[.int .i64 c.kd, .int .i64 c.pl, .int .i64 c.nn, .slice none 0 0, .slice none 0 0, .slice none 0 0, .slice none 0 0]
  have HA := Hid.mk' ha
  have HB := Hid.mk' B0
  have HP := Hid.mk' P0
  have HT := Hid.mk' T0
  have HO := Hid.mk' O0
  have LE : Hid ((((w.alloc (.cells #[.int .i64 c.kd, .int .i64 c.pl, .int .i64 c.nn, .slice p c.pt.length np, .slice a c.po.tg.length n1, .slice b c.po.at_.length n2, .slice d c.po.sc.length n3] 27)).alloc (.cells #[.int .i64 0, .int .i64 0, .int .i64 0, .slice none 0 0, .slice none 0 0, .slice none 0 0, .slice none 0 0] 32)).alloc (.cells #[.int .i64 c.kd, .int .i64 c.pl, .int .i64 c.nn, .slice none 0 0, .slice none 0 0, .slice none 0 0, .slice none 0 0] 32)).heap.size = w.heap.size + 1 + 1 + 1) := Hid.mk' (by simp)
  clear B0 P0 T0 O0 ha
  unfold chV at *
  generalize hV : (((w.alloc (.cells #[.int .i64 c.kd, .int .i64 c.pl, .int .i64 c.nn, .slice p c.pt.length np, .slice a c.po.tg.length n1, .slice b c.po.at_.length n2, .slice d c.po.sc.length n3] 27)).alloc (.cells #[.int .i64 0, .int .i64 0, .int .i64 0, .slice none 0 0, .slice none 0 0, .slice none 0 0, .slice none 0 0] 32)).alloc (.cells #[.int .i64 c.kd, .int .i64 c.pl, .int .i64 c.nn, .slice none 0 0, .slice none 0 0, .slice none 0 0, .slice none 0 0] 32)) = V at *
  have KB := Hid.mk' (toByteS_any p np c.pt V (HA.out.below HB.out).1 (by omega))
  have x3 := HP.out.cell 3 _ rfl
  go_enter Try.func8, Try.ntmps8
  go_wp2_with fail
  clear hV x3
  refine KB.out.mono ?_
  rintro e w1 ⟨q, rfl, hq, hr, hb⟩
  have le := LE.out
  have zq : w.heap.size + 1 + 1 < q := by omega
  have bq := HB.out.trans (hb.mono HB.out.size)
  have zO := (HO.out.below hb).lt
  have x4 := ((HP.out.below hb).other (a := ⟨w.heap.size + 1 + 1, 3, none⟩) (by show w.heap.size ≠ w.heap.size + 1 + 1; omega) (.slice (some ⟨q, 0, none⟩) c.pt.length c.pt.length))
  have HT := Hid.mk' ((HT.out.below hb).other (a := ⟨w.heap.size + 1 + 1, 3, none⟩) (by show w.heap.size + 1 ≠ w.heap.size + 1 + 1; omega) (.slice (some ⟨q, 0, none⟩) c.pt.length c.pt.length))
  have y3 := (HO.out.below hb).cell 3 _ rfl
  have f3 := (HO.out.below hb).frozen 3
  have HO := Hid.mk' ((HO.out.below hb).set 3 (.slice (some ⟨q, 0, none⟩) c.pt.length c.pt.length))
  have HQ := Hid.mk' (hr.setOther (a := ⟨w.heap.size + 1 + 1, 3, none⟩) (by show q ≠ w.heap.size + 1 + 1; omega) (.slice (some ⟨q, 0, none⟩) c.pt.length c.pt.length))
  have HB := Hid.mk' (RowA.setBelow (g := w.heap.size + 1 + 1) bq (by omega) 3 (.slice (some ⟨q, 0, none⟩) c.pt.length c.pt.length))
  have LE : Hid (w.heap.size + 1 + 1 < (w1.setCell ⟨w.heap.size + 1 + 1, 3, none⟩ (.slice (some ⟨q, 0, none⟩) c.pt.length c.pt.length)).heap.size) := Hid.mk' HO.out.lt
  have ZQ := Hid.mk' zq
  have HP := Hid.mk' x4
  clear le zq bq hb hr hq x4 KB zO
  generalize hV1 : (w1.setCell ⟨w.heap.size + 1 + 1, 3, none⟩ (.slice (some ⟨q, 0, none⟩) c.pt.length c.pt.length)) = V1 at *
  have x4 := HP.out.cell 4 _ rfl
  have x5 := HP.out.cell 5 _ rfl
  have x6 := HP.out.cell 6 _ rfl
  have KP := Hid.mk' (toPolicy_any c.po a b d n1 n2 n3 V1 (HA.out.below HB.out).2 (by omega))
  go_wp2_with fail
  clear hV1 y3 f3 x4 x5 x6
  refine KP.out.mono ?_
  rintro e w2 ⟨g1, g2, g3, rfl, hx, hb⟩
  have le := LE.out
  obtain ⟨h1, h2, h3, r1, r2, r3⟩ := hx
  have z1 : w.heap.size + 1 + 1 < g1 := by omega
  have z2 : w.heap.size + 1 + 1 < g2 := by omega
  have z3 : w.heap.size + 1 + 1 < g3 := by omega
  have zq := ZQ.out
  have bq := HB.out.trans (hb.mono HB.out.size)
  have o2 := HO.out.below hb
  have t2 := HT.out.below hb
  have q2 := rowB HQ.out hb
  have y4 := o2.cell 4 _ rfl
  have y5 := o2.cell 5 _ rfl
  have y6 := o2.cell 6 _ rfl
  have f4 := o2.frozen 4
  have f5 := o2.frozen 5
  have f6 := o2.frozen 6
  have zO := o2.lt
  have HO := Hid.mk' (((o2.set 4 (.slice (some ⟨g1, 0, none⟩) c.po.tg.length c.po.tg.length)).set 5 (.slice (some ⟨g2, 0, none⟩) c.po.at_.length c.po.at_.length)).set 6 (.slice (some ⟨g3, 0, none⟩) c.po.sc.length c.po.sc.length))
  have HT := Hid.mk' (((t2.other (a := ⟨w.heap.size + 1 + 1, 4, none⟩) (by show w.heap.size + 1 ≠ w.heap.size + 1 + 1; omega) (.slice (some ⟨g1, 0, none⟩) c.po.tg.length c.po.tg.length)).other (a := ⟨w.heap.size + 1 + 1, 5, none⟩) (by show w.heap.size + 1 ≠ w.heap.size + 1 + 1; omega) (.slice (some ⟨g2, 0, none⟩) c.po.at_.length c.po.at_.length)).other (a := ⟨w.heap.size + 1 + 1, 6, none⟩) (by show w.heap.size + 1 ≠ w.heap.size + 1 + 1; omega) (.slice (some ⟨g3, 0, none⟩) c.po.sc.length c.po.sc.length))
  have HB := Hid.mk' (RowA.setBelow (g := w.heap.size + 1 + 1) (RowA.setBelow (g := w.heap.size + 1 + 1) (RowA.setBelow (g := w.heap.size + 1 + 1) bq (by omega) 4 (.slice (some ⟨g1, 0, none⟩) c.po.tg.length c.po.tg.length)) (by omega) 5 (.slice (some ⟨g2, 0, none⟩) c.po.at_.length c.po.at_.length)) (by omega) 6 (.slice (some ⟨g3, 0, none⟩) c.po.sc.length c.po.sc.length))
  have HX : Hid ((((w2.setCell ⟨w.heap.size + 1 + 1, 4, none⟩ (.slice (some ⟨g1, 0, none⟩) c.po.tg.length c.po.tg.length)).setCell ⟨w.heap.size + 1 + 1, 5, none⟩ (.slice (some ⟨g2, 0, none⟩) c.po.at_.length c.po.at_.length)).setCell ⟨w.heap.size + 1 + 1, 6, none⟩ (.slice (some ⟨g3, 0, none⟩) c.po.sc.length c.po.sc.length)).rowIs q 5 c.pt.length (bv c.pt) ∧ (((w2.setCell ⟨w.heap.size + 1 + 1, 4, none⟩ (.slice (some ⟨g1, 0, none⟩) c.po.tg.length c.po.tg.length)).setCell ⟨w.heap.size + 1 + 1, 5, none⟩ (.slice (some ⟨g2, 0, none⟩) c.po.at_.length c.po.at_.length)).setCell ⟨w.heap.size + 1 + 1, 6, none⟩ (.slice (some ⟨g3, 0, none⟩) c.po.sc.length c.po.sc.length)).rowIs g1 9 c.po.tg.length (sv c.po.tg) ∧ (((w2.setCell ⟨w.heap.size + 1 + 1, 4, none⟩ (.slice (some ⟨g1, 0, none⟩) c.po.tg.length c.po.tg.length)).setCell ⟨w.heap.size + 1 + 1, 5, none⟩ (.slice (some ⟨g2, 0, none⟩) c.po.at_.length c.po.at_.length)).setCell ⟨w.heap.size + 1 + 1, 6, none⟩ (.slice (some ⟨g3, 0, none⟩) c.po.sc.length c.po.sc.length)).rowIs g2 9 c.po.at_.length (sv c.po.at_) ∧ (((w2.setCell ⟨w.heap.size + 1 + 1, 4, none⟩ (.slice (some ⟨g1, 0, none⟩) c.po.tg.length c.po.tg.length)).setCell ⟨w.heap.size + 1 + 1, 5, none⟩ (.slice (some ⟨g2, 0, none⟩) c.po.at_.length c.po.at_.length)).setCell ⟨w.heap.size + 1 + 1, 6, none⟩ (.slice (some ⟨g3, 0, none⟩) c.po.sc.length c.po.sc.length)).rowIs g3 9 c.po.sc.length (sv c.po.sc)) := Hid.mk' ⟨((((((q2).setOther (a := ⟨w.heap.size + 1 + 1, 4, none⟩) (by show q ≠ w.heap.size + 1 + 1; omega) (.slice (some ⟨g1, 0, none⟩) c.po.tg.length c.po.tg.length))).setOther (a := ⟨w.heap.size + 1 + 1, 5, none⟩) (by show q ≠ w.heap.size + 1 + 1; omega) (.slice (some ⟨g2, 0, none⟩) c.po.at_.length c.po.at_.length))).setOther (a := ⟨w.heap.size + 1 + 1, 6, none⟩) (by show q ≠ w.heap.size + 1 + 1; omega) (.slice (some ⟨g3, 0, none⟩) c.po.sc.length c.po.sc.length)), ((((((r1).setOther (a := ⟨w.heap.size + 1 + 1, 4, none⟩) (by show g1 ≠ w.heap.size + 1 + 1; omega) (.slice (some ⟨g1, 0, none⟩) c.po.tg.length c.po.tg.length))).setOther (a := ⟨w.heap.size + 1 + 1, 5, none⟩) (by show g1 ≠ w.heap.size + 1 + 1; omega) (.slice (some ⟨g2, 0, none⟩) c.po.at_.length c.po.at_.length))).setOther (a := ⟨w.heap.size + 1 + 1, 6, none⟩) (by show g1 ≠ w.heap.size + 1 + 1; omega) (.slice (some ⟨g3, 0, none⟩) c.po.sc.length c.po.sc.length)), ((((((r2).setOther (a := ⟨w.heap.size + 1 + 1, 4, none⟩) (by show g2 ≠ w.heap.size + 1 + 1; omega) (.slice (some ⟨g1, 0, none⟩) c.po.tg.length c.po.tg.length))).setOther (a := ⟨w.heap.size + 1 + 1, 5, none⟩) (by show g2 ≠ w.heap.size + 1 + 1; omega) (.slice (some ⟨g2, 0, none⟩) c.po.at_.length c.po.at_.length))).setOther (a := ⟨w.heap.size + 1 + 1, 6, none⟩) (by show g2 ≠ w.heap.size + 1 + 1; omega) (.slice (some ⟨g3, 0, none⟩) c.po.sc.length c.po.sc.length)), ((((((r3).setOther (a := ⟨w.heap.size + 1 + 1, 4, none⟩) (by show g3 ≠ w.heap.size + 1 + 1; omega) (.slice (some ⟨g1, 0, none⟩) c.po.tg.length c.po.tg.length))).setOther (a := ⟨w.heap.size + 1 + 1, 5, none⟩) (by show g3 ≠ w.heap.size + 1 + 1; omega) (.slice (some ⟨g2, 0, none⟩) c.po.at_.length c.po.at_.length))).setOther (a := ⟨w.heap.size + 1 + 1, 6, none⟩) (by show g3 ≠ w.heap.size + 1 + 1; omega) (.slice (some ⟨g3, 0, none⟩) c.po.sc.length c.po.sc.length))⟩
  have ZZ : Hid (w.heap.size + 1 + 1 < q ∧ w.heap.size + 1 + 1 < g1 ∧ w.heap.size + 1 + 1 < g2 ∧ w.heap.size + 1 + 1 < g3) := Hid.mk' ⟨zq, z1, z2, z3⟩
  clear hb h1 h2 h3 r1 r2 r3 z1 z2 z3 zq bq o2 t2 q2 le KP LE HQ HP
  go_wp2_with (first | ((with_reducible refine wpList_load_row ?_ 32 (.tmp 3) ?_ (w.heap.size + 1 + 1) ?_ 32 #[.int .i64 c.kd, .int .i64 c.pl, .int .i64 c.nn, .slice (some ⟨q, 0, none⟩) c.pt.length c.pt.length, .slice (some ⟨g1, 0, none⟩) c.po.tg.length c.po.tg.length, .slice (some ⟨g2, 0, none⟩) c.po.at_.length c.po.at_.length, .slice (some ⟨g3, 0, none⟩) c.po.sc.length c.po.sc.length] (0, 0) _ ?_ Try.underlying32 ?_ ?_ ?_); rfl; rfl; rfl; exact HO.out; rfl; kernel_rfl) | ((with_reducible refine wpList_store_row ?_ 32 (.tmp 2) (.tmp 21) ?_ (w.heap.size + 1) #[.int .i64 c.kd, .int .i64 c.pl, .int .i64 c.nn, .slice (some ⟨q, 0, none⟩) c.pt.length c.pt.length, .slice (some ⟨g1, 0, none⟩) c.po.tg.length c.po.tg.length, .slice (some ⟨g2, 0, none⟩) c.po.at_.length c.po.at_.length, .slice (some ⟨g3, 0, none⟩) c.po.sc.length c.po.sc.length] ?_ ?_ 32 #[.int .i64 0, .int .i64 0, .int .i64 0, .slice none 0 0, .slice none 0 0, .slice none 0 0, .slice none 0 0] ?_ ?_ ?_ ?_ ?_); rfl; rfl; rfl; rfl; exact HT.out; kernel_rfl; rfl; kernel_rfl))
  refine bodyPost_ret (v := .agg #[.int .i64 c.kd, .int .i64 c.pl, .int .i64 c.nn, .slice (some ⟨q, 0, none⟩) c.pt.length c.pt.length, .slice (some ⟨g1, 0, none⟩) c.po.tg.length c.po.tg.length, .slice (some ⟨g2, 0, none⟩) c.po.at_.length c.po.at_.length, .slice (some ⟨g3, 0, none⟩) c.po.sc.length c.po.sc.length]) ?_ ?_ ?_
  · exact results_cell_row Try.results8 _ _ (w.heap.size + 1) 32 _ (0, 0) _ rfl (HT.out.put _) Try.underlying32 rfl (by kernel_rfl)
  · rfl
  · obtain ⟨r0, r1, r2, r3⟩ := HX.out
    obtain ⟨z0, z1, z2, z3⟩ := ZZ.out
    exact ⟨q, g1, g2, g3, rfl, ⟨.of_row (r0.of_block (setRow_other _ _ _ _ (by omega))), .of_row (r1.of_block (setRow_other _ _ _ _ (by omega))), .of_row (r2.of_block (setRow_other _ _ _ _ (by omega))), .of_row (r3.of_block (setRow_other _ _ _ _ (by omega)))⟩, RowA.putBelow HB.out (by omega) _⟩

theorem two7 (w : World) (c1 c2 : Array Value) :
    Below w.heap.size w ((w.alloc (.cells c1 32)).alloc (.cells c2 32)) ∧
    RowA ((w.alloc (.cells c1 32)).alloc (.cells c2 32)) w.heap.size 32 c1 ∧
    RowA ((w.alloc (.cells c1 32)).alloc (.cells c2 32)) (w.heap.size + 1) 32 c2 := by
  have a1 := RowA.new w 32 c1
  have a2 := RowA.new (w.alloc (.cells c1 32)) 32 c2
  have b1 := below_new (w.alloc (.cells c1 32)) (.cells c2 32)
  have e1 : (w.alloc (.cells c1 32)).heap.size = w.heap.size + 1 := by simp
  rw [e1] at a2
  exact ⟨(below_new w _).alloc (by omega) _, a1.below b1, a2⟩

set_option maxHeartbeats 3200000 in
theorem eqChange_any (c : CH) (p a b d p' a' b' d' : Option Addr) (np n1 n2 n3 mp m1 m2 m3 : Nat) (w : World) (h1 : CHAt w p a b d c) (h2 : CHAt w p' a' b' d' c) (hl : (chsz c : Int) ≤ 1048576) :
    Calls Try.prog 10 #[.agg (chV c p a b d np n1 n2 n3), .agg (chV c p' a' b' d' mp m1 m2 m3)] w fun e w' => e = .returned (.bool true) ∧ Below w.heap.size w w' := by
  unfold chsz at hl
  obtain ⟨B0, X0, Y0⟩ := two7 w (chV c p a b d np n1 n2 n3) (chV c p' a' b' d' mp m1 m2 m3)
  have HA := Hid.mk' h1
  have HC := Hid.mk' h2
  have HB := Hid.mk' B0
  have HX := Hid.mk' X0
  have HY := Hid.mk' Y0
  clear B0 X0 Y0 h1 h2
  unfold chV at *
  generalize hV : (w.alloc (.cells #[.int .i64 c.kd, .int .i64 c.pl, .int .i64 c.nn, .slice p c.pt.length np, .slice a c.po.tg.length n1, .slice b c.po.at_.length n2, .slice d c.po.sc.length n3] 32)).alloc (.cells #[.int .i64 c.kd, .int .i64 c.pl, .int .i64 c.nn, .slice p' c.pt.length mp, .slice a' c.po.tg.length m1, .slice b' c.po.at_.length m2, .slice d' c.po.sc.length m3] 32) = V at *
  have KB := Hid.mk' (eqByteS_any p p' np mp c.pt V (HA.out.below HB.out).1 (HC.out.below HB.out).1 (by omega))
  have x0 := HX.out.cell 0 _ rfl
  have x1 := HX.out.cell 1 _ rfl
  have x2 := HX.out.cell 2 _ rfl
  have x3 := HX.out.cell 3 _ rfl
  have y0 := HY.out.cell 0 _ rfl
  have y1 := HY.out.cell 1 _ rfl
  have y2 := HY.out.cell 2 _ rfl
  have y3 := HY.out.cell 3 _ rfl
  go_enter Try.func10, Try.ntmps10
  go_wp2_with fail
  clear hV x0 x1 x2 x3 y0 y1 y2 y3
  refine KB.out.mono ?_
  rintro e w1 ⟨rfl, hb⟩
  have HX := Hid.mk' (HX.out.below hb)
  have HY := Hid.mk' (HY.out.below hb)
  have HB := Hid.mk' (HB.out.trans (hb.mono HB.out.size))
  clear hb KB
  have KP := Hid.mk' (eqPolicy_any c.po a b d a' b' d' n1 n2 n3 m1 m2 m3 w1 (HA.out.below HB.out).2 (HC.out.below HB.out).2 (by omega))
  have x4 := HX.out.cell 4 _ rfl
  have x5 := HX.out.cell 5 _ rfl
  have x6 := HX.out.cell 6 _ rfl
  have y4 := HY.out.cell 4 _ rfl
  have y5 := HY.out.cell 5 _ rfl
  have y6 := HY.out.cell 6 _ rfl
  go_wp2_with fail
  refine KP.out.mono ?_
  rintro e w2 ⟨rfl, hb⟩
  have HB := Hid.mk' (HB.out.trans (hb.mono HB.out.size))
  clear hb KP
  go_wp2
  go_ret
  exact ⟨rfl, HB.out⟩

end Go.Proofs.Ytbdjppiagjhfmaa
