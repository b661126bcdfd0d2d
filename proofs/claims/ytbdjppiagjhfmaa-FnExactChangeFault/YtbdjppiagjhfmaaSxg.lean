/- The law on ChangeFault. -/
import Derived.Test.YtbdjppiagjhfmaaSxd
import Derived.Test.YtbdjppiagjhfmaaSxf
import Derived.Deep.RegionHeld3
namespace Go.Proofs.Ytbdjppiagjhfmaa
open Go.RowKit
set_option linter.unusedVariables false
set_option linter.unusedSimpArgs false

set_option maxRecDepth 100000 in
set_option maxHeartbeats 6400000 in
/-- The law on ChangeFault. -/
theorem lawCF_any (c : CH) (p a b d : Option Addr) (np n1 n2 n3 : Nat) (w : World) (ha : CHAt w p a b d c) (hw : WideCH c) :
    Calls Try.prog 3 #[.agg (chV c p a b d np n1 n2 n3)] w fun e w' => e = .returned (.bool true) ∧ Below w.heap.size w w' := by
  have B0 := below_new w (.cells (chV c p a b d np n1 n2 n3) 27)
  have h := RowA.new w 27 (chV c p a b d np n1 n2 n3)
  have KS := szChange_any c p a b d np n1 n2 n3 _ (ha.below B0) hw
  have HA := Hid.mk' ha
  have HB := Hid.mk' B0
  have HR := Hid.mk' h
  obtain ⟨x0, x1, x2, x3, x4, x5, x6⟩ := ch_cells h
  clear B0 h ha hw
  unfold chV at *
  generalize hV : w.alloc (.cells #[.int .i64 c.kd, .int .i64 c.pl, .int .i64 c.nn, .slice p c.pt.length np, .slice a c.po.tg.length n1, .slice b c.po.at_.length n2, .slice d c.po.sc.length n3] 27) = V at *
  by_cases big : 1048576 < (chsz c : Int)
  · rw [if_pos big] at KS
    have KS := Hid.mk' KS
    go_enter Try.func3, Try.ntmps3
    go_wp2_with fail
    refine KS.out.mono ?_
    rintro e w1 ⟨rfl, hb⟩
    have HB := Hid.mk' (HB.out.trans (hb.mono HB.out.size))
    clear hb KS
    go_wp2
    go_ret
    exact ⟨rfl, HB.out⟩
  rw [if_neg big] at KS
  have KS := Hid.mk' KS
  have zz : ¬ (1048576 - (chsz c : Int) < 0) := by omega
  have hl : (chsz c : Int) ≤ 1048576 := by omega
  have HL := Hid.mk' hl
  clear big hl
  go_enter Try.func3, Try.ntmps3
  go_wp2_with fail
  clear hV x0 x1 x2 x3 x4 x5 x6
  refine KS.out.mono ?_
  rintro e w1 ⟨rfl, hb⟩
  have HR := Hid.mk' (HR.out.below hb)
  have HB := Hid.mk' (HB.out.trans (hb.mono HB.out.size))
  clear hb KS
  obtain ⟨x0, x1, x2, x3, x4, x5, x6⟩ := ch_cells HR.out
  have KT := Hid.mk' (toChange_any c p a b d np n1 n2 n3 w1 (HA.out.below HB.out) HL.out)
  go_wp2_with fail
  clear zz x0 x1 x2 x3 x4 x5 x6
  refine KT.out.mono ?_
  rintro e w2 ⟨q, g1, g2, g3, rfl, t2, hb⟩
  have HR := Hid.mk' (HR.out.below hb)
  have HB := Hid.mk' (HB.out.trans (hb.mono HB.out.size))
  have KP := Hid.mk' (specCF_any c _ _ _ _ c.pt.length c.po.tg.length c.po.at_.length c.po.sc.length w2 t2 HL.out)
  clear hb KT t2
  go_wp2_with fail
  refine KP.out.mono ?_
  rintro e w3 ⟨rfl, hb⟩
  have HR := Hid.mk' (HR.out.below hb)
  have HB := Hid.mk' (HB.out.trans (hb.mono HB.out.size))
  clear hb KP
  obtain ⟨x0, x1, x2, x3, x4, x5, x6⟩ := ch_cells HR.out
  have KT := Hid.mk' (toChange_any c p a b d np n1 n2 n3 w3 (HA.out.below HB.out) HL.out)
  go_wp2_with fail
  clear x0 x1 x2 x3 x4 x5 x6
  refine KT.out.mono ?_
  rintro e w4 ⟨q4, a4, b4, d4, rfl, t4, hb⟩
  have N4 := below_new w4 (.cells (chV c (some ⟨q4, 0, none⟩) (some ⟨a4, 0, none⟩) (some ⟨b4, 0, none⟩) (some ⟨d4, 0, none⟩) c.pt.length c.po.tg.length c.po.at_.length c.po.sc.length) 32)
  have HX := Hid.mk' (RowA.new w4 32 (chV c (some ⟨q4, 0, none⟩) (some ⟨a4, 0, none⟩) (some ⟨b4, 0, none⟩) (some ⟨d4, 0, none⟩) c.pt.length c.po.tg.length c.po.at_.length c.po.sc.length))
  have HR := Hid.mk' ((HR.out.below hb).below N4)
  have HB := Hid.mk' ((HB.out.trans (hb.mono HB.out.size)).trans (N4.mono (Nat.le_trans HB.out.size hb.size)))
  have HT := Hid.mk' (t4.below N4)
  clear hb N4 t4 KT
  unfold chV at *
  generalize hV : w4.alloc (.cells #[.int .i64 c.kd, .int .i64 c.pl, .int .i64 c.nn, .slice (some ⟨q4, 0, none⟩) c.pt.length c.pt.length, .slice (some ⟨a4, 0, none⟩) c.po.tg.length c.po.tg.length, .slice (some ⟨b4, 0, none⟩) c.po.at_.length c.po.at_.length, .slice (some ⟨d4, 0, none⟩) c.po.sc.length c.po.sc.length] 32) = W4 at *
  obtain ⟨x0, x1, x2, x3, x4, x5, x6⟩ := ch_cells HX.out
  have KI := Hid.mk' (implCF_any c (some ⟨q4, 0, none⟩) _ _ _ c.pt.length c.po.tg.length c.po.at_.length c.po.sc.length W4 HT.out.2 HL.out)
  go_wp2_with fail
  clear hV x0 x1 x2 x3 x4 x5 x6
  refine KI.out.mono ?_
  rintro e w5 ⟨rfl, hb⟩
  have HX := Hid.mk' (HX.out.below hb)
  have HR := Hid.mk' (HR.out.below hb)
  have HB := Hid.mk' (HB.out.trans (hb.mono HB.out.size))
  have HT := Hid.mk' (HT.out.below hb)
  have HA5 := Hid.mk' (HA.out.below HB.out)
  clear hb KI
  generalize chF c = tf at *
  obtain ⟨x0, x1, x2, x3, x4, x5, x6⟩ := ch_cells HR.out
  obtain ⟨y0, y1, y2, y3, y4, y5, y6⟩ := ch_cells HX.out
  have z0 := HR.out.lt
  have z9 := HX.out.lt
  go_wp2
  go_region_held3 (fun w' => w'.cell? ⟨w.heap.size, 0, none⟩ = some (.int .i64 c.kd) ∧ w'.cell? ⟨w.heap.size, 1, none⟩ = some (.int .i64 c.pl) ∧ w'.cell? ⟨w.heap.size, 2, none⟩ = some (.int .i64 c.nn) ∧ w'.cell? ⟨w.heap.size, 3, none⟩ = some (.slice p c.pt.length np) ∧ w'.cell? ⟨w.heap.size, 4, none⟩ = some (.slice a c.po.tg.length n1) ∧ w'.cell? ⟨w.heap.size, 5, none⟩ = some (.slice b c.po.at_.length n2) ∧ w'.cell? ⟨w.heap.size, 6, none⟩ = some (.slice d c.po.sc.length n3) ∧ w'.cell? ⟨w4.heap.size, 0, none⟩ = some (.int .i64 c.kd) ∧ w'.cell? ⟨w4.heap.size, 1, none⟩ = some (.int .i64 c.pl) ∧ w'.cell? ⟨w4.heap.size, 2, none⟩ = some (.int .i64 c.nn) ∧ w'.cell? ⟨w4.heap.size, 3, none⟩ = some (.slice (some ⟨q4, 0, none⟩) c.pt.length c.pt.length) ∧ w'.cell? ⟨w4.heap.size, 4, none⟩ = some (.slice (some ⟨a4, 0, none⟩) c.po.tg.length c.po.tg.length) ∧ w'.cell? ⟨w4.heap.size, 5, none⟩ = some (.slice (some ⟨b4, 0, none⟩) c.po.at_.length c.po.at_.length) ∧ w'.cell? ⟨w4.heap.size, 6, none⟩ = some (.slice (some ⟨d4, 0, none⟩) c.po.sc.length c.po.sc.length)) (simp [*])
    (first | (go_at_call 8; refine (toChange_any c p a b d np n1 n2 n3 _ (HA5.out.below (Below.refl _ _).drew) HL.out).mono ?_; rintro e w9 ⟨k0, k1, k2, k3, rfl, t9, hb9⟩; replace hb9 := undrew hb9; obtain ⟨hx1, hx2⟩ := bcell hb9; have z1 := hb9.size; have z2 : w.heap.size < w9.heap.size := (by omega); have z3 : w4.heap.size < w9.heap.size := (by omega)) | (go_at_call 10; refine (eqChange_any c _ _ _ _ _ _ _ _ _ _ _ _ _ _ _ _ _ (HT.out.below hb9) t9 HL.out).mono ?_; rintro e wA ⟨rfl, hbA⟩; obtain ⟨hx3, hx4⟩ := bcell hbA))
  have HB := Hid.mk' (HB.out.trans ((hb9.trans (hbA.mono hb9.size)).mono HB.out.size))
  clear hx1 hx2 hx3 hx4 z1 z2 z3 z0 z9 hb9 hbA t9 x0 x1 x2 x3 x4 x5 x6 y0 y1 y2 y3 y4 y5 y6
  go_wp2
  go_ret
  exact ⟨rfl, HB.out⟩

end Go.Proofs.Ytbdjppiagjhfmaa
