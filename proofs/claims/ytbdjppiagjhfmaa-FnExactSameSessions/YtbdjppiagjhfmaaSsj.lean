/- The law on SameSessions. -/
import Derived.Test.YtbdjppiagjhfmaaSsh
namespace Go.Proofs.Ytbdjppiagjhfmaa
open Go.RowKit
set_option linter.unusedVariables false
set_option linter.unusedSimpArgs false

theorem two13L (w : World) (c1 c2 : Array Value) :
    Below w.heap.size w ((w.alloc (.cells c1 59)).alloc (.cells c2 59)) ∧
    RowA ((w.alloc (.cells c1 59)).alloc (.cells c2 59)) w.heap.size 59 c1 ∧
    RowA ((w.alloc (.cells c1 59)).alloc (.cells c2 59)) (w.heap.size + 1) 59 c2 := by
  have a1 := RowA.new w 59 c1
  have a2 := RowA.new (w.alloc (.cells c1 59)) 59 c2
  have b1 := below_new (w.alloc (.cells c1 59)) (.cells c2 59)
  have e1 : (w.alloc (.cells c1 59)).heap.size = w.heap.size + 1 := by simp
  rw [e1] at a2
  exact ⟨(below_new w _).alloc (by omega) _, a1.below b1, a2⟩

set_option maxRecDepth 100000 in
set_option maxHeartbeats 8000000 in
/-- The law on SameSessions. -/
theorem lawSS_any (s : SE) (x : SX) (t : SE) (y : SX) (w : World) (h1 : SEAt w s x) (wa : WideSE s) (h2 : SEAt w t y) (wb : WideSE t) :
    Calls Try.prog 5 #[.agg (seV s x), .agg (seV t y)] w fun e w' => e = .returned (.bool true) ∧ Below w.heap.size w w' := by
  obtain ⟨B0, X0, Y0⟩ := two13L w (seV s x) (seV t y)
  have HA := Hid.mk' h1
  have HC := Hid.mk' h2
  have HB := Hid.mk' B0
  have HX := Hid.mk' X0
  have HY := Hid.mk' Y0
  have WB := Hid.mk' wb
  have KS := szSession_any s x 1048576 _ (h1.below B0) wa (by omega) (by omega)
  clear B0 X0 Y0 h1 h2 wa wb
  generalize hV : (w.alloc (.cells (seV s x) 59)).alloc (.cells (seV t y) 59) = V at *
  by_cases g1 : (1048576 : Int) < (sesz s : Int)
  · rw [if_pos g1] at KS
    have K := Hid.mk' KS
    go_enter Try.func5, Try.ntmps5
    go_wp2_with (first | ((with_reducible refine wpList_load_row ?_ 59 (.tmp 2) ?_ (w.heap.size) ?_ 59 (seV s x) (0, 0) _ ?_ Try.underlying59 ?_ ?_ ?_); rfl; rfl; rfl; exact HX.out; rfl; kernel_rfl) | fail)
    clear hV
    refine K.out.mono ?_
    rintro e w1 ⟨rfl, hb⟩
    have HB := Hid.mk' (HB.out.trans (hb.mono HB.out.size))
    clear hb K
    go_wp2
    go_ret
    exact ⟨rfl, HB.out⟩
  rw [if_neg g1] at KS
  have K := Hid.mk' KS
  have zz : ¬ (1048576 - (sesz s : Int) < 0) := by omega
  have hl : (sesz s : Int) ≤ 1048576 := by omega
  have HL := Hid.mk' hl
  clear KS
  go_enter Try.func5, Try.ntmps5
  go_wp2_with (first | ((with_reducible refine wpList_load_row ?_ 59 (.tmp 2) ?_ (w.heap.size) ?_ 59 (seV s x) (0, 0) _ ?_ Try.underlying59 ?_ ?_ ?_); rfl; rfl; rfl; exact HX.out; rfl; kernel_rfl) | fail)
  clear hV
  refine K.out.mono ?_
  rintro e w1 ⟨rfl, hb⟩
  have HX := Hid.mk' (HX.out.below hb)
  have HY := Hid.mk' (HY.out.below hb)
  have HB := Hid.mk' (HB.out.trans (hb.mono HB.out.size))
  clear K
  clear hb
  have KT := szSession_any t y (1048576 - (sesz s : Int)) w1 (HC.out.below HB.out) WB.out (by omega) (by omega)
  by_cases g2 : 1048576 - (sesz s : Int) < (sesz t : Int)
  · rw [if_pos g2] at KT
    have K := Hid.mk' KT
    go_wp2_with (first | ((with_reducible refine wpList_load_row ?_ 59 (.tmp 3) ?_ (w.heap.size + 1) ?_ 59 (seV t y) (0, 0) _ ?_ Try.underlying59 ?_ ?_ ?_); rfl; rfl; rfl; exact HY.out; rfl; kernel_rfl) | fail)
    refine K.out.mono ?_
    rintro e w2 ⟨rfl, hb⟩
    have HB := Hid.mk' (HB.out.trans (hb.mono HB.out.size))
    clear hb K
    go_wp2
    go_ret
    exact ⟨rfl, HB.out⟩
  rw [if_neg g2] at KT
  have K := Hid.mk' KT
  have zy : ¬ (1048576 - (sesz s : Int) - sesz t < 0) := by omega
  have hm : (sesz t : Int) ≤ 1048576 := by omega
  have HM := Hid.mk' hm
  clear KT
  go_wp2_with (first | ((with_reducible refine wpList_load_row ?_ 59 (.tmp 3) ?_ (w.heap.size + 1) ?_ 59 (seV t y) (0, 0) _ ?_ Try.underlying59 ?_ ?_ ?_); rfl; rfl; rfl; exact HY.out; rfl; kernel_rfl) | fail)
  refine K.out.mono ?_
  rintro e w2 ⟨rfl, hb⟩
  have HX := Hid.mk' (HX.out.below hb)
  have HY := Hid.mk' (HY.out.below hb)
  have HB := Hid.mk' (HB.out.trans (hb.mono HB.out.size))
  clear K
  clear hb
  have KTA := Hid.mk' (fun (z : World) (hz : Below w.heap.size w z) => toSession_any s x z (HA.out.below hz) HL.out)
  have KTB := Hid.mk' (fun (z : World) (hz : Below w.heap.size w z) => toSession_any t y z (HC.out.below hz) HM.out)
  clear g1 g2 hl hm
  go_wp2
  clear zz zy
  refine wp_region_held_drew (S := (fun w' => Hid (RowA w' (w.heap.size) 59 (seV s x)) ∧ Hid (RowA w' (w.heap.size + 1) 59 (seV t y)))) (by kernel_rfl) ⟨HX, HY⟩ (fun hHeld => ?_)
  refine wpAnyH_take (i := 0) (oi := ⟨_, _, _, _, _, _⟩) (v := .agg (seV s x)) rfl (by kernel_rfl) (by kernel_rfl) (by kernel_rfl) (fun _ _ _ h => h) (Or.inl ⟨by rfl, ?_⟩) (by assumption) ?_
  · (intro w' hSw; exact hSw.1.out.exec (.tmp 2) rfl rfl _ Try.underlying59 rfl (by kernel_rfl))
  try simp only [Act.put, List.setIfInBounds_toArray, List.set_cons_zero, List.set_cons_succ]
  refine wpAnyH_take (i := 2) (oi := ⟨_, _, _, _, _, _⟩) (v := .agg (seV t y)) rfl (by kernel_rfl) (by kernel_rfl) (by kernel_rfl) (fun _ _ _ h => h) (Or.inl ⟨by rfl, ?_⟩) (by assumption) ?_
  · (intro w' hSw; exact hSw.2.out.exec (.tmp 3) rfl rfl _ Try.underlying59 rfl (by kernel_rfl))
  try simp only [Act.put, List.setIfInBounds_toArray, List.set_cons_zero, List.set_cons_succ]
  refine wpAnyH_ready (rs := [1]) (by kernel_rfl) (by simp) ?_
  refine AllReadyH.cons (o := ⟨_, _, _, _, _, _⟩) rfl (fun K hK => ?_) AllReadyH.nil
  go_simp
  refine (KTA.out _ (HB.out.drew)).mono ?_
  rintro e w3 ⟨y3, rfl, t3, hb⟩
  replace hb := undrew hb
  have HX := Hid.mk' (HX.out.below hb)
  have HY := Hid.mk' (HY.out.below hb)
  have HB := Hid.mk' (HB.out.trans (hb.mono HB.out.size))
  clear hb
  have T3 := Hid.mk' t3
  clear t3
  refine hK.out _ _ ⟨HX, HY⟩ (fun hHeld => ?_)
  clear hK K
  try simp only [Act.put, List.setIfInBounds_toArray, List.set_cons_zero, List.set_cons_succ]
  refine wpAnyH_ready (rs := [3]) (by kernel_rfl) (by simp) ?_
  refine AllReadyH.cons (o := ⟨_, _, _, _, _, _⟩) rfl (fun K hK => ?_) AllReadyH.nil
  go_simp
  refine (KTB.out _ HB.out).mono ?_
  rintro e w4 ⟨y4, rfl, t4, hb⟩
  have T3 := Hid.mk' (T3.out.below hb)
  have HX := Hid.mk' (HX.out.below hb)
  have HY := Hid.mk' (HY.out.below hb)
  have HB := Hid.mk' (HB.out.trans (hb.mono HB.out.size))
  clear hb
  have T4 := Hid.mk' t4
  clear t4
  refine hK.out _ _ ⟨HX, HY⟩ (fun hHeld => ?_)
  clear hK K
  try simp only [Act.put, List.setIfInBounds_toArray, List.set_cons_zero, List.set_cons_succ]
  refine wpAnyH_ready (rs := [4]) (by kernel_rfl) (by simp) ?_
  refine AllReadyH.cons (o := ⟨_, _, _, _, _, _⟩) rfl (fun K hK => ?_) AllReadyH.nil
  go_simp
  refine (specSS_any s t y3 y4 w4 T3.out T4.out HL.out HM.out).mono ?_
  rintro e w5 ⟨rfl, hb⟩
  have HX := Hid.mk' (HX.out.below hb)
  have HY := Hid.mk' (HY.out.below hb)
  have HB := Hid.mk' (HB.out.trans (hb.mono HB.out.size))
  clear hb
  refine hK.out _ _ ⟨HX, HY⟩ (fun hHeld => ?_)
  clear hK K
  try simp only [Act.put, List.setIfInBounds_toArray, List.set_cons_zero, List.set_cons_succ]
  refine wpAnyH_take (i := 5) (oi := ⟨_, _, _, _, _, _⟩) (v := ?_) rfl (by kernel_rfl) (by kernel_rfl) (by kernel_rfl) (fun _ _ _ h => h) (Or.inl ⟨by rfl, ?_⟩) (by assumption) ?_
  rotate_left
  · (intro w hSw; (try dsimp only at hSw); go_simp; (try with_reducible rfl))
  try simp only [Act.put, List.setIfInBounds_toArray, List.set_cons_zero, List.set_cons_succ]
  refine wpAnyH_done (by kernel_rfl) ?_ _
  clear T3 T4
  go_wp2_with (first | ((with_reducible refine wpList_load_row ?_ 59 (.tmp 2) ?_ (w.heap.size) ?_ 59 (seV s x) (0, 0) _ ?_ Try.underlying59 ?_ ?_ ?_); rfl; rfl; rfl; exact HX.out; rfl; kernel_rfl) | fail)
  refine (KTA.out _ HB.out).mono ?_
  rintro e w6 ⟨y6, rfl, t6, hb6⟩
  have Z6 := Hid.mk' (RowA.new w6 70 #[.slice none 0 0, .slice none 0 0, .slice none 0 0, .slice none 0 0, .slice none 0 0, .slice none 0 0, .slice none 0 0, .int .i64 0, .slice none 0 0, .slice none 0 0, .slice none 0 0, .slice none 0 0, .int .i64 0])
  have N6 := RowA.putBelow (below_new w6 (.cells #[.slice none 0 0, .slice none 0 0, .slice none 0 0, .slice none 0 0, .slice none 0 0, .slice none 0 0, .slice none 0 0, .int .i64 0, .slice none 0 0, .slice none 0 0, .slice none 0 0, .slice none 0 0, .int .i64 0] 70)) (Nat.le_refl _) (seV s y6)
  have hb := hb6.trans (N6.mono hb6.size)
  have P6 := Hid.mk' (Z6.out.put (seV s y6))
  have T6 := Hid.mk' (t6.below N6)
  have HX := Hid.mk' (HX.out.below hb)
  have HY := Hid.mk' (HY.out.below hb)
  have HB := Hid.mk' (HB.out.trans (hb.mono HB.out.size))
  clear hb hb6 N6 t6
  go_wp2_with (first | ((with_reducible refine wpList_store_row ?_ 70 (.tmp 7) (.tmp 26) ?_ (w6.heap.size) (seV s y6) ?_ ?_ 70 #[.slice none 0 0, .slice none 0 0, .slice none 0 0, .slice none 0 0, .slice none 0 0, .slice none 0 0, .slice none 0 0, .int .i64 0, .slice none 0 0, .slice none 0 0, .slice none 0 0, .slice none 0 0, .int .i64 0] ?_ ?_ ?_ ?_ ?_); rfl; rfl; rfl; rfl; exact Z6.out; kernel_rfl; rfl; kernel_rfl) | ((with_reducible refine wpList_load_row ?_ 59 (.tmp 3) ?_ (w.heap.size + 1) ?_ 59 (seV t y) (0, 0) _ ?_ Try.underlying59 ?_ ?_ ?_); rfl; rfl; rfl; exact HY.out; rfl; kernel_rfl) | fail)
  clear Z6
  generalize hV6 : (w6.alloc (.cells #[.slice none 0 0, .slice none 0 0, .slice none 0 0, .slice none 0 0, .slice none 0 0, .slice none 0 0, .slice none 0 0, .int .i64 0, .slice none 0 0, .slice none 0 0, .slice none 0 0, .slice none 0 0, .int .i64 0] 70)).setRow w6.heap.size (seV s y6) = V6 at *
  clear hV6
  refine (KTB.out _ HB.out).mono ?_
  rintro e w7 ⟨y7, rfl, t7, hb7⟩
  have Z7 := Hid.mk' (RowA.new w7 70 #[.slice none 0 0, .slice none 0 0, .slice none 0 0, .slice none 0 0, .slice none 0 0, .slice none 0 0, .slice none 0 0, .int .i64 0, .slice none 0 0, .slice none 0 0, .slice none 0 0, .slice none 0 0, .int .i64 0])
  have N7 := RowA.putBelow (below_new w7 (.cells #[.slice none 0 0, .slice none 0 0, .slice none 0 0, .slice none 0 0, .slice none 0 0, .slice none 0 0, .slice none 0 0, .int .i64 0, .slice none 0 0, .slice none 0 0, .slice none 0 0, .slice none 0 0, .int .i64 0] 70)) (Nat.le_refl _) (seV t y7)
  have hb := hb7.trans (N7.mono hb7.size)
  have P7 := Hid.mk' (Z7.out.put (seV t y7))
  have T7 := Hid.mk' (t7.below N7)
  have P6 := Hid.mk' (P6.out.below hb)
  have T6 := Hid.mk' (T6.out.below hb)
  have HX := Hid.mk' (HX.out.below hb)
  have HY := Hid.mk' (HY.out.below hb)
  have HB := Hid.mk' (HB.out.trans (hb.mono HB.out.size))
  clear hb hb7 N7 t7
  go_wp2_with (first | ((with_reducible refine wpList_store_row ?_ 70 (.tmp 8) (.tmp 28) ?_ (w7.heap.size) (seV t y7) ?_ ?_ 70 #[.slice none 0 0, .slice none 0 0, .slice none 0 0, .slice none 0 0, .slice none 0 0, .slice none 0 0, .slice none 0 0, .int .i64 0, .slice none 0 0, .slice none 0 0, .slice none 0 0, .slice none 0 0, .int .i64 0] ?_ ?_ ?_ ?_ ?_); rfl; rfl; rfl; rfl; exact Z7.out; kernel_rfl; rfl; kernel_rfl) | ((with_reducible refine wpList_load_row ?_ 70 (.tmp 7) ?_ (w6.heap.size) ?_ 70 (seV s y6) (0, 0) _ ?_ Try.underlying70 ?_ ?_ ?_); rfl; rfl; rfl; exact P6.out; rfl; kernel_rfl) | ((with_reducible refine wpList_load_row ?_ 70 (.tmp 8) ?_ (w7.heap.size) ?_ 70 (seV t y7) (0, 0) _ ?_ Try.underlying70 ?_ ?_ ?_); rfl; rfl; rfl; exact P7.out; rfl; kernel_rfl) | fail)
  clear Z7
  generalize hV7 : (w7.alloc (.cells #[.slice none 0 0, .slice none 0 0, .slice none 0 0, .slice none 0 0, .slice none 0 0, .slice none 0 0, .slice none 0 0, .int .i64 0, .slice none 0 0, .slice none 0 0, .slice none 0 0, .slice none 0 0, .int .i64 0] 70)).setRow w7.heap.size (seV t y7) = V7 at *
  have K := Hid.mk' (implSS_any s t y6 y7 V7 T6.out T7.out HL.out HM.out)
  clear hV7
  refine K.out.mono ?_
  rintro e w8 ⟨rfl, hb⟩
  have P7 := Hid.mk' (P7.out.below hb)
  have T7 := Hid.mk' (T7.out.below hb)
  have P6 := Hid.mk' (P6.out.below hb)
  have T6 := Hid.mk' (T6.out.below hb)
  have HX := Hid.mk' (HX.out.below hb)
  have HY := Hid.mk' (HY.out.below hb)
  have HB := Hid.mk' (HB.out.trans (hb.mono HB.out.size))
  clear hb K
  generalize sameSE s t = sm at *
  go_wp2
  refine wp_region_held_drew (S := (fun w' => Hid (RowA w' (w6.heap.size) 70 (seV s y6)) ∧ Hid (RowA w' (w.heap.size) 59 (seV s x)))) (by kernel_rfl) ⟨P6, HX⟩ (fun hHeld => ?_)
  refine wpAnyH_take (i := 0) (oi := ⟨_, _, _, _, _, _⟩) (v := .agg (seV s y6)) rfl (by kernel_rfl) (by kernel_rfl) (by kernel_rfl) (fun _ _ _ h => h) (Or.inl ⟨by rfl, ?_⟩) (by assumption) ?_
  · (intro w' hSw; exact hSw.1.out.exec (.tmp 7) rfl rfl _ Try.underlying70 rfl (by kernel_rfl))
  try simp only [Act.put, List.setIfInBounds_toArray, List.set_cons_zero, List.set_cons_succ]
  refine wpAnyH_take (i := 1) (oi := ⟨_, _, _, _, _, _⟩) (v := .agg (seV s x)) rfl (by kernel_rfl) (by kernel_rfl) (by kernel_rfl) (fun _ _ _ h => h) (Or.inl ⟨by rfl, ?_⟩) (by assumption) ?_
  · (intro w' hSw; exact hSw.2.out.exec (.tmp 2) rfl rfl _ Try.underlying59 rfl (by kernel_rfl))
  try simp only [Act.put, List.setIfInBounds_toArray, List.set_cons_zero, List.set_cons_succ]
  refine wpAnyH_ready (rs := [2]) (by kernel_rfl) (by simp) ?_
  refine AllReadyH.cons (o := ⟨_, _, _, _, _, _⟩) rfl (fun K hK => ?_) AllReadyH.nil
  go_simp
  refine (KTA.out _ (HB.out.drew)).mono ?_
  rintro e wa ⟨ya, rfl, ta, hb⟩
  replace hb := undrew hb
  have P6 := Hid.mk' (P6.out.below hb)
  have T6 := Hid.mk' (T6.out.below hb)
  have P7 := Hid.mk' (P7.out.below hb)
  have T7 := Hid.mk' (T7.out.below hb)
  have HX := Hid.mk' (HX.out.below hb)
  have HY := Hid.mk' (HY.out.below hb)
  have HB := Hid.mk' (HB.out.trans (hb.mono HB.out.size))
  have TA := Hid.mk' ta
  clear ta hb
  refine hK.out _ _ ⟨P6, HX⟩ (fun hHeld => ?_)
  clear hK K
  try simp only [Act.put, List.setIfInBounds_toArray, List.set_cons_zero, List.set_cons_succ]
  refine wpAnyH_ready (rs := [3]) (by kernel_rfl) (by simp) ?_
  refine AllReadyH.cons (o := ⟨_, _, _, _, _, _⟩) rfl (fun K hK => ?_) AllReadyH.nil
  go_simp
  refine (eqSession_any s _ _ wa T6.out TA.out HL.out).mono ?_
  rintro e wb ⟨rfl, hb⟩
  have P6 := Hid.mk' (P6.out.below hb)
  have T6 := Hid.mk' (T6.out.below hb)
  have P7 := Hid.mk' (P7.out.below hb)
  have T7 := Hid.mk' (T7.out.below hb)
  have HX := Hid.mk' (HX.out.below hb)
  have HY := Hid.mk' (HY.out.below hb)
  have HB := Hid.mk' (HB.out.trans (hb.mono HB.out.size))
  clear TA hb
  refine hK.out _ _ ⟨P6, HX⟩ (fun hHeld => ?_)
  clear hK K
  try simp only [Act.put, List.setIfInBounds_toArray, List.set_cons_zero, List.set_cons_succ]
  refine wpAnyH_take (i := 4) (oi := ⟨_, _, _, _, _, _⟩) (v := ?_) rfl (by kernel_rfl) (by kernel_rfl) (by kernel_rfl) (fun _ _ _ h => h) (Or.inl ⟨by rfl, ?_⟩) (by assumption) ?_
  rotate_left
  · (intro w hSw; (try dsimp only at hSw); go_simp; (try with_reducible rfl))
  try simp only [Act.put, List.setIfInBounds_toArray, List.set_cons_zero, List.set_cons_succ]
  refine wpAnyH_done (by kernel_rfl) ?_ _
  go_wp2
  refine wp_region_held_drew (S := (fun w' => Hid (RowA w' (w7.heap.size) 70 (seV t y7)) ∧ Hid (RowA w' (w.heap.size + 1) 59 (seV t y)))) (by kernel_rfl) ⟨P7, HY⟩ (fun hHeld => ?_)
  refine wpAnyH_take (i := 0) (oi := ⟨_, _, _, _, _, _⟩) (v := .agg (seV t y7)) rfl (by kernel_rfl) (by kernel_rfl) (by kernel_rfl) (fun _ _ _ h => h) (Or.inl ⟨by rfl, ?_⟩) (by assumption) ?_
  · (intro w' hSw; exact hSw.1.out.exec (.tmp 8) rfl rfl _ Try.underlying70 rfl (by kernel_rfl))
  try simp only [Act.put, List.setIfInBounds_toArray, List.set_cons_zero, List.set_cons_succ]
  refine wpAnyH_take (i := 1) (oi := ⟨_, _, _, _, _, _⟩) (v := .agg (seV t y)) rfl (by kernel_rfl) (by kernel_rfl) (by kernel_rfl) (fun _ _ _ h => h) (Or.inl ⟨by rfl, ?_⟩) (by assumption) ?_
  · (intro w' hSw; exact hSw.2.out.exec (.tmp 3) rfl rfl _ Try.underlying59 rfl (by kernel_rfl))
  try simp only [Act.put, List.setIfInBounds_toArray, List.set_cons_zero, List.set_cons_succ]
  refine wpAnyH_ready (rs := [2]) (by kernel_rfl) (by simp) ?_
  refine AllReadyH.cons (o := ⟨_, _, _, _, _, _⟩) rfl (fun K hK => ?_) AllReadyH.nil
  go_simp
  refine (KTB.out _ (HB.out.drew)).mono ?_
  rintro e wa ⟨ya, rfl, ta, hb⟩
  replace hb := undrew hb
  have P7 := Hid.mk' (P7.out.below hb)
  have T7 := Hid.mk' (T7.out.below hb)
  have HY := Hid.mk' (HY.out.below hb)
  have HB := Hid.mk' (HB.out.trans (hb.mono HB.out.size))
  have TA := Hid.mk' ta
  clear ta hb
  refine hK.out _ _ ⟨P7, HY⟩ (fun hHeld => ?_)
  clear hK K
  try simp only [Act.put, List.setIfInBounds_toArray, List.set_cons_zero, List.set_cons_succ]
  refine wpAnyH_ready (rs := [3]) (by kernel_rfl) (by simp) ?_
  refine AllReadyH.cons (o := ⟨_, _, _, _, _, _⟩) rfl (fun K hK => ?_) AllReadyH.nil
  go_simp
  refine (eqSession_any t _ _ wa T7.out TA.out HM.out).mono ?_
  rintro e wb ⟨rfl, hb⟩
  have P7 := Hid.mk' (P7.out.below hb)
  have T7 := Hid.mk' (T7.out.below hb)
  have HY := Hid.mk' (HY.out.below hb)
  have HB := Hid.mk' (HB.out.trans (hb.mono HB.out.size))
  clear TA hb
  refine hK.out _ _ ⟨P7, HY⟩ (fun hHeld => ?_)
  clear hK K
  try simp only [Act.put, List.setIfInBounds_toArray, List.set_cons_zero, List.set_cons_succ]
  refine wpAnyH_take (i := 4) (oi := ⟨_, _, _, _, _, _⟩) (v := ?_) rfl (by kernel_rfl) (by kernel_rfl) (by kernel_rfl) (fun _ _ _ h => h) (Or.inl ⟨by rfl, ?_⟩) (by assumption) ?_
  rotate_left
  · (intro w hSw; (try dsimp only at hSw); go_simp; (try with_reducible rfl))
  try simp only [Act.put, List.setIfInBounds_toArray, List.set_cons_zero, List.set_cons_succ]
  refine wpAnyH_done (by kernel_rfl) ?_ _
  go_wp2
  go_ret
  exact ⟨rfl, HB.out⟩

end Go.Proofs.Ytbdjppiagjhfmaa
