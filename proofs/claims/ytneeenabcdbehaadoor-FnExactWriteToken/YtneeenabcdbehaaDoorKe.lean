/- The law on WriteToken. -/
import Derived.Test.YtneeenabcdbehaaDoorKd
namespace Go.Proofs.YtneeenabcdbehaaDoor
open Go.RowKit
set_option linter.unusedVariables false
set_option linter.unusedSimpArgs false

set_option maxRecDepth 100000 in
set_option maxHeartbeats 3200000 in
theorem lawWT_any (t : TK) (a : Option Addr) (c : Nat) (w : World) (hr : Refs w) (ha : AAt w a t.at_) (hwb : Wide t.at_ ∧ VB t.at_) (hn : (t.nm.size : Int) ≤ 9223372036854775807) (hl : (t.at_.length : Int) ≤ 9223372036854775807) :
    Calls Tryd.prog 3 #[.agg #[.int .i64 t.kd, .int .i64 t.by_, .string t.nm, .slice a t.at_.length c, .bool t.sh]] w fun e w' => e = .returned (.bool true) ∧ Below w.heap.size w w' := by
  obtain ⟨hw, hV⟩ := hwb
  have HV := Hid.mk' hV
  have HF0 := Hid.mk' hr
  clear hV hr
  have N0 := below_new w (.cells #[.int .i64 t.kd, .int .i64 t.by_, .string t.nm, .slice a t.at_.length c, .bool t.sh] 24)
  have KS := szToken_any t a c _ (ha.below N0) hw hn hl
  have HP := Hid.mk' (row5 w 24 (.int .i64 t.kd) (.int .i64 t.by_) (.string t.nm) (.slice a t.at_.length c) (.bool t.sh))
  have HA := Hid.mk' (ha.below N0)
  have HB := Hid.mk' N0
  clear ha N0 hw
  generalize hW : w.alloc (.cells #[.int .i64 t.kd, .int .i64 t.by_, .string t.nm, .slice a t.at_.length c, .bool t.sh] 24) = W at *
  obtain ⟨c0, c1, c2, c3, c4, c5⟩ := cells5 HP.out
  by_cases big : 1048576 < (t.nm.size : Int) + t.at_.length + asz t.at_
  · rw [if_pos big] at KS
    have KS := Hid.mk' KS
    go_enter Tryd.func3, Tryd.ntmps3
    go_wp2_with fail
    refine KS.out.mono ?_
    rintro e w1 ⟨rfl, hb⟩
    have HB := Hid.mk' (HB.out.trans (hb.mono HB.out.size))
    clear hb KS
    go_wp2
    go_ret
    exact ⟨rfl, HB.out⟩
  rw [if_neg big] at KS
  have KS := Hid.mk' KS
  have zz : ¬ (1048576 - (t.nm.size : Int) - t.at_.length - asz t.at_ < 0) := by omega
  go_enter Tryd.func3, Tryd.ntmps3
  go_wp2_with fail
  clear hW
  refine KS.out.mono ?_
  rintro e w1 ⟨rfl, hb⟩
  have HP := Hid.mk' (rowB HP.out hb)
  have HA := Hid.mk' (HA.out.below hb)
  have HB := Hid.mk' (HB.out.trans (hb.mono HB.out.size))
  clear hb KS c0 c1 c2 c3 c4 c5
  obtain ⟨c0, c1, c2, c3, c4, c5⟩ := cells5 HP.out
  go_wp2_with fail
  refine (toToken_any t a c w1 HA.out (by omega)).mono ?_
  rintro e w2 ⟨g1, rfl, hg1, ho1, hb⟩
  have HP := Hid.mk' (rowB HP.out hb)
  have HA := Hid.mk' (HA.out.below hb)
  have HB := Hid.mk' (HB.out.trans (hb.mono HB.out.size))
  have O1 := Hid.mk' ho1
  clear hb ho1 c0 c1 c2 c3 c4 c5 hg1
  obtain ⟨c0, c1, c2, c3, c4, c5⟩ := cells5 HP.out
  go_wp2_with fail
  refine (specWT_any t (some ⟨g1, 0, none⟩) t.at_.length w2 O1.out.at HV.out (Nat.le_refl _) (by omega) (by omega)).mono ?_
  rintro e w3 ⟨rfl, hb⟩
  have N3 := below_new w3 (.cells #[.int .i64 (wtCode t), .string (wtText t)] 27)
  have M3 := hb.trans (N3.mono hb.size)
  have HP := Hid.mk' (rowB HP.out M3)
  have HA := Hid.mk' (HA.out.below M3)
  have HB := Hid.mk' (HB.out.trans (M3.mono HB.out.size))
  have HQ := Hid.mk' (rowR w3 27 (.int .i64 (wtCode t)) (.string (wtText t)))
  clear hb O1 c0 c1 c2 c3 c4 c5 N3 M3
  generalize hW3 : w3.alloc (.cells #[.int .i64 (wtCode t), .string (wtText t)] 27) = W3 at *
  obtain ⟨c0, c1, c2, c3, c4, c5⟩ := cells5 HP.out
  go_wp2_with fail
  clear hW3
  refine (toToken_any t a c W3 HA.out (by omega)).mono ?_
  rintro e w4 ⟨g2, rfl, hg2, ho2, hb⟩
  have N4 := below_new w4 (.cells #[.int .i64 t.kd, .int .i64 t.by_, .string t.nm, .slice (some ⟨g2, 0, none⟩) t.at_.length t.at_.length, .bool t.sh] 31)
  have M4 := hb.trans (N4.mono hb.size)
  have HP := Hid.mk' (rowB HP.out M4)
  have HQ := Hid.mk' (rowB HQ.out M4)
  have HA := Hid.mk' (HA.out.below M4)
  have HB := Hid.mk' (HB.out.trans (M4.mono HB.out.size))
  have O2 := Hid.mk' (ho2.below N4)
  have HX := Hid.mk' (row5 w4 31 (.int .i64 t.kd) (.int .i64 t.by_) (.string t.nm) (.slice (some ⟨g2, 0, none⟩) t.at_.length t.at_.length) (.bool t.sh))
  clear hb ho2 N4 M4 hg2 c0 c1 c2 c3 c4 c5
  generalize hW4 : w4.alloc (.cells #[.int .i64 t.kd, .int .i64 t.by_, .string t.nm, .slice (some ⟨g2, 0, none⟩) t.at_.length t.at_.length, .bool t.sh] 31) = W4 at *
  obtain ⟨c0, c1, c2, c3, c4, c5⟩ := cells5 HP.out
  obtain ⟨d0, d1, d2, d3, d4, d5⟩ := cells5 HX.out
  go_wp2_with fail
  clear hW4
  refine (implWT_any t (some ⟨g2, 0, none⟩) t.at_.length W4 (HF0.out.below HB.out) O2.out.at HV.out (by omega) (by omega)).mono ?_
  rintro e w5a ⟨rfl, hb⟩
  have N5 := below_new w5a (.cells #[.int .i64 (wtCode t), .string (wtText t)] 27)
  have M5 := hb.trans (N5.mono hb.size)
  have HP := Hid.mk' (rowB HP.out M5)
  have HX := Hid.mk' (rowB HX.out M5)
  have HQ := Hid.mk' (rowB HQ.out M5)
  have HA := Hid.mk' (HA.out.below M5)
  have O2 := Hid.mk' (O2.out.below M5)
  have HB := Hid.mk' (HB.out.trans (M5.mono HB.out.size))
  have HY := Hid.mk' (rowR w5a 27 (.int .i64 (wtCode t)) (.string (wtText t)))
  clear hb N5 M5 c0 c1 c2 c3 c4 c5 d0 d1 d2 d3 d4 d5
  generalize hW5 : w5a.alloc (.cells #[.int .i64 (wtCode t), .string (wtText t)] 27) = W5 at *
  obtain ⟨q0, q1, q2, q3, q4⟩ := cellsR HQ.out
  obtain ⟨y0, y1, y2, y3, y4⟩ := cellsR HY.out
  go_wp2_with fail
  clear hW5
  refine (eqTR_any _ _ _).mono ?_
  rintro e w5 ⟨rfl, hb⟩
  have HP := Hid.mk' (rowB HP.out hb)
  have HX := Hid.mk' (rowB HX.out hb)
  have HA := Hid.mk' (HA.out.below hb)
  have O2 := Hid.mk' (O2.out.below hb)
  have HB := Hid.mk' (HB.out.trans (hb.mono HB.out.size))
  clear hb q0 q1 q2 q3 q4 y0 y1 y2 y3 y4 HQ HY
  obtain ⟨c0, c1, c2, c3, c4, c5⟩ := cells5 HP.out
  obtain ⟨d0, d1, d2, d3, d4, d5⟩ := cells5 HX.out
  go_wp2_with fail
  refine wp_region_held_drew (S := (fun w' => w'.cell? ⟨w4.heap.size, 0, none⟩ = some (.int .i64 t.kd) ∧ w'.cell? ⟨w4.heap.size, 1, none⟩ = some (.int .i64 t.by_) ∧ w'.cell? ⟨w4.heap.size, 2, none⟩ = some (.string t.nm) ∧ w'.cell? ⟨w4.heap.size, 3, none⟩ = some (.slice (some ⟨g2, 0, none⟩) t.at_.length t.at_.length) ∧ w'.cell? ⟨w4.heap.size, 4, none⟩ = some (.bool t.sh) ∧ w'.cell? ⟨w.heap.size, 0, none⟩ = some (.int .i64 t.kd) ∧ w'.cell? ⟨w.heap.size, 1, none⟩ = some (.int .i64 t.by_) ∧ w'.cell? ⟨w.heap.size, 2, none⟩ = some (.string t.nm) ∧ w'.cell? ⟨w.heap.size, 3, none⟩ = some (.slice a t.at_.length c) ∧ w'.cell? ⟨w.heap.size, 4, none⟩ = some (.bool t.sh))) (by kernel_rfl) (by simp [*]) (fun hHeld => ?_)
  refine wpAnyH_take (i := 0) (oi := ⟨_, _, _, _, _, _⟩) (v := ?_) rfl (by kernel_rfl) (by kernel_rfl) (by kernel_rfl) (fun _ _ _ h => h) (Or.inl ⟨by rfl, ?_⟩) (by assumption) ?_
  rotate_left
  · (intro w hSw; (try dsimp only at hSw); go_simp; (try with_reducible rfl))
  try simp only [Act.put, List.setIfInBounds_toArray, List.set_cons_zero, List.set_cons_succ]
  refine wpAnyH_take (i := 1) (oi := ⟨_, _, _, _, _, _⟩) (v := ?_) rfl (by kernel_rfl) (by kernel_rfl) (by kernel_rfl) (fun _ _ _ h => h) (Or.inl ⟨by rfl, ?_⟩) (by assumption) ?_
  rotate_left
  · (intro w hSw; (try dsimp only at hSw); go_simp; (try with_reducible rfl))
  try simp only [Act.put, List.setIfInBounds_toArray, List.set_cons_zero, List.set_cons_succ]
  refine wpAnyH_ready (rs := [2]) (by kernel_rfl) (by simp) ?_
  refine AllReadyH.cons (o := ⟨_, _, _, _, _, _⟩) rfl (fun K hK => ?_) AllReadyH.nil
  go_simp
  go_at_call 6; refine (toToken_any t a c w5.drew (HA.out.below (Below.refl _ _).drew) (by omega)).mono ?_; rintro e w6 ⟨g3, rfl, _, ho3, hb⟩; have O3 := Hid.mk' ho3; replace hb := undrew hb; obtain ⟨hx, hy⟩ := bcell hb; have O2 := Hid.mk' (O2.out.below hb); have HB := Hid.mk' (HB.out.trans (hb.mono HB.out.size)); have d5 := Nat.lt_of_lt_of_le d5 hb.size; have c5 := Nat.lt_of_lt_of_le c5 hb.size; clear hb ho3
  refine hK.out _ _ (by (try dsimp only); simp [*]) (fun hHeld => ?_)
  clear hK K
  try clear hx hy
  try simp only [Act.put, List.setIfInBounds_toArray, List.set_cons_zero, List.set_cons_succ]
  refine wpAnyH_ready (rs := [3]) (by kernel_rfl) (by simp) ?_
  refine AllReadyH.cons (o := ⟨_, _, _, _, _, _⟩) rfl (fun K hK => ?_) AllReadyH.nil
  go_simp
  go_at_call 9; refine (eqToken_any t (some ⟨g2, 0, none⟩) (some ⟨g3, 0, none⟩) t.at_.length t.at_.length w6 O2.out.at O3.out.at (by omega)).mono ?_; rintro e w7 ⟨rfl, hb⟩; obtain ⟨hx, hy⟩ := bcell hb; have HB := Hid.mk' (HB.out.trans (hb.mono HB.out.size)); clear hb
  refine hK.out _ _ (by (try dsimp only); simp [*]) (fun hHeld => ?_)
  clear hK K
  try clear hx hy
  try simp only [Act.put, List.setIfInBounds_toArray, List.set_cons_zero, List.set_cons_succ]
  refine wpAnyH_take (i := 4) (oi := ⟨_, _, _, _, _, _⟩) (v := ?_) rfl (by kernel_rfl) (by kernel_rfl) (by kernel_rfl) (fun _ _ _ h => h) (Or.inl ⟨by rfl, ?_⟩) (by assumption) ?_
  rotate_left
  · (intro w hSw; (try dsimp only at hSw); go_simp; (try with_reducible rfl))
  try simp only [Act.put, List.setIfInBounds_toArray, List.set_cons_zero, List.set_cons_succ]
  refine wpAnyH_done (by kernel_rfl) ?_ _
  go_wp2
  go_ret
  exact ⟨rfl, HB.out⟩

end Go.Proofs.YtneeenabcdbehaaDoor
