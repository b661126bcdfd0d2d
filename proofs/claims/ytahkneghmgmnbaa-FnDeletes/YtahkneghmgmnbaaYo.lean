/- The walk of the law on deletes. -/
import Derived.Test.YtahkneghmgmnbaaYn
import Derived.Test.YtahkneghmgmnbaaYh
namespace Go.Proofs.Ytahkneghmgmnbaa
open Go.RowKit
set_option linter.unusedVariables false
set_option linter.unusedSimpArgs false

set_option maxRecDepth 100000 in
set_option maxHeartbeats 40000000 in
theorem lawDeletes_any (a : Option Addr) (c : Nat) (l : List Int) (w : World) (ha : BAt w a l) (hu : ∀ i, i < l.length → 0 ≤ l.getD i 0 ∧ l.getD i 0 ≤ 255) (hm : (l.length : Int) ≤ 9223372036854775807) :
    Calls Try.prog 4 #[.slice a l.length c] w fun e w' => e = .returned (.bool true) ∧ Below w.heap.size w w' := by
  have HA := Hid.mk' ha
  have HU := Hid.mk' hu
  have K0 := lwBig_any a c l.length w
  clear ha hu
  by_cases hl : (l.length : Int) ≤ 1048576
  rotate_left
  · rw [decide_eq_true (by omega)] at K0
    have KK := Hid.mk' K0
    clear K0
    go_enter Try.func4, Try.ntmps4
    go_wp2_with fail
    refine KK.out.mono ?_
    rintro e w1 ⟨rfl, rfl⟩
    go_wp2
    go_ret
    exact ⟨rfl, Below.refl _ _⟩
  rw [decide_eq_false (by omega)] at K0
  have KK := Hid.mk' K0
  clear K0
  go_enter Try.func4, Try.ntmps4
  go_wp2_with fail
  refine KK.out.mono ?_
  rintro e w0 ⟨rfl, rfl⟩
  clear KK
  go_wp2_with fail
  refine (drawDeleteText_any a c l _ HA.out HU.out hl).mono ?_
  rintro e w1 ⟨s1, s2, s3, t, x, n, rfl, hB, hT, x0, x1, n0, n1, hb1⟩
  obtain ⟨a1, a2, a3, c1, c2, c3, e0, k1, k2, k3, k4, k5⟩ := hT
  cases e0
  have BT := Hid.mk' hB
  have T1 : Hid (TAtC w1 (.agg #[.slice a1 t.base.length c1, .slice a2 t.more.length c2, .slice a3 t.pcs.length c3]) t) := ⟨a1, a2, a3, c1, c2, c3, rfl, k1, k2, k3, k4, k5⟩
  have BW1 := Hid.mk' hb1
  have gl : (t.base.length : Int) + t.more.length + t.pcs.length ≤ 1048576 := by have := hB.lb; have := hB.lm; have := hB.lp; omega
  have N1 := below_new w1 (.cells #[.slice a1 t.base.length c1, .slice a2 t.more.length c2, .slice a3 t.pcs.length c3] 26)
  have TB1 := Hid.mk' (row3 w1 26 (.slice a1 t.base.length c1) (.slice a2 t.more.length c2) (.slice a3 t.pcs.length c3))
  clear hB hb1 k1 k2 k3 k4 k5
  go_wp2_with fail
  refine (implDel_any _ t x n _ (T1.out.below N1) BT.out.wf (by omega) (by omega) (by omega) (by omega) gl).mono ?_
  rintro e w2 ⟨r1, r2, r3_, rfl, hR, hb2⟩
  obtain ⟨ra1, rb1, ra2, rb2, ra3, rb3, rfl, rfl, rfl⟩ := hR.forms
  have N2 := below_new w2 (.cells #[.int .i64 (delCode t x n), .slice ra1 (delT t x n).base.length rb1, .slice ra2 (delT t x n).more.length rb2, .slice ra3 (delT t x n).pcs.length rb3] 30)
  have M2 := N1.trans ((hb2.trans (N2.mono hb2.size)).mono N1.size)
  have TB2 := Hid.mk' (rowB TB1.out (hb2.trans (N2.mono hb2.size)))
  have RB2 := Hid.mk' (row4 w2 30 (.int .i64 (delCode t x n)) (.slice ra1 (delT t x n).base.length rb1) (.slice ra2 (delT t x n).more.length rb2) (.slice ra3 (delT t x n).pcs.length rb3))
  have RR2 := Hid.mk' (hR.atC.below N2)
  have T2 := Hid.mk' (T1.out.below M2)
  have BW2 := Hid.mk' (BW1.out.trans (M2.mono BW1.out.size))
  clear N1 N2 M2 hR hb2 TB1 T1 BW1
  generalize hW2 : w2.alloc (.cells #[.int .i64 (delCode t x n), .slice ra1 (delT t x n).base.length rb1, .slice ra2 (delT t x n).more.length rb2, .slice ra3 (delT t x n).pcs.length rb3] 30) = W2 at *
  go_wp2_with fail
  clear hW2
  refine (drawCompactTable_any a c l _ (HA.out.below BW2.out) HU.out hl).mono ?_
  rintro e w3 ⟨y1, y2, y3, X, rfl, hBX, hTX, hb3⟩
  obtain ⟨xa1, xa2, xa3, xb1, xb2, xb3, e0, k1, k2, k3, k4, k5⟩ := hTX
  cases e0
  have BX := Hid.mk' hBX
  have gx : (X.base.length : Int) + X.more.length + X.pcs.length ≤ 1048576 := by have := hBX.lb; have := hBX.lm; have := hBX.lp; omega
  have X3 : Hid (TAtC w3 (.agg #[.slice xa1 X.base.length xb1, .slice xa2 X.more.length xb2, .slice xa3 X.pcs.length xb3]) X) := ⟨xa1, xa2, xa3, xb1, xb2, xb3, rfl, k1, k2, k3, k4, k5⟩
  have N3 := below_new w3 (.cells #[.slice xa1 X.base.length xb1, .slice xa2 X.more.length xb2, .slice xa3 X.pcs.length xb3] 26)
  have M3 := hb3.trans (N3.mono hb3.size)
  have TB3 := Hid.mk' (rowB TB2.out M3)
  have RB3 := Hid.mk' (rowB RB2.out M3)
  have XB3 := Hid.mk' (row3 w3 26 (.slice xa1 X.base.length xb1) (.slice xa2 X.more.length xb2) (.slice xa3 X.pcs.length xb3))
  have RR3 := Hid.mk' (RR2.out.below M3)
  have T3 := Hid.mk' (T2.out.below M3)
  have X3 := Hid.mk' (X3.out.below N3)
  have BW3 := Hid.mk' (BW2.out.trans (M3.mono BW2.out.size))
  clear N3 M3 hBX hb3 k1 k2 k3 k4 k5 TB2 RB2 RR2 T2 BW2
  generalize hW3 : w3.alloc (.cells #[.slice xa1 X.base.length xb1, .slice xa2 X.more.length xb2, .slice xa3 X.pcs.length xb3] 26) = W3 at *
  obtain ⟨q0, q1, q2, q3⟩ := cells3 XB3.out
  go_wp2_with fail
  clear hW3 q0 q1 q2 q3
  refine (implComp_any _ X _ X3.out BX.out.wf gx).mono ?_
  rintro e w4 ⟨s1, s2, s3, rfl, hC, hb4⟩
  obtain ⟨ca1, cb1, ca2, cb2, ca3, cb3, rfl, rfl, rfl⟩ := hC.forms
  have N4 := below_new w4 (.cells #[.int .i64 (fault X), .slice ca1 (compT X).base.length cb1, .slice ca2 (compT X).more.length cb2, .slice ca3 (compT X).pcs.length cb3] 30)
  have M4 := hb4.trans (N4.mono hb4.size)
  have L : Hid (LD w0 w1.heap.size w2.heap.size w3.heap.size w4.heap.size (.slice a1 t.base.length c1, .slice a2 t.more.length c2, .slice a3 t.pcs.length c3) t (delCode t x n) (.slice ra1 (delT t x n).base.length rb1, .slice ra2 (delT t x n).more.length rb2, .slice ra3 (delT t x n).pcs.length rb3) (delT t x n) (.slice xa1 X.base.length xb1, .slice xa2 X.more.length xb2, .slice xa3 X.pcs.length xb3) X (fault X) (.slice ca1 (compT X).base.length cb1, .slice ca2 (compT X).more.length cb2, .slice ca3 (compT X).pcs.length cb3) (compT X) (w4.alloc (.cells #[.int .i64 (fault X), .slice ca1 (compT X).base.length cb1, .slice ca2 (compT X).more.length cb2, .slice ca3 (compT X).pcs.length cb3] 30))) :=
    ⟨BW3.out.trans (M4.mono BW3.out.size), rowB TB3.out M4, rowB RB3.out M4, rowB XB3.out M4, row4 w4 30 (.int .i64 (fault X)) (.slice ca1 (compT X).base.length cb1) (.slice ca2 (compT X).more.length cb2) (.slice ca3 (compT X).pcs.length cb3), T3.out.below M4, RR3.out.below M4, X3.out.below M4, hC.atC.below N4⟩
  clear N4 M4 hC hb4 TB3 RB3 XB3 RR3 T3 X3 BW3
  generalize hW4 : w4.alloc (.cells #[.int .i64 (fault X), .slice ca1 (compT X).base.length cb1, .slice ca2 (compT X).more.length cb2, .slice ca3 (compT X).pcs.length cb3] 30) = W4 at *
  go_wp2_with fail
  clear hW4
  have KC : Hid (∀ W : World, TAtC W (.agg #[.slice xa1 X.base.length xb1, .slice xa2 X.more.length xb2, .slice xa3 X.pcs.length xb3]) X → Calls Try.prog 22 #[.agg #[.slice xa1 X.base.length xb1, .slice xa2 X.more.length xb2, .slice xa3 X.pcs.length xb3]] W fun e w' => ∃ s1 s2 s3, e = .returned (.agg #[.int .i64 (fault X), s1, s2, s3]) ∧ OT W.heap.size w'.heap.size w' s1 s2 s3 (compT X) ∧ Below W.heap.size W w') := fun W h => specComp_any _ X W h gx
  have f1 := fTR0
  have f2 := fBR1
  obtain ⟨q0, q1, q2, g3⟩ := cells3 L.out.wx
  obtain ⟨z0, z1, z2, z3, g4⟩ := cells4 L.out.wc
  dsimp only at q0 q1 q2 z0 z1 z2 z3
  by_cases fX : fault X = 0
  case' neg =>
    have fXb : (fault X == 0) = false := by simp [fX]
    refine wp_region_held_drew (S := (fun w' => w'.cell? ⟨w4.heap.size, 0, none⟩ = some (.int .i64 (fault X)) ∧ w'.cell? ⟨w4.heap.size, 1, none⟩ = some (.slice ca1 (compT X).base.length cb1) ∧ w'.cell? ⟨w4.heap.size, 2, none⟩ = some (.slice ca2 (compT X).more.length cb2) ∧ w'.cell? ⟨w4.heap.size, 3, none⟩ = some (.slice ca3 (compT X).pcs.length cb3) ∧ w'.cell? ⟨w3.heap.size, 0, none⟩ = some (.slice xa1 X.base.length xb1) ∧ w'.cell? ⟨w3.heap.size, 1, none⟩ = some (.slice xa2 X.more.length xb2) ∧ w'.cell? ⟨w3.heap.size, 2, none⟩ = some (.slice xa3 X.pcs.length xb3))) (by kernel_rfl) (by simp [*]) (fun hHeld => ?_)
    refine wpAnyH_take (i := 0) (oi := ⟨_, _, _, _, _, _⟩) (v := ?_) rfl (by kernel_rfl) (by kernel_rfl) (by kernel_rfl) (fun _ _ _ h => h) (Or.inl ⟨by rfl, ?_⟩) (by assumption) ?_
    rotate_left
    · (intro w hSw; (try dsimp only at hSw); go_simp; (try with_reducible rfl))
    try simp only [Act.put, List.setIfInBounds_toArray, List.set_cons_zero, List.set_cons_succ]
    refine wpAnyH_take (i := 1) (oi := ⟨_, _, _, _, _, _⟩) (v := ?_) rfl (by kernel_rfl) (by kernel_rfl) (by kernel_rfl) (fun _ _ _ h => h) (Or.inl ⟨by rfl, ?_⟩) (by assumption) ?_
    rotate_left
    · (intro w hSw; (try dsimp only at hSw); go_simp; (try with_reducible rfl))
    try simp only [Act.put, List.setIfInBounds_toArray, List.set_cons_zero, List.set_cons_succ]
    refine wpAnyH_take (i := 2) (oi := ⟨_, _, _, _, _, _⟩) (v := ?_) rfl (by kernel_rfl) (by kernel_rfl) (by kernel_rfl) (fun _ _ _ h => h) (Or.inl ⟨by rfl, ?_⟩) (by assumption) ?_
    rotate_left
    · (intro w hSw; (try dsimp only at hSw); go_simp; (try with_reducible rfl))
    try simp only [Act.put, List.setIfInBounds_toArray, List.set_cons_zero, List.set_cons_succ]
    refine wpAnyH_ready (rs := [3]) (by kernel_rfl) (by simp) ?_
    refine AllReadyH.cons (o := ⟨_, _, _, _, _, _⟩) rfl (fun K hK => ?_) AllReadyH.nil
    go_simp
    go_at_call 22; refine (KC.out _ (L.out.below (Below.refl _ _).drew).xx).mono ?_; rintro e u ⟨s1, s2, s3, rfl, _, hb⟩; replace hb := undrew hb; obtain ⟨hx, hy⟩ := bcell hb; have L := Hid.mk' (L.out.below hb); have g3 := L.out.wx.lt; have g4 := L.out.wc.lt; clear hb
    refine hK.out _ _ (by (try dsimp only); simp [*]) (fun hHeld => ?_)
    clear hK K
    try clear hx hy
    try simp only [Act.put, List.setIfInBounds_toArray, List.set_cons_zero, List.set_cons_succ]
    refine wpAnyH_take (i := 4) (oi := ⟨_, _, _, _, _, _⟩) (v := ?_) rfl (by kernel_rfl) (by kernel_rfl) (by kernel_rfl) (fun _ _ _ h => h) (Or.inl ⟨by rfl, ?_⟩) (by assumption) ?_
    rotate_left
    · (intro w hSw; (try dsimp only at hSw); go_simp; (try with_reducible rfl))
    try simp only [Act.put, List.setIfInBounds_toArray, List.set_cons_zero, List.set_cons_succ]
    refine wpAnyH_take (i := 5) (oi := ⟨_, _, _, _, _, _⟩) (v := ?_) rfl (by kernel_rfl) (by kernel_rfl) (by kernel_rfl) (fun _ _ _ h => h) (Or.inl ⟨by rfl, ?_⟩) (by assumption) ?_
    rotate_left
    · (intro w hSw; (try dsimp only at hSw); go_simp; (try with_reducible rfl))
    try simp only [Act.put, List.setIfInBounds_toArray, List.set_cons_zero, List.set_cons_succ]
    refine wpAnyH_take (i := 6) (oi := ⟨_, _, _, _, _, _⟩) (v := ?_) rfl (by kernel_rfl) (by kernel_rfl) (by kernel_rfl) (fun _ _ _ h => h) (Or.inl ⟨by rfl, ?_⟩) (by assumption) ?_
    rotate_left
    · (intro w hSw; (try dsimp only at hSw); go_simp; (try with_reducible rfl))
    try simp only [Act.put, List.setIfInBounds_toArray, List.set_cons_zero, List.set_cons_succ]
    refine wpAnyH_take (i := 7) (oi := ⟨_, _, _, _, _, _⟩) (v := ?_) rfl (by kernel_rfl) (by kernel_rfl) (by kernel_rfl) (fun _ _ _ h => h) (Or.inl ⟨by rfl, ?_⟩) (by assumption) ?_
    rotate_left
    · (intro w hSw; (try dsimp only at hSw); go_simp; (try with_reducible rfl))
    try simp only [Act.put, List.setIfInBounds_toArray, List.set_cons_zero, List.set_cons_succ]
    refine wpAnyH_take (i := 8) (oi := ⟨_, _, _, _, _, _⟩) (v := ?_) rfl (by kernel_rfl) (by kernel_rfl) (by kernel_rfl) (fun _ _ _ h => h) (Or.inl ⟨by rfl, ?_⟩) (by assumption) ?_
    rotate_left
    · (intro w hSw; (try dsimp only at hSw); go_simp; (try with_reducible rfl))
    try simp only [Act.put, List.setIfInBounds_toArray, List.set_cons_zero, List.set_cons_succ]
    refine wpAnyH_take (i := 9) (oi := ⟨_, _, _, _, _, _⟩) (v := ?_) rfl (by kernel_rfl) (by kernel_rfl) (by kernel_rfl) (fun _ _ _ h => h) (Or.inl ⟨by rfl, ?_⟩) (by assumption) ?_
    rotate_left
    · (intro w hSw; (try dsimp only at hSw); go_simp; (try with_reducible rfl))
    try simp only [Act.put, List.setIfInBounds_toArray, List.set_cons_zero, List.set_cons_succ]
    refine wpAnyH_take (i := 10) (oi := ⟨_, _, _, _, _, _⟩) (v := ?_) rfl (by kernel_rfl) (by kernel_rfl) (by kernel_rfl) (fun _ _ _ h => h) (Or.inl ⟨by rfl, ?_⟩) (by assumption) ?_
    rotate_left
    · (intro w hSw; (try dsimp only at hSw); go_simp; (try with_reducible rfl))
    try simp only [Act.put, List.setIfInBounds_toArray, List.set_cons_zero, List.set_cons_succ]
    refine wpAnyH_take (i := 11) (oi := ⟨_, _, _, _, _, _⟩) (v := undef) rfl (by kernel_rfl) (by kernel_rfl) (by kernel_rfl) (fun _ _ _ h => h) (Or.inr ⟨by rfl, rfl⟩) (by assumption) ?_
    try simp only [Act.put, List.setIfInBounds_toArray, List.set_cons_zero, List.set_cons_succ]
    refine wpAnyH_take (i := 12) (oi := ⟨_, _, _, _, _, _⟩) (v := undef) rfl (by kernel_rfl) (by kernel_rfl) (by kernel_rfl) (fun _ _ _ h => h) (Or.inr ⟨by rfl, rfl⟩) (by assumption) ?_
    try simp only [Act.put, List.setIfInBounds_toArray, List.set_cons_zero, List.set_cons_succ]
    refine wpAnyH_take (i := 13) (oi := ⟨_, _, _, _, _, _⟩) (v := undef) rfl (by kernel_rfl) (by kernel_rfl) (by kernel_rfl) (fun _ _ _ h => h) (Or.inr ⟨by rfl, rfl⟩) (by assumption) ?_
    try simp only [Act.put, List.setIfInBounds_toArray, List.set_cons_zero, List.set_cons_succ]
    refine wpAnyH_take (i := 14) (oi := ⟨_, _, _, _, _, _⟩) (v := undef) rfl (by kernel_rfl) (by kernel_rfl) (by kernel_rfl) (fun _ _ _ h => h) (Or.inr ⟨by rfl, rfl⟩) (by assumption) ?_
    try simp only [Act.put, List.setIfInBounds_toArray, List.set_cons_zero, List.set_cons_succ]
    refine wpAnyH_take (i := 15) (oi := ⟨_, _, _, _, _, _⟩) (v := undef) rfl (by kernel_rfl) (by kernel_rfl) (by kernel_rfl) (fun _ _ _ h => h) (Or.inr ⟨by rfl, rfl⟩) (by assumption) ?_
    try simp only [Act.put, List.setIfInBounds_toArray, List.set_cons_zero, List.set_cons_succ]
    refine wpAnyH_take (i := 16) (oi := ⟨_, _, _, _, _, _⟩) (v := undef) rfl (by kernel_rfl) (by kernel_rfl) (by kernel_rfl) (fun _ _ _ h => h) (Or.inr ⟨by rfl, rfl⟩) (by assumption) ?_
    try simp only [Act.put, List.setIfInBounds_toArray, List.set_cons_zero, List.set_cons_succ]
    refine wpAnyH_take (i := 17) (oi := ⟨_, _, _, _, _, _⟩) (v := undef) rfl (by kernel_rfl) (by kernel_rfl) (by kernel_rfl) (fun _ _ _ h => h) (Or.inr ⟨by rfl, rfl⟩) (by assumption) ?_
    try simp only [Act.put, List.setIfInBounds_toArray, List.set_cons_zero, List.set_cons_succ]
    refine wpAnyH_take (i := 18) (oi := ⟨_, _, _, _, _, _⟩) (v := undef) rfl (by kernel_rfl) (by kernel_rfl) (by kernel_rfl) (fun _ _ _ h => h) (Or.inr ⟨by rfl, rfl⟩) (by assumption) ?_
    try simp only [Act.put, List.setIfInBounds_toArray, List.set_cons_zero, List.set_cons_succ]
    refine wpAnyH_take (i := 19) (oi := ⟨_, _, _, _, _, _⟩) (v := undef) rfl (by kernel_rfl) (by kernel_rfl) (by kernel_rfl) (fun _ _ _ h => h) (Or.inr ⟨by rfl, rfl⟩) (by assumption) ?_
    try simp only [Act.put, List.setIfInBounds_toArray, List.set_cons_zero, List.set_cons_succ]
    refine wpAnyH_take (i := 20) (oi := ⟨_, _, _, _, _, _⟩) (v := undef) rfl (by kernel_rfl) (by kernel_rfl) (by kernel_rfl) (fun _ _ _ h => h) (Or.inr ⟨by rfl, rfl⟩) (by assumption) ?_
    try simp only [Act.put, List.setIfInBounds_toArray, List.set_cons_zero, List.set_cons_succ]
    refine wpAnyH_take (i := 21) (oi := ⟨_, _, _, _, _, _⟩) (v := undef) rfl (by kernel_rfl) (by kernel_rfl) (by kernel_rfl) (fun _ _ _ h => h) (Or.inr ⟨by rfl, rfl⟩) (by assumption) ?_
    try simp only [Act.put, List.setIfInBounds_toArray, List.set_cons_zero, List.set_cons_succ]
    refine wpAnyH_take (i := 22) (oi := ⟨_, _, _, _, _, _⟩) (v := undef) rfl (by kernel_rfl) (by kernel_rfl) (by kernel_rfl) (fun _ _ _ h => h) (Or.inr ⟨by rfl, rfl⟩) (by assumption) ?_
    try simp only [Act.put, List.setIfInBounds_toArray, List.set_cons_zero, List.set_cons_succ]
    refine wpAnyH_take (i := 23) (oi := ⟨_, _, _, _, _, _⟩) (v := undef) rfl (by kernel_rfl) (by kernel_rfl) (by kernel_rfl) (fun _ _ _ h => h) (Or.inr ⟨by rfl, rfl⟩) (by assumption) ?_
    try simp only [Act.put, List.setIfInBounds_toArray, List.set_cons_zero, List.set_cons_succ]
    refine wpAnyH_take (i := 24) (oi := ⟨_, _, _, _, _, _⟩) (v := undef) rfl (by kernel_rfl) (by kernel_rfl) (by kernel_rfl) (fun _ _ _ h => h) (Or.inr ⟨by rfl, rfl⟩) (by assumption) ?_
    try simp only [Act.put, List.setIfInBounds_toArray, List.set_cons_zero, List.set_cons_succ]
    refine wpAnyH_take (i := 25) (oi := ⟨_, _, _, _, _, _⟩) (v := undef) rfl (by kernel_rfl) (by kernel_rfl) (by kernel_rfl) (fun _ _ _ h => h) (Or.inr ⟨by rfl, rfl⟩) (by assumption) ?_
    try simp only [Act.put, List.setIfInBounds_toArray, List.set_cons_zero, List.set_cons_succ]
    refine wpAnyH_take (i := 26) (oi := ⟨_, _, _, _, _, _⟩) (v := undef) rfl (by kernel_rfl) (by kernel_rfl) (by kernel_rfl) (fun _ _ _ h => h) (Or.inr ⟨by rfl, rfl⟩) (by assumption) ?_
    try simp only [Act.put, List.setIfInBounds_toArray, List.set_cons_zero, List.set_cons_succ]
    refine wpAnyH_take (i := 27) (oi := ⟨_, _, _, _, _, _⟩) (v := undef) rfl (by kernel_rfl) (by kernel_rfl) (by kernel_rfl) (fun _ _ _ h => h) (Or.inr ⟨by rfl, rfl⟩) (by assumption) ?_
    try simp only [Act.put, List.setIfInBounds_toArray, List.set_cons_zero, List.set_cons_succ]
    refine wpAnyH_take (i := 28) (oi := ⟨_, _, _, _, _, _⟩) (v := undef) rfl (by kernel_rfl) (by kernel_rfl) (by kernel_rfl) (fun _ _ _ h => h) (Or.inr ⟨by rfl, rfl⟩) (by assumption) ?_
    try simp only [Act.put, List.setIfInBounds_toArray, List.set_cons_zero, List.set_cons_succ]
    refine wpAnyH_take (i := 29) (oi := ⟨_, _, _, _, _, _⟩) (v := undef) rfl (by kernel_rfl) (by kernel_rfl) (by kernel_rfl) (fun _ _ _ h => h) (Or.inr ⟨by rfl, rfl⟩) (by assumption) ?_
    try simp only [Act.put, List.setIfInBounds_toArray, List.set_cons_zero, List.set_cons_succ]
    refine wpAnyH_take (i := 30) (oi := ⟨_, _, _, _, _, _⟩) (v := undef) rfl (by kernel_rfl) (by kernel_rfl) (by kernel_rfl) (fun _ _ _ h => h) (Or.inr ⟨by rfl, rfl⟩) (by assumption) ?_
    try simp only [Act.put, List.setIfInBounds_toArray, List.set_cons_zero, List.set_cons_succ]
    refine wpAnyH_take (i := 31) (oi := ⟨_, _, _, _, _, _⟩) (v := undef) rfl (by kernel_rfl) (by kernel_rfl) (by kernel_rfl) (fun _ _ _ h => h) (Or.inr ⟨by rfl, rfl⟩) (by assumption) ?_
    try simp only [Act.put, List.setIfInBounds_toArray, List.set_cons_zero, List.set_cons_succ]
    refine wpAnyH_take (i := 32) (oi := ⟨_, _, _, _, _, _⟩) (v := undef) rfl (by kernel_rfl) (by kernel_rfl) (by kernel_rfl) (fun _ _ _ h => h) (Or.inr ⟨by rfl, rfl⟩) (by assumption) ?_
    try simp only [Act.put, List.setIfInBounds_toArray, List.set_cons_zero, List.set_cons_succ]
    refine wpAnyH_take (i := 33) (oi := ⟨_, _, _, _, _, _⟩) (v := ?_) rfl (by kernel_rfl) (by kernel_rfl) (by kernel_rfl) (fun _ _ _ h => h) (Or.inl ⟨by rfl, ?_⟩) (by assumption) ?_
    rotate_left
    · (intro w hSw; (try dsimp only at hSw); go_simp; (try with_reducible rfl))
    try simp only [Act.put, List.setIfInBounds_toArray, List.set_cons_zero, List.set_cons_succ]
    refine wpAnyH_take (i := 34) (oi := ⟨_, _, _, _, _, _⟩) (v := ?_) rfl (by kernel_rfl) (by kernel_rfl) (by kernel_rfl) (fun _ _ _ h => h) (Or.inl ⟨by rfl, ?_⟩) (by assumption) ?_
    rotate_left
    · (intro w hSw; (try dsimp only at hSw); go_simp; (try with_reducible rfl))
    try simp only [Act.put, List.setIfInBounds_toArray, List.set_cons_zero, List.set_cons_succ]
    refine wpAnyH_done (by kernel_rfl) ?_ _
    clear KC fXb
  case' pos =>
    obtain ⟨cf, ct, cx, cp⟩ := comp_good BX.out.ub BX.out.um fX
    have XU := Hid.mk' (u8_text BX.out.ub BX.out.um)
    have wx := wft_of_fault cf
    have lx := (compT_len X).1
    have hp1 : ¬ ((compT X).pcs.length : Int) > 1 := by omega
    have KX : Hid (∀ W : World, TAtC W (.agg #[.slice ca1 (compT X).base.length cb1, .slice ca2 (compT X).more.length cb2, .slice ca3 (compT X).pcs.length cb3]) (compT X) → Calls Try.prog 13 #[.agg #[.slice ca1 (compT X).base.length cb1, .slice ca2 (compT X).more.length cb2, .slice ca3 (compT X).pcs.length cb3]] W fun e w' => e = .returned (.int .i64 0) ∧ Below W.heap.size W w') := fun W h => by
      have k := tableFault_any _ _ W h.at wx lx
      rw [cf] at k
      exact k
    have KT : Hid (∀ W : World, TAtC W (.agg #[.slice ca1 (compT X).base.length cb1, .slice ca2 (compT X).more.length cb2, .slice ca3 (compT X).pcs.length cb3]) (compT X) → Calls Try.prog 9 #[.agg #[.slice ca1 (compT X).base.length cb1, .slice ca2 (compT X).more.length cb2, .slice ca3 (compT X).pcs.length cb3]] W fun e w' => ∃ s, e = .returned (.agg #[.int .i64 0, s]) ∧ OB w' s (text X) ∧ In W.heap.size w'.heap.size s ∧ Below W.heap.size W w') := fun W h => by
      have k := implText_any _ _ W h wx lx
      rw [cf, ct] at k
      exact k
    have KY : Hid (∀ W : World, TAtC W (.agg #[.slice xa1 X.base.length xb1, .slice xa2 X.more.length xb2, .slice xa3 X.pcs.length xb3]) X → Calls Try.prog 9 #[.agg #[.slice xa1 X.base.length xb1, .slice xa2 X.more.length xb2, .slice xa3 X.pcs.length xb3]] W fun e w' => ∃ s, e = .returned (.agg #[.int .i64 0, s]) ∧ OB w' s (text X) ∧ In W.heap.size w'.heap.size s ∧ Below W.heap.size W w') := fun W h => by
      have k := implText_any _ _ W h BX.out.wf gx
      rw [fX, cx] at k
      exact k
    rw [fX] at z0 KC
    clear cf ct cx cp wx lx
    refine wp_region_held_drew (S := (fun w' => w'.cell? ⟨w4.heap.size, 0, none⟩ = some (.int .i64 0) ∧ w'.cell? ⟨w4.heap.size, 1, none⟩ = some (.slice ca1 (compT X).base.length cb1) ∧ w'.cell? ⟨w4.heap.size, 2, none⟩ = some (.slice ca2 (compT X).more.length cb2) ∧ w'.cell? ⟨w4.heap.size, 3, none⟩ = some (.slice ca3 (compT X).pcs.length cb3) ∧ w'.cell? ⟨w3.heap.size, 0, none⟩ = some (.slice xa1 X.base.length xb1) ∧ w'.cell? ⟨w3.heap.size, 1, none⟩ = some (.slice xa2 X.more.length xb2) ∧ w'.cell? ⟨w3.heap.size, 2, none⟩ = some (.slice xa3 X.pcs.length xb3))) (by kernel_rfl) (by simp [*]) (fun hHeld => ?_)
    refine wpAnyH_take (i := 0) (oi := ⟨_, _, _, _, _, _⟩) (v := ?_) rfl (by kernel_rfl) (by kernel_rfl) (by kernel_rfl) (fun _ _ _ h => h) (Or.inl ⟨by rfl, ?_⟩) (by assumption) ?_
    rotate_left
    · (intro w hSw; (try dsimp only at hSw); go_simp; (try with_reducible rfl))
    try simp only [Act.put, List.setIfInBounds_toArray, List.set_cons_zero, List.set_cons_succ]
    refine wpAnyH_take (i := 1) (oi := ⟨_, _, _, _, _, _⟩) (v := ?_) rfl (by kernel_rfl) (by kernel_rfl) (by kernel_rfl) (fun _ _ _ h => h) (Or.inl ⟨by rfl, ?_⟩) (by assumption) ?_
    rotate_left
    · (intro w hSw; (try dsimp only at hSw); go_simp; (try with_reducible rfl))
    try simp only [Act.put, List.setIfInBounds_toArray, List.set_cons_zero, List.set_cons_succ]
    refine wpAnyH_take (i := 2) (oi := ⟨_, _, _, _, _, _⟩) (v := ?_) rfl (by kernel_rfl) (by kernel_rfl) (by kernel_rfl) (fun _ _ _ h => h) (Or.inl ⟨by rfl, ?_⟩) (by assumption) ?_
    rotate_left
    · (intro w hSw; (try dsimp only at hSw); go_simp; (try with_reducible rfl))
    try simp only [Act.put, List.setIfInBounds_toArray, List.set_cons_zero, List.set_cons_succ]
    refine wpAnyH_ready (rs := [3]) (by kernel_rfl) (by simp) ?_
    refine AllReadyH.cons (o := ⟨_, _, _, _, _, _⟩) rfl (fun K hK => ?_) AllReadyH.nil
    go_simp
    go_at_call 22; refine (KC.out _ (L.out.below (Below.refl _ _).drew).xx).mono ?_; rintro e u ⟨s1, s2, s3, rfl, _, hb⟩; replace hb := undrew hb; obtain ⟨hx, hy⟩ := bcell hb; have L := Hid.mk' (L.out.below hb); have g3 := L.out.wx.lt; have g4 := L.out.wc.lt; clear hb
    refine hK.out _ _ (by (try dsimp only); simp [*]) (fun hHeld => ?_)
    clear hK K
    try clear hx hy
    try simp only [Act.put, List.setIfInBounds_toArray, List.set_cons_zero, List.set_cons_succ]
    refine wpAnyH_take (i := 4) (oi := ⟨_, _, _, _, _, _⟩) (v := ?_) rfl (by kernel_rfl) (by kernel_rfl) (by kernel_rfl) (fun _ _ _ h => h) (Or.inl ⟨by rfl, ?_⟩) (by assumption) ?_
    rotate_left
    · (intro w hSw; (try dsimp only at hSw); go_simp; (try with_reducible rfl))
    try simp only [Act.put, List.setIfInBounds_toArray, List.set_cons_zero, List.set_cons_succ]
    refine wpAnyH_take (i := 5) (oi := ⟨_, _, _, _, _, _⟩) (v := ?_) rfl (by kernel_rfl) (by kernel_rfl) (by kernel_rfl) (fun _ _ _ h => h) (Or.inl ⟨by rfl, ?_⟩) (by assumption) ?_
    rotate_left
    · (intro w hSw; (try dsimp only at hSw); go_simp; (try with_reducible rfl))
    try simp only [Act.put, List.setIfInBounds_toArray, List.set_cons_zero, List.set_cons_succ]
    refine wpAnyH_take (i := 6) (oi := ⟨_, _, _, _, _, _⟩) (v := ?_) rfl (by kernel_rfl) (by kernel_rfl) (by kernel_rfl) (fun _ _ _ h => h) (Or.inl ⟨by rfl, ?_⟩) (by assumption) ?_
    rotate_left
    · (intro w hSw; (try dsimp only at hSw); go_simp; (try with_reducible rfl))
    try simp only [Act.put, List.setIfInBounds_toArray, List.set_cons_zero, List.set_cons_succ]
    refine wpAnyH_take (i := 7) (oi := ⟨_, _, _, _, _, _⟩) (v := ?_) rfl (by kernel_rfl) (by kernel_rfl) (by kernel_rfl) (fun _ _ _ h => h) (Or.inl ⟨by rfl, ?_⟩) (by assumption) ?_
    rotate_left
    · (intro w hSw; (try dsimp only at hSw); go_simp; (try with_reducible rfl))
    try simp only [Act.put, List.setIfInBounds_toArray, List.set_cons_zero, List.set_cons_succ]
    refine wpAnyH_take (i := 8) (oi := ⟨_, _, _, _, _, _⟩) (v := ?_) rfl (by kernel_rfl) (by kernel_rfl) (by kernel_rfl) (fun _ _ _ h => h) (Or.inl ⟨by rfl, ?_⟩) (by assumption) ?_
    rotate_left
    · (intro w hSw; (try dsimp only at hSw); go_simp; (try with_reducible rfl))
    try simp only [Act.put, List.setIfInBounds_toArray, List.set_cons_zero, List.set_cons_succ]
    refine wpAnyH_take (i := 9) (oi := ⟨_, _, _, _, _, _⟩) (v := ?_) rfl (by kernel_rfl) (by kernel_rfl) (by kernel_rfl) (fun _ _ _ h => h) (Or.inl ⟨by rfl, ?_⟩) (by assumption) ?_
    rotate_left
    · (intro w hSw; (try dsimp only at hSw); go_simp; (try with_reducible rfl))
    try simp only [Act.put, List.setIfInBounds_toArray, List.set_cons_zero, List.set_cons_succ]
    refine wpAnyH_take (i := 10) (oi := ⟨_, _, _, _, _, _⟩) (v := ?_) rfl (by kernel_rfl) (by kernel_rfl) (by kernel_rfl) (fun _ _ _ h => h) (Or.inl ⟨by rfl, ?_⟩) (by assumption) ?_
    rotate_left
    · (intro w hSw; (try dsimp only at hSw); go_simp; (try with_reducible rfl))
    try simp only [Act.put, List.setIfInBounds_toArray, List.set_cons_zero, List.set_cons_succ]
    refine wpAnyH_take (i := 11) (oi := ⟨_, _, _, _, _, _⟩) (v := ?_) rfl (by kernel_rfl) (by kernel_rfl) (by kernel_rfl) (fun _ _ _ h => h) (Or.inl ⟨by rfl, ?_⟩) (by assumption) ?_
    rotate_left
    · (intro w hSw; (try dsimp only at hSw); go_simp; (try with_reducible rfl))
    try simp only [Act.put, List.setIfInBounds_toArray, List.set_cons_zero, List.set_cons_succ]
    refine wpAnyH_take (i := 12) (oi := ⟨_, _, _, _, _, _⟩) (v := ?_) rfl (by kernel_rfl) (by kernel_rfl) (by kernel_rfl) (fun _ _ _ h => h) (Or.inl ⟨by rfl, ?_⟩) (by assumption) ?_
    rotate_left
    · (intro w hSw; (try dsimp only at hSw); go_simp; (try with_reducible rfl))
    try simp only [Act.put, List.setIfInBounds_toArray, List.set_cons_zero, List.set_cons_succ]
    refine wpAnyH_take (i := 15) (oi := ⟨_, _, _, _, _, _⟩) (v := ?_) rfl (by kernel_rfl) (by kernel_rfl) (by kernel_rfl) (fun _ _ _ h => h) (Or.inl ⟨by rfl, ?_⟩) (by assumption) ?_
    rotate_left
    · (intro w hSw; (try dsimp only at hSw); go_simp; (try with_reducible rfl))
    try simp only [Act.put, List.setIfInBounds_toArray, List.set_cons_zero, List.set_cons_succ]
    refine wpAnyH_ready (rs := [13]) (by kernel_rfl) (by simp) ?_
    refine AllReadyH.cons (o := ⟨_, _, _, _, _, _⟩) rfl (fun K hK => ?_) AllReadyH.nil
    go_simp
    go_at_call 9; refine (KT.out _ L.out.cc_).mono ?_; rintro e u ⟨s, rfl, ob, _, hb⟩; obtain ⟨pa, qa, rfl, ba⟩ := ob.len; have BA := Hid.mk' ba; obtain ⟨hx, hy⟩ := bcell hb; have L := Hid.mk' (L.out.below hb); have g3 := L.out.wx.lt; have g4 := L.out.wc.lt; clear hb
    refine hK.out _ _ (by (try dsimp only); simp [*]) (fun hHeld => ?_)
    clear hK K
    try clear hx hy
    try simp only [Act.put, List.setIfInBounds_toArray, List.set_cons_zero, List.set_cons_succ]
    refine wpAnyH_take (i := 14) (oi := ⟨_, _, _, _, _, _⟩) (v := ?_) rfl (by kernel_rfl) (by kernel_rfl) (by kernel_rfl) (fun _ _ _ h => h) (Or.inl ⟨by rfl, ?_⟩) (by assumption) ?_
    rotate_left
    · (intro w hSw; (try dsimp only at hSw); go_simp; (try with_reducible rfl))
    try simp only [Act.put, List.setIfInBounds_toArray, List.set_cons_zero, List.set_cons_succ]
    refine wpAnyH_ready (rs := [16]) (by kernel_rfl) (by simp) ?_
    refine AllReadyH.cons (o := ⟨_, _, _, _, _, _⟩) rfl (fun K hK => ?_) AllReadyH.nil
    go_simp
    go_at_call 9; refine (KY.out _ L.out.xx).mono ?_; rintro e u ⟨s, rfl, ob, _, hb⟩; obtain ⟨pb, qb, rfl, bb⟩ := ob.len; have BB := Hid.mk' bb; have BA := Hid.mk' (BA.out.below hb); obtain ⟨hx, hy⟩ := bcell hb; have L := Hid.mk' (L.out.below hb); have g3 := L.out.wx.lt; have g4 := L.out.wc.lt; clear hb
    refine hK.out _ _ (by (try dsimp only); simp [*]) (fun hHeld => ?_)
    clear hK K
    try clear hx hy
    try simp only [Act.put, List.setIfInBounds_toArray, List.set_cons_zero, List.set_cons_succ]
    refine wpAnyH_take (i := 17) (oi := ⟨_, _, _, _, _, _⟩) (v := ?_) rfl (by kernel_rfl) (by kernel_rfl) (by kernel_rfl) (fun _ _ _ h => h) (Or.inl ⟨by rfl, ?_⟩) (by assumption) ?_
    rotate_left
    · (intro w hSw; (try dsimp only at hSw); go_simp; (try with_reducible rfl))
    try simp only [Act.put, List.setIfInBounds_toArray, List.set_cons_zero, List.set_cons_succ]
    refine wpAnyH_ready (rs := [18]) (by kernel_rfl) (by simp) ?_
    refine AllReadyH.cons (o := ⟨_, _, _, _, _, _⟩) rfl (fun K hK => ?_) AllReadyH.nil
    go_simp
    go_at_call 14; refine (lwBytes_same _ _ _ _ (text X) _ BA.out BB.out XU.out).mono ?_; rintro e u ⟨rfl, rfl⟩
    refine hK.out _ _ (by (try dsimp only); simp [*]) (fun hHeld => ?_)
    clear hK K
    try clear hx hy
    try simp only [Act.put, List.setIfInBounds_toArray, List.set_cons_zero, List.set_cons_succ]
    refine wpAnyH_take (i := 19) (oi := ⟨_, _, _, _, _, _⟩) (v := ?_) rfl (by kernel_rfl) (by kernel_rfl) (by kernel_rfl) (fun _ _ _ h => h) (Or.inl ⟨by rfl, ?_⟩) (by assumption) ?_
    rotate_left
    · (intro w hSw; (try dsimp only at hSw); go_simp; (try with_reducible rfl))
    try simp only [Act.put, List.setIfInBounds_toArray, List.set_cons_zero, List.set_cons_succ]
    refine wpAnyH_take (i := 20) (oi := ⟨_, _, _, _, _, _⟩) (v := ?_) rfl (by kernel_rfl) (by kernel_rfl) (by kernel_rfl) (fun _ _ _ h => h) (Or.inl ⟨by rfl, ?_⟩) (by assumption) ?_
    rotate_left
    · (intro w hSw; (try dsimp only at hSw); go_simp; (try with_reducible rfl))
    try simp only [Act.put, List.setIfInBounds_toArray, List.set_cons_zero, List.set_cons_succ]
    refine wpAnyH_take (i := 21) (oi := ⟨_, _, _, _, _, _⟩) (v := ?_) rfl (by kernel_rfl) (by kernel_rfl) (by kernel_rfl) (fun _ _ _ h => h) (Or.inl ⟨by rfl, ?_⟩) (by assumption) ?_
    rotate_left
    · (intro w hSw; (try dsimp only at hSw); go_simp; (try with_reducible rfl))
    try simp only [Act.put, List.setIfInBounds_toArray, List.set_cons_zero, List.set_cons_succ]
    refine wpAnyH_take (i := 22) (oi := ⟨_, _, _, _, _, _⟩) (v := ?_) rfl (by kernel_rfl) (by kernel_rfl) (by kernel_rfl) (fun _ _ _ h => h) (Or.inl ⟨by rfl, ?_⟩) (by assumption) ?_
    rotate_left
    · (intro w hSw; (try dsimp only at hSw); go_simp; (try with_reducible rfl))
    try simp only [Act.put, List.setIfInBounds_toArray, List.set_cons_zero, List.set_cons_succ]
    refine wpAnyH_take (i := 23) (oi := ⟨_, _, _, _, _, _⟩) (v := ?_) rfl (by kernel_rfl) (by kernel_rfl) (by kernel_rfl) (fun _ _ _ h => h) (Or.inl ⟨by rfl, ?_⟩) (by assumption) ?_
    rotate_left
    · (intro w hSw; (try dsimp only at hSw); go_simp; (try with_reducible rfl))
    try simp only [Act.put, List.setIfInBounds_toArray, List.set_cons_zero, List.set_cons_succ]
    refine wpAnyH_take (i := 24) (oi := ⟨_, _, _, _, _, _⟩) (v := ?_) rfl (by kernel_rfl) (by kernel_rfl) (by kernel_rfl) (fun _ _ _ h => h) (Or.inl ⟨by rfl, ?_⟩) (by assumption) ?_
    rotate_left
    · (intro w hSw; (try dsimp only at hSw); go_simp; (try with_reducible rfl))
    try simp only [Act.put, List.setIfInBounds_toArray, List.set_cons_zero, List.set_cons_succ]
    refine wpAnyH_take (i := 25) (oi := ⟨_, _, _, _, _, _⟩) (v := ?_) rfl (by kernel_rfl) (by kernel_rfl) (by kernel_rfl) (fun _ _ _ h => h) (Or.inl ⟨by rfl, ?_⟩) (by assumption) ?_
    rotate_left
    · (intro w hSw; (try dsimp only at hSw); go_simp; (try with_reducible rfl))
    try simp only [Act.put, List.setIfInBounds_toArray, List.set_cons_zero, List.set_cons_succ]
    refine wpAnyH_take (i := 26) (oi := ⟨_, _, _, _, _, _⟩) (v := ?_) rfl (by kernel_rfl) (by kernel_rfl) (by kernel_rfl) (fun _ _ _ h => h) (Or.inl ⟨by rfl, ?_⟩) (by assumption) ?_
    rotate_left
    · (intro w hSw; (try dsimp only at hSw); go_simp; (try with_reducible rfl))
    try simp only [Act.put, List.setIfInBounds_toArray, List.set_cons_zero, List.set_cons_succ]
    refine wpAnyH_take (i := 27) (oi := ⟨_, _, _, _, _, _⟩) (v := ?_) rfl (by kernel_rfl) (by kernel_rfl) (by kernel_rfl) (fun _ _ _ h => h) (Or.inl ⟨by rfl, ?_⟩) (by assumption) ?_
    rotate_left
    · (intro w hSw; (try dsimp only at hSw); go_simp; (try with_reducible rfl))
    try simp only [Act.put, List.setIfInBounds_toArray, List.set_cons_zero, List.set_cons_succ]
    refine wpAnyH_take (i := 28) (oi := ⟨_, _, _, _, _, _⟩) (v := ?_) rfl (by kernel_rfl) (by kernel_rfl) (by kernel_rfl) (fun _ _ _ h => h) (Or.inl ⟨by rfl, ?_⟩) (by assumption) ?_
    rotate_left
    · (intro w hSw; (try dsimp only at hSw); go_simp; (try with_reducible rfl))
    try simp only [Act.put, List.setIfInBounds_toArray, List.set_cons_zero, List.set_cons_succ]
    refine wpAnyH_take (i := 29) (oi := ⟨_, _, _, _, _, _⟩) (v := ?_) rfl (by kernel_rfl) (by kernel_rfl) (by kernel_rfl) (fun _ _ _ h => h) (Or.inl ⟨by rfl, ?_⟩) (by assumption) ?_
    rotate_left
    · (intro w hSw; (try dsimp only at hSw); go_simp; (try with_reducible rfl))
    try simp only [Act.put, List.setIfInBounds_toArray, List.set_cons_zero, List.set_cons_succ]
    refine wpAnyH_ready (rs := [30]) (by kernel_rfl) (by simp) ?_
    refine AllReadyH.cons (o := ⟨_, _, _, _, _, _⟩) rfl (fun K hK => ?_) AllReadyH.nil
    go_simp
    go_at_call 13; refine (KX.out _ L.out.cc_).mono ?_; rintro e u ⟨rfl, hb⟩; obtain ⟨hx, hy⟩ := bcell hb; have L := Hid.mk' (L.out.below hb); have g3 := L.out.wx.lt; have g4 := L.out.wc.lt; clear hb
    refine hK.out _ _ (by (try dsimp only); simp [*]) (fun hHeld => ?_)
    clear hK K
    try clear hx hy
    try simp only [Act.put, List.setIfInBounds_toArray, List.set_cons_zero, List.set_cons_succ]
    refine wpAnyH_take (i := 31) (oi := ⟨_, _, _, _, _, _⟩) (v := ?_) rfl (by kernel_rfl) (by kernel_rfl) (by kernel_rfl) (fun _ _ _ h => h) (Or.inl ⟨by rfl, ?_⟩) (by assumption) ?_
    rotate_left
    · (intro w hSw; (try dsimp only at hSw); go_simp; (try with_reducible rfl))
    try simp only [Act.put, List.setIfInBounds_toArray, List.set_cons_zero, List.set_cons_succ]
    refine wpAnyH_take (i := 32) (oi := ⟨_, _, _, _, _, _⟩) (v := ?_) rfl (by kernel_rfl) (by kernel_rfl) (by kernel_rfl) (fun _ _ _ h => h) (Or.inl ⟨by rfl, ?_⟩) (by assumption) ?_
    rotate_left
    · (intro w hSw; (try dsimp only at hSw); go_simp; (try with_reducible rfl))
    try simp only [Act.put, List.setIfInBounds_toArray, List.set_cons_zero, List.set_cons_succ]
    refine wpAnyH_take (i := 33) (oi := ⟨_, _, _, _, _, _⟩) (v := ?_) rfl (by kernel_rfl) (by kernel_rfl) (by kernel_rfl) (fun _ _ _ h => h) (Or.inl ⟨by rfl, ?_⟩) (by assumption) ?_
    rotate_left
    · (intro w hSw; (try dsimp only at hSw); go_simp; (try with_reducible rfl))
    try simp only [Act.put, List.setIfInBounds_toArray, List.set_cons_zero, List.set_cons_succ]
    refine wpAnyH_take (i := 34) (oi := ⟨_, _, _, _, _, _⟩) (v := ?_) rfl (by kernel_rfl) (by kernel_rfl) (by kernel_rfl) (fun _ _ _ h => h) (Or.inl ⟨by rfl, ?_⟩) (by assumption) ?_
    rotate_left
    · (intro w hSw; (try dsimp only at hSw); go_simp; (try with_reducible rfl))
    try simp only [Act.put, List.setIfInBounds_toArray, List.set_cons_zero, List.set_cons_succ]
    refine wpAnyH_done (by kernel_rfl) ?_ _
    clear KC KX KT KY XU BA BB hp1
  all_goals
    obtain ⟨t0, t1, t2, g1⟩ := cells3 L.out.wt
    dsimp only at t0 t1 t2
    clear q0 q1 q2 z0 z1 z2 z3 g3 g4 f1 f2 hHeld
    go_wp2_with fail
    refine (implText_any _ t _ L.out.tt BT.out.wf gl).mono ?_
    rintro e w5 ⟨s, rfl, ob, _, hb5⟩
    obtain ⟨pq, cq, rfl, bq, hcq, hpq⟩ := ob_form ob
    have HPQ := Hid.mk' hpq
    have HCQ := Hid.mk' hcq
    have N5 := below_new w5 (.cells #[.int .i64 (fault t), .slice pq (textVal t).length cq] 33)
    have M5 := hb5.trans (N5.mono hb5.size)
    have L2 := L.out.below M5
    have L : Hid (LE w0 w1.heap.size w2.heap.size w5.heap.size (.slice a1 t.base.length c1, .slice a2 t.more.length c2, .slice a3 t.pcs.length c3) t (delCode t x n) (.slice ra1 (delT t x n).base.length rb1, .slice ra2 (delT t x n).more.length rb2, .slice ra3 (delT t x n).pcs.length rb3) (delT t x n) (fault t) pq cq (textVal t) (w5.alloc (.cells #[.int .i64 (fault t), .slice pq (textVal t).length cq] 33))) :=
      ⟨L2.bw, L2.wt, L2.wr, rowp2 w5 33 (.int .i64 (fault t)) (.slice pq (textVal t).length cq), L2.tt, L2.rr, bq.below N5⟩
    clear L2 N5 M5 ob bq hcq hpq hb5 t0 t1 t2 g1
    generalize hW5 : w5.alloc (.cells #[.int .i64 (fault t), .slice pq (textVal t).length cq] 33) = W5 at *
    obtain ⟨t0, t1, t2, g1⟩ := cells3 L.out.wt
    obtain ⟨r0, r1, r2, r3_, g2⟩ := cells4 L.out.wr
    obtain ⟨q0, q1, g5⟩ := cells2 L.out.wq
    dsimp only at t0 t1 t2 r0 r1 r2 r3_
    have f1 := fTR0
    have KS : Hid (∀ W : World, TAtC W (.agg #[.slice a1 t.base.length c1, .slice a2 t.more.length c2, .slice a3 t.pcs.length c3]) t → Calls Try.prog 23 #[.agg #[.slice a1 t.base.length c1, .slice a2 t.more.length c2, .slice a3 t.pcs.length c3], .int .i64 x, .int .i64 n] W fun e w' => ∃ s1 s2 s3, e = .returned (.agg #[.int .i64 (delCode t x n), s1, s2, s3]) ∧ OT W.heap.size w'.heap.size w' s1 s2 s3 (delT t x n) ∧ Below W.heap.size W w') := fun W h => specDel_any _ t x n W h (by omega) (by omega) (by omega) (by omega) gl
    have KF : Hid (∀ W : World, TAtC W (.agg #[.slice a1 t.base.length c1, .slice a2 t.more.length c2, .slice a3 t.pcs.length c3]) t → Calls Try.prog 13 #[.agg #[.slice a1 t.base.length c1, .slice a2 t.more.length c2, .slice a3 t.pcs.length c3]] W fun e w' => e = .returned (.int .i64 (fault t)) ∧ Below W.heap.size W w') := fun W h => tableFault_any _ t W h.at BT.out.wf gl
    have KG : Hid (∀ W : World, TAtC W (.agg #[.slice a1 t.base.length c1, .slice a2 t.more.length c2, .slice a3 t.pcs.length c3]) t → Calls Try.prog 24 #[.agg #[.slice a1 t.base.length c1, .slice a2 t.more.length c2, .slice a3 t.pcs.length c3]] W fun e w' => e = .returned (.int .i64 (fault t)) ∧ Below W.heap.size W w') := fun W h => specFault_any _ t W h.at gl
    by_cases hz : delCode t x n = 0
    case neg =>
      have hzb : (delCode t x n == 0) = false := by simp [hz]
      go_wp2_with fail
      clear hW5
      refine wp_region_held_drew (S := (fun w' => w'.cell? ⟨w2.heap.size, 0, none⟩ = some (.int .i64 (delCode t x n)) ∧ w'.cell? ⟨w1.heap.size, 0, none⟩ = some (.slice a1 t.base.length c1) ∧ w'.cell? ⟨w1.heap.size, 1, none⟩ = some (.slice a2 t.more.length c2) ∧ w'.cell? ⟨w1.heap.size, 2, none⟩ = some (.slice a3 t.pcs.length c3))) (by kernel_rfl) (by simp [*]) (fun hHeld => ?_)
      refine wpAnyH_take (i := 0) (oi := ⟨_, _, _, _, _, _⟩) (v := ?_) rfl (by kernel_rfl) (by kernel_rfl) (by kernel_rfl) (fun _ _ _ h => h) (Or.inl ⟨by rfl, ?_⟩) (by assumption) ?_
      rotate_left
      · (intro w hSw; (try dsimp only at hSw); go_simp; (try with_reducible rfl))
      try simp only [Act.put, List.setIfInBounds_toArray, List.set_cons_zero, List.set_cons_succ]
      refine wpAnyH_take (i := 1) (oi := ⟨_, _, _, _, _, _⟩) (v := ?_) rfl (by kernel_rfl) (by kernel_rfl) (by kernel_rfl) (fun _ _ _ h => h) (Or.inl ⟨by rfl, ?_⟩) (by assumption) ?_
      rotate_left
      · (intro w hSw; (try dsimp only at hSw); go_simp; (try with_reducible rfl))
      try simp only [Act.put, List.setIfInBounds_toArray, List.set_cons_zero, List.set_cons_succ]
      refine wpAnyH_take (i := 2) (oi := ⟨_, _, _, _, _, _⟩) (v := ?_) rfl (by kernel_rfl) (by kernel_rfl) (by kernel_rfl) (fun _ _ _ h => h) (Or.inl ⟨by rfl, ?_⟩) (by assumption) ?_
      rotate_left
      · (intro w hSw; (try dsimp only at hSw); go_simp; (try with_reducible rfl))
      try simp only [Act.put, List.setIfInBounds_toArray, List.set_cons_zero, List.set_cons_succ]
      refine wpAnyH_take (i := 5) (oi := ⟨_, _, _, _, _, _⟩) (v := ?_) rfl (by kernel_rfl) (by kernel_rfl) (by kernel_rfl) (fun _ _ _ h => h) (Or.inl ⟨by rfl, ?_⟩) (by assumption) ?_
      rotate_left
      · (intro w hSw; (try dsimp only at hSw); go_simp; (try with_reducible rfl))
      try simp only [Act.put, List.setIfInBounds_toArray, List.set_cons_zero, List.set_cons_succ]
      refine wpAnyH_take (i := 6) (oi := ⟨_, _, _, _, _, _⟩) (v := ?_) rfl (by kernel_rfl) (by kernel_rfl) (by kernel_rfl) (fun _ _ _ h => h) (Or.inl ⟨by rfl, ?_⟩) (by assumption) ?_
      rotate_left
      · (intro w hSw; (try dsimp only at hSw); go_simp; (try with_reducible rfl))
      try simp only [Act.put, List.setIfInBounds_toArray, List.set_cons_zero, List.set_cons_succ]
      refine wpAnyH_ready (rs := [3]) (by kernel_rfl) (by simp) ?_
      refine AllReadyH.cons (o := ⟨_, _, _, _, _, _⟩) rfl (fun K hK => ?_) AllReadyH.nil
      go_simp
      go_at_call 23; refine (KS.out _ (L.out.below (Below.refl _ _).drew).tt).mono ?_; rintro e u ⟨s1, s2, s3, rfl, _, hb⟩; replace hb := undrew hb; obtain ⟨hx, hy⟩ := bcell hb; have L := Hid.mk' (L.out.below hb); have g1 := L.out.wt.lt; have g2 := L.out.wr.lt; clear hb
      refine hK.out _ _ (by (try dsimp only); simp [*]) (fun hHeld => ?_)
      clear hK K
      try clear hx hy
      try simp only [Act.put, List.setIfInBounds_toArray, List.set_cons_zero, List.set_cons_succ]
      refine wpAnyH_take (i := 4) (oi := ⟨_, _, _, _, _, _⟩) (v := ?_) rfl (by kernel_rfl) (by kernel_rfl) (by kernel_rfl) (fun _ _ _ h => h) (Or.inl ⟨by rfl, ?_⟩) (by assumption) ?_
      rotate_left
      · (intro w hSw; (try dsimp only at hSw); go_simp; (try with_reducible rfl))
      try simp only [Act.put, List.setIfInBounds_toArray, List.set_cons_zero, List.set_cons_succ]
      refine wpAnyH_take (i := 7) (oi := ⟨_, _, _, _, _, _⟩) (v := ?_) rfl (by kernel_rfl) (by kernel_rfl) (by kernel_rfl) (fun _ _ _ h => h) (Or.inl ⟨by rfl, ?_⟩) (by assumption) ?_
      rotate_left
      · (intro w hSw; (try dsimp only at hSw); go_simp; (try with_reducible rfl))
      try simp only [Act.put, List.setIfInBounds_toArray, List.set_cons_zero, List.set_cons_succ]
      refine wpAnyH_take (i := 8) (oi := ⟨_, _, _, _, _, _⟩) (v := ?_) rfl (by kernel_rfl) (by kernel_rfl) (by kernel_rfl) (fun _ _ _ h => h) (Or.inl ⟨by rfl, ?_⟩) (by assumption) ?_
      rotate_left
      · (intro w hSw; (try dsimp only at hSw); go_simp; (try with_reducible rfl))
      try simp only [Act.put, List.setIfInBounds_toArray, List.set_cons_zero, List.set_cons_succ]
      refine wpAnyH_take (i := 9) (oi := ⟨_, _, _, _, _, _⟩) (v := ?_) rfl (by kernel_rfl) (by kernel_rfl) (by kernel_rfl) (fun _ _ _ h => h) (Or.inl ⟨by rfl, ?_⟩) (by assumption) ?_
      rotate_left
      · (intro w hSw; (try dsimp only at hSw); go_simp; (try with_reducible rfl))
      try simp only [Act.put, List.setIfInBounds_toArray, List.set_cons_zero, List.set_cons_succ]
      refine wpAnyH_take (i := 11) (oi := ⟨_, _, _, _, _, _⟩) (v := ?_) rfl (by kernel_rfl) (by kernel_rfl) (by kernel_rfl) (fun _ _ _ h => h) (Or.inl ⟨by rfl, ?_⟩) (by assumption) ?_
      rotate_left
      · (intro w hSw; (try dsimp only at hSw); go_simp; (try with_reducible rfl))
      try simp only [Act.put, List.setIfInBounds_toArray, List.set_cons_zero, List.set_cons_succ]
      refine wpAnyH_ready (rs := [10]) (by kernel_rfl) (by simp) ?_
      refine AllReadyH.cons (o := ⟨_, _, _, _, _, _⟩) rfl (fun K hK => ?_) AllReadyH.nil
      go_simp
      go_at_call 13; refine (KF.out _ L.out.tt).mono ?_; rintro e u ⟨rfl, hb⟩; obtain ⟨hx, hy⟩ := bcell hb; have L := Hid.mk' (L.out.below hb); have g1 := L.out.wt.lt; have g2 := L.out.wr.lt; clear hb
      refine hK.out _ _ (by (try dsimp only); simp [*]) (fun hHeld => ?_)
      clear hK K
      try clear hx hy
      try simp only [Act.put, List.setIfInBounds_toArray, List.set_cons_zero, List.set_cons_succ]
      refine wpAnyH_ready (rs := [12]) (by kernel_rfl) (by simp) ?_
      refine AllReadyH.cons (o := ⟨_, _, _, _, _, _⟩) rfl (fun K hK => ?_) AllReadyH.nil
      go_simp
      go_at_call 24; refine (KG.out _ L.out.tt).mono ?_; rintro e u ⟨rfl, hb⟩; obtain ⟨hx, hy⟩ := bcell hb; have L := Hid.mk' (L.out.below hb); have g1 := L.out.wt.lt; have g2 := L.out.wr.lt; clear hb
      refine hK.out _ _ (by (try dsimp only); simp [*]) (fun hHeld => ?_)
      clear hK K
      try clear hx hy
      try simp only [Act.put, List.setIfInBounds_toArray, List.set_cons_zero, List.set_cons_succ]
      refine wpAnyH_take (i := 13) (oi := ⟨_, _, _, _, _, _⟩) (v := ?_) rfl (by kernel_rfl) (by kernel_rfl) (by kernel_rfl) (fun _ _ _ h => h) (Or.inl ⟨by rfl, ?_⟩) (by assumption) ?_
      rotate_left
      · (intro w hSw; (try dsimp only at hSw); go_simp; (try with_reducible rfl))
      try simp only [Act.put, List.setIfInBounds_toArray, List.set_cons_zero, List.set_cons_succ]
      refine wpAnyH_take (i := 14) (oi := ⟨_, _, _, _, _, _⟩) (v := ?_) rfl (by kernel_rfl) (by kernel_rfl) (by kernel_rfl) (fun _ _ _ h => h) (Or.inl ⟨by rfl, ?_⟩) (by assumption) ?_
      rotate_left
      · (intro w hSw; (try dsimp only at hSw); go_simp; (try with_reducible rfl))
      try simp only [Act.put, List.setIfInBounds_toArray, List.set_cons_zero, List.set_cons_succ]
      refine wpAnyH_take (i := 15) (oi := ⟨_, _, _, _, _, _⟩) (v := ?_) rfl (by kernel_rfl) (by kernel_rfl) (by kernel_rfl) (fun _ _ _ h => h) (Or.inl ⟨by rfl, ?_⟩) (by assumption) ?_
      rotate_left
      · (intro w hSw; (try dsimp only at hSw); go_simp; (try with_reducible rfl))
      try simp only [Act.put, List.setIfInBounds_toArray, List.set_cons_zero, List.set_cons_succ]
      refine wpAnyH_done (by kernel_rfl) ?_ _
      go_wp2
      go_ret
      exact ⟨by simp, L.out.bw⟩
    case pos =>
      obtain ⟨i1, i2, i2', i3, i4, i5⟩ := del_good hz
      have et : textVal t = text t := by unfold textVal; rw [if_pos i1]
      have HI4 := Hid.mk' i4
      have HI5 := Hid.mk' i5
      have HET := Hid.mk' et
      rw [← et] at i3
      obtain ⟨k, rfl⟩ : ∃ k : Nat, x = k := ⟨x.toNat, by omega⟩
      obtain ⟨m, rfl⟩ : ∃ m : Nat, n = m := ⟨n.toNat, by omega⟩
      obtain ⟨s, hs⟩ : ∃ s : Nat, s = k + m := ⟨_, rfl⟩
      have HSS := Hid.mk' hs
      have hw : IntKind.i64.wrap ((k : Int) + (m : Int)) = (s : Int) := by
        rw [IntKind.wrap_i64]
        omega
      rw [hz] at r0
      have c1_ : ¬ (k : Int) < 0 := by omega
      have c3_ : ¬ (m : Int) < 0 := by omega
      have c2_ : ¬ (s : Int) > ((textVal t).length : Int) := by omega
      have b1 : (0 : Int) ≤ (k : Int) := by omega
      have b3 : (k : Int) ≤ ((textVal t).length : Int) := by omega
      have b4 : ((textVal t).length : Int) ≤ (cq : Int) := by have := HCQ.out; omega
      have b2 : (k : Int) ≤ (cq : Int) := by omega
      have b5 : (0 : Int) ≤ (s : Int) := by omega
      have QL : (textVal t).length ≤ 1048576 := by have := textVal_le t; omega
      have b6 : (s : Int) ≤ ((textVal t).length : Int) := by omega
      clear i1 i2 i2' i3 i4 i5 et hs
      go_wp2_with fail
      clear hW5
      rcases HPQ.out with ⟨rfl, rfl, hnil⟩ | ⟨g, rfl⟩
      case' inl =>
        have hl0 : (textVal t).length = 0 := by rw [hnil]; rfl
        have hk0 : k = 0 := by omega
        have hki : (k : Int) = 0 := by omega
        have hsi : (s : Int) = 0 := by omega
        have hmi : (m : Int) = 0 := by have := HSS.out; omega
        have hw0 : IntKind.i64.wrap (0 : Int) = 0 := by rw [IntKind.wrap_i64]; rfl
        refine wp_region_held_drew (S := (fun w' => w'.cell? ⟨w5.heap.size, 1, none⟩ = some (.slice none (textVal t).length 0))) (by kernel_rfl) (by simp [*]) (fun hHeld => ?_)
        refine wpAnyH_take (i := 1) (oi := ⟨_, _, _, _, _, _⟩) (v := ?_) rfl (by kernel_rfl) (by kernel_rfl) (by kernel_rfl) (fun _ _ _ h => h) (Or.inl ⟨by rfl, ?_⟩) (by assumption) ?_
        rotate_left
        · (intro w hSw; (try dsimp only at hSw); go_simp; (try with_reducible rfl))
        try simp only [Act.put, List.setIfInBounds_toArray, List.set_cons_zero, List.set_cons_succ]
        refine wpAnyH_take (i := 2) (oi := ⟨_, _, _, _, _, _⟩) (v := ?_) rfl (by kernel_rfl) (by kernel_rfl) (by kernel_rfl) (fun _ _ _ h => h) (Or.inl ⟨by rfl, ?_⟩) (by assumption) ?_
        rotate_left
        · (intro w hSw; (try dsimp only at hSw); go_simp; (try with_reducible rfl))
        try simp only [Act.put, List.setIfInBounds_toArray, List.set_cons_zero, List.set_cons_succ]
        refine wpAnyH_take (i := 3) (oi := ⟨_, _, _, _, _, _⟩) (v := ?_) rfl (by kernel_rfl) (by kernel_rfl) (by kernel_rfl) (fun _ _ _ h => h) (Or.inl ⟨by rfl, ?_⟩) (by assumption) ?_
        rotate_left
        · (intro w hSw; (try dsimp only at hSw); go_simp; (try with_reducible rfl))
        try simp only [Act.put, List.setIfInBounds_toArray, List.set_cons_zero, List.set_cons_succ]
        refine wpAnyH_take (i := 4) (oi := ⟨_, _, _, _, _, _⟩) (v := ?_) rfl (by kernel_rfl) (by kernel_rfl) (by kernel_rfl) (fun _ _ _ h => h) (Or.inl ⟨by rfl, ?_⟩) (by assumption) ?_
        rotate_left
        · (intro w hSw; (try dsimp only at hSw); go_simp; (try with_reducible rfl))
        try simp only [Act.put, List.setIfInBounds_toArray, List.set_cons_zero, List.set_cons_succ]
        refine wpAnyH_take (i := 6) (oi := ⟨_, _, _, _, _, _⟩) (v := ?_) rfl (by kernel_rfl) (by kernel_rfl) (by kernel_rfl) (fun _ _ _ h => h) (Or.inl ⟨by rfl, ?_⟩) (by assumption) ?_
        rotate_left
        · (intro w hSw; (try dsimp only at hSw); go_simp; (try with_reducible rfl))
        try simp only [Act.put, List.setIfInBounds_toArray, List.set_cons_zero, List.set_cons_succ]
        refine wpAnyH_take (i := 7) (oi := ⟨_, _, _, _, _, _⟩) (v := ?_) rfl (by kernel_rfl) (by kernel_rfl) (by kernel_rfl) (fun _ _ _ h => h) (Or.inl ⟨by rfl, ?_⟩) (by assumption) ?_
        rotate_left
        · (intro w hSw; (try dsimp only at hSw); go_simp; (try with_reducible rfl))
        try simp only [Act.put, List.setIfInBounds_toArray, List.set_cons_zero, List.set_cons_succ]
        refine wpAnyH_take (i := 8) (oi := ⟨_, _, _, _, _, _⟩) (v := ?_) rfl (by kernel_rfl) (by kernel_rfl) (by kernel_rfl) (fun _ _ _ h => h) (Or.inl ⟨by rfl, ?_⟩) (by assumption) ?_
        rotate_left
        · (intro w hSw; (try dsimp only at hSw); go_simp; (try with_reducible rfl))
        try simp only [Act.put, List.setIfInBounds_toArray, List.set_cons_zero, List.set_cons_succ]
        refine wpAnyH_take (i := 9) (oi := ⟨_, _, _, _, _, _⟩) (v := ?_) rfl (by kernel_rfl) (by kernel_rfl) (by kernel_rfl) (fun _ _ _ h => h) (Or.inl ⟨by rfl, ?_⟩) (by assumption) ?_
        rotate_left
        · (intro w hSw; (try dsimp only at hSw); go_simp; (try with_reducible rfl))
        try simp only [Act.put, List.setIfInBounds_toArray, List.set_cons_zero, List.set_cons_succ]
        refine wpAnyH_take (i := 10) (oi := ⟨_, _, _, _, _, _⟩) (v := ?_) rfl (by kernel_rfl) (by kernel_rfl) (by kernel_rfl) (fun _ _ _ h => h) (Or.inl ⟨by rfl, ?_⟩) (by assumption) ?_
        rotate_left
        · (intro w hSw; (try dsimp only at hSw); go_simp; (try with_reducible rfl))
        try simp only [Act.put, List.setIfInBounds_toArray, List.set_cons_zero, List.set_cons_succ]
        refine wpAnyH_take (i := 11) (oi := ⟨_, _, _, _, _, _⟩) (v := ?_) rfl (by kernel_rfl) (by kernel_rfl) (by kernel_rfl) (fun _ _ _ h => h) (Or.inl ⟨by rfl, ?_⟩) (by assumption) ?_
        rotate_left
        · (intro w hSw; (try dsimp only at hSw); go_simp; (try with_reducible rfl))
        try simp only [Act.put, List.setIfInBounds_toArray, List.set_cons_zero, List.set_cons_succ]

        refine wpAnyH_ready (rs := [0]) (by kernel_rfl) (by simp) ?_
        refine AllReadyH.cons (o := ⟨_, _, _, _, _, _⟩) rfl (fun K hK => ?_) AllReadyH.nil
        go_simp
        refine hK.out _ _ (by (try dsimp only); simp [*, World.cell?_alloc_some]) (fun hHeld => ?_)
        clear hK K
        try clear hx hy
        try simp only [Act.put, List.setIfInBounds_toArray, List.set_cons_zero, List.set_cons_succ]
        have B0 : Hid (Below W5.heap.size W5 (W5.drew.alloc (.cells #[] 5))) := ((Below.refl _ _).drew).alloc (by simp) _
        refine wpAnyH_ready (rs := [5]) (by kernel_rfl) (by simp) ?_
        refine AllReadyH.cons (o := ⟨_, _, _, _, _, _⟩) rfl (fun K hK => ?_) AllReadyH.nil
        refine step_append_at rfl (.tmp 97) (.tmp 101) 22 rfl W5.heap.size 5 (.int .u8 0) 1 1 Try.underlying22 Try.info5 rfl (by decide) _ 0 [] rfl (World.ownsRow_lit W5.drew #[] 0 (Nat.le_refl _) (by decide) rfl) (none) 0 0 (bcs ((textVal t).take k)) rfl (by rw [hnil]; simp [bcs]) (.inl rfl) (bcs_one _) (by decide) (by decide) (by simp) ?_
        intro v1 w6 ho1 hg1 _
        have B1 := Hid.mk' (B0.out.grown hg1 (by simp) (fun k hk => by simp [Act.eval, Value.ownBlock] at hk; omega))
        have HO1 := Hid.mk' ho1
        obtain ⟨hx, hy⟩ := bcell B1.out
        clear ho1 hg1
        refine hK.out _ _ (by (try dsimp only); simp [*]) (fun hHeld => ?_)
        clear hK K
        try clear hx hy
        try simp only [Act.put, List.setIfInBounds_toArray, List.set_cons_zero, List.set_cons_succ]
        refine wpAnyH_ready (rs := [12]) (by kernel_rfl) (by simp) ?_
        refine AllReadyH.cons (o := ⟨_, _, _, _, _, _⟩) rfl (fun K hK => ?_) AllReadyH.nil
        refine step_append_at rfl (.tmp 102) (.tmp 108) 22 rfl W5.heap.size 5 (.int .u8 0) 1 1 Try.underlying22 Try.info5 rfl (by decide) _ (0 + 0) ([] ++ bcs ((textVal t).take k)) rfl HO1.out (none) 0 0 (bcs ((textVal t).drop s)) rfl (by rw [hnil]; simp [bcs]) (.inl rfl) (bcs_one _) (by decide) (by decide) B1.out.size ?_
        intro v3 w8 ho3 hg3 _
        have B3 := Hid.mk' (B1.out.grown hg3 B1.out.size (own_lo HO1.out))
        have HO3 := Hid.mk' ho3
        obtain ⟨hx, hy⟩ := bcell B3.out
        clear ho3 hg3
        refine hK.out _ _ (by (try dsimp only); simp [*]) (fun hHeld => ?_)
        clear hK K
        try clear hx hy
        try simp only [Act.put, List.setIfInBounds_toArray, List.set_cons_zero, List.set_cons_succ]
        refine wpAnyH_take (i := 13) (oi := ⟨_, _, _, _, _, _⟩) (v := ?_) rfl (by kernel_rfl) (by kernel_rfl) (by kernel_rfl) (fun _ _ _ h => h) (Or.inl ⟨by rfl, ?_⟩) (by assumption) ?_
        rotate_left
        · (intro w hSw; (try dsimp only at hSw); go_simp; (try with_reducible rfl))
        try simp only [Act.put, List.setIfInBounds_toArray, List.set_cons_zero, List.set_cons_succ]
        refine wpAnyH_done (by kernel_rfl) ?_ _
        have OW := Hid.mk' (two_rows (k := k) (m := s) (l := textVal t) (by omega) (by have h := HO3.out; rw [hnil] at h ⊢; obtain rfl : k = 0 := hk0; simpa using h))
        have L := Hid.mk' (L.out.below B3.out)
        have KS : Hid (∀ W : World, TAtC W (.agg #[.slice a1 t.base.length c1, .slice a2 t.more.length c2, .slice a3 t.pcs.length c3]) t → Calls Try.prog 23 #[.agg #[.slice a1 t.base.length c1, .slice a2 t.more.length c2, .slice a3 t.pcs.length c3], .int .i64 0, .int .i64 0] W fun e w' => ∃ s1 s2 s3, e = .returned (.agg #[.int .i64 (delCode t k m), s1, s2, s3]) ∧ OT W.heap.size w'.heap.size w' s1 s2 s3 (delT t k m) ∧ Below W.heap.size W w') := fun W h => by
          have q := KS.out W h
          rw [show (Value.int .i64 (k : Int)) = .int .i64 0 by rw [hki], show (Value.int .i64 (m : Int)) = .int .i64 0 by rw [hmi]] at q
          exact q
      case' inr =>
        refine wp_region_held_drew (S := (fun w' => w'.cell? ⟨w5.heap.size, 1, none⟩ = some (.slice (some ⟨g, 0, none⟩) (textVal t).length cq))) (by kernel_rfl) (by simp [*]) (fun hHeld => ?_)
        refine wpAnyH_take (i := 1) (oi := ⟨_, _, _, _, _, _⟩) (v := ?_) rfl (by kernel_rfl) (by kernel_rfl) (by kernel_rfl) (fun _ _ _ h => h) (Or.inl ⟨by rfl, ?_⟩) (by assumption) ?_
        rotate_left
        · (intro w hSw; (try dsimp only at hSw); go_simp; (try with_reducible rfl))
        try simp only [Act.put, List.setIfInBounds_toArray, List.set_cons_zero, List.set_cons_succ]
        refine wpAnyH_take (i := 2) (oi := ⟨_, _, _, _, _, _⟩) (v := ?_) rfl (by kernel_rfl) (by kernel_rfl) (by kernel_rfl) (fun _ _ _ h => h) (Or.inl ⟨by rfl, ?_⟩) (by assumption) ?_
        rotate_left
        · (intro w hSw; (try dsimp only at hSw); go_simp; (try with_reducible rfl))
        try simp only [Act.put, List.setIfInBounds_toArray, List.set_cons_zero, List.set_cons_succ]
        refine wpAnyH_take (i := 3) (oi := ⟨_, _, _, _, _, _⟩) (v := ?_) rfl (by kernel_rfl) (by kernel_rfl) (by kernel_rfl) (fun _ _ _ h => h) (Or.inl ⟨by rfl, ?_⟩) (by assumption) ?_
        rotate_left
        · (intro w hSw; (try dsimp only at hSw); go_simp; (try with_reducible rfl))
        try simp only [Act.put, List.setIfInBounds_toArray, List.set_cons_zero, List.set_cons_succ]
        refine wpAnyH_take (i := 4) (oi := ⟨_, _, _, _, _, _⟩) (v := ?_) rfl (by kernel_rfl) (by kernel_rfl) (by kernel_rfl) (fun _ _ _ h => h) (Or.inl ⟨by rfl, ?_⟩) (by assumption) ?_
        rotate_left
        · (intro w hSw; (try dsimp only at hSw); go_simp; (try with_reducible rfl))
        try simp only [Act.put, List.setIfInBounds_toArray, List.set_cons_zero, List.set_cons_succ]
        refine wpAnyH_take (i := 6) (oi := ⟨_, _, _, _, _, _⟩) (v := ?_) rfl (by kernel_rfl) (by kernel_rfl) (by kernel_rfl) (fun _ _ _ h => h) (Or.inl ⟨by rfl, ?_⟩) (by assumption) ?_
        rotate_left
        · (intro w hSw; (try dsimp only at hSw); go_simp; (try with_reducible rfl))
        try simp only [Act.put, List.setIfInBounds_toArray, List.set_cons_zero, List.set_cons_succ]
        refine wpAnyH_take (i := 7) (oi := ⟨_, _, _, _, _, _⟩) (v := ?_) rfl (by kernel_rfl) (by kernel_rfl) (by kernel_rfl) (fun _ _ _ h => h) (Or.inl ⟨by rfl, ?_⟩) (by assumption) ?_
        rotate_left
        · (intro w hSw; (try dsimp only at hSw); go_simp; (try with_reducible rfl))
        try simp only [Act.put, List.setIfInBounds_toArray, List.set_cons_zero, List.set_cons_succ]
        refine wpAnyH_take (i := 8) (oi := ⟨_, _, _, _, _, _⟩) (v := ?_) rfl (by kernel_rfl) (by kernel_rfl) (by kernel_rfl) (fun _ _ _ h => h) (Or.inl ⟨by rfl, ?_⟩) (by assumption) ?_
        rotate_left
        · (intro w hSw; (try dsimp only at hSw); go_simp; (try with_reducible rfl))
        try simp only [Act.put, List.setIfInBounds_toArray, List.set_cons_zero, List.set_cons_succ]
        refine wpAnyH_take (i := 9) (oi := ⟨_, _, _, _, _, _⟩) (v := ?_) rfl (by kernel_rfl) (by kernel_rfl) (by kernel_rfl) (fun _ _ _ h => h) (Or.inl ⟨by rfl, ?_⟩) (by assumption) ?_
        rotate_left
        · (intro w hSw; (try dsimp only at hSw); go_simp; (try with_reducible rfl))
        try simp only [Act.put, List.setIfInBounds_toArray, List.set_cons_zero, List.set_cons_succ]
        refine wpAnyH_take (i := 10) (oi := ⟨_, _, _, _, _, _⟩) (v := ?_) rfl (by kernel_rfl) (by kernel_rfl) (by kernel_rfl) (fun _ _ _ h => h) (Or.inl ⟨by rfl, ?_⟩) (by assumption) ?_
        rotate_left
        · (intro w hSw; (try dsimp only at hSw); go_simp; (try with_reducible rfl))
        try simp only [Act.put, List.setIfInBounds_toArray, List.set_cons_zero, List.set_cons_succ]
        refine wpAnyH_take (i := 11) (oi := ⟨_, _, _, _, _, _⟩) (v := ?_) rfl (by kernel_rfl) (by kernel_rfl) (by kernel_rfl) (fun _ _ _ h => h) (Or.inl ⟨by rfl, ?_⟩) (by assumption) ?_
        rotate_left
        · (intro w hSw; (try dsimp only at hSw); go_simp; (try with_reducible rfl))
        try simp only [Act.put, List.setIfInBounds_toArray, List.set_cons_zero, List.set_cons_succ]

        refine wpAnyH_ready (rs := [0]) (by kernel_rfl) (by simp) ?_
        refine AllReadyH.cons (o := ⟨_, _, _, _, _, _⟩) rfl (fun K hK => ?_) AllReadyH.nil
        go_simp
        refine hK.out _ _ (by (try dsimp only); simp [*, World.cell?_alloc_some]) (fun hHeld => ?_)
        clear hK K
        try clear hx hy
        try simp only [Act.put, List.setIfInBounds_toArray, List.set_cons_zero, List.set_cons_succ]
        have B0 : Hid (Below W5.heap.size W5 (W5.drew.alloc (.cells #[] 5))) := ((Below.refl _ _).drew).alloc (by simp) _
        refine wpAnyH_ready (rs := [5]) (by kernel_rfl) (by simp) ?_
        refine AllReadyH.cons (o := ⟨_, _, _, _, _, _⟩) rfl (fun K hK => ?_) AllReadyH.nil
        refine step_append_at rfl (.tmp 97) (.tmp 101) 22 rfl W5.heap.size 5 (.int .u8 0) 1 1 Try.underlying22 Try.info5 rfl (by decide) _ 0 [] rfl (World.ownsRow_lit W5.drew #[] 0 (Nat.le_refl _) (by decide) rfl) (some ⟨g, 0, none⟩) k cq (bcs ((textVal t).take k)) rfl (len_upto (by omega)) (src_upto (L.out.qq.below B0.out) (by omega)) (bcs_one _) (by unfold maxLen; omega) (by omega) (by simp) ?_
        intro v1 w6 ho1 hg1 _
        have B1 := Hid.mk' (B0.out.grown hg1 (by simp) (fun k hk => by simp [Act.eval, Value.ownBlock] at hk; omega))
        have HO1 := Hid.mk' ho1
        obtain ⟨hx, hy⟩ := bcell B1.out
        clear ho1 hg1
        refine hK.out _ _ (by (try dsimp only); simp [*]) (fun hHeld => ?_)
        clear hK K
        try clear hx hy
        try simp only [Act.put, List.setIfInBounds_toArray, List.set_cons_zero, List.set_cons_succ]
        refine wpAnyH_ready (rs := [12]) (by kernel_rfl) (by simp) ?_
        refine AllReadyH.cons (o := ⟨_, _, _, _, _, _⟩) rfl (fun K hK => ?_) AllReadyH.nil
        refine step_append_at rfl (.tmp 102) (.tmp 108) 22 rfl W5.heap.size 5 (.int .u8 0) 1 1 Try.underlying22 Try.info5 rfl (by decide) _ (0 + k) ([] ++ bcs ((textVal t).take k)) rfl HO1.out _ ((textVal t).length - s) _ (bcs ((textVal t).drop s)) rfl len_from (src_from (L.out.qq.below B1.out) (by omega) HCQ.out) (bcs_one _) (by unfold maxLen; omega) (by omega) B1.out.size ?_
        intro v3 w8 ho3 hg3 _
        have B3 := Hid.mk' (B1.out.grown hg3 B1.out.size (own_lo HO1.out))
        have HO3 := Hid.mk' ho3
        obtain ⟨hx, hy⟩ := bcell B3.out
        clear ho3 hg3
        refine hK.out _ _ (by (try dsimp only); simp [*]) (fun hHeld => ?_)
        clear hK K
        try clear hx hy
        try simp only [Act.put, List.setIfInBounds_toArray, List.set_cons_zero, List.set_cons_succ]
        refine wpAnyH_take (i := 13) (oi := ⟨_, _, _, _, _, _⟩) (v := ?_) rfl (by kernel_rfl) (by kernel_rfl) (by kernel_rfl) (fun _ _ _ h => h) (Or.inl ⟨by rfl, ?_⟩) (by assumption) ?_
        rotate_left
        · (intro w hSw; (try dsimp only at hSw); go_simp; (try with_reducible rfl))
        try simp only [Act.put, List.setIfInBounds_toArray, List.set_cons_zero, List.set_cons_succ]
        refine wpAnyH_done (by kernel_rfl) ?_ _
        have OW := Hid.mk' (two_rows (by omega) HO3.out)
        have L := Hid.mk' (L.out.below B3.out)
      all_goals clear B0 B1 B3 HO1 HO3 hHeld c1_ c2_ c3_ b1 b2 b3 b4 b5 b6 hw q0 q1 r0 r1 r2 r3_ t0 t1 t2 KF KG
      all_goals try clear hki hsi hmi hl0 hw0 hk0
      all_goals
        obtain ⟨pw, cw, rfl, bw⟩ := OW.out.len
        have WB := Hid.mk' bw
        have tI : textVal (delT t k m) = (textVal t).take k ++ (textVal t).drop s := by
          have h := HI5.out
          have e := HET.out
          have e2 := HSS.out
          unfold textVal
          rw [if_pos HI4.out, h]
          unfold textVal at e
          rw [e, e2]
          simp
          rfl
        have WU : Hid (U8 ((textVal t).take k ++ (textVal t).drop s)) := by
          intro y hy
          have hb := u8_text BT.out.ub BT.out.um
          rw [HET.out] at hy
          rcases List.mem_append.1 hy with h | h
          · exact hb y (List.mem_of_mem_take h)
          · exact hb y (List.mem_of_mem_drop h)
        have wR := wft_of_fault HI4.out
        have lR : ((delT t k m).base.length : Int) + (delT t k m).more.length + (delT t k m).pcs.length ≤ 1048576 := by
          obtain ⟨h1, h2, h3, _⟩ := fault_zero HI4.out
          omega
        have KF : Hid (∀ W : World, TAtC W (.agg #[.slice ra1 (delT t k m).base.length rb1, .slice ra2 (delT t k m).more.length rb2, .slice ra3 (delT t k m).pcs.length rb3]) (delT t k m) → Calls Try.prog 13 #[.agg #[.slice ra1 (delT t k m).base.length rb1, .slice ra2 (delT t k m).more.length rb2, .slice ra3 (delT t k m).pcs.length rb3]] W fun e w' => e = .returned (.int .i64 0) ∧ Below W.heap.size W w') := fun W h => by
          have k' := tableFault_any _ _ W h.at wR lR
          rw [HI4.out] at k'
          exact k'
        have KT : Hid (∀ W : World, TAtC W (.agg #[.slice ra1 (delT t k m).base.length rb1, .slice ra2 (delT t k m).more.length rb2, .slice ra3 (delT t k m).pcs.length rb3]) (delT t k m) → Calls Try.prog 9 #[.agg #[.slice ra1 (delT t k m).base.length rb1, .slice ra2 (delT t k m).more.length rb2, .slice ra3 (delT t k m).pcs.length rb3]] W fun e w' => ∃ s', e = .returned (.agg #[.int .i64 0, s']) ∧ OB w' s' ((textVal t).take k ++ (textVal t).drop s) ∧ In W.heap.size w'.heap.size s' ∧ Below W.heap.size W w') := fun W h => by
          have k' := implText_any _ _ W h wR lR
          rw [HI4.out, tI] at k'
          exact k'
        have KM : Hid (∀ (W : World) (s1 s2 s3 : Value), TAtC W (.agg #[.slice ra1 (delT t k m).base.length rb1, .slice ra2 (delT t k m).more.length rb2, .slice ra3 (delT t k m).pcs.length rb3]) (delT t k m) → TAtC W (.agg #[s1, s2, s3]) (delT t k m) → Calls Try.prog 17 #[.agg #[.slice ra1 (delT t k m).base.length rb1, .slice ra2 (delT t k m).more.length rb2, .slice ra3 (delT t k m).pcs.length rb3], .agg #[s1, s2, s3]] W fun e w' => e = .returned (.bool true) ∧ Below W.heap.size W w') := fun W s1 s2 s3 h h' => by
          have k' := implSame_any _ _ _ _ W h.at h'.at lR lR
          rw [sameT_refl] at k'
          exact k'
        clear OW bw tI wR lR
        generalize (textVal t).take k ++ (textVal t).drop s = WL at *
        obtain ⟨t0, t1, t2, g1⟩ := cells3 L.out.wt
        obtain ⟨r0, r1, r2, r3_, g2⟩ := cells4 L.out.wr
        dsimp only at t0 t1 t2 r0 r1 r2 r3_
        have f1 := fTR1
        have f2 := fBR1
        try generalize (if cq = s then some (⟨g, 0, none⟩ : Addr) else some (⟨g, s, none⟩ : Addr)) = az
        go_wp2_with fail
        refine wp_region_held_drew (S := (fun w' => w'.cell? ⟨w2.heap.size, 1, none⟩ = some (.slice ra1 (delT t k m).base.length rb1) ∧ w'.cell? ⟨w2.heap.size, 2, none⟩ = some (.slice ra2 (delT t k m).more.length rb2) ∧ w'.cell? ⟨w2.heap.size, 3, none⟩ = some (.slice ra3 (delT t k m).pcs.length rb3) ∧ w'.cell? ⟨w1.heap.size, 0, none⟩ = some (.slice a1 t.base.length c1) ∧ w'.cell? ⟨w1.heap.size, 1, none⟩ = some (.slice a2 t.more.length c2) ∧ w'.cell? ⟨w1.heap.size, 2, none⟩ = some (.slice a3 t.pcs.length c3))) (by kernel_rfl) (by simp [*]) (fun hHeld => ?_)
        refine wpAnyH_take (i := 0) (oi := ⟨_, _, _, _, _, _⟩) (v := ?_) rfl (by kernel_rfl) (by kernel_rfl) (by kernel_rfl) (fun _ _ _ h => h) (Or.inl ⟨by rfl, ?_⟩) (by assumption) ?_
        rotate_left
        · (intro w hSw; (try dsimp only at hSw); go_simp; (try with_reducible rfl))
        try simp only [Act.put, List.setIfInBounds_toArray, List.set_cons_zero, List.set_cons_succ]
        refine wpAnyH_take (i := 1) (oi := ⟨_, _, _, _, _, _⟩) (v := ?_) rfl (by kernel_rfl) (by kernel_rfl) (by kernel_rfl) (fun _ _ _ h => h) (Or.inl ⟨by rfl, ?_⟩) (by assumption) ?_
        rotate_left
        · (intro w hSw; (try dsimp only at hSw); go_simp; (try with_reducible rfl))
        try simp only [Act.put, List.setIfInBounds_toArray, List.set_cons_zero, List.set_cons_succ]
        refine wpAnyH_ready (rs := [2]) (by kernel_rfl) (by simp) ?_
        refine AllReadyH.cons (o := ⟨_, _, _, _, _, _⟩) rfl (fun K hK => ?_) AllReadyH.nil
        go_simp
        go_at_call 13; refine (KF.out _ (L.out.below (Below.refl _ _).drew).rr).mono ?_; rintro e u ⟨rfl, hb⟩; replace hb := undrew hb; obtain ⟨hx, hy⟩ := bcell hb; have L := Hid.mk' (L.out.below hb); have WB := Hid.mk' (WB.out.below hb); have g1 := L.out.wt.lt; have g2 := L.out.wr.lt; clear hb
        refine hK.out _ _ (by (try dsimp only); simp [*]) (fun hHeld => ?_)
        clear hK K
        try clear hx hy
        try simp only [Act.put, List.setIfInBounds_toArray, List.set_cons_zero, List.set_cons_succ]
        refine wpAnyH_take (i := 3) (oi := ⟨_, _, _, _, _, _⟩) (v := ?_) rfl (by kernel_rfl) (by kernel_rfl) (by kernel_rfl) (fun _ _ _ h => h) (Or.inl ⟨by rfl, ?_⟩) (by assumption) ?_
        rotate_left
        · (intro w hSw; (try dsimp only at hSw); go_simp; (try with_reducible rfl))
        try simp only [Act.put, List.setIfInBounds_toArray, List.set_cons_zero, List.set_cons_succ]
        refine wpAnyH_take (i := 4) (oi := ⟨_, _, _, _, _, _⟩) (v := ?_) rfl (by kernel_rfl) (by kernel_rfl) (by kernel_rfl) (fun _ _ _ h => h) (Or.inl ⟨by rfl, ?_⟩) (by assumption) ?_
        rotate_left
        · (intro w hSw; (try dsimp only at hSw); go_simp; (try with_reducible rfl))
        try simp only [Act.put, List.setIfInBounds_toArray, List.set_cons_zero, List.set_cons_succ]
        refine wpAnyH_take (i := 5) (oi := ⟨_, _, _, _, _, _⟩) (v := ?_) rfl (by kernel_rfl) (by kernel_rfl) (by kernel_rfl) (fun _ _ _ h => h) (Or.inl ⟨by rfl, ?_⟩) (by assumption) ?_
        rotate_left
        · (intro w hSw; (try dsimp only at hSw); go_simp; (try with_reducible rfl))
        try simp only [Act.put, List.setIfInBounds_toArray, List.set_cons_zero, List.set_cons_succ]
        refine wpAnyH_take (i := 6) (oi := ⟨_, _, _, _, _, _⟩) (v := ?_) rfl (by kernel_rfl) (by kernel_rfl) (by kernel_rfl) (fun _ _ _ h => h) (Or.inl ⟨by rfl, ?_⟩) (by assumption) ?_
        rotate_left
        · (intro w hSw; (try dsimp only at hSw); go_simp; (try with_reducible rfl))
        try simp only [Act.put, List.setIfInBounds_toArray, List.set_cons_zero, List.set_cons_succ]
        refine wpAnyH_take (i := 9) (oi := ⟨_, _, _, _, _, _⟩) (v := ?_) rfl (by kernel_rfl) (by kernel_rfl) (by kernel_rfl) (fun _ _ _ h => h) (Or.inl ⟨by rfl, ?_⟩) (by assumption) ?_
        rotate_left
        · (intro w hSw; (try dsimp only at hSw); go_simp; (try with_reducible rfl))
        try simp only [Act.put, List.setIfInBounds_toArray, List.set_cons_zero, List.set_cons_succ]
        refine wpAnyH_ready (rs := [7]) (by kernel_rfl) (by simp) ?_
        refine AllReadyH.cons (o := ⟨_, _, _, _, _, _⟩) rfl (fun K hK => ?_) AllReadyH.nil
        go_simp
        go_at_call 9; refine (KT.out _ L.out.rr).mono ?_; rintro e u ⟨s, rfl, ob, _, hb⟩; obtain ⟨pz, cz, rfl, bz⟩ := ob.len; have BZ := Hid.mk' bz; obtain ⟨hx, hy⟩ := bcell hb; have L := Hid.mk' (L.out.below hb); have WB := Hid.mk' (WB.out.below hb); have g1 := L.out.wt.lt; have g2 := L.out.wr.lt; clear hb
        refine hK.out _ _ (by (try dsimp only); simp [*]) (fun hHeld => ?_)
        clear hK K
        try clear hx hy
        try simp only [Act.put, List.setIfInBounds_toArray, List.set_cons_zero, List.set_cons_succ]
        refine wpAnyH_take (i := 8) (oi := ⟨_, _, _, _, _, _⟩) (v := ?_) rfl (by kernel_rfl) (by kernel_rfl) (by kernel_rfl) (fun _ _ _ h => h) (Or.inl ⟨by rfl, ?_⟩) (by assumption) ?_
        rotate_left
        · (intro w hSw; (try dsimp only at hSw); go_simp; (try with_reducible rfl))
        try simp only [Act.put, List.setIfInBounds_toArray, List.set_cons_zero, List.set_cons_succ]
        refine wpAnyH_ready (rs := [10]) (by kernel_rfl) (by simp) ?_
        refine AllReadyH.cons (o := ⟨_, _, _, _, _, _⟩) rfl (fun K hK => ?_) AllReadyH.nil
        go_simp
        go_at_call 14; refine (lwBytes_same _ _ _ _ WL _ BZ.out WB.out WU.out).mono ?_; rintro e u ⟨rfl, rfl⟩
        refine hK.out _ _ (by (try dsimp only); simp [*]) (fun hHeld => ?_)
        clear hK K
        try clear hx hy
        try simp only [Act.put, List.setIfInBounds_toArray, List.set_cons_zero, List.set_cons_succ]
        refine wpAnyH_take (i := 11) (oi := ⟨_, _, _, _, _, _⟩) (v := ?_) rfl (by kernel_rfl) (by kernel_rfl) (by kernel_rfl) (fun _ _ _ h => h) (Or.inl ⟨by rfl, ?_⟩) (by assumption) ?_
        rotate_left
        · (intro w hSw; (try dsimp only at hSw); go_simp; (try with_reducible rfl))
        try simp only [Act.put, List.setIfInBounds_toArray, List.set_cons_zero, List.set_cons_succ]
        refine wpAnyH_take (i := 12) (oi := ⟨_, _, _, _, _, _⟩) (v := ?_) rfl (by kernel_rfl) (by kernel_rfl) (by kernel_rfl) (fun _ _ _ h => h) (Or.inl ⟨by rfl, ?_⟩) (by assumption) ?_
        rotate_left
        · (intro w hSw; (try dsimp only at hSw); go_simp; (try with_reducible rfl))
        try simp only [Act.put, List.setIfInBounds_toArray, List.set_cons_zero, List.set_cons_succ]
        refine wpAnyH_take (i := 13) (oi := ⟨_, _, _, _, _, _⟩) (v := ?_) rfl (by kernel_rfl) (by kernel_rfl) (by kernel_rfl) (fun _ _ _ h => h) (Or.inl ⟨by rfl, ?_⟩) (by assumption) ?_
        rotate_left
        · (intro w hSw; (try dsimp only at hSw); go_simp; (try with_reducible rfl))
        try simp only [Act.put, List.setIfInBounds_toArray, List.set_cons_zero, List.set_cons_succ]
        refine wpAnyH_take (i := 14) (oi := ⟨_, _, _, _, _, _⟩) (v := ?_) rfl (by kernel_rfl) (by kernel_rfl) (by kernel_rfl) (fun _ _ _ h => h) (Or.inl ⟨by rfl, ?_⟩) (by assumption) ?_
        rotate_left
        · (intro w hSw; (try dsimp only at hSw); go_simp; (try with_reducible rfl))
        try simp only [Act.put, List.setIfInBounds_toArray, List.set_cons_zero, List.set_cons_succ]
        refine wpAnyH_take (i := 15) (oi := ⟨_, _, _, _, _, _⟩) (v := ?_) rfl (by kernel_rfl) (by kernel_rfl) (by kernel_rfl) (fun _ _ _ h => h) (Or.inl ⟨by rfl, ?_⟩) (by assumption) ?_
        rotate_left
        · (intro w hSw; (try dsimp only at hSw); go_simp; (try with_reducible rfl))
        try simp only [Act.put, List.setIfInBounds_toArray, List.set_cons_zero, List.set_cons_succ]
        refine wpAnyH_take (i := 16) (oi := ⟨_, _, _, _, _, _⟩) (v := ?_) rfl (by kernel_rfl) (by kernel_rfl) (by kernel_rfl) (fun _ _ _ h => h) (Or.inl ⟨by rfl, ?_⟩) (by assumption) ?_
        rotate_left
        · (intro w hSw; (try dsimp only at hSw); go_simp; (try with_reducible rfl))
        try simp only [Act.put, List.setIfInBounds_toArray, List.set_cons_zero, List.set_cons_succ]
        refine wpAnyH_take (i := 17) (oi := ⟨_, _, _, _, _, _⟩) (v := ?_) rfl (by kernel_rfl) (by kernel_rfl) (by kernel_rfl) (fun _ _ _ h => h) (Or.inl ⟨by rfl, ?_⟩) (by assumption) ?_
        rotate_left
        · (intro w hSw; (try dsimp only at hSw); go_simp; (try with_reducible rfl))
        try simp only [Act.put, List.setIfInBounds_toArray, List.set_cons_zero, List.set_cons_succ]
        refine wpAnyH_ready (rs := [18]) (by kernel_rfl) (by simp) ?_
        refine AllReadyH.cons (o := ⟨_, _, _, _, _, _⟩) rfl (fun K hK => ?_) AllReadyH.nil
        go_simp
        go_at_call 23; refine (KS.out _ L.out.tt).mono ?_; rintro e u ⟨s1, s2, s3, rfl, ot, hb⟩; have TT := Hid.mk' ot.atC; obtain ⟨hx, hy⟩ := bcell hb; have L := Hid.mk' (L.out.below hb); have WB := Hid.mk' (WB.out.below hb); have g1 := L.out.wt.lt; have g2 := L.out.wr.lt; clear hb
        refine hK.out _ _ (by (try dsimp only); simp [*]) (fun hHeld => ?_)
        clear hK K
        try clear hx hy
        try simp only [Act.put, List.setIfInBounds_toArray, List.set_cons_zero, List.set_cons_succ]
        refine wpAnyH_take (i := 19) (oi := ⟨_, _, _, _, _, _⟩) (v := ?_) rfl (by kernel_rfl) (by kernel_rfl) (by kernel_rfl) (fun _ _ _ h => h) (Or.inl ⟨by rfl, ?_⟩) (by assumption) ?_
        rotate_left
        · (intro w hSw; (try dsimp only at hSw); go_simp; (try with_reducible rfl))
        try simp only [Act.put, List.setIfInBounds_toArray, List.set_cons_zero, List.set_cons_succ]
        refine wpAnyH_ready (rs := [20]) (by kernel_rfl) (by simp) ?_
        refine AllReadyH.cons (o := ⟨_, _, _, _, _, _⟩) rfl (fun K hK => ?_) AllReadyH.nil
        go_simp
        go_at_call 17; refine (KM.out _ _ _ _ L.out.rr TT.out).mono ?_; rintro e u ⟨rfl, hb⟩; obtain ⟨hx, hy⟩ := bcell hb; have L := Hid.mk' (L.out.below hb); have WB := Hid.mk' (WB.out.below hb); have g1 := L.out.wt.lt; have g2 := L.out.wr.lt; clear hb
        refine hK.out _ _ (by (try dsimp only); simp [*]) (fun hHeld => ?_)
        clear hK K
        try clear hx hy
        try simp only [Act.put, List.setIfInBounds_toArray, List.set_cons_zero, List.set_cons_succ]
        refine wpAnyH_take (i := 21) (oi := ⟨_, _, _, _, _, _⟩) (v := ?_) rfl (by kernel_rfl) (by kernel_rfl) (by kernel_rfl) (fun _ _ _ h => h) (Or.inl ⟨by rfl, ?_⟩) (by assumption) ?_
        rotate_left
        · (intro w hSw; (try dsimp only at hSw); go_simp; (try with_reducible rfl))
        try simp only [Act.put, List.setIfInBounds_toArray, List.set_cons_zero, List.set_cons_succ]
        refine wpAnyH_take (i := 22) (oi := ⟨_, _, _, _, _, _⟩) (v := ?_) rfl (by kernel_rfl) (by kernel_rfl) (by kernel_rfl) (fun _ _ _ h => h) (Or.inl ⟨by rfl, ?_⟩) (by assumption) ?_
        rotate_left
        · (intro w hSw; (try dsimp only at hSw); go_simp; (try with_reducible rfl))
        try simp only [Act.put, List.setIfInBounds_toArray, List.set_cons_zero, List.set_cons_succ]
        refine wpAnyH_done (by kernel_rfl) ?_ _
        go_wp2
        go_ret
        exact ⟨by simp, L.out.bw⟩

end Go.Proofs.Ytahkneghmgmnbaa
