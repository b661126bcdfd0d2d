/- The law FnReads. -/
import Derived.Test.YtieeojhdidjnaaaGreatDoorH37
import Derived.Test.YtieeojhdidjnaaaGreatDoorH40
import Derived.Test.YtieeojhdidjnaaaGreatDoorH30
import Derived.Deep.RegionHeld3
import Derived.BigGuard
set_option maxHeartbeats 8000000
set_option maxRecDepth 100000
set_option linter.unusedVariables false
set_option linter.unusedSimpArgs false
namespace Go.Proofs.YtieeojhdidjnaaaGreatDoor
open Go.RowKit
theorem fIR0 (c v : Int) (w : World) : (Instr.field 47 (.agg #[.int .i64 c, .int .i64 v]) 0).run Tryz.prog w = .ok (.int .i64 c) w := by kernel_rfl
theorem fIR1 (c v : Int) (w : World) : (Instr.field 47 (.agg #[.int .i64 c, .int .i64 v]) 1).run Tryz.prog w = .ok (.int .i64 v) w := by kernel_rfl
theorem lawFR_any (q : Option Addr) (c' : Nat) (l : List Int) (tp : TypeId) (pv : Value) (w : World) (hE : Env w.heap.size tp pv w) (hd : BAt w q l) (hu : Byt l) (hl : (l.length : Int) ≤ 9223372036854775807) :
  Calls Tryz.prog 4 #[.slice q l.length c'] w fun e w' => e = .returned (.bool true) ∧ Below w.heap.size w w' := by
 have K0 := Hid.mk' (lwBigF_any q c' l.length w)
 by_cases g1 : (1048576 : Int) < (l.length : Int)
 ·go_enter Tryz.func4, Tryz.ntmps4
  go_wp2_with fail
  refine K0.out.mono ?_
  rintro e w1 ⟨rfl, hw1⟩
  obtain rfl := hw1.symm
  rw [decide_eq_true g1]
  go_wp2
  go_ret
  exact ⟨rfl, Below.refl _ _⟩
 have ll : (l.length : Int) ≤ 1048576 := by omega
 have HE := Hid.mk' hE
 have KA := Hid.mk' (drawMT_any q c' l w hd hu ll)
 have KB := Hid.mk' (fun W (hW : Below w.heap.size w W) => drawRB_any q c' l W (hd.below hW) hu ll)
 clear hd hu hE
 go_enter Tryz.func4, Tryz.ntmps4
 go_wp2_with fail
 refine K0.out.mono ?_
 rintro e w1 ⟨rfl, hw1⟩
 obtain rfl := hw1.symm
 rw [decide_eq_false (show ¬ (1048576 : Int) < (l.length : Int) by omega)]
 clear K0 g1 hw1
 go_wp2_with fail
 refine KA.out.mono ?_
 rintro e w2 ⟨m1, a1, t1, u1, c1, ca1, ct1, cu1, cc1, A1, N1, p1, e1, d1, rfl, hM1, hG1, hP1, bp1, xa1, ya1, xn1, yn1, lp1, hb2⟩
 have N2 := below_new w2 (.cells #[.slice a1 m1.dt.length ca1, .int .i64 m1.st, .slice t1 m1.tk.length ct1, .slice u1 m1.hd.length cu1, .slice c1 m1.cs.length cc1] 27)
 have BB := Hid.mk' (hb2.trans (N2.mono hb2.size))
 have DM1 := Hid.mk' (hM1.below N2)
 have BP1 : Hid (∀ z, Below (w2.alloc (.cells #[.slice a1 m1.dt.length ca1, .int .i64 m1.st, .slice t1 m1.tk.length ct1, .slice u1 m1.hd.length cu1, .slice c1 m1.cs.length cc1] 27)).heap.size (w2.alloc (.cells #[.slice a1 m1.dt.length ca1, .int .i64 m1.st, .slice t1 m1.tk.length ct1, .slice u1 m1.hd.length cu1, .slice c1 m1.cs.length cc1] 27)) z → BAt z e1 p1) := Hid.mk' (fun z hz => hP1 z (Nat.le_trans N2.size hz.size) (fun q _ h2 => (hz.block q (Nat.lt_of_lt_of_le h2 N2.size)).trans (N2.block q h2)))
 have G1 := Hid.mk' hG1
 have Q1 := Hid.mk' bp1
 have R1 := Hid.mk' (row5 w2 27 (.slice a1 m1.dt.length ca1) (.int .i64 m1.st) (.slice t1 m1.tk.length ct1) (.slice u1 m1.hd.length cu1) (.slice c1 m1.cs.length cc1))
 have ml1 := hG1.dl
 clear hM1 hG1 hP1 bp1 hb2 N2 KA
 generalize hW2 : w2.alloc (.cells #[.slice a1 m1.dt.length ca1, .int .i64 m1.st, .slice t1 m1.tk.length ct1, .slice u1 m1.hd.length cu1, .slice c1 m1.cs.length cc1] 27) = W2 at *
 obtain ⟨x0, x1, x2, x3, x4, x5⟩ := cells5 R1.out
 have b1a : -9223372036854775808 ≤ A1 := by omega
 have b1b : A1 ≤ 9223372036854775807 := by omega
 have b1c : -9223372036854775808 ≤ N1 := by omega
 have b1d : N1 ≤ 9223372036854775807 := by omega
 have hz1 : (msz m1 : Int) ≤ 1048576 := by have := G1.out.sz; omega
 have hp1 : p1.length ≤ 1048576 := by omega
 have EN : Hid (∀ V, Below W2.heap.size W2 V → Env V.heap.size tp pv V) := Hid.mk' (fun V hV => (HE.out.keep (BB.out.trans (hV.mono BB.out.size))).up (Nat.le_trans BB.out.size hV.size) (Nat.le_refl _))
 have KM : Hid (∀ V, Below W2.heap.size W2 V → Calls Tryz.prog 18 #[.agg #[.slice a1 m1.dt.length ca1, .int .i64 m1.st, .slice t1 m1.tk.length ct1, .slice u1 m1.hd.length cu1, .slice c1 m1.cs.length cc1], .int .i64 A1, .int .i64 N1, .slice e1 p1.length d1] V fun e w' => e = .returned (.agg #[.int .i64 (edC m1 A1 N1 p1), .int .i64 (mtV m1 A1 N1 p1)]) ∧ Below V.heap.size V w') := Hid.mk' (fun V hV => implMT_any tp pv m1 a1 t1 u1 c1 ca1 ct1 cu1 cc1 A1 N1 e1 d1 p1 V (EN.out V hV) (DM1.out.below hV).now DM1.out.ka G1.out.ub Q1.out hz1 (BP1.out V hV) hp1 b1a b1b b1c b1d)
 have KMS : Hid (∀ V, Below W2.heap.size W2 V → Calls Tryz.prog 22 #[.agg #[.slice a1 m1.dt.length ca1, .int .i64 m1.st, .slice t1 m1.tk.length ct1, .slice u1 m1.hd.length cu1, .slice c1 m1.cs.length cc1], .int .i64 A1, .int .i64 N1, .slice e1 p1.length d1] V fun e w' => e = .returned (.agg #[.int .i64 (edC m1 A1 N1 p1), .int .i64 (mtV m1 A1 N1 p1)]) ∧ Below V.heap.size V w') := Hid.mk' (fun V hV => (specMT_dm m1 a1 t1 u1 c1 ca1 ct1 cu1 cc1 A1 N1 e1 d1 p1 V (DM1.out.below hV).now DM1.out.ka DM1.out.kt DM1.out.af DM1.out.tf DM1.out.cf (BP1.out V hV) Q1.out G1.out.ub G1.out.cb hz1 hp1 b1a b1b b1c b1d).mono (fun e w' h => h))
 have KR1 : Hid (∀ V, Below W2.heap.size W2 V → Calls Tryz.prog 20 #[.agg #[.slice a1 m1.dt.length ca1, .int .i64 m1.st, .slice t1 m1.tk.length ct1, .slice u1 m1.hd.length cu1, .slice c1 m1.cs.length cc1], .int .i64 A1, .int .i64 N1, .slice e1 p1.length d1] V fun e w' => e = .returned (.agg #[.int .i64 (edC m1 A1 N1 p1), .int .i64 (rbV m1 A1 N1 p1)]) ∧ Below V.heap.size V w') := Hid.mk' (fun V hV => (implRB_any tp pv m1 a1 t1 u1 c1 ca1 ct1 cu1 cc1 A1 N1 e1 d1 p1 V (EN.out V hV) (DM1.out.below hV).now DM1.out.ka G1.out.ub hz1 (BP1.out V hV) hp1 b1a b1b b1c b1d).mono (fun e w' h => h))
 have KE : Hid (∀ V, Below W2.heap.size W2 V → Calls Tryz.prog 23 #[.agg #[.slice a1 m1.dt.length ca1, .int .i64 m1.st, .slice t1 m1.tk.length ct1, .slice u1 m1.hd.length cu1, .slice c1 m1.cs.length cc1], .int .i64 A1, .int .i64 N1, .slice e1 p1.length d1] V fun e w' => ∃ (y1 y2 y3 y4 : Option Addr) (j1 j2 j3 j4 k1 k2 k3 k4 : Nat) (st : Int), e = .returned (.agg #[.int .i64 (edC m1 A1 N1 p1), .int .i64 (eR m1 A1 N1 p1), .slice y1 j1 k1, .int .i64 st, .slice y2 j2 k2, .slice y3 j3 k3, .slice y4 j4 k4]) ∧ Below V.heap.size V w') := Hid.mk' (fun V hV => (implEM_any tp pv m1 a1 t1 u1 c1 ca1 ct1 cu1 cc1 A1 N1 e1 d1 p1 V (EN.out V hV) (DM1.out.below hV).now DM1.out.ka G1.out.ub Q1.out hz1 (BP1.out V hV) hp1 b1a b1b b1c b1d).mono (fun e w' h => by
  obtain ⟨tau, vd, tv, hv, cv, us, rs, bl, bh, hvs, rfl, gm, hb⟩ := h
  obtain ⟨_, _, _, _, _, _, _, _, rfl, rfl, rfl, rfl, -⟩ := gm.at
  exact ⟨_, _, _, _, _, _, _, _, _, _, _, _, _, rfl, hb⟩))
 have KL : Hid (∀ V, Below W2.heap.size W2 V → Calls Tryz.prog 10 #[.agg #[.slice a1 m1.dt.length ca1, .int .i64 m1.st, .slice t1 m1.tk.length ct1, .slice u1 m1.hd.length cu1, .slice c1 m1.cs.length cc1], .int .i64 A1] V fun e w' => LcP m1 A1 V e w') := Hid.mk' (fun V hV => implLC_any tp pv m1 a1 t1 u1 c1 ca1 ct1 cu1 cc1 A1 V (EN.out V hV) (DM1.out.below hV).now DM1.out.ka G1.out.ub hz1 b1a b1b)
 obtain ⟨C1, hC1⟩ : ∃ C1, edC m1 A1 N1 p1 = C1 := ⟨_, rfl⟩
 rw [hC1] at KM KMS KR1 KE
 have MATH : Hid (C1 = 0 → lcC m1 A1 = 0 ∧ 0 ≤ A1 ∧ 0 ≤ N1 ∧ A1 + N1 ≤ m1.dt.length ∧ A1 ≤ mtV m1 A1 N1 p1 ∧ mtV m1 A1 N1 p1 ≤ m1.dt.length - N1 + p1.length ∧ eR m1 A1 N1 p1 = mtV m1 A1 N1 p1 - ((A1.toNat / m1.st.toNat * m1.st.toNat : Nat) : Int) ∧ eR m1 A1 N1 p1 ≤ rbV m1 A1 N1 p1 ∧ m1.dt.length ≤ 240 ∧ p1.length ≤ 240) := Hid.mk' (fun h => rd_math (hC1.trans h))
 clear hC1
 generalize mtV m1 A1 N1 p1 = X1 at *
 generalize rbV m1 A1 N1 p1 = Y1 at *
 generalize eR m1 A1 N1 p1 = Z1 at *
 go_wp2_with fail
 clear hW2
 refine (KM.out W2 (Below.refl _ _)).mono ?_
 rintro e w3 ⟨rfl, hb3⟩
 have N3 := below_new w3 (.cells #[.int .i64 C1, .int .i64 X1] 47)
 have HB := Hid.mk' (hb3.trans (N3.mono hb3.size))
 have R1 := Hid.mk' (rowB R1.out HB.out)
 have RM := Hid.mk' (rowQ2 w3 47 (.int .i64 C1) (.int .i64 X1))
 clear hb3 N3 KM x0 x1 x2 x3 x4 x5
 generalize hW3 : w3.alloc (.cells #[.int .i64 C1, .int .i64 X1] 47) = W3 at *
 go_wp2_with fail
 clear hW3
 refine (KB.out W3 (BB.out.trans (HB.out.mono BB.out.size))).mono ?_
 rintro e w4 ⟨m2, a2, t2, u2, c2, ca2, ct2, cu2, cc2, A2, N2, p2_, e2, d2, rfl, hM2, hG2, hP2, bp2, xa2, ya2, xn2, yn2, lp2, hb4⟩
 have N4 := below_new w4 (.cells #[.slice a2 m2.dt.length ca2, .int .i64 m2.st, .slice t2 m2.tk.length ct2, .slice u2 m2.hd.length cu2, .slice c2 m2.cs.length cc2] 27)
 have M4 := hb4.trans (N4.mono hb4.size)
 have HB := Hid.mk' (HB.out.trans (M4.mono HB.out.size))
 have R1 := Hid.mk' (rowB R1.out M4)
 have RM := Hid.mk' (rowB RM.out M4)
 have R2 := Hid.mk' (row5 w4 27 (.slice a2 m2.dt.length ca2) (.int .i64 m2.st) (.slice t2 m2.tk.length ct2) (.slice u2 m2.hd.length cu2) (.slice c2 m2.cs.length cc2))
 have DM2 := Hid.mk' (hM2.below N4)
 have BP2 : Hid (∀ z, Below (w4.alloc (.cells #[.slice a2 m2.dt.length ca2, .int .i64 m2.st, .slice t2 m2.tk.length ct2, .slice u2 m2.hd.length cu2, .slice c2 m2.cs.length cc2] 27)).heap.size (w4.alloc (.cells #[.slice a2 m2.dt.length ca2, .int .i64 m2.st, .slice t2 m2.tk.length ct2, .slice u2 m2.hd.length cu2, .slice c2 m2.cs.length cc2] 27)) z → BAt z e2 p2_) := Hid.mk' (fun z hz => hP2 z (Nat.le_trans N4.size hz.size) (fun q _ h2 => (hz.block q (Nat.lt_of_lt_of_le h2 N4.size)).trans (N4.block q h2)))
 have G2 := Hid.mk' hG2
 have Q2 := Hid.mk' bp2
 clear hM2 hG2 hP2 bp2 hb4 N4 M4 KB
 generalize hW4 : w4.alloc (.cells #[.slice a2 m2.dt.length ca2, .int .i64 m2.st, .slice t2 m2.tk.length ct2, .slice u2 m2.hd.length cu2, .slice c2 m2.cs.length cc2] 27) = W4 at *
 have b2a : -9223372036854775808 ≤ A2 := by omega
 have b2b : A2 ≤ 9223372036854775807 := by omega
 have b2c : -9223372036854775808 ≤ N2 := by omega
 have b2d : N2 ≤ 9223372036854775807 := by omega
 have hz2 : (msz m2 : Int) ≤ 1048576 := by have := G2.out.sz; omega
 have hp2 : p2_.length ≤ 1048576 := by omega
 have KR2 : Hid (∀ V, Below W4.heap.size W4 V → Calls Tryz.prog 20 #[.agg #[.slice a2 m2.dt.length ca2, .int .i64 m2.st, .slice t2 m2.tk.length ct2, .slice u2 m2.hd.length cu2, .slice c2 m2.cs.length cc2], .int .i64 A2, .int .i64 N2, .slice e2 p2_.length d2] V fun e w' => e = .returned (.agg #[.int .i64 (edC m2 A2 N2 p2_), .int .i64 (rbV m2 A2 N2 p2_)]) ∧ Below V.heap.size V w') := Hid.mk' (fun V hV => implRB_any tp pv m2 a2 t2 u2 c2 ca2 ct2 cu2 cc2 A2 N2 e2 d2 p2_ V (EN.out V (HB.out.trans (hV.mono HB.out.size))) (DM2.out.below hV).now DM2.out.ka G2.out.ub hz2 (BP2.out V hV) hp2 b2a b2b b2c b2d)
 have KS2 : Hid (∀ V, Below W4.heap.size W4 V → Calls Tryz.prog 21 #[.agg #[.slice a2 m2.dt.length ca2, .int .i64 m2.st, .slice t2 m2.tk.length ct2, .slice u2 m2.hd.length cu2, .slice c2 m2.cs.length cc2], .int .i64 A2, .int .i64 N2, .slice e2 p2_.length d2] V fun e w' => e = .returned (.agg #[.int .i64 (edC m2 A2 N2 p2_), .int .i64 (rbV m2 A2 N2 p2_)]) ∧ Below V.heap.size V w') := Hid.mk' (fun V hV => specRB_any m2 a2 t2 u2 c2 ca2 ct2 cu2 cc2 A2 N2 e2 d2 p2_ V (DM2.out.below hV).now G2.out.ub G2.out.cb hz2 hp2 b2a b2b b2c b2d)
 generalize edC m2 A2 N2 p2_ = C2 at *
 generalize rbV m2 A2 N2 p2_ = Y2 at *
 obtain ⟨x0, x1, x2, x3, x4, x5⟩ := cells5 R2.out
 go_wp2_with fail
 clear hW4
 refine (KR2.out W4 (Below.refl _ _)).mono ?_
 rintro e w5 ⟨rfl, hb5⟩
 have N5 := below_new w5 (.cells #[.int .i64 C2, .int .i64 Y2] 47)
 have H5 := Hid.mk' (hb5.trans (N5.mono hb5.size))
 have HB := Hid.mk' (HB.out.trans (H5.out.mono HB.out.size))
 have R1 := Hid.mk' (rowB R1.out H5.out)
 have RM := Hid.mk' (rowB RM.out H5.out)
 have R2 := Hid.mk' (rowB R2.out H5.out)
 have RB := Hid.mk' (rowQ2 w5 47 (.int .i64 C2) (.int .i64 Y2))
 clear hb5 N5 KR2 x0 x1 x2 x3 x4 x5
 generalize hW5 : w5.alloc (.cells #[.int .i64 C2, .int .i64 Y2] 47) = W5 at *
 obtain ⟨x0, x1, x2, x3, x4, x5⟩ := cells5 R2.out
 obtain ⟨y0, y1, y4⟩ := cellsQ2 RB.out
 go_wp2_with fail
 clear hW5
 have s5 : w4.heap.size < W5.heap.size := R2.out.lt
 have KS5 : Hid (∀ V, Below W5.heap.size W5 V → Calls Tryz.prog 21 #[.agg #[.slice a2 m2.dt.length ca2, .int .i64 m2.st, .slice t2 m2.tk.length ct2, .slice u2 m2.hd.length cu2, .slice c2 m2.cs.length cc2], .int .i64 A2, .int .i64 N2, .slice e2 p2_.length d2] V fun e w' => e = .returned (.agg #[.int .i64 C2, .int .i64 Y2]) ∧ Below W5.heap.size W5 w') := Hid.mk' (fun V hV => by
  have b := H5.out.trans (hV.mono H5.out.size)
  exact (KS2.out V b).mono (fun e w' h => ⟨h.1, hV.trans (h.2.mono hV.size)⟩))
 have fir0 := fIR0
 have fir1 := fIR1
 have b00 : Below W5.heap.size W5 W5 := Below.refl _ _
 have s5b : w5.heap.size < W5.heap.size := RB.out.lt
 go_region_held3 (fun w' => w'.cell? ⟨w5.heap.size, 0, none⟩ = some (.int .i64 C2) ∧ w'.cell? ⟨w5.heap.size, 1, none⟩ = some (.int .i64 Y2) ∧ w'.cell? ⟨w4.heap.size, 0, none⟩ = some (.slice a2 m2.dt.length ca2) ∧ w'.cell? ⟨w4.heap.size, 1, none⟩ = some (.int .i64 m2.st) ∧ w'.cell? ⟨w4.heap.size, 2, none⟩ = some (.slice t2 m2.tk.length ct2) ∧ w'.cell? ⟨w4.heap.size, 3, none⟩ = some (.slice u2 m2.hd.length cu2) ∧ w'.cell? ⟨w4.heap.size, 4, none⟩ = some (.slice c2 m2.cs.length cc2)) (simp [*])
  (first | (go_at_call 21; refine (KS5.out _ (by first | assumption | exact Below.drew (by assumption))).mono ?_; rintro e wA ⟨rfl, hbA⟩; obtain ⟨hx1, hx2⟩ := bcell hbA))
 clear hx1 hx2 x0 x1 x2 x3 x4 x5 y0 y1 y4
 have HA6 := Hid.mk' hbA
 have R2 := Hid.mk' (rowB R2.out hbA)
 have RB := Hid.mk' (rowB RB.out hbA)
 clear b00 KS5 KS2 DM2 BP2 G2 Q2 EN
 have HB7 := Hid.mk' (H5.out.trans (HA6.out.mono H5.out.size))
 have HB := Hid.mk' (HB.out.trans (HA6.out.mono HB.out.size))
 have R1 := Hid.mk' (rowB R1.out HA6.out)
 have RM := Hid.mk' (rowB RM.out HA6.out)
 obtain ⟨x0, x1, x2, x3, x4, x5⟩ := cells5 R2.out
 obtain ⟨y0, y1, y4⟩ := cellsQ2 RB.out
 obtain ⟨z0, z1, z4⟩ := cellsQ2 RM.out
 obtain ⟨v0, v1, v2, v3, v4, v5⟩ := cells5 R1.out
 by_cases hc : C1 = 0
 rotate_left
 ·have hne : (C1 != 0) = true := by simp [hc]
  have KM7 : Hid (∀ V, Below wA.heap.size wA V → Calls Tryz.prog 22 #[.agg #[.slice a1 m1.dt.length ca1, .int .i64 m1.st, .slice t1 m1.tk.length ct1, .slice u1 m1.hd.length cu1, .slice c1 m1.cs.length cc1], .int .i64 A1, .int .i64 N1, .slice e1 p1.length d1] V fun e w' => e = .returned (.agg #[.int .i64 C1, .int .i64 X1]) ∧ Below wA.heap.size wA w') := Hid.mk' (fun V hV => (KMS.out V (HB.out.trans (hV.mono HB.out.size))).mono (fun e w' h => ⟨h.1, hV.trans (h.2.mono hV.size)⟩))
  clear KMS
  have bA : Below wA.heap.size wA wA := Below.refl _ _
  go_wp2
  have lA : w2.heap.size < wA.heap.size := R1.out.lt
  have lB : w3.heap.size < wA.heap.size := RM.out.lt
  go_region_held3 (fun w' => w'.cell? ⟨w2.heap.size, 0, none⟩ = some (.slice a1 m1.dt.length ca1) ∧ w'.cell? ⟨w2.heap.size, 1, none⟩ = some (.int .i64 m1.st) ∧ w'.cell? ⟨w2.heap.size, 2, none⟩ = some (.slice t1 m1.tk.length ct1) ∧ w'.cell? ⟨w2.heap.size, 3, none⟩ = some (.slice u1 m1.hd.length cu1) ∧ w'.cell? ⟨w2.heap.size, 4, none⟩ = some (.slice c1 m1.cs.length cc1) ∧ w'.cell? ⟨w3.heap.size, 0, none⟩ = some (.int .i64 C1) ∧ w'.cell? ⟨w3.heap.size, 1, none⟩ = some (.int .i64 X1)) (simp [*])
   (first | (go_at_call 22; refine (KM7.out _ (by first | assumption | exact Below.drew (by assumption))).mono ?_; rintro e wB ⟨rfl, hbB⟩; obtain ⟨hx1, hx2⟩ := bcell hbB))
  have HF := Hid.mk' (BB.out.trans ((HB.out.trans (hbB.mono HB.out.size)).mono BB.out.size))
  clear hx1 hx2
  go_wp2
  go_ret
  exact ⟨rfl, HF.out⟩
 have MT := Hid.mk' (MATH.out hc)
 subst hc
 go_wp2_with fail
 refine (KE.out wA HB.out).mono ?_
 rintro e w8 ⟨j1, j2, j3, j4, k1, k3, k5, k7, k2, k4, k6, k8, st, rfl, hb8⟩
 have N8 := below_new w8 (.cells #[.int .i64 0, .int .i64 Z1, .slice j1 k1 k2, .int .i64 st, .slice j2 k3 k4, .slice j3 k5 k6, .slice j4 k7 k8] 50)
 have M8 := hb8.trans (N8.mono hb8.size)
 have HB := Hid.mk' (HB.out.trans (M8.mono HB.out.size))
 have R1 := Hid.mk' (rowB R1.out M8)
 have RM := Hid.mk' (rowB RM.out M8)
 have RE := Hid.mk' (row7 w8 50 (.int .i64 0) (.int .i64 Z1) (.slice j1 k1 k2) (.int .i64 st) (.slice j2 k3 k4) (.slice j3 k5 k6) (.slice j4 k7 k8))
 clear hb8 N8 M8 KE v0 v1 v2 v3 v4 v5 x0 x1 x2 x3 x4 x5 y0 y1 y4 z0 z1 z4 R2 RB H5 HB7 HA6
 generalize hW8 : w8.alloc (.cells #[.int .i64 0, .int .i64 Z1, .slice j1 k1 k2, .int .i64 st, .slice j2 k3 k4, .slice j3 k5 k6, .slice j4 k7 k8] 50) = W8 at *
 obtain ⟨v0, v1, v2, v3, v4, v5⟩ := cells5 R1.out
 go_wp2_with fail
 clear hW8
 refine (KL.out W8 HB.out).mono ?_
 rintro e w9 (⟨hn, -, -⟩ | ⟨-, s, K, h240, hst, hs, hs2, hK, vL, rfl, oL, hb9⟩)
 ·exact absurd MT.out.1 hn
 obtain ⟨pL, qL, rfl, -⟩ := own_bat oL
 have zq : Z1 = X1 - ((K * s : Nat) : Int) := by
  have h := MT.out.2.2.2.2.2.2.1
  rw [hst] at h
  rw [h, hK]
  rfl
 subst zq
 have mt := MT.out
 obtain ⟨-, q0, q1, q2, q3, q4, -, q6, q7, q8⟩ := mt
 have hq : K * s ≤ 240 := by
  have : A1.toNat / s * s ≤ A1.toNat := Nat.div_mul_le_self _ _
  rw [hK]
  omega
 clear MT MATH KL hst hK oL
 generalize (hdN m1.dt s K).length = HK at *
 generalize (tkN m1.dt s K).length = TK at *
 generalize K * s = Q at *
 have N9 := below_new w9 (.cells #[.int .i64 0, .int .i64 (Q : Int), .int .i64 (TK : Int), .slice pL HK qL] 33)
 have M9 := hb9.trans (N9.mono hb9.size)
 have HB := Hid.mk' (HB.out.trans (M9.mono HB.out.size))
 have R1 := Hid.mk' (rowB R1.out M9)
 have RM := Hid.mk' (rowB RM.out M9)
 have RE := Hid.mk' (rowB RE.out M9)
 have RC := Hid.mk' (row4 w9 33 (.int .i64 0) (.int .i64 (Q : Int)) (.int .i64 (TK : Int)) (.slice pL HK qL))
 clear hb9 N9 M9 v0 v1 v2 v3 v4 v5
 generalize hW9 : w9.alloc (.cells #[.int .i64 0, .int .i64 (Q : Int), .int .i64 (TK : Int), .slice pL HK qL] 33) = W9 at *
 have KM7 : Hid (∀ V, Below W9.heap.size W9 V → Calls Tryz.prog 22 #[.agg #[.slice a1 m1.dt.length ca1, .int .i64 m1.st, .slice t1 m1.tk.length ct1, .slice u1 m1.hd.length cu1, .slice c1 m1.cs.length cc1], .int .i64 A1, .int .i64 N1, .slice e1 p1.length d1] V fun e w' => e = .returned (.agg #[.int .i64 0, .int .i64 X1]) ∧ Below W9.heap.size W9 w') := Hid.mk' (fun V hV => (KMS.out V (HB.out.trans (hV.mono HB.out.size))).mono (fun e w' h => ⟨h.1, hV.trans (h.2.mono hV.size)⟩))
 have KR7 : Hid (∀ V, Below W9.heap.size W9 V → Calls Tryz.prog 20 #[.agg #[.slice a1 m1.dt.length ca1, .int .i64 m1.st, .slice t1 m1.tk.length ct1, .slice u1 m1.hd.length cu1, .slice c1 m1.cs.length cc1], .int .i64 A1, .int .i64 N1, .slice e1 p1.length d1] V fun e w' => e = .returned (.agg #[.int .i64 0, .int .i64 Y1]) ∧ Below W9.heap.size W9 w') := Hid.mk' (fun V hV => (KR1.out V (HB.out.trans (hV.mono HB.out.size))).mono (fun e w' h => ⟨h.1, hV.trans (h.2.mono hV.size)⟩))
 clear KMS KR1
 have wr1 : IntKind.i64.wrap ((m1.dt.length : Int) - N1) = (m1.dt.length : Int) - N1 := by rw [IntKind.wrap_i64]; omega
 have wr2 : IntKind.i64.wrap ((m1.dt.length : Int) - N1 + (p1.length : Int)) = (m1.dt.length : Int) - N1 + (p1.length : Int) := by rw [IntKind.wrap_i64]; omega
 have wr3 : IntKind.i64.wrap (X1 - (Q : Int)) = X1 - (Q : Int) := by rw [IntKind.wrap_i64]; omega
 obtain ⟨v0, v1, v2, v3, v4, v5⟩ := cells5 R1.out
 obtain ⟨z0, z1, z4⟩ := cellsQ2 RM.out
 obtain ⟨e0, e1_, -, -, -, -, -, e7⟩ := cells7 RE.out
 obtain ⟨r0, r1, -, -, r4_⟩ := cells4 RC.out
 go_wp2
 clear hW9
 have lA : w2.heap.size < W9.heap.size := R1.out.lt
 have lB : w3.heap.size < W9.heap.size := RM.out.lt
 have lC : w8.heap.size < W9.heap.size := RE.out.lt
 have lD : w9.heap.size < W9.heap.size := RC.out.lt
 have bA : Below W9.heap.size W9 W9 := Below.refl _ _
 go_region_held3 (fun w' => w'.cell? ⟨w2.heap.size, 0, none⟩ = some (.slice a1 m1.dt.length ca1) ∧ w'.cell? ⟨w2.heap.size, 1, none⟩ = some (.int .i64 m1.st) ∧ w'.cell? ⟨w2.heap.size, 2, none⟩ = some (.slice t1 m1.tk.length ct1) ∧ w'.cell? ⟨w2.heap.size, 3, none⟩ = some (.slice u1 m1.hd.length cu1) ∧ w'.cell? ⟨w2.heap.size, 4, none⟩ = some (.slice c1 m1.cs.length cc1) ∧ w'.cell? ⟨w3.heap.size, 0, none⟩ = some (.int .i64 0) ∧ w'.cell? ⟨w3.heap.size, 1, none⟩ = some (.int .i64 X1) ∧ w'.cell? ⟨w8.heap.size, 0, none⟩ = some (.int .i64 0) ∧ w'.cell? ⟨w8.heap.size, 1, none⟩ = some (.int .i64 (X1 - (Q : Int))) ∧ w'.cell? ⟨w9.heap.size, 0, none⟩ = some (.int .i64 0) ∧ w'.cell? ⟨w9.heap.size, 1, none⟩ = some (.int .i64 (Q : Int))) (simp [*])
  (first | (go_at_call 20; refine (KR7.out _ (by first | assumption | exact Below.drew (by assumption))).mono ?_; rintro e wB ⟨rfl, hbB⟩; obtain ⟨hx1, hx2⟩ := bcell hbB) | (go_at_call 22; refine (KM7.out _ (by first | assumption | exact Below.drew (by assumption))).mono ?_; rintro e wC ⟨rfl, hbC⟩; obtain ⟨hx3, hx4⟩ := bcell hbC))
 have HF := Hid.mk' (BB.out.trans ((HB.out.trans (hbC.mono HB.out.size)).mono BB.out.size))
 clear hx1 hx2 hx3 hx4
 go_wp2
 go_ret
 exact ⟨rfl, HF.out⟩

end Go.Proofs.YtieeojhdidjnaaaGreatDoor
