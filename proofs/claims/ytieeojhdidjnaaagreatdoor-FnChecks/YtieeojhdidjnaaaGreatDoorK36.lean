/- The law FnChecks. -/
import Derived.Test.YtieeojhdidjnaaaGreatDoorK28
import Derived.Test.YtieeojhdidjnaaaGreatDoorK35
import Derived.Test.YtieeojhdidjnaaaGreatDoorK24
import Derived.Deep.RegionHeld3
import Derived.BigGuard
set_option linter.unusedVariables false
set_option linter.unusedSimpArgs false
namespace Go.Proofs.YtieeojhdidjnaaaGreatDoor
open Go.RowKit

theorem fCR0 (c x y : Int) (v : Value) (w : World) : (Instr.field 33 (.agg #[.int .i64 c, .int .i64 x, .int .i64 y, v]) 0).run Tryz.prog w = .ok (.int .i64 c) w := by kernel_rfl

theorem implSS_any (a b : Option Addr) (c d : Nat) (l m : List Int) (w : World) (h1 : BAt w a l) (h2 : BAt w b m) :
    Calls Tryz.prog 16 #[.agg #[.slice a l.length c], .agg #[.slice b m.length d]] w fun e w' => e = .returned (.bool ((strI l).toList == (strI m).toList)) ∧ Below w.heap.size w w' := by
  have B0 := ((Below.refl w.heap.size w).alloc (Nat.le_refl _) (.cells #[.slice a l.length c] 39)).alloc (by simp) (.cells #[.slice b m.length d] 39)
  have K := Hid.mk' (bytesEqual_any a b c d l m _ (h1.below B0) (h2.below B0))
  have BB := Hid.mk' B0
  clear B0 h1 h2
  go_enter Tryz.func16, Tryz.ntmps16
  go_wp2_with fail
  refine K.out.mono ?_
  rintro e w1 ⟨rfl, rfl⟩
  go_wp2
  go_ret
  exact ⟨rfl, BB.out⟩

set_option maxRecDepth 100000 in
set_option maxHeartbeats 8000000 in
theorem lawFC_any (q : Option Addr) (c' : Nat) (l : List Int) (tp : TypeId) (pv : Value) (w : World) (hE : Env w.heap.size tp pv w) (hd : BAt w q l) (hu : Byt l) (hl : (l.length : Int) ≤ 9223372036854775807) :
    Calls Tryz.prog 3 #[.slice q l.length c'] w fun e w' => e = .returned (.bool true) ∧ Below w.heap.size w w' := by
  have K0 := Hid.mk' (lwBigF_any q c' l.length w)
  by_cases g1 : (1048576 : Int) < (l.length : Int)
  · go_enter Tryz.func3, Tryz.ntmps3
    go_wp2_with fail
    refine K0.out.mono ?_
    rintro e w1 ⟨rfl, hw1⟩
    obtain rfl := hw1.symm
    rw [decide_eq_true g1]
    go_wp2
    go_ret
    exact ⟨rfl, Below.refl _ _⟩
  have ll : (l.length : Int) ≤ 1048576 := by omega
  have HE := Hid.mk' hE
  have KA := Hid.mk' (drawLC_any q c' l w hd hu ll)
  have KB := Hid.mk' (fun W (hW : Below w.heap.size w W) => drawSM_any q c' l W (hd.below hW) hu ll)
  clear hd hu hE
  go_enter Tryz.func3, Tryz.ntmps3
  go_wp2_with fail
  refine K0.out.mono ?_
  rintro e w1 ⟨rfl, hw1⟩
  obtain rfl := hw1.symm
  rw [decide_eq_false (show ¬ (1048576 : Int) < (l.length : Int) by omega)]
  clear K0 g1 hw1
  go_wp2_with fail
  refine KA.out.mono ?_
  rintro e w2 ⟨m1, a1, t1, u1, c1, ca1, ct1, cu1, cc1, A1, rfl, hM1, hG1, xa1, ya1, hb2⟩
  have N2 := below_new w2 (.cells #[.slice a1 m1.dt.length ca1, .int .i64 m1.st, .slice t1 m1.tk.length ct1, .slice u1 m1.hd.length cu1, .slice c1 m1.cs.length cc1] 27)
  have BB := Hid.mk' (hb2.trans (N2.mono hb2.size))
  have DM1 := Hid.mk' (hM1.below N2)
  have G1 := Hid.mk' hG1
  have R1 := Hid.mk' (RowA.new w2 27 #[.slice a1 m1.dt.length ca1, .int .i64 m1.st, .slice t1 m1.tk.length ct1, .slice u1 m1.hd.length cu1, .slice c1 m1.cs.length cc1])
  have ml1 := hG1.dl
  clear hM1 hG1 hb2 N2 KA
  generalize hW2 : w2.alloc (.cells #[.slice a1 m1.dt.length ca1, .int .i64 m1.st, .slice t1 m1.tk.length ct1, .slice u1 m1.hd.length cu1, .slice c1 m1.cs.length cc1] 27) = W2 at *
  have x0 := R1.out.cell 0 _ rfl
  have x1 := R1.out.cell 1 _ rfl
  have x2 := R1.out.cell 2 _ rfl
  have x3 := R1.out.cell 3 _ rfl
  have x4 := R1.out.cell 4 _ rfl
  have b1a : -9223372036854775808 ≤ A1 := by omega
  have b1b : A1 ≤ 9223372036854775807 := by omega
  have hz1 : (msz m1 : Int) ≤ 1048576 := by have := G1.out.sz; omega
  have EN : Hid (∀ V, Below W2.heap.size W2 V → Env V.heap.size tp pv V) := Hid.mk' (fun V hV => (HE.out.keep (BB.out.trans (hV.mono BB.out.size))).up (Nat.le_trans BB.out.size hV.size) (Nat.le_refl _))
  have KL : Hid (∀ V, Below W2.heap.size W2 V → Calls Tryz.prog 10 #[.agg #[.slice a1 m1.dt.length ca1, .int .i64 m1.st, .slice t1 m1.tk.length ct1, .slice u1 m1.hd.length cu1, .slice c1 m1.cs.length cc1], .int .i64 A1] V fun e w' => LcQ (lcC m1 A1) (lcX m1 A1) (lcY m1 A1) (lcL m1 A1) V e w') := Hid.mk' (fun V hV => (implLC_any tp pv m1 a1 t1 u1 c1 ca1 ct1 cu1 cc1 A1 V (EN.out V hV) (DM1.out.below hV).now DM1.out.ka G1.out.ub hz1 b1a b1b).mono (fun e w' h => h.q))
  have KS : Hid (∀ V, Below W2.heap.size W2 V → Calls Tryz.prog 14 #[.agg #[.slice a1 m1.dt.length ca1, .int .i64 m1.st, .slice t1 m1.tk.length ct1, .slice u1 m1.hd.length cu1, .slice c1 m1.cs.length cc1], .int .i64 A1] V fun e w' => LcQ (lcC m1 A1) (lcX m1 A1) (lcY m1 A1) (lcL m1 A1) V e w') := Hid.mk' (fun V hV => (specLC_any m1 a1 t1 u1 c1 ca1 ct1 cu1 cc1 A1 V (DM1.out.below hV).now G1.out.ub G1.out.cb hz1 b1a b1b).mono (fun e w' h => h.q))
  obtain ⟨C1, hC1⟩ : ∃ C1, lcC m1 A1 = C1 := ⟨_, rfl⟩
  rw [hC1] at KL KS
  have MATH := Hid.mk' (fun (h : C1 = 0) => ck_math G1.out.ub (hC1.trans h))
  clear hC1
  generalize lcX m1 A1 = X1 at *
  generalize lcY m1 A1 = Y1 at *
  generalize lcL m1 A1 = L1 at *
  go_wp2_with fail
  clear hW2
  refine (KL.out W2 (Below.refl _ _)).mono ?_
  rintro e w3 ⟨v1, rfl, ov1, lv1, hb3⟩
  obtain ⟨pL, qL, rfl, hpl⟩ := ov1.len
  have N3 := below_new w3 (.cells #[.int .i64 C1, .int .i64 X1, .int .i64 Y1, .slice pL L1.length qL] 33)
  have HB := Hid.mk' (hb3.trans (N3.mono hb3.size))
  have R1 := Hid.mk' (R1.out.below HB.out)
  have RC := Hid.mk' (RowA.new w3 33 #[.int .i64 C1, .int .i64 X1, .int .i64 Y1, .slice pL L1.length qL])
  have HL := Hid.mk' (hpl.below N3)
  clear hb3 N3 KL x0 x1 x2 x3 x4 ov1 lv1 hpl
  generalize hW3 : w3.alloc (.cells #[.int .i64 C1, .int .i64 X1, .int .i64 Y1, .slice pL L1.length qL] 33) = W3 at *
  go_wp2_with fail
  clear hW3
  refine (KB.out W3 (BB.out.trans (HB.out.mono BB.out.size))).mono ?_
  rintro e w4 ⟨m2, m3, pa, pt, pu, pc, na, nt, nu, nc, qa, qt, qu, qc, ma, mt, mu, mc, rfl, hM2, hM3, hz2, hz3, hb4⟩
  obtain ⟨N4, R20, R30⟩ := twoM w4 #[.slice pa m2.dt.length qa, .int .i64 m2.st, .slice pt m2.tk.length qt, .slice pu m2.hd.length qu, .slice pc m2.cs.length qc] #[.slice na m3.dt.length ma, .int .i64 m3.st, .slice nt m3.tk.length mt, .slice nu m3.hd.length mu, .slice nc m3.cs.length mc]
  have M4 := hb4.trans (N4.mono hb4.size)
  have HB := Hid.mk' (HB.out.trans (M4.mono HB.out.size))
  have R1 := Hid.mk' (R1.out.below M4)
  have RC := Hid.mk' (RC.out.below M4)
  have HL := Hid.mk' (HL.out.below M4)
  have R2 := Hid.mk' R20
  have R3 := Hid.mk' R30
  have A2 := Hid.mk' (hM2.below N4)
  have A3 := Hid.mk' (hM3.below N4)
  clear hM2 hM3 hb4 N4 M4 KB R20 R30
  generalize hW4 : (w4.alloc (.cells #[.slice pa m2.dt.length qa, .int .i64 m2.st, .slice pt m2.tk.length qt, .slice pu m2.hd.length qu, .slice pc m2.cs.length qc] 27)).alloc (.cells #[.slice na m3.dt.length ma, .int .i64 m3.st, .slice nt m3.tk.length mt, .slice nu m3.hd.length mu, .slice nc m3.cs.length mc] 27) = W4 at *
  have KI2 : Hid (∀ V, Below W4.heap.size W4 V → Calls Tryz.prog 12 #[.agg #[.slice pa m2.dt.length qa, .int .i64 m2.st, .slice pt m2.tk.length qt, .slice pu m2.hd.length qu, .slice pc m2.cs.length qc], .agg #[.slice na m3.dt.length ma, .int .i64 m3.st, .slice nt m3.tk.length mt, .slice nu m3.hd.length mu, .slice nc m3.cs.length mc]] V fun e w' => e = .returned (.bool (sameM m2 m3)) ∧ Below W4.heap.size W4 w') := Hid.mk' (fun V hV => (implSM_any m2 m3 pa pt pu pc na nt nu nc qa qt qu qc ma mt mu mc V (A2.out.below hV) (A3.out.below hV) hz2 hz3).mono (fun e w' h => ⟨h.1, hV.trans (h.2.mono hV.size)⟩))
  have KS2 : Hid (∀ V, Below W4.heap.size W4 V → Calls Tryz.prog 13 #[.agg #[.slice pa m2.dt.length qa, .int .i64 m2.st, .slice pt m2.tk.length qt, .slice pu m2.hd.length qu, .slice pc m2.cs.length qc], .agg #[.slice na m3.dt.length ma, .int .i64 m3.st, .slice nt m3.tk.length mt, .slice nu m3.hd.length mu, .slice nc m3.cs.length mc]] V fun e w' => e = .returned (.bool (sameM m2 m3)) ∧ Below W4.heap.size W4 w') := Hid.mk' (fun V hV => (specSM_any m2 m3 pa pt pu pc na nt nu nc qa qt qu qc ma mt mu mc V (A2.out.below hV) (A3.out.below hV) hz2 hz3).mono (fun e w' h => ⟨h.1, hV.trans (h.2.mono hV.size)⟩))
  generalize sameM m2 m3 = SB at *
  go_wp2_with fail
  clear hW4
  have x0 := R2.out.cell 0 _ rfl
  have x1 := R2.out.cell 1 _ rfl
  have x2 := R2.out.cell 2 _ rfl
  have x3 := R2.out.cell 3 _ rfl
  have x4 := R2.out.cell 4 _ rfl
  have y0 := R3.out.cell 0 _ rfl
  have y1 := R3.out.cell 1 _ rfl
  have y2 := R3.out.cell 2 _ rfl
  have y3 := R3.out.cell 3 _ rfl
  have y4 := R3.out.cell 4 _ rfl
  have b00 : Below W4.heap.size W4 W4 := Below.refl _ _
  have s5 : w4.heap.size < W4.heap.size := R2.out.lt
  have s5b : w4.heap.size + 1 < W4.heap.size := R3.out.lt
  have hsb : (SB != SB) = false := by simp
  go_region_held3 (fun w' => w'.cell? ⟨w4.heap.size, 0, none⟩ = some (.slice pa m2.dt.length qa) ∧ w'.cell? ⟨w4.heap.size, 1, none⟩ = some (.int .i64 m2.st) ∧ w'.cell? ⟨w4.heap.size, 2, none⟩ = some (.slice pt m2.tk.length qt) ∧ w'.cell? ⟨w4.heap.size, 3, none⟩ = some (.slice pu m2.hd.length qu) ∧ w'.cell? ⟨w4.heap.size, 4, none⟩ = some (.slice pc m2.cs.length qc) ∧ w'.cell? ⟨w4.heap.size + 1, 0, none⟩ = some (.slice na m3.dt.length ma) ∧ w'.cell? ⟨w4.heap.size + 1, 1, none⟩ = some (.int .i64 m3.st) ∧ w'.cell? ⟨w4.heap.size + 1, 2, none⟩ = some (.slice nt m3.tk.length mt) ∧ w'.cell? ⟨w4.heap.size + 1, 3, none⟩ = some (.slice nu m3.hd.length mu) ∧ w'.cell? ⟨w4.heap.size + 1, 4, none⟩ = some (.slice nc m3.cs.length mc)) (simp [*])
    (first | (go_at_call 12; refine (KI2.out _ (by first | assumption | exact Below.drew (by assumption))).mono ?_; rintro e wA ⟨rfl, hbA⟩; obtain ⟨hx1, hx2⟩ := bcell hbA) | (go_at_call 13; refine (KS2.out _ (by first | assumption | exact Below.drew (by assumption))).mono ?_; rintro e wB ⟨rfl, hbB⟩; obtain ⟨hx3, hx4⟩ := bcell hbB))
  clear hx1 hx2 hx3 hx4 x0 x1 x2 x3 x4 y0 y1 y2 y3 y4 KI2 KS2 A2 A3 R2 R3 b00 s5 s5b hsb
  have HB := Hid.mk' (HB.out.trans (hbB.mono HB.out.size))
  have R1 := Hid.mk' (R1.out.below hbB)
  have RC := Hid.mk' (RC.out.below hbB)
  have HL := Hid.mk' (HL.out.below hbB)
  clear hbA hbB
  have x0 := R1.out.cell 0 _ rfl
  have x1 := R1.out.cell 1 _ rfl
  have x2 := R1.out.cell 2 _ rfl
  have x3 := R1.out.cell 3 _ rfl
  have x4 := R1.out.cell 4 _ rfl
  have z0 := RC.out.cell 0 _ rfl
  have z1 := RC.out.cell 1 _ rfl
  have z2 := RC.out.cell 2 _ rfl
  have z3 := RC.out.cell 3 _ rfl
  by_cases hc : C1 = 0
  rotate_left
  · have hne : (C1 != 0) = true := by simp [hc]
    have KM7 : Hid (∀ V, Below wB.heap.size wB V → Calls Tryz.prog 14 #[.agg #[.slice a1 m1.dt.length ca1, .int .i64 m1.st, .slice t1 m1.tk.length ct1, .slice u1 m1.hd.length cu1, .slice c1 m1.cs.length cc1], .int .i64 A1] V fun e w' => ∃ pz qz, e = .returned (.agg #[.int .i64 C1, .int .i64 X1, .int .i64 Y1, .slice pz L1.length qz]) ∧ Below wB.heap.size wB w') := Hid.mk' (fun V hV => (KS.out V (HB.out.trans (hV.mono HB.out.size))).mono (fun e w' h => by
      obtain ⟨v, rfl, ov, -, hb⟩ := h
      obtain ⟨pz, qz, rfl, -⟩ := ov.len
      exact ⟨pz, qz, rfl, hV.trans (hb.mono hV.size)⟩))
    clear KS
    have bA : Below wB.heap.size wB wB := Below.refl _ _
    have fcr0 := fCR0
    go_wp2
    have lA : w2.heap.size < wB.heap.size := R1.out.lt
    have lB : w3.heap.size < wB.heap.size := RC.out.lt
    go_region_held3 (fun w' => w'.cell? ⟨w2.heap.size, 0, none⟩ = some (.slice a1 m1.dt.length ca1) ∧ w'.cell? ⟨w2.heap.size, 1, none⟩ = some (.int .i64 m1.st) ∧ w'.cell? ⟨w2.heap.size, 2, none⟩ = some (.slice t1 m1.tk.length ct1) ∧ w'.cell? ⟨w2.heap.size, 3, none⟩ = some (.slice u1 m1.hd.length cu1) ∧ w'.cell? ⟨w2.heap.size, 4, none⟩ = some (.slice c1 m1.cs.length cc1) ∧ w'.cell? ⟨w3.heap.size, 0, none⟩ = some (.int .i64 C1)) (simp [*])
      (first | (go_at_call 14; refine (KM7.out _ (by first | assumption | exact Below.drew (by assumption))).mono ?_; rintro e wC ⟨pz, qz, rfl, hbC⟩; obtain ⟨hx1, hx2⟩ := bcell hbC))
    have HF := Hid.mk' (BB.out.trans ((HB.out.trans (hbC.mono HB.out.size)).mono BB.out.size))
    clear hx1 hx2
    go_wp2
    go_ret
    exact ⟨rfl, HF.out⟩
  clear KS
  obtain ⟨i, Q, s, rfl, rfl, hst, hs, hs2, hQ, hi, h240, hlt, hmod, gL, bL, e2, y, rfl, e1⟩ := MATH.out hc
  subst hc
  obtain ⟨ba, rfl⟩ := DM1.out.af
  have GL := Hid.mk' gL
  have BL := Hid.mk' bL
  have hca := DM1.out.ka
  have tl : (m1.dt.take i).length = i := by rw [List.length_take]; omega
  have dl : ((m1.dt.drop Q).take (i - Q)).length = i - Q := by rw [List.length_take, List.length_drop]; omega
  have b1 := allX_len (m1.dt.take i) [] [] (by simp)
  rw [tl] at b1
  simp only [List.length_nil, Nat.zero_add] at b1
  have KF1 : Hid (∀ V, Below W2.heap.size W2 V → Calls Tryz.prog 15 #[.agg #[.slice none 0 0], .slice (some ⟨ba, 0, none⟩) i ca1] V fun e w' => FlP (allX [] [] (m1.dt.take i)).1.length (allX [] [] (m1.dt.take i)).2 V e w') := Hid.mk' (fun V hV => by
    have hb := DM1.out.now.1.below hV
    have K := feedFrom_any tp pv [] none 0 (m1.dt.take i) (some ⟨ba, 0, none⟩) ca1 V (EN.out V hV) (.inl rfl) (.inl rfl) Byt.nil (BAt.part hb 0 i (by omega) (some ⟨ba, 0, none⟩) (fun _ b o e => by cases e; rfl)) (Byt.of (fun x hx => G1.out.ub.mem x (List.mem_of_mem_take hx))) (by omega)
    rw [tl] at K
    exact K.mono (fun e w' h => h.fl))
  have KF2 : Hid (∀ V pa, Below W2.heap.size W2 V → (0 < i - Q → pa = some ⟨ba, Q, none⟩) → ∀ pl ql, BAt V pl L1 → Calls Tryz.prog 15 #[.agg #[.slice pl L1.length ql], .slice pa (i - Q) (ca1 - Q)] V fun e w' => FlP (ckR L1 m1.dt Q i).1.length (ckR L1 m1.dt Q i).2 V e w') := Hid.mk' (fun V pa hV hpa pl ql hl => by
    have hb := DM1.out.now.1.below hV
    have K := feedFrom_any tp pv L1 pl ql ((m1.dt.drop Q).take (i - Q)) pa (ca1 - Q) V (EN.out V hV) hl GL.out BL.out (BAt.part hb Q (i - Q) (by omega) pa (fun h b o e => by cases e; rw [hpa h]; simp)) (Byt.of (fun x hx => G1.out.ub.mem x (List.mem_of_mem_drop (List.mem_of_mem_take hx)))) (by omega)
    rw [dl] at K
    exact K.mono (fun e w' h => h.fl))
  rw [e2] at KF1
  rw [e1] at KF1 b1
  clear e1 e2 tl dl gL bL MATH
  generalize (ckR L1 m1.dt Q i).1.length = T2 at *
  generalize (ckR L1 m1.dt Q i).2 = H2 at *
  have ci0 : ¬ (i : Int) < 0 := by omega
  have ci1 : ¬ (m1.dt.length : Int) < (i : Int) := by omega
  have ci2 : ¬ (Q : Int) < 0 := by omega
  have ci3 : ¬ (i : Int) < (Q : Int) := by omega
  have ci4 : (i : Int) ≤ (ca1 : Int) := by omega
  have ci5 : (0 : Int) ≤ (i : Int) := by omega
  have ci6 : (Q : Int) ≤ (i : Int) := by omega
  have ci7 : (0 : Int) ≤ (Q : Int) := by omega
  go_wp2_with fail
  refine (KF1.out wB HB.out).mono ?_
  rintro e w5 ⟨ta, tc, ha, hc', rfl, hbh, -, hb5⟩
  have N5 := below_new w5 (.cells #[.int .i64 0, .slice ta (y + T2) tc, .slice ha H2.length hc'] 41)
  have M5 := hb5.trans (N5.mono hb5.size)
  have HB := Hid.mk' (HB.out.trans (M5.mono HB.out.size))
  have R1 := Hid.mk' (R1.out.below M5)
  have RC := Hid.mk' (RC.out.below M5)
  have HL := Hid.mk' (HL.out.below M5)
  have RR := Hid.mk' (RowA.new w5 41 #[.int .i64 0, .slice ta (y + T2) tc, .slice ha H2.length hc'])
  have HH := Hid.mk' (hbh.below N5)
  clear hb5 N5 M5 hbh KF1 x0 x1 x2 x3 x4 z0 z1 z2 z3
  generalize hW5 : w5.alloc (.cells #[.int .i64 0, .slice ta (y + T2) tc, .slice ha H2.length hc'] 41) = W5 at *
  go_wp2_with fail
  clear hW5
  generalize hVd : W5.drew = V6 at *
  have HCE : Hid (∀ v, Below V6.heap.size V6 v → (fun v => v.cell? ⟨w2.heap.size, 0, none⟩ = some (.slice (some ⟨ba, 0, none⟩) m1.dt.length ca1) ∧ v.cell? ⟨w3.heap.size, 1, none⟩ = some (.int .i64 (Q : Int)) ∧ v.cell? ⟨w3.heap.size, 3, none⟩ = some (.slice pL L1.length qL)) v) := Hid.mk' (fun v hb => ⟨(RowA.below (w := V6) (by rw [← hVd]; exact R1.out) hb).cell 0 _ rfl, (RowA.below (w := V6) (by rw [← hVd]; exact RC.out) hb).cell 1 _ rfl, (RowA.below (w := V6) (by rw [← hVd]; exact RC.out) hb).cell 3 _ rfl⟩)
  have HB6 : Hid (Below W2.heap.size W2 V6) := Hid.mk' (by rw [← hVd]; exact HB.out.drew)
  have R16 : Hid (RowA V6 w2.heap.size 27 #[.slice (some ⟨ba, 0, none⟩) m1.dt.length ca1, .int .i64 m1.st, .slice t1 m1.tk.length ct1, .slice u1 m1.hd.length cu1, .slice c1 m1.cs.length cc1]) := Hid.mk' (by rw [← hVd]; exact R1.out)
  have RC6 : Hid (RowA V6 w3.heap.size 33 #[.int .i64 0, .int .i64 (Q : Int), .int .i64 (y : Int), .slice pL L1.length qL]) := Hid.mk' (by rw [← hVd]; exact RC.out)
  have RR6 : Hid (RowA V6 w5.heap.size 41 #[.int .i64 0, .slice ta (y + T2) tc, .slice ha H2.length hc']) := Hid.mk' (by rw [← hVd]; exact RR.out)
  have BH6 : Hid (BAt V6 ha H2) := Hid.mk' (by rw [← hVd]; exact HH.out.below (Below.refl _ _).drew)
  have BL6 : Hid (BAt V6 pL L1) := Hid.mk' (by rw [← hVd]; exact HL.out.below (Below.refl _ _).drew)
  refine wp_region_held_drew (S := (fun v => v.cell? ⟨w2.heap.size, 0, none⟩ = some (.slice (some ⟨ba, 0, none⟩) m1.dt.length ca1) ∧ v.cell? ⟨w3.heap.size, 1, none⟩ = some (.int .i64 (Q : Int)) ∧ v.cell? ⟨w3.heap.size, 3, none⟩ = some (.slice pL L1.length qL))) (by kernel_rfl) (by rw [hVd]; exact HCE.out _ (Below.refl _ _)) (fun hHeld => ?_)
  rw [hVd] at hHeld ⊢
  clear hVd R1 RC RR HH HL HB
  refine tkY 0 ?_
  refine tkY 1 ?_
  refine tkY 2 ?_
  refine tkY 3 ?_
  refine tkY 4 ?_
  refine tkY 5 ?_
  refine tkY 6 ?_
  refine tkY 7 ?_
  refine tkY 8 ?_
  refine tkY 9 ?_
  refine tkY 10 ?_

  generalize hpa : (if ca1 = Q then (some ⟨ba, 0, none⟩ : Option Addr) else some ⟨ba, Q, none⟩) = PA at *
  have HPA : Hid (0 < i - Q → PA = some ⟨ba, Q, none⟩) := Hid.mk' (fun h => by rw [← hpa, if_neg (by omega)])
  clear hpa
  have BB := Hid.mk' (BB.out.trans (HB6.out.mono BB.out.size))
  have B6 := Hid.mk' (Below.refl V6.heap.size V6)
  have lv2 : Hid (w2.heap.size < V6.heap.size) := Hid.mk' R16.out.lt
  refine wpAnyH_ready (rs := [11, 12]) (by kernel_rfl) (by simp) ?_
  refine AllReadyH.cons (o := ⟨_, _, _, _, _, _⟩) rfl (fun K9 hK => ?_) (AllReadyH.cons (o := ⟨_, _, _, _, _, _⟩) rfl (fun K9 hK => ?_) AllReadyH.nil)
  · go_simp
    refine (KF2.out _ PA (HB6.out.trans (B6.out.mono HB6.out.size)) HPA.out pL qL (BL6.out.below B6.out)).mono ?_
    rintro e1 v1 ⟨tb, td, hb_, hd_, rfl, hbx, hlo, hbb⟩
    have BX := Hid.mk' hbx
    have NE0 : Hid (∀ b o, hb_ = some ⟨b, o, none⟩ → H2 ≠ [] → b ≠ v1.heap.size) := Hid.mk' (fun b o e hl => by have := bat_lt hbx e hl; omega)
    have B6 := Hid.mk' (B6.out.trans (hbb.mono B6.out.size))
    clear hbx hlo hbb
    refine hK.out _ _ (HCE.out _ B6.out) (fun hHeld => ?_)
    clear hK K9
    try simp only [Act.put, zA, zB, zC]
    refine wpAnyH_ready (rs := [12]) (by kernel_rfl) (by simp) ?_
    refine AllReadyH.cons (o := ⟨_, _, _, _, _, _⟩) rfl (fun K9 hK => ?_) AllReadyH.nil
    go_simp
    have hbb := below_new v1 (.cells #[.int .i64 0, .slice none 0 0, .slice none 0 0] 41)
    have BO : Hid (V6.heap.size ≤ v1.heap.size) := Hid.mk' B6.out.size
    have FX := Hid.mk' (RowA.new v1 41 #[.int .i64 0, .slice none 0 0, .slice none 0 0])
    have SF : Hid (v1.heap.size < (v1.alloc (.cells #[.int .i64 0, .slice none 0 0, .slice none 0 0] 41)).heap.size) := Hid.mk' (by simp)
    have BX := Hid.mk' (BX.out.below hbb)
    have NE := NE0
    have B6 := Hid.mk' (B6.out.trans (hbb.mono B6.out.size))
    clear hbb
    refine hK.out _ _ (HCE.out _ B6.out) (fun hHeld => ?_)
    clear hK K9
    try simp only [Act.put, zA, zB, zC]
    generalize hvv : (v1.alloc (.cells #[.int .i64 0, .slice none 0 0, .slice none 0 0] 41)) = v9 at *
    clear hvv
    refine wpAnyH_ready (rs := [13]) (by kernel_rfl) (by simp) ?_
    refine AllReadyH.cons (o := ⟨_, _, _, _, _, _⟩) rfl (fun K9 hK => ?_) AllReadyH.nil
    refine step_store_row rfl 41 (.tmp 9) (.tmp 79) rfl (v1.heap.size) #[.int .i64 0, .slice tb T2 td, .slice hb_ H2.length hd_] rfl rfl 41 #[.int .i64 0, .slice none 0 0, .slice none 0 0] FX.out (by kernel_rfl) rfl (by kernel_rfl) ?_
    have BS := RowA.putBelow B6.out BO.out #[.int .i64 0, .slice tb T2 td, .slice hb_ H2.length hd_]
    refine hK.out _ _ (HCE.out _ BS) (fun hHeld => ?_)
    clear hK K9
    try simp only [Act.put, zA, zB, zC]
    refine wpAnyH_done (by kernel_rfl) ?_ _
    clear hHeld
    have RX := Hid.mk' (FX.out.put #[.int .i64 0, .slice tb T2 td, .slice hb_ H2.length hd_])
    have BU := Hid.mk' BS
    have BXU := Hid.mk' (bat_row BX.out NE.out #[.int .i64 0, .slice tb T2 td, .slice hb_ H2.length hd_])
    clear BS BX FX NE B6
    generalize hU : (v9.setRow (v1.heap.size) #[.int .i64 0, .slice tb T2 td, .slice hb_ H2.length hd_]) = U at *
    clear hU
    have BHU := Hid.mk' (BH6.out.below BU.out)
    have x0 := (R16.out.below BU.out).cell 0 _ rfl
    have x1 := (R16.out.below BU.out).cell 1 _ rfl
    have z1 := (RC6.out.below BU.out).cell 1 _ rfl
    have z2 := (RC6.out.below BU.out).cell 2 _ rfl
    have r1 := (RR6.out.below BU.out).cell 1 _ rfl
    have r2 := (RR6.out.below BU.out).cell 2 _ rfl
    have k1 := RX.out.cell 1 _ rfl
    have k2 := RX.out.cell 2 _ rfl
    have KSS : Hid (Calls Tryz.prog 16 #[.agg #[.slice hb_ H2.length hd_], .agg #[.slice ha H2.length hc']] U fun e w' => e = .returned (.bool true) ∧ Below U.heap.size U w') := Hid.mk' ((implSS_any hb_ ha hd_ hc' H2 H2 U BXU.out BHU.out).mono (fun e w' h => ⟨by rw [h.1, beq_self_eq_true], h.2⟩))
    have BF := Hid.mk' (BB.out.trans (BU.out.mono BB.out.size))
    have cq : (i : Int) - (Q : Int) < (s : Int) := by omega
    have wq : IntKind.i64.wrap ((i : Int) - (Q : Int)) = (i : Int) - (Q : Int) := by rw [IntKind.wrap_i64]; omega
    have hm0 : (Q : Int).tmod (s : Int) = 0 := by
      have h : (Q : Int).tmod (s : Int) = ((Q % s : Nat) : Int) := rfl
      rw [h, hmod]; rfl
    have hs0 : ¬ (s : Int) = 0 := by omega
    have wy : IntKind.i64.wrap ((y : Int) + (T2 : Int)) = (y : Int) + (T2 : Int) := by rw [IntKind.wrap_i64]; omega
    go_wp2_with fail
    refine KSS.out.mono ?_
    rintro e w9 ⟨rfl, hb9⟩
    have z2' := ((RC6.out.below BU.out).below hb9).cell 2 _ rfl
    have r1' := ((RR6.out.below BU.out).below hb9).cell 1 _ rfl
    have k1' := (RX.out.below hb9).cell 1 _ rfl
    have HF := Hid.mk' (BF.out.trans (hb9.mono BF.out.size))
    clear x0 x1 z1 z2 r1 r2 k1 k2
    have hy : ((y + T2 : Nat) : Int) = (y : Int) + (T2 : Int) := Int.natCast_add _ _
    go_wp2
    go_ret
    exact ⟨rfl, HF.out⟩
  · go_simp
    have hbb := below_new V6 (.cells #[.int .i64 0, .slice none 0 0, .slice none 0 0] 41)
    have BO : Hid (V6.heap.size ≤ V6.heap.size) := Hid.mk' B6.out.size
    have FX := Hid.mk' (RowA.new V6 41 #[.int .i64 0, .slice none 0 0, .slice none 0 0])
    have SF : Hid (V6.heap.size < (V6.alloc (.cells #[.int .i64 0, .slice none 0 0, .slice none 0 0] 41)).heap.size) := Hid.mk' (by simp)
    have B6 := Hid.mk' (B6.out.trans (hbb.mono B6.out.size))
    clear hbb
    refine hK.out _ _ (HCE.out _ B6.out) (fun hHeld => ?_)
    clear hK K9
    try simp only [Act.put, zA, zB, zC]
    generalize hvv : (V6.alloc (.cells #[.int .i64 0, .slice none 0 0, .slice none 0 0] 41)) = v9 at *
    clear hvv
    refine wpAnyH_ready (rs := [11]) (by kernel_rfl) (by simp) ?_
    refine AllReadyH.cons (o := ⟨_, _, _, _, _, _⟩) rfl (fun K9 hK => ?_) AllReadyH.nil
    go_simp
    refine (KF2.out _ PA (HB6.out.trans (B6.out.mono HB6.out.size)) HPA.out pL qL (BL6.out.below B6.out)).mono ?_
    rintro e1 v1 ⟨tb, td, hb_, hd_, rfl, hbx, hlo, hbb⟩
    have BX := Hid.mk' hbx
    have FX := Hid.mk' (FX.out.below hbb)
    have NE : Hid (∀ b o, hb_ = some ⟨b, o, none⟩ → H2 ≠ [] → b ≠ V6.heap.size) := Hid.mk' (fun b o e _ => by have := hlo b o e; have := SF.out; omega)
    have B6 := Hid.mk' (B6.out.trans (hbb.mono B6.out.size))
    clear hbx hlo hbb
    refine hK.out _ _ (HCE.out _ B6.out) (fun hHeld => ?_)
    clear hK K9
    try simp only [Act.put, zA, zB, zC]
    refine wpAnyH_ready (rs := [13]) (by kernel_rfl) (by simp) ?_
    refine AllReadyH.cons (o := ⟨_, _, _, _, _, _⟩) rfl (fun K9 hK => ?_) AllReadyH.nil
    refine step_store_row rfl 41 (.tmp 9) (.tmp 79) rfl (V6.heap.size) #[.int .i64 0, .slice tb T2 td, .slice hb_ H2.length hd_] rfl rfl 41 #[.int .i64 0, .slice none 0 0, .slice none 0 0] FX.out (by kernel_rfl) rfl (by kernel_rfl) ?_
    have BS := RowA.putBelow B6.out BO.out #[.int .i64 0, .slice tb T2 td, .slice hb_ H2.length hd_]
    refine hK.out _ _ (HCE.out _ BS) (fun hHeld => ?_)
    clear hK K9
    try simp only [Act.put, zA, zB, zC]
    refine wpAnyH_done (by kernel_rfl) ?_ _
    clear hHeld
    have RX := Hid.mk' (FX.out.put #[.int .i64 0, .slice tb T2 td, .slice hb_ H2.length hd_])
    have BU := Hid.mk' BS
    have BXU := Hid.mk' (bat_row BX.out NE.out #[.int .i64 0, .slice tb T2 td, .slice hb_ H2.length hd_])
    clear BS BX FX NE B6
    generalize hU : (v1.setRow (V6.heap.size) #[.int .i64 0, .slice tb T2 td, .slice hb_ H2.length hd_]) = U at *
    clear hU
    have BHU := Hid.mk' (BH6.out.below BU.out)
    have x0 := (R16.out.below BU.out).cell 0 _ rfl
    have x1 := (R16.out.below BU.out).cell 1 _ rfl
    have z1 := (RC6.out.below BU.out).cell 1 _ rfl
    have z2 := (RC6.out.below BU.out).cell 2 _ rfl
    have r1 := (RR6.out.below BU.out).cell 1 _ rfl
    have r2 := (RR6.out.below BU.out).cell 2 _ rfl
    have k1 := RX.out.cell 1 _ rfl
    have k2 := RX.out.cell 2 _ rfl
    have KSS : Hid (Calls Tryz.prog 16 #[.agg #[.slice hb_ H2.length hd_], .agg #[.slice ha H2.length hc']] U fun e w' => e = .returned (.bool true) ∧ Below U.heap.size U w') := Hid.mk' ((implSS_any hb_ ha hd_ hc' H2 H2 U BXU.out BHU.out).mono (fun e w' h => ⟨by rw [h.1, beq_self_eq_true], h.2⟩))
    have BF := Hid.mk' (BB.out.trans (BU.out.mono BB.out.size))
    have cq : (i : Int) - (Q : Int) < (s : Int) := by omega
    have wq : IntKind.i64.wrap ((i : Int) - (Q : Int)) = (i : Int) - (Q : Int) := by rw [IntKind.wrap_i64]; omega
    have hm0 : (Q : Int).tmod (s : Int) = 0 := by
      have h : (Q : Int).tmod (s : Int) = ((Q % s : Nat) : Int) := rfl
      rw [h, hmod]; rfl
    have hs0 : ¬ (s : Int) = 0 := by omega
    have wy : IntKind.i64.wrap ((y : Int) + (T2 : Int)) = (y : Int) + (T2 : Int) := by rw [IntKind.wrap_i64]; omega
    go_wp2_with fail
    refine KSS.out.mono ?_
    rintro e w9 ⟨rfl, hb9⟩
    have z2' := ((RC6.out.below BU.out).below hb9).cell 2 _ rfl
    have r1' := ((RR6.out.below BU.out).below hb9).cell 1 _ rfl
    have k1' := (RX.out.below hb9).cell 1 _ rfl
    have HF := Hid.mk' (BF.out.trans (hb9.mono BF.out.size))
    clear x0 x1 z1 z2 r1 r2 k1 k2
    have hy : ((y + T2 : Nat) : Int) = (y : Int) + (T2 : Int) := Int.natCast_add _ _
    go_wp2
    go_ret
    exact ⟨rfl, HF.out⟩

end Go.Proofs.YtieeojhdidjnaaaGreatDoor
