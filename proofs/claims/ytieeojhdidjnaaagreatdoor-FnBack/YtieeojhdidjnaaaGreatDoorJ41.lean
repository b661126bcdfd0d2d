/- The law FnBack. -/
import Derived.Test.YtieeojhdidjnaaaGreatDoorJ37
import Derived.Test.YtieeojhdidjnaaaGreatDoorJ38
import Derived.Test.YtieeojhdidjnaaaGreatDoorJ40
import Derived.Test.YtieeojhdidjnaaaGreatDoorJ29
import Derived.Deep.RegionHeld3
import Derived.BigGuard
set_option maxHeartbeats 8000000
set_option maxRecDepth 100000
set_option linter.unusedVariables false
set_option linter.unusedSimpArgs false
namespace Go.Proofs.YtieeojhdidjnaaaGreatDoor
open Go.RowKit
theorem eM_le (m : ME) (A N : Int) (p : List Int) : (msz (eM m A N p) : Int) ≤ 1048576 := by
 unfold eM
 split
 ·rename_i h
  obtain ⟨h1, h2⟩ := edC_ok h
  obtain ⟨g1, g2, g3, g4⟩ := spC_zero h2
  obtain ⟨h240, -⟩ := memF_ok h1
  have := mem_small (spl m.dt A.toNat N.toNat p) m.st.toNat (by rw [spl_len (by omega)]; omega)
  omega
 ·decide
theorem bat_mid {w : World} {b i j : Nat} {d : List Int} (h : BAt w (some ⟨b, 0, none⟩) d) (hij : i + j ≤ d.length) : BAt w (some ⟨b, i, none⟩) ((d.drop i).take j) := by
 rcases h with h | ⟨b1, o1, e1, hb, hc⟩
 ·exact .inl (by rw [h]; simp)
 ·cases e1
  refine .inr ⟨b, i, rfl, hb, fun k hk => ?_⟩
  rw [List.length_take, List.length_drop] at hk
  have h1 := hc (i + k) (by omega)
  rw [Nat.zero_add] at h1
  rw [h1]
  unfold bv
  rw [List.getD_eq_getElem?_getD, List.getD_eq_getElem?_getD, List.getElem?_take_of_lt (by omega), List.getElem?_drop]
theorem fMR0 (c v st : Int) (a b d e : Value) (w : World) : (Instr.field 50 (.agg #[.int .i64 c, .int .i64 v, a, .int .i64 st, b, d, e]) 0).run Tryz.prog w = .ok (.int .i64 c) w := by kernel_rfl
theorem fMR1 (c v st : Int) (a b d e : Value) (w : World) : (Instr.field 50 (.agg #[.int .i64 c, .int .i64 v, a, .int .i64 st, b, d, e]) 1).run Tryz.prog w = .ok (.int .i64 v) w := by kernel_rfl
def EdA (m : ME) (A N : Int) (p : List Int) (V : World) (e : Ending) (w' : World) : Prop :=
 ∃ (y1 y2 y3 y4 : Option Addr) (y5 y6 y7 y8 : Nat), e = .returned (.agg #[.int .i64 (edC m A N p), .int .i64 (eR m A N p), .slice y1 (eM m A N p).dt.length y5, .int .i64 (eM m A N p).st, .slice y2 (eM m A N p).tk.length y6, .slice y3 (eM m A N p).hd.length y7, .slice y4 (eM m A N p).cs.length y8]) ∧ (∀ z : World, w'.heap.size ≤ z.heap.size → (∀ q, V.heap.size ≤ q → q < w'.heap.size → z.heap[q]? = w'.heap[q]?) → MAt z y1 y2 y3 y4 (eM m A N p)) ∧ (eM m A N p).dt.length ≤ y5 ∧ Below V.heap.size V w'
theorem edA_of {m : ME} {a t u c : Option Addr} {ca ct cu cc : Nat} {A N : Int} {e : Option Addr} {d : Nat} {p : List Int} {V : World} (h : Calls Tryz.prog 23 #[.agg #[.slice a m.dt.length ca, .int .i64 m.st, .slice t m.tk.length ct, .slice u m.hd.length cu, .slice c m.cs.length cc], .int .i64 A, .int .i64 N, .slice e p.length d] V fun ev w' => ∃ tau vd tv hv cv us rs bl bh hvs, ev = .returned (.agg #[.int .i64 (edC m A N p), .int .i64 (eR m A N p), vd, .int .i64 (eM m A N p).st, tv, hv, cv]) ∧ GM V.heap.size w'.heap.size tau (eM m A N p) vd tv hv cv us rs bl bh hvs w' ∧ Below V.heap.size V w') :
  Calls Tryz.prog 23 #[.agg #[.slice a m.dt.length ca, .int .i64 m.st, .slice t m.tk.length ct, .slice u m.hd.length cu, .slice c m.cs.length cc], .int .i64 A, .int .i64 N, .slice e p.length d] V fun ev w' => EdA m A N p V ev w' := by
 refine h.mono ?_
 rintro e w' ⟨tau, vd, tv, hv, cv, us, rs, bl, bh, hvs, rfl, gm, hb⟩
 obtain ⟨y1, y5, rfl, -, hc⟩ := gm.d.lenc
 obtain ⟨z1, y2, y3, y4, z5, y6, y7, y8, e1, rfl, rfl, rfl, -⟩ := gm.at
 injection e1 with e1 _ _
 subst e1
 refine ⟨_, _, _, _, _, _, _, _, rfl, fun z hz hzk => ?_, hc, hb⟩
 obtain ⟨_, _, _, _, _, _, _, _, e1, e2, e3, e4, h⟩ := (gm.keepIn hz hzk).at
 simp only [Value.slice.injEq] at e1 e2 e3 e4
 obtain ⟨rfl, -⟩ := e1
 obtain ⟨rfl, -⟩ := e2
 obtain ⟨rfl, -⟩ := e3
 obtain ⟨rfl, -⟩ := e4
 exact h
theorem lawFB_any (q : Option Addr) (c' : Nat) (l : List Int) (tp : TypeId) (pv : Value) (w : World) (hE : Env w.heap.size tp pv w) (hd : BAt w q l) (hu : Byt l) (hl : (l.length : Int) ≤ 9223372036854775807) :
  Calls Tryz.prog 7 #[.slice q l.length c'] w fun e w' => e = .returned (.bool true) ∧ Below w.heap.size w w' := by
 have K0 := Hid.mk' (lwBigF_any q c' l.length w)
 by_cases g1 : (1048576 : Int) < (l.length : Int)
 ·go_enter Tryz.func7, Tryz.ntmps7
  go_wp2_with fail
  refine K0.out.mono ?_
  rintro e w1 ⟨rfl, hw1⟩
  obtain rfl := hw1.symm
  rw [decide_eq_true g1]
  go_wp2
  go_ret
  exact ⟨rfl, Below.refl _ _⟩
 have ll : (l.length : Int) ≤ 1048576 := by omega
 have HE := Hid.mk' hE
 have KA := Hid.mk' (drawEM_any q c' l w hd hu ll)
 clear hd hu hE
 go_enter Tryz.func7, Tryz.ntmps7
 go_wp2_with fail
 refine K0.out.mono ?_
 rintro e w1 ⟨rfl, hw1⟩
 obtain rfl := hw1.symm
 rw [decide_eq_false (show ¬ (1048576 : Int) < (l.length : Int) by omega)]
 clear K0 g1 hw1
 go_wp2_with fail
 refine KA.out.mono ?_
 rintro e w2 ⟨m1, a1, t1, u1, c1, ca1, ct1, cu1, cc1, A1, N1, p1, e1, d1, rfl, hM1, hG1, hP1, bp1, xa1, ya1, xn1, yn1, lp1, hb2⟩
 have N2 := below_new w2 (.cells #[.slice a1 m1.dt.length ca1, .int .i64 m1.st, .slice t1 m1.tk.length ct1, .slice u1 m1.hd.length cu1, .slice c1 m1.cs.length cc1] 27)
 have BB := Hid.mk' (hb2.trans (N2.mono hb2.size))
 have DM1 := Hid.mk' (hM1.below N2)
 have BP1 : Hid (∀ z, Below (w2.alloc (.cells #[.slice a1 m1.dt.length ca1, .int .i64 m1.st, .slice t1 m1.tk.length ct1, .slice u1 m1.hd.length cu1, .slice c1 m1.cs.length cc1] 27)).heap.size (w2.alloc (.cells #[.slice a1 m1.dt.length ca1, .int .i64 m1.st, .slice t1 m1.tk.length ct1, .slice u1 m1.hd.length cu1, .slice c1 m1.cs.length cc1] 27)) z → BAt z e1 p1) := Hid.mk' (fun z hz => hP1 z (Nat.le_trans N2.size hz.size) (fun q _ h2 => (hz.block q (Nat.lt_of_lt_of_le h2 N2.size)).trans (N2.block q h2)))
 have G1 := Hid.mk' hG1
 have Q1 := Hid.mk' bp1
 have R1 := Hid.mk' (row5 w2 27 (.slice a1 m1.dt.length ca1) (.int .i64 m1.st) (.slice t1 m1.tk.length ct1) (.slice u1 m1.hd.length cu1) (.slice c1 m1.cs.length cc1))
 have ml1 := hG1.dl
 clear hM1 hG1 hP1 bp1 hb2 N2 KA
 generalize hW2 : w2.alloc (.cells #[.slice a1 m1.dt.length ca1, .int .i64 m1.st, .slice t1 m1.tk.length ct1, .slice u1 m1.hd.length cu1, .slice c1 m1.cs.length cc1] 27) = W2 at *
 obtain ⟨x0, x1, x2, x3, x4, x5⟩ := cells5 R1.out
 have b1a : -9223372036854775808 ≤ A1 := by omega
 have b1b : A1 ≤ 9223372036854775807 := by omega
 have b1c : -9223372036854775808 ≤ N1 := by omega
 have b1d : N1 ≤ 9223372036854775807 := by omega
 have hz1 : (msz m1 : Int) ≤ 1048576 := by have := G1.out.sz; omega
 have hp1 : p1.length ≤ 1048576 := by omega
 have EN : Hid (∀ V, Below W2.heap.size W2 V → Env V.heap.size tp pv V) := Hid.mk' (fun V hV => (HE.out.keep (BB.out.trans (hV.mono BB.out.size))).up (Nat.le_trans BB.out.size hV.size) (Nat.le_refl _))
 have KE : Hid (∀ V, Below W2.heap.size W2 V → Calls Tryz.prog 23 #[.agg #[.slice a1 m1.dt.length ca1, .int .i64 m1.st, .slice t1 m1.tk.length ct1, .slice u1 m1.hd.length cu1, .slice c1 m1.cs.length cc1], .int .i64 A1, .int .i64 N1, .slice e1 p1.length d1] V fun e w' => EdA m1 A1 N1 p1 V e w') := Hid.mk' (fun V hV => edA_of (implEM_any tp pv m1 a1 t1 u1 c1 ca1 ct1 cu1 cc1 A1 N1 e1 d1 p1 V (EN.out V hV) (DM1.out.below hV).now DM1.out.ka G1.out.ub Q1.out hz1 (BP1.out V hV) hp1 b1a b1b b1c b1d))
 have KES : Hid (∀ V, Below W2.heap.size W2 V → Calls Tryz.prog 39 #[.agg #[.slice a1 m1.dt.length ca1, .int .i64 m1.st, .slice t1 m1.tk.length ct1, .slice u1 m1.hd.length cu1, .slice c1 m1.cs.length cc1], .int .i64 A1, .int .i64 N1, .slice e1 p1.length d1] V fun e w' => ∃ (y1 y2 y3 y4 : Option Addr) (y5 y6 y7 y8 : Nat), e = .returned (.agg #[.int .i64 (edC m1 A1 N1 p1), .int .i64 (eR m1 A1 N1 p1), .slice y1 (eM m1 A1 N1 p1).dt.length y5, .int .i64 (eM m1 A1 N1 p1).st, .slice y2 (eM m1 A1 N1 p1).tk.length y6, .slice y3 (eM m1 A1 N1 p1).hd.length y7, .slice y4 (eM m1 A1 N1 p1).cs.length y8]) ∧ Below V.heap.size V w') := Hid.mk' (fun V hV => (specEM_dm m1 a1 t1 u1 c1 ca1 ct1 cu1 cc1 A1 N1 e1 d1 p1 V (DM1.out.below hV).now DM1.out.ka DM1.out.kt DM1.out.af DM1.out.tf DM1.out.cf (BP1.out V hV) Q1.out G1.out.ub G1.out.cb G1.out.tb G1.out.hb hz1 hp1 b1a b1b b1c b1d).mono (fun e w' h => by
  obtain ⟨y1, y2, y3, y4, y5, y6, y7, y8, rfl, -, hb⟩ := h
  exact ⟨_, _, _, _, _, _, _, _, rfl, hb⟩))
 have KFI : Hid (∀ V, Below W2.heap.size W2 V → Calls Tryz.prog 31 #[.agg #[.slice a1 m1.dt.length ca1, .int .i64 m1.st, .slice t1 m1.tk.length ct1, .slice u1 m1.hd.length cu1, .slice c1 m1.cs.length cc1]] V fun e w' => e = .returned (.int .i64 (memF m1)) ∧ Below V.heap.size V w') := Hid.mk' (fun V hV => implMF_any tp pv m1 a1 t1 u1 c1 ca1 ct1 cu1 cc1 V (EN.out V hV) (DM1.out.below hV).now DM1.out.ka G1.out.ub hz1)
 have KFS : Hid (∀ V, Below W2.heap.size W2 V → Calls Tryz.prog 32 #[.agg #[.slice a1 m1.dt.length ca1, .int .i64 m1.st, .slice t1 m1.tk.length ct1, .slice u1 m1.hd.length cu1, .slice c1 m1.cs.length cc1]] V fun e w' => e = .returned (.int .i64 (memF m1)) ∧ Below V.heap.size V w') := Hid.mk' (fun V hV => specMF_any m1 a1 t1 u1 c1 ca1 ct1 cu1 cc1 V (DM1.out.below hV).now G1.out.ub hz1)
 go_wp2_with fail
 clear hW2
 refine (KE.out W2 (Below.refl _ _)).mono ?_
 rintro e w3 ⟨y1, y2, y3, y4, y5, y6, y7, y8, rfl, hM3, hc3, hb3⟩
 obtain ⟨C1, hC1⟩ : ∃ C1, edC m1 A1 N1 p1 = C1 := ⟨_, rfl⟩
 have MATH := Hid.mk' (fun h : C1 = 0 => bk_math (hC1.trans h))
 have sz3 := eM_le m1 A1 N1 p1
 rw [hC1] at KES ⊢
 generalize hm3 : eM m1 A1 N1 p1 = m3 at *
 generalize eR m1 A1 N1 p1 = Z1 at *
 have N3 := below_new w3 (.cells #[.int .i64 C1, .int .i64 Z1, .slice y1 m3.dt.length y5, .int .i64 m3.st, .slice y2 m3.tk.length y6, .slice y3 m3.hd.length y7, .slice y4 m3.cs.length y8] 50)
 have HB := Hid.mk' (hb3.trans (N3.mono hb3.size))
 have R1 := Hid.mk' (rowB R1.out HB.out)
 have RE := Hid.mk' (row7 w3 50 (.int .i64 C1) (.int .i64 Z1) (.slice y1 m3.dt.length y5) (.int .i64 m3.st) (.slice y2 m3.tk.length y6) (.slice y3 m3.hd.length y7) (.slice y4 m3.cs.length y8))
 have M3 := Hid.mk' (hM3 _ N3.size (fun q _ h2 => N3.block q h2))
 have HC1 := Hid.mk' hC1
 clear hb3 N3 hM3 hC1 x0 x1 x2 x3 x4 x5
 generalize hW3 : w3.alloc (.cells #[.int .i64 C1, .int .i64 Z1, .slice y1 m3.dt.length y5, .int .i64 m3.st, .slice y2 m3.tk.length y6, .slice y3 m3.hd.length y7, .slice y4 m3.cs.length y8] 50) = W3 at *
 obtain ⟨x0, x1, x2, x3, x4, x5⟩ := cells5 R1.out
 obtain ⟨z0, z1, z2, z3, z4, z5, z6, z7⟩ := cells7 RE.out
 by_cases hc : C1 = 0
 rotate_left
 ·have hne : (C1 != 0) = true := by simp [hc]
  have KES3 : Hid (∀ V, Below W3.heap.size W3 V → Calls Tryz.prog 39 #[.agg #[.slice a1 m1.dt.length ca1, .int .i64 m1.st, .slice t1 m1.tk.length ct1, .slice u1 m1.hd.length cu1, .slice c1 m1.cs.length cc1], .int .i64 A1, .int .i64 N1, .slice e1 p1.length d1] V fun e w' => ∃ (y1 y2 y3 y4 : Option Addr) (y5 y6 y7 y8 : Nat), e = .returned (.agg #[.int .i64 C1, .int .i64 Z1, .slice y1 m3.dt.length y5, .int .i64 m3.st, .slice y2 m3.tk.length y6, .slice y3 m3.hd.length y7, .slice y4 m3.cs.length y8]) ∧ Below W3.heap.size W3 w') := Hid.mk' (fun V hV => (KES.out V (HB.out.trans (hV.mono HB.out.size))).mono (fun e w' h => by
   obtain ⟨y1, y2, y3, y4, y5, y6, y7, y8, h, hb⟩ := h
   exact ⟨y1, y2, y3, y4, y5, y6, y7, y8, h, hV.trans (hb.mono hV.size)⟩))
  have KFI3 : Hid (∀ V, Below W3.heap.size W3 V → Calls Tryz.prog 31 #[.agg #[.slice a1 m1.dt.length ca1, .int .i64 m1.st, .slice t1 m1.tk.length ct1, .slice u1 m1.hd.length cu1, .slice c1 m1.cs.length cc1]] V fun e w' => e = .returned (.int .i64 (memF m1)) ∧ Below W3.heap.size W3 w') := Hid.mk' (fun V hV => (KFI.out V (HB.out.trans (hV.mono HB.out.size))).mono (fun e w' h => ⟨h.1, hV.trans (h.2.mono hV.size)⟩))
  have KFS3 : Hid (∀ V, Below W3.heap.size W3 V → Calls Tryz.prog 32 #[.agg #[.slice a1 m1.dt.length ca1, .int .i64 m1.st, .slice t1 m1.tk.length ct1, .slice u1 m1.hd.length cu1, .slice c1 m1.cs.length cc1]] V fun e w' => e = .returned (.int .i64 (memF m1)) ∧ Below W3.heap.size W3 w') := Hid.mk' (fun V hV => (KFS.out V (HB.out.trans (hV.mono HB.out.size))).mono (fun e w' h => ⟨h.1, hV.trans (h.2.mono hV.size)⟩))
  have HM3 := Hid.mk' hm3
  clear KES KFI KFS hm3
  generalize memF m1 = FF at *
  have bA : Below W3.heap.size W3 W3 := Below.refl _ _
  have f0 := fMR0
  have lA : w2.heap.size < W3.heap.size := R1.out.lt
  have lB : w3.heap.size < W3.heap.size := RE.out.lt
  go_wp2
  clear hW3
  go_region_held3 (fun w' => w'.cell? ⟨w2.heap.size, 0, none⟩ = some (.slice a1 m1.dt.length ca1) ∧ w'.cell? ⟨w2.heap.size, 1, none⟩ = some (.int .i64 m1.st) ∧ w'.cell? ⟨w2.heap.size, 2, none⟩ = some (.slice t1 m1.tk.length ct1) ∧ w'.cell? ⟨w2.heap.size, 3, none⟩ = some (.slice u1 m1.hd.length cu1) ∧ w'.cell? ⟨w2.heap.size, 4, none⟩ = some (.slice c1 m1.cs.length cc1) ∧ w'.cell? ⟨w3.heap.size, 0, none⟩ = some (.int .i64 C1)) (simp [*])
   (first | (go_at_call 39; refine (KES3.out _ (by first | assumption | exact Below.drew (by assumption))).mono ?_; rintro e wB ⟨n1, n2, n3, n4, n5, n6, n7, n8, rfl, hbB⟩; obtain ⟨hx1, hx2⟩ := bcell hbB) | (go_at_call 31; refine (KFI3.out _ (by first | assumption | exact Below.drew (by assumption))).mono ?_; rintro e wC ⟨rfl, hbC⟩; obtain ⟨hx3, hx4⟩ := bcell hbC) | (go_at_call 32; refine (KFS3.out _ (by first | assumption | exact Below.drew (by assumption))).mono ?_; rintro e wD ⟨rfl, hbD⟩; obtain ⟨hx5, hx6⟩ := bcell hbD))
  have HF := Hid.mk' (BB.out.trans ((HB.out.trans (hbD.mono HB.out.size)).mono BB.out.size))
  clear hx1 hx2 hx3 hx4 hx5 hx6
  go_wp2
  go_ret
  exact ⟨rfl, HF.out⟩
 obtain ⟨i, j, s, rfl, rfl, hst, hs, hs2, hat, h240, hp240, hL, he, hcb, heb, hsm⟩ := MATH.out hc
 subst hc
 have HE3 := Hid.mk' he
 have HCB := Hid.mk' hcb
 have HEB := Hid.mk' heb
 have HSM := Hid.mk' hsm
 have HST := Hid.mk' hst
 have HM3 := Hid.mk' hm3
 clear he hcb heb hsm hst hm3
 have d1_ : decide ((i : Int) < 0) = false := by rw [decide_eq_false_iff_not]; omega
 have d2_ : decide ((j : Int) < 0) = false := by rw [decide_eq_false_iff_not]; omega
 have d3_ : decide ((m1.dt.length : Int) < (i : Int)) = false := by rw [decide_eq_false_iff_not]; omega
 have wr1 : IntKind.i64.wrap ((m1.dt.length : Int) - (i : Int)) = (m1.dt.length : Int) - (i : Int) := by rw [IntKind.wrap_i64]; omega
 have d4_ : decide ((m1.dt.length : Int) - (i : Int) < (j : Int)) = false := by rw [decide_eq_false_iff_not]; omega
 go_wp2_with fail
 clear hW3
 obtain ⟨bd, rfl⟩ := DM1.out.af
 have hka := DM1.out.ka
 have hqn : ((m1.dt.drop i).take j).length = j := by rw [List.length_take, List.length_drop]; omega
 have hcb : edC m3 (i : Int) (p1.length : Int) ((m1.dt.drop i).take j) = 0 := by rw [HE3.out]; exact HCB.out
 have heb : eM m3 (i : Int) (p1.length : Int) ((m1.dt.drop i).take j) = memX m1.dt s := by rw [HE3.out]; exact HEB.out
 have bm3 : Byt m3.dt := by rw [HE3.out]; exact byt_spl G1.out.ub Q1.out i j
 have bq : Byt ((m1.dt.drop i).take j) := Byt.of (fun x hx => G1.out.ub.mem x (List.mem_of_mem_drop (List.mem_of_mem_take hx)))
 have hz4 : (msz (memX m1.dt s) : Int) ≤ 1048576 := by have := mem_small m1.dt s h240; omega
 have KB2 : Hid (∀ (V : World) (sl : Option Addr) (cp : Nat), Below W3.heap.size W3 V → BAt V sl ((m1.dt.drop i).take j) → Calls Tryz.prog 23 #[.agg #[.slice y1 m3.dt.length y5, .int .i64 m3.st, .slice y2 m3.tk.length y6, .slice y3 m3.hd.length y7, .slice y4 m3.cs.length y8], .int .i64 (i : Int), .int .i64 (p1.length : Int), .slice sl j cp] V fun e w' => ∃ (n1 n2 n3 n4 : Option Addr) (n5 n6 n7 n8 : Nat) (Z4 : Int), e = .returned (.agg #[.int .i64 0, .int .i64 Z4, .slice n1 (memX m1.dt s).dt.length n5, .int .i64 (memX m1.dt s).st, .slice n2 (memX m1.dt s).tk.length n6, .slice n3 (memX m1.dt s).hd.length n7, .slice n4 (memX m1.dt s).cs.length n8]) ∧ (∀ z : World, w'.heap.size ≤ z.heap.size → (∀ q, V.heap.size ≤ q → q < w'.heap.size → z.heap[q]? = w'.heap[q]?) → MAt z n1 n2 n3 n4 (memX m1.dt s)) ∧ Below V.heap.size V w') := Hid.mk' (fun V sl cp hV hB => by
  have h := edA_of (implEM_any tp pv m3 y1 y2 y3 y4 y5 y6 y7 y8 (i : Int) (p1.length : Int) sl cp ((m1.dt.drop i).take j) V (EN.out V (HB.out.trans (hV.mono HB.out.size))) (M3.out.below hV) hc3 bm3 bq sz3 hB (by rw [hqn]; omega) (by omega) (by omega) (by omega) (by omega))
  rw [hqn] at h
  refine h.mono ?_
  rintro e w' ⟨n1, n2, n3, n4, n5, n6, n7, n8, he, hM, -, hb⟩
  rw [hcb, heb] at he
  rw [heb] at hM
  exact ⟨n1, n2, n3, n4, n5, n6, n7, n8, _, he, hM, hb⟩)
 have KSM : Hid (∀ (V : World) (n1 n2 n3 n4 : Option Addr) (n5 n6 n7 n8 : Nat), Below W3.heap.size W3 V → MAt V n1 n2 n3 n4 (memX m1.dt s) → Calls Tryz.prog 12 #[.agg #[.slice n1 (memX m1.dt s).dt.length n5, .int .i64 (memX m1.dt s).st, .slice n2 (memX m1.dt s).tk.length n6, .slice n3 (memX m1.dt s).hd.length n7, .slice n4 (memX m1.dt s).cs.length n8], .agg #[.slice (some ⟨bd, 0, none⟩) m1.dt.length ca1, .int .i64 m1.st, .slice t1 m1.tk.length ct1, .slice u1 m1.hd.length cu1, .slice c1 m1.cs.length cc1]] V fun e w' => e = .returned (.bool true) ∧ Below V.heap.size V w') := Hid.mk' (fun V n1 n2 n3 n4 n5 n6 n7 n8 hV hM => by
  have h := implSM_any (memX m1.dt s) m1 n1 n2 n3 n4 (some ⟨bd, 0, none⟩) t1 u1 c1 n5 n6 n7 n8 ca1 ct1 cu1 cc1 V hM (DM1.out.below (HB.out.trans (hV.mono HB.out.size))).now hz4 hz1
  rw [HSM.out] at h
  exact h)
 have SLB : Hid (∀ V, Below W3.heap.size W3 V → BAt V (some ⟨bd, i, none⟩) ((m1.dt.drop i).take j)) := Hid.mk' (fun V hV => bat_mid (DM1.out.below (HB.out.trans (hV.mono HB.out.size))).now.1 hat)
 clear hcb heb bm3 bq hz4 HE3 HCB HEB HSM HM3 MATH KE KFI KFS HC1
 generalize memX m1.dt s = m4 at *
 generalize hqq : (m1.dt.drop i).take j = q9 at *
 obtain ⟨z9, hz9⟩ : ∃ z9, i + j = z9 := ⟨_, rfl⟩
 have wr2 : IntKind.i64.wrap ((i : Int) + (j : Int)) = (z9 : Int) := by rw [IntKind.wrap_i64]; omega
 have l1_ : (0 : Int) ≤ (i : Int) := by omega
 have l2_ : (i : Int) ≤ (z9 : Int) := by omega
 have l3_ : (z9 : Int) ≤ (ca1 : Int) := by omega
 have hzj : z9 - i = j := by omega
 have rl3 : w3.heap.size < W3.heap.size := RE.out.lt
 have rl2 : w2.heap.size < W3.heap.size := R1.out.lt
 have SH : Hid (∀ V, Below W3.heap.size W3 V → (fun z => z.cell? ⟨w3.heap.size, 2, none⟩ = some (.slice y1 m3.dt.length y5) ∧ z.cell? ⟨w3.heap.size, 3, none⟩ = some (.int .i64 m3.st) ∧ z.cell? ⟨w3.heap.size, 4, none⟩ = some (.slice y2 m3.tk.length y6) ∧ z.cell? ⟨w3.heap.size, 5, none⟩ = some (.slice y3 m3.hd.length y7) ∧ z.cell? ⟨w3.heap.size, 6, none⟩ = some (.slice y4 m3.cs.length y8) ∧ z.cell? ⟨w2.heap.size, 0, none⟩ = some (.slice (some ⟨bd, 0, none⟩) m1.dt.length ca1)) V) := Hid.mk' (fun V hV => ⟨(hV.cell (p := ⟨w3.heap.size, 2, none⟩) rl3).trans z2, (hV.cell (p := ⟨w3.heap.size, 3, none⟩) rl3).trans z3, (hV.cell (p := ⟨w3.heap.size, 4, none⟩) rl3).trans z4, (hV.cell (p := ⟨w3.heap.size, 5, none⟩) rl3).trans z5, (hV.cell (p := ⟨w3.heap.size, 6, none⟩) rl3).trans z6, (hV.cell (p := ⟨w2.heap.size, 0, none⟩) rl2).trans x0⟩)
 have HBQ : Hid (∀ V, Below W3.heap.size W3 V → BAt V (if ca1 = i then some ⟨bd, 0, none⟩ else some ⟨bd, i, none⟩) q9) := Hid.mk' (fun V hV => by
  by_cases hci : ca1 = i
  ·exact .inl (List.eq_nil_of_length_eq_zero (by omega))
  ·rw [if_neg hci]; exact SLB.out V hV)
 refine wp_region_held_drew (S := (fun z => z.cell? ⟨w3.heap.size, 2, none⟩ = some (.slice y1 m3.dt.length y5) ∧ z.cell? ⟨w3.heap.size, 3, none⟩ = some (.int .i64 m3.st) ∧ z.cell? ⟨w3.heap.size, 4, none⟩ = some (.slice y2 m3.tk.length y6) ∧ z.cell? ⟨w3.heap.size, 5, none⟩ = some (.slice y3 m3.hd.length y7) ∧ z.cell? ⟨w3.heap.size, 6, none⟩ = some (.slice y4 m3.cs.length y8) ∧ z.cell? ⟨w2.heap.size, 0, none⟩ = some (.slice (some ⟨bd, 0, none⟩) m1.dt.length ca1))) (by kernel_rfl) ⟨z2, z3, z4, z5, z6, x0⟩ (fun hHeld => ?_)
 refine tkY 0 ?_
 refine tkY 1 ?_
 refine tkY 2 ?_
 refine tkY 3 ?_
 refine tkY 4 ?_
 refine tkY 5 ?_
 refine tkY 6 ?_
 refine tkY 7 ?_
 refine tkY 8 ?_
 refine tkY 9 ?_
 refine tkY 10 ?_
 refine tkY 11 ?_
 refine wpAnyH_ready (rs := [12, 13]) (by kernel_rfl) (by simp) ?_
 refine AllReadyH.cons (o := ⟨_, _, _, _, _, _⟩) rfl (fun K9 hK => ?_) (AllReadyH.cons (o := ⟨_, _, _, _, _, _⟩) rfl (fun K9 hK => ?_) AllReadyH.nil)
 ·go_simp

  refine (KB2.out _ _ _ (Below.refl _ _).drew (HBQ.out _ (Below.refl _ _).drew)).mono ?_
  rintro e w4 ⟨n1, n2, n3, n4, n5, n6, n7, n8, Z4, rfl, hM4, hb4⟩
  replace hb4 := undrew hb4
  refine hK.out _ _ (SH.out _ hb4) (fun hHeld => ?_)
  clear hK K9
  try simp only [Act.put, zA, zB, zC]
  refine wpAnyH_ready (rs := [13]) (by kernel_rfl) (by simp) ?_
  refine AllReadyH.cons (o := ⟨_, _, _, _, _, _⟩) rfl (fun K9 hK => ?_) AllReadyH.nil
  go_simp
  have N5 := below_new w4 (.cells #[.int .i64 0, .int .i64 0, .slice none 0 0, .int .i64 0, .slice none 0 0, .slice none 0 0, .slice none 0 0] 50)
  refine hK.out _ _ (SH.out _ (hb4.trans (N5.mono hb4.size))) (fun hHeld => ?_)
  clear hK K9
  try simp only [Act.put, zA, zB, zC]
  refine wpAnyH_ready (rs := [14]) (by kernel_rfl) (by simp) ?_
  refine AllReadyH.cons (o := ⟨_, _, _, _, _, _⟩) rfl (fun K9 hK => ?_) AllReadyH.nil
  have N6 := below_new w4 (.cells #[.int .i64 0, .int .i64 Z4, .slice n1 m4.dt.length n5, .int .i64 m4.st, .slice n2 m4.tk.length n6, .slice n3 m4.hd.length n7, .slice n4 m4.cs.length n8] 50)
  refine step_store_row rfl 50 (.tmp 8) (.tmp 76) rfl w4.heap.size #[.int .i64 0, .int .i64 Z4, .slice n1 m4.dt.length n5, .int .i64 m4.st, .slice n2 m4.tk.length n6, .slice n3 m4.hd.length n7, .slice n4 m4.cs.length n8] rfl rfl 50 _ (Deep.blk_alloc_new w4 _) (by kernel_rfl) rfl (by kernel_rfl) ?_
  rw [alloc_setRow]
  have BV := Hid.mk' (hb4.trans (N6.mono hb4.size))
  refine hK.out _ _ (SH.out _ BV.out) (fun hHeld => ?_)
  clear hK K9
  try simp only [Act.put, zA, zB, zC]
  refine wpAnyH_done (by kernel_rfl) ?_ _
  have RB := Hid.mk' (RowA.new w4 50 #[.int .i64 0, .int .i64 Z4, .slice n1 m4.dt.length n5, .int .i64 m4.st, .slice n2 m4.tk.length n6, .slice n3 m4.hd.length n7, .slice n4 m4.cs.length n8])
  have M4 := Hid.mk' (hM4 _ N6.size (fun q _ h2 => N6.block q h2))
  clear hHeld hM4 hb4 N5 N6
  generalize hV : w4.alloc (.cells #[.int .i64 0, .int .i64 Z4, .slice n1 m4.dt.length n5, .int .i64 m4.st, .slice n2 m4.tk.length n6, .slice n3 m4.hd.length n7, .slice n4 m4.cs.length n8] 50) = V at *
  clear hV
  have HBV := Hid.mk' (HB.out.trans (BV.out.mono HB.out.size))
  have R1V := Hid.mk' (rowB R1.out BV.out)
  have REV := Hid.mk' (rowB RE.out BV.out)
  have KSV : Hid (∀ z, Below V.heap.size V z → Calls Tryz.prog 12 #[.agg #[.slice n1 m4.dt.length n5, .int .i64 m4.st, .slice n2 m4.tk.length n6, .slice n3 m4.hd.length n7, .slice n4 m4.cs.length n8], .agg #[.slice (some ⟨bd, 0, none⟩) m1.dt.length ca1, .int .i64 m1.st, .slice t1 m1.tk.length ct1, .slice u1 m1.hd.length cu1, .slice c1 m1.cs.length cc1]] z fun e w' => e = .returned (.bool true) ∧ Below V.heap.size V w') := Hid.mk' (fun z hz => (KSM.out z n1 n2 n3 n4 n5 n6 n7 n8 (BV.out.trans (hz.mono BV.out.size)) (M4.out.below hz)).mono (fun e w' h => ⟨h.1, hz.trans (h.2.mono hz.size)⟩))
  have KEV : Hid (∀ z, Below V.heap.size V z → Calls Tryz.prog 39 #[.agg #[.slice (some ⟨bd, 0, none⟩) m1.dt.length ca1, .int .i64 m1.st, .slice t1 m1.tk.length ct1, .slice u1 m1.hd.length cu1, .slice c1 m1.cs.length cc1], .int .i64 (i : Int), .int .i64 (j : Int), .slice e1 p1.length d1] z fun e w' => ∃ (v1 v2 v3 v4 : Option Addr) (v5 v6 v7 v8 : Nat), e = .returned (.agg #[.int .i64 0, .int .i64 Z1, .slice v1 m3.dt.length v5, .int .i64 m3.st, .slice v2 m3.tk.length v6, .slice v3 m3.hd.length v7, .slice v4 m3.cs.length v8]) ∧ Below V.heap.size V w') := Hid.mk' (fun z hz => (KES.out z (HBV.out.trans (hz.mono HBV.out.size))).mono (fun e w' h => by
   obtain ⟨v1, v2, v3, v4, v5, v6, v7, v8, h, hb⟩ := h
   exact ⟨v1, v2, v3, v4, v5, v6, v7, v8, h, hz.trans (hb.mono hz.size)⟩))
  clear KB2 KSM KES SLB SH HBQ x0 x1 x2 x3 x4 x5 z0 z1 z2 z3 z4 z5 z6 z7 rl2 rl3
  obtain ⟨x0, x1, x2, x3, x4, x5⟩ := cells5 R1V.out
  obtain ⟨-, z1, -, -, -, -, -, z7⟩ := cells7 REV.out
  have b0 := RB.out.cell 0 _ rfl
  have b2 := RB.out.cell 2 _ rfl
  have b3 := RB.out.cell 3 _ rfl
  have b4 := RB.out.cell 4 _ rfl
  have b5 := RB.out.cell 5 _ rfl
  have b6 := RB.out.cell 6 _ rfl
  have lb := RB.out.lt
  have bA : Below V.heap.size V V := Below.refl _ _
  have fm1 := fMR1
  generalize (if ca1 = i then (some ⟨bd, 0, none⟩ : Option Addr) else some ⟨bd, i, none⟩) = slx at *
  go_wp2
  go_region_held3 (fun w' => w'.cell? ⟨w4.heap.size, 0, none⟩ = some (.int .i64 0) ∧ w'.cell? ⟨w4.heap.size, 2, none⟩ = some (.slice n1 m4.dt.length n5) ∧ w'.cell? ⟨w4.heap.size, 3, none⟩ = some (.int .i64 m4.st) ∧ w'.cell? ⟨w4.heap.size, 4, none⟩ = some (.slice n2 m4.tk.length n6) ∧ w'.cell? ⟨w4.heap.size, 5, none⟩ = some (.slice n3 m4.hd.length n7) ∧ w'.cell? ⟨w4.heap.size, 6, none⟩ = some (.slice n4 m4.cs.length n8) ∧ w'.cell? ⟨w2.heap.size, 0, none⟩ = some (.slice (some ⟨bd, 0, none⟩) m1.dt.length ca1) ∧ w'.cell? ⟨w2.heap.size, 1, none⟩ = some (.int .i64 m1.st) ∧ w'.cell? ⟨w2.heap.size, 2, none⟩ = some (.slice t1 m1.tk.length ct1) ∧ w'.cell? ⟨w2.heap.size, 3, none⟩ = some (.slice u1 m1.hd.length cu1) ∧ w'.cell? ⟨w2.heap.size, 4, none⟩ = some (.slice c1 m1.cs.length cc1) ∧ w'.cell? ⟨w3.heap.size, 1, none⟩ = some (.int .i64 Z1)) (simp [*])
   (first | (go_at_call 12; refine (KSV.out _ (by first | assumption | exact Below.drew (by assumption))).mono ?_; rintro e wB ⟨rfl, hbB⟩; obtain ⟨hx1, hx2⟩ := bcell hbB) | (go_at_call 39; refine (KEV.out _ (by first | assumption | exact Below.drew (by assumption))).mono ?_; rintro e wC ⟨v1, v2, v3, v4, v5, v6, v7, v8, rfl, hbC⟩; obtain ⟨hx3, hx4⟩ := bcell hbC))
  have HF := Hid.mk' (BB.out.trans ((HBV.out.trans (hbC.mono HBV.out.size)).mono BB.out.size))
  clear hx1 hx2 hx3 hx4
  go_wp2
  go_ret
  exact ⟨rfl, HF.out⟩
 ·go_simp
  have RG := Hid.mk' (RowA.new W3 50 #[.int .i64 0, .int .i64 0, .slice none 0 0, .int .i64 0, .slice none 0 0, .slice none 0 0, .slice none 0 0]).drew
  have N9 := (below_new W3 (.cells #[.int .i64 0, .int .i64 0, .slice none 0 0, .int .i64 0, .slice none 0 0, .slice none 0 0, .slice none 0 0] 50)).drew
  refine hK.out _ _ (SH.out _ N9) (fun hHeld => ?_)
  clear hK K9
  try simp only [Act.put, zA, zB, zC]
  have lg : W3.heap.size < (W3.alloc (.cells #[.int .i64 0, .int .i64 0, .slice none 0 0, .int .i64 0, .slice none 0 0, .slice none 0 0, .slice none 0 0] 50)).drew.heap.size := RG.out.lt
  have BG := Hid.mk' N9
  clear N9
  generalize hgw : (W3.alloc (.cells #[.int .i64 0, .int .i64 0, .slice none 0 0, .int .i64 0, .slice none 0 0, .slice none 0 0, .slice none 0 0] 50)).drew = W3a at *
  clear hgw
  refine wpAnyH_ready (rs := [12]) (by kernel_rfl) (by simp) ?_
  refine AllReadyH.cons (o := ⟨_, _, _, _, _, _⟩) rfl (fun K9 hK => ?_) AllReadyH.nil
  go_simp

  refine (KB2.out _ _ _ BG.out (HBQ.out _ BG.out)).mono ?_
  rintro e w4 ⟨n1, n2, n3, n4, n5, n6, n7, n8, Z4, rfl, hM4, hb4⟩
  have B4 := BG.out.trans (hb4.mono BG.out.size)
  refine hK.out _ _ (SH.out _ B4) (fun hHeld => ?_)
  clear hK K9
  try simp only [Act.put, zA, zB, zC]
  refine wpAnyH_ready (rs := [14]) (by kernel_rfl) (by simp) ?_
  refine AllReadyH.cons (o := ⟨_, _, _, _, _, _⟩) rfl (fun K9 hK => ?_) AllReadyH.nil
  have RG4 := RG.out.below hb4
  refine step_store_row rfl 50 (.tmp 8) (.tmp 76) rfl W3.heap.size #[.int .i64 0, .int .i64 Z4, .slice n1 m4.dt.length n5, .int .i64 m4.st, .slice n2 m4.tk.length n6, .slice n3 m4.hd.length n7, .slice n4 m4.cs.length n8] rfl rfl 50 _ RG4 (by kernel_rfl) rfl (by kernel_rfl) ?_
  have BV := Hid.mk' (RowA.putBelow B4 (Nat.le_refl W3.heap.size) #[.int .i64 0, .int .i64 Z4, .slice n1 m4.dt.length n5, .int .i64 m4.st, .slice n2 m4.tk.length n6, .slice n3 m4.hd.length n7, .slice n4 m4.cs.length n8])
  refine hK.out _ _ (SH.out _ BV.out) (fun hHeld => ?_)
  clear hK K9
  try simp only [Act.put, zA, zB, zC]
  refine wpAnyH_done (by kernel_rfl) ?_ _
  have RB := Hid.mk' (RG4.put #[.int .i64 0, .int .i64 Z4, .slice n1 m4.dt.length n5, .int .i64 m4.st, .slice n2 m4.tk.length n6, .slice n3 m4.hd.length n7, .slice n4 m4.cs.length n8])
  have M4 := Hid.mk' (hM4 (w4.setRow W3.heap.size #[.int .i64 0, .int .i64 Z4, .slice n1 m4.dt.length n5, .int .i64 m4.st, .slice n2 m4.tk.length n6, .slice n3 m4.hd.length n7, .slice n4 m4.cs.length n8]) (by rw [setRow_size]; exact Nat.le_refl _) (fun q h1 h2 => setRow_other _ _ _ _ (by omega)))
  clear hHeld hM4 hb4 B4 RG4 RG BG
  generalize hV : w4.setRow W3.heap.size #[.int .i64 0, .int .i64 Z4, .slice n1 m4.dt.length n5, .int .i64 m4.st, .slice n2 m4.tk.length n6, .slice n3 m4.hd.length n7, .slice n4 m4.cs.length n8] = V at *
  clear hV
  have HBV := Hid.mk' (HB.out.trans (BV.out.mono HB.out.size))
  have R1V := Hid.mk' (rowB R1.out BV.out)
  have REV := Hid.mk' (rowB RE.out BV.out)
  have KSV : Hid (∀ z, Below V.heap.size V z → Calls Tryz.prog 12 #[.agg #[.slice n1 m4.dt.length n5, .int .i64 m4.st, .slice n2 m4.tk.length n6, .slice n3 m4.hd.length n7, .slice n4 m4.cs.length n8], .agg #[.slice (some ⟨bd, 0, none⟩) m1.dt.length ca1, .int .i64 m1.st, .slice t1 m1.tk.length ct1, .slice u1 m1.hd.length cu1, .slice c1 m1.cs.length cc1]] z fun e w' => e = .returned (.bool true) ∧ Below V.heap.size V w') := Hid.mk' (fun z hz => (KSM.out z n1 n2 n3 n4 n5 n6 n7 n8 (BV.out.trans (hz.mono BV.out.size)) (M4.out.below hz)).mono (fun e w' h => ⟨h.1, hz.trans (h.2.mono hz.size)⟩))
  have KEV : Hid (∀ z, Below V.heap.size V z → Calls Tryz.prog 39 #[.agg #[.slice (some ⟨bd, 0, none⟩) m1.dt.length ca1, .int .i64 m1.st, .slice t1 m1.tk.length ct1, .slice u1 m1.hd.length cu1, .slice c1 m1.cs.length cc1], .int .i64 (i : Int), .int .i64 (j : Int), .slice e1 p1.length d1] z fun e w' => ∃ (v1 v2 v3 v4 : Option Addr) (v5 v6 v7 v8 : Nat), e = .returned (.agg #[.int .i64 0, .int .i64 Z1, .slice v1 m3.dt.length v5, .int .i64 m3.st, .slice v2 m3.tk.length v6, .slice v3 m3.hd.length v7, .slice v4 m3.cs.length v8]) ∧ Below V.heap.size V w') := Hid.mk' (fun z hz => (KES.out z (HBV.out.trans (hz.mono HBV.out.size))).mono (fun e w' h => by
   obtain ⟨v1, v2, v3, v4, v5, v6, v7, v8, h, hb⟩ := h
   exact ⟨v1, v2, v3, v4, v5, v6, v7, v8, h, hz.trans (hb.mono hz.size)⟩))
  clear KB2 KSM KES SLB SH HBQ x0 x1 x2 x3 x4 x5 z0 z1 z2 z3 z4 z5 z6 z7 rl2 rl3
  obtain ⟨x0, x1, x2, x3, x4, x5⟩ := cells5 R1V.out
  obtain ⟨-, z1, -, -, -, -, -, z7⟩ := cells7 REV.out
  have b0 := RB.out.cell 0 _ rfl
  have b2 := RB.out.cell 2 _ rfl
  have b3 := RB.out.cell 3 _ rfl
  have b4 := RB.out.cell 4 _ rfl
  have b5 := RB.out.cell 5 _ rfl
  have b6 := RB.out.cell 6 _ rfl
  have lb := RB.out.lt
  have bA : Below V.heap.size V V := Below.refl _ _
  have fm1 := fMR1
  generalize (if ca1 = i then (some ⟨bd, 0, none⟩ : Option Addr) else some ⟨bd, i, none⟩) = slx at *
  go_wp2
  go_region_held3 (fun w' => w'.cell? ⟨W3.heap.size, 0, none⟩ = some (.int .i64 0) ∧ w'.cell? ⟨W3.heap.size, 2, none⟩ = some (.slice n1 m4.dt.length n5) ∧ w'.cell? ⟨W3.heap.size, 3, none⟩ = some (.int .i64 m4.st) ∧ w'.cell? ⟨W3.heap.size, 4, none⟩ = some (.slice n2 m4.tk.length n6) ∧ w'.cell? ⟨W3.heap.size, 5, none⟩ = some (.slice n3 m4.hd.length n7) ∧ w'.cell? ⟨W3.heap.size, 6, none⟩ = some (.slice n4 m4.cs.length n8) ∧ w'.cell? ⟨w2.heap.size, 0, none⟩ = some (.slice (some ⟨bd, 0, none⟩) m1.dt.length ca1) ∧ w'.cell? ⟨w2.heap.size, 1, none⟩ = some (.int .i64 m1.st) ∧ w'.cell? ⟨w2.heap.size, 2, none⟩ = some (.slice t1 m1.tk.length ct1) ∧ w'.cell? ⟨w2.heap.size, 3, none⟩ = some (.slice u1 m1.hd.length cu1) ∧ w'.cell? ⟨w2.heap.size, 4, none⟩ = some (.slice c1 m1.cs.length cc1) ∧ w'.cell? ⟨w3.heap.size, 1, none⟩ = some (.int .i64 Z1)) (simp [*])
   (first | (go_at_call 12; refine (KSV.out _ (by first | assumption | exact Below.drew (by assumption))).mono ?_; rintro e wB ⟨rfl, hbB⟩; obtain ⟨hx1, hx2⟩ := bcell hbB) | (go_at_call 39; refine (KEV.out _ (by first | assumption | exact Below.drew (by assumption))).mono ?_; rintro e wC ⟨v1, v2, v3, v4, v5, v6, v7, v8, rfl, hbC⟩; obtain ⟨hx3, hx4⟩ := bcell hbC))
  have HF := Hid.mk' (BB.out.trans ((HBV.out.trans (hbC.mono HBV.out.size)).mono BB.out.size))
  clear hx1 hx2 hx3 hx4
  go_wp2
  go_ret
  exact ⟨rfl, HF.out⟩

end Go.Proofs.YtieeojhdidjnaaaGreatDoor
