/- The law on EditMemo. -/
import Derived.Test.YtmhihkdnhaadeaaGreatDoorG36
import Derived.Test.YtmhihkdnhaadeaaGreatDoorG37
import Derived.Deep.RegionHeld3
set_option maxHeartbeats 16000000
set_option maxRecDepth 100000
set_option linter.unusedVariables false
set_option linter.unusedSimpArgs false
namespace Go.Proofs.YtmhihkdnhaadeaaGreatDoor
open Go.RowKit
theorem eM_small (m : ME) (A N : Int) (p : List Int) : (msz (eM m A N p) : Int) ≤ 1048576 := by
 unfold eM
 split
 ·rename_i h
  obtain ⟨h1, h2⟩ := edC_ok h
  obtain ⟨g1, g2, g3, g4⟩ := spC_zero h2
  obtain ⟨h240, -⟩ := memF_ok h1
  have := mem_small (spl m.dt A.toNat N.toNat p) m.st.toNat (by rw [spl_len (by omega)]; omega)
  omega
 ·decide
theorem lawEM_any (m : ME) (a t u c : Option Addr) (ca ct cu cc : Nat) (A N : Int) (e : Option Addr) (d : Nat) (p : List Int) (tp : TypeId) (pv : Value) (w : World) (hE : Env w.heap.size tp pv w) (ha : MAt w a t u c m) (hw : WideM m) (hub : Byt m.dt) (hcb : ∀ k, k < m.cs.length → Byt (ckK m.cs k).hd) (htb : TBt m.tk) (hhb : Byt m.hd) (a1 : -9223372036854775808 ≤ A) (a2 : A ≤ 9223372036854775807) (n1 : -9223372036854775808 ≤ N) (n2 : N ≤ 9223372036854775807) (he : BAt w e p) (hpb : Byt p) (k2 : (p.length : Int) ≤ 9223372036854775807) :
  Calls Tryz.prog 4 #[.agg #[.slice a m.dt.length ca, .int .i64 m.st, .slice t m.tk.length ct, .slice u m.hd.length cu, .slice c m.cs.length cc], .int .i64 A, .int .i64 N, .slice e p.length d] w fun ev w' => ev = .returned (.bool true) ∧ Below w.heap.size w w' := by
 have B0 := below_new w (.cells #[.slice a m.dt.length ca, .int .i64 m.st, .slice t m.tk.length ct, .slice u m.hd.length cu, .slice c m.cs.length cc] 26)
 have KS := szMemo_any m a t u c ca ct cu cc 1048576 _ (ha.below B0) hw (by omega) (by omega)
 have R1 := Hid.mk' (row5 w 26 (.slice a m.dt.length ca) (.int .i64 m.st) (.slice t m.tk.length ct) (.slice u m.hd.length cu) (.slice c m.cs.length cc))
 have HA := Hid.mk' ha
 have HB := Hid.mk' B0
 have HE := Hid.mk' hE
 have HU := Hid.mk' hub
 have HC := Hid.mk' hcb
 have HT := Hid.mk' htb
 have HH := Hid.mk' hhb
 have HP := Hid.mk' he
 have HPB := Hid.mk' hpb
 have A1 := Hid.mk' a1
 have A2 := Hid.mk' a2
 have N1 := Hid.mk' n1
 have N2 := Hid.mk' n2
 clear B0 ha hw hE hub hcb htb hhb he hpb a1 a2 n1 n2
 by_cases g0 : (1048576 : Int) < p.length
 ·clear KS
  go_enter Tryz.func4, Tryz.ntmps4
  go_wp2
  go_ret
  exact ⟨rfl, HB.out⟩
 by_cases g1 : (1048576 : Int) < msz m
 ·rw [if_pos g1] at KS
  have KS := Hid.mk' KS
  generalize hW : w.alloc (.cells #[.slice a m.dt.length ca, .int .i64 m.st, .slice t m.tk.length ct, .slice u m.hd.length cu, .slice c m.cs.length cc] 26) = W at *
  obtain ⟨x0, x1, x2, x3, x4, x5⟩ := cells5 R1.out
  go_enter Tryz.func4, Tryz.ntmps4
  go_wp2_with fail
  clear hW
  refine KS.out.mono ?_
  rintro e1 w1 ⟨rfl, hb1⟩
  have HB := Hid.mk' (HB.out.trans (hb1.mono HB.out.size))
  clear hb1 KS
  go_wp2
  go_ret
  exact ⟨rfl, HB.out⟩
 rw [if_neg g1] at KS
 have KS := Hid.mk' KS
 have zz : ¬ (1048576 - (msz m : Int) < 0) := by omega
 have hl : (msz m : Int) ≤ 1048576 := by omega
 have hp : (p.length : Int) ≤ 1048576 := by omega
 have hpn : p.length ≤ 1048576 := by omega
 have hsz := eM_small m A N p
 have KSP : Hid (∀ (V : World) (bd bt bc : Nat) (u' e' : Option Addr), MAt V (some ⟨bd, 0, none⟩) (some ⟨bt, 0, none⟩) u' (some ⟨bc, 0, none⟩) m → BAt V e' p → Calls Tryz.prog 13 #[.agg #[.slice (some ⟨bd, 0, none⟩) m.dt.length m.dt.length, .int .i64 m.st, .slice (some ⟨bt, 0, none⟩) m.tk.length m.tk.length, .slice u' m.hd.length m.hd.length, .slice (some ⟨bc, 0, none⟩) m.cs.length m.cs.length], .int .i64 A, .int .i64 N, .slice e' p.length p.length] V fun ev w' => ∃ a t u c ca ct cu cc, ev = .returned (.agg #[.int .i64 (edC m A N p), .int .i64 (eR m A N p), .slice a (eM m A N p).dt.length ca, .int .i64 (eM m A N p).st, .slice t (eM m A N p).tk.length ct, .slice u (eM m A N p).hd.length cu, .slice c (eM m A N p).cs.length cc]) ∧ MAt w' a t u c (eM m A N p) ∧ Below V.heap.size V w') := Hid.mk' (fun V bd bt bc u' e' h h' => specEM_any m bd bt bc u' m.dt.length m.tk.length m.hd.length m.cs.length A N e' p.length p V h (Nat.le_refl _) (Nat.le_refl _) h' HPB.out HU.out HC.out HT.out HH.out hl hpn A1.out A2.out N1.out N2.out)
 have KIM : Hid (∀ (V : World) (a' t' u' c' e' : Option Addr), Env V.heap.size tp pv V → MAt V a' t' u' c' m → BAt V e' p → Calls Tryz.prog 14 #[.agg #[.slice a' m.dt.length m.dt.length, .int .i64 m.st, .slice t' m.tk.length m.tk.length, .slice u' m.hd.length m.hd.length, .slice c' m.cs.length m.cs.length], .int .i64 A, .int .i64 N, .slice e' p.length p.length] V fun ev w' => ∃ tau vd tv hv cv us rs bl bh hvs, ev = .returned (.agg #[.int .i64 (edC m A N p), .int .i64 (eR m A N p), vd, .int .i64 (eM m A N p).st, tv, hv, cv]) ∧ GM V.heap.size w'.heap.size tau (eM m A N p) vd tv hv cv us rs bl bh hvs w' ∧ Below V.heap.size V w') := Hid.mk' (fun V a' t' u' c' e' hE' h h' => implEM_any tp pv m a' t' u' c' m.dt.length m.tk.length m.hd.length m.cs.length A N e' p.length p V hE' h (Nat.le_refl _) HU.out HPB.out hl h' hpn A1.out A2.out N1.out N2.out)
 generalize edC m A N p = C at *
 generalize eR m A N p = R at *
 generalize eM m A N p = m2 at *
 have zN : ¬ ((mkN m2 : Int) < 0) := by omega
 clear g1 A1 A2 N1 N2
 generalize hW : w.alloc (.cells #[.slice a m.dt.length ca, .int .i64 m.st, .slice t m.tk.length ct, .slice u m.hd.length cu, .slice c m.cs.length cc] 26) = W at *
 obtain ⟨x0, x1, x2, x3, x4, x5⟩ := cells5 R1.out
 go_enter Tryz.func4, Tryz.ntmps4
 go_wp2_with fail
 clear hW
 refine KS.out.mono ?_
 rintro e1 w1 ⟨rfl, hb1⟩
 have R1 := Hid.mk' (rowB R1.out hb1)
 have HB := Hid.mk' (HB.out.trans (hb1.mono HB.out.size))
 clear hb1 KS x0 x1 x2 x3 x4 x5
 obtain ⟨x0, x1, x2, x3, x4, x5⟩ := cells5 R1.out
 go_wp2_with fail
 clear zz
 refine (toMemo_any m a t u c ca ct cu cc _ (HA.out.below HB.out) hl).mono ?_
 rintro e3 w3 ⟨g3, h3, i3, j3, rfl, t3, hb3⟩
 have T3 := Hid.mk' t3
 have R1 := Hid.mk' (rowB R1.out hb3)
 have HB := Hid.mk' (HB.out.trans (hb3.mono HB.out.size))
 clear hb3 t3 x0 x1 x2 x3 x4 x5
 go_wp2_with fail
 refine (toByteS_any e d p _ (HP.out.below HB.out) hp).mono ?_
 rintro e4 w4 ⟨y4, rfl, -, ry4, hb4⟩
 have T4 := Hid.mk' (T3.out.below hb4)
 have Y4 := Hid.mk' ry4
 have R1 := Hid.mk' (rowB R1.out hb4)
 have HB := Hid.mk' (HB.out.trans (hb4.mono HB.out.size))
 clear T3 hb4 ry4
 go_wp2_with fail
 refine (KSP.out w4 _ _ _ _ _ T4.out (BAt.of_row Y4.out)).mono ?_
 rintro e5 w5 ⟨pa, pt, pu, pc, qa, qt, qu, qc, rfl, hM, hb5⟩
 have N5 := below_new w5 (.cells #[.int .i64 C, .int .i64 R, .slice pa m2.dt.length qa, .int .i64 m2.st, .slice pt m2.tk.length qt, .slice pu m2.hd.length qu, .slice pc m2.cs.length qc] 42)
 have hb := hb5.trans (N5.mono hb5.size)
 have R1 := Hid.mk' (rowB R1.out hb)
 have HB := Hid.mk' (HB.out.trans (hb.mono HB.out.size))
 have W : Hid (WM _ w5.heap.size C R m2 pa pt pu pc qa qt qu qc _) := Hid.mk' ⟨Below.refl _ _, row7 w5 42 (.int .i64 C) (.int .i64 R) (.slice pa m2.dt.length qa) (.int .i64 m2.st) (.slice pt m2.tk.length qt) (.slice pu m2.hd.length qu) (.slice pc m2.cs.length qc), hM.below N5, by simp⟩
 clear T4 Y4 hb5 hb N5 hM
 generalize hwa : w5.alloc (.cells #[.int .i64 C, .int .i64 R, .slice pa m2.dt.length qa, .int .i64 m2.st, .slice pt m2.tk.length qt, .slice pu m2.hd.length qu, .slice pc m2.cs.length qc] 42) = wa at *
 obtain ⟨x0, x1, x2, x3, x4, x5⟩ := cells5 R1.out
 go_wp2_with fail
 clear hwa
 refine (toMemo_tw m a t u c ca ct cu cc _ (HA.out.below HB.out) hl).mono ?_
 rintro e6 w6 ⟨g6, h6, i6, j6, rfl, t6, hb6⟩
 have N6 := below_new w6 (.cells #[.slice (some ⟨g6, 0, none⟩) m.dt.length m.dt.length, .int .i64 m.st, .slice (some ⟨h6, 0, none⟩) m.tk.length m.tk.length, .slice (some ⟨i6, 0, none⟩) m.hd.length m.hd.length, .slice (some ⟨j6, 0, none⟩) m.cs.length m.cs.length] 34)
 have HBw5 := Hid.mk' HB.out.size
 have HA1 : Hid (w.heap.size < wa.heap.size) := Hid.mk' R1.out.lt
 have M6 := hb6.trans (N6.mono hb6.size)
 have W := Hid.mk' (W.out.below M6)
 have R1 := Hid.mk' (rowB R1.out M6)
 have HB := Hid.mk' (HB.out.trans (M6.mono HB.out.size))
 have Q := Hid.mk' (row5 w6 34 (.slice (some ⟨g6, 0, none⟩) m.dt.length m.dt.length) (.int .i64 m.st) (.slice (some ⟨h6, 0, none⟩) m.tk.length m.tk.length) (.slice (some ⟨i6, 0, none⟩) m.hd.length m.hd.length) (.slice (some ⟨j6, 0, none⟩) m.cs.length m.cs.length))
 have X := Hid.mk' (t6.below N6)
 have CM : Hid (CM j6 w6.heap.size m.cs (w6.alloc (.cells #[.slice (some ⟨g6, 0, none⟩) m.dt.length m.dt.length, .int .i64 m.st, .slice (some ⟨h6, 0, none⟩) m.tk.length m.tk.length, .slice (some ⟨i6, 0, none⟩) m.hd.length m.hd.length, .slice (some ⟨j6, 0, none⟩) m.cs.length m.cs.length] 34))) := Hid.mk' (t6.c.cm.keep (fun q _ h => N6.block q h))
 have S6 : Hid (wa.heap.size ≤ w6.heap.size) := Hid.mk' hb6.size
 have Z6 : Hid ((w6.alloc (.cells #[.slice (some ⟨g6, 0, none⟩) m.dt.length m.dt.length, .int .i64 m.st, .slice (some ⟨h6, 0, none⟩) m.tk.length m.tk.length, .slice (some ⟨i6, 0, none⟩) m.hd.length m.hd.length, .slice (some ⟨j6, 0, none⟩) m.cs.length m.cs.length] 34)).heap.size = w6.heap.size + 1) := Hid.mk' (by simp)
 clear hb6 t6 N6 M6 x0 x1 x2 x3 x4 x5
 generalize hW6 : w6.alloc (.cells #[.slice (some ⟨g6, 0, none⟩) m.dt.length m.dt.length, .int .i64 m.st, .slice (some ⟨h6, 0, none⟩) m.tk.length m.tk.length, .slice (some ⟨i6, 0, none⟩) m.hd.length m.hd.length, .slice (some ⟨j6, 0, none⟩) m.cs.length m.cs.length] 34) = W6 at *
 go_wp2_with fail
 clear hW6
 refine (toByteS_any e d p _ (HP.out.below HB.out) hp).mono ?_
 rintro e7 w7 ⟨y7, rfl, ly7, ry7, hb7⟩
 have CM := Hid.mk' (CM.out.keep (fun q _ h => (hb7).block q (by have := Q.out.lt; omega)))
 have X := Hid.mk' (X.out.below hb7)
 have W := Hid.mk' (W.out.below hb7)
 have R1 := Hid.mk' (rowB R1.out hb7)
 have Q := Hid.mk' (rowB Q.out hb7)
 have HB := Hid.mk' (HB.out.trans (hb7.mono HB.out.size))
 have Y := Hid.mk' ry7
 have LY : Hid (w6.heap.size < y7 ∧ y7 < w7.heap.size) := Hid.mk' ⟨by have := Z6.out; omega, ry7.lt⟩
 clear hb7 ry7 ly7
 obtain ⟨x0, x1, x2, x3, x4, x5⟩ := cells5 Q.out
 go_wp2_with fail
 refine (KIM.out w7 _ _ _ _ _ ((HE.out.keep HB.out).up HB.out.size (Nat.le_refl _)) X.out.tw.at (BAt.of_row Y.out)).mono ?_
 rintro e8 w8 ⟨tau, vd, tv, hv, cv, us, rs, bl, bh, hvs, rfl, gm, hb8⟩
 obtain ⟨ga, gt, gu, gc, fa, ft, fu, fc, rfl, rfl, rfl, rfl, -⟩ := gm.at
 have NW := below_new w8 (.cells #[.int .i64 C, .int .i64 R, .slice ga m2.dt.length fa, .int .i64 m2.st, .slice gt m2.tk.length ft, .slice gu m2.hd.length fu, .slice gc m2.cs.length fc] 42)
 have s8 := Hid.mk' hb8.size
 have hb := hb8.trans (NW.mono hb8.size)
 have CM := Hid.mk' (CM.out.keep (fun q _ h => (hb).block q (by have := Q.out.lt; omega)))
 have X := Hid.mk' (X.out.below hb)
 have W := Hid.mk' (W.out.below hb)
 have Y := Hid.mk' (rowB Y.out hb)
 have R1 := Hid.mk' (rowB R1.out hb)
 have Q := Hid.mk' (rowB Q.out hb)
 have HB := Hid.mk' (HB.out.trans (hb.mono HB.out.size))
 have G : Hid (WG w7.heap.size w8.heap.size w8.heap.size C R m2.st m2 _ _ _ _ us rs bl bh hvs _) := Hid.mk' ⟨row7 w8 42 (.int .i64 C) (.int .i64 R) (.slice ga m2.dt.length fa) (.int .i64 m2.st) (.slice gt m2.tk.length ft) (.slice gu m2.hd.length fu) (.slice gc m2.cs.length fc), ⟨tau, gm.below NW⟩, Nat.le_refl _⟩
 clear hb8 hb NW gm x0 x1 x2 x3 x4 x5
 generalize hwc : w8.alloc (.cells #[.int .i64 C, .int .i64 R, .slice ga m2.dt.length fa, .int .i64 m2.st, .slice gt m2.tk.length ft, .slice gu m2.hd.length fu, .slice gc m2.cs.length fc] 42) = wc at *
 have GAT : Hid (∀ V (m' : ME), m'.dt.length = m2.dt.length → m'.tk.length = m2.tk.length → m'.hd.length = m2.hd.length → m'.cs.length = m2.cs.length → WG w7.heap.size w8.heap.size w8.heap.size C R m2.st m' (.slice ga m2.dt.length fa) (.slice gt m2.tk.length ft) (.slice gu m2.hd.length fu) (.slice gc m2.cs.length fc) us rs bl bh hvs V → MAt V ga gt gu gc m') := Hid.mk' (fun V m' h1 h2 h3 h4 x => by
  obtain ⟨tau', y⟩ := x.own
  obtain ⟨a1, t1, u1, c1, _, _, _, _, e1, e2, e3, e4, h⟩ := y.at
  simp only [Value.slice.injEq] at e1 e2 e3 e4
  obtain ⟨rfl, -⟩ := e1
  obtain ⟨rfl, -⟩ := e2
  obtain ⟨rfl, -⟩ := e3
  obtain ⟨rfl, -⟩ := e4
  exact h)
 obtain ⟨z0, z1, z2, z3, z4, z5, z6, z7⟩ := cells7 W.out.box
 obtain ⟨q0, q1, q2, q3, q4, q5, q6, q7⟩ := cells7 G.out.box
 go_wp2_with fail
 clear hwc
 refine (eqMR_any C R m2 ga gt gu gc pa pt pu pc _ _ _ _ _ _ _ _ wc (GAT.out _ m2 rfl rfl rfl rfl G.out) W.out.now hsz).mono ?_
 rintro e9 w9 ⟨rfl, hb⟩
 have CM := Hid.mk' (CM.out.keep (fun q _ h => (hb).block q (by have := Q.out.lt; omega)))
 have X := Hid.mk' (X.out.below hb)
 have W := Hid.mk' (W.out.below hb)
 have G := Hid.mk' (G.out.below hb)
 have Y := Hid.mk' (rowB Y.out hb)
 have R1 := Hid.mk' (rowB R1.out hb)
 have Q := Hid.mk' (rowB Q.out hb)
 have HB := Hid.mk' (HB.out.trans (hb.mono HB.out.size))
 clear hb z0 z1 z2 z3 z4 z5 z6 z7 q0 q1 q2 q3 q4 q5 q6 q7
 obtain ⟨x0, x1, x2, x3, x4, x5⟩ := cells5 R1.out
 obtain ⟨y0, y1, y2, y3, y4, y5⟩ := cells5 Q.out
 have AA := Hid.mk' (HA.out.below HB.out)
 have U8 := Hid.mk' X.out.tw.at
 go_wp2
 go_region_held3 (fun w' => w'.cell? ⟨w.heap.size, 0, none⟩ = some (.slice a m.dt.length ca) ∧ w'.cell? ⟨w.heap.size, 1, none⟩ = some (.int .i64 m.st) ∧ w'.cell? ⟨w.heap.size, 2, none⟩ = some (.slice t m.tk.length ct) ∧ w'.cell? ⟨w.heap.size, 3, none⟩ = some (.slice u m.hd.length cu) ∧ w'.cell? ⟨w.heap.size, 4, none⟩ = some (.slice c m.cs.length cc) ∧ w'.cell? ⟨w6.heap.size, 0, none⟩ = some (.slice (some ⟨g6, 0, none⟩) m.dt.length m.dt.length) ∧ w'.cell? ⟨w6.heap.size, 1, none⟩ = some (.int .i64 m.st) ∧ w'.cell? ⟨w6.heap.size, 2, none⟩ = some (.slice (some ⟨h6, 0, none⟩) m.tk.length m.tk.length) ∧ w'.cell? ⟨w6.heap.size, 3, none⟩ = some (.slice (some ⟨i6, 0, none⟩) m.hd.length m.hd.length) ∧ w'.cell? ⟨w6.heap.size, 4, none⟩ = some (.slice (some ⟨j6, 0, none⟩) m.cs.length m.cs.length)) (simp [*])
  (first | (go_at_call 7; refine (toMemo_any m a t u c ca ct cu cc _ (AA.out.below (Below.refl _ _).drew) hl).mono ?_; rintro e wZ ⟨gZ, hZ, iZ, jZ, rfl, tZ, hbZ⟩; replace hbZ := undrew hbZ; obtain ⟨hx1, hx2⟩ := bcell hbZ; have z1 := hbZ.size; have z2 : w.heap.size < wZ.heap.size := (by omega); have z3 : w6.heap.size < wZ.heap.size := (by omega)) | (go_at_call 11; refine (eqMemo_any m _ _ _ _ _ _ _ _ _ _ _ _ _ _ _ _ _ (U8.out.below hbZ) tZ hl).mono ?_; rintro e wA ⟨rfl, hbA⟩; obtain ⟨hx3, hx4⟩ := bcell hbA))
 have hbR := hbZ.trans (hbA.mono hbZ.size)
 have CM := Hid.mk' (CM.out.keep (fun q _ h => (hbR).block q (by have := Q.out.lt; omega)))
 have X := Hid.mk' (X.out.below hbR)
 have W := Hid.mk' (W.out.below hbR)
 have G := Hid.mk' (G.out.below hbR)
 have Y := Hid.mk' (rowB Y.out hbR)
 have R1 := Hid.mk' (rowB R1.out hbR)
 have Q := Hid.mk' (rowB Q.out hbR)
 have HB := Hid.mk' (HB.out.trans (hbR.mono HB.out.size))
 clear hx1 hx2 hx3 hx4 z1 z2 z3 hbZ hbA tZ hbR U8 AA x0 x1 x2 x3 x4 x5 y0 y1 y2 y3 y4 y5
 go_wp2_with fail
 refine (toByteS_any e d p _ (HP.out.below HB.out) hp).mono ?_
 rintro eC wC ⟨yC, rfl, -, ryC, hb⟩
 have CM := Hid.mk' (CM.out.keep (fun q _ h => (hb).block q (by have := Q.out.lt; omega)))
 have X := Hid.mk' (X.out.below hb)
 have W := Hid.mk' (W.out.below hb)
 have G := Hid.mk' (G.out.below hb)
 have Y := Hid.mk' (rowB Y.out hb)
 have R1 := Hid.mk' (rowB R1.out hb)
 have Q := Hid.mk' (rowB Q.out hb)
 have HB := Hid.mk' (HB.out.trans (hb.mono HB.out.size))
 have YC := Hid.mk' ryC
 clear hb ryC
 go_wp2_with fail
 refine (eqByteS_any _ _ _ _ p wC (BAt.of_row Y.out) (BAt.of_row YC.out) hp).mono ?_
 rintro eD wD ⟨rfl, hb⟩
 have CM := Hid.mk' (CM.out.keep (fun q _ h => (hb).block q (by have := Q.out.lt; omega)))
 have X := Hid.mk' (X.out.below hb)
 have W := Hid.mk' (W.out.below hb)
 have G := Hid.mk' (G.out.below hb)
 have Y := Hid.mk' (rowB Y.out hb)
 have R1 := Hid.mk' (rowB R1.out hb)
 have Q := Hid.mk' (rowB Q.out hb)
 have HB := Hid.mk' (HB.out.trans (hb.mono HB.out.size))
 clear hb YC
 obtain ⟨y0, y1, y2, y3, y4, y5⟩ := cells5 Q.out
 have KM := Hid.mk' (markMemo_hi _ _ _ _ _ m wD X.out w6.heap.size CM.out (by have := Q.out.lt; omega) hl)
 go_wp2_with fail
 refine KM.out.mono ?_
 rintro eE wE ⟨⟨z, rfl, zp, zb⟩, hk⟩
 have s1 := HBw5.out
 have s2 := HA1.out
 have s3 := LY.out
 have s4 := s8.out
 have s5 := S6.out
 have R1 := Hid.mk' (rowK R1.out hk (.inl (by omega)))
 have W := Hid.mk' (W.out.kept hk (Nat.le_refl _))
 have Y := Hid.mk' (rowK Y.out hk (.inr (by omega)))
 have G := Hid.mk' (G.out.kept hk (by omega) s4)
 have HB := Hid.mk' (HB.out.trans (hk.below (B := w.heap.size) s1 HB.out.size))
 clear hk KM X CM Q y0 y1 y2 y3 y4 y5
 have zD : ¬ ((z : Int) + (p.length : Int) < 0) := by omega
 have MK := Hid.mk' (markByteS_row y7 p.length p.length p.length z _ wE Y.out (Nat.le_refl _) (by omega))
 clear s1 s2 s3 s4 s5
 go_wp2_with fail
 refine MK.out.mono ?_
 rintro eF wF ⟨rfl, -, hk⟩
 have s1 := HBw5.out
 have s2 := HA1.out
 have s3 := LY.out
 have s4 := s8.out
 have s5 := S6.out
 have R1 := Hid.mk' (rowK R1.out hk (.inl (by omega)))
 have W := Hid.mk' (W.out.kept hk (by omega))
 have G := Hid.mk' (G.out.kept hk (by omega) s4)
 have HB := Hid.mk' (HB.out.trans (hk.below (B := w.heap.size) (by omega) HB.out.size))
 clear hk MK Y s1 s2 s3 s4 s5
 obtain ⟨z0, z1, z2, z3, z4, z5, z6, z7⟩ := cells7 W.out.box
 obtain ⟨q0, q1, q2, q3, q4, q5, q6, q7⟩ := cells7 G.out.box
 go_wp2_with fail
 refine (eqMR_any C R m2 ga gt gu gc pa pt pu pc _ _ _ _ _ _ _ _ wF (GAT.out _ m2 rfl rfl rfl rfl G.out) W.out.now hsz).mono ?_
 rintro eG wG ⟨rfl, hb⟩
 have W := Hid.mk' (W.out.below hb)
 have G := Hid.mk' (G.out.below hb)
 have R1 := Hid.mk' (rowB R1.out hb)
 have HB := Hid.mk' (HB.out.trans (hb.mono HB.out.size))
 clear hb zD z0 z1 z2 z3 z4 z5 z6 z7 q0 q1 q2 q3 q4 q5 q6 q7
 obtain ⟨q0, q1, q2, q3, q4, q5, q6, q7⟩ := cells7 G.out.box
 obtain ⟨tau2, gm2⟩ := G.out.own
 have GB := Hid.mk' G.out.box
 have s4 := s8.out
 have s6 : w8.heap.size < wG.heap.size := G.out.box.lt
 have KM := Hid.mk' (markMR_is C R w7.heap.size w8.heap.size tau2 m2 _ _ _ _ us rs bl bh hvs wG gm2 (by omega) (by omega) hsz)
 clear gm2 G s4 s6
 go_wp2_with fail
 refine KM.out.mono ?_
 rintro eH wH ⟨rfl, gm12, hk⟩
 have s1 := HBw5.out
 have s2 := HA1.out
 have s3 := LY.out
 have s4 := s8.out
 have s5 := S6.out
 have R1 := Hid.mk' (rowK R1.out hk (.inl (by omega)))
 have W := Hid.mk' (W.out.kept hk (by omega))
 have HB := Hid.mk' (HB.out.trans (hk.below (B := w.heap.size) (by omega) HB.out.size))
 have G : Hid (WG w7.heap.size w8.heap.size w8.heap.size C R m2.st (mkM m2) _ _ _ _ us rs bl bh hvs wH) := Hid.mk' ⟨rowK GB.out hk (.inr (Nat.le_refl _)), gm12, Nat.le_refl _⟩
 clear KM gm12 hk GB s1 s2 s3 s4 s5 q0 q1 q2 q3 q4 q5 q6 q7
 have ML : Hid ((mkM m2).dt.length = m2.dt.length ∧ (mkM m2).tk.length = m2.tk.length ∧ (mkM m2).hd.length = m2.hd.length ∧ (mkM m2).cs.length = m2.cs.length) := Hid.mk' ⟨mb_len _ _, mkT_len _ _, mb_len _ _, mkC_len _ _⟩
 obtain ⟨q0, q1, q2, q3, q4, q5, q6, q7⟩ := cells7 G.out.box
 go_wp2_with fail
 refine (heldMR_is C R m2 ga gt gu gc _ _ _ _ wH (GAT.out _ (mkM m2) ML.out.1 ML.out.2.1 ML.out.2.2.1 ML.out.2.2.2 G.out) hsz).mono ?_
 rintro eI wI ⟨rfl, hb⟩
 have W := Hid.mk' (W.out.below hb)
 have G := Hid.mk' (G.out.below hb)
 have R1 := Hid.mk' (rowB R1.out hb)
 have HB := Hid.mk' (HB.out.trans (hb.mono HB.out.size))
 clear hb q0 q1 q2 q3 q4 q5 q6 q7
 obtain ⟨x0, x1, x2, x3, x4, x5⟩ := cells5 R1.out
 go_wp2_with fail
 refine (toMemo_any m a t u c ca ct cu cc _ (HA.out.below HB.out) hl).mono ?_
 rintro eJ wJ ⟨gJ, hJ, iJ, jJ, rfl, tJ, hb⟩
 have W := Hid.mk' (W.out.below hb)
 have G := Hid.mk' (G.out.below hb)
 have R1 := Hid.mk' (rowB R1.out hb)
 have HB := Hid.mk' (HB.out.trans (hb.mono HB.out.size))
 have T := Hid.mk' tJ
 clear hb tJ x0 x1 x2 x3 x4 x5
 go_wp2_with fail
 refine (toByteS_any e d p _ (HP.out.below HB.out) hp).mono ?_
 rintro eK wK ⟨yK, rfl, -, ryK, hb⟩
 have W := Hid.mk' (W.out.below hb)
 have G := Hid.mk' (G.out.below hb)
 have HB := Hid.mk' (HB.out.trans (hb.mono HB.out.size))
 have T := Hid.mk' (T.out.below hb)
 have YK := Hid.mk' ryK
 clear hb ryK R1
 go_wp2_with fail
 refine (KIM.out wK _ _ _ _ _ ((HE.out.keep HB.out).up HB.out.size (Nat.le_refl _)) T.out (BAt.of_row YK.out)).mono ?_
 rintro eL wL ⟨tau3, vd3, tv3, hv3, cv3, us3, rs3, bl3, bh3, hvs3, rfl, gm3, hbL⟩
 obtain ⟨ka, kt, ku, kc, la, lt, lu, lc, rfl, rfl, rfl, rfl, hM3⟩ := gm3.at
 have NW := below_new wL (.cells #[.int .i64 C, .int .i64 R, .slice ka m2.dt.length la, .int .i64 m2.st, .slice kt m2.tk.length lt, .slice ku m2.hd.length lu, .slice kc m2.cs.length lc] 42)
 have hb := hbL.trans (NW.mono hbL.size)
 have W := Hid.mk' (W.out.below hb)
 have G := Hid.mk' (G.out.below hb)
 have HB := Hid.mk' (HB.out.trans (hb.mono HB.out.size))
 have M15 := Hid.mk' (hM3.below NW)
 have Y15 := Hid.mk' (row7 wL 42 (.int .i64 C) (.int .i64 R) (.slice ka m2.dt.length la) (.int .i64 m2.st) (.slice kt m2.tk.length lt) (.slice ku m2.hd.length lu) (.slice kc m2.cs.length lc))
 clear hb hbL T YK gm3 NW hM3
 generalize hwd : wL.alloc (.cells #[.int .i64 C, .int .i64 R, .slice ka m2.dt.length la, .int .i64 m2.st, .slice kt m2.tk.length lt, .slice ku m2.hd.length lu, .slice kc m2.cs.length lc] 42) = wd at *
 obtain ⟨z0, z1, z2, z3, z4, z5, z6, z7⟩ := cells7 W.out.box
 obtain ⟨q0, q1, q2, q3, q4, q5, q6, q7⟩ := cells7 Y15.out
 go_wp2_with fail
 clear hwd
 refine (eqMR_any C R m2 ka kt ku kc pa pt pu pc _ _ _ _ _ _ _ _ wd M15.out W.out.now hsz).mono ?_
 rintro eM_ wM ⟨rfl, hb⟩
 have G := Hid.mk' (G.out.below hb)
 have HB := Hid.mk' (HB.out.trans (hb.mono HB.out.size))
 clear hb W M15 Y15 z0 z1 z2 z3 z4 z5 z6 z7 q0 q1 q2 q3 q4 q5 q6 q7
 obtain ⟨q0, q1, q2, q3, q4, q5, q6, q7⟩ := cells7 G.out.box
 go_wp2_with fail
 refine (heldMR_is C R m2 ga gt gu gc _ _ _ _ wM (GAT.out _ (mkM m2) ML.out.1 ML.out.2.1 ML.out.2.2.1 ML.out.2.2.2 G.out) hsz).mono ?_
 rintro eN wN ⟨rfl, hb⟩
 have HB := Hid.mk' (HB.out.trans (hb.mono HB.out.size))
 clear hb G q0 q1 q2 q3 q4 q5 q6 q7
 go_wp2
 go_ret
 exact ⟨rfl, HB.out⟩

end Go.Proofs.YtmhihkdnhaadeaaGreatDoor
