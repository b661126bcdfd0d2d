/- An edit, the program's side. -/
import Derived.Test.YtlimgcmhidooaaaGreatDoorM26
import Derived.Laws.ComplexArith
import Derived.Test.YtlimgcmhidooaaaGreatDoorM23
import Derived.Test.YtlimgcmhidooaaaGreatDoorM27
import Derived.Test.YtlimgcmhidooaaaGreatDoorM3
import Derived.Test.YtlimgcmhidooaaaGreatDoorM22
set_option maxHeartbeats 6400000
set_option maxRecDepth 1000000
set_option linter.unusedVariables false
set_option linter.unusedSimpArgs false
namespace Go.Proofs.YtlimgcmhidooaaaGreatDoor
open Go.RowKit
def ed0 : Array Value := #[.slice none 0 0, .int .i64 0, .slice none 0 0, .slice none 0 0, .slice none 0 0, .slice none 0 0, .int .i64 0, .int .i64 0, .slice none 0 0, .complex .f64 0 0]
theorem ed0_one : ed0.all (·.oneCell') = true := by kernel_rfl
def EdP (m : ME) (A N : Int) (p : List Int) (w : World) (e : Ending) (w' : World) : Prop :=
 (¬ edC m A N p = 0 ∧ e = .returned (.tuple #[.agg ed0, .int .i64 (edC m A N p)]) ∧ Below w.heap.size w w') ∨
 (edC m A N p = 0 ∧ ∃ s i j : Nat, m.st = (s : Int) ∧ 1 ≤ s ∧ s ≤ 60 ∧ A = (i : Int) ∧ N = (j : Int) ∧ ∃ gd gc tv hvs us rs bl bh tx, e = .returned (.tuple #[.agg #[.slice (some ⟨gd, 0, none⟩) m.dt.length m.dt.length, .int .i64 (s : Int), tv, hvs (m.dt.length / s + 1), .slice (some ⟨gc, 0, none⟩) (m.dt.length / s + 1) (m.dt.length / s + 1), tx, .int .i64 ((i / s * s : Nat) : Int), .int .i64 ((tkN m.dt s (i / s)).length : Int), hvs (i / s), .complex .f64 (floatOfInt .f64 ((i : Int) + (p.length : Int))) (floatOfInt .f64 ((i : Int) + (j : Int)))], .int .i64 0]) ∧ NM (w.heap.size + 2) m.dt s gd gc tv hvs us rs bl bh w' ∧ OB w' tx (spl m.dt i j p) ∧ In (w.heap.size + 2) w'.heap.size tx ∧ Below w.heap.size w w')
theorem zero10 (w : World) (T : TypeId) (x0 x1 x2 x3 x4 : Value) :
  let W := (w.alloc (.cells #[x0, x1, x2, x3, x4] 27)).alloc (.cells ed0 T)
  Below w.heap.size w W ∧ W.rowIs w.heap.size 27 5 (r5 x0 x1 x2 x3 x4) ∧ W.rowIs (w.heap.size + 1) T 10 (fun i => ed0.getD i undef) := by
 refine ⟨(below_new w _).alloc (by simp) _, (row5 w 27 x0 x1 x2 x3 x4).alloc _, ?_⟩
 have := World.rowIs_alloc (w.alloc (.cells #[x0, x1, x2, x3, x4] 27)) ed0 T (fun i => ed0.getD i undef) (fun i hi => by simp [Array.getD, hi])
 rw [show (w.alloc (.cells #[x0, x1, x2, x3, x4] 27)).heap.size = w.heap.size + 1 by simp] at this
 exact this
theorem results_cell_tmp {fn : Func} {p u : Tmp} {t1 : TypeId} (h : fn.results = #[.cell p t1, .tmp u]) (tmps : Array Value) (P : Program) (w : World) (g : Addr) (v x : Value) (hp : tmps.getD p undef = .pointer (some g)) (hl : (loadVar t1 g).run P w = .ok v w) (hx : tmps.getD u undef = x) :
  (results fn tmps).run P w = .ok (.tuple #[v, x]) w := by
 have e : (results fn tmps).run P w = ((asAddr (tmps.getD p undef)).run P w).andThen fun a w₁ => ((loadVar t1 a).run P w₁).andThen fun v w₂ => .ok (.tuple #[v, tmps.getD u undef]) w₂ := by
  simp only [results, h]
  simp [Sem.run_bind, Result.andThen]
 rw [e, hp, hx]
 simp [asAddr, Result.andThen, hl]
theorem setRow_kept (w : World) (g : Nat) (z : Array Value) : KeptIn g (g + 1) w (w.setRow g z) := ⟨rfl, rfl, rfl, by simp [World.setRow], fun k hk hne => setRow_other w g k _ (by omega)⟩
theorem newEdit_any (tp : TypeId) (pv : Value) (m : ME) (a t u c : Option Addr) (ca ct cu cc : Nat) (A N : Int) (e : Option Addr) (d : Nat) (p : List Int) (w : World) (hE : Env w.heap.size tp pv w) (h1 : MAt w a t u c m) (hca : m.dt.length ≤ ca) (hub : Byt m.dt) (hm : (msz m : Int) ≤ 1048576) (he : BAt w e p) (hl : p.length ≤ 1048576) (a1 : -9223372036854775808 ≤ A) (a2 : A ≤ 9223372036854775807) (n1 : -9223372036854775808 ≤ N) (n2 : N ≤ 9223372036854775807) :
  Calls Tryz.prog 56 #[.agg #[.slice a m.dt.length ca, .int .i64 m.st, .slice t m.tk.length ct, .slice u m.hd.length cu, .slice c m.cs.length cc], .int .i64 A, .int .i64 N, .slice e p.length d] w fun ev w' => EdP m A N p w ev w' := by
 have MS_ : (msz m : Int) = m.dt.length + m.tk.length + tssz m.tk + m.hd.length + m.cs.length + csz m.cs := by unfold msz; omega
 have hdl : (m.dt.length : Int) ≤ 1048576 := by omega
 obtain ⟨B0, R1, R2⟩ := zero10 w 86 (.slice a m.dt.length ca) (.int .i64 m.st) (.slice t m.tk.length ct) (.slice u m.hd.length cu) (.slice c m.cs.length cc)
 have KR := Hid.mk' (rightMemo_any tp pv m a t u c ca ct cu cc _ ((hE.keep B0).up B0.size (Nat.le_refl _)) (h1.below B0) hca hub hm)
 have HB := Hid.mk' B0
 have H2 := Hid.mk' R2
 have HP := Hid.mk' (he.below B0)
 obtain ⟨x0, x1, x2, x3, x4, x5⟩ := cells5 R1
 clear MS_ B0 R1 R2 h1 hub hm hE he
 unfold ed0 at *
 generalize hW : (w.alloc (.cells #[.slice a m.dt.length ca, .int .i64 m.st, .slice t m.tk.length ct, .slice u m.hd.length cu, .slice c m.cs.length cc] 27)).alloc (.cells #[.slice none 0 0, .int .i64 0, .slice none 0 0, .slice none 0 0, .slice none 0 0, .slice none 0 0, .int .i64 0, .int .i64 0, .slice none 0 0, .complex .f64 0 0] 86) = W at *
 go_enter Tryz.func56, Tryz.ntmps56
 go_wp2_with fail
 clear hW x0 x1 x2 x3 x4 x5
 refine KR.out.mono ?_
 rintro e1 w1 (⟨hf, rfl, hb1⟩ | ⟨hf, h240, s, hst, hs, hs2, hsame, gd, gc, tv, hvs, us, rs, bl, bh, rfl, hx, hb1⟩)
 ·have EC : Hid (edC m A N p = memF m) := Hid.mk' (by unfold edC; rw [if_pos hf])
  obtain ⟨F, hF⟩ : ∃ F, memF m = F := ⟨_, rfl⟩
  rw [hF] at EC hf ⊢
  have HNZ : Hid (¬ F = 0) := Hid.mk' hf
  have hne : (F != 0) = true := by simp [hf]
  have N1 := below_new w1 (.cells #[.slice none 0 0, .int .i64 0, .slice none 0 0, .slice none 0 0, .slice none 0 0] 27)
  have M1 := hb1.trans (N1.mono hb1.size)
  have HG := row_arr (rowB H2.out M1)
  have B1 := Hid.mk' (HB.out.trans (M1.mono HB.out.size))
  have HS := fun z => setRow_heap (w1.alloc (.cells #[.slice none 0 0, .int .i64 0, .slice none 0 0, .slice none 0 0, .slice none 0 0] 27)) (w.heap.size + 1) _ z 86 (0, 0) HG
  have HL := run_loadVar_row (P := Tryz.prog) _ (w.heap.size + 1) 86 86 _ (0, 0) _ (HS ed0) Tryz.underlying86 rfl (by kernel_rfl)
  have HG := Hid.mk' HG
  have HK := Hid.mk' (setRow_kept (w1.alloc (.cells #[.slice none 0 0, .int .i64 0, .slice none 0 0, .slice none 0 0, .slice none 0 0] 27)) (w.heap.size + 1) ed0)
  clear hF N1 M1 hb1 HS
  go_wp2_with ((with_reducible refine wpList_store_row ?_ 86 (.tmp 8) (.tmp 21) ?_ (w.heap.size + 1) ed0 ?_ ?_ 86 _ HG.out ?_ ?_ ?_ ?_); rfl; rfl; rfl; rfl; kernel_rfl; (rw [arrOf_size]; rfl); exact ed0_one)
  refine bodyPost_ret (v := .tuple #[.agg ed0, .int .i64 F]) ?_ ?_ ?_
  ·exact results_cell_tmp Tryz.results56 _ _ _ ⟨w.heap.size + 1, 0, none⟩ _ _ rfl HL rfl
  ·rfl
  exact .inl ⟨by rw [EC.out]; exact HNZ.out, by rw [EC.out], B1.out.trans (HK.out.below (Nat.le_succ _) B1.out.size)⟩
 obtain ⟨ta, tc, rfl, -⟩ := own_src hx.rx.tp.row
 obtain ⟨ha, hc, eh, -⟩ := own_bat (hx.rx.own (m.dt.length / s + 1) (Nat.le_refl _))
 have N1 := below_new w1 (.cells #[.slice (some ⟨gd, 0, none⟩) m.dt.length m.dt.length, .int .i64 (s : Int), .slice ta (tkN m.dt s (m.dt.length / s + 1)).length tc, .slice ha (hdN m.dt s (m.dt.length / s + 1)).length hc, .slice (some ⟨gc, 0, none⟩) (m.dt.length / s + 1) (m.dt.length / s + 1)] 27)
 have M1 := hb1.trans (N1.mono hb1.size)
 have HZ := Hid.mk' (rowB H2.out M1)
 have B1 := Hid.mk' (HB.out.trans (M1.mono HB.out.size))
 have RX := Hid.mk' (row5 w1 27 (.slice (some ⟨gd, 0, none⟩) m.dt.length m.dt.length) (.int .i64 (s : Int)) (.slice ta (tkN m.dt s (m.dt.length / s + 1)).length tc) (.slice ha (hdN m.dt s (m.dt.length / s + 1)).length hc) (.slice (some ⟨gc, 0, none⟩) (m.dt.length / s + 1) (m.dt.length / s + 1)))
 have HX := Hid.mk' (hx.keep (w' := w1.alloc (.cells #[.slice (some ⟨gd, 0, none⟩) m.dt.length m.dt.length, .int .i64 (s : Int), .slice ta (tkN m.dt s (m.dt.length / s + 1)).length tc, .slice ha (hdN m.dt s (m.dt.length / s + 1)).length hc, .slice (some ⟨gc, 0, none⟩) (m.dt.length / s + 1) (m.dt.length / s + 1)] 27)) N1.size (fun q _ h => N1.block q h))
 have HP1 := Hid.mk' (HP.out.below M1)
 have EH := Hid.mk' eh
 have LW : Hid (w.heap.size + 2 ≤ W.heap.size) := Hid.mk' (by have := H2.out.lt; omega)
 have NX1 : Hid (W.heap.size ≤ w1.heap.size) := Hid.mk' hb1.size
 rw [eh]
 clear N1 M1 hb1 hx eh KR HP H2
 generalize hV : w1.alloc (.cells #[.slice (some ⟨gd, 0, none⟩) m.dt.length m.dt.length, .int .i64 (s : Int), .slice ta (tkN m.dt s (m.dt.length / s + 1)).length tc, .slice ha (hdN m.dt s (m.dt.length / s + 1)).length hc, .slice (some ⟨gc, 0, none⟩) (m.dt.length / s + 1) (m.dt.length / s + 1)] 27) = V at *
 have LV : Hid (w1.heap.size < V.heap.size) := Hid.mk' RX.out.lt
 generalize (tkN m.dt s (m.dt.length / s + 1)).length = Tl at *
 generalize (hdN m.dt s (m.dt.length / s + 1)).length = Hl at *
 have KS := Hid.mk' (implSB_any gd 0 m.dt.length m.dt A N e d p V (CAt.of_row HX.out.dt) (Nat.le_refl _) HP1.out (by omega) hl a1 a2 n1 n2)
 obtain ⟨x0, x1, x2, x3, x4, x5⟩ := cells5 RX.out
 go_wp2_with fail
 clear hV x0 x1 x2 x3 x4 x5
 refine KS.out.mono ?_
 rintro e2 w2 ⟨v, rfl, o2, i2, hb2⟩
 have lx := RX.out.lt
 obtain ⟨va, vc, rfl, -⟩ := o2.len
 have ER : Hid (edC m A N p = spC m.dt.length A N p.length) := Hid.mk' (by unfold edC; rw [if_neg (by rw [hf]; simp)])
 have N2 := below_new w2 (.cells #[.int .i64 (spC m.dt.length A N p.length), .slice va (spB m.dt A N p).length vc] 64)
 have M2 := hb2.trans (N2.mono hb2.size)
 have HZ2 := Hid.mk' (rowB HZ.out M2)
 have B2 := Hid.mk' (B1.out.trans (M2.mono B1.out.size))
 have RX2 := Hid.mk' (rowB RX.out M2)
 have HX2 := Hid.mk' (HX.out.keep M2.size (fun q _ h => M2.block q h))
 have O2 := Hid.mk' (o2.below N2)
 have I2 := Hid.mk' (i2.mono (Nat.le_refl _) (N2.size))
 have RT := Hid.mk' (rowQ2 w2 64 (.int .i64 (spC m.dt.length A N p.length)) (.slice va (spB m.dt A N p).length vc))
 have S2 : Hid (V.heap.size ≤ w2.heap.size) := Hid.mk' hb2.size
 have N2Z := Hid.mk' N2
 clear N2 M2 hb2 o2 i2 KS HZ RX HX HP1 B1
 by_cases hz : spC m.dt.length A N p.length = 0
 rotate_left
 ·obtain ⟨F, hF⟩ : ∃ F, spC m.dt.length A N p.length = F := ⟨_, rfl⟩
  rw [hF] at ER hz RT HZ2 B2 RX2 HX2 O2 I2 N2Z ⊢
  have HNZ : Hid (¬ F = 0) := Hid.mk' hz
  have hne : (F != 0) = true := by simp [hz]
  have HG := row_arr HZ2.out.drew
  have HS := fun z => setRow_heap _ (w.heap.size + 1) _ z 86 (0, 0) HG
  have HL := run_loadVar_row (P := Tryz.prog) _ (w.heap.size + 1) 86 86 _ (0, 0) _ (HS ed0) Tryz.underlying86 rfl (by kernel_rfl)
  have HG := Hid.mk' HG
  have HL := Hid.mk' HL
  have HK := setRow_kept (w2.alloc (.cells #[.int .i64 F, .slice va (spB m.dt A N p).length vc] 64)).drew (w.heap.size + 1) ed0
  clear hF HS RX2 HX2 O2 I2
  have b2 : w.heap.size + 2 ≤ w2.heap.size := by have := LW.out; have := NX1.out; have := S2.out; omega
  obtain ⟨x0, x1, x2⟩ := cellsQ2 RT.out
  go_wp2
  refine wp_region_held_drew (S := (fun v => v.cell? ⟨w2.heap.size, 0, none⟩ = some (.int .i64 F))) (by kernel_rfl) x0 (fun hHeld => ?_)
  refine tkY 0 ?_
  refine tkY 1 ?_
  refine tkY 2 ?_
  refine wpAnyH_ready (rs := [3]) (by kernel_rfl) (by simp) ?_
  refine AllReadyH.cons (o := ⟨_, _, _, _, _, _⟩) rfl (fun K hK => ?_) AllReadyH.nil
  refine step_store_row rfl 86 (.tmp 8) (.tmp 32) rfl (w.heap.size + 1) ed0 rfl rfl 86 _ HG.out (by kernel_rfl) (by rw [arrOf_size]; rfl) ed0_one ?_
  refine hK.out _ _ ((keptIn_cell HK _ _ x2 (.inr (by omega))).trans x0) (fun hHeld => ?_)
  clear hK K
  try simp only [Act.put, zA, zB, zC]
  refine tkY 4 ?_
  refine wpAnyH_done (by kernel_rfl) ?_ _
  clear hHeld
  go_wp2
  refine bodyPost_ret (v := .tuple #[.agg ed0, .int .i64 F]) ?_ ?_ ?_
  ·exact results_cell_tmp Tryz.results56 _ _ _ ⟨w.heap.size + 1, 0, none⟩ _ _ rfl HL.out rfl
  ·rfl
  exact .inl ⟨by rw [ER.out]; exact HNZ.out, by rw [ER.out], B2.out.drew.trans (HK.below (Nat.le_succ _) B2.out.size)⟩
 obtain ⟨g1, g2, g3, g4⟩ := spC_zero hz
 obtain ⟨i, rfl⟩ : ∃ i : Nat, A = (i : Int) := ⟨A.toNat, by omega⟩
 obtain ⟨j, rfl⟩ : ∃ j : Nat, N = (j : Int) := ⟨N.toNat, by omega⟩
 have EB : Hid (spB m.dt (i : Int) (j : Int) p = spl m.dt i j p) := Hid.mk' (by unfold spB; rw [if_pos hz]; rfl)
 rw [hz] at ER RT HZ2 B2 RX2 HX2 O2 I2 N2Z ⊢
 have hn : i ≤ m.dt.length := by omega
 have hKJ : i / s < m.dt.length / s + 1 := Nat.lt_succ_of_le (Nat.div_le_div_right hn)
 have hq0 : (i : Int) / (s : Int) = ((i / s : Nat) : Int) := by simp
 have hq1 : i / s ≤ i := Nat.div_le_self _ _
 have hs0 : ¬ s = 0 := by omega
 have wA : IntKind.i64.wrap ((i : Int) + (p.length : Int)) = (i : Int) + (p.length : Int) := by rw [IntKind.wrap_i64]; omega
 have wB : IntKind.i64.wrap ((i : Int) + (j : Int)) = (i : Int) + (j : Int) := by rw [IntKind.wrap_i64]; omega
 have CK1 := HX2.out.ck
 obtain ⟨J, hJ⟩ : ∃ J, m.dt.length / s + 1 = J := ⟨_, rfl⟩
 rw [hJ] at CK1 hKJ RX2 ⊢
 obtain ⟨K, hK⟩ : ∃ K, i / s = K := ⟨_, rfl⟩
 rw [hK] at hq0 hq1 hKJ
 obtain ⟨ka, kc, ev, -⟩ := own_bat (HX2.out.rx.own K (by omega))
 have hwK : IntKind.i64.wrap (K : Int) = (K : Int) := by rw [IntKind.wrap_i64]; omega
 have ck : (K : Int) < (J : Int) := by omega
 obtain ⟨Tn, hTn⟩ : ∃ Tn, (tkN m.dt s K).length = Tn := ⟨_, rfl⟩
 obtain ⟨Hn, hHn⟩ : ∃ Hn, (hdN m.dt s K).length = Hn := ⟨_, rfl⟩
 obtain ⟨Q, hQ⟩ : ∃ Q, K * s = Q := ⟨_, rfl⟩
 obtain ⟨L, hL⟩ : ∃ L, (spB m.dt (i : Int) (j : Int) p).length = L := ⟨_, rfl⟩
 rw [hHn] at ev
 have HJ := Hid.mk' hJ
 have HKK := Hid.mk' hK
 have HTn := Hid.mk' hTn
 have HEV := Hid.mk' ev
 have HQ := Hid.mk' hQ
 have HLL := Hid.mk' hL
 have HST := Hid.mk' (And.intro hst (And.intro hs hs2))
 rw [hL] at RT HZ2 B2 RX2 HX2 O2 I2 N2Z CK1 ⊢
 generalize hU : w2.alloc (.cells #[.int .i64 0, .slice va L vc] 64) = U at *
 have c1 : U.cell? ⟨gc, K * 3, none⟩ = some (.int .i64 (Q : Int)) := by
  rw [CK1.cell (i := K * 3) (by omega)]
  unfold ckV
  rw [show K * 3 / 3 = K by omega, show K * 3 % 3 = 0 by omega, if_pos hKJ, ← hQ]; rfl
 have c2 : U.cell? ⟨gc, K * 3 + 1, none⟩ = some (.int .i64 (Tn : Int)) := by
  rw [CK1.cell (i := K * 3 + 1) (by omega)]
  unfold ckV
  rw [show (K * 3 + 1) / 3 = K by omega, show (K * 3 + 1) % 3 = 1 by omega, if_pos hKJ, ← hTn]; rfl
 have c3 : U.cell? ⟨gc, K * 3 + 2, none⟩ = some (.slice ka Hn kc) := by
  rw [CK1.cell (i := K * 3 + 2) (by omega)]
  unfold ckV
  rw [show (K * 3 + 2) / 3 = K by omega, show (K * 3 + 2) % 3 = 2 by omega, if_pos hKJ]
  show some (hvs K) = _
  rw [ev]
 have lg := CK1.lt
 obtain ⟨t0, t1, t2⟩ := cellsQ2 RT.out
 obtain ⟨x0, x1, x2, x3, x4, x5⟩ := cells5 RX2.out
 obtain ⟨X, hX⟩ : ∃ X : Array Value, X = #[.slice (some ⟨gd, 0, none⟩) m.dt.length m.dt.length, .int .i64 (s : Int), .slice ta Tl tc, .slice ha Hl hc, .slice (some ⟨gc, 0, none⟩) J J, .slice va L vc, .int .i64 (Q : Int), .int .i64 (Tn : Int), .slice ka Hn kc, .complex .f64 (floatOfInt .f64 ((i : Int) + (p.length : Int))) (floatOfInt .f64 ((i : Int) + (j : Int)))] := ⟨_, rfl⟩
 have X1 : X.all (·.oneCell') = true := by rw [hX]; kernel_rfl
 have X2 : X.size = 10 := by rw [hX]; rfl
 have HG := row_arr HZ2.out.drew
 have HS := setRow_heap _ (w.heap.size + 1) _ X 86 (0, 0) HG
 have HL := Hid.mk' (run_loadVar_row (P := Tryz.prog) _ (w.heap.size + 1) 86 86 _ (0, 0) _ HS Tryz.underlying86 rfl (by rw [X2]; kernel_rfl))
 have HG := Hid.mk' HG
 have HK := setRow_kept U.drew (w.heap.size + 1) X
 have lgc : w.heap.size + 2 ≤ gc := by have := HX2.out.o1; have := HX2.out.o2; have := LW.out; omega
 have lw1 : w.heap.size + 2 ≤ w1.heap.size := by have := LW.out; have := NX1.out; omega
 have lw2 : w.heap.size + 2 ≤ w2.heap.size := by have := S2.out; omega
 clear HS hst hs hs2 h240 hsame hJ hK hTn hHn hQ hL ev CK1 hf hz
 go_wp2
 clear hU
 refine wp_region_held_drew (S := (fun v => v.cell? ⟨w1.heap.size, 0, none⟩ = some (.slice (some ⟨gd, 0, none⟩) m.dt.length m.dt.length) ∧ v.cell? ⟨w1.heap.size, 1, none⟩ = some (.int .i64 (s : Int)) ∧ v.cell? ⟨w1.heap.size, 2, none⟩ = some (.slice ta Tl tc) ∧ v.cell? ⟨w1.heap.size, 3, none⟩ = some (.slice ha Hl hc) ∧ v.cell? ⟨w1.heap.size, 4, none⟩ = some (.slice (some ⟨gc, 0, none⟩) J J) ∧ v.cell? ⟨w2.heap.size, 1, none⟩ = some (.slice va L vc) ∧ v.cell? ⟨gc, K * 3, none⟩ = some (.int .i64 (Q : Int)) ∧ v.cell? ⟨gc, K * 3 + 1, none⟩ = some (.int .i64 (Tn : Int)) ∧ v.cell? ⟨gc, K * 3 + 2, none⟩ = some (.slice ka Hn kc))) (by kernel_rfl) ⟨x0, x1, x2, x3, x4, t1, c1, c2, c3⟩ (fun hHeld => ?_)
 refine tkY 0 ?_
 refine tkY 1 ?_
 refine tkY 2 ?_
 refine tkY 3 ?_
 refine tkY 4 ?_
 refine tkY 5 ?_
 refine tkY 6 ?_
 refine tkY 7 ?_
 refine tkY 8 ?_
 refine tkY 9 ?_
 refine tkY 10 ?_
 refine tkY 11 ?_
 refine tkY 12 ?_
 refine wpAnyH_ready (rs := [13]) (by kernel_rfl) (by simp) ?_
 refine AllReadyH.cons (o := ⟨_, _, _, _, _, _⟩) rfl (fun K hK => ?_) AllReadyH.nil
 refine step_store_row rfl 86 (.tmp 8) (.tmp 57) rfl (w.heap.size + 1) X rfl (by rw [hX]; rfl) 86 _ HG.out (by rw [X2]; kernel_rfl) (by rw [arrOf_size, X2]) X1 ?_
 refine hK.out _ _ ⟨(keptIn_cell HK _ _ x5 (.inr (by omega))).trans x0, (keptIn_cell HK _ _ x5 (.inr (by omega))).trans x1, (keptIn_cell HK _ _ x5 (.inr (by omega))).trans x2, (keptIn_cell HK _ _ x5 (.inr (by omega))).trans x3, (keptIn_cell HK _ _ x5 (.inr (by omega))).trans x4, (keptIn_cell HK _ _ t2 (.inr (by omega))).trans t1, (keptIn_cell HK _ _ lg (.inr (by omega))).trans c1, (keptIn_cell HK _ _ lg (.inr (by omega))).trans c2, (keptIn_cell HK _ _ lg (.inr (by omega))).trans c3⟩ (fun hHeld => ?_)
 clear hK K
 try simp only [Act.put, zA, zB, zC]
 refine tkY 14 ?_
 refine wpAnyH_done (by kernel_rfl) ?_ _
 clear hHeld
 go_wp2
 refine bodyPost_ret (v := .tuple #[.agg X, .int .i64 0]) ?_ ?_ ?_
 ·exact results_cell_tmp Tryz.results56 _ _ _ ⟨w.heap.size + 1, 0, none⟩ _ _ rfl HL.out rfl
 ·rfl
 obtain ⟨hst, hs, hs2⟩ := HST.out
 have sv : w.heap.size + 2 ≤ V.heap.size := by have := NX1.out; have := LV.out; omega
 refine .inr ⟨ER.out, s, i, j, hst, hs, hs2, rfl, rfl, gd, gc, .slice ta Tl tc, hvs, us, rs, bl, bh, .slice va L vc, ?_, ?_, ?_, ?_, B2.out.drew.trans (HK.below (Nat.le_succ _) B2.out.size)⟩
 ·rw [hX, HKK.out, HEV.out, HQ.out, HTn.out, EH.out, HJ.out]
 ·exact (HX2.out.keep HK.size (fun q hq hlt => HK.block q hlt (.inr (by have := LW.out; omega)))).down (by have := LW.out; omega)
 ·rw [← EB.out]
  exact O2.out.keep (fun k hk hlt => HK.block k hlt (.inr (by have := I2.out k hk; omega)))
 ·exact I2.out.mono sv HK.size
theorem alloc_setRow (w : World) (z X : Array Value) (T : TypeId) : (w.alloc (.cells z T)).setRow w.heap.size X = w.alloc (.cells X T) := by
 unfold World.setRow World.alloc
 congr 1
 apply Array.ext_getElem?
 intro i
 rw [Array.getElem?_modify]
 by_cases h : w.heap.size = i
 ·subst h; simp
 ·rw [if_neg h, Array.getElem?_push, Array.getElem?_push, if_neg (by omega), if_neg (by omega)]
theorem now_any (a b : Nat) (x : Int) (h : ByteArray) (w : World) (hx : floatToIntVal .f64 a .i64 = some x) :
  Calls Tryz.prog 88 #[.agg #[.complex .f64 a b, .string h]] w fun e w' => e = .returned (.int .i64 x) ∧ Below w.heap.size w w' := by
 have N0 := below_new w (.cells #[.complex .f64 a b, .string h] 124)
 have hc := run_convert_float_int (P := Tryz.prog) (w.alloc (.cells #[.complex .f64 a b, .string h] 124)) 122 2 .f64 .i64 a x (by kernel_rfl) Tryz.underlying2 hx
 have B0 := Hid.mk' N0
 clear N0
 go_enter Tryz.func88, Tryz.ntmps88
 go_wp2
 go_ret
 exact ⟨rfl, B0.out⟩
theorem was_any (a b : Nat) (x : Int) (h : ByteArray) (w : World) (hx : floatToIntVal .f64 b .i64 = some x) :
  Calls Tryz.prog 108 #[.agg #[.complex .f64 a b, .string h]] w fun e w' => e = .returned (.int .i64 x) ∧ Below w.heap.size w w' := by
 have N0 := below_new w (.cells #[.complex .f64 a b, .string h] 124)
 have hc := run_convert_float_int (P := Tryz.prog) (w.alloc (.cells #[.complex .f64 a b, .string h] 124)) 122 2 .f64 .i64 b x (by kernel_rfl) Tryz.underlying2 hx
 have B0 := Hid.mk' N0
 clear N0
 go_enter Tryz.func108, Tryz.ntmps108
 go_wp2
 go_ret
 exact ⟨rfl, B0.out⟩
theorem fl_eq_all : ((List.range 241).all fun a => (List.range 241).all fun b => Op.floatEq .f64 (floatOfInt .f64 (a : Int)) (floatOfInt .f64 (b : Int)) == decide (a = b)) = true := by kernel_rfl
theorem fl_eq (a b : Nat) (ha : a ≤ 240) (hb : b ≤ 240) : Op.floatEq .f64 (floatOfInt .f64 (a : Int)) (floatOfInt .f64 (b : Int)) = decide (a = b) := by
 have := List.all_eq_true.1 (List.all_eq_true.1 fl_eq_all a (List.mem_range.2 (by omega))) b (List.mem_range.2 (by omega))
 simpa using this
theorem run_equalIn_complexM {P : Program} (w : World) (d : Nat) (t : TypeId) (k : FloatKind) (a b c e : Nat) (h : P.underlying t = some (.complex k)) : (Op.equalIn (d + 1) t (.complex k a b) (.complex k c e)).run P w = .ok (Op.floatEq k a c && Op.floatEq k b e) w := by
 simp [Op.equalIn, run_underlying h]
structure ED (base : Nat) (d : List Int) (s i j : Nat) (p : List Int) (gd gc : Nat) (tv : Value) (hvs : Nat → Value) (us : List Value) (rs : Nat → List Value) (bl bh : Nat → Nat) (tx : Value) (w : World) : Prop where
 nm : NM base d s gd gc tv hvs us rs bl bh w
 tx : OB w tx (spl d i j p)
theorem beqB_sym (L h : List Int) : beqB L h = ((strI h).toList == (strI L).toList) := by
 unfold beqB
 rw [Bool.eq_iff_iff]
 simp only [beq_iff_eq]
 exact ⟨Eq.symm, Eq.symm⟩
theorem rowX (w : World) (X : Array Value) (T : TypeId) : (w.alloc (.cells X T)).rowIs w.heap.size T X.size (fun i => X.getD i undef) := World.rowIs_alloc w X T _ (fun i hi => by simp [Array.getD, hi])
theorem isKnown_any (e0 e2 e3 e5 e6 e7 e8 e9 : Value) (d : List Int) (s x o gc : Nat) (hvs : Nat → Value) (h : List Int) (hbt : Byt h) (w : World) (hs : 1 ≤ s) (hs2 : s ≤ 60) (hd : d.length ≤ 240) (ho : o ≤ d.length) (hx : x ≤ 240) (hr : w.rowIs gc 31 ((d.length / s + 1) * 3) (ckV d s (d.length / s + 1) hvs)) (hov : ∃ a c, hvs (o / s) = .slice a (hdN d s (o / s)).length c ∧ BAt w a (hdN d s (o / s))) :
  Calls Tryz.prog 89 #[.agg #[e0, .int .i64 (s : Int), e2, e3, .slice (some ⟨gc, 0, none⟩) (d.length / s + 1) (d.length / s + 1), e5, e6, e7, e8, e9], .agg #[.complex .f64 (floatOfInt .f64 (x : Int)) (floatOfInt .f64 (o : Int)), .string (strI h)]] w fun e w' => e = .returned (.bool (decide (o % s = 0) && beqB (hdN d s (o / s)) h)) ∧ Below w.heap.size w w' := by
 obtain ⟨va, vc, ev, bv_⟩ := hov
 have N0 := below_new w (.cells #[e0, .int .i64 (s : Int), e2, e3, .slice (some ⟨gc, 0, none⟩) (d.length / s + 1) (d.length / s + 1), e5, e6, e7, e8, e9] 86)
 have N1 := N0.alloc (by simp) (.cells #[.complex .f64 (floatOfInt .f64 (x : Int)) (floatOfInt .f64 (o : Int)), .string (strI h)] 124)
 have RE := (rowX w #[e0, .int .i64 (s : Int), e2, e3, .slice (some ⟨gc, 0, none⟩) (d.length / s + 1) (d.length / s + 1), e5, e6, e7, e8, e9] 86).alloc (.cells #[.complex .f64 (floatOfInt .f64 (x : Int)) (floatOfInt .f64 (o : Int)), .string (strI h)] 124)
 have RS := rowQ2 (w.alloc (.cells #[e0, .int .i64 (s : Int), e2, e3, .slice (some ⟨gc, 0, none⟩) (d.length / s + 1) (d.length / s + 1), e5, e6, e7, e8, e9] 86)) 124 (.complex .f64 (floatOfInt .f64 (x : Int)) (floatOfInt .f64 (o : Int))) (.string (strI h))
 rw [show (w.alloc (.cells #[e0, .int .i64 (s : Int), e2, e3, .slice (some ⟨gc, 0, none⟩) (d.length / s + 1) (d.length / s + 1), e5, e6, e7, e8, e9] 86)).heap.size = w.heap.size + 1 by simp] at RS
 have hq0 : (o : Int) / (s : Int) = ((o / s : Nat) : Int) := by simp
 have hq1 : o / s ≤ o := Nat.div_le_self _ _
 have hKJ : o / s < d.length / s + 1 := Nat.lt_succ_of_le (Nat.div_le_div_right ho)
 have hqs : o / s * s ≤ o := Nat.div_mul_le_self _ _
 have hmod : (o / s * s = o) ↔ o % s = 0 := by
  have := Nat.div_add_mod o s
  rw [Nat.mul_comm] at this
  omega
 obtain ⟨K, hK⟩ : ∃ K, o / s = K := ⟨_, rfl⟩
 obtain ⟨J, hJ⟩ : ∃ J, d.length / s + 1 = J := ⟨_, rfl⟩
 rw [hJ] at hr hKJ N1 RE RS ⊢
 rw [hK] at hq0 hq1 hKJ hqs hmod ev bv_ ⊢
 have HR := rowB hr N1
 have BH := Hid.mk' (bv_.below N1)
 have B1 := Hid.mk' N1
 generalize hW : (w.alloc (.cells #[e0, .int .i64 (s : Int), e2, e3, .slice (some ⟨gc, 0, none⟩) J J, e5, e6, e7, e8, e9] 86)).alloc (.cells #[.complex .f64 (floatOfInt .f64 (x : Int)) (floatOfInt .f64 (o : Int)), .string (strI h)] 124) = W at *
 obtain ⟨Q, hQ⟩ : ∃ Q, K * s = Q := ⟨_, rfl⟩
 obtain ⟨L, hL⟩ : ∃ L, hdN d s K = L := ⟨_, rfl⟩
 obtain ⟨Tn, hTn⟩ : ∃ Tn, (tkN d s K).length = Tn := ⟨_, rfl⟩
 rw [hL] at ev BH ⊢
 rw [hQ] at hqs hmod
 have c0 : W.cell? ⟨gc, K * 3, none⟩ = some (.int .i64 (Q : Int)) := by
  rw [HR.cell (i := K * 3) (by omega)]
  unfold ckV
  rw [show K * 3 / 3 = K by omega, show K * 3 % 3 = 0 by omega, if_pos hKJ, ← hQ]; rfl
 have c1 : W.cell? ⟨gc, K * 3 + 1, none⟩ = some (.int .i64 (Tn : Int)) := by
  rw [HR.cell (i := K * 3 + 1) (by omega)]
  unfold ckV
  rw [show (K * 3 + 1) / 3 = K by omega, show (K * 3 + 1) % 3 = 1 by omega, if_pos hKJ, ← hTn]; rfl
 have c2 : W.cell? ⟨gc, K * 3 + 2, none⟩ = some (.slice va L.length vc) := by
  rw [HR.cell (i := K * 3 + 2) (by omega)]
  unfold ckV
  rw [show (K * 3 + 2) / 3 = K by omega, show (K * 3 + 2) % 3 = 2 by omega, if_pos hKJ]
  show some (hvs K) = _
  rw [ev]
 have x1 : W.cell? ⟨w.heap.size, 1, none⟩ = some (.int .i64 (s : Int)) := RE.cell (i := 1) (by show 1 < 10; omega)
 have x4 : W.cell? ⟨w.heap.size, 4, none⟩ = some (.slice (some ⟨gc, 0, none⟩) J J) := RE.cell (i := 4) (by show 4 < 10; omega)
 obtain ⟨y0, y1, y2⟩ := cellsQ2 RS
 have lE := RE.lt
 have lG := HR.lt
 have hwK : IntKind.i64.wrap (K : Int) = (K : Int) := by rw [IntKind.wrap_i64]; omega
 have hs0 : ¬ s = 0 := by omega
 have ck : (K : Int) < (J : Int) := by omega
 have KW : Hid (∀ V, Calls Tryz.prog 108 #[.agg #[.complex .f64 (floatOfInt .f64 (x : Int)) (floatOfInt .f64 (o : Int)), .string (strI h)]] V fun e w' => e = .returned (.int .i64 (o : Int)) ∧ Below V.heap.size V w') := Hid.mk' (fun V => was_any _ _ _ _ V (fl_int o (by omega)))
 have KN : Hid (∀ V, Calls Tryz.prog 88 #[.agg #[.complex .f64 (floatOfInt .f64 (x : Int)) (floatOfInt .f64 (o : Int)), .string (strI h)]] V fun e w' => e = .returned (.int .i64 (x : Int)) ∧ Below V.heap.size V w') := Hid.mk' (fun V => now_any _ _ _ _ V (fl_int x (by omega)))
 have HCE : Hid (∀ v, Below W.heap.size W v → (fun v => v.cell? ⟨w.heap.size, 1, none⟩ = some (.int .i64 (s : Int)) ∧ v.cell? ⟨w.heap.size, 4, none⟩ = some (.slice (some ⟨gc, 0, none⟩) J J) ∧ v.cell? ⟨w.heap.size + 1, 0, none⟩ = some (.complex .f64 (floatOfInt .f64 (x : Int)) (floatOfInt .f64 (o : Int))) ∧ v.cell? ⟨w.heap.size + 1, 1, none⟩ = some (.string (strI h)) ∧ v.cell? ⟨gc, K * 3, none⟩ = some (.int .i64 (Q : Int)) ∧ v.cell? ⟨gc, K * 3 + 1, none⟩ = some (.int .i64 (Tn : Int)) ∧ v.cell? ⟨gc, K * 3 + 2, none⟩ = some (.slice va L.length vc)) v) := Hid.mk' (fun v hb => ⟨(hb.cell (p := ⟨w.heap.size, 1, none⟩) lE).trans x1, (hb.cell (p := ⟨w.heap.size, 4, none⟩) lE).trans x4, (hb.cell (p := ⟨w.heap.size + 1, 0, none⟩) y2).trans y0, (hb.cell (p := ⟨w.heap.size + 1, 1, none⟩) y2).trans y1, (hb.cell (p := ⟨gc, K * 3, none⟩) lG).trans c0, (hb.cell (p := ⟨gc, K * 3 + 1, none⟩) lG).trans c1, (hb.cell (p := ⟨gc, K * 3 + 2, none⟩) lG).trans c2⟩)
 clear hJ hK hQ hTn hr HR RE RS bv_ N0 N1
 go_enter Tryz.func89, Tryz.ntmps89
 go_wp2_with fail
 clear hW x1 x4 y0 y1 c0 c1 c2
 refine wp_region_held_drew (S := (fun v => v.cell? ⟨w.heap.size, 1, none⟩ = some (.int .i64 (s : Int)) ∧ v.cell? ⟨w.heap.size, 4, none⟩ = some (.slice (some ⟨gc, 0, none⟩) J J) ∧ v.cell? ⟨w.heap.size + 1, 0, none⟩ = some (.complex .f64 (floatOfInt .f64 (x : Int)) (floatOfInt .f64 (o : Int))) ∧ v.cell? ⟨w.heap.size + 1, 1, none⟩ = some (.string (strI h)) ∧ v.cell? ⟨gc, K * 3, none⟩ = some (.int .i64 (Q : Int)) ∧ v.cell? ⟨gc, K * 3 + 1, none⟩ = some (.int .i64 (Tn : Int)) ∧ v.cell? ⟨gc, K * 3 + 2, none⟩ = some (.slice va L.length vc))) (by kernel_rfl) (HCE.out _ (Below.refl _ _).drew) (fun hHeld => ?_)
 refine tkY 0 ?_
 refine tkY 1 ?_
 refine tkY 2 ?_
 refine tkY 3 ?_
 refine tkY 5 ?_
 refine tkY 6 ?_
 refine tkY 7 ?_
 refine wpAnyH_ready (rs := [4, 11]) (by kernel_rfl) (by simp) ?_
 refine AllReadyH.cons (o := ⟨_, _, _, _, _, _⟩) rfl (fun K9 hK => ?_) (AllReadyH.cons (o := ⟨_, _, _, _, _, _⟩) rfl (fun K9 hK => ?_) AllReadyH.nil)
 ·go_simp
  refine (KW.out _).mono ?_
  rintro e1 w1 ⟨rfl, hb1⟩
  replace hb1 := undrew hb1
  refine hK.out _ _ (HCE.out _ hb1) (fun hHeld => ?_)
  clear hK K9
  try simp only [Act.put, zA, zB, zC]
  refine tkY 8 ?_
  refine tkY 9 ?_
  refine tkY 10 ?_
  refine wpAnyH_ready (rs := [11]) (by kernel_rfl) (by simp) ?_
  refine AllReadyH.cons (o := ⟨_, _, _, _, _, _⟩) rfl (fun K9 hK => ?_) AllReadyH.nil
  go_simp
  refine hK.out _ _ (HCE.out _ (hb1.trans ((below_new w1 _).mono hb1.size))) (fun hHeld => ?_)
  clear hK K9
  try simp only [Act.put, zA, zB, zC]
  have Z := row3 w1 31 (.int .i64 0) (.int .i64 0) (.slice none 0 0)
  obtain ⟨z0, z1, z2, z3⟩ := cells3 Z
  have f0 := Z.frozen 0
  have f1 := Z.frozen 1
  have f2 := Z.frozen 2
  refine wpAnyH_ready (rs := [12]) (by kernel_rfl) (by simp) ?_
  refine AllReadyH.cons (o := ⟨_, _, _, _, _, _⟩) rfl (fun K9 hK => ?_) AllReadyH.nil
  go_simp
  refine hK.out _ _ (HCE.out _ (hb1.trans ((below_new w1 _).mono hb1.size))) (fun hHeld => ?_)
  clear hK K9 Z z0 z1 z2 z3 f0 f1 f2
  try simp only [Act.put, zA, zB, zC]
  refine wpAnyH_done (by kernel_rfl) ?_ _
  clear hHeld
  have RC := row3 w1 31 (.int .i64 (Q : Int)) (.int .i64 (Tn : Int)) (.slice va L.length vc)
  have HV := hb1.trans ((below_new w1 (.cells #[.int .i64 (Q : Int), .int .i64 (Tn : Int), .slice va L.length vc] 31)).mono hb1.size)
  have lb := hb1.size
  clear hb1
  generalize hVV : w1.alloc (.cells #[.int .i64 (Q : Int), .int .i64 (Tn : Int), .slice va L.length vc] 31) = V at *
  generalize hbx : w1.heap.size = bx at *
  clear hVV hbx
  obtain ⟨r0, r1, r2, r3'⟩ := cells3 RC
  obtain ⟨-, -, v0, v1, -⟩ := HCE.out V HV
  have BHV := Hid.mk' (BH.out.below HV)
  have l1 : w.heap.size + 1 < V.heap.size := Nat.lt_of_lt_of_le y2 HV.size
  have HS2 : Hid (∀ v, Below V.heap.size V v → (fun v => v.cell? ⟨w.heap.size + 1, 0, none⟩ = some (.complex .f64 (floatOfInt .f64 (x : Int)) (floatOfInt .f64 (o : Int))) ∧ v.cell? ⟨w.heap.size + 1, 1, none⟩ = some (.string (strI h)) ∧ v.cell? ⟨bx, 0, none⟩ = some (.int .i64 (Q : Int)) ∧ v.cell? ⟨bx, 2, none⟩ = some (.slice va L.length vc) ∧ Hid (BAt v va L)) v) := Hid.mk' (fun v hb => ⟨(hb.cell (p := ⟨w.heap.size + 1, 0, none⟩) l1).trans v0, (hb.cell (p := ⟨w.heap.size + 1, 1, none⟩) l1).trans v1, (hb.cell (p := ⟨bx, 0, none⟩) r3').trans r0, (hb.cell (p := ⟨bx, 2, none⟩) r3').trans r2, BHV.out.below hb⟩)
  go_wp2
  clear v0 v1 r0 r1 r2
  refine wp_region_held_drew (S := (fun v => v.cell? ⟨w.heap.size + 1, 0, none⟩ = some (.complex .f64 (floatOfInt .f64 (x : Int)) (floatOfInt .f64 (o : Int))) ∧ v.cell? ⟨w.heap.size + 1, 1, none⟩ = some (.string (strI h)) ∧ v.cell? ⟨bx, 0, none⟩ = some (.int .i64 (Q : Int)) ∧ v.cell? ⟨bx, 2, none⟩ = some (.slice va L.length vc) ∧ Hid (BAt v va L))) (by kernel_rfl) (HS2.out _ (Below.refl _ _).drew) (fun hHeld => ?_)
  refine tkY 0 ?_
  refine tkY 3 ?_
  refine tkY 4 ?_
  refine tkY 5 ?_
  refine tkY 7 ?_
  refine tkY 8 ?_
  refine wpAnyH_take (i := 9) (oi := ⟨_, _, _, _, _, _⟩) (v := .string (strI L)) rfl (by kernel_rfl) (by kernel_rfl) (by kernel_rfl) (fun _ _ _ h => h) (Or.inl ⟨by rfl, ?_⟩) (by assumption) ?_
  ·(intro w hSw; have hcv := conv_bytesT vc hSw.2.2.2.2.out; clear hSw; go_simp; (try with_reducible rfl))
  try simp only [Act.put, zA, zB, zC]
  refine wpAnyH_ready (rs := [1, 11]) (by kernel_rfl) (by simp) ?_
  refine AllReadyH.cons (o := ⟨_, _, _, _, _, _⟩) rfl (fun K9 hK => ?_) (AllReadyH.cons (o := ⟨_, _, _, _, _, _⟩) rfl (fun K9 hK => ?_) AllReadyH.nil)
  ·go_simp
   refine (KN.out _).mono ?_
   rintro e2 w2 ⟨rfl, hb2⟩
   replace hb2 := undrew hb2
   refine hK.out _ _ (HS2.out _ hb2) (fun hHeld => ?_)
   clear hK K9
   try simp only [Act.put, zA, zB, zC]
   refine tkY 2 ?_
   refine tkY 6 ?_
   refine tkY 10 ?_
   refine wpAnyH_ready (rs := [11]) (by kernel_rfl) (by simp) ?_
   refine AllReadyH.cons (o := ⟨_, _, _, _, _, _⟩) rfl (fun K9 hK => ?_) AllReadyH.nil
   go_simp
   have N3 := below_new w2 (.cells #[.complex .f64 0 0, .string ⟨#[]⟩] 124)
   refine hK.out _ _ (HS2.out _ (hb2.trans (N3.mono hb2.size))) (fun hHeld => ?_)
   clear hK K9
   try simp only [Act.put, zA, zB, zC]
   refine wpAnyH_ready (rs := [12]) (by kernel_rfl) (by simp) ?_
   refine AllReadyH.cons (o := ⟨_, _, _, _, _, _⟩) rfl (fun K9 hK => ?_) AllReadyH.nil
   have N4 := below_new w2 (.cells #[.complex .f64 (floatOfInt .f64 (x : Int)) (floatOfInt .f64 (Q : Int)), .string (strI L)] 124)
   refine step_store_row rfl 124 (.tmp 6) (.tmp 28) rfl w2.heap.size #[.complex .f64 (floatOfInt .f64 (x : Int)) (floatOfInt .f64 (Q : Int)), .string (strI L)] rfl rfl 124 _ (Deep.blk_alloc_new w2 _) (by kernel_rfl) rfl (by kernel_rfl) ?_
   rw [alloc_setRow]
   refine hK.out _ _ (HS2.out _ (hb2.trans (N4.mono hb2.size))) (fun hHeld => ?_)
   clear hK K9
   try simp only [Act.put, zA, zB, zC]
   refine wpAnyH_done (by kernel_rfl) ?_ _
   clear hHeld
   have RK := rowQ2 w2 124 (.complex .f64 (floatOfInt .f64 (x : Int)) (floatOfInt .f64 (Q : Int))) (.string (strI L))
   have HY := hb2.trans (N4.mono hb2.size)
   clear N3 N4 hb2
   generalize hYY : w2.alloc (.cells #[.complex .f64 (floatOfInt .f64 (x : Int)) (floatOfInt .f64 (Q : Int)), .string (strI L)] 124) = Y at *
   generalize hky : w2.heap.size = ky at *
   clear hYY hky
   obtain ⟨k0, k1, k2⟩ := cellsQ2 RK
   obtain ⟨u0, u1, -⟩ := HS2.out Y HY
   have HYW := Hid.mk' (B1.out.trans ((HV.trans (HY.mono HV.size)).mono B1.out.size))
   have hEC : ∀ w', (Op.equalIn 9999 84 (.complex .f64 (floatOfInt .f64 (x : Int)) (floatOfInt .f64 (o : Int))) (.complex .f64 (floatOfInt .f64 (x : Int)) (floatOfInt .f64 (Q : Int)))).run Tryz.prog w' = .ok (decide (o = Q)) w' := fun w' => by
    rw [run_equalIn_complexM w' 9998 84 .f64 _ _ _ _ (by kernel_rfl), fl_eq x x hx hx, fl_eq o Q (by omega) (by omega)]
    simp
   have ER : Hid ((decide (o % s = 0) && beqB L h) = (decide (o = Q) && ((strI h).toList == (strI L).toList))) := Hid.mk' (by
    have e1 : decide (o % s = 0) = decide (o = Q) := by
     by_cases g : o = Q
     ·rw [decide_eq_true g, decide_eq_true (hmod.1 g.symm)]
     ·rw [decide_eq_false g, decide_eq_false (fun g' => g (hmod.2 g').symm)]
    have e2 : beqB L h = ((strI h).toList == (strI L).toList) := beqB_sym L h
    rw [e1, e2])
   have HMD := Hid.mk' hmod
   clear hmod
   cases e3 : ((strI h).toList == (strI L).toList) <;> cases e4 : decide (o = Q)
   all_goals
    rw [e4] at hEC
    rw [e3, e4] at ER
    clear e4
    go_wp2
    go_ret
    exact ⟨by rw [ER.out]; rfl, HYW.out⟩
  ·go_simp
   have N3 := below_new V (.cells #[.complex .f64 0 0, .string ⟨#[]⟩] 124)
   refine hK.out _ _ (HS2.out _ N3.drew) (fun hHeld => ?_)
   clear hK K9
   try simp only [Act.put, zA, zB, zC]
   refine wpAnyH_ready (rs := [1]) (by kernel_rfl) (by simp) ?_
   refine AllReadyH.cons (o := ⟨_, _, _, _, _, _⟩) rfl (fun K9 hK => ?_) AllReadyH.nil
   go_simp
   refine (KN.out _).mono ?_
   rintro e2 w2 ⟨rfl, hb2⟩
   replace hb2 := undrew hb2
   have hbV := N3.trans (hb2.mono N3.size)
   refine hK.out _ _ (HS2.out _ hbV) (fun hHeld => ?_)
   clear hK K9
   try simp only [Act.put, zA, zB, zC]
   refine tkY 2 ?_
   refine tkY 6 ?_
   refine tkY 10 ?_
   refine wpAnyH_ready (rs := [12]) (by kernel_rfl) (by simp) ?_
   refine AllReadyH.cons (o := ⟨_, _, _, _, _, _⟩) rfl (fun K9 hK => ?_) AllReadyH.nil
   have HG := row_arr (rowB (rowQ2 V 124 (.complex .f64 0 0) (.string ⟨#[]⟩)) hb2)
   refine step_store_row rfl 124 (.tmp 6) (.tmp 28) rfl V.heap.size #[.complex .f64 (floatOfInt .f64 (x : Int)) (floatOfInt .f64 (Q : Int)), .string (strI L)] rfl rfl 124 _ HG (by kernel_rfl) (by rw [arrOf_size]; rfl) (by kernel_rfl) ?_
   have HKP := setRow_kept w2 V.heap.size #[.complex .f64 (floatOfInt .f64 (x : Int)) (floatOfInt .f64 (Q : Int)), .string (strI L)]
   have HY := hbV.trans (HKP.below (Nat.le_refl _) hbV.size)
   have RK : (w2.setRow V.heap.size #[.complex .f64 (floatOfInt .f64 (x : Int)) (floatOfInt .f64 (Q : Int)), .string (strI L)]).rowIs V.heap.size 124 2 (q2 (.complex .f64 (floatOfInt .f64 (x : Int)) (floatOfInt .f64 (Q : Int))) (.string (strI L))) := ⟨_, setRow_heap w2 V.heap.size _ #[.complex .f64 (floatOfInt .f64 (x : Int)) (floatOfInt .f64 (Q : Int)), .string (strI L)] 124 (0, 0) HG, rfl, fun k hk => by
    have : k = 0 ∨ k = 1 := by omega
    rcases this with rfl | rfl <;> rfl⟩
   refine hK.out _ _ (HS2.out _ HY) (fun hHeld => ?_)
   clear hK K9
   try simp only [Act.put, zA, zB, zC]
   refine wpAnyH_done (by kernel_rfl) ?_ _
   clear hHeld HG HKP hbV hb2 N3
   generalize hYY : w2.setRow V.heap.size #[.complex .f64 (floatOfInt .f64 (x : Int)) (floatOfInt .f64 (Q : Int)), .string (strI L)] = Y at *
   clear hYY
   obtain ⟨k0, k1, k2⟩ := cellsQ2 RK
   obtain ⟨u0, u1, -⟩ := HS2.out Y HY
   have HYW := Hid.mk' (B1.out.trans ((HV.trans (HY.mono HV.size)).mono B1.out.size))
   have hEC : ∀ w', (Op.equalIn 9999 84 (.complex .f64 (floatOfInt .f64 (x : Int)) (floatOfInt .f64 (o : Int))) (.complex .f64 (floatOfInt .f64 (x : Int)) (floatOfInt .f64 (Q : Int)))).run Tryz.prog w' = .ok (decide (o = Q)) w' := fun w' => by
    rw [run_equalIn_complexM w' 9998 84 .f64 _ _ _ _ (by kernel_rfl), fl_eq x x hx hx, fl_eq o Q (by omega) (by omega)]
    simp
   have ER : Hid ((decide (o % s = 0) && beqB L h) = (decide (o = Q) && ((strI h).toList == (strI L).toList))) := Hid.mk' (by
    have e1 : decide (o % s = 0) = decide (o = Q) := by
     by_cases g : o = Q
     ·rw [decide_eq_true g, decide_eq_true (hmod.1 g.symm)]
     ·rw [decide_eq_false g, decide_eq_false (fun g' => g (hmod.2 g').symm)]
    have e2 : beqB L h = ((strI h).toList == (strI L).toList) := beqB_sym L h
    rw [e1, e2])
   have HMD := Hid.mk' hmod
   clear hmod
   cases e3 : ((strI h).toList == (strI L).toList) <;> cases e4 : decide (o = Q)
   all_goals
    rw [e4] at hEC
    rw [e3, e4] at ER
    clear e4
    go_wp2
    go_ret
    exact ⟨by rw [ER.out]; rfl, HYW.out⟩
 ·go_simp
  refine hK.out _ _ (HCE.out _ (below_new W _).drew) (fun hHeld => ?_)
  clear hK K9
  try simp only [Act.put, zA, zB, zC]
  refine wpAnyH_ready (rs := [4]) (by kernel_rfl) (by simp) ?_
  refine AllReadyH.cons (o := ⟨_, _, _, _, _, _⟩) rfl (fun K9 hK => ?_) AllReadyH.nil
  go_simp
  refine (KW.out _).mono ?_
  rintro e1 w1 ⟨rfl, hb1⟩
  replace hb1 := undrew hb1
  have hbW := (below_new W (.cells #[.int .i64 0, .int .i64 0, .slice none 0 0] 31)).trans (hb1.mono (below_new W (.cells #[.int .i64 0, .int .i64 0, .slice none 0 0] 31)).size)
  refine hK.out _ _ (HCE.out _ hbW) (fun hHeld => ?_)
  clear hK K9
  try simp only [Act.put, zA, zB, zC]
  refine tkY 8 ?_
  refine tkY 9 ?_
  refine tkY 10 ?_
  have Z := rowB (row3 W 31 (.int .i64 0) (.int .i64 0) (.slice none 0 0)) hb1
  obtain ⟨z0, z1, z2, z3⟩ := cells3 Z
  have f0 := Z.frozen 0
  have f1 := Z.frozen 1
  have f2 := Z.frozen 2
  have HV := ((hbW.setCell (p := ⟨W.heap.size, 0, none⟩) (Nat.le_refl _) (.int .i64 (Q : Int))).setCell (p := ⟨W.heap.size, 1, none⟩) (Nat.le_refl _) (.int .i64 (Tn : Int))).setCell (p := ⟨W.heap.size, 2, none⟩) (Nat.le_refl _) (.slice va L.length vc)
  have RC : (((w1.setCell ⟨W.heap.size, 0, none⟩ (.int .i64 (Q : Int))).setCell ⟨W.heap.size, 1, none⟩ (.int .i64 (Tn : Int))).setCell ⟨W.heap.size, 2, none⟩ (.slice va L.length vc)).rowIs W.heap.size 31 3 (r3 (.int .i64 (Q : Int)) (.int .i64 (Tn : Int)) (.slice va L.length vc)) := (((Z.set 0 _).set 1 _).set 2 _).congr (fun k hk => by
   have : k = 0 ∨ k = 1 ∨ k = 2 := by omega
   rcases this with rfl | rfl | rfl <;> rfl)
  refine wpAnyH_ready (rs := [12]) (by kernel_rfl) (by simp) ?_
  refine AllReadyH.cons (o := ⟨_, _, _, _, _, _⟩) rfl (fun K9 hK => ?_) AllReadyH.nil
  go_simp
  refine hK.out _ _ (HCE.out _ HV) (fun hHeld => ?_)
  clear hK K9 Z z0 z1 z2 z3 f0 f1 f2
  try simp only [Act.put, zA, zB, zC]
  refine wpAnyH_done (by kernel_rfl) ?_ _
  clear hHeld
  have lb : W.heap.size ≤ W.heap.size := Nat.le_refl _
  generalize hVV : ((w1.setCell ⟨W.heap.size, 0, none⟩ (.int .i64 (Q : Int))).setCell ⟨W.heap.size, 1, none⟩ (.int .i64 (Tn : Int))).setCell ⟨W.heap.size, 2, none⟩ (.slice va L.length vc) = V at *
  clear hVV
  obtain ⟨r0, r1, r2, r3'⟩ := cells3 RC
  obtain ⟨-, -, v0, v1, -⟩ := HCE.out V HV
  have BHV := Hid.mk' (BH.out.below HV)
  have l1 : w.heap.size + 1 < V.heap.size := Nat.lt_of_lt_of_le y2 HV.size
  have HS2 : Hid (∀ v, Below V.heap.size V v → (fun v => v.cell? ⟨w.heap.size + 1, 0, none⟩ = some (.complex .f64 (floatOfInt .f64 (x : Int)) (floatOfInt .f64 (o : Int))) ∧ v.cell? ⟨w.heap.size + 1, 1, none⟩ = some (.string (strI h)) ∧ v.cell? ⟨W.heap.size, 0, none⟩ = some (.int .i64 (Q : Int)) ∧ v.cell? ⟨W.heap.size, 2, none⟩ = some (.slice va L.length vc) ∧ Hid (BAt v va L)) v) := Hid.mk' (fun v hb => ⟨(hb.cell (p := ⟨w.heap.size + 1, 0, none⟩) l1).trans v0, (hb.cell (p := ⟨w.heap.size + 1, 1, none⟩) l1).trans v1, (hb.cell (p := ⟨W.heap.size, 0, none⟩) r3').trans r0, (hb.cell (p := ⟨W.heap.size, 2, none⟩) r3').trans r2, BHV.out.below hb⟩)
  go_wp2
  clear v0 v1 r0 r1 r2
  refine wp_region_held_drew (S := (fun v => v.cell? ⟨w.heap.size + 1, 0, none⟩ = some (.complex .f64 (floatOfInt .f64 (x : Int)) (floatOfInt .f64 (o : Int))) ∧ v.cell? ⟨w.heap.size + 1, 1, none⟩ = some (.string (strI h)) ∧ v.cell? ⟨W.heap.size, 0, none⟩ = some (.int .i64 (Q : Int)) ∧ v.cell? ⟨W.heap.size, 2, none⟩ = some (.slice va L.length vc) ∧ Hid (BAt v va L))) (by kernel_rfl) (HS2.out _ (Below.refl _ _).drew) (fun hHeld => ?_)
  refine tkY 0 ?_
  refine tkY 3 ?_
  refine tkY 4 ?_
  refine tkY 5 ?_
  refine tkY 7 ?_
  refine tkY 8 ?_
  refine wpAnyH_take (i := 9) (oi := ⟨_, _, _, _, _, _⟩) (v := .string (strI L)) rfl (by kernel_rfl) (by kernel_rfl) (by kernel_rfl) (fun _ _ _ h => h) (Or.inl ⟨by rfl, ?_⟩) (by assumption) ?_
  ·(intro w hSw; have hcv := conv_bytesT vc hSw.2.2.2.2.out; clear hSw; go_simp; (try with_reducible rfl))
  try simp only [Act.put, zA, zB, zC]
  refine wpAnyH_ready (rs := [1, 11]) (by kernel_rfl) (by simp) ?_
  refine AllReadyH.cons (o := ⟨_, _, _, _, _, _⟩) rfl (fun K9 hK => ?_) (AllReadyH.cons (o := ⟨_, _, _, _, _, _⟩) rfl (fun K9 hK => ?_) AllReadyH.nil)
  ·go_simp
   refine (KN.out _).mono ?_
   rintro e2 w2 ⟨rfl, hb2⟩
   replace hb2 := undrew hb2
   refine hK.out _ _ (HS2.out _ hb2) (fun hHeld => ?_)
   clear hK K9
   try simp only [Act.put, zA, zB, zC]
   refine tkY 2 ?_
   refine tkY 6 ?_
   refine tkY 10 ?_
   refine wpAnyH_ready (rs := [11]) (by kernel_rfl) (by simp) ?_
   refine AllReadyH.cons (o := ⟨_, _, _, _, _, _⟩) rfl (fun K9 hK => ?_) AllReadyH.nil
   go_simp
   have N3 := below_new w2 (.cells #[.complex .f64 0 0, .string ⟨#[]⟩] 124)
   refine hK.out _ _ (HS2.out _ (hb2.trans (N3.mono hb2.size))) (fun hHeld => ?_)
   clear hK K9
   try simp only [Act.put, zA, zB, zC]
   refine wpAnyH_ready (rs := [12]) (by kernel_rfl) (by simp) ?_
   refine AllReadyH.cons (o := ⟨_, _, _, _, _, _⟩) rfl (fun K9 hK => ?_) AllReadyH.nil
   have N4 := below_new w2 (.cells #[.complex .f64 (floatOfInt .f64 (x : Int)) (floatOfInt .f64 (Q : Int)), .string (strI L)] 124)
   refine step_store_row rfl 124 (.tmp 6) (.tmp 28) rfl w2.heap.size #[.complex .f64 (floatOfInt .f64 (x : Int)) (floatOfInt .f64 (Q : Int)), .string (strI L)] rfl rfl 124 _ (Deep.blk_alloc_new w2 _) (by kernel_rfl) rfl (by kernel_rfl) ?_
   rw [alloc_setRow]
   refine hK.out _ _ (HS2.out _ (hb2.trans (N4.mono hb2.size))) (fun hHeld => ?_)
   clear hK K9
   try simp only [Act.put, zA, zB, zC]
   refine wpAnyH_done (by kernel_rfl) ?_ _
   clear hHeld
   have RK := rowQ2 w2 124 (.complex .f64 (floatOfInt .f64 (x : Int)) (floatOfInt .f64 (Q : Int))) (.string (strI L))
   have HY := hb2.trans (N4.mono hb2.size)
   clear N3 N4 hb2
   generalize hYY : w2.alloc (.cells #[.complex .f64 (floatOfInt .f64 (x : Int)) (floatOfInt .f64 (Q : Int)), .string (strI L)] 124) = Y at *
   generalize hky : w2.heap.size = ky at *
   clear hYY hky
   obtain ⟨k0, k1, k2⟩ := cellsQ2 RK
   obtain ⟨u0, u1, -⟩ := HS2.out Y HY
   have HYW := Hid.mk' (B1.out.trans ((HV.trans (HY.mono HV.size)).mono B1.out.size))
   have hEC : ∀ w', (Op.equalIn 9999 84 (.complex .f64 (floatOfInt .f64 (x : Int)) (floatOfInt .f64 (o : Int))) (.complex .f64 (floatOfInt .f64 (x : Int)) (floatOfInt .f64 (Q : Int)))).run Tryz.prog w' = .ok (decide (o = Q)) w' := fun w' => by
    rw [run_equalIn_complexM w' 9998 84 .f64 _ _ _ _ (by kernel_rfl), fl_eq x x hx hx, fl_eq o Q (by omega) (by omega)]
    simp
   have ER : Hid ((decide (o % s = 0) && beqB L h) = (decide (o = Q) && ((strI h).toList == (strI L).toList))) := Hid.mk' (by
    have e1 : decide (o % s = 0) = decide (o = Q) := by
     by_cases g : o = Q
     ·rw [decide_eq_true g, decide_eq_true (hmod.1 g.symm)]
     ·rw [decide_eq_false g, decide_eq_false (fun g' => g (hmod.2 g').symm)]
    have e2 : beqB L h = ((strI h).toList == (strI L).toList) := beqB_sym L h
    rw [e1, e2])
   have HMD := Hid.mk' hmod
   clear hmod
   cases e3 : ((strI h).toList == (strI L).toList) <;> cases e4 : decide (o = Q)
   all_goals
    rw [e4] at hEC
    rw [e3, e4] at ER
    clear e4
    go_wp2
    go_ret
    exact ⟨by rw [ER.out]; rfl, HYW.out⟩
  ·go_simp
   have N3 := below_new V (.cells #[.complex .f64 0 0, .string ⟨#[]⟩] 124)
   refine hK.out _ _ (HS2.out _ N3.drew) (fun hHeld => ?_)
   clear hK K9
   try simp only [Act.put, zA, zB, zC]
   refine wpAnyH_ready (rs := [1]) (by kernel_rfl) (by simp) ?_
   refine AllReadyH.cons (o := ⟨_, _, _, _, _, _⟩) rfl (fun K9 hK => ?_) AllReadyH.nil
   go_simp
   refine (KN.out _).mono ?_
   rintro e2 w2 ⟨rfl, hb2⟩
   replace hb2 := undrew hb2
   have hbV := N3.trans (hb2.mono N3.size)
   refine hK.out _ _ (HS2.out _ hbV) (fun hHeld => ?_)
   clear hK K9
   try simp only [Act.put, zA, zB, zC]
   refine tkY 2 ?_
   refine tkY 6 ?_
   refine tkY 10 ?_
   refine wpAnyH_ready (rs := [12]) (by kernel_rfl) (by simp) ?_
   refine AllReadyH.cons (o := ⟨_, _, _, _, _, _⟩) rfl (fun K9 hK => ?_) AllReadyH.nil
   have HG := row_arr (rowB (rowQ2 V 124 (.complex .f64 0 0) (.string ⟨#[]⟩)) hb2)
   refine step_store_row rfl 124 (.tmp 6) (.tmp 28) rfl V.heap.size #[.complex .f64 (floatOfInt .f64 (x : Int)) (floatOfInt .f64 (Q : Int)), .string (strI L)] rfl rfl 124 _ HG (by kernel_rfl) (by rw [arrOf_size]; rfl) (by kernel_rfl) ?_
   have HKP := setRow_kept w2 V.heap.size #[.complex .f64 (floatOfInt .f64 (x : Int)) (floatOfInt .f64 (Q : Int)), .string (strI L)]
   have HY := hbV.trans (HKP.below (Nat.le_refl _) hbV.size)
   have RK : (w2.setRow V.heap.size #[.complex .f64 (floatOfInt .f64 (x : Int)) (floatOfInt .f64 (Q : Int)), .string (strI L)]).rowIs V.heap.size 124 2 (q2 (.complex .f64 (floatOfInt .f64 (x : Int)) (floatOfInt .f64 (Q : Int))) (.string (strI L))) := ⟨_, setRow_heap w2 V.heap.size _ #[.complex .f64 (floatOfInt .f64 (x : Int)) (floatOfInt .f64 (Q : Int)), .string (strI L)] 124 (0, 0) HG, rfl, fun k hk => by
    have : k = 0 ∨ k = 1 := by omega
    rcases this with rfl | rfl <;> rfl⟩
   refine hK.out _ _ (HS2.out _ HY) (fun hHeld => ?_)
   clear hK K9
   try simp only [Act.put, zA, zB, zC]
   refine wpAnyH_done (by kernel_rfl) ?_ _
   clear hHeld HG HKP hbV hb2 N3
   generalize hYY : w2.setRow V.heap.size #[.complex .f64 (floatOfInt .f64 (x : Int)) (floatOfInt .f64 (Q : Int)), .string (strI L)] = Y at *
   clear hYY
   obtain ⟨k0, k1, k2⟩ := cellsQ2 RK
   obtain ⟨u0, u1, -⟩ := HS2.out Y HY
   have HYW := Hid.mk' (B1.out.trans ((HV.trans (HY.mono HV.size)).mono B1.out.size))
   have hEC : ∀ w', (Op.equalIn 9999 84 (.complex .f64 (floatOfInt .f64 (x : Int)) (floatOfInt .f64 (o : Int))) (.complex .f64 (floatOfInt .f64 (x : Int)) (floatOfInt .f64 (Q : Int)))).run Tryz.prog w' = .ok (decide (o = Q)) w' := fun w' => by
    rw [run_equalIn_complexM w' 9998 84 .f64 _ _ _ _ (by kernel_rfl), fl_eq x x hx hx, fl_eq o Q (by omega) (by omega)]
    simp
   have ER : Hid ((decide (o % s = 0) && beqB L h) = (decide (o = Q) && ((strI h).toList == (strI L).toList))) := Hid.mk' (by
    have e1 : decide (o % s = 0) = decide (o = Q) := by
     by_cases g : o = Q
     ·rw [decide_eq_true g, decide_eq_true (hmod.1 g.symm)]
     ·rw [decide_eq_false g, decide_eq_false (fun g' => g (hmod.2 g').symm)]
    have e2 : beqB L h = ((strI h).toList == (strI L).toList) := beqB_sym L h
    rw [e1, e2])
   have HMD := Hid.mk' hmod
   clear hmod
   cases e3 : ((strI h).toList == (strI L).toList) <;> cases e4 : decide (o = Q)
   all_goals
    rw [e4] at hEC
    rw [e3, e4] at ER
    clear e4
    go_wp2
    go_ret
    exact ⟨by rw [ER.out]; rfl, HYW.out⟩
def RowA (w : World) (g : Nat) (ty : TypeId) (cs : Array Value) : Prop := w.heap[g]? = some (.cells cs ty (0, 0))
theorem RowA.new (w : World) (ty : TypeId) (cs : Array Value) : RowA (w.alloc (.cells cs ty)) w.heap.size ty cs := Deep.blk_alloc_new _ _
theorem RowA.lt {w : World} {g : Nat} {ty : TypeId} {cs : Array Value} (h : RowA w g ty cs) : g < w.heap.size := by
 by_cases hg : g < w.heap.size
 ·exact hg
 ·unfold RowA at h
  rw [Array.getElem?_eq_none (by omega)] at h
  cases h
theorem RowA.below {w w' : World} {g : Nat} {ty : TypeId} {cs : Array Value} (h : RowA w g ty cs) (hb : Below w.heap.size w w') : RowA w' g ty cs :=
 (hb.block g h.lt).trans h
theorem RowA.row {w : World} {g : Nat} {ty : TypeId} {cs : Array Value} (h : RowA w g ty cs) : w.rowIs g ty cs.size (fun i => cs.getD i undef) :=
 ⟨cs, h, rfl, fun i hi => by simp [Array.getD, hi]⟩
theorem RowA.cell {w : World} {g : Nat} {ty : TypeId} {cs : Array Value} (h : RowA w g ty cs) (i : Nat) (v : Value) (hv : cs[i]? = some v) : w.cell? ⟨g, i, none⟩ = some v := by
 have hi : i < cs.size := by
  by_cases hi : i < cs.size
  ·exact hi
  ·rw [Array.getElem?_eq_none (by omega)] at hv; cases hv
 rw [h.row.cell hi]
 rw [Array.getElem?_eq_getElem hi] at hv
 simp only [Array.getD, hi, dif_pos]
 exact hv
theorem RowA.set {w : World} {g : Nat} {ty : TypeId} {cs : Array Value} (h : RowA w g ty cs) (i : Nat) (v : Value) : RowA (w.setCell ⟨g, i, none⟩ v) g ty (cs.setIfInBounds i v) := by
 unfold RowA at *
 simp [World.setCell, Array.getElem?_modify, h]
theorem RowA.other {w : World} {g : Nat} {ty : TypeId} {cs : Array Value} (h : RowA w g ty cs) {a : Addr} (ha : g ≠ a.block) (v : Value) : RowA (w.setCell a v) g ty cs := (Deep.blk_setCell_other _ _ _ _ ha).trans h
theorem RowA.frozen {w : World} {g : Nat} {ty : TypeId} {cs : Array Value} (h : RowA w g ty cs) (i : Nat) : w.frozen? ⟨g, i, none⟩ = false := h.row.frozen i
theorem RowA.load {P : Program} {w : World} {g : Nat} {ty : TypeId} {cs : Array Value} (h : RowA w g ty cs) (d : TypeDesc) (hu : P.underlying ty = some d) (hd : (match d with | .struct _ | .array _ _ => true | _ => false) = true) (hi : (P.info? ty).map (·.size) = some cs.size) :
  (loadVar ty ⟨g, 0, none⟩).run P w = .ok (.agg cs) w := run_loadVar_row (P := P) w g ty ty cs (0, 0) d h hu hd hi
theorem RowA.put {w : World} {g : Nat} {ty : TypeId} {cs : Array Value} (h : RowA w g ty cs) (ds : Array Value) : RowA (w.setRow g ds) g ty ds := setRow_heap w g cs ds ty (0, 0) h
theorem RowA.otherRow {w : World} {g k : Nat} {ty : TypeId} {cs : Array Value} (h : RowA w g ty cs) (hk : g ≠ k) (ds : Array Value) : RowA (w.setRow k ds) g ty cs := (setRow_other w k g ds hk).trans h
theorem RowA.putBelow {B : Nat} {w w' : World} {g : Nat} (hb : Below B w w') (hg : B ≤ g) (ds : Array Value) : Below B w (w'.setRow g ds) :=
 ⟨hb.os, hb.tape, hb.output, by rw [setRow_size]; exact hb.size, fun k hk => (setRow_other w' g k ds (by omega)).trans (hb.block k hk)⟩
theorem RowA.keptRow (w : World) (g : Nat) (ds : Array Value) : KeptIn g (g + 1) w (w.setRow g ds) :=
 ⟨rfl, rfl, rfl, by rw [setRow_size]; exact Nat.le_refl _, fun k hk h => setRow_other w g k ds (by omega)⟩
theorem RowA.exec {P : Program} {o : Oper} {a : Act} {w : World} {g : Nat} {ty : TypeId} {cs : Array Value} (h : RowA w g ty cs) (x : Operand) (ho : o.op = .load ty x) (hx : a.eval x = .pointer (some ⟨g, 0, none⟩)) (d : TypeDesc)
  (hu : P.underlying ty = some d) (hd : (match d with | .struct _ | .array _ _ => true | _ => false) = true) (hi : (P.info? ty).map (·.size) = some cs.size) :
  (execOp a.eval o).run P w = .ok (.value (.agg cs)) w := by
 unfold execOp
 simp only [ho, hx, Instr.loadAt, Instr.sureAddr, Sem.run_bind, Sem.run_pure, Result.andThen_ok, run_loadVar_row w g ty ty cs (0, 0) d h hu hd hi]
theorem RowA.drew {w : World} {g : Nat} {ty : TypeId} {cs : Array Value} (h : RowA w g ty cs) : RowA w.drew g ty cs := h
theorem RowA.setBelow {B : Nat} {w w' : World} {g : Nat} (hb : Below B w w') (hg : B ≤ g) (i : Nat) (v : Value) : Below B w (w'.setCell ⟨g, i, none⟩ v) :=
 hb.setCell (p := ⟨g, i, none⟩) hg v
def edX (D s J gd gc : Nat) (tv hv tx : Value) (Q Tn : Nat) (kv : Value) (x y : Nat) : Array Value := #[.slice (some ⟨gd, 0, none⟩) D D, .int .i64 (s : Int), tv, hv, .slice (some ⟨gc, 0, none⟩) J J, tx, .int .i64 (Q : Int), .int .i64 (Tn : Int), kv, .complex .f64 (floatOfInt .f64 (x : Int)) (floatOfInt .f64 (y : Int))]
theorem mid_len {l : List Int} {f z : Nat} (h : f + z ≤ l.length) : ((l.drop f).take z).length = z := by
 rw [List.length_take, List.length_drop]; omega
theorem CAt.mid {w : World} {b o f z : Nat} {l : List Int} (h : CAt w b o l) (hf : f + z ≤ l.length) : BAt w (some ⟨b, o + f, none⟩) ((l.drop f).take z) := (h.sub hf).at
theorem byt_mid {l : List Int} (h : Byt l) (f z : Nat) : Byt ((l.drop f).take z) := Byt.of (fun x hx => h.mem x (List.mem_of_mem_drop (List.mem_of_mem_take hx)))
theorem bat_other {w : World} {a : Option Addr} {l : List Int} {B : Nat} {i1 i2 i3 : Nat} {v1 v2 v3 : Value} (h : BAt w a l) (hb : ∀ b o, a = some ⟨b, o, none⟩ → l ≠ [] → b ≠ B) : BAt (((w.setCell ⟨B, i1, none⟩ v1).setCell ⟨B, i2, none⟩ v2).setCell ⟨B, i3, none⟩ v3) a l := by
 rcases h with h | ⟨b, o, e, hs, hc⟩
 ·exact .inl h
 ·by_cases hl : l = []
  ·exact .inl hl
  have hne := hb b o e hl
  refine .inr ⟨b, o, e, by simp [World.setCell]; exact hs, fun k hk => ?_⟩
  have e2 : (((w.setCell ⟨B, i1, none⟩ v1).setCell ⟨B, i2, none⟩ v2).setCell ⟨B, i3, none⟩ v3).heap[b]? = w.heap[b]? := by
   rw [Deep.blk_setCell_other _ _ _ _ (by show b ≠ B; exact hne), Deep.blk_setCell_other _ _ _ _ (by show b ≠ B; exact hne), Deep.blk_setCell_other _ _ _ _ (by show b ≠ B; exact hne)]
  rw [← hc k hk]
  unfold World.cell?
  rw [e2]
theorem twoE (w : World) (c1 c2 : Array Value) :
  Below w.heap.size w ((w.alloc (.cells c1 86)).alloc (.cells c2 124)) ∧
  RowA ((w.alloc (.cells c1 86)).alloc (.cells c2 124)) w.heap.size 86 c1 ∧
  RowA ((w.alloc (.cells c1 86)).alloc (.cells c2 124)) (w.heap.size + 1) 124 c2 := by
 have a1 := RowA.new w 86 c1
 have a2 := RowA.new (w.alloc (.cells c1 86)) 124 c2
 have b1 := below_new (w.alloc (.cells c1 86)) (.cells c2 124)
 have e1 : (w.alloc (.cells c1 86)).heap.size = w.heap.size + 1 := by simp
 rw [e1] at a2
 exact ⟨(below_new w _).alloc (by omega) _, a1.below b1, a2⟩
theorem editFirstN_any (tp : TypeId) (pv : Value) (D s J gd gc : Nat) (tv hv : Value) (Tn : Nat) (ka : Option Addr) (kc : Nat) (h0 : List Int) (y : Nat) (w : World) (hE : Env w.heap.size tp pv w) (hk : BAt w ka h0) (hgd : GoodH h0) (hub : Byt h0)  :
  Calls Tryz.prog 87 #[.agg (edX D s J gd gc tv hv (.slice none 0 0) 0 Tn (.slice ka h0.length kc) 0 y)] w fun e w' => e = .returned (.agg #[.complex .f64 (floatOfInt .f64 0) (floatOfInt .f64 (y : Int)), .string (strI (allX [] h0 []).2)]) ∧ Below w.heap.size w w' := by
 obtain ⟨H, hH⟩ : ∃ H, (allX [] h0 []).2 = H := ⟨_, rfl⟩
 rw [hH]
 have HHE := Hid.mk' hH
 clear hH
 obtain ⟨B0, R0, Z0⟩ := twoE w (edX D s J gd gc tv hv (.slice none 0 0) 0 Tn (.slice ka h0.length kc) 0 y) #[.complex .f64 0 0, .string ⟨#[]⟩]
 have HB := Hid.mk' B0
 have HR := Hid.mk' R0
 have HZ := Hid.mk' Z0
 have HE := Hid.mk' hE
 have HK := Hid.mk' hk
 have HG := Hid.mk' hgd
 have HU := Hid.mk' hub
 clear B0 R0 Z0 hE hk hgd hub
 generalize hW : (w.alloc (.cells (edX D s J gd gc tv hv (.slice none 0 0) 0 Tn (.slice ka h0.length kc) 0 y) 86)).alloc (.cells #[.complex .f64 0 0, .string ⟨#[]⟩] 124) = W at *
 have x5 := HR.out.cell 5 (.slice none 0 0) rfl
 have x6 := HR.out.cell 6 (.int .i64 0) rfl
 have x8 := HR.out.cell 8 (.slice ka h0.length kc) rfl
 have x9 := HR.out.cell 9 (.complex .f64 (floatOfInt .f64 0) (floatOfInt .f64 (y : Int))) rfl
 go_enter Tryz.func87, Tryz.ntmps87
 go_wp2_with (first | ((with_reducible refine wpList_store_row ?_ 124 (.tmp 3) (.tmp 7) ?_ W.heap.size #[.complex .f64 (floatOfInt .f64 0) (floatOfInt .f64 (y : Int)), .string ⟨#[]⟩] ?_ ?_ 124 #[.complex .f64 0 0, .string ⟨#[]⟩] ?_ ?_ ?_ ?_ ?_); rfl; rfl; rfl; rfl; exact RowA.new _ _ _; kernel_rfl; rfl; kernel_rfl; rw [alloc_setRow]) | fail)
 clear hW x5 x6 x8 x9
 have GE0 := HZ.out.lt
 have NG := below_new W (.cells #[.complex .f64 (floatOfInt .f64 0) (floatOfInt .f64 (y : Int)), .string ⟨#[]⟩] 124)
 have HH := Hid.mk' (RowA.new W 124 #[.complex .f64 (floatOfInt .f64 0) (floatOfInt .f64 (y : Int)), .string ⟨#[]⟩])
 have HR := Hid.mk' (HR.out.below NG)
 have HZ := Hid.mk' (HZ.out.below NG)
 have HB := Hid.mk' (HB.out.trans (NG.mono HB.out.size))
 clear NG
 generalize hV : W.alloc (.cells #[.complex .f64 (floatOfInt .f64 0) (floatOfInt .f64 (y : Int)), .string ⟨#[]⟩] 124) = V at *
 have GE : Hid (w.heap.size + 1 < W.heap.size) := Hid.mk' GE0
 obtain ⟨g, hg⟩ : ∃ g, W.heap.size = g := ⟨_, rfl⟩
 rw [hg] at HH GE ⊢
 clear hV hg GE0
 have HCE : Hid (∀ v, Below V.heap.size V v → (fun v => v.cell? ⟨w.heap.size, 5, none⟩ = some (.slice none 0 0) ∧ v.cell? ⟨w.heap.size, 6, none⟩ = some (.int .i64 0) ∧ v.cell? ⟨w.heap.size, 8, none⟩ = some (.slice ka h0.length kc) ∧ v.cell? ⟨g, 0, none⟩ = some (.complex .f64 (floatOfInt .f64 0) (floatOfInt .f64 (y : Int))) ∧ v.cell? ⟨g, 1, none⟩ = some (.string ⟨#[]⟩)) v) := Hid.mk' (fun v hb => ⟨(HR.out.below hb).cell 5 _ rfl, (HR.out.below hb).cell 6 _ rfl, (HR.out.below hb).cell 8 _ rfl, (HH.out.below hb).cell 0 _ rfl, (HH.out.below hb).cell 1 _ rfl⟩)
 have KN : Hid (∀ v, Calls Tryz.prog 88 #[.agg #[.complex .f64 (floatOfInt .f64 0) (floatOfInt .f64 (y : Int)), .string ⟨#[]⟩]] v fun e w' => e = .returned (.int .i64 0) ∧ Below v.heap.size v w') := Hid.mk' (fun v => now_any _ _ _ _ v (fl_int 0 (by omega)))
 have KA : Hid (∀ v, Below V.heap.size V v → Calls Tryz.prog 15 #[.agg #[.slice ka h0.length kc], (.slice none 0 0)] v fun e w' => FbP H v e w') := Hid.mk' (fun v hv => by
  have hb := HB.out.trans (hv.mono HB.out.size)
  have K := feedFrom_any tp pv h0 ka kc [] none 0 v ((HE.out.keep hb).up hb.size (Nat.le_refl _)) (HK.out.below hb) HG.out HU.out (.inl rfl) (fun k hk => absurd hk (Nat.not_lt_zero _)) (by simp)
  exact K.mono fun e w' h => by have h2 := h.fb; rw [HHE.out] at h2; exact h2)
 refine wp_region_held_drew (S := (fun v => v.cell? ⟨w.heap.size, 5, none⟩ = some (.slice none 0 0) ∧ v.cell? ⟨w.heap.size, 6, none⟩ = some (.int .i64 0) ∧ v.cell? ⟨w.heap.size, 8, none⟩ = some (.slice ka h0.length kc) ∧ v.cell? ⟨g, 0, none⟩ = some (.complex .f64 (floatOfInt .f64 0) (floatOfInt .f64 (y : Int))) ∧ v.cell? ⟨g, 1, none⟩ = some (.string ⟨#[]⟩))) (by kernel_rfl) (HCE.out _ (Below.refl _ _).drew) (fun hHeld => ?_)
 refine tkY 0 ?_
 refine tkY 1 ?_
 refine tkY 2 ?_
 refine tkY 3 ?_
 refine tkY 4 ?_
 refine tkY 5 ?_
 refine tkY 6 ?_
 refine tkY 7 ?_
 refine tkY 8 ?_
 refine tkY 9 ?_
 refine wpAnyH_ready (rs := [10, 13]) (by kernel_rfl) (by simp) ?_
 refine AllReadyH.cons (o := ⟨_, _, _, _, _, _⟩) rfl (fun K9 hK => ?_) (AllReadyH.cons (o := ⟨_, _, _, _, _, _⟩) rfl (fun K9 hK => ?_) AllReadyH.nil)
 ·go_simp
  refine (KN.out _).mono ?_
  rintro e1 w1 ⟨rfl, hb⟩
  replace hb := undrew hb
  have BB := Hid.mk' (hb)

  clear hb
  refine hK.out _ _ (HCE.out _ BB.out) (fun hHeld => ?_)
  clear hK K9
  try simp only [Act.put, zA, zB, zC]
  refine tkY 11 ?_
  refine wpAnyH_ready (rs := [12, 13]) (by kernel_rfl) (by simp) ?_
  refine AllReadyH.cons (o := ⟨_, _, _, _, _, _⟩) rfl (fun K9 hK => ?_) (AllReadyH.cons (o := ⟨_, _, _, _, _, _⟩) rfl (fun K9 hK => ?_) AllReadyH.nil)
  ·go_simp
   refine (KA.out _ BB.out).mono ?_
   rintro e2 w2 ⟨ta, tn, tc', ha, hc', rfl, hh, hlo, hb⟩

   have BB := Hid.mk' (BB.out.trans (hb.mono BB.out.size))
   have FH := Hid.mk' hh
   have FL := Hid.mk' hlo
   have FB : Hid (∀ b o, ha = some ⟨b, o, none⟩ → H ≠ [] → b < w2.heap.size) := Hid.mk' (fun b o e hn => by rcases hh with h | ⟨b', o', e', hs', _⟩; exact absurd h hn; rw [e] at e'; cases e'; exact hs')
   clear hb hh hlo
   refine hK.out _ _ (HCE.out _ BB.out) (fun hHeld => ?_)
   clear hK K9
   try simp only [Act.put, zA, zB, zC]
   refine wpAnyH_ready (rs := [13]) (by kernel_rfl) (by simp) ?_
   refine AllReadyH.cons (o := ⟨_, _, _, _, _, _⟩) rfl (fun K9 hK => ?_) AllReadyH.nil
   go_simp
   have BP := Hid.mk' BB.out
   have FP := Hid.mk' FH.out
   have NA := below_new w2 (.cells #[.int .i64 0, .slice none 0 0, .slice none 0 0] 41)
   have BX : Hid (V.heap.size ≤ w2.heap.size) := Hid.mk' BB.out.size
   have FX := Hid.mk' (RowA.new w2 41 #[.int .i64 0, .slice none 0 0, .slice none 0 0])
   have FH := Hid.mk' (FH.out.below NA)
   have BB := Hid.mk' (BB.out.trans (NA.mono BB.out.size))
   clear NA
   refine hK.out _ _ (HCE.out _ BB.out) (fun hHeld => ?_)
   clear hK K9
   try simp only [Act.put, zA, zB, zC]
   refine wpAnyH_ready (rs := [14]) (by kernel_rfl) (by simp) ?_
   refine AllReadyH.cons (o := ⟨_, _, _, _, _, _⟩) rfl (fun K9 hK => ?_) AllReadyH.nil
   have z0 := FX.out.cell 0 _ rfl
   have z1 := FX.out.cell 1 _ rfl
   have z2 := FX.out.cell 2 _ rfl
   have f0 := FX.out.frozen 0
   have f1 := FX.out.frozen 1
   have f2 := FX.out.frozen 2
   go_simp
   have FS := RowA.new w2 41 #[.int .i64 0, .slice ta tn tc', .slice ha H.length hc']
   have BS := BP.out.trans ((below_new w2 (.cells #[.int .i64 0, .slice ta tn tc', .slice ha H.length hc'] 41)).mono BP.out.size)
   have KS : BAt (w2.alloc (.cells #[.int .i64 0, .slice ta tn tc', .slice ha H.length hc'] 41)) ha H := FP.out.below (below_new w2 _)
   refine hK.out _ _ (HCE.out _ BS) (fun hHeld => ?_)
   clear hK K9 z0 z1 z2 f0 f1 f2
   try simp only [Act.put, zA, zB, zC]
   refine wpAnyH_done (by kernel_rfl) ?_ _
   clear hHeld
   have FS := Hid.mk' FS
   have BS := Hid.mk' BS
   have KS := Hid.mk' KS
   generalize hU : (w2.alloc (.cells #[.int .i64 0, .slice ta tn tc', .slice ha H.length hc'] 41)) = U at *
   clear hU
   have v2 := FS.out.cell 2 (.slice ha H.length hc') rfl
   have HHU := HH.out.below BS.out
   have g0 := HHU.cell 0 _ rfl
   have g1 := HHU.cell 1 _ rfl
   have q0 := HHU.frozen 0
   have q1 := HHU.frozen 1
   have ZU := HZ.out.below BS.out
   have r0 := ZU.cell 0 _ rfl
   have r1 := ZU.cell 1 _ rfl
   have p0 := ZU.frozen 0
   have p1 := ZU.frozen 1
   have hcv := conv_bytesT hc' KS.out
   have hne : g ≠ w.heap.size + 1 := by have := GE.out; omega
   have hne2 : w.heap.size + 1 ≠ g := by have := GE.out; omega
   have BZ := Hid.mk' (HB.out.trans (BS.out.mono HB.out.size))
   have ZR := Hid.mk' (ZU.other (a := ⟨g, 1, none⟩) hne2 (.string (strI H)))
   go_wp2_with ((with_reducible refine wpList_store_row ?_ 124 (.tmp 2) (.tmp 26) ?_ (w.heap.size + 1) #[.complex .f64 (floatOfInt .f64 0) (floatOfInt .f64 (y : Int)), .string (strI H)] ?_ ?_ 124 #[.complex .f64 0 0, .string ⟨#[]⟩] ?_ ?_ ?_ ?_ ?_); rfl; rfl; rfl; rfl; exact ZR.out; kernel_rfl; rfl; kernel_rfl)
   refine bodyPost_ret (v := .agg #[.complex .f64 (floatOfInt .f64 0) (floatOfInt .f64 (y : Int)), .string (strI H)]) ?_ ?_ ?_
   ·exact results_cell_row Tryz.results87 _ _ (w.heap.size + 1) 124 _ (0, 0) _ rfl (ZR.out.put _) Tryz.underlying124 rfl (by kernel_rfl)
   ·rfl
   have ge := GE.out
   exact ⟨rfl, RowA.putBelow (BZ.out.setCell (p := ⟨g, 1, none⟩) (by show w.heap.size ≤ g; omega) _) (by omega) _⟩
  ·go_simp
   have NA := below_new w1 (.cells #[.int .i64 0, .slice none 0 0, .slice none 0 0] 41)
   have BX : Hid (V.heap.size ≤ w1.heap.size) := Hid.mk' BB.out.size
   have FX := Hid.mk' (RowA.new w1 41 #[.int .i64 0, .slice none 0 0, .slice none 0 0])

   have BB := Hid.mk' (BB.out.trans (NA.mono BB.out.size))
   clear NA
   refine hK.out _ _ (HCE.out _ BB.out) (fun hHeld => ?_)
   clear hK K9
   try simp only [Act.put, zA, zB, zC]
   refine wpAnyH_ready (rs := [12]) (by kernel_rfl) (by simp) ?_
   refine AllReadyH.cons (o := ⟨_, _, _, _, _, _⟩) rfl (fun K9 hK => ?_) AllReadyH.nil
   go_simp
   refine (KA.out _ BB.out).mono ?_
   rintro e2 w2 ⟨ta, tn, tc', ha, hc', rfl, hh, hlo, hb⟩
   have FX := Hid.mk' (FX.out.below hb)
   have BB := Hid.mk' (BB.out.trans (hb.mono BB.out.size))
   have FH := Hid.mk' hh
   have FL := Hid.mk' hlo
   have FB : Hid (∀ b o, ha = some ⟨b, o, none⟩ → H ≠ [] → b < w2.heap.size) := Hid.mk' (fun b o e hn => by rcases hh with h | ⟨b', o', e', hs', _⟩; exact absurd h hn; rw [e] at e'; cases e'; exact hs')
   clear hb hh hlo
   refine hK.out _ _ (HCE.out _ BB.out) (fun hHeld => ?_)
   clear hK K9
   try simp only [Act.put, zA, zB, zC]
   refine wpAnyH_ready (rs := [14]) (by kernel_rfl) (by simp) ?_
   refine AllReadyH.cons (o := ⟨_, _, _, _, _, _⟩) rfl (fun K9 hK => ?_) AllReadyH.nil
   have z0 := FX.out.cell 0 _ rfl
   have z1 := FX.out.cell 1 _ rfl
   have z2 := FX.out.cell 2 _ rfl
   have f0 := FX.out.frozen 0
   have f1 := FX.out.frozen 1
   have f2 := FX.out.frozen 2
   go_simp
   have lx := BX.out
   have FS := ((FX.out.set 0 (.int .i64 0)).set 1 (.slice ta tn tc')).set 2 (.slice ha H.length hc')
   have BS := ((BB.out.setCell (p := ⟨w1.heap.size, 0, none⟩) lx (.int .i64 0)).setCell (p := ⟨w1.heap.size, 1, none⟩) lx (.slice ta tn tc')).setCell (p := ⟨w1.heap.size, 2, none⟩) lx (.slice ha H.length hc')
   have KS : BAt (((w2.setCell ⟨w1.heap.size, 0, none⟩ (.int .i64 0)).setCell ⟨w1.heap.size, 1, none⟩ (.slice ta tn tc')).setCell ⟨w1.heap.size, 2, none⟩ (.slice ha H.length hc')) ha H := bat_other FH.out (by intro b o e _; have h7 := FL.out b o e; have h8 : w1.heap.size < (w1.alloc (.cells #[.int .i64 0, .slice none 0 0, .slice none 0 0] 41)).heap.size := (by simp); omega)
   refine hK.out _ _ (HCE.out _ BS) (fun hHeld => ?_)
   clear hK K9 z0 z1 z2 f0 f1 f2
   try simp only [Act.put, zA, zB, zC]
   refine wpAnyH_done (by kernel_rfl) ?_ _
   clear hHeld
   have FS := Hid.mk' FS
   have BS := Hid.mk' BS
   have KS := Hid.mk' KS
   generalize hU : (((w2.setCell ⟨w1.heap.size, 0, none⟩ (.int .i64 0)).setCell ⟨w1.heap.size, 1, none⟩ (.slice ta tn tc')).setCell ⟨w1.heap.size, 2, none⟩ (.slice ha H.length hc')) = U at *
   clear hU
   have v2 := FS.out.cell 2 (.slice ha H.length hc') rfl
   have HHU := HH.out.below BS.out
   have g0 := HHU.cell 0 _ rfl
   have g1 := HHU.cell 1 _ rfl
   have q0 := HHU.frozen 0
   have q1 := HHU.frozen 1
   have ZU := HZ.out.below BS.out
   have r0 := ZU.cell 0 _ rfl
   have r1 := ZU.cell 1 _ rfl
   have p0 := ZU.frozen 0
   have p1 := ZU.frozen 1
   have hcv := conv_bytesT hc' KS.out
   have hne : g ≠ w.heap.size + 1 := by have := GE.out; omega
   have hne2 : w.heap.size + 1 ≠ g := by have := GE.out; omega
   have BZ := Hid.mk' (HB.out.trans (BS.out.mono HB.out.size))
   have ZR := Hid.mk' (ZU.other (a := ⟨g, 1, none⟩) hne2 (.string (strI H)))
   go_wp2_with ((with_reducible refine wpList_store_row ?_ 124 (.tmp 2) (.tmp 26) ?_ (w.heap.size + 1) #[.complex .f64 (floatOfInt .f64 0) (floatOfInt .f64 (y : Int)), .string (strI H)] ?_ ?_ 124 #[.complex .f64 0 0, .string ⟨#[]⟩] ?_ ?_ ?_ ?_ ?_); rfl; rfl; rfl; rfl; exact ZR.out; kernel_rfl; rfl; kernel_rfl)
   refine bodyPost_ret (v := .agg #[.complex .f64 (floatOfInt .f64 0) (floatOfInt .f64 (y : Int)), .string (strI H)]) ?_ ?_ ?_
   ·exact results_cell_row Tryz.results87 _ _ (w.heap.size + 1) 124 _ (0, 0) _ rfl (ZR.out.put _) Tryz.underlying124 rfl (by kernel_rfl)
   ·rfl
   have ge := GE.out
   exact ⟨rfl, RowA.putBelow (BZ.out.setCell (p := ⟨g, 1, none⟩) (by show w.heap.size ≤ g; omega) _) (by omega) _⟩
 ·go_simp
  have NA := below_new V (.cells #[.int .i64 0, .slice none 0 0, .slice none 0 0] 41)
  have BX : Hid (V.heap.size ≤ V.heap.size) := Hid.mk' (Nat.le_refl _)
  have FX := Hid.mk' (RowA.new V 41 #[.int .i64 0, .slice none 0 0, .slice none 0 0])

  have BB := Hid.mk' (NA)
  clear NA
  refine hK.out _ _ (HCE.out _ BB.out.drew) (fun hHeld => ?_)
  clear hK K9
  try simp only [Act.put, zA, zB, zC]
  refine wpAnyH_ready (rs := [10]) (by kernel_rfl) (by simp) ?_
  refine AllReadyH.cons (o := ⟨_, _, _, _, _, _⟩) rfl (fun K9 hK => ?_) AllReadyH.nil
  go_simp
  have SV1 : Hid (V.heap.size < (V.alloc (.cells #[.int .i64 0, .slice none 0 0, .slice none 0 0] 41)).heap.size) := Hid.mk' (by simp)
  refine (KN.out _).mono ?_
  rintro e1 w1 ⟨rfl, hb⟩
  replace hb := undrew hb

  have SV1 : Hid (V.heap.size < w1.heap.size) := Hid.mk' (Nat.lt_of_lt_of_le SV1.out hb.size)
  have BB := Hid.mk' (BB.out.trans (hb.mono BB.out.size))
  have FX := Hid.mk' (FX.out.below hb)
  clear hb
  refine hK.out _ _ (HCE.out _ BB.out) (fun hHeld => ?_)
  clear hK K9
  try simp only [Act.put, zA, zB, zC]
  refine tkY 11 ?_
  refine wpAnyH_ready (rs := [12]) (by kernel_rfl) (by simp) ?_
  refine AllReadyH.cons (o := ⟨_, _, _, _, _, _⟩) rfl (fun K9 hK => ?_) AllReadyH.nil
  go_simp
  refine (KA.out _ BB.out).mono ?_
  rintro e2 w2 ⟨ta, tn, tc', ha, hc', rfl, hh, hlo, hb⟩
  have FX := Hid.mk' (FX.out.below hb)
  have BB := Hid.mk' (BB.out.trans (hb.mono BB.out.size))
  have FH := Hid.mk' hh
  have FL := Hid.mk' hlo
  have FB : Hid (∀ b o, ha = some ⟨b, o, none⟩ → H ≠ [] → b < w2.heap.size) := Hid.mk' (fun b o e hn => by rcases hh with h | ⟨b', o', e', hs', _⟩; exact absurd h hn; rw [e] at e'; cases e'; exact hs')
  clear hb hh hlo
  refine hK.out _ _ (HCE.out _ BB.out) (fun hHeld => ?_)
  clear hK K9
  try simp only [Act.put, zA, zB, zC]
  refine wpAnyH_ready (rs := [14]) (by kernel_rfl) (by simp) ?_
  refine AllReadyH.cons (o := ⟨_, _, _, _, _, _⟩) rfl (fun K9 hK => ?_) AllReadyH.nil
  have z0 := FX.out.cell 0 _ rfl
  have z1 := FX.out.cell 1 _ rfl
  have z2 := FX.out.cell 2 _ rfl
  have f0 := FX.out.frozen 0
  have f1 := FX.out.frozen 1
  have f2 := FX.out.frozen 2
  go_simp
  have lx := BX.out
  have FS := ((FX.out.set 0 (.int .i64 0)).set 1 (.slice ta tn tc')).set 2 (.slice ha H.length hc')
  have BS := ((BB.out.setCell (p := ⟨V.heap.size, 0, none⟩) lx (.int .i64 0)).setCell (p := ⟨V.heap.size, 1, none⟩) lx (.slice ta tn tc')).setCell (p := ⟨V.heap.size, 2, none⟩) lx (.slice ha H.length hc')
  have KS : BAt (((w2.setCell ⟨V.heap.size, 0, none⟩ (.int .i64 0)).setCell ⟨V.heap.size, 1, none⟩ (.slice ta tn tc')).setCell ⟨V.heap.size, 2, none⟩ (.slice ha H.length hc')) ha H := bat_other FH.out (by intro b o e _; have h7 := FL.out b o e; have h8 := SV1.out; omega)
  refine hK.out _ _ (HCE.out _ BS) (fun hHeld => ?_)
  clear hK K9 z0 z1 z2 f0 f1 f2
  try simp only [Act.put, zA, zB, zC]
  refine wpAnyH_done (by kernel_rfl) ?_ _
  clear hHeld
  have FS := Hid.mk' FS
  have BS := Hid.mk' BS
  have KS := Hid.mk' KS
  generalize hU : (((w2.setCell ⟨V.heap.size, 0, none⟩ (.int .i64 0)).setCell ⟨V.heap.size, 1, none⟩ (.slice ta tn tc')).setCell ⟨V.heap.size, 2, none⟩ (.slice ha H.length hc')) = U at *
  clear hU
  have v2 := FS.out.cell 2 (.slice ha H.length hc') rfl
  have HHU := HH.out.below BS.out
  have g0 := HHU.cell 0 _ rfl
  have g1 := HHU.cell 1 _ rfl
  have q0 := HHU.frozen 0
  have q1 := HHU.frozen 1
  have ZU := HZ.out.below BS.out
  have r0 := ZU.cell 0 _ rfl
  have r1 := ZU.cell 1 _ rfl
  have p0 := ZU.frozen 0
  have p1 := ZU.frozen 1
  have hcv := conv_bytesT hc' KS.out
  have hne : g ≠ w.heap.size + 1 := by have := GE.out; omega
  have hne2 : w.heap.size + 1 ≠ g := by have := GE.out; omega
  have BZ := Hid.mk' (HB.out.trans (BS.out.mono HB.out.size))
  have ZR := Hid.mk' (ZU.other (a := ⟨g, 1, none⟩) hne2 (.string (strI H)))
  go_wp2_with ((with_reducible refine wpList_store_row ?_ 124 (.tmp 2) (.tmp 26) ?_ (w.heap.size + 1) #[.complex .f64 (floatOfInt .f64 0) (floatOfInt .f64 (y : Int)), .string (strI H)] ?_ ?_ 124 #[.complex .f64 0 0, .string ⟨#[]⟩] ?_ ?_ ?_ ?_ ?_); rfl; rfl; rfl; rfl; exact ZR.out; kernel_rfl; rfl; kernel_rfl)
  refine bodyPost_ret (v := .agg #[.complex .f64 (floatOfInt .f64 0) (floatOfInt .f64 (y : Int)), .string (strI H)]) ?_ ?_ ?_
  ·exact results_cell_row Tryz.results87 _ _ (w.heap.size + 1) 124 _ (0, 0) _ rfl (ZR.out.put _) Tryz.underlying124 rfl (by kernel_rfl)
  ·rfl
  have ge := GE.out
  exact ⟨rfl, RowA.putBelow (BZ.out.setCell (p := ⟨g, 1, none⟩) (by show w.heap.size ≤ g; omega) _) (by omega) _⟩
theorem editFirstD_any (tp : TypeId) (pv : Value) (D s J gd gc : Nat) (tv hv : Value) (tb tc : Nat) (T : List Int) (Q Tn : Nat) (ka : Option Addr) (kc : Nat) (h0 : List Int) (x y : Nat) (w : World) (hE : Env w.heap.size tp pv w) (hk : BAt w ka h0) (hgd : GoodH h0) (hub : Byt h0) (hx : x ≤ 240) (ht : CAt w tb 0 T) (htc : T.length ≤ tc) (htb : Byt T) (hTl : T.length ≤ 240) (hQx : Q ≤ x) (hxT : x ≤ T.length) (hcq : ¬ tc = Q) :
  Calls Tryz.prog 87 #[.agg (edX D s J gd gc tv hv (.slice (some ⟨tb, 0, none⟩) T.length tc) Q Tn (.slice ka h0.length kc) x y)] w fun e w' => e = .returned (.agg #[.complex .f64 (floatOfInt .f64 (x : Int)) (floatOfInt .f64 (y : Int)), .string (strI (allX [] h0 ((T.drop Q).take (x - Q))).2)]) ∧ Below w.heap.size w w' := by
 obtain ⟨H, hH⟩ : ∃ H, (allX [] h0 ((T.drop Q).take (x - Q))).2 = H := ⟨_, rfl⟩
 rw [hH]
 have HHE := Hid.mk' hH
 clear hH
 obtain ⟨B0, R0, Z0⟩ := twoE w (edX D s J gd gc tv hv (.slice (some ⟨tb, 0, none⟩) T.length tc) Q Tn (.slice ka h0.length kc) x y) #[.complex .f64 0 0, .string ⟨#[]⟩]
 have HB := Hid.mk' B0
 have HR := Hid.mk' R0
 have HZ := Hid.mk' Z0
 have HE := Hid.mk' hE
 have HK := Hid.mk' hk
 have HG := Hid.mk' hgd
 have HU := Hid.mk' hub
 have HC := Hid.mk' ht
 have HTB := Hid.mk' htb
 clear ht htb
 clear B0 R0 Z0 hE hk hgd hub
 generalize hW : (w.alloc (.cells (edX D s J gd gc tv hv (.slice (some ⟨tb, 0, none⟩) T.length tc) Q Tn (.slice ka h0.length kc) x y) 86)).alloc (.cells #[.complex .f64 0 0, .string ⟨#[]⟩] 124) = W at *
 have x5 := HR.out.cell 5 (.slice (some ⟨tb, 0, none⟩) T.length tc) rfl
 have x6 := HR.out.cell 6 (.int .i64 (Q : Int)) rfl
 have x8 := HR.out.cell 8 (.slice ka h0.length kc) rfl
 have x9 := HR.out.cell 9 (.complex .f64 (floatOfInt .f64 (x : Int)) (floatOfInt .f64 (y : Int))) rfl
 have i1 : (0 : Int) ≤ (Q : Int) := by omega
 have i2 : (Q : Int) ≤ (x : Int) := by omega
 have i3 : (x : Int) ≤ (tc : Int) := by omega
 have L1 : Hid (((T.drop Q).take (x - Q)).length = x - Q) := Hid.mk' (mid_len (by omega))
 have HY : Hid (Byt ((T.drop Q).take (x - Q))) := Hid.mk' (byt_mid HTB.out _ _)
 have DB : Hid (∀ v, Below w.heap.size w v → BAt v (some ⟨tb, Q, none⟩) ((T.drop Q).take (x - Q))) := Hid.mk' (fun v hv => by have := (HC.out.below hv).mid (f := Q) (z := x - Q) (by omega); rwa [Nat.zero_add] at this)
 go_enter Tryz.func87, Tryz.ntmps87
 go_wp2_with (first | ((with_reducible refine wpList_store_row ?_ 124 (.tmp 3) (.tmp 7) ?_ W.heap.size #[.complex .f64 (floatOfInt .f64 (x : Int)) (floatOfInt .f64 (y : Int)), .string ⟨#[]⟩] ?_ ?_ 124 #[.complex .f64 0 0, .string ⟨#[]⟩] ?_ ?_ ?_ ?_ ?_); rfl; rfl; rfl; rfl; exact RowA.new _ _ _; kernel_rfl; rfl; kernel_rfl; rw [alloc_setRow]) | fail)
 clear hW x5 x6 x8 x9
 have GE0 := HZ.out.lt
 have NG := below_new W (.cells #[.complex .f64 (floatOfInt .f64 (x : Int)) (floatOfInt .f64 (y : Int)), .string ⟨#[]⟩] 124)
 have HH := Hid.mk' (RowA.new W 124 #[.complex .f64 (floatOfInt .f64 (x : Int)) (floatOfInt .f64 (y : Int)), .string ⟨#[]⟩])
 have HR := Hid.mk' (HR.out.below NG)
 have HZ := Hid.mk' (HZ.out.below NG)
 have HB := Hid.mk' (HB.out.trans (NG.mono HB.out.size))
 clear NG
 generalize hV : W.alloc (.cells #[.complex .f64 (floatOfInt .f64 (x : Int)) (floatOfInt .f64 (y : Int)), .string ⟨#[]⟩] 124) = V at *
 have GE : Hid (w.heap.size + 1 < W.heap.size) := Hid.mk' GE0
 obtain ⟨g, hg⟩ : ∃ g, W.heap.size = g := ⟨_, rfl⟩
 rw [hg] at HH GE ⊢
 clear hV hg GE0
 have HCE : Hid (∀ v, Below V.heap.size V v → (fun v => v.cell? ⟨w.heap.size, 5, none⟩ = some (.slice (some ⟨tb, 0, none⟩) T.length tc) ∧ v.cell? ⟨w.heap.size, 6, none⟩ = some (.int .i64 (Q : Int)) ∧ v.cell? ⟨w.heap.size, 8, none⟩ = some (.slice ka h0.length kc) ∧ v.cell? ⟨g, 0, none⟩ = some (.complex .f64 (floatOfInt .f64 (x : Int)) (floatOfInt .f64 (y : Int))) ∧ v.cell? ⟨g, 1, none⟩ = some (.string ⟨#[]⟩)) v) := Hid.mk' (fun v hb => ⟨(HR.out.below hb).cell 5 _ rfl, (HR.out.below hb).cell 6 _ rfl, (HR.out.below hb).cell 8 _ rfl, (HH.out.below hb).cell 0 _ rfl, (HH.out.below hb).cell 1 _ rfl⟩)
 have KN : Hid (∀ v, Calls Tryz.prog 88 #[.agg #[.complex .f64 (floatOfInt .f64 (x : Int)) (floatOfInt .f64 (y : Int)), .string ⟨#[]⟩]] v fun e w' => e = .returned (.int .i64 (x : Int)) ∧ Below v.heap.size v w') := Hid.mk' (fun v => now_any _ _ _ _ v (fl_int x (by omega)))
 have KA : Hid (∀ v, Below V.heap.size V v → Calls Tryz.prog 15 #[.agg #[.slice ka h0.length kc], (.slice (some ⟨tb, Q, none⟩) (x - Q) (tc - Q))] v fun e w' => FbP H v e w') := Hid.mk' (fun v hv => by
  have hb := HB.out.trans (hv.mono HB.out.size)
  have K := feedFrom_any tp pv h0 ka kc ((T.drop Q).take (x - Q)) (some ⟨tb, Q, none⟩) (tc - Q) v ((HE.out.keep hb).up hb.size (Nat.le_refl _)) (HK.out.below hb) HG.out HU.out (DB.out v hb) HY.out (by rw [L1.out]; omega)
  rw [L1.out] at K
  exact K.mono fun e w' h => by have h2 := h.fb; rw [HHE.out] at h2; exact h2)
 refine wp_region_held_drew (S := (fun v => v.cell? ⟨w.heap.size, 5, none⟩ = some (.slice (some ⟨tb, 0, none⟩) T.length tc) ∧ v.cell? ⟨w.heap.size, 6, none⟩ = some (.int .i64 (Q : Int)) ∧ v.cell? ⟨w.heap.size, 8, none⟩ = some (.slice ka h0.length kc) ∧ v.cell? ⟨g, 0, none⟩ = some (.complex .f64 (floatOfInt .f64 (x : Int)) (floatOfInt .f64 (y : Int))) ∧ v.cell? ⟨g, 1, none⟩ = some (.string ⟨#[]⟩))) (by kernel_rfl) (HCE.out _ (Below.refl _ _).drew) (fun hHeld => ?_)
 refine tkY 0 ?_
 refine tkY 1 ?_
 refine tkY 2 ?_
 refine tkY 3 ?_
 refine tkY 4 ?_
 refine tkY 5 ?_
 refine tkY 6 ?_
 refine tkY 7 ?_
 refine tkY 8 ?_
 refine tkY 9 ?_
 refine wpAnyH_ready (rs := [10, 13]) (by kernel_rfl) (by simp) ?_
 refine AllReadyH.cons (o := ⟨_, _, _, _, _, _⟩) rfl (fun K9 hK => ?_) (AllReadyH.cons (o := ⟨_, _, _, _, _, _⟩) rfl (fun K9 hK => ?_) AllReadyH.nil)
 ·go_simp
  refine (KN.out _).mono ?_
  rintro e1 w1 ⟨rfl, hb⟩
  replace hb := undrew hb
  have BB := Hid.mk' (hb)

  clear hb
  refine hK.out _ _ (HCE.out _ BB.out) (fun hHeld => ?_)
  clear hK K9
  try simp only [Act.put, zA, zB, zC]
  refine tkY 11 ?_
  refine wpAnyH_ready (rs := [12, 13]) (by kernel_rfl) (by simp) ?_
  refine AllReadyH.cons (o := ⟨_, _, _, _, _, _⟩) rfl (fun K9 hK => ?_) (AllReadyH.cons (o := ⟨_, _, _, _, _, _⟩) rfl (fun K9 hK => ?_) AllReadyH.nil)
  ·go_simp
   refine (KA.out _ BB.out).mono ?_
   rintro e2 w2 ⟨ta, tn, tc', ha, hc', rfl, hh, hlo, hb⟩

   have BB := Hid.mk' (BB.out.trans (hb.mono BB.out.size))
   have FH := Hid.mk' hh
   have FL := Hid.mk' hlo
   have FB : Hid (∀ b o, ha = some ⟨b, o, none⟩ → H ≠ [] → b < w2.heap.size) := Hid.mk' (fun b o e hn => by rcases hh with h | ⟨b', o', e', hs', _⟩; exact absurd h hn; rw [e] at e'; cases e'; exact hs')
   clear hb hh hlo
   refine hK.out _ _ (HCE.out _ BB.out) (fun hHeld => ?_)
   clear hK K9
   try simp only [Act.put, zA, zB, zC]
   refine wpAnyH_ready (rs := [13]) (by kernel_rfl) (by simp) ?_
   refine AllReadyH.cons (o := ⟨_, _, _, _, _, _⟩) rfl (fun K9 hK => ?_) AllReadyH.nil
   go_simp
   have BP := Hid.mk' BB.out
   have FP := Hid.mk' FH.out
   have NA := below_new w2 (.cells #[.int .i64 0, .slice none 0 0, .slice none 0 0] 41)
   have BX : Hid (V.heap.size ≤ w2.heap.size) := Hid.mk' BB.out.size
   have FX := Hid.mk' (RowA.new w2 41 #[.int .i64 0, .slice none 0 0, .slice none 0 0])
   have FH := Hid.mk' (FH.out.below NA)
   have BB := Hid.mk' (BB.out.trans (NA.mono BB.out.size))
   clear NA
   refine hK.out _ _ (HCE.out _ BB.out) (fun hHeld => ?_)
   clear hK K9
   try simp only [Act.put, zA, zB, zC]
   refine wpAnyH_ready (rs := [14]) (by kernel_rfl) (by simp) ?_
   refine AllReadyH.cons (o := ⟨_, _, _, _, _, _⟩) rfl (fun K9 hK => ?_) AllReadyH.nil
   have z0 := FX.out.cell 0 _ rfl
   have z1 := FX.out.cell 1 _ rfl
   have z2 := FX.out.cell 2 _ rfl
   have f0 := FX.out.frozen 0
   have f1 := FX.out.frozen 1
   have f2 := FX.out.frozen 2
   go_simp
   have FS := RowA.new w2 41 #[.int .i64 0, .slice ta tn tc', .slice ha H.length hc']
   have BS := BP.out.trans ((below_new w2 (.cells #[.int .i64 0, .slice ta tn tc', .slice ha H.length hc'] 41)).mono BP.out.size)
   have KS : BAt (w2.alloc (.cells #[.int .i64 0, .slice ta tn tc', .slice ha H.length hc'] 41)) ha H := FP.out.below (below_new w2 _)
   refine hK.out _ _ (HCE.out _ BS) (fun hHeld => ?_)
   clear hK K9 z0 z1 z2 f0 f1 f2
   try simp only [Act.put, zA, zB, zC]
   refine wpAnyH_done (by kernel_rfl) ?_ _
   clear hHeld
   have FS := Hid.mk' FS
   have BS := Hid.mk' BS
   have KS := Hid.mk' KS
   generalize hU : (w2.alloc (.cells #[.int .i64 0, .slice ta tn tc', .slice ha H.length hc'] 41)) = U at *
   clear hU
   have v2 := FS.out.cell 2 (.slice ha H.length hc') rfl
   have HHU := HH.out.below BS.out
   have g0 := HHU.cell 0 _ rfl
   have g1 := HHU.cell 1 _ rfl
   have q0 := HHU.frozen 0
   have q1 := HHU.frozen 1
   have ZU := HZ.out.below BS.out
   have r0 := ZU.cell 0 _ rfl
   have r1 := ZU.cell 1 _ rfl
   have p0 := ZU.frozen 0
   have p1 := ZU.frozen 1
   have hcv := conv_bytesT hc' KS.out
   have hne : g ≠ w.heap.size + 1 := by have := GE.out; omega
   have hne2 : w.heap.size + 1 ≠ g := by have := GE.out; omega
   have BZ := Hid.mk' (HB.out.trans (BS.out.mono HB.out.size))
   have ZR := Hid.mk' (ZU.other (a := ⟨g, 1, none⟩) hne2 (.string (strI H)))
   go_wp2_with ((with_reducible refine wpList_store_row ?_ 124 (.tmp 2) (.tmp 26) ?_ (w.heap.size + 1) #[.complex .f64 (floatOfInt .f64 (x : Int)) (floatOfInt .f64 (y : Int)), .string (strI H)] ?_ ?_ 124 #[.complex .f64 0 0, .string ⟨#[]⟩] ?_ ?_ ?_ ?_ ?_); rfl; rfl; rfl; rfl; exact ZR.out; kernel_rfl; rfl; kernel_rfl)
   refine bodyPost_ret (v := .agg #[.complex .f64 (floatOfInt .f64 (x : Int)) (floatOfInt .f64 (y : Int)), .string (strI H)]) ?_ ?_ ?_
   ·exact results_cell_row Tryz.results87 _ _ (w.heap.size + 1) 124 _ (0, 0) _ rfl (ZR.out.put _) Tryz.underlying124 rfl (by kernel_rfl)
   ·rfl
   have ge := GE.out
   exact ⟨rfl, RowA.putBelow (BZ.out.setCell (p := ⟨g, 1, none⟩) (by show w.heap.size ≤ g; omega) _) (by omega) _⟩
  ·go_simp
   have NA := below_new w1 (.cells #[.int .i64 0, .slice none 0 0, .slice none 0 0] 41)
   have BX : Hid (V.heap.size ≤ w1.heap.size) := Hid.mk' BB.out.size
   have FX := Hid.mk' (RowA.new w1 41 #[.int .i64 0, .slice none 0 0, .slice none 0 0])

   have BB := Hid.mk' (BB.out.trans (NA.mono BB.out.size))
   clear NA
   refine hK.out _ _ (HCE.out _ BB.out) (fun hHeld => ?_)
   clear hK K9
   try simp only [Act.put, zA, zB, zC]
   refine wpAnyH_ready (rs := [12]) (by kernel_rfl) (by simp) ?_
   refine AllReadyH.cons (o := ⟨_, _, _, _, _, _⟩) rfl (fun K9 hK => ?_) AllReadyH.nil
   go_simp
   refine (KA.out _ BB.out).mono ?_
   rintro e2 w2 ⟨ta, tn, tc', ha, hc', rfl, hh, hlo, hb⟩
   have FX := Hid.mk' (FX.out.below hb)
   have BB := Hid.mk' (BB.out.trans (hb.mono BB.out.size))
   have FH := Hid.mk' hh
   have FL := Hid.mk' hlo
   have FB : Hid (∀ b o, ha = some ⟨b, o, none⟩ → H ≠ [] → b < w2.heap.size) := Hid.mk' (fun b o e hn => by rcases hh with h | ⟨b', o', e', hs', _⟩; exact absurd h hn; rw [e] at e'; cases e'; exact hs')
   clear hb hh hlo
   refine hK.out _ _ (HCE.out _ BB.out) (fun hHeld => ?_)
   clear hK K9
   try simp only [Act.put, zA, zB, zC]
   refine wpAnyH_ready (rs := [14]) (by kernel_rfl) (by simp) ?_
   refine AllReadyH.cons (o := ⟨_, _, _, _, _, _⟩) rfl (fun K9 hK => ?_) AllReadyH.nil
   have z0 := FX.out.cell 0 _ rfl
   have z1 := FX.out.cell 1 _ rfl
   have z2 := FX.out.cell 2 _ rfl
   have f0 := FX.out.frozen 0
   have f1 := FX.out.frozen 1
   have f2 := FX.out.frozen 2
   go_simp
   have lx := BX.out
   have FS := ((FX.out.set 0 (.int .i64 0)).set 1 (.slice ta tn tc')).set 2 (.slice ha H.length hc')
   have BS := ((BB.out.setCell (p := ⟨w1.heap.size, 0, none⟩) lx (.int .i64 0)).setCell (p := ⟨w1.heap.size, 1, none⟩) lx (.slice ta tn tc')).setCell (p := ⟨w1.heap.size, 2, none⟩) lx (.slice ha H.length hc')
   have KS : BAt (((w2.setCell ⟨w1.heap.size, 0, none⟩ (.int .i64 0)).setCell ⟨w1.heap.size, 1, none⟩ (.slice ta tn tc')).setCell ⟨w1.heap.size, 2, none⟩ (.slice ha H.length hc')) ha H := bat_other FH.out (by intro b o e _; have h7 := FL.out b o e; have h8 : w1.heap.size < (w1.alloc (.cells #[.int .i64 0, .slice none 0 0, .slice none 0 0] 41)).heap.size := (by simp); omega)
   refine hK.out _ _ (HCE.out _ BS) (fun hHeld => ?_)
   clear hK K9 z0 z1 z2 f0 f1 f2
   try simp only [Act.put, zA, zB, zC]
   refine wpAnyH_done (by kernel_rfl) ?_ _
   clear hHeld
   have FS := Hid.mk' FS
   have BS := Hid.mk' BS
   have KS := Hid.mk' KS
   generalize hU : (((w2.setCell ⟨w1.heap.size, 0, none⟩ (.int .i64 0)).setCell ⟨w1.heap.size, 1, none⟩ (.slice ta tn tc')).setCell ⟨w1.heap.size, 2, none⟩ (.slice ha H.length hc')) = U at *
   clear hU
   have v2 := FS.out.cell 2 (.slice ha H.length hc') rfl
   have HHU := HH.out.below BS.out
   have g0 := HHU.cell 0 _ rfl
   have g1 := HHU.cell 1 _ rfl
   have q0 := HHU.frozen 0
   have q1 := HHU.frozen 1
   have ZU := HZ.out.below BS.out
   have r0 := ZU.cell 0 _ rfl
   have r1 := ZU.cell 1 _ rfl
   have p0 := ZU.frozen 0
   have p1 := ZU.frozen 1
   have hcv := conv_bytesT hc' KS.out
   have hne : g ≠ w.heap.size + 1 := by have := GE.out; omega
   have hne2 : w.heap.size + 1 ≠ g := by have := GE.out; omega
   have BZ := Hid.mk' (HB.out.trans (BS.out.mono HB.out.size))
   have ZR := Hid.mk' (ZU.other (a := ⟨g, 1, none⟩) hne2 (.string (strI H)))
   go_wp2_with ((with_reducible refine wpList_store_row ?_ 124 (.tmp 2) (.tmp 26) ?_ (w.heap.size + 1) #[.complex .f64 (floatOfInt .f64 (x : Int)) (floatOfInt .f64 (y : Int)), .string (strI H)] ?_ ?_ 124 #[.complex .f64 0 0, .string ⟨#[]⟩] ?_ ?_ ?_ ?_ ?_); rfl; rfl; rfl; rfl; exact ZR.out; kernel_rfl; rfl; kernel_rfl)
   refine bodyPost_ret (v := .agg #[.complex .f64 (floatOfInt .f64 (x : Int)) (floatOfInt .f64 (y : Int)), .string (strI H)]) ?_ ?_ ?_
   ·exact results_cell_row Tryz.results87 _ _ (w.heap.size + 1) 124 _ (0, 0) _ rfl (ZR.out.put _) Tryz.underlying124 rfl (by kernel_rfl)
   ·rfl
   have ge := GE.out
   exact ⟨rfl, RowA.putBelow (BZ.out.setCell (p := ⟨g, 1, none⟩) (by show w.heap.size ≤ g; omega) _) (by omega) _⟩
 ·go_simp
  have NA := below_new V (.cells #[.int .i64 0, .slice none 0 0, .slice none 0 0] 41)
  have BX : Hid (V.heap.size ≤ V.heap.size) := Hid.mk' (Nat.le_refl _)
  have FX := Hid.mk' (RowA.new V 41 #[.int .i64 0, .slice none 0 0, .slice none 0 0])

  have BB := Hid.mk' (NA)
  clear NA
  refine hK.out _ _ (HCE.out _ BB.out.drew) (fun hHeld => ?_)
  clear hK K9
  try simp only [Act.put, zA, zB, zC]
  refine wpAnyH_ready (rs := [10]) (by kernel_rfl) (by simp) ?_
  refine AllReadyH.cons (o := ⟨_, _, _, _, _, _⟩) rfl (fun K9 hK => ?_) AllReadyH.nil
  go_simp
  have SV1 : Hid (V.heap.size < (V.alloc (.cells #[.int .i64 0, .slice none 0 0, .slice none 0 0] 41)).heap.size) := Hid.mk' (by simp)
  refine (KN.out _).mono ?_
  rintro e1 w1 ⟨rfl, hb⟩
  replace hb := undrew hb

  have SV1 : Hid (V.heap.size < w1.heap.size) := Hid.mk' (Nat.lt_of_lt_of_le SV1.out hb.size)
  have BB := Hid.mk' (BB.out.trans (hb.mono BB.out.size))
  have FX := Hid.mk' (FX.out.below hb)
  clear hb
  refine hK.out _ _ (HCE.out _ BB.out) (fun hHeld => ?_)
  clear hK K9
  try simp only [Act.put, zA, zB, zC]
  refine tkY 11 ?_
  refine wpAnyH_ready (rs := [12]) (by kernel_rfl) (by simp) ?_
  refine AllReadyH.cons (o := ⟨_, _, _, _, _, _⟩) rfl (fun K9 hK => ?_) AllReadyH.nil
  go_simp
  refine (KA.out _ BB.out).mono ?_
  rintro e2 w2 ⟨ta, tn, tc', ha, hc', rfl, hh, hlo, hb⟩
  have FX := Hid.mk' (FX.out.below hb)
  have BB := Hid.mk' (BB.out.trans (hb.mono BB.out.size))
  have FH := Hid.mk' hh
  have FL := Hid.mk' hlo
  have FB : Hid (∀ b o, ha = some ⟨b, o, none⟩ → H ≠ [] → b < w2.heap.size) := Hid.mk' (fun b o e hn => by rcases hh with h | ⟨b', o', e', hs', _⟩; exact absurd h hn; rw [e] at e'; cases e'; exact hs')
  clear hb hh hlo
  refine hK.out _ _ (HCE.out _ BB.out) (fun hHeld => ?_)
  clear hK K9
  try simp only [Act.put, zA, zB, zC]
  refine wpAnyH_ready (rs := [14]) (by kernel_rfl) (by simp) ?_
  refine AllReadyH.cons (o := ⟨_, _, _, _, _, _⟩) rfl (fun K9 hK => ?_) AllReadyH.nil
  have z0 := FX.out.cell 0 _ rfl
  have z1 := FX.out.cell 1 _ rfl
  have z2 := FX.out.cell 2 _ rfl
  have f0 := FX.out.frozen 0
  have f1 := FX.out.frozen 1
  have f2 := FX.out.frozen 2
  go_simp
  have lx := BX.out
  have FS := ((FX.out.set 0 (.int .i64 0)).set 1 (.slice ta tn tc')).set 2 (.slice ha H.length hc')
  have BS := ((BB.out.setCell (p := ⟨V.heap.size, 0, none⟩) lx (.int .i64 0)).setCell (p := ⟨V.heap.size, 1, none⟩) lx (.slice ta tn tc')).setCell (p := ⟨V.heap.size, 2, none⟩) lx (.slice ha H.length hc')
  have KS : BAt (((w2.setCell ⟨V.heap.size, 0, none⟩ (.int .i64 0)).setCell ⟨V.heap.size, 1, none⟩ (.slice ta tn tc')).setCell ⟨V.heap.size, 2, none⟩ (.slice ha H.length hc')) ha H := bat_other FH.out (by intro b o e _; have h7 := FL.out b o e; have h8 := SV1.out; omega)
  refine hK.out _ _ (HCE.out _ BS) (fun hHeld => ?_)
  clear hK K9 z0 z1 z2 f0 f1 f2
  try simp only [Act.put, zA, zB, zC]
  refine wpAnyH_done (by kernel_rfl) ?_ _
  clear hHeld
  have FS := Hid.mk' FS
  have BS := Hid.mk' BS
  have KS := Hid.mk' KS
  generalize hU : (((w2.setCell ⟨V.heap.size, 0, none⟩ (.int .i64 0)).setCell ⟨V.heap.size, 1, none⟩ (.slice ta tn tc')).setCell ⟨V.heap.size, 2, none⟩ (.slice ha H.length hc')) = U at *
  clear hU
  have v2 := FS.out.cell 2 (.slice ha H.length hc') rfl
  have HHU := HH.out.below BS.out
  have g0 := HHU.cell 0 _ rfl
  have g1 := HHU.cell 1 _ rfl
  have q0 := HHU.frozen 0
  have q1 := HHU.frozen 1
  have ZU := HZ.out.below BS.out
  have r0 := ZU.cell 0 _ rfl
  have r1 := ZU.cell 1 _ rfl
  have p0 := ZU.frozen 0
  have p1 := ZU.frozen 1
  have hcv := conv_bytesT hc' KS.out
  have hne : g ≠ w.heap.size + 1 := by have := GE.out; omega
  have hne2 : w.heap.size + 1 ≠ g := by have := GE.out; omega
  have BZ := Hid.mk' (HB.out.trans (BS.out.mono HB.out.size))
  have ZR := Hid.mk' (ZU.other (a := ⟨g, 1, none⟩) hne2 (.string (strI H)))
  go_wp2_with ((with_reducible refine wpList_store_row ?_ 124 (.tmp 2) (.tmp 26) ?_ (w.heap.size + 1) #[.complex .f64 (floatOfInt .f64 (x : Int)) (floatOfInt .f64 (y : Int)), .string (strI H)] ?_ ?_ 124 #[.complex .f64 0 0, .string ⟨#[]⟩] ?_ ?_ ?_ ?_ ?_); rfl; rfl; rfl; rfl; exact ZR.out; kernel_rfl; rfl; kernel_rfl)
  refine bodyPost_ret (v := .agg #[.complex .f64 (floatOfInt .f64 (x : Int)) (floatOfInt .f64 (y : Int)), .string (strI H)]) ?_ ?_ ?_
  ·exact results_cell_row Tryz.results87 _ _ (w.heap.size + 1) 124 _ (0, 0) _ rfl (ZR.out.put _) Tryz.underlying124 rfl (by kernel_rfl)
  ·rfl
  have ge := GE.out
  exact ⟨rfl, RowA.putBelow (BZ.out.setCell (p := ⟨g, 1, none⟩) (by show w.heap.size ≤ g; omega) _) (by omega) _⟩
theorem editFirstE_any (tp : TypeId) (pv : Value) (D s J gd gc : Nat) (tv hv : Value) (tb : Nat) (T : List Int) (Q Tn : Nat) (ka : Option Addr) (kc : Nat) (h0 : List Int) (x y : Nat) (w : World) (hE : Env w.heap.size tp pv w) (hk : BAt w ka h0) (hgd : GoodH h0) (hub : Byt h0) (hx : x ≤ 240) (ht : CAt w tb 0 T) (htc : T.length ≤ Q) (htb : Byt T) (hTl : T.length ≤ 240) (hQx : Q ≤ x) (hxT : x ≤ T.length)  :
  Calls Tryz.prog 87 #[.agg (edX D s J gd gc tv hv (.slice (some ⟨tb, 0, none⟩) T.length Q) Q Tn (.slice ka h0.length kc) x y)] w fun e w' => e = .returned (.agg #[.complex .f64 (floatOfInt .f64 (x : Int)) (floatOfInt .f64 (y : Int)), .string (strI (allX [] h0 ((T.drop Q).take (x - Q))).2)]) ∧ Below w.heap.size w w' := by
 obtain ⟨H, hH⟩ : ∃ H, (allX [] h0 ((T.drop Q).take (x - Q))).2 = H := ⟨_, rfl⟩
 rw [hH]
 have HHE := Hid.mk' hH
 clear hH
 obtain ⟨B0, R0, Z0⟩ := twoE w (edX D s J gd gc tv hv (.slice (some ⟨tb, 0, none⟩) T.length Q) Q Tn (.slice ka h0.length kc) x y) #[.complex .f64 0 0, .string ⟨#[]⟩]
 have HB := Hid.mk' B0
 have HR := Hid.mk' R0
 have HZ := Hid.mk' Z0
 have HE := Hid.mk' hE
 have HK := Hid.mk' hk
 have HG := Hid.mk' hgd
 have HU := Hid.mk' hub
 have HC := Hid.mk' ht
 have HTB := Hid.mk' htb
 clear ht htb
 clear B0 R0 Z0 hE hk hgd hub
 generalize hW : (w.alloc (.cells (edX D s J gd gc tv hv (.slice (some ⟨tb, 0, none⟩) T.length Q) Q Tn (.slice ka h0.length kc) x y) 86)).alloc (.cells #[.complex .f64 0 0, .string ⟨#[]⟩] 124) = W at *
 have x5 := HR.out.cell 5 (.slice (some ⟨tb, 0, none⟩) T.length Q) rfl
 have x6 := HR.out.cell 6 (.int .i64 (Q : Int)) rfl
 have x8 := HR.out.cell 8 (.slice ka h0.length kc) rfl
 have x9 := HR.out.cell 9 (.complex .f64 (floatOfInt .f64 (x : Int)) (floatOfInt .f64 (y : Int))) rfl
 have i1 : (0 : Int) ≤ (Q : Int) := by omega
 have i2 : (Q : Int) ≤ (x : Int) := by omega
 have i3 : (x : Int) ≤ (Q : Int) := by omega
 have L1 : Hid (((T.drop Q).take (x - Q)).length = x - Q) := Hid.mk' (mid_len (by omega))
 have HY : Hid (Byt ((T.drop Q).take (x - Q))) := Hid.mk' (byt_mid HTB.out _ _)
 have DB : Hid (∀ v, BAt v (some ⟨tb, 0, none⟩) ((T.drop Q).take (x - Q))) := Hid.mk' (fun v => .inl (by rw [List.drop_eq_nil_of_le (by omega), List.take_nil]))
 go_enter Tryz.func87, Tryz.ntmps87
 go_wp2_with (first | ((with_reducible refine wpList_store_row ?_ 124 (.tmp 3) (.tmp 7) ?_ W.heap.size #[.complex .f64 (floatOfInt .f64 (x : Int)) (floatOfInt .f64 (y : Int)), .string ⟨#[]⟩] ?_ ?_ 124 #[.complex .f64 0 0, .string ⟨#[]⟩] ?_ ?_ ?_ ?_ ?_); rfl; rfl; rfl; rfl; exact RowA.new _ _ _; kernel_rfl; rfl; kernel_rfl; rw [alloc_setRow]) | fail)
 clear hW x5 x6 x8 x9
 have GE0 := HZ.out.lt
 have NG := below_new W (.cells #[.complex .f64 (floatOfInt .f64 (x : Int)) (floatOfInt .f64 (y : Int)), .string ⟨#[]⟩] 124)
 have HH := Hid.mk' (RowA.new W 124 #[.complex .f64 (floatOfInt .f64 (x : Int)) (floatOfInt .f64 (y : Int)), .string ⟨#[]⟩])
 have HR := Hid.mk' (HR.out.below NG)
 have HZ := Hid.mk' (HZ.out.below NG)
 have HB := Hid.mk' (HB.out.trans (NG.mono HB.out.size))
 clear NG
 generalize hV : W.alloc (.cells #[.complex .f64 (floatOfInt .f64 (x : Int)) (floatOfInt .f64 (y : Int)), .string ⟨#[]⟩] 124) = V at *
 have GE : Hid (w.heap.size + 1 < W.heap.size) := Hid.mk' GE0
 obtain ⟨g, hg⟩ : ∃ g, W.heap.size = g := ⟨_, rfl⟩
 rw [hg] at HH GE ⊢
 clear hV hg GE0
 have HCE : Hid (∀ v, Below V.heap.size V v → (fun v => v.cell? ⟨w.heap.size, 5, none⟩ = some (.slice (some ⟨tb, 0, none⟩) T.length Q) ∧ v.cell? ⟨w.heap.size, 6, none⟩ = some (.int .i64 (Q : Int)) ∧ v.cell? ⟨w.heap.size, 8, none⟩ = some (.slice ka h0.length kc) ∧ v.cell? ⟨g, 0, none⟩ = some (.complex .f64 (floatOfInt .f64 (x : Int)) (floatOfInt .f64 (y : Int))) ∧ v.cell? ⟨g, 1, none⟩ = some (.string ⟨#[]⟩)) v) := Hid.mk' (fun v hb => ⟨(HR.out.below hb).cell 5 _ rfl, (HR.out.below hb).cell 6 _ rfl, (HR.out.below hb).cell 8 _ rfl, (HH.out.below hb).cell 0 _ rfl, (HH.out.below hb).cell 1 _ rfl⟩)
 have KN : Hid (∀ v, Calls Tryz.prog 88 #[.agg #[.complex .f64 (floatOfInt .f64 (x : Int)) (floatOfInt .f64 (y : Int)), .string ⟨#[]⟩]] v fun e w' => e = .returned (.int .i64 (x : Int)) ∧ Below v.heap.size v w') := Hid.mk' (fun v => now_any _ _ _ _ v (fl_int x (by omega)))
 have KA : Hid (∀ v, Below V.heap.size V v → Calls Tryz.prog 15 #[.agg #[.slice ka h0.length kc], (.slice (some ⟨tb, 0, none⟩) (x - Q) 0)] v fun e w' => FbP H v e w') := Hid.mk' (fun v hv => by
  have hb := HB.out.trans (hv.mono HB.out.size)
  have K := feedFrom_any tp pv h0 ka kc ((T.drop Q).take (x - Q)) (some ⟨tb, 0, none⟩) 0 v ((HE.out.keep hb).up hb.size (Nat.le_refl _)) (HK.out.below hb) HG.out HU.out (DB.out v) HY.out (by rw [L1.out]; omega)
  rw [L1.out] at K
  exact K.mono fun e w' h => by have h2 := h.fb; rw [HHE.out] at h2; exact h2)
 refine wp_region_held_drew (S := (fun v => v.cell? ⟨w.heap.size, 5, none⟩ = some (.slice (some ⟨tb, 0, none⟩) T.length Q) ∧ v.cell? ⟨w.heap.size, 6, none⟩ = some (.int .i64 (Q : Int)) ∧ v.cell? ⟨w.heap.size, 8, none⟩ = some (.slice ka h0.length kc) ∧ v.cell? ⟨g, 0, none⟩ = some (.complex .f64 (floatOfInt .f64 (x : Int)) (floatOfInt .f64 (y : Int))) ∧ v.cell? ⟨g, 1, none⟩ = some (.string ⟨#[]⟩))) (by kernel_rfl) (HCE.out _ (Below.refl _ _).drew) (fun hHeld => ?_)
 refine tkY 0 ?_
 refine tkY 1 ?_
 refine tkY 2 ?_
 refine tkY 3 ?_
 refine tkY 4 ?_
 refine tkY 5 ?_
 refine tkY 6 ?_
 refine tkY 7 ?_
 refine tkY 8 ?_
 refine tkY 9 ?_
 refine wpAnyH_ready (rs := [10, 13]) (by kernel_rfl) (by simp) ?_
 refine AllReadyH.cons (o := ⟨_, _, _, _, _, _⟩) rfl (fun K9 hK => ?_) (AllReadyH.cons (o := ⟨_, _, _, _, _, _⟩) rfl (fun K9 hK => ?_) AllReadyH.nil)
 ·go_simp
  refine (KN.out _).mono ?_
  rintro e1 w1 ⟨rfl, hb⟩
  replace hb := undrew hb
  have BB := Hid.mk' (hb)

  clear hb
  refine hK.out _ _ (HCE.out _ BB.out) (fun hHeld => ?_)
  clear hK K9
  try simp only [Act.put, zA, zB, zC]
  refine tkY 11 ?_
  refine wpAnyH_ready (rs := [12, 13]) (by kernel_rfl) (by simp) ?_
  refine AllReadyH.cons (o := ⟨_, _, _, _, _, _⟩) rfl (fun K9 hK => ?_) (AllReadyH.cons (o := ⟨_, _, _, _, _, _⟩) rfl (fun K9 hK => ?_) AllReadyH.nil)
  ·go_simp
   refine (KA.out _ BB.out).mono ?_
   rintro e2 w2 ⟨ta, tn, tc', ha, hc', rfl, hh, hlo, hb⟩

   have BB := Hid.mk' (BB.out.trans (hb.mono BB.out.size))
   have FH := Hid.mk' hh
   have FL := Hid.mk' hlo
   have FB : Hid (∀ b o, ha = some ⟨b, o, none⟩ → H ≠ [] → b < w2.heap.size) := Hid.mk' (fun b o e hn => by rcases hh with h | ⟨b', o', e', hs', _⟩; exact absurd h hn; rw [e] at e'; cases e'; exact hs')
   clear hb hh hlo
   refine hK.out _ _ (HCE.out _ BB.out) (fun hHeld => ?_)
   clear hK K9
   try simp only [Act.put, zA, zB, zC]
   refine wpAnyH_ready (rs := [13]) (by kernel_rfl) (by simp) ?_
   refine AllReadyH.cons (o := ⟨_, _, _, _, _, _⟩) rfl (fun K9 hK => ?_) AllReadyH.nil
   go_simp
   have BP := Hid.mk' BB.out
   have FP := Hid.mk' FH.out
   have NA := below_new w2 (.cells #[.int .i64 0, .slice none 0 0, .slice none 0 0] 41)
   have BX : Hid (V.heap.size ≤ w2.heap.size) := Hid.mk' BB.out.size
   have FX := Hid.mk' (RowA.new w2 41 #[.int .i64 0, .slice none 0 0, .slice none 0 0])
   have FH := Hid.mk' (FH.out.below NA)
   have BB := Hid.mk' (BB.out.trans (NA.mono BB.out.size))
   clear NA
   refine hK.out _ _ (HCE.out _ BB.out) (fun hHeld => ?_)
   clear hK K9
   try simp only [Act.put, zA, zB, zC]
   refine wpAnyH_ready (rs := [14]) (by kernel_rfl) (by simp) ?_
   refine AllReadyH.cons (o := ⟨_, _, _, _, _, _⟩) rfl (fun K9 hK => ?_) AllReadyH.nil
   have z0 := FX.out.cell 0 _ rfl
   have z1 := FX.out.cell 1 _ rfl
   have z2 := FX.out.cell 2 _ rfl
   have f0 := FX.out.frozen 0
   have f1 := FX.out.frozen 1
   have f2 := FX.out.frozen 2
   go_simp
   have FS := RowA.new w2 41 #[.int .i64 0, .slice ta tn tc', .slice ha H.length hc']
   have BS := BP.out.trans ((below_new w2 (.cells #[.int .i64 0, .slice ta tn tc', .slice ha H.length hc'] 41)).mono BP.out.size)
   have KS : BAt (w2.alloc (.cells #[.int .i64 0, .slice ta tn tc', .slice ha H.length hc'] 41)) ha H := FP.out.below (below_new w2 _)
   refine hK.out _ _ (HCE.out _ BS) (fun hHeld => ?_)
   clear hK K9 z0 z1 z2 f0 f1 f2
   try simp only [Act.put, zA, zB, zC]
   refine wpAnyH_done (by kernel_rfl) ?_ _
   clear hHeld
   have FS := Hid.mk' FS
   have BS := Hid.mk' BS
   have KS := Hid.mk' KS
   generalize hU : (w2.alloc (.cells #[.int .i64 0, .slice ta tn tc', .slice ha H.length hc'] 41)) = U at *
   clear hU
   have v2 := FS.out.cell 2 (.slice ha H.length hc') rfl
   have HHU := HH.out.below BS.out
   have g0 := HHU.cell 0 _ rfl
   have g1 := HHU.cell 1 _ rfl
   have q0 := HHU.frozen 0
   have q1 := HHU.frozen 1
   have ZU := HZ.out.below BS.out
   have r0 := ZU.cell 0 _ rfl
   have r1 := ZU.cell 1 _ rfl
   have p0 := ZU.frozen 0
   have p1 := ZU.frozen 1
   have hcv := conv_bytesT hc' KS.out
   have hne : g ≠ w.heap.size + 1 := by have := GE.out; omega
   have hne2 : w.heap.size + 1 ≠ g := by have := GE.out; omega
   have BZ := Hid.mk' (HB.out.trans (BS.out.mono HB.out.size))
   have ZR := Hid.mk' (ZU.other (a := ⟨g, 1, none⟩) hne2 (.string (strI H)))
   go_wp2_with ((with_reducible refine wpList_store_row ?_ 124 (.tmp 2) (.tmp 26) ?_ (w.heap.size + 1) #[.complex .f64 (floatOfInt .f64 (x : Int)) (floatOfInt .f64 (y : Int)), .string (strI H)] ?_ ?_ 124 #[.complex .f64 0 0, .string ⟨#[]⟩] ?_ ?_ ?_ ?_ ?_); rfl; rfl; rfl; rfl; exact ZR.out; kernel_rfl; rfl; kernel_rfl)
   refine bodyPost_ret (v := .agg #[.complex .f64 (floatOfInt .f64 (x : Int)) (floatOfInt .f64 (y : Int)), .string (strI H)]) ?_ ?_ ?_
   ·exact results_cell_row Tryz.results87 _ _ (w.heap.size + 1) 124 _ (0, 0) _ rfl (ZR.out.put _) Tryz.underlying124 rfl (by kernel_rfl)
   ·rfl
   have ge := GE.out
   exact ⟨rfl, RowA.putBelow (BZ.out.setCell (p := ⟨g, 1, none⟩) (by show w.heap.size ≤ g; omega) _) (by omega) _⟩
  ·go_simp
   have NA := below_new w1 (.cells #[.int .i64 0, .slice none 0 0, .slice none 0 0] 41)
   have BX : Hid (V.heap.size ≤ w1.heap.size) := Hid.mk' BB.out.size
   have FX := Hid.mk' (RowA.new w1 41 #[.int .i64 0, .slice none 0 0, .slice none 0 0])

   have BB := Hid.mk' (BB.out.trans (NA.mono BB.out.size))
   clear NA
   refine hK.out _ _ (HCE.out _ BB.out) (fun hHeld => ?_)
   clear hK K9
   try simp only [Act.put, zA, zB, zC]
   refine wpAnyH_ready (rs := [12]) (by kernel_rfl) (by simp) ?_
   refine AllReadyH.cons (o := ⟨_, _, _, _, _, _⟩) rfl (fun K9 hK => ?_) AllReadyH.nil
   go_simp
   refine (KA.out _ BB.out).mono ?_
   rintro e2 w2 ⟨ta, tn, tc', ha, hc', rfl, hh, hlo, hb⟩
   have FX := Hid.mk' (FX.out.below hb)
   have BB := Hid.mk' (BB.out.trans (hb.mono BB.out.size))
   have FH := Hid.mk' hh
   have FL := Hid.mk' hlo
   have FB : Hid (∀ b o, ha = some ⟨b, o, none⟩ → H ≠ [] → b < w2.heap.size) := Hid.mk' (fun b o e hn => by rcases hh with h | ⟨b', o', e', hs', _⟩; exact absurd h hn; rw [e] at e'; cases e'; exact hs')
   clear hb hh hlo
   refine hK.out _ _ (HCE.out _ BB.out) (fun hHeld => ?_)
   clear hK K9
   try simp only [Act.put, zA, zB, zC]
   refine wpAnyH_ready (rs := [14]) (by kernel_rfl) (by simp) ?_
   refine AllReadyH.cons (o := ⟨_, _, _, _, _, _⟩) rfl (fun K9 hK => ?_) AllReadyH.nil
   have z0 := FX.out.cell 0 _ rfl
   have z1 := FX.out.cell 1 _ rfl
   have z2 := FX.out.cell 2 _ rfl
   have f0 := FX.out.frozen 0
   have f1 := FX.out.frozen 1
   have f2 := FX.out.frozen 2
   go_simp
   have lx := BX.out
   have FS := ((FX.out.set 0 (.int .i64 0)).set 1 (.slice ta tn tc')).set 2 (.slice ha H.length hc')
   have BS := ((BB.out.setCell (p := ⟨w1.heap.size, 0, none⟩) lx (.int .i64 0)).setCell (p := ⟨w1.heap.size, 1, none⟩) lx (.slice ta tn tc')).setCell (p := ⟨w1.heap.size, 2, none⟩) lx (.slice ha H.length hc')
   have KS : BAt (((w2.setCell ⟨w1.heap.size, 0, none⟩ (.int .i64 0)).setCell ⟨w1.heap.size, 1, none⟩ (.slice ta tn tc')).setCell ⟨w1.heap.size, 2, none⟩ (.slice ha H.length hc')) ha H := bat_other FH.out (by intro b o e _; have h7 := FL.out b o e; have h8 : w1.heap.size < (w1.alloc (.cells #[.int .i64 0, .slice none 0 0, .slice none 0 0] 41)).heap.size := (by simp); omega)
   refine hK.out _ _ (HCE.out _ BS) (fun hHeld => ?_)
   clear hK K9 z0 z1 z2 f0 f1 f2
   try simp only [Act.put, zA, zB, zC]
   refine wpAnyH_done (by kernel_rfl) ?_ _
   clear hHeld
   have FS := Hid.mk' FS
   have BS := Hid.mk' BS
   have KS := Hid.mk' KS
   generalize hU : (((w2.setCell ⟨w1.heap.size, 0, none⟩ (.int .i64 0)).setCell ⟨w1.heap.size, 1, none⟩ (.slice ta tn tc')).setCell ⟨w1.heap.size, 2, none⟩ (.slice ha H.length hc')) = U at *
   clear hU
   have v2 := FS.out.cell 2 (.slice ha H.length hc') rfl
   have HHU := HH.out.below BS.out
   have g0 := HHU.cell 0 _ rfl
   have g1 := HHU.cell 1 _ rfl
   have q0 := HHU.frozen 0
   have q1 := HHU.frozen 1
   have ZU := HZ.out.below BS.out
   have r0 := ZU.cell 0 _ rfl
   have r1 := ZU.cell 1 _ rfl
   have p0 := ZU.frozen 0
   have p1 := ZU.frozen 1
   have hcv := conv_bytesT hc' KS.out
   have hne : g ≠ w.heap.size + 1 := by have := GE.out; omega
   have hne2 : w.heap.size + 1 ≠ g := by have := GE.out; omega
   have BZ := Hid.mk' (HB.out.trans (BS.out.mono HB.out.size))
   have ZR := Hid.mk' (ZU.other (a := ⟨g, 1, none⟩) hne2 (.string (strI H)))
   go_wp2_with ((with_reducible refine wpList_store_row ?_ 124 (.tmp 2) (.tmp 26) ?_ (w.heap.size + 1) #[.complex .f64 (floatOfInt .f64 (x : Int)) (floatOfInt .f64 (y : Int)), .string (strI H)] ?_ ?_ 124 #[.complex .f64 0 0, .string ⟨#[]⟩] ?_ ?_ ?_ ?_ ?_); rfl; rfl; rfl; rfl; exact ZR.out; kernel_rfl; rfl; kernel_rfl)
   refine bodyPost_ret (v := .agg #[.complex .f64 (floatOfInt .f64 (x : Int)) (floatOfInt .f64 (y : Int)), .string (strI H)]) ?_ ?_ ?_
   ·exact results_cell_row Tryz.results87 _ _ (w.heap.size + 1) 124 _ (0, 0) _ rfl (ZR.out.put _) Tryz.underlying124 rfl (by kernel_rfl)
   ·rfl
   have ge := GE.out
   exact ⟨rfl, RowA.putBelow (BZ.out.setCell (p := ⟨g, 1, none⟩) (by show w.heap.size ≤ g; omega) _) (by omega) _⟩
 ·go_simp
  have NA := below_new V (.cells #[.int .i64 0, .slice none 0 0, .slice none 0 0] 41)
  have BX : Hid (V.heap.size ≤ V.heap.size) := Hid.mk' (Nat.le_refl _)
  have FX := Hid.mk' (RowA.new V 41 #[.int .i64 0, .slice none 0 0, .slice none 0 0])

  have BB := Hid.mk' (NA)
  clear NA
  refine hK.out _ _ (HCE.out _ BB.out.drew) (fun hHeld => ?_)
  clear hK K9
  try simp only [Act.put, zA, zB, zC]
  refine wpAnyH_ready (rs := [10]) (by kernel_rfl) (by simp) ?_
  refine AllReadyH.cons (o := ⟨_, _, _, _, _, _⟩) rfl (fun K9 hK => ?_) AllReadyH.nil
  go_simp
  have SV1 : Hid (V.heap.size < (V.alloc (.cells #[.int .i64 0, .slice none 0 0, .slice none 0 0] 41)).heap.size) := Hid.mk' (by simp)
  refine (KN.out _).mono ?_
  rintro e1 w1 ⟨rfl, hb⟩
  replace hb := undrew hb

  have SV1 : Hid (V.heap.size < w1.heap.size) := Hid.mk' (Nat.lt_of_lt_of_le SV1.out hb.size)
  have BB := Hid.mk' (BB.out.trans (hb.mono BB.out.size))
  have FX := Hid.mk' (FX.out.below hb)
  clear hb
  refine hK.out _ _ (HCE.out _ BB.out) (fun hHeld => ?_)
  clear hK K9
  try simp only [Act.put, zA, zB, zC]
  refine tkY 11 ?_
  refine wpAnyH_ready (rs := [12]) (by kernel_rfl) (by simp) ?_
  refine AllReadyH.cons (o := ⟨_, _, _, _, _, _⟩) rfl (fun K9 hK => ?_) AllReadyH.nil
  go_simp
  refine (KA.out _ BB.out).mono ?_
  rintro e2 w2 ⟨ta, tn, tc', ha, hc', rfl, hh, hlo, hb⟩
  have FX := Hid.mk' (FX.out.below hb)
  have BB := Hid.mk' (BB.out.trans (hb.mono BB.out.size))
  have FH := Hid.mk' hh
  have FL := Hid.mk' hlo
  have FB : Hid (∀ b o, ha = some ⟨b, o, none⟩ → H ≠ [] → b < w2.heap.size) := Hid.mk' (fun b o e hn => by rcases hh with h | ⟨b', o', e', hs', _⟩; exact absurd h hn; rw [e] at e'; cases e'; exact hs')
  clear hb hh hlo
  refine hK.out _ _ (HCE.out _ BB.out) (fun hHeld => ?_)
  clear hK K9
  try simp only [Act.put, zA, zB, zC]
  refine wpAnyH_ready (rs := [14]) (by kernel_rfl) (by simp) ?_
  refine AllReadyH.cons (o := ⟨_, _, _, _, _, _⟩) rfl (fun K9 hK => ?_) AllReadyH.nil
  have z0 := FX.out.cell 0 _ rfl
  have z1 := FX.out.cell 1 _ rfl
  have z2 := FX.out.cell 2 _ rfl
  have f0 := FX.out.frozen 0
  have f1 := FX.out.frozen 1
  have f2 := FX.out.frozen 2
  go_simp
  have lx := BX.out
  have FS := ((FX.out.set 0 (.int .i64 0)).set 1 (.slice ta tn tc')).set 2 (.slice ha H.length hc')
  have BS := ((BB.out.setCell (p := ⟨V.heap.size, 0, none⟩) lx (.int .i64 0)).setCell (p := ⟨V.heap.size, 1, none⟩) lx (.slice ta tn tc')).setCell (p := ⟨V.heap.size, 2, none⟩) lx (.slice ha H.length hc')
  have KS : BAt (((w2.setCell ⟨V.heap.size, 0, none⟩ (.int .i64 0)).setCell ⟨V.heap.size, 1, none⟩ (.slice ta tn tc')).setCell ⟨V.heap.size, 2, none⟩ (.slice ha H.length hc')) ha H := bat_other FH.out (by intro b o e _; have h7 := FL.out b o e; have h8 := SV1.out; omega)
  refine hK.out _ _ (HCE.out _ BS) (fun hHeld => ?_)
  clear hK K9 z0 z1 z2 f0 f1 f2
  try simp only [Act.put, zA, zB, zC]
  refine wpAnyH_done (by kernel_rfl) ?_ _
  clear hHeld
  have FS := Hid.mk' FS
  have BS := Hid.mk' BS
  have KS := Hid.mk' KS
  generalize hU : (((w2.setCell ⟨V.heap.size, 0, none⟩ (.int .i64 0)).setCell ⟨V.heap.size, 1, none⟩ (.slice ta tn tc')).setCell ⟨V.heap.size, 2, none⟩ (.slice ha H.length hc')) = U at *
  clear hU
  have v2 := FS.out.cell 2 (.slice ha H.length hc') rfl
  have HHU := HH.out.below BS.out
  have g0 := HHU.cell 0 _ rfl
  have g1 := HHU.cell 1 _ rfl
  have q0 := HHU.frozen 0
  have q1 := HHU.frozen 1
  have ZU := HZ.out.below BS.out
  have r0 := ZU.cell 0 _ rfl
  have r1 := ZU.cell 1 _ rfl
  have p0 := ZU.frozen 0
  have p1 := ZU.frozen 1
  have hcv := conv_bytesT hc' KS.out
  have hne : g ≠ w.heap.size + 1 := by have := GE.out; omega
  have hne2 : w.heap.size + 1 ≠ g := by have := GE.out; omega
  have BZ := Hid.mk' (HB.out.trans (BS.out.mono HB.out.size))
  have ZR := Hid.mk' (ZU.other (a := ⟨g, 1, none⟩) hne2 (.string (strI H)))
  go_wp2_with ((with_reducible refine wpList_store_row ?_ 124 (.tmp 2) (.tmp 26) ?_ (w.heap.size + 1) #[.complex .f64 (floatOfInt .f64 (x : Int)) (floatOfInt .f64 (y : Int)), .string (strI H)] ?_ ?_ 124 #[.complex .f64 0 0, .string ⟨#[]⟩] ?_ ?_ ?_ ?_ ?_); rfl; rfl; rfl; rfl; exact ZR.out; kernel_rfl; rfl; kernel_rfl)
  refine bodyPost_ret (v := .agg #[.complex .f64 (floatOfInt .f64 (x : Int)) (floatOfInt .f64 (y : Int)), .string (strI H)]) ?_ ?_ ?_
  ·exact results_cell_row Tryz.results87 _ _ (w.heap.size + 1) 124 _ (0, 0) _ rfl (ZR.out.put _) Tryz.underlying124 rfl (by kernel_rfl)
  ·rfl
  have ge := GE.out
  exact ⟨rfl, RowA.putBelow (BZ.out.setCell (p := ⟨g, 1, none⟩) (by show w.heap.size ≤ g; omega) _) (by omega) _⟩
theorem editFirst_any (tp : TypeId) (pv : Value) (D s J gd gc : Nat) (tv hv tx : Value) (T : List Int) (Q Tn : Nat) (ka : Option Addr) (kc : Nat) (h0 : List Int) (x y : Nat) (w : World) (hE : Env w.heap.size tp pv w) (hk : BAt w ka h0) (hgd : GoodH h0) (hub : Byt h0) (ht : OB w tx T) (htb : Byt T) (hTl : T.length ≤ 240) (hQx : Q ≤ x) (hxT : x ≤ T.length) :
  Calls Tryz.prog 87 #[.agg (edX D s J gd gc tv hv tx Q Tn (.slice ka h0.length kc) x y)] w fun e w' => e = .returned (.agg #[.complex .f64 (floatOfInt .f64 (x : Int)) (floatOfInt .f64 (y : Int)), .string (strI (allX [] h0 ((T.drop Q).take (x - Q))).2)]) ∧ Below w.heap.size w w' := by
 rcases ht with ⟨rfl, rfl⟩ | ⟨g, cap, cn, f, rfl, hc, hr, hcn, hf⟩
 ·have hx0 : x = 0 := by simpa using hxT
  subst hx0
  have hq0 : Q = 0 := by omega
  subst hq0
  exact editFirstN_any tp pv D s J gd gc tv hv Tn ka kc h0 y w hE hk hgd hub
 ·have ht : CAt w g 0 T := ⟨hr.lt, fun k hk => by rw [Nat.zero_add]; exact (hr.cell (by omega)).trans (congrArg some (hf k hk))⟩
  by_cases hcq : cap = Q
  ·subst hcq
   exact editFirstE_any tp pv D s J gd gc tv hv g T cap Tn ka kc h0 x y w hE hk hgd hub (by omega) ht hc htb hTl hQx hxT
  ·exact editFirstD_any tp pv D s J gd gc tv hv g cap T Q Tn ka kc h0 x y w hE hk hgd hub (by omega) ht hc htb hTl hQx hxT hcq

end Go.Proofs.YtlimgcmhidooaaaGreatDoor
