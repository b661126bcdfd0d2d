/- An edit, the program's side. -/
import Derived.Test.YtdloogkjnjklcaaGreatDoorD34
import Derived.Laws.ComplexArith
import Derived.Test.YtdloogkjnjklcaaGreatDoorD33
set_option linter.unusedVariables false
set_option linter.unusedSimpArgs false
namespace Go.Proofs.YtdloogkjnjklcaaGreatDoor
open Go.RowKit

def ed0 : Array Value := #[.slice none 0 0, .int .i64 0, .slice none 0 0, .slice none 0 0, .slice none 0 0, .slice none 0 0, .int .i64 0, .int .i64 0, .slice none 0 0, .complex .f64 0 0]

theorem ed0_one : ed0.all (·.oneCell') = true := by kernel_rfl

def EdP (m : ME) (A N : Int) (p : List Int) (w : World) (e : Ending) (w' : World) : Prop :=
  (¬ edC m A N p = 0 ∧ e = .returned (.tuple #[.agg ed0, .int .i64 (edC m A N p)]) ∧ Below w.heap.size w w') ∨
  (edC m A N p = 0 ∧ ∃ s i j : Nat, m.st = (s : Int) ∧ 1 ≤ s ∧ s ≤ 60 ∧ A = (i : Int) ∧ N = (j : Int) ∧ ∃ gd gc tv hvs us rs bl bh tx, e = .returned (.tuple #[.agg #[.slice (some ⟨gd, 0, none⟩) m.dt.length m.dt.length, .int .i64 (s : Int), tv, hvs (m.dt.length / s + 1), .slice (some ⟨gc, 0, none⟩) (m.dt.length / s + 1) (m.dt.length / s + 1), tx, .int .i64 ((i / s * s : Nat) : Int), .int .i64 ((tkN m.dt s (i / s)).length : Int), hvs (i / s), .complex .f64 (floatOfInt .f64 ((i : Int) + (p.length : Int))) (floatOfInt .f64 ((i : Int) + (j : Int)))], .int .i64 0]) ∧ NM (w.heap.size + 2) m.dt s gd gc tv hvs us rs bl bh w' ∧ OB w' tx (spl m.dt i j p) ∧ In (w.heap.size + 2) w'.heap.size tx ∧ Below w.heap.size w w')

theorem zero10 (w : World) (T : TypeId) (x0 x1 x2 x3 x4 : Value) :
    let W := (w.alloc (.cells #[x0, x1, x2, x3, x4] 26)).alloc (.cells ed0 T)
    Below w.heap.size w W ∧ W.rowIs w.heap.size 26 5 (r5 x0 x1 x2 x3 x4) ∧ W.rowIs (w.heap.size + 1) T 10 (fun i => ed0.getD i undef) := by
  refine ⟨(below_new w _).alloc (by simp) _, (row5 w 26 x0 x1 x2 x3 x4).alloc _, ?_⟩
  have := World.rowIs_alloc (w.alloc (.cells #[x0, x1, x2, x3, x4] 26)) ed0 T (fun i => ed0.getD i undef) (fun i hi => by simp [Array.getD, hi])
  rw [show (w.alloc (.cells #[x0, x1, x2, x3, x4] 26)).heap.size = w.heap.size + 1 by simp] at this
  exact this

theorem results_cell_tmp {fn : Func} {p u : Tmp} {t1 : TypeId} (h : fn.results = #[.cell p t1, .tmp u]) (tmps : Array Value) (P : Program) (w : World) (g : Addr) (v x : Value) (hp : tmps.getD p undef = .pointer (some g)) (hl : (loadVar t1 g).run P w = .ok v w) (hx : tmps.getD u undef = x) :
    (results fn tmps).run P w = .ok (.tuple #[v, x]) w := by
  have e : (results fn tmps).run P w = ((asAddr (tmps.getD p undef)).run P w).andThen fun a w₁ => ((loadVar t1 a).run P w₁).andThen fun v w₂ => .ok (.tuple #[v, tmps.getD u undef]) w₂ := by
    simp only [results, h]
    simp [Sem.run_bind, Result.andThen]
  rw [e, hp, hx]
  simp [asAddr, Result.andThen, hl]

theorem setRow_kept (w : World) (g : Nat) (z : Array Value) : KeptIn g (g + 1) w (w.setRow g z) := ⟨rfl, rfl, rfl, by simp [World.setRow], fun k hk hne => setRow_other w g k _ (by omega)⟩

set_option maxRecDepth 100000 in
set_option maxHeartbeats 6400000 in
theorem newEdit_any (tp : TypeId) (pv : Value) (m : ME) (a t u c : Option Addr) (ca ct cu cc : Nat) (A N : Int) (e : Option Addr) (d : Nat) (p : List Int) (w : World) (hE : Env w.heap.size tp pv w) (h1 : MAt w a t u c m) (hca : m.dt.length ≤ ca) (hub : Byt m.dt) (hm : (msz m : Int) ≤ 1048576) (he : BAt w e p) (hl : p.length ≤ 1048576) (a1 : -9223372036854775808 ≤ A) (a2 : A ≤ 9223372036854775807) (n1 : -9223372036854775808 ≤ N) (n2 : N ≤ 9223372036854775807) :
    Calls Tryz.prog 41 #[.agg #[.slice a m.dt.length ca, .int .i64 m.st, .slice t m.tk.length ct, .slice u m.hd.length cu, .slice c m.cs.length cc], .int .i64 A, .int .i64 N, .slice e p.length d] w fun ev w' => EdP m A N p w ev w' := by
  have MS_ : (msz m : Int) = m.dt.length + m.tk.length + tssz m.tk + m.hd.length + m.cs.length + csz m.cs := by unfold msz; omega
  have hdl : (m.dt.length : Int) ≤ 1048576 := by omega
  obtain ⟨B0, R1, R2⟩ := zero10 w 74 (.slice a m.dt.length ca) (.int .i64 m.st) (.slice t m.tk.length ct) (.slice u m.hd.length cu) (.slice c m.cs.length cc)
  have KR := Hid.mk' (rightMemo_any tp pv m a t u c ca ct cu cc _ ((hE.keep B0).up B0.size (Nat.le_refl _)) (h1.below B0) hca hub hm)
  have HB := Hid.mk' B0
  have H2 := Hid.mk' R2
  have HP := Hid.mk' (he.below B0)
  obtain ⟨x0, x1, x2, x3, x4, x5⟩ := cells5 R1
  clear MS_ B0 R1 R2 h1 hub hm hE he
  unfold ed0 at *
  generalize hW : (w.alloc (.cells #[.slice a m.dt.length ca, .int .i64 m.st, .slice t m.tk.length ct, .slice u m.hd.length cu, .slice c m.cs.length cc] 26)).alloc (.cells #[.slice none 0 0, .int .i64 0, .slice none 0 0, .slice none 0 0, .slice none 0 0, .slice none 0 0, .int .i64 0, .int .i64 0, .slice none 0 0, .complex .f64 0 0] 74) = W at *
  go_enter Tryz.func41, Tryz.ntmps41
  go_wp2_with fail
  clear hW x0 x1 x2 x3 x4 x5
  refine KR.out.mono ?_
  rintro e1 w1 (⟨hf, rfl, hb1⟩ | ⟨hf, h240, s, hst, hs, hs2, hsame, gd, gc, tv, hvs, us, rs, bl, bh, rfl, hx, hb1⟩)
  · have EC : Hid (edC m A N p = memF m) := Hid.mk' (by unfold edC; rw [if_pos hf])
    obtain ⟨F, hF⟩ : ∃ F, memF m = F := ⟨_, rfl⟩
    rw [hF] at EC hf ⊢
    have HNZ : Hid (¬ F = 0) := Hid.mk' hf
    have hne : (F != 0) = true := by simp [hf]
    have N1 := below_new w1 (.cells #[.slice none 0 0, .int .i64 0, .slice none 0 0, .slice none 0 0, .slice none 0 0] 26)
    have M1 := hb1.trans (N1.mono hb1.size)
    have HG := row_arr (rowB H2.out M1)
    have B1 := Hid.mk' (HB.out.trans (M1.mono HB.out.size))
    have HS := fun z => setRow_heap (w1.alloc (.cells #[.slice none 0 0, .int .i64 0, .slice none 0 0, .slice none 0 0, .slice none 0 0] 26)) (w.heap.size + 1) _ z 74 (0, 0) HG
    have HL := run_loadVar_row (P := Tryz.prog) _ (w.heap.size + 1) 74 74 _ (0, 0) _ (HS ed0) Tryz.underlying74 rfl (by kernel_rfl)
    have HG := Hid.mk' HG
    have HK := Hid.mk' (setRow_kept (w1.alloc (.cells #[.slice none 0 0, .int .i64 0, .slice none 0 0, .slice none 0 0, .slice none 0 0] 26)) (w.heap.size + 1) ed0)
    clear hF N1 M1 hb1 HS
    go_wp2_with ((with_reducible refine wpList_store_row ?_ 74 (.tmp 8) (.tmp 21) ?_ (w.heap.size + 1) ed0 ?_ ?_ 74 _ HG.out ?_ ?_ ?_ ?_); rfl; rfl; rfl; rfl; kernel_rfl; (rw [arrOf_size]; rfl); exact ed0_one)
    refine bodyPost_ret (v := .tuple #[.agg ed0, .int .i64 F]) ?_ ?_ ?_
    · exact results_cell_tmp Tryz.results41 _ _ _ ⟨w.heap.size + 1, 0, none⟩ _ _ rfl HL rfl
    · rfl
    exact .inl ⟨by rw [EC.out]; exact HNZ.out, by rw [EC.out], B1.out.trans (HK.out.below (Nat.le_succ _) B1.out.size)⟩
  obtain ⟨ta, tc, rfl, -⟩ := own_src hx.rx.tp.row
  obtain ⟨ha, hc, eh, -⟩ := own_bat (hx.rx.own (m.dt.length / s + 1) (Nat.le_refl _))
  have N1 := below_new w1 (.cells #[.slice (some ⟨gd, 0, none⟩) m.dt.length m.dt.length, .int .i64 (s : Int), .slice ta (tkN m.dt s (m.dt.length / s + 1)).length tc, .slice ha (hdN m.dt s (m.dt.length / s + 1)).length hc, .slice (some ⟨gc, 0, none⟩) (m.dt.length / s + 1) (m.dt.length / s + 1)] 26)
  have M1 := hb1.trans (N1.mono hb1.size)
  have HZ := Hid.mk' (rowB H2.out M1)
  have B1 := Hid.mk' (HB.out.trans (M1.mono HB.out.size))
  have RX := Hid.mk' (row5 w1 26 (.slice (some ⟨gd, 0, none⟩) m.dt.length m.dt.length) (.int .i64 (s : Int)) (.slice ta (tkN m.dt s (m.dt.length / s + 1)).length tc) (.slice ha (hdN m.dt s (m.dt.length / s + 1)).length hc) (.slice (some ⟨gc, 0, none⟩) (m.dt.length / s + 1) (m.dt.length / s + 1)))
  have HX := Hid.mk' (hx.keep (w' := w1.alloc (.cells #[.slice (some ⟨gd, 0, none⟩) m.dt.length m.dt.length, .int .i64 (s : Int), .slice ta (tkN m.dt s (m.dt.length / s + 1)).length tc, .slice ha (hdN m.dt s (m.dt.length / s + 1)).length hc, .slice (some ⟨gc, 0, none⟩) (m.dt.length / s + 1) (m.dt.length / s + 1)] 26)) N1.size (fun q _ h => N1.block q h))
  have HP1 := Hid.mk' (HP.out.below M1)
  have EH := Hid.mk' eh
  have LW : Hid (w.heap.size + 2 ≤ W.heap.size) := Hid.mk' (by have := H2.out.lt; omega)
  have NX1 : Hid (W.heap.size ≤ w1.heap.size) := Hid.mk' hb1.size
  rw [eh]
  clear N1 M1 hb1 hx eh KR HP H2
  generalize hV : w1.alloc (.cells #[.slice (some ⟨gd, 0, none⟩) m.dt.length m.dt.length, .int .i64 (s : Int), .slice ta (tkN m.dt s (m.dt.length / s + 1)).length tc, .slice ha (hdN m.dt s (m.dt.length / s + 1)).length hc, .slice (some ⟨gc, 0, none⟩) (m.dt.length / s + 1) (m.dt.length / s + 1)] 26) = V at *
  have LV : Hid (w1.heap.size < V.heap.size) := Hid.mk' RX.out.lt
  generalize (tkN m.dt s (m.dt.length / s + 1)).length = Tl at *
  generalize (hdN m.dt s (m.dt.length / s + 1)).length = Hl at *
  have KS := Hid.mk' (implSB_any gd 0 m.dt.length m.dt A N e d p V (CAt.of_row HX.out.dt) (Nat.le_refl _) HP1.out (by omega) hl a1 a2 n1 n2)
  obtain ⟨x0, x1, x2, x3, x4, x5⟩ := cells5 RX.out
  go_wp2_with fail
  clear hV x0 x1 x2 x3 x4 x5
  refine KS.out.mono ?_
  rintro e2 w2 ⟨v, rfl, o2, i2, hb2⟩
  have lx := RX.out.lt
  obtain ⟨va, vc, rfl, -⟩ := o2.len
  have ER : Hid (edC m A N p = spC m.dt.length A N p.length) := Hid.mk' (by unfold edC; rw [if_neg (by rw [hf]; simp)])
  have N2 := below_new w2 (.cells #[.int .i64 (spC m.dt.length A N p.length), .slice va (spB m.dt A N p).length vc] 107)
  have M2 := hb2.trans (N2.mono hb2.size)
  have HZ2 := Hid.mk' (rowB HZ.out M2)
  have B2 := Hid.mk' (B1.out.trans (M2.mono B1.out.size))
  have RX2 := Hid.mk' (rowB RX.out M2)
  have HX2 := Hid.mk' (HX.out.keep M2.size (fun q _ h => M2.block q h))
  have O2 := Hid.mk' (o2.below N2)
  have I2 := Hid.mk' (i2.mono (Nat.le_refl _) (N2.size))
  have RT := Hid.mk' (rowQ2 w2 107 (.int .i64 (spC m.dt.length A N p.length)) (.slice va (spB m.dt A N p).length vc))
  have S2 : Hid (V.heap.size ≤ w2.heap.size) := Hid.mk' hb2.size
  have N2Z := Hid.mk' N2
  clear N2 M2 hb2 o2 i2 KS HZ RX HX HP1 B1
  by_cases hz : spC m.dt.length A N p.length = 0
  rotate_left
  · obtain ⟨F, hF⟩ : ∃ F, spC m.dt.length A N p.length = F := ⟨_, rfl⟩
    rw [hF] at ER hz RT HZ2 B2 RX2 HX2 O2 I2 N2Z ⊢
    have HNZ : Hid (¬ F = 0) := Hid.mk' hz
    have hne : (F != 0) = true := by simp [hz]
    have HG := row_arr HZ2.out.drew
    have HS := fun z => setRow_heap _ (w.heap.size + 1) _ z 74 (0, 0) HG
    have HL := run_loadVar_row (P := Tryz.prog) _ (w.heap.size + 1) 74 74 _ (0, 0) _ (HS ed0) Tryz.underlying74 rfl (by kernel_rfl)
    have HG := Hid.mk' HG
    have HL := Hid.mk' HL
    have HK := setRow_kept (w2.alloc (.cells #[.int .i64 F, .slice va (spB m.dt A N p).length vc] 107)).drew (w.heap.size + 1) ed0
    clear hF HS RX2 HX2 O2 I2
    have b2 : w.heap.size + 2 ≤ w2.heap.size := by have := LW.out; have := NX1.out; have := S2.out; omega
    obtain ⟨x0, x1, x2⟩ := cellsQ2 RT.out
    go_wp2
    refine wp_region_held_drew (S := (fun v => v.cell? ⟨w2.heap.size, 0, none⟩ = some (.int .i64 F))) (by kernel_rfl) x0 (fun hHeld => ?_)
    refine wpAnyH_take (i := 0) (oi := ⟨_, _, _, _, _, _⟩) (v := ?_) rfl (by kernel_rfl) (by kernel_rfl) (by kernel_rfl) (fun _ _ _ h => h) (Or.inl ⟨by rfl, ?_⟩) (by assumption) ?_
    rotate_left
    · (intro w hSw; (try dsimp only at hSw); go_simp; (try with_reducible rfl))
    try simp only [Act.put, zA, zB, zC]
    refine wpAnyH_take (i := 1) (oi := ⟨_, _, _, _, _, _⟩) (v := ?_) rfl (by kernel_rfl) (by kernel_rfl) (by kernel_rfl) (fun _ _ _ h => h) (Or.inl ⟨by rfl, ?_⟩) (by assumption) ?_
    rotate_left
    · (intro w hSw; (try dsimp only at hSw); go_simp; (try with_reducible rfl))
    try simp only [Act.put, zA, zB, zC]
    refine wpAnyH_take (i := 2) (oi := ⟨_, _, _, _, _, _⟩) (v := ?_) rfl (by kernel_rfl) (by kernel_rfl) (by kernel_rfl) (fun _ _ _ h => h) (Or.inl ⟨by rfl, ?_⟩) (by assumption) ?_
    rotate_left
    · (intro w hSw; (try dsimp only at hSw); go_simp; (try with_reducible rfl))
    try simp only [Act.put, zA, zB, zC]
    refine wpAnyH_ready (rs := [3]) (by kernel_rfl) (by simp) ?_
    refine AllReadyH.cons (o := ⟨_, _, _, _, _, _⟩) rfl (fun K hK => ?_) AllReadyH.nil
    refine step_store_row rfl 74 (.tmp 8) (.tmp 32) rfl (w.heap.size + 1) ed0 rfl rfl 74 _ HG.out (by kernel_rfl) (by rw [arrOf_size]; rfl) ed0_one ?_
    refine hK.out _ _ ((keptIn_cell HK _ _ x2 (.inr (by omega))).trans x0) (fun hHeld => ?_)
    clear hK K
    try simp only [Act.put, zA, zB, zC]
    refine wpAnyH_take (i := 4) (oi := ⟨_, _, _, _, _, _⟩) (v := ?_) rfl (by kernel_rfl) (by kernel_rfl) (by kernel_rfl) (fun _ _ _ h => h) (Or.inl ⟨by rfl, ?_⟩) (by assumption) ?_
    rotate_left
    · (intro w hSw; (try dsimp only at hSw); go_simp; (try with_reducible rfl))
    try simp only [Act.put, zA, zB, zC]
    refine wpAnyH_done (by kernel_rfl) ?_ _
    clear hHeld
    go_wp2
    refine bodyPost_ret (v := .tuple #[.agg ed0, .int .i64 F]) ?_ ?_ ?_
    · exact results_cell_tmp Tryz.results41 _ _ _ ⟨w.heap.size + 1, 0, none⟩ _ _ rfl HL.out rfl
    · rfl
    exact .inl ⟨by rw [ER.out]; exact HNZ.out, by rw [ER.out], B2.out.drew.trans (HK.below (Nat.le_succ _) B2.out.size)⟩
  obtain ⟨g1, g2, g3, g4⟩ := spC_zero hz
  obtain ⟨i, rfl⟩ : ∃ i : Nat, A = (i : Int) := ⟨A.toNat, by omega⟩
  obtain ⟨j, rfl⟩ : ∃ j : Nat, N = (j : Int) := ⟨N.toNat, by omega⟩
  have EB : Hid (spB m.dt (i : Int) (j : Int) p = spl m.dt i j p) := Hid.mk' (by unfold spB; rw [if_pos hz]; rfl)
  rw [hz] at ER RT HZ2 B2 RX2 HX2 O2 I2 N2Z ⊢
  have hn : i ≤ m.dt.length := by omega
  have hKJ : i / s < m.dt.length / s + 1 := Nat.lt_succ_of_le (Nat.div_le_div_right hn)
  have hq0 : (i : Int) / (s : Int) = ((i / s : Nat) : Int) := by simp
  have hq1 : i / s ≤ i := Nat.div_le_self _ _
  have hs0 : ¬ s = 0 := by omega
  have wA : IntKind.i64.wrap ((i : Int) + (p.length : Int)) = (i : Int) + (p.length : Int) := by rw [IntKind.wrap_i64]; omega
  have wB : IntKind.i64.wrap ((i : Int) + (j : Int)) = (i : Int) + (j : Int) := by rw [IntKind.wrap_i64]; omega
  have CK1 := HX2.out.ck
  obtain ⟨J, hJ⟩ : ∃ J, m.dt.length / s + 1 = J := ⟨_, rfl⟩
  rw [hJ] at CK1 hKJ RX2 ⊢
  obtain ⟨K, hK⟩ : ∃ K, i / s = K := ⟨_, rfl⟩
  rw [hK] at hq0 hq1 hKJ
  obtain ⟨ka, kc, ev, -⟩ := own_bat (HX2.out.rx.own K (by omega))
  have hwK : IntKind.i64.wrap (K : Int) = (K : Int) := by rw [IntKind.wrap_i64]; omega
  have ck : (K : Int) < (J : Int) := by omega
  obtain ⟨Tn, hTn⟩ : ∃ Tn, (tkN m.dt s K).length = Tn := ⟨_, rfl⟩
  obtain ⟨Hn, hHn⟩ : ∃ Hn, (hdN m.dt s K).length = Hn := ⟨_, rfl⟩
  obtain ⟨Q, hQ⟩ : ∃ Q, K * s = Q := ⟨_, rfl⟩
  obtain ⟨L, hL⟩ : ∃ L, (spB m.dt (i : Int) (j : Int) p).length = L := ⟨_, rfl⟩
  rw [hHn] at ev
  have HJ := Hid.mk' hJ
  have HKK := Hid.mk' hK
  have HTn := Hid.mk' hTn
  have HEV := Hid.mk' ev
  have HQ := Hid.mk' hQ
  have HLL := Hid.mk' hL
  have HST := Hid.mk' (And.intro hst (And.intro hs hs2))
  rw [hL] at RT HZ2 B2 RX2 HX2 O2 I2 N2Z CK1 ⊢
  generalize hU : w2.alloc (.cells #[.int .i64 0, .slice va L vc] 107) = U at *
  have c1 : U.cell? ⟨gc, K * 3, none⟩ = some (.int .i64 (Q : Int)) := by
    rw [CK1.cell (i := K * 3) (by omega)]
    unfold ckV
    rw [show K * 3 / 3 = K by omega, show K * 3 % 3 = 0 by omega, if_pos hKJ, ← hQ]; rfl
  have c2 : U.cell? ⟨gc, K * 3 + 1, none⟩ = some (.int .i64 (Tn : Int)) := by
    rw [CK1.cell (i := K * 3 + 1) (by omega)]
    unfold ckV
    rw [show (K * 3 + 1) / 3 = K by omega, show (K * 3 + 1) % 3 = 1 by omega, if_pos hKJ, ← hTn]; rfl
  have c3 : U.cell? ⟨gc, K * 3 + 2, none⟩ = some (.slice ka Hn kc) := by
    rw [CK1.cell (i := K * 3 + 2) (by omega)]
    unfold ckV
    rw [show (K * 3 + 2) / 3 = K by omega, show (K * 3 + 2) % 3 = 2 by omega, if_pos hKJ]
    show some (hvs K) = _
    rw [ev]
  have lg := CK1.lt
  obtain ⟨t0, t1, t2⟩ := cellsQ2 RT.out
  obtain ⟨x0, x1, x2, x3, x4, x5⟩ := cells5 RX2.out
  obtain ⟨X, hX⟩ : ∃ X : Array Value, X = #[.slice (some ⟨gd, 0, none⟩) m.dt.length m.dt.length, .int .i64 (s : Int), .slice ta Tl tc, .slice ha Hl hc, .slice (some ⟨gc, 0, none⟩) J J, .slice va L vc, .int .i64 (Q : Int), .int .i64 (Tn : Int), .slice ka Hn kc, .complex .f64 (floatOfInt .f64 ((i : Int) + (p.length : Int))) (floatOfInt .f64 ((i : Int) + (j : Int)))] := ⟨_, rfl⟩
  have X1 : X.all (·.oneCell') = true := by rw [hX]; kernel_rfl
  have X2 : X.size = 10 := by rw [hX]; rfl
  have HG := row_arr HZ2.out.drew
  have HS := setRow_heap _ (w.heap.size + 1) _ X 74 (0, 0) HG
  have HL := Hid.mk' (run_loadVar_row (P := Tryz.prog) _ (w.heap.size + 1) 74 74 _ (0, 0) _ HS Tryz.underlying74 rfl (by rw [X2]; kernel_rfl))
  have HG := Hid.mk' HG
  have HK := setRow_kept U.drew (w.heap.size + 1) X
  have lgc : w.heap.size + 2 ≤ gc := by have := HX2.out.o1; have := HX2.out.o2; have := LW.out; omega
  have lw1 : w.heap.size + 2 ≤ w1.heap.size := by have := LW.out; have := NX1.out; omega
  have lw2 : w.heap.size + 2 ≤ w2.heap.size := by have := S2.out; omega
  clear HS hst hs hs2 h240 hsame hJ hK hTn hHn hQ hL ev CK1 hf hz
  go_wp2
  clear hU
  refine wp_region_held_drew (S := (fun v => v.cell? ⟨w1.heap.size, 0, none⟩ = some (.slice (some ⟨gd, 0, none⟩) m.dt.length m.dt.length) ∧ v.cell? ⟨w1.heap.size, 1, none⟩ = some (.int .i64 (s : Int)) ∧ v.cell? ⟨w1.heap.size, 2, none⟩ = some (.slice ta Tl tc) ∧ v.cell? ⟨w1.heap.size, 3, none⟩ = some (.slice ha Hl hc) ∧ v.cell? ⟨w1.heap.size, 4, none⟩ = some (.slice (some ⟨gc, 0, none⟩) J J) ∧ v.cell? ⟨w2.heap.size, 1, none⟩ = some (.slice va L vc) ∧ v.cell? ⟨gc, K * 3, none⟩ = some (.int .i64 (Q : Int)) ∧ v.cell? ⟨gc, K * 3 + 1, none⟩ = some (.int .i64 (Tn : Int)) ∧ v.cell? ⟨gc, K * 3 + 2, none⟩ = some (.slice ka Hn kc))) (by kernel_rfl) ⟨x0, x1, x2, x3, x4, t1, c1, c2, c3⟩ (fun hHeld => ?_)
  refine wpAnyH_take (i := 0) (oi := ⟨_, _, _, _, _, _⟩) (v := ?_) rfl (by kernel_rfl) (by kernel_rfl) (by kernel_rfl) (fun _ _ _ h => h) (Or.inl ⟨by rfl, ?_⟩) (by assumption) ?_
  rotate_left
  · (intro w hSw; (try dsimp only at hSw); go_simp; (try with_reducible rfl))
  try simp only [Act.put, zA, zB, zC]
  refine wpAnyH_take (i := 1) (oi := ⟨_, _, _, _, _, _⟩) (v := ?_) rfl (by kernel_rfl) (by kernel_rfl) (by kernel_rfl) (fun _ _ _ h => h) (Or.inl ⟨by rfl, ?_⟩) (by assumption) ?_
  rotate_left
  · (intro w hSw; (try dsimp only at hSw); go_simp; (try with_reducible rfl))
  try simp only [Act.put, zA, zB, zC]
  refine wpAnyH_take (i := 2) (oi := ⟨_, _, _, _, _, _⟩) (v := ?_) rfl (by kernel_rfl) (by kernel_rfl) (by kernel_rfl) (fun _ _ _ h => h) (Or.inl ⟨by rfl, ?_⟩) (by assumption) ?_
  rotate_left
  · (intro w hSw; (try dsimp only at hSw); go_simp; (try with_reducible rfl))
  try simp only [Act.put, zA, zB, zC]
  refine wpAnyH_take (i := 3) (oi := ⟨_, _, _, _, _, _⟩) (v := ?_) rfl (by kernel_rfl) (by kernel_rfl) (by kernel_rfl) (fun _ _ _ h => h) (Or.inl ⟨by rfl, ?_⟩) (by assumption) ?_
  rotate_left
  · (intro w hSw; (try dsimp only at hSw); go_simp; (try with_reducible rfl))
  try simp only [Act.put, zA, zB, zC]
  refine wpAnyH_take (i := 4) (oi := ⟨_, _, _, _, _, _⟩) (v := ?_) rfl (by kernel_rfl) (by kernel_rfl) (by kernel_rfl) (fun _ _ _ h => h) (Or.inl ⟨by rfl, ?_⟩) (by assumption) ?_
  rotate_left
  · (intro w hSw; (try dsimp only at hSw); go_simp; (try with_reducible rfl))
  try simp only [Act.put, zA, zB, zC]
  refine wpAnyH_take (i := 5) (oi := ⟨_, _, _, _, _, _⟩) (v := ?_) rfl (by kernel_rfl) (by kernel_rfl) (by kernel_rfl) (fun _ _ _ h => h) (Or.inl ⟨by rfl, ?_⟩) (by assumption) ?_
  rotate_left
  · (intro w hSw; (try dsimp only at hSw); go_simp; (try with_reducible rfl))
  try simp only [Act.put, zA, zB, zC]
  refine wpAnyH_take (i := 6) (oi := ⟨_, _, _, _, _, _⟩) (v := ?_) rfl (by kernel_rfl) (by kernel_rfl) (by kernel_rfl) (fun _ _ _ h => h) (Or.inl ⟨by rfl, ?_⟩) (by assumption) ?_
  rotate_left
  · (intro w hSw; (try dsimp only at hSw); go_simp; (try with_reducible rfl))
  try simp only [Act.put, zA, zB, zC]
  refine wpAnyH_take (i := 7) (oi := ⟨_, _, _, _, _, _⟩) (v := ?_) rfl (by kernel_rfl) (by kernel_rfl) (by kernel_rfl) (fun _ _ _ h => h) (Or.inl ⟨by rfl, ?_⟩) (by assumption) ?_
  rotate_left
  · (intro w hSw; (try dsimp only at hSw); go_simp; (try with_reducible rfl))
  try simp only [Act.put, zA, zB, zC]
  refine wpAnyH_take (i := 8) (oi := ⟨_, _, _, _, _, _⟩) (v := ?_) rfl (by kernel_rfl) (by kernel_rfl) (by kernel_rfl) (fun _ _ _ h => h) (Or.inl ⟨by rfl, ?_⟩) (by assumption) ?_
  rotate_left
  · (intro w hSw; (try dsimp only at hSw); go_simp; (try with_reducible rfl))
  try simp only [Act.put, zA, zB, zC]
  refine wpAnyH_take (i := 9) (oi := ⟨_, _, _, _, _, _⟩) (v := ?_) rfl (by kernel_rfl) (by kernel_rfl) (by kernel_rfl) (fun _ _ _ h => h) (Or.inl ⟨by rfl, ?_⟩) (by assumption) ?_
  rotate_left
  · (intro w hSw; (try dsimp only at hSw); go_simp; (try with_reducible rfl))
  try simp only [Act.put, zA, zB, zC]
  refine wpAnyH_take (i := 10) (oi := ⟨_, _, _, _, _, _⟩) (v := ?_) rfl (by kernel_rfl) (by kernel_rfl) (by kernel_rfl) (fun _ _ _ h => h) (Or.inl ⟨by rfl, ?_⟩) (by assumption) ?_
  rotate_left
  · (intro w hSw; (try dsimp only at hSw); go_simp; (try with_reducible rfl))
  try simp only [Act.put, zA, zB, zC]
  refine wpAnyH_take (i := 11) (oi := ⟨_, _, _, _, _, _⟩) (v := ?_) rfl (by kernel_rfl) (by kernel_rfl) (by kernel_rfl) (fun _ _ _ h => h) (Or.inl ⟨by rfl, ?_⟩) (by assumption) ?_
  rotate_left
  · (intro w hSw; (try dsimp only at hSw); go_simp; (try with_reducible rfl))
  try simp only [Act.put, zA, zB, zC]
  refine wpAnyH_take (i := 12) (oi := ⟨_, _, _, _, _, _⟩) (v := ?_) rfl (by kernel_rfl) (by kernel_rfl) (by kernel_rfl) (fun _ _ _ h => h) (Or.inl ⟨by rfl, ?_⟩) (by assumption) ?_
  rotate_left
  · (intro w hSw; (try dsimp only at hSw); go_simp; (try with_reducible rfl))
  try simp only [Act.put, zA, zB, zC]
  refine wpAnyH_ready (rs := [13]) (by kernel_rfl) (by simp) ?_
  refine AllReadyH.cons (o := ⟨_, _, _, _, _, _⟩) rfl (fun K hK => ?_) AllReadyH.nil
  refine step_store_row rfl 74 (.tmp 8) (.tmp 57) rfl (w.heap.size + 1) X rfl (by rw [hX]; rfl) 74 _ HG.out (by rw [X2]; kernel_rfl) (by rw [arrOf_size, X2]) X1 ?_
  refine hK.out _ _ ⟨(keptIn_cell HK _ _ x5 (.inr (by omega))).trans x0, (keptIn_cell HK _ _ x5 (.inr (by omega))).trans x1, (keptIn_cell HK _ _ x5 (.inr (by omega))).trans x2, (keptIn_cell HK _ _ x5 (.inr (by omega))).trans x3, (keptIn_cell HK _ _ x5 (.inr (by omega))).trans x4, (keptIn_cell HK _ _ t2 (.inr (by omega))).trans t1, (keptIn_cell HK _ _ lg (.inr (by omega))).trans c1, (keptIn_cell HK _ _ lg (.inr (by omega))).trans c2, (keptIn_cell HK _ _ lg (.inr (by omega))).trans c3⟩ (fun hHeld => ?_)
  clear hK K
  try simp only [Act.put, zA, zB, zC]
  refine wpAnyH_take (i := 14) (oi := ⟨_, _, _, _, _, _⟩) (v := ?_) rfl (by kernel_rfl) (by kernel_rfl) (by kernel_rfl) (fun _ _ _ h => h) (Or.inl ⟨by rfl, ?_⟩) (by assumption) ?_
  rotate_left
  · (intro w hSw; (try dsimp only at hSw); go_simp; (try with_reducible rfl))
  try simp only [Act.put, zA, zB, zC]
  refine wpAnyH_done (by kernel_rfl) ?_ _
  clear hHeld
  go_wp2
  refine bodyPost_ret (v := .tuple #[.agg X, .int .i64 0]) ?_ ?_ ?_
  · exact results_cell_tmp Tryz.results41 _ _ _ ⟨w.heap.size + 1, 0, none⟩ _ _ rfl HL.out rfl
  · rfl
  obtain ⟨hst, hs, hs2⟩ := HST.out
  have sv : w.heap.size + 2 ≤ V.heap.size := by have := NX1.out; have := LV.out; omega
  refine .inr ⟨ER.out, s, i, j, hst, hs, hs2, rfl, rfl, gd, gc, .slice ta Tl tc, hvs, us, rs, bl, bh, .slice va L vc, ?_, ?_, ?_, ?_, B2.out.drew.trans (HK.below (Nat.le_succ _) B2.out.size)⟩
  · rw [hX, HKK.out, HEV.out, HQ.out, HTn.out, EH.out, HJ.out]
  · exact (HX2.out.keep HK.size (fun q hq hlt => HK.block q hlt (.inr (by have := LW.out; omega)))).down (by have := LW.out; omega)
  · rw [← EB.out]
    exact O2.out.keep (fun k hk hlt => HK.block k hlt (.inr (by have := I2.out k hk; omega)))
  · exact I2.out.mono sv HK.size

end Go.Proofs.YtdloogkjnjklcaaGreatDoor

namespace Go.Proofs.YtdloogkjnjklcaaGreatDoor
open Go.RowKit

theorem alloc_setRow (w : World) (z X : Array Value) (T : TypeId) : (w.alloc (.cells z T)).setRow w.heap.size X = w.alloc (.cells X T) := by
  unfold World.setRow World.alloc
  congr 1
  apply Array.ext_getElem?
  intro i
  rw [Array.getElem?_modify]
  by_cases h : w.heap.size = i
  · subst h; simp
  · rw [if_neg h, Array.getElem?_push, Array.getElem?_push, if_neg (by omega), if_neg (by omega)]

set_option maxRecDepth 100000 in
set_option maxHeartbeats 6400000 in
theorem implRB_any (tp : TypeId) (pv : Value) (m : ME) (a t u c : Option Addr) (ca ct cu cc : Nat) (A N : Int) (e : Option Addr) (d : Nat) (p : List Int) (w : World) (hE : Env w.heap.size tp pv w) (h1 : MAt w a t u c m) (hca : m.dt.length ≤ ca) (hub : Byt m.dt) (hm : (msz m : Int) ≤ 1048576) (he : BAt w e p) (hl : p.length ≤ 1048576) (a1 : -9223372036854775808 ≤ A) (a2 : A ≤ 9223372036854775807) (n1 : -9223372036854775808 ≤ N) (n2 : N ≤ 9223372036854775807) :
    Calls Tryz.prog 22 #[.agg #[.slice a m.dt.length ca, .int .i64 m.st, .slice t m.tk.length ct, .slice u m.hd.length cu, .slice c m.cs.length cc], .int .i64 A, .int .i64 N, .slice e p.length d] w fun ev w' => ev = .returned (.agg #[.int .i64 (edC m A N p), .int .i64 (rbV m A N p)]) ∧ Below w.heap.size w w' := by
  obtain ⟨B0, R1, R2⟩ := boxesI w (.slice a m.dt.length ca) (.int .i64 m.st) (.slice t m.tk.length ct) (.slice u m.hd.length cu) (.slice c m.cs.length cc)
  have KF := Hid.mk' (newEdit_any tp pv m a t u c ca ct cu cc A N e d p _ ((hE.keep B0).up B0.size (Nat.le_refl _)) (h1.below B0) hca hub hm (he.below B0) hl a1 a2 n1 n2)
  have HB := Hid.mk' B0
  have H2 := Hid.mk' R2
  obtain ⟨x0, x1, x2, x3, x4, x5⟩ := cells5 R1
  have hml : (m.dt.length : Int) ≤ 1048576 := by have : (msz m : Int) = m.dt.length + m.tk.length + tssz m.tk + m.hd.length + m.cs.length + csz m.cs := by unfold msz; omega
                                                 omega
  clear B0 R1 R2 h1 hub hm hE he
  generalize hW : (w.alloc (.cells #[.slice a m.dt.length ca, .int .i64 m.st, .slice t m.tk.length ct, .slice u m.hd.length cu, .slice c m.cs.length cc] 26)).alloc (.cells #[.int .i64 0, .int .i64 0] 47) = W at *
  go_enter Tryz.func22, Tryz.ntmps22
  go_wp2_with fail
  clear hW x0 x1 x2 x3 x4 x5
  refine KF.out.mono ?_
  rintro e1 w1 (⟨hf, rfl, hb1⟩ | ⟨hf, s, i, j, hst, hs, hs2, rfl, rfl, gd, gc, tv, hvs, us, rs, bl, bh, tx, rfl, hx, ob, hin, hb1⟩)
  · have EV : Hid (rbV m A N p = 0) := Hid.mk' (by unfold rbV; rw [if_neg hf])
    obtain ⟨F, hF⟩ : ∃ F, edC m A N p = F := ⟨_, rfl⟩
    rw [hF] at hf ⊢
    have EC := Hid.mk' hF
    have hne : (F != 0) = true := by simp [hf]
    have N1 := below_new w1 (.cells ed0 74)
    have M1 := hb1.trans (N1.mono hb1.size)
    have HZ := Hid.mk' (rowB H2.out M1)
    have B1 := Hid.mk' (HB.out.trans (M1.mono HB.out.size))
    clear hF N1 M1 hb1
    obtain ⟨y0, y1, y4⟩ := cellsQ2 HZ.out
    obtain ⟨f0, f1⟩ := frzQ2 HZ.out
    go_wp2_with ((with_reducible refine wpList_store_row ?_ 74 (.tmp 9) (.tmp 17) ?_ w1.heap.size ed0 ?_ ?_ 74 _ (Deep.blk_alloc_new w1 _) ?_ ?_ ?_ ?_); rfl; rfl; rfl; rfl; kernel_rfl; rfl; exact ed0_one; rw [alloc_setRow])
    refine bodyPost_ret (v := .agg #[.int .i64 F, .int .i64 0]) (by simp [results, Tryz.results22, go_sem, *]) rfl ?_
    exact ⟨by rw [EV.out, EC.out], B1.out.trans ((kept2Q _ _ _ _).below (Nat.le_succ _) B1.out.size)⟩
  · obtain ⟨hf1, hf2⟩ := edC_ok hf
    obtain ⟨g1, g2, g3, g4⟩ := spC_zero hf2
    obtain ⟨va, vc, rfl, -⟩ := ob.len
    have EV : Hid (rbV m (i : Int) (j : Int) p = ((spl m.dt i j p).length : Int) - ((i / s * s : Nat) : Int)) := Hid.mk' (by
      unfold rbV
      rw [if_pos hf, hst, spl_len (by omega)]
      simp
      omega)
    have EC := Hid.mk' hf
    have hqs : i / s * s ≤ i := Nat.div_mul_le_self _ _
    have hL : (spl m.dt i j p).length ≤ 240 := by rw [spl_len (by omega)]; omega
    have hd : (m.dt.length : Int) ≤ 1048576 := hml
    obtain ⟨ha, hc, eh, -⟩ := own_bat (hx.rx.own (m.dt.length / s + 1) (Nat.le_refl _))
    obtain ⟨ta, tc, rfl, -⟩ := own_src hx.rx.tp.row
    obtain ⟨ka, kc, ek, -⟩ := own_bat (hx.rx.own (i / s) (by have : i / s ≤ m.dt.length / s := Nat.div_le_div_right (by omega); omega))
    rw [eh, ek]
    generalize (spl m.dt i j p).length = L at *
    generalize (hdN m.dt s (i / s)).length = Hn at *
    generalize (tkN m.dt s (i / s)).length = Tn at *
    generalize i / s * s = Q at *
    obtain ⟨X, hX⟩ : ∃ X : Array Value, X = #[.slice (some ⟨gd, 0, none⟩) m.dt.length m.dt.length, .int .i64 (s : Int), .slice ta (tkN m.dt s (m.dt.length / s + 1)).length tc, .slice ha (hdN m.dt s (m.dt.length / s + 1)).length hc, .slice (some ⟨gc, 0, none⟩) (m.dt.length / s + 1) (m.dt.length / s + 1), .slice va L vc, .int .i64 (Q : Int), .int .i64 (Tn : Int), .slice ka Hn kc, .complex .f64 (floatOfInt .f64 ((i : Int) + (p.length : Int))) (floatOfInt .f64 ((i : Int) + (j : Int)))] := ⟨_, rfl⟩
    have X1 : X.all (·.oneCell') = true := by rw [hX]; kernel_rfl
    have X2 : X.size = 10 := by rw [hX]; rfl
    have N1 := below_new w1 (.cells X 74)
    have M1 := hb1.trans (N1.mono hb1.size)
    have HZ := Hid.mk' (rowB H2.out M1)
    have B1 := Hid.mk' (HB.out.trans (M1.mono HB.out.size))
    have RX : (w1.alloc (.cells X 74)).rowIs w1.heap.size 74 10 (fun k => X.getD k undef) := by
      have := World.rowIs_alloc w1 X 74 (fun i => X.getD i undef) (fun i hi => by simp [Array.getD, hi])
      rwa [X2] at this
    have z5 : (w1.alloc (.cells X 74)).cell? ⟨w1.heap.size, 5, none⟩ = some (.slice va L vc) := by rw [RX.cell (by omega), hX]; rfl
    have z6 : (w1.alloc (.cells X 74)).cell? ⟨w1.heap.size, 6, none⟩ = some (.int .i64 (Q : Int)) := by rw [RX.cell (by omega), hX]; rfl
    have lz := RX.lt
    rw [← hX]
    have HX := Hid.mk' hX
    have SW := hb1.size
    clear hX N1 M1 hb1 RX eh ek hx hin ob
    obtain ⟨y0, y1, y4⟩ := cellsQ2 HZ.out
    obtain ⟨f0, f1⟩ := frzQ2 HZ.out
    have wC : IntKind.i64.wrap ((L : Int) - (Q : Int)) = (L : Int) - (Q : Int) := by rw [IntKind.wrap_i64]; omega
    go_wp2_with ((with_reducible refine wpList_store_row ?_ 74 (.tmp 9) (.tmp 17) ?_ w1.heap.size X ?_ ?_ 74 _ (Deep.blk_alloc_new w1 _) ?_ ?_ ?_ ?_); rfl; rfl; rfl; rfl; (rw [X2]; kernel_rfl); (rw [X2]; rfl); exact X1; rw [alloc_setRow])
    refine bodyPost_ret (v := .agg #[.int .i64 0, .int .i64 ((L : Int) - (Q : Int))]) (by simp [results, Tryz.results22, go_sem, *]) rfl ?_
    exact ⟨by rw [EV.out, EC.out], B1.out.trans ((kept2Q _ _ _ _).below (Nat.le_succ _) B1.out.size)⟩

end Go.Proofs.YtdloogkjnjklcaaGreatDoor

namespace Go.Proofs.YtdloogkjnjklcaaGreatDoor
open Go.RowKit

structure Hold1 (w : World) (m : ME) (a t u c : Option Addr) (ca ct cu cc : Nat) (wi : World) : Prop where
  bl : Below w.heap.size w wi
  r1 : wi.rowIs w.heap.size 39 5 (r5 (.slice a m.dt.length ca) (.int .i64 m.st) (.slice t m.tk.length ct) (.slice u m.hd.length cu) (.slice c m.cs.length cc))
  m1 : MAt wi a t u c m

theorem Hold1.below {w : World} {m : ME} {a t u c : Option Addr} {ca ct cu cc : Nat} {wi wj : World} (x : Hold1 w m a t u c ca ct cu cc wi) (hb : Below wi.heap.size wi wj) : Hold1 w m a t u c ca ct cu cc wj :=
  ⟨x.bl.trans (hb.mono x.bl.size), rowB x.r1 hb, x.m1.below hb⟩

end Go.Proofs.YtdloogkjnjklcaaGreatDoor

namespace Go.Proofs.YtdloogkjnjklcaaGreatDoor
open Go.RowKit

set_option maxRecDepth 100000 in
set_option maxHeartbeats 8000000 in
theorem lawRB_any (m : ME) (a t u c : Option Addr) (ca ct cu cc : Nat) (A N : Int) (e : Option Addr) (d : Nat) (p : List Int) (tp : TypeId) (pv : Value) (w : World) (hE : Env w.heap.size tp pv w) (ha : MAt w a t u c m) (wa : WideM m) (hub : Byt m.dt) (hcb : ∀ k, k < m.cs.length → Byt (ckK m.cs k).hd) (a1 : -9223372036854775808 ≤ A) (a2 : A ≤ 9223372036854775807) (n1 : -9223372036854775808 ≤ N) (n2 : N ≤ 9223372036854775807) (he : BAt w e p) (hpb : Byt p) (k2 : (p.length : Int) ≤ 9223372036854775807) :
    Calls Tryz.prog 5 #[.agg #[.slice a m.dt.length ca, .int .i64 m.st, .slice t m.tk.length ct, .slice u m.hd.length cu, .slice c m.cs.length cc], .int .i64 A, .int .i64 N, .slice e p.length d] w fun ev w' => ev = .returned (.bool true) ∧ Below w.heap.size w w' := by
  have B0 := below_new w (.cells #[.slice a m.dt.length ca, .int .i64 m.st, .slice t m.tk.length ct, .slice u m.hd.length cu, .slice c m.cs.length cc] 39)
  have H0 : Hold1 w m a t u c ca ct cu cc _ := ⟨B0, row5 w 39 (.slice a m.dt.length ca) (.int .i64 m.st) (.slice t m.tk.length ct) (.slice u m.hd.length cu) (.slice c m.cs.length cc), ha.below B0⟩
  have KS := szMemo_any m a t u c ca ct cu cc 1048576 _ (ha.below B0) wa (by omega) (by omega)
  have HH := Hid.mk' H0
  have HE := Hid.mk' hE
  have HU := Hid.mk' hub
  have HC := Hid.mk' hcb
  have HP := Hid.mk' he
  have HPB := Hid.mk' hpb
  have A1 := Hid.mk' a1
  have A2 := Hid.mk' a2
  have N1 := Hid.mk' n1
  have N2 := Hid.mk' n2
  have BB := Hid.mk' B0
  clear B0 ha H0 wa hE hub hcb he hpb a1 a2 n1 n2
  by_cases g0 : (1048576 : Int) < p.length
  · clear KS
    go_enter Tryz.func5, Tryz.ntmps5
    go_wp2
    go_ret
    exact ⟨rfl, BB.out⟩
  clear BB
  by_cases g1 : (1048576 : Int) < msz m
  · rw [if_pos g1] at KS
    have KS := Hid.mk' KS
    generalize hW : w.alloc (.cells #[.slice a m.dt.length ca, .int .i64 m.st, .slice t m.tk.length ct, .slice u m.hd.length cu, .slice c m.cs.length cc] 39) = W at *
    obtain ⟨x0, x1, x2, x3, x4, x5⟩ := cells5 HH.out.r1
    go_enter Tryz.func5, Tryz.ntmps5
    go_wp2_with fail
    clear hW
    refine KS.out.mono ?_
    rintro e1 w1 ⟨rfl, hb1⟩
    have HB := Hid.mk' (HH.out.below hb1).bl
    clear hb1 KS
    go_wp2
    go_ret
    exact ⟨rfl, HB.out⟩
  rw [if_neg g1] at KS
  have KS := Hid.mk' KS
  have zz : ¬ (1048576 - (msz m : Int) < 0) := by omega
  have hl : (msz m : Int) ≤ 1048576 := by omega
  have hp : (p.length : Int) ≤ 1048576 := by omega
  have hpn : p.length ≤ 1048576 := by omega
  have KSP : Hid (∀ (V : World) (a' t' u' c' e' : Option Addr), MAt V a' t' u' c' m → BAt V e' p → Calls Tryz.prog 21 #[.agg #[.slice a' m.dt.length m.dt.length, .int .i64 m.st, .slice t' m.tk.length m.tk.length, .slice u' m.hd.length m.hd.length, .slice c' m.cs.length m.cs.length], .int .i64 A, .int .i64 N, .slice e' p.length p.length] V fun ev w' => ev = .returned (.agg #[.int .i64 (edC m A N p), .int .i64 (rbV m A N p)]) ∧ Below V.heap.size V w') := Hid.mk' (fun V a' t' u' c' e' h h' => (specRB_any m a' t' u' c' _ _ _ _ A N e' _ p V h HU.out HC.out hl hpn A1.out A2.out N1.out N2.out))
  have KIM : Hid (∀ (V : World) (a' t' u' c' e' : Option Addr), Env V.heap.size tp pv V → MAt V a' t' u' c' m → BAt V e' p → Calls Tryz.prog 22 #[.agg #[.slice a' m.dt.length m.dt.length, .int .i64 m.st, .slice t' m.tk.length m.tk.length, .slice u' m.hd.length m.hd.length, .slice c' m.cs.length m.cs.length], .int .i64 A, .int .i64 N, .slice e' p.length p.length] V fun ev w' => ev = .returned (.agg #[.int .i64 (edC m A N p), .int .i64 (rbV m A N p)]) ∧ Below V.heap.size V w') := Hid.mk' (fun V a' t' u' c' e' hE' h h' => (implRB_any tp pv m a' t' u' c' _ _ _ _ A N e' _ p V hE' h (Nat.le_refl _) HU.out hl h' hpn A1.out A2.out N1.out N2.out))
  generalize edC m A N p = CC at *
  generalize rbV m A N p = VV at *
  clear g1 A1 A2 N1 N2
  generalize hW : w.alloc (.cells #[.slice a m.dt.length ca, .int .i64 m.st, .slice t m.tk.length ct, .slice u m.hd.length cu, .slice c m.cs.length cc] 39) = W at *
  obtain ⟨x0, x1, x2, x3, x4, x5⟩ := cells5 HH.out.r1
  go_enter Tryz.func5, Tryz.ntmps5
  go_wp2_with fail
  clear hW
  refine KS.out.mono ?_
  rintro e1 w1 ⟨rfl, hb1⟩
  have HH := Hid.mk' (HH.out.below hb1)
  clear hb1 KS x0 x1 x2 x3 x4 x5
  obtain ⟨x0, x1, x2, x3, x4, x5⟩ := cells5 HH.out.r1
  go_wp2_with fail
  clear zz
  refine (toMemo_any m a t u c ca ct cu cc _ HH.out.m1 hl).mono ?_
  rintro e3 w3 ⟨g3, h3, i3, j3, rfl, t3, hb3⟩
  have H3 := Hid.mk' (HH.out.below hb3)
  have T3 := Hid.mk' t3
  clear HH hb3 t3 x0 x1 x2 x3 x4 x5
  go_wp2_with fail
  refine (toByteS_any e d p _ (HP.out.below H3.out.bl) hp).mono ?_
  rintro e4 w4 ⟨y4, rfl, ly4, ry4, hb4⟩
  have H4 := Hid.mk' (H3.out.below hb4)
  have T4 := Hid.mk' (T3.out.below hb4)
  have Y4 := Hid.mk' ry4
  clear H3 T3 hb4 ry4 ly4
  go_wp2_with fail
  refine (KSP.out w4 _ _ _ _ _ T4.out (BAt.of_row Y4.out)).mono ?_
  rintro e5 w5 ⟨rfl, hb5⟩
  have N5 := below_new w5 (.cells #[.int .i64 CC, .int .i64 VV] 47)
  have H5 := Hid.mk' ((H4.out.below hb5).below N5)
  have W5 := Hid.mk' (rowQ2 w5 47 (.int .i64 CC) (.int .i64 VV))
  clear H4 T4 Y4 hb5 N5
  generalize hW5 : w5.alloc (.cells #[.int .i64 CC, .int .i64 VV] 47) = W5_ at *
  obtain ⟨x0, x1, x2, x3, x4, x5⟩ := cells5 H5.out.r1
  go_wp2_with fail
  clear hW5
  refine (toMemo_any m a t u c ca ct cu cc _ H5.out.m1 hl).mono ?_
  rintro e6 w6 ⟨g6, h6, i6, j6, rfl, t6, hb6⟩
  have N6 := below_new w6 (.cells #[.slice (some ⟨g6, 0, none⟩) m.dt.length m.dt.length, .int .i64 m.st, .slice (some ⟨h6, 0, none⟩) m.tk.length m.tk.length, .slice (some ⟨i6, 0, none⟩) m.hd.length m.hd.length, .slice (some ⟨j6, 0, none⟩) m.cs.length m.cs.length] 26)
  have H6 := Hid.mk' ((H5.out.below hb6).below N6)
  have T6 := Hid.mk' (t6.below N6)
  have W6 := Hid.mk' (rowB (rowB W5.out hb6) N6)
  have Q6 := Hid.mk' (row5 w6 26 (.slice (some ⟨g6, 0, none⟩) m.dt.length m.dt.length) (.int .i64 m.st) (.slice (some ⟨h6, 0, none⟩) m.tk.length m.tk.length) (.slice (some ⟨i6, 0, none⟩) m.hd.length m.hd.length) (.slice (some ⟨j6, 0, none⟩) m.cs.length m.cs.length))
  clear H5 W5 hb6 t6 N6 x0 x1 x2 x3 x4 x5
  generalize hW6 : w6.alloc (.cells #[.slice (some ⟨g6, 0, none⟩) m.dt.length m.dt.length, .int .i64 m.st, .slice (some ⟨h6, 0, none⟩) m.tk.length m.tk.length, .slice (some ⟨i6, 0, none⟩) m.hd.length m.hd.length, .slice (some ⟨j6, 0, none⟩) m.cs.length m.cs.length] 26) = W6_ at *
  go_wp2_with fail
  clear hW6
  refine (toByteS_any e d p _ (HP.out.below H6.out.bl) hp).mono ?_
  rintro e7 w7 ⟨y7, rfl, ly7, ry7, hb7⟩
  have H7 := Hid.mk' (H6.out.below hb7)
  have T7 := Hid.mk' (T6.out.below hb7)
  have W7 := Hid.mk' (rowB W6.out hb7)
  have Q7 := Hid.mk' (rowB Q6.out hb7)
  have Y7 := Hid.mk' ry7
  clear H6 T6 W6 Q6 hb7 ry7 ly7
  obtain ⟨x0, x1, x2, x3, x4, x5⟩ := cells5 Q7.out
  go_wp2_with fail
  refine (KIM.out w7 _ _ _ _ _ ((HE.out.keep H7.out.bl).up H7.out.bl.size (Nat.le_refl _)) T7.out (BAt.of_row Y7.out)).mono ?_
  rintro e8 w8 ⟨rfl, hb8⟩
  have N8 := below_new w8 (.cells #[.int .i64 CC, .int .i64 VV] 47)
  have H8 := Hid.mk' ((H7.out.below hb8).below N8)
  have T8 := Hid.mk' ((T7.out.below hb8).below N8)
  have W8 := Hid.mk' (rowB (rowB W7.out hb8) N8)
  have Q8 := Hid.mk' (rowB (rowB Q7.out hb8) N8)
  have Y8 := Hid.mk' (rowB (rowB Y7.out hb8) N8)
  have G8 := Hid.mk' (rowQ2 w8 47 (.int .i64 CC) (.int .i64 VV))
  clear H7 T7 W7 Q7 Y7 hb8 N8 x0 x1 x2 x3 x4 x5
  generalize hW8 : w8.alloc (.cells #[.int .i64 CC, .int .i64 VV] 47) = W8_ at *
  obtain ⟨z0, z1, z2⟩ := cellsQ2 W8.out
  obtain ⟨q0, q1, ql⟩ := cellsQ2 G8.out
  go_wp2_with fail
  clear hW8
  refine (eqIntResult_any CC VV _).mono ?_
  rintro e9 w9 ⟨rfl, hb9⟩
  have H9 := Hid.mk' (H8.out.below hb9)
  have T9 := Hid.mk' (T8.out.below hb9)
  have Q9 := Hid.mk' (rowB Q8.out hb9)
  have Y9 := Hid.mk' (rowB Y8.out hb9)
  clear H8 T8 W8 Q8 Y8 G8 hb9 z0 z1 z2 q0 q1 ql
  obtain ⟨x0, x1, x2, x3, x4, x5⟩ := cells5 H9.out.r1
  obtain ⟨y0, y1, y2, y3, y4, y5⟩ := cells5 Q9.out
  have AA := Hid.mk' (H9.out.m1)
  go_wp2
  go_region_held3 (fun w' => w'.cell? ⟨w.heap.size, 0, none⟩ = some (.slice a m.dt.length ca) ∧ w'.cell? ⟨w.heap.size, 1, none⟩ = some (.int .i64 m.st) ∧ w'.cell? ⟨w.heap.size, 2, none⟩ = some (.slice t m.tk.length ct) ∧ w'.cell? ⟨w.heap.size, 3, none⟩ = some (.slice u m.hd.length cu) ∧ w'.cell? ⟨w.heap.size, 4, none⟩ = some (.slice c m.cs.length cc) ∧ w'.cell? ⟨w6.heap.size, 0, none⟩ = some (.slice (some ⟨g6, 0, none⟩) m.dt.length m.dt.length) ∧ w'.cell? ⟨w6.heap.size, 1, none⟩ = some (.int .i64 m.st) ∧ w'.cell? ⟨w6.heap.size, 2, none⟩ = some (.slice (some ⟨h6, 0, none⟩) m.tk.length m.tk.length) ∧ w'.cell? ⟨w6.heap.size, 3, none⟩ = some (.slice (some ⟨i6, 0, none⟩) m.hd.length m.hd.length) ∧ w'.cell? ⟨w6.heap.size, 4, none⟩ = some (.slice (some ⟨j6, 0, none⟩) m.cs.length m.cs.length)) (simp [*])
    (first | (go_at_call 17; refine (toMemo_any m a t u c ca ct cu cc _ (AA.out.below (Below.refl _ _).drew) hl).mono ?_; rintro e wA ⟨gA, hA, iA, jA, rfl, tA, hbA⟩; replace hbA := undrew hbA; obtain ⟨hx1, hx2⟩ := bcell hbA; have s1 := hbA.size; have s2 : w.heap.size < wA.heap.size := (by omega); have s3 : w6.heap.size < wA.heap.size := (by omega)) | (go_at_call 19; refine (eqMemo_any m _ _ _ _ _ _ _ _ _ _ _ _ _ _ _ _ _ (T9.out.below hbA) tA hl).mono ?_; rintro e wB ⟨rfl, hbB⟩; obtain ⟨hx3, hx4⟩ := bcell hbB))
  have HB := Hid.mk' ((H9.out.below hbA).below hbB)
  have YB := Hid.mk' (rowB (rowB Y9.out hbA) hbB)
  clear hx1 hx2 hx3 hx4 s1 s2 s3 hbA hbB tA H9 T9 Q9 Y9 x0 x1 x2 x3 x4 x5 y0 y1 y2 y3 y4 y5 AA
  go_wp2_with fail
  refine (toByteS_any e d p _ (HP.out.below HB.out.bl) hp).mono ?_
  rintro eC wC ⟨yC, rfl, _, ryC, hbC⟩
  have H_C := Hid.mk' (HB.out.below hbC)
  have Y_C := Hid.mk' (rowB YB.out hbC)
  have Z_C := Hid.mk' ryC
  clear HB YB hbC ryC
  go_wp2_with fail
  refine (eqByteS_any _ _ _ _ p wC (BAt.of_row Y_C.out) (BAt.of_row Z_C.out) hp).mono ?_
  rintro eD wD ⟨rfl, hbD⟩
  have HD := Hid.mk' (H_C.out.below hbD)
  clear H_C Y_C Z_C hbD
  go_wp2
  go_ret
  exact ⟨rfl, HD.out.bl⟩

end Go.Proofs.YtdloogkjnjklcaaGreatDoor
