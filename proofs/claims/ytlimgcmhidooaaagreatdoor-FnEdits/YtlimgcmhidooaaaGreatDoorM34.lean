/- Small facts for the law FnMemos. -/
import Derived.Test.YtlimgcmhidooaaaGreatDoorM31
import Derived.Test.YtlimgcmhidooaaaGreatDoorM33
import Derived.Test.YtlimgcmhidooaaaGreatDoorM26
import Derived.Test.YtlimgcmhidooaaaGreatDoorM22
import Derived.Deep.RegionHeld3
import Derived.BigGuard
import Derived.Test.YtlimgcmhidooaaaGreatDoorM30
import Derived.Test.YtlimgcmhidooaaaGreatDoorM28
import Derived.Test.YtlimgcmhidooaaaGreatDoorM27
set_option maxHeartbeats 6400000
set_option maxRecDepth 100000
set_option linter.unusedVariables false
set_option linter.unusedSimpArgs false
namespace Go.Proofs.YtlimgcmhidooaaaGreatDoor
open Go.RowKit
theorem fLR1 (c : Int) (v : Option Addr) (n d : Nat) (u : Value) (w : World) : (Instr.field 41 (.agg #[.int .i64 c, .slice v n d, u]) 1).run Tryz.prog w = .ok (.slice v n d) w := by kernel_rfl
theorem fMR0 (c v st : Int) (a b d e : Value) (w : World) : (Instr.field 50 (.agg #[.int .i64 c, .int .i64 v, a, .int .i64 st, b, d, e]) 0).run Tryz.prog w = .ok (.int .i64 c) w := by kernel_rfl
theorem fits_le (d : List Int) (h : d.length ≤ 240) : ((lexX d).length : Int) + tssz (lexX d) ≤ 1048576 := by
 have := lex_fits d
 unfold wei at this
 omega
theorem lwBytes_beqE (a a' : Option Addr) (c c' : Nat) (l m : List Int) (w : World) (h : BAt w a l) (h' : BAt w a' m) :
  Calls Tryz.prog 34 #[.slice a l.length c, .slice a' m.length c'] w fun e w' => e = .returned (.bool (beqB l m)) ∧ w' = w := by
 have c1 := conv_bytesT c h
 have c2 := conv_bytesT c' h'
 clear h h'
 go_enter Tryz.func34, Tryz.ntmps34
 go_wp2
 go_ret
 exact ⟨rfl, rfl⟩
theorem GM.mono {lo hi lo' hi' : Nat} {tau : Nat → Nat} {m : ME} {vd tv hv cv : Value} {us : List Value} {rs : Nat → List Value} {bl bh : Nat → Nat} {hvs : Nat → Value} {w : World} (x : GM lo hi tau m vd tv hv cv us rs bl bh hvs w) (h1 : lo' ≤ lo) (h2 : hi ≤ hi') : GM lo' hi' tau m vd tv hv cv us rs bl bh hvs w :=
 ⟨x.d, x.t.down h1, x.h, x.c, x.k, fun q e => by have := x.ld q e; omega, fun q e => by have := x.lt q e; omega, fun q e => by have := x.lh q e; omega, fun q e => by have := x.lc q e; omega, fun i hi q e => by have := x.lk i hi q e; omega⟩
theorem GM.keepIn {lo hi : Nat} {tau : Nat → Nat} {m : ME} {vd tv hv cv : Value} {us : List Value} {rs : Nat → List Value} {bl bh : Nat → Nat} {hvs : Nat → Value} {w w' : World} (x : GM lo hi tau m vd tv hv cv us rs bl bh hvs w) (hs : w.heap.size ≤ w'.heap.size) (hk : ∀ q, lo ≤ q → q < hi → w'.heap[q]? = w.heap[q]?) : GM lo hi tau m vd tv hv cv us rs bl bh hvs w' :=
 ⟨x.d.keep (fun q e h => hk q (x.ld q e).2.1 (x.ld q e).2.2), x.t.keepF hs (fun q e h => hk q (x.lt q e).2.1 (x.lt q e).2.2), x.h.keep (fun q e h => hk q (x.lh q e).2.1 (x.lh q e).2.2), x.c.keep (fun q e h => hk q (x.lc q e).2.1 (x.lc q e).2.2), fun i hi => (x.k i hi).keep (fun q e h => hk q (x.lk i hi q e).2.1 (x.lk i hi q e).2.2), x.ld, x.lt, x.lh, x.lc, x.lk⟩
theorem OB.lenc {w : World} {v : Value} {l : List Int} (h : OB w v l) : ∃ a c, v = .slice a l.length c ∧ BAt w a l ∧ l.length ≤ c := by
 rcases h with ⟨rfl, rfl⟩ | ⟨g, cap, cn, f, rfl, hca, hr, hl, hf⟩
 ·exact ⟨Option.none, 0, rfl, .inl rfl, Nat.le_refl _⟩
 ·exact ⟨_, _, rfl, .inr ⟨g, 0, rfl, hr.lt, fun k hk => by rw [Nat.zero_add, hr.cell (by omega), hf k hk]⟩, hca⟩
theorem implEM_any (tp : TypeId) (pv : Value) (m : ME) (a t u c : Option Addr) (ca ct cu cc : Nat) (A N : Int) (e : Option Addr) (d : Nat) (p : List Int) (w : World) (hE : Env w.heap.size tp pv w) (h1 : MAt w a t u c m) (hca : m.dt.length ≤ ca) (hub : Byt m.dt) (hpb : Byt p) (hm : (msz m : Int) ≤ 1048576) (he : BAt w e p) (hl : p.length ≤ 1048576) (a1 : -9223372036854775808 ≤ A) (a2 : A ≤ 9223372036854775807) (n1 : -9223372036854775808 ≤ N) (n2 : N ≤ 9223372036854775807) :
  Calls Tryz.prog 23 #[.agg #[.slice a m.dt.length ca, .int .i64 m.st, .slice t m.tk.length ct, .slice u m.hd.length cu, .slice c m.cs.length cc], .int .i64 A, .int .i64 N, .slice e p.length d] w fun ev w' => ∃ tau vd tv hv cv us rs bl bh hvs, ev = .returned (.agg #[.int .i64 (edC m A N p), .int .i64 (eR m A N p), vd, .int .i64 (eM m A N p).st, tv, hv, cv]) ∧ GM w.heap.size w'.heap.size tau (eM m A N p) vd tv hv cv us rs bl bh hvs w' ∧ Below w.heap.size w w' := by
 obtain ⟨B0, R1, R2⟩ := boxesM w (.slice a m.dt.length ca) (.int .i64 m.st) (.slice t m.tk.length ct) (.slice u m.hd.length cu) (.slice c m.cs.length cc)
 have HE := Hid.mk' ((hE.keep B0).up B0.size (Nat.le_refl _))
 have KF := Hid.mk' (newEdit_any tp pv m a t u c ca ct cu cc A N e d p _ ((hE.keep B0).up B0.size (Nat.le_refl _)) (h1.below B0) hca hub hm (he.below B0) hl a1 a2 n1 n2)
 have HB := Hid.mk' B0
 have H2 := Hid.mk' R2
 have HU := Hid.mk' hub
 have HP := Hid.mk' hpb
 obtain ⟨x0, x1, x2, x3, x4, x5⟩ := cells5 R1
 clear B0 R1 R2 h1 hub hpb hm hE he
 generalize hW : (w.alloc (.cells #[.slice a m.dt.length ca, .int .i64 m.st, .slice t m.tk.length ct, .slice u m.hd.length cu, .slice c m.cs.length cc] 27)).alloc (.cells #[.int .i64 0, .int .i64 0, .slice none 0 0, .int .i64 0, .slice none 0 0, .slice none 0 0, .slice none 0 0] 50) = W at *
 go_enter Tryz.func23, Tryz.ntmps23
 go_wp2_with fail
 clear hW x0 x1 x2 x3 x4 x5
 refine KF.out.mono ?_
 rintro e1 w1 (⟨hf, rfl, hb1⟩ | ⟨hf, s, i, j, hst, hs, hs2, rfl, rfl, gd, gc, tv, hvs, us, rs, bl, bh, tx, rfl, hx, ob, hin, hb1⟩)
 ·have EV : Hid (eR m A N p = 0) := Hid.mk' (by unfold eR; rw [if_neg hf])
  have EM : Hid (eM m A N p = m0) := Hid.mk' (by unfold eM; rw [if_neg hf])
  obtain ⟨F, hF⟩ : ∃ F, edC m A N p = F := ⟨_, rfl⟩
  rw [hF] at hf ⊢
  have EC := Hid.mk' hF
  have hne : (F != 0) = true := by simp [hf]
  have N1 := below_new w1 (.cells ed0 86)
  have M1 := hb1.trans (N1.mono hb1.size)
  have HZ := Hid.mk' (H2.out.below M1)
  have B1 := Hid.mk' (HB.out.trans (M1.mono HB.out.size))
  have HS := Hid.mk' (HZ.out.put #[.int .i64 F, .int .i64 0, .slice none 0 0, .int .i64 0, .slice none 0 0, .slice none 0 0, .slice none 0 0])
  have BS := Hid.mk' (RowA.putBelow B1.out (Nat.le_succ w.heap.size) #[.int .i64 F, .int .i64 0, .slice none 0 0, .int .i64 0, .slice none 0 0, .slice none 0 0, .slice none 0 0])
  clear hF N1 M1 hb1
  go_wp2_with (first | ((with_reducible refine wpList_store_row ?_ 86 (.tmp 9) (.tmp 18) ?_ w1.heap.size ed0 ?_ ?_ 86 _ (Deep.blk_alloc_new w1 _) ?_ ?_ ?_ ?_); rfl; rfl; rfl; rfl; kernel_rfl; rfl; exact ed0_one; rw [alloc_setRow]) | ((with_reducible refine wpList_store_row ?_ 50 (.tmp 8) (.tmp 23) ?_ (w.heap.size + 1) #[.int .i64 F, .int .i64 0, .slice none 0 0, .int .i64 0, .slice none 0 0, .slice none 0 0, .slice none 0 0] ?_ ?_ 50 #[.int .i64 0, .int .i64 0, .slice none 0 0, .int .i64 0, .slice none 0 0, .slice none 0 0, .slice none 0 0] ?_ ?_ ?_ ?_ ?_); rfl; rfl; rfl; rfl; exact HZ.out; kernel_rfl; rfl; kernel_rfl) | fail)
  refine bodyPost_ret (v := .agg #[.int .i64 F, .int .i64 0, .slice none 0 0, .int .i64 0, .slice none 0 0, .slice none 0 0, .slice none 0 0]) ?_ ?_ ?_
  ·exact results_cell1 Tryz.results23 _ _ _ ⟨w.heap.size + 1, 0, none⟩ _ rfl (HS.out.load _ Tryz.underlying50 rfl (by kernel_rfl))
  ·rfl
  rw [EM.out, EV.out, EC.out]
  exact ⟨_, _, _, _, _, _, _, _, _, _, rfl, GM.none _ _ _, BS.out⟩
 ·obtain ⟨hf1, hf2⟩ := edC_ok hf
  obtain ⟨g1, g2, g3, g4⟩ := spC_zero hf2
  obtain ⟨h240, -⟩ := memF_ok hf1
  have hij : i + j ≤ m.dt.length := by omega
  have hL : (spl m.dt i j p).length ≤ 240 := by rw [spl_len hij]; omega
  obtain ⟨R, hR⟩ : ∃ R : Nat, meetN (mtF m.dt (spl m.dt i j p) s i j p.length) (spl m.dt i j p).length (i / s * s) = R := ⟨_, rfl⟩
  have EV : Hid (eR m (i : Int) (j : Int) p = (R : Int) - ((i / s * s : Nat) : Int)) := Hid.mk' (by
   unfold eR mtV
   rw [if_pos hf, if_pos hf, hst]
   simp only [Int.toNat_natCast]
   rw [hR])
  have EM : Hid (eM m (i : Int) (j : Int) p = memX (spl m.dt i j p) s) := Hid.mk' (by
   unfold eM
   rw [if_pos hf, hst]
   rfl)
  have EC := Hid.mk' hf
  have hRle : R ≤ 240 := by rw [← hR]; exact Nat.le_trans (meetN_le _ _ rfl) hL
  have hQle : i / s * s ≤ 240 := Nat.le_trans (Nat.div_mul_le_self _ _) (by omega)
  have TB := Hid.mk' (byt_spl HU.out HP.out i j)
  obtain ⟨va, vc, rfl, bt, hvc⟩ := ob.lenc
  obtain ⟨X, hX⟩ : ∃ X : Array Value, X = edV m.dt s i j p gd gc tv hvs (.slice va (spl m.dt i j p).length vc) := ⟨_, rfl⟩
  have X1 : X.all (·.oneCell') = true := by
   rw [hX]
   obtain ⟨ha, hc, eh, -⟩ := own_bat (hx.rx.own (m.dt.length / s + 1) (Nat.le_refl _))
   obtain ⟨ta, tc, rfl, -⟩ := own_src hx.rx.tp.row
   obtain ⟨ka, kc, ek, -⟩ := own_bat (hx.rx.own (i / s) (by have : i / s ≤ m.dt.length / s := Nat.div_le_div_right (by omega); omega))
   unfold edV edX
   rw [eh, ek]
   kernel_rfl
  have X2 : X.size = 10 := by rw [hX]; rfl
  have c1 : X[1]? = some (.int .i64 (s : Int)) := by rw [hX]; rfl
  have c5 : X[5]? = some (.slice va (spl m.dt i j p).length vc) := by rw [hX]; rfl
  have c6 : X[6]? = some (.int .i64 ((i / s * s : Nat) : Int)) := by rw [hX]; rfl
  have N1 := below_new w1 (.cells X 86)
  have M1 := hb1.trans (N1.mono hb1.size)
  have KN := Hid.mk' (implNM_gm tp pv (spl m.dt i j p) (s : Int) va vc (w1.alloc (.cells X 86)) ((HE.out.keep M1).up M1.size (Nat.le_refl _)) (bt.below N1) hvc TB.out (by omega))
  have KM : Hid (∀ z : World, Below (w1.alloc (.cells X 86)).heap.size (w1.alloc (.cells X 86)) z → Calls Tryz.prog 57 #[.agg X] z fun e w' => e = .returned (.int .i64 (R : Int)) ∧ Below z.heap.size z w') := Hid.mk' (fun z hz => by
   have K := editMeet_any tp pv _ m.dt s i j p gd gc tv hvs us rs bl bh (.slice va (spl m.dt i j p).length vc) z ((HE.out.keep (M1.trans (hz.mono M1.size))).up (Nat.le_trans M1.size hz.size) (Nat.le_refl _)) ⟨(hx.below N1).below hz, (ob.below N1).below hz⟩ hs hs2 hij h240 hL HU.out HP.out
   rw [hR, ← hX] at K
   exact K)
  have hX3 : #[.slice (some ⟨gd, 0, none⟩) m.dt.length m.dt.length, .int .i64 (s : Int), tv, hvs (m.dt.length / s + 1), .slice (some ⟨gc, 0, none⟩) (m.dt.length / s + 1) (m.dt.length / s + 1), .slice va (spl m.dt i j p).length vc, .int .i64 ((i / s * s : Nat) : Int), .int .i64 ((tkN m.dt s (i / s)).length : Int), hvs (i / s), .complex .f64 (floatOfInt .f64 ((i : Int) + (p.length : Int))) (floatOfInt .f64 ((i : Int) + (j : Int)))] = X := by
   rw [hX, ← Int.natCast_add, ← Int.natCast_add]
   rfl
  rw [hX3]
  rw [askC_good hL hs hs2, show rM (spl m.dt i j p) (s : Int) = memX (spl m.dt i j p) s by unfold rM; rw [if_pos (askC_good hL hs hs2)]; rfl, show rR (spl m.dt i j p) (s : Int) = ((spl m.dt i j p).length : Int) by unfold rR; rw [if_pos (askC_good hL hs hs2)]] at KN
  have HXR := Hid.mk' (RowA.new w1 86 X)
  have W01 : Hid (w.heap.size + 1 < w1.heap.size) := Hid.mk' (H2.out.below hb1).lt
  have HZ := Hid.mk' (H2.out.below M1)
  have B1 := Hid.mk' (HB.out.trans (M1.mono HB.out.size))
  clear hX3 hX hx hin ob bt hb1 N1 M1 H2 HB HE
  have k1 := HXR.out.cell 1 _ c1
  have k5 := HXR.out.cell 5 _ c5
  generalize spl m.dt i j p = T at *
  generalize i / s * s = Q at *
  go_wp2_with (first | ((with_reducible refine wpList_store_row ?_ 86 (.tmp 9) (.tmp 18) ?_ w1.heap.size X ?_ ?_ 86 _ (Deep.blk_alloc_new w1 _) ?_ ?_ ?_ ?_); rfl; rfl; rfl; rfl; (rw [X2]; kernel_rfl); (rw [X2]; rfl); exact X1; rw [alloc_setRow]) | fail)
  generalize hW2 : w1.alloc (.cells X 86) = w2 at *
  clear hW2 k1 k5
  refine KN.out.mono ?_
  rintro e3 w3 ⟨tau, vd, tv3, hv3, cv3, us3, rs3, bl3, bh3, hvs3, rfl, gm, hb3⟩
  obtain ⟨pa, pt, pu, pc, qa, qt, qu, qc, rfl, rfl, rfl, rfl, -⟩ := gm.at
  have S12 : Hid (w.heap.size + 2 ≤ w2.heap.size) := Hid.mk' (by have := HZ.out.lt; omega)
  have S01 : Hid (w.heap.size + 1 < w1.heap.size) := W01
  have s2 := HXR.out.lt
  have N3 := below_new w3 (.cells #[.int .i64 0, .int .i64 (T.length : Int), .slice pa (memX T s).dt.length qa, .int .i64 (memX T s).st, .slice pt (memX T s).tk.length qt, .slice pu (memX T s).hd.length qu, .slice pc (memX T s).cs.length qc] 50)
  have M3 := hb3.trans (N3.mono hb3.size)
  have HXR := Hid.mk' (HXR.out.below M3)
  have HZ := Hid.mk' (HZ.out.below M3)
  have B1 := Hid.mk' (B1.out.trans (M3.mono B1.out.size))
  have HR := Hid.mk' (RowA.new w3 50 #[.int .i64 0, .int .i64 (T.length : Int), .slice pa (memX T s).dt.length qa, .int .i64 (memX T s).st, .slice pt (memX T s).tk.length qt, .slice pu (memX T s).hd.length qu, .slice pc (memX T s).cs.length qc])
  have GM3 := Hid.mk' (gm.below N3)
  have KM := Hid.mk' (fun z (hz : Below (w3.alloc (.cells #[.int .i64 0, .int .i64 (T.length : Int), .slice pa (memX T s).dt.length qa, .int .i64 (memX T s).st, .slice pt (memX T s).tk.length qt, .slice pu (memX T s).hd.length qu, .slice pc (memX T s).cs.length qc] 50)).heap.size (w3.alloc (.cells #[.int .i64 0, .int .i64 (T.length : Int), .slice pa (memX T s).dt.length qa, .int .i64 (memX T s).st, .slice pt (memX T s).tk.length qt, .slice pu (memX T s).hd.length qu, .slice pc (memX T s).cs.length qc] 50)) z) => KM.out z (M3.trans (hz.mono M3.size)))
  have S13 : Hid (w1.heap.size < w3.heap.size) := Hid.mk' (by have := hb3.size; omega)
  clear KN hb3 N3 M3 gm
  go_wp2_with (first | ((with_reducible refine wpList_store_row ?_ 50 (.tmp 11) (.tmp 28) ?_ w3.heap.size #[.int .i64 0, .int .i64 (T.length : Int), .slice pa (memX T s).dt.length qa, .int .i64 (memX T s).st, .slice pt (memX T s).tk.length qt, .slice pu (memX T s).hd.length qu, .slice pc (memX T s).cs.length qc] ?_ ?_ 50 _ (Deep.blk_alloc_new w3 _) ?_ ?_ ?_ ?_); rfl; rfl; rfl; rfl; kernel_rfl; rfl; kernel_rfl; rw [alloc_setRow]) | fail)
  have k6 := HXR.out.cell 6 _ c6
  have f1 := HR.out.frozen 1
  generalize hV : w3.alloc (.cells #[.int .i64 0, .int .i64 (T.length : Int), .slice pa (memX T s).dt.length qa, .int .i64 (memX T s).st, .slice pt (memX T s).tk.length qt, .slice pu (memX T s).hd.length qu, .slice pc (memX T s).cs.length qc] 50) = V at *
  clear hV
  have hwX : IntKind.i64.wrap ((R : Int) - (Q : Int)) = (R : Int) - (Q : Int) := by rw [IntKind.wrap_i64]; omega
  refine wp_region_held_drew (S := (fun z => Hid (RowA z w1.heap.size 86 X) ∧ z.cell? ⟨w1.heap.size, 6, none⟩ = some (.int .i64 (Q : Int)) ∧ z.frozen? ⟨w3.heap.size, 1, none⟩ = false)) (by kernel_rfl) ⟨Hid.mk' HXR.out.drew, k6, f1⟩ (fun hHeld => ?_)
  refine wpAnyH_take (i := 0) (oi := ⟨_, _, _, _, _, _⟩) (v := ?_) rfl (by kernel_rfl) (by kernel_rfl) (by kernel_rfl) (fun _ _ _ h => h) (Or.inl ⟨by rfl, ?_⟩) (by assumption) ?_
  rotate_left
  ·(intro w' hSw; refine RowA.exec hSw.1.out (.tmp 9) ?_ ?_ _ Tryz.underlying86 ?_ ?_; rfl; rfl; rfl; (rw [X2]; kernel_rfl))
  try simp only [Act.put, zA, zB, zC]
  refine tkY 2 ?_
  refine tkY 3 ?_
  refine tkY 4 ?_
  refine wpAnyH_ready (rs := [1]) (by kernel_rfl) (by simp) ?_
  refine AllReadyH.cons (o := ⟨_, _, _, _, _, _⟩) rfl (fun K9 hK => ?_) AllReadyH.nil
  go_simp
  refine (KM.out _ (Below.refl _ _).drew).mono ?_
  rintro e4 w4 ⟨rfl, hb4⟩
  replace hb4 := undrew hb4
  have HXR := Hid.mk' (HXR.out.below hb4)
  have HZ := Hid.mk' (HZ.out.below hb4)
  have B1 := Hid.mk' (B1.out.trans (hb4.mono B1.out.size))
  have HR := Hid.mk' (HR.out.below hb4)
  have GM4 := Hid.mk' (GM3.out.below hb4)
  have KR4 := Hid.mk' (RowA.setBelow (Below.refl w3.heap.size w4) (Nat.le_refl _) 1 (.int .i64 ((R : Int) - (Q : Int))))
  have S34 := Hid.mk' hb4.size
  clear hb4 GM3 KM k6 f1
  have k6 := HXR.out.cell 6 _ c6
  have f1 := HR.out.frozen 1
  have k1 := HR.out.cell 1 _ rfl
  refine hK.out _ _ ⟨HXR, k6, f1⟩ (fun hHeld => ?_)
  clear hK K9
  try simp only [Act.put, zA, zB, zC]
  refine tkY 5 ?_
  refine tkY 6 ?_
  refine wpAnyH_ready (rs := [7]) (by kernel_rfl) (by simp) ?_
  refine AllReadyH.cons (o := ⟨_, _, _, _, _, _⟩) rfl (fun K9 hK => ?_) AllReadyH.nil
  go_simp
  have S5 : Hid (w1.heap.size < w3.heap.size) := S13
  have hx6 : RowA (w4.setCell ⟨w3.heap.size, 1, none⟩ (.int .i64 ((R : Int) - (Q : Int)))) w1.heap.size 86 X := HXR.out.other (by have := S5.out; simp; omega) _
  have HR5 : Hid (RowA (w4.setCell ⟨w3.heap.size, 1, none⟩ (.int .i64 ((R : Int) - (Q : Int)))) w3.heap.size 50 #[.int .i64 0, .int .i64 ((R : Int) - (Q : Int)), .slice pa (memX T s).dt.length qa, .int .i64 (memX T s).st, .slice pt (memX T s).tk.length qt, .slice pu (memX T s).hd.length qu, .slice pc (memX T s).cs.length qc]) := Hid.mk' (HR.out.set 1 _)
  refine hK.out _ _ ⟨Hid.mk' hx6, hx6.cell 6 _ c6, HR5.out.frozen 1⟩ (fun hHeld => ?_)
  clear hK K9
  try simp only [Act.put, zA, zB, zC]
  refine wpAnyH_done (by kernel_rfl) ?_ _
  have wz : w.heap.size + 1 < w1.heap.size := S01.out
  have HZ5 : Hid (RowA (w4.setCell ⟨w3.heap.size, 1, none⟩ (.int .i64 ((R : Int) - (Q : Int)))) (w.heap.size + 1) 50 #[.int .i64 0, .int .i64 0, .slice none 0 0, .int .i64 0, .slice none 0 0, .slice none 0 0, .slice none 0 0]) := Hid.mk' (HZ.out.other (by have := S5.out; simp; omega) _)
  have B5 := Hid.mk' (RowA.setBelow B1.out (g := w3.heap.size) (by have := S5.out; omega) 1 (.int .i64 ((R : Int) - (Q : Int))))
  have GM5 := Hid.mk' (GM4.out.keepIn (w' := w4.setCell ⟨w3.heap.size, 1, none⟩ (.int .i64 ((R : Int) - (Q : Int)))) KR4.out.size (fun q h1 h2 => KR4.out.block q h2))
  clear hHeld hx6 k6 f1 k1 HXR HZ B1 HR GM4 KR4
  generalize hw5 : w4.setCell ⟨w3.heap.size, 1, none⟩ (.int .i64 ((R : Int) - (Q : Int))) = w5 at *
  clear hw5
  have HZ6 := Hid.mk' (HZ5.out.put #[.int .i64 0, .int .i64 ((R : Int) - (Q : Int)), .slice pa (memX T s).dt.length qa, .int .i64 (memX T s).st, .slice pt (memX T s).tk.length qt, .slice pu (memX T s).hd.length qu, .slice pc (memX T s).cs.length qc])
  have B6 := Hid.mk' (RowA.putBelow B5.out (Nat.le_succ w.heap.size) #[.int .i64 0, .int .i64 ((R : Int) - (Q : Int)), .slice pa (memX T s).dt.length qa, .int .i64 (memX T s).st, .slice pt (memX T s).tk.length qt, .slice pu (memX T s).hd.length qu, .slice pc (memX T s).cs.length qc])
  have GM6 := Hid.mk' (GM5.out.keepIn (w' := w5.setRow (w.heap.size + 1) #[.int .i64 0, .int .i64 ((R : Int) - (Q : Int)), .slice pa (memX T s).dt.length qa, .int .i64 (memX T s).st, .slice pt (memX T s).tk.length qt, .slice pu (memX T s).hd.length qu, .slice pc (memX T s).cs.length qc]) (by rw [setRow_size]; exact Nat.le_refl _) (fun q h1 h2 => setRow_other _ _ _ _ (by have := S12.out; omega)))
  go_wp2_with (first | ((with_reducible refine wpList_load_row ?_ 50 (.tmp 11) ?_ w3.heap.size ?_ 50 #[.int .i64 0, .int .i64 ((R : Int) - (Q : Int)), .slice pa (memX T s).dt.length qa, .int .i64 (memX T s).st, .slice pt (memX T s).tk.length qt, .slice pu (memX T s).hd.length qu, .slice pc (memX T s).cs.length qc] (0, 0) _ ?_ Tryz.underlying50 ?_ ?_ ?_); rfl; rfl; rfl; exact HR5.out; rfl; kernel_rfl) | ((with_reducible refine wpList_store_row ?_ 50 (.tmp 8) (.tmp 37) ?_ (w.heap.size + 1) #[.int .i64 0, .int .i64 ((R : Int) - (Q : Int)), .slice pa (memX T s).dt.length qa, .int .i64 (memX T s).st, .slice pt (memX T s).tk.length qt, .slice pu (memX T s).hd.length qu, .slice pc (memX T s).cs.length qc] ?_ ?_ 50 #[.int .i64 0, .int .i64 0, .slice none 0 0, .int .i64 0, .slice none 0 0, .slice none 0 0, .slice none 0 0] ?_ ?_ ?_ ?_ ?_); rfl; rfl; rfl; rfl; exact HZ5.out; kernel_rfl; rfl; kernel_rfl) | fail)
  refine bodyPost_ret (v := .agg #[.int .i64 0, .int .i64 ((R : Int) - (Q : Int)), .slice pa (memX T s).dt.length qa, .int .i64 (memX T s).st, .slice pt (memX T s).tk.length qt, .slice pu (memX T s).hd.length qu, .slice pc (memX T s).cs.length qc]) ?_ ?_ ?_
  ·exact results_cell1 Tryz.results23 _ _ _ ⟨w.heap.size + 1, 0, none⟩ _ rfl (HZ6.out.load _ Tryz.underlying50 rfl (by kernel_rfl))
  ·rfl
  rw [EM.out, EV.out, EC.out]
  exact ⟨tau, _, _, _, _, us3, rs3, bl3, bh3, hvs3, rfl, GM6.out.mono (by have := S12.out; omega) (by rw [setRow_size]; exact Nat.le_of_lt HR5.out.lt), B6.out⟩
theorem l13TailZ (g : Nat) (m : ME) (a u : Option Addr) (b9 o9 ca cu cc s o n : Nat) (w : World) (hp : P1 g m a none u (some ⟨b9, o9, none⟩) ca 0 cu cc w) (htk : m.tk = []) (hst : m.st = (s : Int)) (hs : 1 ≤ s) (hs2 : s ≤ 60) (hcl : m.cs.length = m.dt.length / s + 1) (ho : o ≤ m.dt.length) (hd : m.dt.length ≤ 240) (hn : (ckK m.cs (o / s)).ct = (n : Int)) (hnl : n ≤ m.tk.length) (hl : (m.tk.length : Int) + tssz m.tk ≤ 1048576) :
  Calls Tryz.prog 92 #[.pointer (some ⟨g, 0, none⟩), .int .i64 (o : Int)] w fun e w' => ∃ v us, e = .returned v ∧ TokS w.heap.size w' v (m.tk.drop n) us ∧ Below w.heap.size w w' := by
 obtain ⟨x0, x1, x2, x3, x4, x5⟩ := cells5 hp.r
 rw [hst] at x1
 have ht0 : m.tk.length = 0 := by rw [htk]; rfl
 rw [ht0] at x2
 have hn0 : n = 0 := by omega
 subst hn0
 have hKJ : o / s < m.cs.length := by rw [hcl]; exact Nat.lt_succ_of_le (Nat.div_le_div_right ho)
 have hq0 : (o : Int) / (s : Int) = ((o / s : Nat) : Int) := by simp
 have hq1 : o / s ≤ o := Nat.div_le_self _ _
 rcases hp.m1.2.2.2 with hnil | ⟨b8, o8, e8, hbs9, hc9⟩
 ·rw [hnil] at hKJ; simp at hKJ
 cases e8
 obtain ⟨p1, p2_, -⟩ := hc9 (o / s) hKJ
 rw [hn] at p2_
 have hz0 : (((0 : Nat) : Int)) = 0 := rfl
 rw [hz0] at p2_
 have hs0 : ¬ s = 0 := by omega
 have KC : ∀ V, Below w.heap.size w V → Calls Tryz.prog 67 #[.slice none 0 0] V fun e w' => ∃ v us, e = .returned v ∧ TokS V.heap.size w' v (m.tk.drop 0) us ∧ Below V.heap.size V w' := fun V hV => by
  rw [htk]
  exact l4Copy_any none 0 [] V (.inl rfl) (by simp [tssz])
 obtain ⟨K, hK⟩ : ∃ K, o / s = K := ⟨_, rfl⟩
 rw [hK] at hKJ hq0 hq1 p2_
 have hwK : IntKind.i64.wrap (K : Int) = (K : Int) := by rw [IntKind.wrap_i64]; omega
 have ck : (K : Int) < (m.cs.length : Int) := by omega
 clear hp hc9 p1 hK hcl hn ht0
 have KC := Hid.mk' KC
 go_enter Tryz.func92, Tryz.ntmps92
 go_wp2
 refine wp_region_held_drew (S := (fun v => v.cell? ⟨g, 1, none⟩ = some (.int .i64 (s : Int)) ∧ v.cell? ⟨g, 2, none⟩ = some (.slice none 0 0) ∧ v.cell? ⟨g, 4, none⟩ = some (.slice (some ⟨b9, o9, none⟩) m.cs.length cc) ∧ v.cell? ⟨b9, o9 + K * 3 + 1, none⟩ = some (.int .i64 0))) (by kernel_rfl) ⟨x1, x2, x4, p2_⟩ (fun hHeld => ?_)
 refine tkY 0 ?_
 refine tkY 1 ?_
 refine tkY 2 ?_
 refine tkY 3 ?_
 refine tkY 4 ?_
 refine tkY 5 ?_
 refine tkY 6 ?_
 refine tkY 7 ?_
 refine tkY 8 ?_
 refine tkY 9 ?_
 refine tkY 10 ?_
 refine tkY 11 ?_
 refine tkY 12 ?_
 refine tkY 13 ?_
 refine tkY 14 ?_
 refine tkY 15 ?_
 refine tkY 16 ?_
 refine tkY 17 ?_
 refine wpAnyH_ready (rs := [18]) (by kernel_rfl) (by simp) ?_
 refine AllReadyH.cons (o := ⟨_, _, _, _, _, _⟩) rfl (fun K hK => ?_) AllReadyH.nil
 go_simp
 refine (KC.out _ (Below.refl _ _).drew).mono ?_
 rintro e w1 ⟨v, us, rfl, tk1, hb1⟩
 replace hb1 := undrew hb1
 refine hK.out _ _ ⟨(hb1.cell x5).trans x1, (hb1.cell x5).trans x2, (hb1.cell x5).trans x4, (hb1.cell hbs9).trans p2_⟩ (fun hHeld => ?_)
 clear hK K
 try simp only [Act.put, zA, zB, zC]
 refine tkY 19 ?_
 refine wpAnyH_done (by kernel_rfl) ?_ _
 have T1 := Hid.mk' tk1
 have B1 := Hid.mk' hb1
 clear tk1 hb1 hHeld
 go_wp2
 go_ret
 exact ⟨_, us, rfl, T1.out, B1.out⟩
theorem l13GoZ (g : Nat) (m : ME) (u : Option Addr) (bd od b9 o9 ca cu cc s i j : Nat) (e : Option Addr) (d : Nat) (p : List Int) (w : World) (hp : P1 g m (some ⟨bd, od, none⟩) none u (some ⟨b9, o9, none⟩) ca 0 cu cc w) (htk : m.tk = []) (hca : m.dt.length ≤ ca) (hub : Byt m.dt) (hpb : Byt p) (he : BAt w e p) (hst : m.st = (s : Int)) (hs : 1 ≤ s) (hs2 : s ≤ 60) (hd : m.dt.length ≤ 240) (ecl : m.cs.length = m.dt.length / s + 1) (eck : ∀ k, k < m.dt.length / s + 1 → ckK m.cs k = ckAt m.dt s k) (hcnt : ∀ k, k < m.dt.length / s + 1 → (tkN m.dt s k).length ≤ m.tk.length) (hat : i + j ≤ m.dt.length) (hL : (spl m.dt i j p).length ≤ 240) (hpl : p.length ≤ 240) (hm : (msz m : Int) ≤ 1048576) :
  Calls Tryz.prog 59 #[.pointer (some ⟨g, 0, none⟩), .int .i64 (i : Int), .int .i64 (j : Int), .slice e p.length d] w fun ev w' => GoP m s i j p w ev w' := by
 have ht0 : m.tk.length = 0 := by rw [htk]; rfl
 have MS_ : (msz m : Int) = m.dt.length + m.tk.length + tssz m.tk + m.hd.length + m.cs.length + csz m.cs := by unfold msz; omega
 have KS := Hid.mk' (l13SpliceB_any bd od ca m.dt i j e d p w hp.m1.1 hca he (by omega) (by omega) hat)
 have HP := Hid.mk' hp
 obtain ⟨x0, x1, x2, x3, x4, x5⟩ := cells5 hp.r
 rw [ht0] at x2
 rw [hst] at x1
 go_enter Tryz.func59, Tryz.ntmps59
 go_wp2_with fail
 refine KS.out.mono ?_
 rintro e1 w1 ⟨tx, rfl, ot1, hb1⟩
 clear x0 x1 x2 x3 x4 x5
 have P1_ := Hid.mk' (HP.out.below hb1)
 have B1 := Hid.mk' hb1
 obtain ⟨ta, tcap, rfl, bta⟩ := own_bat ot1
 have OT1 := Hid.mk' ot1
 have BT1 := Hid.mk' bta
 clear hb1 ot1 bta KS
 have hn : i ≤ m.dt.length := by omega
 have hKJ : i / s < m.dt.length / s + 1 := Nat.lt_succ_of_le (Nat.div_le_div_right hn)
 have hq0 : (i : Int) / (s : Int) = ((i / s : Nat) : Int) := by simp
 have hq1 : i / s ≤ i := Nat.div_le_self _ _
 have hqs : i / s * s ≤ i := Nat.div_mul_le_self _ _
 have hs0 : ¬ s = 0 := by omega
 obtain ⟨x0, x1, x2, x3, x4, x5⟩ := cells5 P1_.out.r
 rw [ht0] at x2
 rw [hst] at x1
 rcases P1_.out.m1.2.2.2 with hnil | ⟨b8, o8, e8, hbs9, hc9⟩
 ·rw [hnil] at ecl; simp at ecl
 cases e8
 obtain ⟨p1, p2_, pq, pc, p3, p4⟩ := hc9 (i / s) (by omega)
 rw [eck (i / s) hKJ] at p1 p2_ p3 p4
 obtain ⟨K, hK⟩ : ∃ K, i / s = K := ⟨_, rfl⟩
 rw [hK] at hKJ hq0 hq1 hqs p1 p2_ p3 p4
 have hwK : IntKind.i64.wrap (K : Int) = (K : Int) := by rw [IntKind.wrap_i64]; omega
 have ck : (K : Int) < (m.cs.length : Int) := by omega
 have c0 : w1.cell? ⟨b9, o9 + K * 3, none⟩ = some (.int .i64 ((K * s : Nat) : Int)) := p1
 have c1 : w1.cell? ⟨b9, o9 + K * 3 + 1, none⟩ = some (.int .i64 ((tkN m.dt s K).length : Int)) := p2_
 have c2 : w1.cell? ⟨b9, o9 + K * 3 + 2, none⟩ = some (.slice pq (hdN m.dt s K).length pc) := p3
 have c3 : BAt w1 pq (hdN m.dt s K) := p4
 have tc := hcnt K hKJ
 have gH : GoodH (hdN m.dt s K) := allX_good _ _ _ (.inl rfl)
 have hH := gH.len
 have bH : Byt (hdN m.dt s K) := allX_byt _ _ _ (fun x hx => hub.mem x (List.mem_of_mem_take hx)) Byt.nil
 obtain ⟨Q, hQ⟩ : ∃ Q, K * s = Q := ⟨_, rfl⟩
 obtain ⟨H, hH0⟩ : ∃ H, hdN m.dt s K = H := ⟨_, rfl⟩
 obtain ⟨cn, hcn⟩ : ∃ cn, (tkN m.dt s K).length = cn := ⟨_, rfl⟩
 rw [hQ] at c0 hqs
 rw [hH0] at c2 c3 hH bH gH
 rw [hcn] at c1 tc
 have cz : cn = 0 := by omega
 subst cz
 rw [show (((0 : Nat) : Int)) = 0 from rfl] at c1
 have HQ := Hid.mk' hQ
 have HH := Hid.mk' hH0
 have HCN := Hid.mk' hcn
 have HK := Hid.mk' hK
 have ttk := tssz_takeLe m.tk 0
 have K4 : Hid (∀ V, Below w1.heap.size w1 V → Calls Tryz.prog 67 #[.slice none 0 0] V fun e w' => ∃ v us, e = .returned v ∧ TokS V.heap.size w' v (m.tk.take 0) us ∧ Below V.heap.size V w') := Hid.mk' (fun V hV => by
  rw [List.take_zero]
  exact l4Copy_any none 0 [] V (.inl rfl) (by simp [tssz]))
 have K5 : Hid (∀ V, Below w1.heap.size w1 V → Calls Tryz.prog 51 #[.slice pq H.length pc] V fun e w' => ∃ v, e = .returned v ∧ w'.ownsRow V.heap.size 5 1 v H.length (bcs H) ∧ Below V.heap.size V w') := Hid.mk' (fun V hV => l1Copy_own pq pc H V (c3.below hV) (by omega))
 have ECL := Hid.mk' ecl
 have ECK := Hid.mk' eck
 have HCT := Hid.mk' hcnt
 have sTK : (m.tk.length : Int) + tssz m.tk ≤ 1048576 := by omega
 have sHD : (m.hd.length : Int) ≤ 1048576 := by omega
 have sCS : m.cs.length ≤ 1048576 := by omega
 clear p1 p2_ p3 p4 hK hQ hH0 hcn hc9 ttk MS_ c3 ecl eck hcnt hp hm
 go_wp2
 refine wp_region_held_drew (S := (fun v => v.cell? ⟨g, 1, none⟩ = some (.int .i64 (s : Int)) ∧ v.cell? ⟨g, 4, none⟩ = some (.slice (some ⟨b9, o9, none⟩) m.cs.length cc))) (by kernel_rfl) ⟨x1, x4⟩ (fun hHeld => ?_)
 refine tkY 0 ?_
 refine tkY 1 ?_
 refine tkY 2 ?_
 refine tkY 3 ?_
 refine tkY 4 ?_
 refine tkY 5 ?_
 refine tkY 6 ?_
 refine tkY 7 ?_
 refine tkY 8 ?_
 refine tkY 9 ?_
 refine tkY 10 ?_
 refine tkY 11 ?_
 refine wpAnyH_done (by kernel_rfl) ?_ _
 clear hHeld
 have i1 : (0 : Int) ≤ (0 : Int) := by omega
 have i2 : (0 : Int) ≤ (m.tk.length : Int) := by omega
 have i3 : (0 : Int) ≤ (0 : Int) := by omega
 go_wp2
 refine wp_region_held_drew (S := (fun v => v.cell? ⟨g, 2, none⟩ = some (.slice none 0 0) ∧ v.cell? ⟨b9, o9 + K * 3 + 1, none⟩ = some (.int .i64 (0 : Int)))) (by kernel_rfl) ⟨x2, c1⟩ (fun hHeld => ?_)
 refine tkY 0 ?_
 refine tkY 1 ?_
 refine tkY 2 ?_
 refine tkY 3 ?_
 refine tkY 4 ?_
 refine tkY 5 ?_
 refine tkY 6 ?_
 refine tkY 7 ?_
 refine tkY 8 ?_
 refine wpAnyH_ready (rs := [9]) (by kernel_rfl) (by simp) ?_
 refine AllReadyH.cons (o := ⟨_, _, _, _, _, _⟩) rfl (fun K hK => ?_) AllReadyH.nil
 go_simp
 refine (K4.out _ (Below.refl _ _).drew.drew).mono ?_
 rintro e2 w2 ⟨tv, us0, rfl, tk2, hb2⟩
 replace hb2 := undrew (undrew hb2)
 obtain ⟨tva, tvc, rfl, -⟩ := own_src tk2.row
 refine hK.out _ _ ⟨(hb2.cell x5).trans x2, (hb2.cell hbs9).trans c1⟩ (fun hHeld => ?_)
 clear hK K
 try simp only [Act.put, zA, zB, zC]
 refine tkY 10 ?_
 refine wpAnyH_done (by kernel_rfl) ?_ _
 clear hHeld
 have TK2 : Hid (TokS w1.heap.size w2 (.slice tva (m.tk.take 0).length tvc) (m.tk.take 0) us0) := Hid.mk' tk2
 have P2 := Hid.mk' (P1_.out.below hb2)
 have B2 := Hid.mk' (B1.out.trans (hb2.mono B1.out.size))
 have d0 : w2.cell? ⟨b9, o9 + K * 3, none⟩ = some (.int .i64 (Q : Int)) := (hb2.cell (p := ⟨b9, o9 + K * 3, none⟩) hbs9).trans c0
 have d2 : w2.cell? ⟨b9, o9 + K * 3 + 2, none⟩ = some (.slice pq H.length pc) := (hb2.cell (p := ⟨b9, o9 + K * 3 + 2, none⟩) hbs9).trans c2
 have hbs2 : b9 < w2.heap.size := Nat.lt_of_lt_of_le hbs9 hb2.size
 have K6 := Hid.mk' (K5.out w2 hb2)
 have HB2 := Hid.mk' hb2
 clear tk2 hb2 x0 x1 x2 x3 x4 x5 c0 c1 c2 hbs9 K4 K5 OT1
 obtain ⟨T, hT⟩ : ∃ T, spl m.dt i j p = T := ⟨_, rfl⟩
 have eT : T.take Q = m.dt.take Q := by rw [← hT]; exact spl_take hqs hn
 have lT : T.length = m.dt.length - j + p.length := by rw [← hT]; exact spl_len hat
 have EH : Hid (hdA T Q = H) := Hid.mk' (by rw [hdA_same eT, ← HH.out, ← HQ.out]; rfl)
 have bT : Byt T := by
  rw [← hT]
  exact Byt.of (fun x hx => by
   unfold spl at hx
   rcases List.mem_append.1 hx with h | h
   ·rcases List.mem_append.1 h with h | h
    ·exact hub.mem x (List.mem_of_mem_take h)
    ·exact hpb.mem x h
   ·exact hub.mem x (List.mem_of_mem_drop h))
 rw [hT] at hL BT1 ⊢
 have HT := Hid.mk' hT
 have HBT := Hid.mk' bT
 have HLT := Hid.mk' lT
 clear hT eT bT lT
 go_wp2_with fail
 refine K6.out.mono ?_
 rintro e3 w3 ⟨hv, rfl, oh3, hb3⟩
 have TK3 : Hid (TokS w1.heap.size w3 (.slice tva (m.tk.take 0).length tvc) (m.tk.take 0) us0) := Hid.mk' ⟨TK2.out.len, own_keep TK2.out.row hb3, TK2.out.one, fun i t u h1 h2 => (TK2.out.all i t u h1 h2).below hb3⟩
 have HB3 := Hid.mk' (HB2.out.trans (hb3.mono HB2.out.size))
 have d3 : w3.cell? ⟨b9, o9 + K * 3, none⟩ = some (.int .i64 (Q : Int)) := (hb3.cell (p := ⟨b9, o9 + K * 3, none⟩) hbs2).trans d0
 have OH3 := Hid.mk' (own_down oh3 HB2.out.size)
 have lcn : (m.tk.take 0).length = 0 := by rw [List.length_take]; omega
 rw [lcn] at TK3
 clear K6 P2 d0 d2 oh3 hb3 TK2 B2 HB2 lcn
 go_wp2
 have QL : Q ≤ T.length := by rw [HLT.out]; omega
 obtain ⟨D, hD⟩ : ∃ D, T.drop Q = D := ⟨_, rfl⟩
 have lD : D.length = T.length - Q := by rw [← hD, List.length_drop]
 have HDD := Hid.mk' hD
 have HA : Hid (∀ k, hdA T (Q + k) = (allX [] H (D.take k)).2) := Hid.mk' (fun k => by rw [hdA_add, EH.out, hD])
 have bD : Byt D := by rw [← hD]; exact Byt.of (fun x hx => HBT.out.mem x (List.mem_of_mem_drop hx))
 obtain ⟨ff, hff⟩ : ∃ ff, mtF m.dt T s i j p.length = ff := ⟨_, rfl⟩
 have HF := Hid.mk' hff
 clear hD hff
 go_loopw [13, 14, 15] (fun tv hv iv wr => ∃ (k : Nat) (us : List Value), Q + k ≤ T.length ∧ iv = .int .i64 ((Q + k : Nat) : Int) ∧ TokS w1.heap.size wr tv (m.tk.take 0 ++ (allX [] H (D.take k)).1) us ∧ wr.ownsRow w1.heap.size 5 1 hv (allX [] H (D.take k)).2.length (bcs (allX [] H (D.take k)).2) ∧ (allX [] H (D.take k)).1.length ≤ 161 * k ∧ (allX [] H (D.take k)).2.length ≤ 160 ∧ Byt (allX [] H (D.take k)).2 ∧ meetN ff T.length Q = meetN ff T.length (Q + k) ∧ Below w1.heap.size w1 wr) (fun _ _ iv _ => T.length - (intOf iv).toNat)
 case atStart => exact ⟨0, us0, by omega, rfl, by simpa [allX] using TK3.out, OH3.out, Nat.zero_le _, by show H.length ≤ 160; omega, bH, rfl, HB3.out⟩
 case round =>
  obtain ⟨k, us, hk, rfl, ht, hn', l1, l2, hby, hme, hbl⟩ := hrel
  by_cases hlt : Q + k < T.length
  ·have ci : ((Q + k : Nat) : Int) < (T.length : Int) := by omega
   obtain ⟨y0, y1⟩ := bD k (by omega)
   obtain ⟨y, hy⟩ : ∃ y : Nat, D.getD k 0 = (y : Int) := ⟨(D.getD k 0).toNat, by omega⟩
   rw [hy] at y1
   have hcell : ∃ ga oa, ta = some ⟨ga, oa, none⟩ ∧ wr.cell? ⟨ga, oa + (Q + k), none⟩ = some (.int .u8 y) := by
    rcases BT1.out with h0 | ⟨ga, oa, ea, hbs, hc⟩
    ·exact absurd hlt (by rw [h0]; simp)
    ·refine ⟨ga, oa, ea, (hbl.cell (p := ⟨ga, oa + (Q + k), none⟩) hbs).trans ((hc (Q + k) hlt).trans ?_)⟩
     have : T.getD (Q + k) 0 = D.getD k 0 := by rw [← HDD.out]; simp
     unfold bv
     rw [this, hy]
   obtain ⟨ga, oa, rfl, hcell⟩ := hcell
   have ES : Hid (allX [] H (D.take (k + 1)) = ((allX [] H (D.take k)).1 ++ (feedX (allX [] H (D.take k)).2 y).1, (feedX (allX [] H (D.take k)).2 y).2)) := Hid.mk' (by
    rw [take_snoc_int (by omega), allX_append, hy]
    simp [allX])
   have hff : Hid (ff (Q + k) = (decide (i + p.length ≤ Q + k) && (decide ((Q + k + j - p.length) % s = 0) && beqB (hdN m.dt s ((Q + k + j - p.length) / s)) (allX [] H (D.take k)).2))) := Hid.mk' (by rw [← HF.out]; unfold mtF; rw [HA.out])
   clear hy y0
   obtain ⟨TT, hTT⟩ : ∃ TT, (allX [] H (D.take k)).1 = TT := ⟨_, rfl⟩
   rw [hTT] at ES ht l1
   have ETT := Hid.mk' hTT
   clear hTT
   generalize (allX [] H (D.take k)).2 = HH' at *
   obtain ⟨an, can, rfl, hcan⟩ := own_cap hn'
   obtain ⟨an', can', en, ban⟩ := own_bat hn'
   injection en with en1 _ en3
   subst en1 en3
   have P4 := Hid.mk' (P1_.out.below hbl)
   have wA : IntKind.i64.wrap (((Q + k : Nat) : Int) + (j : Int)) = ((Q + k : Nat) : Int) + (j : Int) := by rw [IntKind.wrap_i64]; omega
   have wB : IntKind.i64.wrap (((Q + k : Nat) : Int) + (j : Int) - (p.length : Int)) = ((Q + k : Nat) : Int) + (j : Int) - (p.length : Int) := by rw [IntKind.wrap_i64]; omega
   have wC : IntKind.i64.wrap ((i : Int) + (p.length : Int)) = (i : Int) + (p.length : Int) := by rw [IntKind.wrap_i64]; omega
   have hk2 : k ≤ 240 := by omega
   obtain ⟨X, hX⟩ : ∃ X, Q + k = X := ⟨_, rfl⟩
   rw [hX] at wA wB ci hcell hff hk hlt hme ⊢
   have HX := Hid.mk' hX
   have lTT : (m.tk.take 0 ++ TT).length ≤ 1048576 + 161 * k := by rw [List.length_append, List.length_take]; omega
   have fl := feedX_len HH' y
   have fh := Hid.mk' (feedX_held HH' y)
   have fb := Hid.mk' (feedX_byt (b := y) hby (by omega))
   have KF := Hid.mk' (fun V (hV : BAt V an HH') => l5Feed_any an can HH' y V hV hby hcan (by omega) (by omega))
   by_cases hx : X < i + p.length
   ·have cg : ¬ (X : Int) ≥ (i : Int) + (p.length : Int) := by omega
    have fX : Hid (ff X = false) := Hid.mk' (by rw [hff.out, decide_eq_false (by omega)]; rfl)
    have HT' := Hid.mk' ht
    have HB := Hid.mk' hbl
    have BN := Hid.mk' ban
    have HME := Hid.mk' hme
    clear ht hn' hbl ban hff hX hme
    go_wp2_with (first | go_big_skip | fail)
    generalize hR : feedX HH' y = R at *
    refine (KF.out _ BN.out).mono ?_
    intro e2 w2' hx2
    obtain ⟨v1, u1, us1, rfl, t1, hA1, o1, b1⟩ := hx2.toks
    have OV := Hid.mk' (own_keep HT'.out.row b1)
    obtain ⟨a1, c1', rfl, s1⟩ := own_src t1.row
    have S1 := Hid.mk' s1
    have T1 := Hid.mk' t1
    have LN := Hid.mk' (tcs_len R.1 us1 t1.len)
    have PP1 := Hid.mk' (tcs_one R.1 us1 t1.one)
    have HA1 := Hid.mk' (hA1 _ (fun k hk => (HT'.out.row.lt k hk).2))
    have O1 := Hid.mk' o1
    have BB2 := Hid.mk' b1
    have SZ := Hid.mk' (Nat.le_trans HB.out.size b1.size)
    clear hx2 t1 hA1 o1 b1 s1 KF
    go_wp2_with (at_builtin; refine wpList_append_at _ rfl (.tmp 101) (.tmp 102) 24 rfl w1.heap.size 107 (.agg #[.int .i64 0, .int .i64 0, .string ⟨#[]⟩, .slice none 0 0, .bool false]) 5 64 Tryz.underlying24 Tryz.infoTok rfl (by decide) _ _ _ rfl OV.out _ R.1.length _ (tcs R.1 us1) rfl LN.out S1.out PP1.out (by unfold maxLen; omega) (by omega) SZ.out ?_; intro v' w3' o3 hg3 at3)
    have T3 := Hid.mk' (TokS.app HT'.out BB2.out HB.out.size HA1.out T1.out.len T1.out.one o3 hg3 at3)
    have B3' := Hid.mk' ((HB.out.trans (BB2.out.mono HB.out.size)).grown hg3 SZ.out (own_lo OV.out))
    have U3 : Hid (w3'.ownsRow w1.heap.size 5 1 u1 R.2.length (bcs R.2)) := Hid.mk' (own_down (O1.out.kept hg3 (by
     cases hu1 : u1.ownBlock with
     | none => exact .inl rfl
     | some q => exact .inr (fun e => by
       have h1 := (O1.out.lt q hu1).1
       have h2 := (HT'.out.row.lt q e.symm).2
       omega))) HB.out.size)
    have L3 : Hid ((TT ++ R.1).length ≤ 161 * (k + 1)) := Hid.mk' (by rw [List.length_append]; omega)
    clear o3 hg3 at3
    go_roundw
    case rel =>
     have ex := HX.out
     refine ⟨k + 1, us ++ us1, by omega, by rw [show Q + (k + 1) = X + 1 by omega]; go_num, by rw [ES.out, ← List.append_assoc]; exact T3.out, by rw [ES.out]; exact U3.out, by rw [ES.out]; exact L3.out, by rw [ES.out]; exact fh.out, by rw [ES.out]; exact fb.out, by rw [show Q + (k + 1) = X + 1 by omega, HME.out, meetN_no hlt fX.out], B3'.out⟩
    case measure => simp [intOf]; omega
   ·have cg : (X : Int) ≥ (i : Int) + (p.length : Int) := by omega
    have lt2 := HLT.out
    have ho : X + j - p.length ≤ m.dt.length := by omega
    have eo : (X : Int) + (j : Int) - (p.length : Int) = ((X + j - p.length : Nat) : Int) := by omega
    have hoJ : (X + j - p.length) / s < m.dt.length / s + 1 := Nat.lt_succ_of_le (Nat.div_le_div_right ho)
    have eh : (ckK m.cs ((X + j - p.length) / s)).hd = hdN m.dt s ((X + j - p.length) / s) := by rw [ECK.out _ hoJ]; rfl
    have hhl : (hdN m.dt s ((X + j - p.length) / s)).length ≤ 159 := (allX_good _ _ _ (.inl rfl)).len
    have KST := l13Stands_any g m (some ⟨bd, od, none⟩) none u b9 o9 ca 0 cu cc s (X + j - p.length) an can HH' wr P4.out hst hs hs2 ECL.out sCS ho hd ban (by omega) (by rw [eh]; omega)
    rw [← eo, eh] at KST
    have KST := Hid.mk' KST
    have HT' := Hid.mk' ht
    have HB := Hid.mk' hbl
    have BN := Hid.mk' ban
    have HME := Hid.mk' hme
    have EO := Hid.mk' eo
    have HO := Hid.mk' (And.intro ho hoJ)
    clear ht hn' hbl ban hX hme eo lt2 eh hhl ho hoJ
    obtain ⟨Bl, hBl⟩ : ∃ Bl, (decide ((X + j - p.length) % s = 0) && beqB (hdN m.dt s ((X + j - p.length) / s)) HH') = Bl := ⟨_, rfl⟩
    rw [hBl] at KST
    have fX : Hid (ff X = Bl) := Hid.mk' (by rw [hff.out, decide_eq_true (by omega), hBl]; rfl)
    clear hBl hff
    go_wp2_with (first | go_big_skip | go_big_want | fail)
    refine KST.out.mono ?_
    rintro eS wS ⟨rfl, hbS⟩
    have HT' := Hid.mk' (show TokS w1.heap.size wS _ _ _ from ⟨HT'.out.len, own_keep HT'.out.row hbS, HT'.out.one, fun i t u h1 h2 => (HT'.out.all i t u h1 h2).below hbS⟩)
    have P5 := Hid.mk' (P4.out.below hbS)
    have hcell : wS.cell? ⟨ga, oa + X, none⟩ = some (.int .u8 y) := (hbS.cell (p := ⟨ga, oa + X, none⟩) (by
     have := hcell
     unfold World.cell? at this
     by_cases hb : ga < wr.heap.size
     ·exact hb
     ·rw [Array.getElem?_eq_none (Nat.le_of_not_lt hb)] at this; simp at this)).trans hcell
    have BN := Hid.mk' (BN.out.below hbS)
    have HB := Hid.mk' (HB.out.trans (hbS.mono HB.out.size))
    clear KST hbS P4
    cases Bl with
    | false =>
     go_wp2_with (first | go_big_skip | go_big_want | fail)
     generalize hR : feedX HH' y = R at *
     refine (KF.out _ BN.out).mono ?_
     intro e2 w2' hx2
     obtain ⟨v1, u1, us1, rfl, t1, hA1, o1, b1⟩ := hx2.toks
     have OV := Hid.mk' (own_keep HT'.out.row b1)
     obtain ⟨a1, c1', rfl, s1⟩ := own_src t1.row
     have S1 := Hid.mk' s1
     have T1 := Hid.mk' t1
     have LN := Hid.mk' (tcs_len R.1 us1 t1.len)
     have PP1 := Hid.mk' (tcs_one R.1 us1 t1.one)
     have HA1 := Hid.mk' (hA1 _ (fun k hk => (HT'.out.row.lt k hk).2))
     have O1 := Hid.mk' o1
     have BB2 := Hid.mk' b1
     have SZ := Hid.mk' (Nat.le_trans HB.out.size b1.size)
     clear hx2 t1 hA1 o1 b1 s1 KF
     go_wp2_with (at_builtin; refine wpList_append_at _ rfl (.tmp 101) (.tmp 102) 24 rfl w1.heap.size 107 (.agg #[.int .i64 0, .int .i64 0, .string ⟨#[]⟩, .slice none 0 0, .bool false]) 5 64 Tryz.underlying24 Tryz.infoTok rfl (by decide) _ _ _ rfl OV.out _ R.1.length _ (tcs R.1 us1) rfl LN.out S1.out PP1.out (by unfold maxLen; omega) (by omega) SZ.out ?_; intro v' w3' o3 hg3 at3)
     have T3 := Hid.mk' (TokS.app HT'.out BB2.out HB.out.size HA1.out T1.out.len T1.out.one o3 hg3 at3)
     have B3' := Hid.mk' ((HB.out.trans (BB2.out.mono HB.out.size)).grown hg3 SZ.out (own_lo OV.out))
     have U3 : Hid (w3'.ownsRow w1.heap.size 5 1 u1 R.2.length (bcs R.2)) := Hid.mk' (own_down (O1.out.kept hg3 (by
      cases hu1 : u1.ownBlock with
      | none => exact .inl rfl
      | some q => exact .inr (fun e => by
        have h1 := (O1.out.lt q hu1).1
        have h2 := (HT'.out.row.lt q e.symm).2
        omega))) HB.out.size)
     have L3 : Hid ((TT ++ R.1).length ≤ 161 * (k + 1)) := Hid.mk' (by rw [List.length_append]; omega)
     clear o3 hg3 at3
     go_roundw
     case rel =>
      have ex := HX.out
      refine ⟨k + 1, us ++ us1, by omega, by rw [show Q + (k + 1) = X + 1 by omega]; go_num, by rw [ES.out, ← List.append_assoc]; exact T3.out, by rw [ES.out]; exact U3.out, by rw [ES.out]; exact L3.out, by rw [ES.out]; exact fh.out, by rw [ES.out]; exact fb.out, by rw [show Q + (k + 1) = X + 1 by omega, HME.out, meetN_no hlt fX.out], B3'.out⟩
     case measure => simp [intOf]; omega
    | true =>
     obtain ⟨ho, hoJ⟩ := HO.out
     have HMX : Hid (meetN ff T.length Q = X) := Hid.mk' (by rw [HME.out, meetN_yes hlt fX.out])
     obtain ⟨zn, hzn⟩ : ∃ zn, (tkN m.dt s ((X + j - p.length) / s)).length = zn := ⟨_, rfl⟩
     have znl : zn ≤ m.tk.length := by rw [← hzn]; exact HCT.out _ hoJ
     have HZN := Hid.mk' hzn
     have KTL : Hid (∀ V, Below wS.heap.size wS V → Calls Tryz.prog 92 #[.pointer (some ⟨g, 0, none⟩), .int .i64 ((X : Int) + (j : Int) - (p.length : Int))] V fun e w' => ∃ v us, e = .returned v ∧ TokS V.heap.size w' v (m.tk.drop zn) us ∧ Below V.heap.size V w') := Hid.mk' (fun V hV => by
      rw [EO.out]
      exact l13TailZ g m (some ⟨bd, od, none⟩) u b9 o9 ca cu cc s (X + j - p.length) zn V (P5.out.below hV) htk hst hs hs2 ECL.out ho hd (by rw [ECK.out _ hoJ, ← hzn]; rfl) znl sTK)
     have KL1 : Hid (∀ V, Below w.heap.size w V → Calls Tryz.prog 51 #[.slice u m.hd.length cu] V fun e w' => ∃ v, e = .returned v ∧ w'.ownsRow V.heap.size 5 1 v m.hd.length (bcs m.hd) ∧ Below V.heap.size V w') := Hid.mk' (fun V hV => l1Copy_own u cu m.hd V (HP.out.m1.2.2.1.below hV) sHD)
     have HBW := Hid.mk' (B1.out.trans (HB.out.mono B1.out.size))
     obtain ⟨r0, r1, r2, r3, r4, r5⟩ := cells5 P5.out.r
     have gw : g < w.heap.size := HP.out.r.lt
     have lTL : (m.tk.take 0 ++ TT).length + (m.tk.drop zn).length ≤ 2200000 := by rw [List.length_drop]; omega
     clear hzn
     go_wp2_with (first | go_big_skip | go_big_want | fail)
     refine wp_region_held_drew (S := (fun v => v.cell? ⟨g, 3, none⟩ = some (.slice u m.hd.length cu))) (by kernel_rfl) r3 (fun hHeld => ?_)
     refine tkY 0 ?_
     refine tkY 1 ?_
     refine tkY 2 ?_
     refine tkY 5 ?_
     refine tkY 6 ?_
     refine tkY 7 ?_
     refine tkY 8 ?_
     refine tkY 10 ?_
     refine wpAnyH_ready (rs := [3]) (by kernel_rfl) (by simp) ?_
     refine AllReadyH.cons (o := ⟨_, _, _, _, _, _⟩) rfl (fun K hK => ?_) AllReadyH.nil
     go_simp
     refine (KTL.out _ (Below.refl _ _).drew).mono ?_
     rintro e5 w5 ⟨v5, us5, rfl, t5, hb5⟩
     replace hb5 := undrew hb5
     obtain ⟨a5, c5, rfl, s5⟩ := own_src t5.row
     have OV5 := own_keep HT'.out.row hb5
     have LN5 := tcs_len (m.tk.drop zn) us5 t5.len
     have PP5 := tcs_one (m.tk.drop zn) us5 t5.one
     refine hK.out _ _ ((hb5.cell (p := ⟨g, 3, none⟩) r5).trans r3) (fun hHeld => ?_)
     clear hK K
     try simp only [Act.put, zA, zB, zC]
     refine wpAnyH_ready (rs := [4]) (by kernel_rfl) (by simp) ?_
     refine AllReadyH.cons (o := ⟨_, _, _, _, _, _⟩) rfl (fun K hK => ?_) AllReadyH.nil
     refine step_append_at rfl (.tmp 81) (.tmp 84) 24 rfl w1.heap.size 107 (.agg #[.int .i64 0, .int .i64 0, .string ⟨#[]⟩, .slice none 0 0, .bool false]) 5 64 Tryz.underlying24 Tryz.infoTok rfl (by decide) _ _ _ rfl OV5 _ (m.tk.drop zn).length _ (tcs (m.tk.drop zn) us5) rfl LN5 s5 PP5 (by unfold maxLen; omega) (by omega) (Nat.le_trans HB.out.size hb5.size) ?_
     intro v6 w6 o6 hg6 at6
     have hb6 := (HB.out.trans (hb5.mono HB.out.size)).grown hg6 (Nat.le_trans HB.out.size hb5.size) (own_lo OV5)
     have hbw6 := B1.out.trans (hb6.mono B1.out.size)
     refine hK.out _ _ ((hbw6.cell (p := ⟨g, 3, none⟩) gw).trans (HP_3 HP.out)) (fun hHeld => ?_)
     clear hK K
     try simp only [Act.put, zA, zB, zC]
     refine wpAnyH_ready (rs := [9]) (by kernel_rfl) (by simp) ?_
     refine AllReadyH.cons (o := ⟨_, _, _, _, _, _⟩) rfl (fun K hK => ?_) AllReadyH.nil
     go_simp
     refine (KL1.out _ hbw6).mono ?_
     rintro e7 w7 ⟨v7, rfl, o7, hb7⟩
     refine hK.out _ _ ((hb7.cell (p := ⟨g, 3, none⟩) (Nat.lt_of_lt_of_le gw hbw6.size)).trans ((hbw6.cell (p := ⟨g, 3, none⟩) gw).trans (HP_3 HP.out))) (fun hHeld => ?_)
     clear hK K
     try simp only [Act.put, zA, zB, zC]
     refine tkY 11 ?_
     refine tkY 12 ?_
     refine tkY 13 ?_
     refine wpAnyH_done (by kernel_rfl) ?_ _
     clear hHeld
     go_wp2
     refine bodyPost_ret (v := .tuple #[v6, v7, .int .i64 (X : Int)]) (by simp [results, Tryz.results59, go_sem]) rfl ?_
     have T6 := TokS.app HT'.out hb5 HB.out.size (fun i t u h1 h2 => (t5.all i t u h1 h2).for (fun k hk => (HT'.out.row.lt k hk).2)) t5.len t5.one o6 hg6 at6
     have T7 : TokS w1.heap.size w7 v6 (m.tk.take 0 ++ TT ++ m.tk.drop zn) (us ++ us5) := ⟨T6.len, own_keep T6.row hb7, T6.one, fun i t u h1 h2 => (T6.all i t u h1 h2).below hb7⟩
     unfold GoP
     rw [HT.out, HK.out, HQ.out, HF.out, HCN.out]
     refine ⟨_, _, us ++ us5, _, _, by rw [HMX.out], ⟨T7.len, own_down T7.row B1.out.size, T7.one, fun i t u h1 h2 => (T7.all i t u h1 h2).down B1.out.size⟩, own_down o7 hbw6.size, hbw6.trans (hb7.mono hbw6.size), fun x hx => ?_⟩
     rw [HMX.out] at hx
     subst hx
     refine ⟨fun _ => ⟨?_, rfl⟩, fun h => absurd h (by omega)⟩
     unfold fedT
     rw [EH.out, HDD.out, HZN.out, show X - Q = k by have := HX.out; omega, ETT.out]
  ·have ci : ¬ ((Q + k : Nat) : Int) < (T.length : Int) := by omega
   have e : Q + k = T.length := by omega
   have F := Hid.mk' (And.intro ht (And.intro hn' hbl))
   have ME_ : Hid (meetN ff T.length Q = T.length) := Hid.mk' (by rw [hme, e, meetN_end (Nat.le_refl _)])
   have E := Hid.mk' e
   clear ht hn' l1 l2 hby hbl hme e
   go_wp2
   refine bodyPost_ret (v := .tuple #[u13, u14, .int .i64 (T.length : Int)]) (by simp [results, Tryz.results59, go_sem]) rfl ?_
   unfold GoP
   rw [HT.out, HK.out, HQ.out, HF.out, HCN.out]
   refine ⟨_, _, us, _, _, by rw [ME_.out], ⟨F.out.1.len, own_down F.out.1.row B1.out.size, F.out.1.one, fun i t u h1 h2 => (F.out.1.all i t u h1 h2).down B1.out.size⟩, own_down F.out.2.1 B1.out.size, B1.out.trans (F.out.2.2.mono B1.out.size), fun x hx => ?_⟩
   rw [ME_.out] at hx
   subst hx
   refine ⟨fun h => absurd h (Nat.lt_irrefl _), fun _ => ⟨?_, ?_⟩⟩
   ·unfold fedT
    rw [EH.out, HDD.out, show T.length - Q = k by have := E.out; omega]
   ·rw [← HA.out, E.out]
theorem specEM_dm (m : ME) (a t u c : Option Addr) (ca ct cu cc : Nat) (A N : Int) (e : Option Addr) (d : Nat) (p : List Int) (w : World) (h1 : MAt w a t u c m) (hca : m.dt.length ≤ ca) (hct : m.tk.length ≤ ct) (ha : ∃ b, a = some ⟨b, 0, none⟩) (ht : (t = none ∧ ct = 0 ∧ m.tk = []) ∨ ∃ b, t = some ⟨b, 0, none⟩) (hc : m.cs = [] ∨ ∃ b o, c = some ⟨b, o, none⟩) (he : BAt w e p) (hpb : Byt p) (hub : Byt m.dt) (hcb : ∀ k, k < m.cs.length → Byt (ckK m.cs k).hd) (htb : TBt m.tk) (hhb : Byt m.hd) (hm : (msz m : Int) ≤ 1048576) (hl : p.length ≤ 1048576) (a1 : -9223372036854775808 ≤ A) (a2 : A ≤ 9223372036854775807) (n1 : -9223372036854775808 ≤ N) (n2 : N ≤ 9223372036854775807) :
  Calls Tryz.prog 39 #[.agg #[.slice a m.dt.length ca, .int .i64 m.st, .slice t m.tk.length ct, .slice u m.hd.length cu, .slice c m.cs.length cc], .int .i64 A, .int .i64 N, .slice e p.length d] w fun ev w' => ∃ a t u c ca ct cu cc, ev = .returned (.agg #[.int .i64 (edC m A N p), .int .i64 (eR m A N p), .slice a (eM m A N p).dt.length ca, .int .i64 (eM m A N p).st, .slice t (eM m A N p).tk.length ct, .slice u (eM m A N p).hd.length cu, .slice c (eM m A N p).cs.length cc]) ∧ MAt w' a t u c (eM m A N p) ∧ Below w.heap.size w w' := by
 obtain ⟨B0, R1, R2⟩ := boxesM w (.slice a m.dt.length ca) (.int .i64 m.st) (.slice t m.tk.length ct) (.slice u m.hd.length cu) (.slice c m.cs.length cc)
 have KF := Hid.mk' (l13Edit_any w.heap.size m _ _ u _ ca ct cu cc A N e d p _ ⟨R1, h1.below B0⟩ hub hm hl a1 a2 n1 n2)
 have HO : Hid (P1 w.heap.size m _ _ u _ ca ct cu cc _) := Hid.mk' ⟨R1, h1.below B0⟩
 have HP := Hid.mk' (he.below B0)
 have HB := Hid.mk' B0
 have H2 := Hid.mk' R2
 have BC0 : Hid (∀ b o, c = some ⟨b, o, none⟩ → m.cs = [] ∨ b < w.heap.size) := Hid.mk' (fun b o hb => by
  rcases h1.2.2.2 with hn | ⟨b8, o8, e8, hlt, -⟩
  ·exact .inl hn
  ·rw [hb] at e8; cases e8; exact .inr hlt)
 clear B0 R1 R2 h1 he
 generalize hW : (w.alloc (.cells #[.slice a m.dt.length ca, .int .i64 m.st, .slice t m.tk.length ct, .slice u m.hd.length cu, .slice c m.cs.length cc] 27)).alloc (.cells #[.int .i64 0, .int .i64 0, .slice none 0 0, .int .i64 0, .slice none 0 0, .slice none 0 0, .slice none 0 0] 50) = W at *
 go_enter Tryz.func39, Tryz.ntmps39
 go_wp2_with fail
 clear hW
 refine KF.out.mono ?_
 rintro e1 w1 ⟨rfl, hb1⟩
 have HZ := Hid.mk' (H2.out.below hb1)
 have HW1 : Hid (w.heap.size + 1 < w1.heap.size) := Hid.mk' HZ.out.lt
 have HM := Hid.mk' (HO.out.below hb1)
 have HP1 := Hid.mk' (HP.out.below hb1)
 have B1 := Hid.mk' (HB.out.trans (hb1.mono HB.out.size))
 clear hb1 KF H2 HO HP
 by_cases hf : edC m A N p = 0
 rotate_left
 ·have EV : Hid (eR m A N p = 0) := Hid.mk' (by unfold eR; rw [if_neg hf])
  have EM : Hid (eM m A N p = m0) := Hid.mk' (by unfold eM; rw [if_neg hf])
  obtain ⟨F, hF⟩ : ∃ F, edC m A N p = F := ⟨_, rfl⟩
  rw [hF] at hf ⊢
  have EC := Hid.mk' hF
  clear hF
  have hne : (F != 0) = true := by simp [hf]
  have HS := Hid.mk' (HZ.out.put #[.int .i64 F, .int .i64 0, .slice none 0 0, .int .i64 0, .slice none 0 0, .slice none 0 0, .slice none 0 0])
  have BS := Hid.mk' (RowA.putBelow B1.out (Nat.le_succ w.heap.size) #[.int .i64 F, .int .i64 0, .slice none 0 0, .int .i64 0, .slice none 0 0, .slice none 0 0, .slice none 0 0])
  go_wp2_with (first | ((with_reducible refine wpList_store_row ?_ 50 (.tmp 8) (.tmp 21) ?_ (w.heap.size + 1) #[.int .i64 F, .int .i64 0, .slice none 0 0, .int .i64 0, .slice none 0 0, .slice none 0 0, .slice none 0 0] ?_ ?_ 50 #[.int .i64 0, .int .i64 0, .slice none 0 0, .int .i64 0, .slice none 0 0, .slice none 0 0, .slice none 0 0] ?_ ?_ ?_ ?_ ?_); rfl; rfl; rfl; rfl; exact HZ.out; kernel_rfl; rfl; kernel_rfl) | fail)
  refine bodyPost_ret (v := .agg #[.int .i64 F, .int .i64 0, .slice none 0 0, .int .i64 0, .slice none 0 0, .slice none 0 0, .slice none 0 0]) ?_ ?_ ?_
  ·exact results_cell1 Tryz.results39 _ _ _ ⟨w.heap.size + 1, 0, none⟩ _ rfl (HS.out.load _ Tryz.underlying50 rfl (by kernel_rfl))
  ·rfl
  rw [EM.out, EV.out, EC.out]
  exact ⟨none, none, none, none, 0, 0, 0, 0, rfl, ⟨.inl rfl, .inl rfl, .inl rfl, .inl rfl⟩, BS.out⟩
 obtain ⟨hf1, hf2⟩ := edC_ok hf
 obtain ⟨g1, g2, g3, g4⟩ := spC_zero hf2
 obtain ⟨i, rfl⟩ : ∃ i : Nat, A = (i : Int) := ⟨A.toNat, by omega⟩
 obtain ⟨j, rfl⟩ : ∃ j : Nat, N = (j : Int) := ⟨N.toNat, by omega⟩
 obtain ⟨h240, s, hst, hs, hs2, hsame⟩ := memF_ok hf1
 obtain ⟨ecl, eck⟩ := right_checks hub hcb hsame
 obtain ⟨etk, ehd⟩ := right_toks hub htb hhb hsame
 have elen := right_len hsame
 have hat : i + j ≤ m.dt.length := by omega
 have hL : (spl m.dt i j p).length ≤ 240 := by rw [spl_len hat]; omega
 obtain ⟨bd, rfl⟩ := ha
 obtain ⟨bc, oc, rfl⟩ : ∃ b o, c = some ⟨b, o, none⟩ := by
  rcases hc with h | h
  ·exact absurd (congrArg List.length h) (by rw [ecl]; simp)
  ·exact h
 have BC := Hid.mk' (BC0.out bc oc rfl)
 have KG : Hid (Calls Tryz.prog 59 #[.pointer (some ⟨w.heap.size, 0, none⟩), .int .i64 (i : Int), .int .i64 (j : Int), .slice e p.length d] w1 fun ev w' => GoP m s i j p w1 ev w') := Hid.mk' (by
  rcases ht with ⟨rfl, rfl, h0⟩ | ⟨bt, rfl⟩
  ·exact l13GoZ w.heap.size m u bd 0 bc oc ca cu cc s i j e d p w1 HM.out h0 hca hub hpb HP1.out hst hs hs2 h240 ecl eck (fun k _ => by rw [elen]; exact tkN_le _ _ _) hat hL (by omega) hm
  ·exact l13Go_any w.heap.size m u bd 0 bt 0 bc oc ca ct cu cc s i j e d p w1 HM.out hca hct hub hpb HP1.out hst hs hs2 h240 ecl eck (fun k _ => by rw [elen]; exact tkN_le _ _ _) hat hL (by omega) hm)
 clear ht BC0
 have EM : Hid (eM m (i : Int) (j : Int) p = memX (spl m.dt i j p) s) := Hid.mk' (by
  unfold eM
  rw [if_pos hf, hst]
  rfl)
 have EV : Hid (eR m (i : Int) (j : Int) p = (meetN (mtF m.dt (spl m.dt i j p) s i j p.length) (spl m.dt i j p).length (i / s * s) : Int) - ((i / s * s : Nat) : Int)) := Hid.mk' (by
  unfold eR mtV
  rw [if_pos hf, hst]
  simp only [Int.toNat_natCast]
  rw [if_pos hf])
 have EC := Hid.mk' hf
 rw [hf]
 obtain ⟨x0, x1, x2, x3, x4, x5⟩ := cells5 HM.out.r
 have EK := Hid.mk' eck
 have ECL := Hid.mk' ecl
 have XLE : meetN (mtF m.dt (spl m.dt i j p) s i j p.length) (spl m.dt i j p).length (i / s * s) ≤ (spl m.dt i j p).length := meetN_le _ _ rfl
 clear ecl eck hsame hf hf1 hf2 elen
 have ETK := Hid.mk' etk
 have EHD := Hid.mk' ehd
 have HUB := Hid.mk' hub
 have HPB := Hid.mk' hpb
 have HST := Hid.mk' hst
 clear etk ehd hub hpb hst hcb htb hhb
 go_wp2_with fail
 clear x0 x1 x2 x3 x4 x5
 refine KG.out.mono ?_
 rintro e2 w2 ⟨v, u2, us, RT, RH, rfl, tk, ow, hb2, hRR⟩
 obtain ⟨rt, rh⟩ := edit_toks HUB.out HPB.out hs hat ETK.out EHD.out rfl (hRR _ rfl).1 (hRR _ rfl).2
 subst rt
 subst rh
 have HZ2 := Hid.mk' (HZ.out.below hb2)
 have HM2 := Hid.mk' (HM.out.below hb2)
 have HP2 := Hid.mk' (HP1.out.below hb2)
 have B2 := Hid.mk' (B1.out.trans (hb2.mono B1.out.size))
 have TKS := Hid.mk' tk
 have OWN := Hid.mk' ow
 clear hRR tk ow hb2 HZ HM HP1 KG
 obtain ⟨va, vc, rfl, -⟩ := own_src TKS.out.row
 obtain ⟨ua, uc, rfl, -⟩ := own_bat OWN.out
 have TB := Hid.mk' (byt_spl HUB.out HPB.out i j)
 generalize meetN (mtF m.dt (spl m.dt i j p) s i j p.length) (spl m.dt i j p).length (i / s * s) = X at *
 have LSP := Hid.mk' (spl_len (p := p) hat)
 have KSP : Hid (∀ z : World, Below w2.heap.size w2 z → Calls Tryz.prog 77 #[.slice (some ⟨bd, 0, none⟩) m.dt.length ca, .int .i64 (i : Int), .int .i64 (j : Int), .slice e p.length d] z fun e w' => ∃ v, e = .returned v ∧ w'.ownsRow z.heap.size 5 1 v (spl m.dt i j p).length (bcs (spl m.dt i j p)) ∧ Below z.heap.size z w') := Hid.mk' (fun z hz => l13SpliceB_any bd 0 ca m.dt i j e d p z (HM2.out.m1.1.below hz) hca (HP2.out.below hz) (by omega) hl hat)
 have KLN : Hid (∀ (z : World) (a : Option Addr) (c : Nat), BAt z a (spl m.dt i j p) → Calls Tryz.prog 72 #[.slice a (spl m.dt i j p).length c, .int .i64 (s : Int)] z fun e w' => LnP (spl m.dt i j p) s z e w') := Hid.mk' (fun z a c hz => l12New_any _ a c s z hz TB.out hL hs hs2)
 generalize hTT : spl m.dt i j p = T at *
 have HTT := Hid.mk' hTT
 clear hTT
 have HCE : Hid (∀ z, Below w2.heap.size w2 z → (fun z => z.cell? ⟨w.heap.size, 0, none⟩ = some (.slice (some ⟨bd, 0, none⟩) m.dt.length ca) ∧ z.cell? ⟨w.heap.size, 1, none⟩ = some (.int .i64 (s : Int))) z) := Hid.mk' (fun z hz => by
  have M := HM2.out.below hz
  obtain ⟨x0, x1, x2, x3, x4, x5⟩ := cells5 M.r
  rw [HST.out] at x1
  exact ⟨x0, x1⟩)
 rw [HST.out]
 go_wp2_with fail
 refine wp_region_held_drew (S := (fun z => z.cell? ⟨w.heap.size, 0, none⟩ = some (.slice (some ⟨bd, 0, none⟩) m.dt.length ca) ∧ z.cell? ⟨w.heap.size, 1, none⟩ = some (.int .i64 (s : Int)))) (by kernel_rfl) (HCE.out _ (Below.refl _ _).drew) (fun hHeld => ?_)
 refine tkY 0 ?_
 refine tkY 1 ?_
 refine tkY 2 ?_
 refine tkY 3 ?_
 refine tkY 4 ?_
 refine tkY 6 ?_
 refine tkY 7 ?_
 refine wpAnyH_ready (rs := [5, 9]) (by kernel_rfl) (by simp) ?_
 refine AllReadyH.cons (o := ⟨_, _, _, _, _, _⟩) rfl (fun K9 hK => ?_) (AllReadyH.cons (o := ⟨_, _, _, _, _, _⟩) rfl (fun K9 hK => ?_) AllReadyH.nil)
 ·go_simp
  refine (KSP.out _ (Below.refl _ _).drew).mono ?_
  rintro e3 w3 ⟨sv, rfl, osv, hb3⟩
  replace hb3 := undrew hb3
  obtain ⟨sa, sc, rfl, bsv⟩ := own_bat osv
  have BS := Hid.mk' bsv
  clear bsv osv
  have BB := Hid.mk' hb3
  have B53 := Hid.mk' hb3
  clear hb3
  refine hK.out _ _ (HCE.out _ BB.out) (fun hHeld => ?_)
  clear hK K9
  try simp only [Act.put, zA, zB, zC]
  refine wpAnyH_ready (rs := [8, 9]) (by kernel_rfl) (by simp) ?_
  refine AllReadyH.cons (o := ⟨_, _, _, _, _, _⟩) rfl (fun K9 hK => ?_) (AllReadyH.cons (o := ⟨_, _, _, _, _, _⟩) rfl (fun K9 hK => ?_) AllReadyH.nil)
  ·go_simp
   refine (KLN.out w3 _ _ BS.out).mono ?_
   rintro e4 w4 ⟨a9, t9, u9, c9, ca9, ct9, cu9, cc9, rfl, hM, hb4⟩
   have HMM := Hid.mk' hM
   have B84 := Hid.mk' hb4
   have BB := Hid.mk' (BB.out.trans (hb4.mono BB.out.size))
   clear hM hb4
   refine hK.out _ _ (HCE.out _ BB.out) (fun hHeld => ?_)
   clear hK K9
   try simp only [Act.put, zA, zB, zC]
   refine wpAnyH_ready (rs := [9]) (by kernel_rfl) (by simp) ?_
   refine AllReadyH.cons (o := ⟨_, _, _, _, _, _⟩) rfl (fun K9 hK => ?_) AllReadyH.nil
   go_simp
   have N9 := below_new w4 (.cells #[.slice none 0 0, .int .i64 0, .slice none 0 0, .slice none 0 0, .slice none 0 0] 27)
   refine hK.out _ _ (HCE.out _ (BB.out.trans (N9.mono BB.out.size))) (fun hHeld => ?_)
   clear hK K9
   try simp only [Act.put, zA, zB, zC]
   refine wpAnyH_ready (rs := [10]) (by kernel_rfl) (by simp) ?_
   refine AllReadyH.cons (o := ⟨_, _, _, _, _, _⟩) rfl (fun K9 hK => ?_) AllReadyH.nil
   have NC := below_new w4 (.cells #[.slice a9 T.length ca9, .int .i64 (s : Int), .slice t9 (allX [] [] T).1.length ct9, .slice u9 (allX [] [] T).2.length cu9, .slice c9 (T.length / s + 1) cc9] 27)
   refine step_store_row rfl 27 (.tmp 13) (.tmp 38) rfl w4.heap.size #[.slice a9 T.length ca9, .int .i64 (s : Int), .slice t9 (allX [] [] T).1.length ct9, .slice u9 (allX [] [] T).2.length cu9, .slice c9 (T.length / s + 1) cc9] rfl rfl 27 _ (Deep.blk_alloc_new w4 _) (by kernel_rfl) rfl (by kernel_rfl) ?_
   rw [alloc_setRow]
   have BV := Hid.mk' (BB.out.trans (NC.mono BB.out.size))
   refine hK.out _ _ (HCE.out _ BV.out) (fun hHeld => ?_)
   clear hK K9
   try simp only [Act.put, zA, zB, zC]
   refine wpAnyH_done (by kernel_rfl) ?_ _
   have HRV := Hid.mk' (RowA.new w4 27 #[.slice a9 T.length ca9, .int .i64 (s : Int), .slice t9 (allX [] [] T).1.length ct9, .slice u9 (allX [] [] T).2.length cu9, .slice c9 (T.length / s + 1) cc9])
   have HgV : w2.heap.size ≤ w4.heap.size := BB.out.size
   have HMV : Hid (∀ z : World, w4.heap.size + 1 ≤ z.heap.size → (∀ q, w2.heap.size ≤ q → q < w4.heap.size + 1 → q ≠ w4.heap.size → z.heap[q]? = (w4.alloc (.cells #[.slice a9 T.length ca9, .int .i64 (s : Int), .slice t9 (allX [] [] T).1.length ct9, .slice u9 (allX [] [] T).2.length cu9, .slice c9 (T.length / s + 1) cc9] 27)).heap[q]?) → MAt z a9 t9 u9 c9 (memX T s)) := Hid.mk' (fun z h1 h2 => HMM.out z (by omega) (fun q q1 q2 => (h2 q (by have := B53.out.size; omega) (by omega) (by omega)).trans (NC.block q q2)))
   have HVS : (w4.alloc (.cells #[.slice a9 T.length ca9, .int .i64 (s : Int), .slice t9 (allX [] [] T).1.length ct9, .slice u9 (allX [] [] T).2.length cu9, .slice c9 (T.length / s + 1) cc9] 27)).heap.size = w4.heap.size + 1 := by simp
   rw [← HVS] at HMV
   clear HVS N9 NC HMM B53 B84 BB BS
   generalize hV : w4.alloc (.cells #[.slice a9 T.length ca9, .int .i64 (s : Int), .slice t9 (allX [] [] T).1.length ct9, .slice u9 (allX [] [] T).2.length cu9, .slice c9 (T.length / s + 1) cc9] 27) = V at *
   clear hV
   clear hHeld
   have z2 := HRV.out.cell 2 _ rfl
   have z3 := HRV.out.cell 3 _ rfl
   have f2 := HRV.out.frozen 2
   have f3 := HRV.out.frozen 3
   have HR2 : Hid (RowA ((V.setCell ⟨w4.heap.size, 2, none⟩ (.slice va (allX [] [] T).1.length vc)).setCell ⟨w4.heap.size, 3, none⟩ (.slice ua (allX [] [] T).2.length uc)) w4.heap.size 27 #[.slice a9 T.length ca9, .int .i64 (s : Int), .slice va (allX [] [] T).1.length vc, .slice ua (allX [] [] T).2.length uc, .slice c9 (T.length / s + 1) cc9]) := Hid.mk' ((HRV.out.set 2 (.slice va (allX [] [] T).1.length vc)).set 3 (.slice ua (allX [] [] T).2.length uc))
   have BV2 := Hid.mk' (RowA.setBelow (RowA.setBelow BV.out HgV 2 (.slice va (allX [] [] T).1.length vc)) HgV 3 (.slice ua (allX [] [] T).2.length uc))
   have KV2 := Hid.mk' ((((KeptIn.refl w4.heap.size (w4.heap.size + 1) V).setCell (p := ⟨w4.heap.size, 2, none⟩) (Nat.le_refl _) (Nat.lt_succ_self _) (.slice va (allX [] [] T).1.length vc))).setCell (p := ⟨w4.heap.size, 3, none⟩) (Nat.le_refl _) (Nat.lt_succ_self _) (.slice ua (allX [] [] T).2.length uc))
   go_wp2_with fail
   generalize hV2 : (V.setCell ⟨w4.heap.size, 2, none⟩ (.slice va (allX [] [] T).1.length vc)).setCell ⟨w4.heap.size, 3, none⟩ (.slice ua (allX [] [] T).2.length uc) = V2 at *
   clear hV2 z2 z3 f2 f3
   have HM3 := Hid.mk' (HM2.out.below BV2.out)
   have HZ3 := Hid.mk' (HZ2.out.below BV2.out)
   obtain ⟨x0, x1, x2, x3, x4, x5⟩ := cells5 HM3.out.r
   rw [HST.out] at x1
   have hKJ : i / s < m.dt.length / s + 1 := Nat.lt_succ_of_le (Nat.div_le_div_right (by omega))
   have ecl2 : m.cs.length = m.dt.length / s + 1 := ECL.out
   rcases HM3.out.m1.2.2.2 with hnil | ⟨b8, o8, e8, hbs9, hc9⟩
   ·rw [hnil] at ecl2; simp at ecl2
   cases e8
   obtain ⟨p1, p2_, pq, pc, p3, p4⟩ := hc9 (i / s) (by rw [ecl2]; exact hKJ)
   rw [EK.out (i / s) hKJ] at p1
   have c0 : V2.cell? ⟨bc, oc + i / s * 3, none⟩ = some (.int .i64 ((i / s * s : Nat) : Int)) := p1
   have hq0 : (i : Int) / (s : Int) = ((i / s : Nat) : Int) := by simp
   have hs0 : ¬ s = 0 := by omega
   have ck : ((i / s : Nat) : Int) < (m.cs.length : Int) := by rw [ecl2]; exact_mod_cast hKJ
   have hKi : i / s ≤ i := Nat.div_le_self _ _
   have hqs : i / s * s ≤ i := Nat.div_mul_le_self _ _
   clear p1 p2_ p3 p4 ecl2 hc9 hbs9 x2 x3
   have HXX := Hid.mk' XLE
   generalize hKK : i / s = K at *
   generalize hQQ : K * s = Q at *
   have hwK : IntKind.i64.wrap (K : Int) = (K : Int) := by rw [IntKind.wrap_i64]; omega
   have hwX : IntKind.i64.wrap ((X : Int) - (Q : Int)) = (X : Int) - (Q : Int) := by rw [IntKind.wrap_i64]; omega
   refine wp_region_held_drew (S := (fun z => z.cell? ⟨w.heap.size, 1, none⟩ = some (.int .i64 (s : Int)) ∧ z.cell? ⟨w.heap.size, 4, none⟩ = some (.slice (some ⟨bc, oc, none⟩) m.cs.length cc) ∧ z.cell? ⟨bc, oc + K * 3, none⟩ = some (.int .i64 (Q : Int)) ∧ Hid (RowA z w4.heap.size 27 #[.slice a9 T.length ca9, .int .i64 (s : Int), .slice va (allX [] [] T).1.length vc, .slice ua (allX [] [] T).2.length uc, .slice c9 (T.length / s + 1) cc9]))) (by kernel_rfl) ⟨x1, x4, c0, HR2⟩ (fun hHeld => ?_)
   refine tkY 0 ?_
   refine tkY 1 ?_
   refine tkY 2 ?_
   refine tkY 3 ?_
   refine tkY 4 ?_
   refine tkY 5 ?_
   refine tkY 6 ?_
   refine tkY 7 ?_
   refine tkY 8 ?_
   refine tkY 9 ?_
   refine tkY 10 ?_
   refine wpAnyH_take (i := 11) (oi := ⟨_, _, _, _, _, _⟩) (v := ?_) rfl (by kernel_rfl) (by kernel_rfl) (by kernel_rfl) (fun _ _ _ h => h) (Or.inl ⟨by rfl, ?_⟩) (by assumption) ?_
   rotate_left
   ·(intro w' hSw; refine RowA.exec hSw.2.2.2.out (.tmp 13) ?_ ?_ _ Tryz.underlying27 ?_ ?_; rfl; rfl; rfl; kernel_rfl)
   try simp only [Act.put, zA, zB, zC]
   refine tkY 12 ?_
   refine wpAnyH_ready (rs := [13]) (by kernel_rfl) (by simp) ?_
   refine AllReadyH.cons (o := ⟨_, _, _, _, _, _⟩) rfl (fun K9 hK => ?_) AllReadyH.nil
   refine step_store_row rfl 50 (.tmp 8) (.tmp 55) rfl (w.heap.size + 1) #[.int .i64 0, .int .i64 ((X : Int) - (Q : Int)), .slice a9 T.length ca9, .int .i64 (s : Int), .slice va (allX [] [] T).1.length vc, .slice ua (allX [] [] T).2.length uc, .slice c9 (T.length / s + 1) cc9] rfl rfl 50 #[.int .i64 0, .int .i64 0, .slice none 0 0, .int .i64 0, .slice none 0 0, .slice none 0 0, .slice none 0 0] HZ3.out.drew (by kernel_rfl) rfl (by kernel_rfl) ?_
   have hZ1 : w.heap.size + 1 < w2.heap.size := HZ2.out.lt
   have hbc : bc < w.heap.size := by
    rcases BC.out with h | h
    ·exact absurd (congrArg List.length h) (by rw [ECL.out]; simp)
    ·exact h
   have S3 := Hid.mk' (HZ3.out.drew.put #[.int .i64 0, .int .i64 ((X : Int) - (Q : Int)), .slice a9 T.length ca9, .int .i64 (s : Int), .slice va (allX [] [] T).1.length vc, .slice ua (allX [] [] T).2.length uc, .slice c9 (T.length / s + 1) cc9])
   refine hK.out _ _ ⟨(cell_setRow _ _ _ (by simp)).trans x1, (cell_setRow _ _ _ (by simp)).trans x4, (cell_setRow _ _ _ (by simp; omega)).trans c0, Hid.mk' (HR2.out.drew.otherRow (by omega) _)⟩ (fun hHeld => ?_)
   clear hK K9
   try simp only [Act.put, zA, zB, zC]
   refine wpAnyH_done (by kernel_rfl) ?_ _
   clear hHeld x0 x1 x4 x5 c0
   have KR3 := RowA.keptRow V2.drew (w.heap.size + 1) #[.int .i64 0, .int .i64 ((X : Int) - (Q : Int)), .slice a9 T.length ca9, .int .i64 (s : Int), .slice va (allX [] [] T).1.length vc, .slice ua (allX [] [] T).2.length uc, .slice c9 (T.length / s + 1) cc9]
   have sz3 : (V2.drew.setRow (w.heap.size + 1) #[.int .i64 0, .int .i64 ((X : Int) - (Q : Int)), .slice a9 T.length ca9, .int .i64 (s : Int), .slice va (allX [] [] T).1.length vc, .slice ua (allX [] [] T).2.length uc, .slice c9 (T.length / s + 1) cc9]).heap.size = V2.heap.size := setRow_size _ _ _
   have B3 : Hid (Below w.heap.size w (V2.drew.setRow (w.heap.size + 1) #[.int .i64 0, .int .i64 ((X : Int) - (Q : Int)), .slice a9 T.length ca9, .int .i64 (s : Int), .slice va (allX [] [] T).1.length vc, .slice ua (allX [] [] T).2.length uc, .slice c9 (T.length / s + 1) cc9])) := Hid.mk' (RowA.putBelow ((B2.out.trans (BV2.out.mono B2.out.size)).trans ((Below.refl _ _).drew)) (Nat.le_succ _) _)
   have b3 : ∀ q, q ≠ w.heap.size + 1 → (V2.drew.setRow (w.heap.size + 1) #[.int .i64 0, .int .i64 ((X : Int) - (Q : Int)), .slice a9 T.length ca9, .int .i64 (s : Int), .slice va (allX [] [] T).1.length vc, .slice ua (allX [] [] T).2.length uc, .slice c9 (T.length / s + 1) cc9]).heap[q]? = V2.heap[q]? := fun q hq => setRow_other _ _ _ _ hq
   have MV := HMV.out (V2.drew.setRow (w.heap.size + 1) #[.int .i64 0, .int .i64 ((X : Int) - (Q : Int)), .slice a9 T.length ca9, .int .i64 (s : Int), .slice va (allX [] [] T).1.length vc, .slice ua (allX [] [] T).2.length uc, .slice c9 (T.length / s + 1) cc9]) (by rw [sz3]; exact KV2.out.size) (fun q q1 q2 q3 => (b3 q (by omega)).trans (KV2.out.block q q2 (by omega)))
   have w1w := HW1.out
   have TK3 := (TKS.out.keep BV2.out.size (fun k h1 h2 => BV2.out.block k h2)).keep (w' := V2.drew.setRow (w.heap.size + 1) #[.int .i64 0, .int .i64 ((X : Int) - (Q : Int)), .slice a9 T.length ca9, .int .i64 (s : Int), .slice va (allX [] [] T).1.length vc, .slice ua (allX [] [] T).2.length uc, .slice c9 (T.length / s + 1) cc9]) (by rw [sz3]; exact Nat.le_refl _) (fun k h1 h2 => b3 k (by omega))
   have OW3 : (V2.drew.setRow (w.heap.size + 1) #[.int .i64 0, .int .i64 ((X : Int) - (Q : Int)), .slice a9 T.length ca9, .int .i64 (s : Int), .slice va (allX [] [] T).1.length vc, .slice ua (allX [] [] T).2.length uc, .slice c9 (T.length / s + 1) cc9]).ownsRow w1.heap.size 5 1 (.slice ua (allX [] [] T).2.length uc) (allX [] [] T).2.length (bcs (allX [] [] T).2) := own_of (own_keep OWN.out BV2.out) (Nat.le_refl _) (fun q eq hq => b3 q (by omega))
   obtain ⟨_, _, et, hts⟩ := TK3.tsAt
   obtain ⟨rfl, -, rfl⟩ := Value.slice.inj et
   obtain ⟨_, _, eu, hus⟩ := own_bat OW3
   obtain ⟨rfl, -, rfl⟩ := Value.slice.inj eu
   have MF : Hid (MAt (V2.drew.setRow (w.heap.size + 1) #[.int .i64 0, .int .i64 ((X : Int) - (Q : Int)), .slice a9 T.length ca9, .int .i64 (s : Int), .slice va (allX [] [] T).1.length vc, .slice ua (allX [] [] T).2.length uc, .slice c9 (T.length / s + 1) cc9]) a9 va ua c9 (memX T s)) := Hid.mk' ⟨MV.1, hts, hus, MV.2.2.2⟩
   clear MV TK3 OW3 hts hus et eu KR3 b3 sz3
   generalize hV3 : V2.drew.setRow (w.heap.size + 1) #[.int .i64 0, .int .i64 ((X : Int) - (Q : Int)), .slice a9 T.length ca9, .int .i64 (s : Int), .slice va (allX [] [] T).1.length vc, .slice ua (allX [] [] T).2.length uc, .slice c9 (T.length / s + 1) cc9] = V3 at *
   clear hV3
   go_wp2
   refine bodyPost_ret (v := .agg #[.int .i64 0, .int .i64 ((X : Int) - (Q : Int)), .slice a9 T.length ca9, .int .i64 (s : Int), .slice va (allX [] [] T).1.length vc, .slice ua (allX [] [] T).2.length uc, .slice c9 (T.length / s + 1) cc9]) ?_ ?_ ?_
   ·exact results_cell1 Tryz.results39 _ _ _ ⟨w.heap.size + 1, 0, none⟩ _ rfl (S3.out.load _ Tryz.underlying50 rfl (by kernel_rfl))
   ·rfl
   rw [EM.out, EV.out, EC.out]
   exact ⟨a9, va, ua, c9, ca9, vc, uc, cc9, by simp [memX, cksN_len], MF.out, B3.out⟩
  ·have hl3 := BB.out.size
   go_simp
   have RG := RowA.new w3 27 #[.slice none 0 0, .int .i64 0, .slice none 0 0, .slice none 0 0, .slice none 0 0]
   have N9 := below_new w3 (.cells #[.slice none 0 0, .int .i64 0, .slice none 0 0, .slice none 0 0, .slice none 0 0] 27)
   have BS := Hid.mk' (BS.out.below N9)
   have BB := Hid.mk' (BB.out.trans (N9.mono BB.out.size))
   refine hK.out _ _ (HCE.out _ BB.out) (fun hHeld => ?_)
   clear hK K9
   try simp only [Act.put, zA, zB, zC]
   have lg : w3.heap.size < (w3.alloc (.cells #[.slice none 0 0, .int .i64 0, .slice none 0 0, .slice none 0 0, .slice none 0 0] 27)).heap.size := by simp
   clear N9
   generalize hgw : w3.alloc (.cells #[.slice none 0 0, .int .i64 0, .slice none 0 0, .slice none 0 0, .slice none 0 0] 27) = w3a at *
   clear hgw
   have RG := Hid.mk' RG
   refine wpAnyH_ready (rs := [8]) (by kernel_rfl) (by simp) ?_
   refine AllReadyH.cons (o := ⟨_, _, _, _, _, _⟩) rfl (fun K9 hK => ?_) AllReadyH.nil
   go_simp
   refine (KLN.out w3a _ _ BS.out).mono ?_
   rintro e4 w4 ⟨a9, t9, u9, c9, ca9, ct9, cu9, cc9, rfl, hM, hb4⟩
   have HMM := Hid.mk' hM
   have B84 := Hid.mk' hb4
   have BB := Hid.mk' (BB.out.trans (hb4.mono BB.out.size))
   clear hM hb4
   refine hK.out _ _ (HCE.out _ BB.out) (fun hHeld => ?_)
   clear hK K9
   try simp only [Act.put, zA, zB, zC]
   have RG := Hid.mk' (RG.out.below B84.out)
   have BL := Hid.mk' (show Below w2.heap.size w2 w3 from B53.out)
   clear B53 BS
   refine wpAnyH_ready (rs := [10]) (by kernel_rfl) (by simp) ?_
   refine AllReadyH.cons (o := ⟨_, _, _, _, _, _⟩) rfl (fun K9 hK => ?_) AllReadyH.nil
   refine step_store_row rfl 27 (.tmp 13) (.tmp 38) rfl w3.heap.size #[.slice a9 T.length ca9, .int .i64 (s : Int), .slice t9 (allX [] [] T).1.length ct9, .slice u9 (allX [] [] T).2.length cu9, .slice c9 (T.length / s + 1) cc9] rfl rfl 27 _ RG.out (by kernel_rfl) rfl (by kernel_rfl) ?_
   have BV := Hid.mk' (RowA.putBelow BB.out hl3 #[.slice a9 T.length ca9, .int .i64 (s : Int), .slice t9 (allX [] [] T).1.length ct9, .slice u9 (allX [] [] T).2.length cu9, .slice c9 (T.length / s + 1) cc9])
   refine hK.out _ _ (HCE.out _ BV.out) (fun hHeld => ?_)
   clear hK K9
   try simp only [Act.put, zA, zB, zC]
   refine wpAnyH_done (by kernel_rfl) ?_ _
   have HRV := Hid.mk' (RG.out.put #[.slice a9 T.length ca9, .int .i64 (s : Int), .slice t9 (allX [] [] T).1.length ct9, .slice u9 (allX [] [] T).2.length cu9, .slice c9 (T.length / s + 1) cc9])
   have HgV : w2.heap.size ≤ w3.heap.size := hl3
   have HMV : Hid (∀ z : World, (w4.setRow w3.heap.size #[.slice a9 T.length ca9, .int .i64 (s : Int), .slice t9 (allX [] [] T).1.length ct9, .slice u9 (allX [] [] T).2.length cu9, .slice c9 (T.length / s + 1) cc9]).heap.size ≤ z.heap.size → (∀ q, w2.heap.size ≤ q → q < (w4.setRow w3.heap.size #[.slice a9 T.length ca9, .int .i64 (s : Int), .slice t9 (allX [] [] T).1.length ct9, .slice u9 (allX [] [] T).2.length cu9, .slice c9 (T.length / s + 1) cc9]).heap.size → q ≠ w3.heap.size → z.heap[q]? = (w4.setRow w3.heap.size #[.slice a9 T.length ca9, .int .i64 (s : Int), .slice t9 (allX [] [] T).1.length ct9, .slice u9 (allX [] [] T).2.length cu9, .slice c9 (T.length / s + 1) cc9]).heap[q]?) → MAt z a9 t9 u9 c9 (memX T s)) := Hid.mk' (fun z h1 h2 => by
    rw [setRow_size] at h1 h2
    exact HMM.out z h1 (fun q q1 q2 => (h2 q (by have := BL.out.size; omega) q2 (by omega)).trans (setRow_other _ _ _ _ (by omega))))
   clear HMM B84 BB
   generalize hV : w4.setRow w3.heap.size #[.slice a9 T.length ca9, .int .i64 (s : Int), .slice t9 (allX [] [] T).1.length ct9, .slice u9 (allX [] [] T).2.length cu9, .slice c9 (T.length / s + 1) cc9] = V at *
   clear hV
   clear hHeld
   have z2 := HRV.out.cell 2 _ rfl
   have z3 := HRV.out.cell 3 _ rfl
   have f2 := HRV.out.frozen 2
   have f3 := HRV.out.frozen 3
   have HR2 : Hid (RowA ((V.setCell ⟨w3.heap.size, 2, none⟩ (.slice va (allX [] [] T).1.length vc)).setCell ⟨w3.heap.size, 3, none⟩ (.slice ua (allX [] [] T).2.length uc)) w3.heap.size 27 #[.slice a9 T.length ca9, .int .i64 (s : Int), .slice va (allX [] [] T).1.length vc, .slice ua (allX [] [] T).2.length uc, .slice c9 (T.length / s + 1) cc9]) := Hid.mk' ((HRV.out.set 2 (.slice va (allX [] [] T).1.length vc)).set 3 (.slice ua (allX [] [] T).2.length uc))
   have BV2 := Hid.mk' (RowA.setBelow (RowA.setBelow BV.out HgV 2 (.slice va (allX [] [] T).1.length vc)) HgV 3 (.slice ua (allX [] [] T).2.length uc))
   have KV2 := Hid.mk' ((((KeptIn.refl w3.heap.size (w3.heap.size + 1) V).setCell (p := ⟨w3.heap.size, 2, none⟩) (Nat.le_refl _) (Nat.lt_succ_self _) (.slice va (allX [] [] T).1.length vc))).setCell (p := ⟨w3.heap.size, 3, none⟩) (Nat.le_refl _) (Nat.lt_succ_self _) (.slice ua (allX [] [] T).2.length uc))
   go_wp2_with fail
   generalize hV2 : (V.setCell ⟨w3.heap.size, 2, none⟩ (.slice va (allX [] [] T).1.length vc)).setCell ⟨w3.heap.size, 3, none⟩ (.slice ua (allX [] [] T).2.length uc) = V2 at *
   clear hV2 z2 z3 f2 f3
   have HM3 := Hid.mk' (HM2.out.below BV2.out)
   have HZ3 := Hid.mk' (HZ2.out.below BV2.out)
   obtain ⟨x0, x1, x2, x3, x4, x5⟩ := cells5 HM3.out.r
   rw [HST.out] at x1
   have hKJ : i / s < m.dt.length / s + 1 := Nat.lt_succ_of_le (Nat.div_le_div_right (by omega))
   have ecl2 : m.cs.length = m.dt.length / s + 1 := ECL.out
   rcases HM3.out.m1.2.2.2 with hnil | ⟨b8, o8, e8, hbs9, hc9⟩
   ·rw [hnil] at ecl2; simp at ecl2
   cases e8
   obtain ⟨p1, p2_, pq, pc, p3, p4⟩ := hc9 (i / s) (by rw [ecl2]; exact hKJ)
   rw [EK.out (i / s) hKJ] at p1
   have c0 : V2.cell? ⟨bc, oc + i / s * 3, none⟩ = some (.int .i64 ((i / s * s : Nat) : Int)) := p1
   have hq0 : (i : Int) / (s : Int) = ((i / s : Nat) : Int) := by simp
   have hs0 : ¬ s = 0 := by omega
   have ck : ((i / s : Nat) : Int) < (m.cs.length : Int) := by rw [ecl2]; exact_mod_cast hKJ
   have hKi : i / s ≤ i := Nat.div_le_self _ _
   have hqs : i / s * s ≤ i := Nat.div_mul_le_self _ _
   clear p1 p2_ p3 p4 ecl2 hc9 hbs9 x2 x3
   have HXX := Hid.mk' XLE
   generalize hKK : i / s = K at *
   generalize hQQ : K * s = Q at *
   have hwK : IntKind.i64.wrap (K : Int) = (K : Int) := by rw [IntKind.wrap_i64]; omega
   have hwX : IntKind.i64.wrap ((X : Int) - (Q : Int)) = (X : Int) - (Q : Int) := by rw [IntKind.wrap_i64]; omega
   refine wp_region_held_drew (S := (fun z => z.cell? ⟨w.heap.size, 1, none⟩ = some (.int .i64 (s : Int)) ∧ z.cell? ⟨w.heap.size, 4, none⟩ = some (.slice (some ⟨bc, oc, none⟩) m.cs.length cc) ∧ z.cell? ⟨bc, oc + K * 3, none⟩ = some (.int .i64 (Q : Int)) ∧ Hid (RowA z w3.heap.size 27 #[.slice a9 T.length ca9, .int .i64 (s : Int), .slice va (allX [] [] T).1.length vc, .slice ua (allX [] [] T).2.length uc, .slice c9 (T.length / s + 1) cc9]))) (by kernel_rfl) ⟨x1, x4, c0, HR2⟩ (fun hHeld => ?_)
   refine tkY 0 ?_
   refine tkY 1 ?_
   refine tkY 2 ?_
   refine tkY 3 ?_
   refine tkY 4 ?_
   refine tkY 5 ?_
   refine tkY 6 ?_
   refine tkY 7 ?_
   refine tkY 8 ?_
   refine tkY 9 ?_
   refine tkY 10 ?_
   refine wpAnyH_take (i := 11) (oi := ⟨_, _, _, _, _, _⟩) (v := ?_) rfl (by kernel_rfl) (by kernel_rfl) (by kernel_rfl) (fun _ _ _ h => h) (Or.inl ⟨by rfl, ?_⟩) (by assumption) ?_
   rotate_left
   ·(intro w' hSw; refine RowA.exec hSw.2.2.2.out (.tmp 13) ?_ ?_ _ Tryz.underlying27 ?_ ?_; rfl; rfl; rfl; kernel_rfl)
   try simp only [Act.put, zA, zB, zC]
   refine tkY 12 ?_
   refine wpAnyH_ready (rs := [13]) (by kernel_rfl) (by simp) ?_
   refine AllReadyH.cons (o := ⟨_, _, _, _, _, _⟩) rfl (fun K9 hK => ?_) AllReadyH.nil
   refine step_store_row rfl 50 (.tmp 8) (.tmp 55) rfl (w.heap.size + 1) #[.int .i64 0, .int .i64 ((X : Int) - (Q : Int)), .slice a9 T.length ca9, .int .i64 (s : Int), .slice va (allX [] [] T).1.length vc, .slice ua (allX [] [] T).2.length uc, .slice c9 (T.length / s + 1) cc9] rfl rfl 50 #[.int .i64 0, .int .i64 0, .slice none 0 0, .int .i64 0, .slice none 0 0, .slice none 0 0, .slice none 0 0] HZ3.out.drew (by kernel_rfl) rfl (by kernel_rfl) ?_
   have hZ1 : w.heap.size + 1 < w2.heap.size := HZ2.out.lt
   have hbc : bc < w.heap.size := by
    rcases BC.out with h | h
    ·exact absurd (congrArg List.length h) (by rw [ECL.out]; simp)
    ·exact h
   have S3 := Hid.mk' (HZ3.out.drew.put #[.int .i64 0, .int .i64 ((X : Int) - (Q : Int)), .slice a9 T.length ca9, .int .i64 (s : Int), .slice va (allX [] [] T).1.length vc, .slice ua (allX [] [] T).2.length uc, .slice c9 (T.length / s + 1) cc9])
   refine hK.out _ _ ⟨(cell_setRow _ _ _ (by simp)).trans x1, (cell_setRow _ _ _ (by simp)).trans x4, (cell_setRow _ _ _ (by simp; omega)).trans c0, Hid.mk' (HR2.out.drew.otherRow (by omega) _)⟩ (fun hHeld => ?_)
   clear hK K9
   try simp only [Act.put, zA, zB, zC]
   refine wpAnyH_done (by kernel_rfl) ?_ _
   clear hHeld x0 x1 x4 x5 c0
   have KR3 := RowA.keptRow V2.drew (w.heap.size + 1) #[.int .i64 0, .int .i64 ((X : Int) - (Q : Int)), .slice a9 T.length ca9, .int .i64 (s : Int), .slice va (allX [] [] T).1.length vc, .slice ua (allX [] [] T).2.length uc, .slice c9 (T.length / s + 1) cc9]
   have sz3 : (V2.drew.setRow (w.heap.size + 1) #[.int .i64 0, .int .i64 ((X : Int) - (Q : Int)), .slice a9 T.length ca9, .int .i64 (s : Int), .slice va (allX [] [] T).1.length vc, .slice ua (allX [] [] T).2.length uc, .slice c9 (T.length / s + 1) cc9]).heap.size = V2.heap.size := setRow_size _ _ _
   have B3 : Hid (Below w.heap.size w (V2.drew.setRow (w.heap.size + 1) #[.int .i64 0, .int .i64 ((X : Int) - (Q : Int)), .slice a9 T.length ca9, .int .i64 (s : Int), .slice va (allX [] [] T).1.length vc, .slice ua (allX [] [] T).2.length uc, .slice c9 (T.length / s + 1) cc9])) := Hid.mk' (RowA.putBelow ((B2.out.trans (BV2.out.mono B2.out.size)).trans ((Below.refl _ _).drew)) (Nat.le_succ _) _)
   have b3 : ∀ q, q ≠ w.heap.size + 1 → (V2.drew.setRow (w.heap.size + 1) #[.int .i64 0, .int .i64 ((X : Int) - (Q : Int)), .slice a9 T.length ca9, .int .i64 (s : Int), .slice va (allX [] [] T).1.length vc, .slice ua (allX [] [] T).2.length uc, .slice c9 (T.length / s + 1) cc9]).heap[q]? = V2.heap[q]? := fun q hq => setRow_other _ _ _ _ hq
   have MV := HMV.out (V2.drew.setRow (w.heap.size + 1) #[.int .i64 0, .int .i64 ((X : Int) - (Q : Int)), .slice a9 T.length ca9, .int .i64 (s : Int), .slice va (allX [] [] T).1.length vc, .slice ua (allX [] [] T).2.length uc, .slice c9 (T.length / s + 1) cc9]) (by rw [sz3]; exact KV2.out.size) (fun q q1 q2 q3 => (b3 q (by omega)).trans (KV2.out.block q q2 (by omega)))
   have w1w := HW1.out
   have TK3 := (TKS.out.keep BV2.out.size (fun k h1 h2 => BV2.out.block k h2)).keep (w' := V2.drew.setRow (w.heap.size + 1) #[.int .i64 0, .int .i64 ((X : Int) - (Q : Int)), .slice a9 T.length ca9, .int .i64 (s : Int), .slice va (allX [] [] T).1.length vc, .slice ua (allX [] [] T).2.length uc, .slice c9 (T.length / s + 1) cc9]) (by rw [sz3]; exact Nat.le_refl _) (fun k h1 h2 => b3 k (by omega))
   have OW3 : (V2.drew.setRow (w.heap.size + 1) #[.int .i64 0, .int .i64 ((X : Int) - (Q : Int)), .slice a9 T.length ca9, .int .i64 (s : Int), .slice va (allX [] [] T).1.length vc, .slice ua (allX [] [] T).2.length uc, .slice c9 (T.length / s + 1) cc9]).ownsRow w1.heap.size 5 1 (.slice ua (allX [] [] T).2.length uc) (allX [] [] T).2.length (bcs (allX [] [] T).2) := own_of (own_keep OWN.out BV2.out) (Nat.le_refl _) (fun q eq hq => b3 q (by omega))
   obtain ⟨_, _, et, hts⟩ := TK3.tsAt
   obtain ⟨rfl, -, rfl⟩ := Value.slice.inj et
   obtain ⟨_, _, eu, hus⟩ := own_bat OW3
   obtain ⟨rfl, -, rfl⟩ := Value.slice.inj eu
   have MF : Hid (MAt (V2.drew.setRow (w.heap.size + 1) #[.int .i64 0, .int .i64 ((X : Int) - (Q : Int)), .slice a9 T.length ca9, .int .i64 (s : Int), .slice va (allX [] [] T).1.length vc, .slice ua (allX [] [] T).2.length uc, .slice c9 (T.length / s + 1) cc9]) a9 va ua c9 (memX T s)) := Hid.mk' ⟨MV.1, hts, hus, MV.2.2.2⟩
   clear MV TK3 OW3 hts hus et eu KR3 b3 sz3
   generalize hV3 : V2.drew.setRow (w.heap.size + 1) #[.int .i64 0, .int .i64 ((X : Int) - (Q : Int)), .slice a9 T.length ca9, .int .i64 (s : Int), .slice va (allX [] [] T).1.length vc, .slice ua (allX [] [] T).2.length uc, .slice c9 (T.length / s + 1) cc9] = V3 at *
   clear hV3
   go_wp2
   refine bodyPost_ret (v := .agg #[.int .i64 0, .int .i64 ((X : Int) - (Q : Int)), .slice a9 T.length ca9, .int .i64 (s : Int), .slice va (allX [] [] T).1.length vc, .slice ua (allX [] [] T).2.length uc, .slice c9 (T.length / s + 1) cc9]) ?_ ?_ ?_
   ·exact results_cell1 Tryz.results39 _ _ _ ⟨w.heap.size + 1, 0, none⟩ _ rfl (S3.out.load _ Tryz.underlying50 rfl (by kernel_rfl))
   ·rfl
   rw [EM.out, EV.out, EC.out]
   exact ⟨a9, va, ua, c9, ca9, vc, uc, cc9, by simp [memX, cksN_len], MF.out, B3.out⟩
 ·go_simp
  have RG := Hid.mk' (RowA.new w2 27 #[.slice none 0 0, .int .i64 0, .slice none 0 0, .slice none 0 0, .slice none 0 0]).drew
  have N9 := (below_new w2 (.cells #[.slice none 0 0, .int .i64 0, .slice none 0 0, .slice none 0 0, .slice none 0 0] 27)).drew
  have BB := Hid.mk' N9
  refine hK.out _ _ (HCE.out _ BB.out) (fun hHeld => ?_)
  clear hK K9
  try simp only [Act.put, zA, zB, zC]
  have lg : w2.heap.size < (w2.alloc (.cells #[.slice none 0 0, .int .i64 0, .slice none 0 0, .slice none 0 0, .slice none 0 0] 27)).drew.heap.size := by simp
  clear N9
  generalize hgw : (w2.alloc (.cells #[.slice none 0 0, .int .i64 0, .slice none 0 0, .slice none 0 0, .slice none 0 0] 27)).drew = w2a at *
  clear hgw
  refine wpAnyH_ready (rs := [5]) (by kernel_rfl) (by simp) ?_
  refine AllReadyH.cons (o := ⟨_, _, _, _, _, _⟩) rfl (fun K9 hK => ?_) AllReadyH.nil
  go_simp
  refine (KSP.out _ BB.out).mono ?_
  rintro e3 w3 ⟨sv, rfl, osv, hb3⟩
  obtain ⟨sa, sc, rfl, bsv⟩ := own_bat osv
  have BS := Hid.mk' bsv
  clear bsv osv
  have BB := Hid.mk' (BB.out.trans (hb3.mono BB.out.size))
  have B53 := Hid.mk' hb3
  clear hb3
  refine hK.out _ _ (HCE.out _ BB.out) (fun hHeld => ?_)
  clear hK K9
  try simp only [Act.put, zA, zB, zC]
  have RG := Hid.mk' (RG.out.below B53.out)
  have lg3 : w2.heap.size < w3.heap.size := Nat.lt_of_lt_of_le lg B53.out.size
  refine wpAnyH_ready (rs := [8]) (by kernel_rfl) (by simp) ?_
  refine AllReadyH.cons (o := ⟨_, _, _, _, _, _⟩) rfl (fun K9 hK => ?_) AllReadyH.nil
  go_simp
  refine (KLN.out w3 _ _ BS.out).mono ?_
  rintro e4 w4 ⟨a9, t9, u9, c9, ca9, ct9, cu9, cc9, rfl, hM, hb4⟩
  have HMM := Hid.mk' hM
  have B84 := Hid.mk' hb4
  have BB := Hid.mk' (BB.out.trans (hb4.mono BB.out.size))
  clear hM hb4
  refine hK.out _ _ (HCE.out _ BB.out) (fun hHeld => ?_)
  clear hK K9
  try simp only [Act.put, zA, zB, zC]
  have RG := Hid.mk' (RG.out.below B84.out)
  have BL := Hid.mk' (Below.refl w2.heap.size w2)
  clear B53 BS
  refine wpAnyH_ready (rs := [10]) (by kernel_rfl) (by simp) ?_
  refine AllReadyH.cons (o := ⟨_, _, _, _, _, _⟩) rfl (fun K9 hK => ?_) AllReadyH.nil
  refine step_store_row rfl 27 (.tmp 13) (.tmp 38) rfl w2.heap.size #[.slice a9 T.length ca9, .int .i64 (s : Int), .slice t9 (allX [] [] T).1.length ct9, .slice u9 (allX [] [] T).2.length cu9, .slice c9 (T.length / s + 1) cc9] rfl rfl 27 _ RG.out (by kernel_rfl) rfl (by kernel_rfl) ?_
  have BV := Hid.mk' (RowA.putBelow BB.out (Nat.le_refl _) #[.slice a9 T.length ca9, .int .i64 (s : Int), .slice t9 (allX [] [] T).1.length ct9, .slice u9 (allX [] [] T).2.length cu9, .slice c9 (T.length / s + 1) cc9])
  refine hK.out _ _ (HCE.out _ BV.out) (fun hHeld => ?_)
  clear hK K9
  try simp only [Act.put, zA, zB, zC]
  refine wpAnyH_done (by kernel_rfl) ?_ _
  have HRV := Hid.mk' (RG.out.put #[.slice a9 T.length ca9, .int .i64 (s : Int), .slice t9 (allX [] [] T).1.length ct9, .slice u9 (allX [] [] T).2.length cu9, .slice c9 (T.length / s + 1) cc9])
  have HgV : w2.heap.size ≤ w2.heap.size := (Nat.le_refl _)
  have HMV : Hid (∀ z : World, (w4.setRow w2.heap.size #[.slice a9 T.length ca9, .int .i64 (s : Int), .slice t9 (allX [] [] T).1.length ct9, .slice u9 (allX [] [] T).2.length cu9, .slice c9 (T.length / s + 1) cc9]).heap.size ≤ z.heap.size → (∀ q, w2.heap.size ≤ q → q < (w4.setRow w2.heap.size #[.slice a9 T.length ca9, .int .i64 (s : Int), .slice t9 (allX [] [] T).1.length ct9, .slice u9 (allX [] [] T).2.length cu9, .slice c9 (T.length / s + 1) cc9]).heap.size → q ≠ w2.heap.size → z.heap[q]? = (w4.setRow w2.heap.size #[.slice a9 T.length ca9, .int .i64 (s : Int), .slice t9 (allX [] [] T).1.length ct9, .slice u9 (allX [] [] T).2.length cu9, .slice c9 (T.length / s + 1) cc9]).heap[q]?) → MAt z a9 t9 u9 c9 (memX T s)) := Hid.mk' (fun z h1 h2 => by
   rw [setRow_size] at h1 h2
   exact HMM.out z h1 (fun q q1 q2 => (h2 q (by have := BL.out.size; omega) q2 (by omega)).trans (setRow_other _ _ _ _ (by omega))))
  clear HMM B84 BB
  generalize hV : w4.setRow w2.heap.size #[.slice a9 T.length ca9, .int .i64 (s : Int), .slice t9 (allX [] [] T).1.length ct9, .slice u9 (allX [] [] T).2.length cu9, .slice c9 (T.length / s + 1) cc9] = V at *
  clear hV
  clear hHeld
  have z2 := HRV.out.cell 2 _ rfl
  have z3 := HRV.out.cell 3 _ rfl
  have f2 := HRV.out.frozen 2
  have f3 := HRV.out.frozen 3
  have HR2 : Hid (RowA ((V.setCell ⟨w2.heap.size, 2, none⟩ (.slice va (allX [] [] T).1.length vc)).setCell ⟨w2.heap.size, 3, none⟩ (.slice ua (allX [] [] T).2.length uc)) w2.heap.size 27 #[.slice a9 T.length ca9, .int .i64 (s : Int), .slice va (allX [] [] T).1.length vc, .slice ua (allX [] [] T).2.length uc, .slice c9 (T.length / s + 1) cc9]) := Hid.mk' ((HRV.out.set 2 (.slice va (allX [] [] T).1.length vc)).set 3 (.slice ua (allX [] [] T).2.length uc))
  have BV2 := Hid.mk' (RowA.setBelow (RowA.setBelow BV.out HgV 2 (.slice va (allX [] [] T).1.length vc)) HgV 3 (.slice ua (allX [] [] T).2.length uc))
  have KV2 := Hid.mk' ((((KeptIn.refl w2.heap.size (w2.heap.size + 1) V).setCell (p := ⟨w2.heap.size, 2, none⟩) (Nat.le_refl _) (Nat.lt_succ_self _) (.slice va (allX [] [] T).1.length vc))).setCell (p := ⟨w2.heap.size, 3, none⟩) (Nat.le_refl _) (Nat.lt_succ_self _) (.slice ua (allX [] [] T).2.length uc))
  go_wp2_with fail
  generalize hV2 : (V.setCell ⟨w2.heap.size, 2, none⟩ (.slice va (allX [] [] T).1.length vc)).setCell ⟨w2.heap.size, 3, none⟩ (.slice ua (allX [] [] T).2.length uc) = V2 at *
  clear hV2 z2 z3 f2 f3
  have HM3 := Hid.mk' (HM2.out.below BV2.out)
  have HZ3 := Hid.mk' (HZ2.out.below BV2.out)
  obtain ⟨x0, x1, x2, x3, x4, x5⟩ := cells5 HM3.out.r
  rw [HST.out] at x1
  have hKJ : i / s < m.dt.length / s + 1 := Nat.lt_succ_of_le (Nat.div_le_div_right (by omega))
  have ecl2 : m.cs.length = m.dt.length / s + 1 := ECL.out
  rcases HM3.out.m1.2.2.2 with hnil | ⟨b8, o8, e8, hbs9, hc9⟩
  ·rw [hnil] at ecl2; simp at ecl2
  cases e8
  obtain ⟨p1, p2_, pq, pc, p3, p4⟩ := hc9 (i / s) (by rw [ecl2]; exact hKJ)
  rw [EK.out (i / s) hKJ] at p1
  have c0 : V2.cell? ⟨bc, oc + i / s * 3, none⟩ = some (.int .i64 ((i / s * s : Nat) : Int)) := p1
  have hq0 : (i : Int) / (s : Int) = ((i / s : Nat) : Int) := by simp
  have hs0 : ¬ s = 0 := by omega
  have ck : ((i / s : Nat) : Int) < (m.cs.length : Int) := by rw [ecl2]; exact_mod_cast hKJ
  have hKi : i / s ≤ i := Nat.div_le_self _ _
  have hqs : i / s * s ≤ i := Nat.div_mul_le_self _ _
  clear p1 p2_ p3 p4 ecl2 hc9 hbs9 x2 x3
  have HXX := Hid.mk' XLE
  generalize hKK : i / s = K at *
  generalize hQQ : K * s = Q at *
  have hwK : IntKind.i64.wrap (K : Int) = (K : Int) := by rw [IntKind.wrap_i64]; omega
  have hwX : IntKind.i64.wrap ((X : Int) - (Q : Int)) = (X : Int) - (Q : Int) := by rw [IntKind.wrap_i64]; omega
  refine wp_region_held_drew (S := (fun z => z.cell? ⟨w.heap.size, 1, none⟩ = some (.int .i64 (s : Int)) ∧ z.cell? ⟨w.heap.size, 4, none⟩ = some (.slice (some ⟨bc, oc, none⟩) m.cs.length cc) ∧ z.cell? ⟨bc, oc + K * 3, none⟩ = some (.int .i64 (Q : Int)) ∧ Hid (RowA z w2.heap.size 27 #[.slice a9 T.length ca9, .int .i64 (s : Int), .slice va (allX [] [] T).1.length vc, .slice ua (allX [] [] T).2.length uc, .slice c9 (T.length / s + 1) cc9]))) (by kernel_rfl) ⟨x1, x4, c0, HR2⟩ (fun hHeld => ?_)
  refine tkY 0 ?_
  refine tkY 1 ?_
  refine tkY 2 ?_
  refine tkY 3 ?_
  refine tkY 4 ?_
  refine tkY 5 ?_
  refine tkY 6 ?_
  refine tkY 7 ?_
  refine tkY 8 ?_
  refine tkY 9 ?_
  refine tkY 10 ?_
  refine wpAnyH_take (i := 11) (oi := ⟨_, _, _, _, _, _⟩) (v := ?_) rfl (by kernel_rfl) (by kernel_rfl) (by kernel_rfl) (fun _ _ _ h => h) (Or.inl ⟨by rfl, ?_⟩) (by assumption) ?_
  rotate_left
  ·(intro w' hSw; refine RowA.exec hSw.2.2.2.out (.tmp 13) ?_ ?_ _ Tryz.underlying27 ?_ ?_; rfl; rfl; rfl; kernel_rfl)
  try simp only [Act.put, zA, zB, zC]
  refine tkY 12 ?_
  refine wpAnyH_ready (rs := [13]) (by kernel_rfl) (by simp) ?_
  refine AllReadyH.cons (o := ⟨_, _, _, _, _, _⟩) rfl (fun K9 hK => ?_) AllReadyH.nil
  refine step_store_row rfl 50 (.tmp 8) (.tmp 55) rfl (w.heap.size + 1) #[.int .i64 0, .int .i64 ((X : Int) - (Q : Int)), .slice a9 T.length ca9, .int .i64 (s : Int), .slice va (allX [] [] T).1.length vc, .slice ua (allX [] [] T).2.length uc, .slice c9 (T.length / s + 1) cc9] rfl rfl 50 #[.int .i64 0, .int .i64 0, .slice none 0 0, .int .i64 0, .slice none 0 0, .slice none 0 0, .slice none 0 0] HZ3.out.drew (by kernel_rfl) rfl (by kernel_rfl) ?_
  have hZ1 : w.heap.size + 1 < w2.heap.size := HZ2.out.lt
  have hbc : bc < w.heap.size := by
   rcases BC.out with h | h
   ·exact absurd (congrArg List.length h) (by rw [ECL.out]; simp)
   ·exact h
  have S3 := Hid.mk' (HZ3.out.drew.put #[.int .i64 0, .int .i64 ((X : Int) - (Q : Int)), .slice a9 T.length ca9, .int .i64 (s : Int), .slice va (allX [] [] T).1.length vc, .slice ua (allX [] [] T).2.length uc, .slice c9 (T.length / s + 1) cc9])
  refine hK.out _ _ ⟨(cell_setRow _ _ _ (by simp)).trans x1, (cell_setRow _ _ _ (by simp)).trans x4, (cell_setRow _ _ _ (by simp; omega)).trans c0, Hid.mk' (HR2.out.drew.otherRow (by omega) _)⟩ (fun hHeld => ?_)
  clear hK K9
  try simp only [Act.put, zA, zB, zC]
  refine wpAnyH_done (by kernel_rfl) ?_ _
  clear hHeld x0 x1 x4 x5 c0
  have KR3 := RowA.keptRow V2.drew (w.heap.size + 1) #[.int .i64 0, .int .i64 ((X : Int) - (Q : Int)), .slice a9 T.length ca9, .int .i64 (s : Int), .slice va (allX [] [] T).1.length vc, .slice ua (allX [] [] T).2.length uc, .slice c9 (T.length / s + 1) cc9]
  have sz3 : (V2.drew.setRow (w.heap.size + 1) #[.int .i64 0, .int .i64 ((X : Int) - (Q : Int)), .slice a9 T.length ca9, .int .i64 (s : Int), .slice va (allX [] [] T).1.length vc, .slice ua (allX [] [] T).2.length uc, .slice c9 (T.length / s + 1) cc9]).heap.size = V2.heap.size := setRow_size _ _ _
  have B3 : Hid (Below w.heap.size w (V2.drew.setRow (w.heap.size + 1) #[.int .i64 0, .int .i64 ((X : Int) - (Q : Int)), .slice a9 T.length ca9, .int .i64 (s : Int), .slice va (allX [] [] T).1.length vc, .slice ua (allX [] [] T).2.length uc, .slice c9 (T.length / s + 1) cc9])) := Hid.mk' (RowA.putBelow ((B2.out.trans (BV2.out.mono B2.out.size)).trans ((Below.refl _ _).drew)) (Nat.le_succ _) _)
  have b3 : ∀ q, q ≠ w.heap.size + 1 → (V2.drew.setRow (w.heap.size + 1) #[.int .i64 0, .int .i64 ((X : Int) - (Q : Int)), .slice a9 T.length ca9, .int .i64 (s : Int), .slice va (allX [] [] T).1.length vc, .slice ua (allX [] [] T).2.length uc, .slice c9 (T.length / s + 1) cc9]).heap[q]? = V2.heap[q]? := fun q hq => setRow_other _ _ _ _ hq
  have MV := HMV.out (V2.drew.setRow (w.heap.size + 1) #[.int .i64 0, .int .i64 ((X : Int) - (Q : Int)), .slice a9 T.length ca9, .int .i64 (s : Int), .slice va (allX [] [] T).1.length vc, .slice ua (allX [] [] T).2.length uc, .slice c9 (T.length / s + 1) cc9]) (by rw [sz3]; exact KV2.out.size) (fun q q1 q2 q3 => (b3 q (by omega)).trans (KV2.out.block q q2 (by omega)))
  have w1w := HW1.out
  have TK3 := (TKS.out.keep BV2.out.size (fun k h1 h2 => BV2.out.block k h2)).keep (w' := V2.drew.setRow (w.heap.size + 1) #[.int .i64 0, .int .i64 ((X : Int) - (Q : Int)), .slice a9 T.length ca9, .int .i64 (s : Int), .slice va (allX [] [] T).1.length vc, .slice ua (allX [] [] T).2.length uc, .slice c9 (T.length / s + 1) cc9]) (by rw [sz3]; exact Nat.le_refl _) (fun k h1 h2 => b3 k (by omega))
  have OW3 : (V2.drew.setRow (w.heap.size + 1) #[.int .i64 0, .int .i64 ((X : Int) - (Q : Int)), .slice a9 T.length ca9, .int .i64 (s : Int), .slice va (allX [] [] T).1.length vc, .slice ua (allX [] [] T).2.length uc, .slice c9 (T.length / s + 1) cc9]).ownsRow w1.heap.size 5 1 (.slice ua (allX [] [] T).2.length uc) (allX [] [] T).2.length (bcs (allX [] [] T).2) := own_of (own_keep OWN.out BV2.out) (Nat.le_refl _) (fun q eq hq => b3 q (by omega))
  obtain ⟨_, _, et, hts⟩ := TK3.tsAt
  obtain ⟨rfl, -, rfl⟩ := Value.slice.inj et
  obtain ⟨_, _, eu, hus⟩ := own_bat OW3
  obtain ⟨rfl, -, rfl⟩ := Value.slice.inj eu
  have MF : Hid (MAt (V2.drew.setRow (w.heap.size + 1) #[.int .i64 0, .int .i64 ((X : Int) - (Q : Int)), .slice a9 T.length ca9, .int .i64 (s : Int), .slice va (allX [] [] T).1.length vc, .slice ua (allX [] [] T).2.length uc, .slice c9 (T.length / s + 1) cc9]) a9 va ua c9 (memX T s)) := Hid.mk' ⟨MV.1, hts, hus, MV.2.2.2⟩
  clear MV TK3 OW3 hts hus et eu KR3 b3 sz3
  generalize hV3 : V2.drew.setRow (w.heap.size + 1) #[.int .i64 0, .int .i64 ((X : Int) - (Q : Int)), .slice a9 T.length ca9, .int .i64 (s : Int), .slice va (allX [] [] T).1.length vc, .slice ua (allX [] [] T).2.length uc, .slice c9 (T.length / s + 1) cc9] = V3 at *
  clear hV3
  go_wp2
  refine bodyPost_ret (v := .agg #[.int .i64 0, .int .i64 ((X : Int) - (Q : Int)), .slice a9 T.length ca9, .int .i64 (s : Int), .slice va (allX [] [] T).1.length vc, .slice ua (allX [] [] T).2.length uc, .slice c9 (T.length / s + 1) cc9]) ?_ ?_ ?_
  ·exact results_cell1 Tryz.results39 _ _ _ ⟨w.heap.size + 1, 0, none⟩ _ rfl (S3.out.load _ Tryz.underlying50 rfl (by kernel_rfl))
  ·rfl
  rw [EM.out, EV.out, EC.out]
  exact ⟨a9, va, ua, c9, ca9, vc, uc, cc9, by simp [memX, cksN_len], MF.out, B3.out⟩
theorem l1MinW_any (x y : Int) (w : World) : Calls Tryz.prog 99 #[.int .i64 x, .int .i64 y] w fun e w' => e = .returned (.int .i64 (if x < y then x else y)) ∧ w' = w := by
 by_cases h : x < y
 ·rw [if_pos h]
  go_enter Tryz.func99, Tryz.ntmps99
  go_wp2
  go_ret
  exact ⟨rfl, rfl⟩
 ·rw [if_neg h]
  go_enter Tryz.func99, Tryz.ntmps99
  go_wp2
  go_ret
  exact ⟨rfl, rfl⟩
def DrW (b k : Nat) (l : List Int) (w : World) (e : Ending) (w' : World) : Prop :=
 ∃ (A N : Int) (p : List Int) (v : Value) (k' : Nat), e = .returned (.tuple #[.int .i64 A, .int .i64 N, v]) ∧ OB w' v p ∧ (∀ q, v.ownBlock = some q → w.heap.size ≤ q) ∧ Byt p ∧ -1 ≤ A ∧ A ≤ 182 ∧ -1 ≤ N ∧ N ≤ 183 ∧ p.length ≤ 241 ∧ k' ≤ k + 10 ∧ Src b l k' w' ∧ KeptIn b (b + 1) w w'
theorem repl_byt (n : Nat) : Byt (List.replicate n 0) := Byt.of (fun x hx => by rw [List.mem_replicate] at hx; omega)
theorem l13With_any (b k n : Nat) (l : List Int) (w : World) (h : Src b l k w) (hk : k ≤ 9000) (hn : n ≤ 181) (hl : (l.length : Int) ≤ 1048576) :
  Calls Tryz.prog 74 #[.pointer (some ⟨b, 0, none⟩), .int .i64 (n : Int)] w fun e w' => DrW b k l w e w' := by
 have hbw := h.lt
 have HS := Hid.mk' h
 clear h
 have wr1 : IntKind.i64.wrap ((n : Int) + 1) = (n : Int) + 1 := by rw [IntKind.wrap_i64]; omega
 go_enter Tryz.func74, Tryz.ntmps74
 go_wp2_with fail
 refine (l1Next_any b k l ((n : Int) + 1) w HS.out (by omega) (by omega) (by omega) hl).mono ?_
 rintro e w1 ⟨A, rfl, A0, A1, hS1, hK1⟩
 have HS1 := Hid.mk' hS1
 have K1 := Hid.mk' hK1
 clear hS1 hK1 HS
 have wr2 : IntKind.i64.wrap ((n : Int) - A) = (n : Int) - A := by rw [IntKind.wrap_i64]; omega
 obtain ⟨M, hM, M0, M1⟩ : ∃ M : Int, (if (6 : Int) < (n : Int) - A then (6 : Int) else (n : Int) - A) = M ∧ 0 ≤ M ∧ M ≤ 6 := by
  split
  ·exact ⟨6, rfl, by decide, by decide⟩
  ·exact ⟨_, rfl, by omega, by omega⟩
 have KM := fun W => l1MinW_any 6 ((n : Int) - A) W
 rw [hM] at KM
 have KM := Hid.mk' KM
 clear hM
 have wr3 : IntKind.i64.wrap (M + 1) = M + 1 := by rw [IntKind.wrap_i64]; omega
 go_wp2_with (go_at_call 99; refine (KM.out _).mono ?_; rintro e wq ⟨rfl, hwq⟩; obtain rfl := hwq.symm)
 refine (l1Next_any b (k + 1) l (M + 1) _ HS1.out (by omega) (by omega) (by omega) hl).mono ?_
 rintro e w2 ⟨N, rfl, N0, N1, hS2, hK2⟩
 have HS2 := Hid.mk' hS2
 have K2 := Hid.mk' (K1.out.trans hK2)
 clear hS2 hK2 HS1 K1 KM
 go_wp2_with fail
 refine (l1Marked_any b (k + 1 + 1) 3 l w2 HS2.out (by omega) (by decide) (by decide) hl).mono ?_
 rintro e w3 ⟨v, p, k3, rfl, hp, hk3, hD⟩
 obtain ⟨pv, cv, rfl⟩ := own_form hD.own
 obtain ⟨oP, loP⟩ := OB.of_own hD.own
 have s2 := K2.out.size
 have HS3 := Hid.mk' hD.src
 have K3 := Hid.mk' (K2.out.trans hD.kept)
 have OP_ := Hid.mk' oP
 have LP := Hid.mk' loP
 have BP : Hid (Byt p) := Hid.mk' (Byt.of hD.u8)
 have bw2 : b < w2.heap.size := HS2.out.lt
 clear hD HS2 K2
 go_wp2_with fail
 refine (l1Next_any b k3 l 14 w3 HS3.out (by omega) (by decide) (by decide) hl).mono ?_
 rintro e w4 ⟨x, rfl, x0, x1, hS4, hK4⟩
 have HS4 := Hid.mk' hS4
 have K4 := Hid.mk' (K3.out.trans hK4)
 have OP4 := Hid.mk' (OP_.out.keep (fun q e hq => hK4.block q hq (.inr (by have := LP.out q e; omega))))
 have bw4 : b < w4.heap.size := hS4.lt
 clear hS4 hK4 HS3 K3 OP_ oP loP
 by_cases c0 : x = 0
 ·subst c0
  go_wp2_with fail
  refine (l1Pick_any b (k3 + 1) w4.heap.size 2 l [-1, (n : Int) + 1] _ (HS4.out.below (below_new w4 _)) (iat_lit w4 [-1, (n : Int) + 1]) (by omega) (by omega) (by simp) (by simp) hl).mono ?_
  rintro e w5 ⟨i, hi, rfl, hS5, hK5⟩
  have hv : -1 ≤ ([-1, (n : Int) + 1] : List Int).getD i 0 ∧ ([-1, (n : Int) + 1] : List Int).getD i 0 ≤ 182 := by
   have hi' : i = 0 ∨ i = 1 := by simp at hi; omega
   rcases hi' with rfl | rfl <;> simp <;> omega
  generalize ([-1, (n : Int) + 1] : List Int).getD i 0 = vA at *
  have N5 := below_new w4 (.cells ([-1, (n : Int) + 1].map (Value.int .i64)).toArray 2)
  have O5 := (OP4.out.below N5).keep (fun q e hq => hK5.block q hq (.inr (by have := LP.out q e; omega)))
  have K5 := (K4.out.trans (KeptIn.of_below N5)).trans hK5
  have HF := Hid.mk' (show DrW b k l w (.returned (.tuple #[.int .i64 vA, .int .i64 N, .slice pv p.length cv])) w5 from ⟨vA, N, p, _, k3 + 1 + 1, rfl, O5, fun q e => Nat.le_trans s2 (LP.out q e), BP.out, by omega, by omega, by omega, by omega, by omega, by omega, hS5, K5⟩)
  clear hS5 hK5 N5 O5 K5 HS4 K4 OP4
  go_wp2
  refine bodyPost_ret (v := .tuple #[.int .i64 vA, .int .i64 N, .slice pv p.length cv]) (by simp [results, Tryz.results74, go_sem, *]) rfl ?_
  exact HF.out
 by_cases c1 : x = 1
 ·subst c1
  have wr4 : IntKind.i64.wrap ((n : Int) - A + 1) = (n : Int) - A + 1 := by rw [IntKind.wrap_i64]; omega
  go_wp2_with fail
  refine (l1Pick_any b (k3 + 1) w4.heap.size 2 l [-1, (n : Int) - A + 1] _ (HS4.out.below (below_new w4 _)) (iat_lit w4 [-1, (n : Int) - A + 1]) (by omega) (by omega) (by simp) (by simp) hl).mono ?_
  rintro e w5 ⟨i, hi, rfl, hS5, hK5⟩
  have hv : -1 ≤ ([-1, (n : Int) - A + 1] : List Int).getD i 0 ∧ ([-1, (n : Int) - A + 1] : List Int).getD i 0 ≤ 183 := by
   have hi' : i = 0 ∨ i = 1 := by simp at hi; omega
   rcases hi' with rfl | rfl <;> simp <;> omega
  generalize ([-1, (n : Int) - A + 1] : List Int).getD i 0 = vN at *
  have N5 := below_new w4 (.cells ([-1, (n : Int) - A + 1].map (Value.int .i64)).toArray 2)
  have O5 := (OP4.out.below N5).keep (fun q e hq => hK5.block q hq (.inr (by have := LP.out q e; omega)))
  have K5 := (K4.out.trans (KeptIn.of_below N5)).trans hK5
  have HF := Hid.mk' (show DrW b k l w (.returned (.tuple #[.int .i64 A, .int .i64 vN, .slice pv p.length cv])) w5 from ⟨A, vN, p, _, k3 + 1 + 1, rfl, O5, fun q e => Nat.le_trans s2 (LP.out q e), BP.out, by omega, by omega, by omega, by omega, by omega, by omega, hS5, K5⟩)
  clear hS5 hK5 N5 O5 K5 HS4 K4 OP4
  go_wp2
  refine bodyPost_ret (v := .tuple #[.int .i64 A, .int .i64 vN, .slice pv p.length cv]) (by simp [results, Tryz.results74, go_sem, *]) rfl ?_
  exact HF.out
 by_cases c2 : x = 2
 ·subst c2
  go_wp2_with fail
  refine (l1Pick_any b (k3 + 1) w4.heap.size 2 l [240, 241] _ (HS4.out.below (below_new w4 _)) (iat_lit w4 [240, 241]) (by omega) (by omega) (by decide) (by decide) hl).mono ?_
  rintro e w5 ⟨i, hi, rfl, hS5, hK5⟩
  obtain ⟨R, hR, hRl⟩ : ∃ R : Nat, ([240, 241] : List Int).getD i 0 = ((List.replicate R (0 : Int)).length : Int) ∧ R ≤ 241 := by
   have hi' : i = 0 ∨ i = 1 := by simp at hi; omega
   rcases hi' with rfl | rfl
   ·exact ⟨240, rfl, by decide⟩
   ·exact ⟨241, rfl, by decide⟩
  rw [hR]
  have rl : (List.replicate R (0 : Int)).length ≤ 241 := by rw [List.length_replicate]; exact hRl
  have rb := repl_byt R
  have rz : ∀ j, bv (List.replicate R (0 : Int)) j = .int .u8 0 := fun j => by unfold bv; rw [List.getD_eq_getElem?_getD, List.getElem?_replicate]; split <;> rfl
  generalize List.replicate R (0 : Int) = RR at *
  have hmk := run_make_row' (P := Tryz.prog) 22 5 (.int .u8 0) 1 Tryz.underlying22 Tryz.info5 rfl .i64 .i64 RR.length (by omega) (by omega)
  have N5 := below_new w4 (.cells ([240, 241].map (Value.int .i64)).toArray 2)
  have N6 := below_new w5 (.cells (madeCells #[.int .u8 0] RR.length) 5)
  have K6 := ((K4.out.trans (KeptIn.of_below N5)).trans hK5).trans (KeptIn.of_below N6)
  have U6 : OB (w5.alloc (.cells (madeCells #[.int .u8 0] RR.length) 5)) (.slice (some ⟨w5.heap.size, 0, none⟩) RR.length RR.length) RR := ob_of_row rfl ((World.rowIs_made w5 (.int .u8 0) RR.length 5).congr (fun j _ => (rz j).symm))
  have s5 := ((K4.out.trans (KeptIn.of_below N5)).trans hK5).size
  have HF := Hid.mk' (show DrW b k l w (.returned (.tuple #[.int .i64 A, .int .i64 N, .slice (some ⟨w5.heap.size, 0, none⟩) RR.length RR.length])) (w5.alloc (.cells (madeCells #[.int .u8 0] RR.length) 5)) from ⟨A, N, RR, _, k3 + 1 + 1, rfl, U6, fun q e => by
   have e1 : w5.heap.size = q := by simpa [Value.ownBlock] using e
   omega, rb, by omega, by omega, by omega, by omega, rl, by omega, hS5.below N6, K6⟩)
  clear hS5 hK5 N5 N6 K6 U6 s5 HS4 K4 OP4
  go_wp2
  refine bodyPost_ret (v := .tuple #[.int .i64 A, .int .i64 N, .slice (some ⟨w5.heap.size, 0, none⟩) RR.length RR.length]) (by simp [results, Tryz.results74, go_sem, *]) rfl ?_
  exact HF.out
 have n0 : (x == 0) = false := by simp [c0]
 have n1 : (x == 1) = false := by simp [c1]
 have n2 : (x == 2) = false := by simp [c2]
 have HF := Hid.mk' (show DrW b k l w (.returned (.tuple #[.int .i64 A, .int .i64 N, .slice pv p.length cv])) w4 from ⟨A, N, p, _, k3 + 1, rfl, OP4.out, fun q e => Nat.le_trans s2 (LP.out q e), BP.out, by omega, by omega, by omega, by omega, by omega, by omega, HS4.out, K4.out⟩)
 clear HS4 K4 OP4
 go_wp2
 refine bodyPost_ret (v := .tuple #[.int .i64 A, .int .i64 N, .slice pv p.length cv]) (by simp [results, Tryz.results74, go_sem, *]) rfl ?_
 exact HF.out

end Go.Proofs.YtlimgcmhidooaaaGreatDoor
