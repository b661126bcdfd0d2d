/- LastCheck, both sides. -/
import Derived.Test.YtieeojhdidjnaaaGreatDoorH29
set_option maxHeartbeats 6400000
set_option maxRecDepth 100000
set_option linter.unusedVariables false
set_option linter.unusedSimpArgs false
namespace Go.Proofs.YtieeojhdidjnaaaGreatDoor
open Go.RowKit
theorem strI_data : ∀ (l : List Int) (r : ByteArray), (l.foldl (fun r n => r.push (UInt8.ofNat n.toNat)) r).data.toList = r.data.toList ++ l.map (fun n => UInt8.ofNat n.toNat)
 | [], r => by simp
 | x :: l, r => by
  rw [List.foldl_cons, strI_data l]
  simp [ByteArray.push]
theorem strI_list (l : List Int) : (strI l).toList = l.map (fun n => UInt8.ofNat n.toNat) := by
 rw [toList_data]
 unfold strI
 rw [strI_data]
 have e : ByteArray.empty.data.toList = [] := rfl
 rw [e, List.nil_append]
theorem byte_inj {x y : Int} (hx : 0 ≤ x ∧ x ≤ 255) (hy : 0 ≤ y ∧ y ≤ 255) (h : UInt8.ofNat x.toNat = UInt8.ofNat y.toNat) : x = y := by
 have := congrArg UInt8.toNat h
 simp only [UInt8.toNat_ofNat'] at this
 omega
theorem map_inj : ∀ (l m : List Int), (∀ x ∈ l, 0 ≤ x ∧ x ≤ 255) → (∀ x ∈ m, 0 ≤ x ∧ x ≤ 255) → l.map (fun n => UInt8.ofNat n.toNat) = m.map (fun n => UInt8.ofNat n.toNat) → l = m
 | [], [], _, _, _ => rfl
 | [], y :: m, _, _, h => by simp at h
 | x :: l, [], _, _, h => by simp at h
 | x :: l, y :: m, hl, hm, h => by
  simp only [List.map_cons, List.cons.injEq] at h
  rw [byte_inj (hl x (List.mem_cons_self ..)) (hm y (List.mem_cons_self ..)) h.1, map_inj l m (fun z hz => hl z (List.mem_cons_of_mem _ hz)) (fun z hz => hm z (List.mem_cons_of_mem _ hz)) h.2]
theorem beqB_eq {l m : List Int} (hl : Byt l) (hm : Byt m) (h : beqB l m = true) : l = m := by
 unfold beqB at h
 rw [strI_list, strI_list] at h
 exact map_inj l m hl.mem hm.mem (by simpa using h)
theorem right_checks {d : List Int} {s : Nat} {m : ME} (hd : Byt d) (hc : ∀ k, k < m.cs.length → Byt (ckK m.cs k).hd) (h : sameR (memX d s) m = true) : m.cs.length = d.length / s + 1 ∧ ∀ k, k < d.length / s + 1 → ckK m.cs k = ckAt d s k := by
 unfold sameR at h
 rw [Bool.and_eq_true, Bool.and_eq_true] at h
 have h3 := h.2.2
 unfold sameCs at h3
 rw [Bool.and_eq_true] at h3
 have e1 : (memX d s).cs.length = d.length / s + 1 := cksN_len _ _ _
 have e2 : (memX d s).cs.length = m.cs.length := of_decide_eq_true h3.1
 refine ⟨by omega, fun k hk => ?_⟩
 have h4 := h3.2
 unfold allK at h4
 rw [List.all_eq_true] at h4
 have h5 := h4 k (List.mem_range.2 (by omega))
 have e3 : ckK (memX d s).cs k = ckAt d s k := cksN_at d s _ k hk
 rw [e3] at h5
 unfold ceq at h5
 rw [Bool.and_eq_true, Bool.and_eq_true] at h5
 have p1 : (ckAt d s k).pl = (ckK m.cs k).pl := by simpa using h5.1
 have p2_ : (ckAt d s k).ct = (ckK m.cs k).ct := by simpa using h5.2.1
 have p3 : (ckAt d s k).hd = (ckK m.cs k).hd := beqB_eq (allX_byt _ _ _ (fun x hx => hd.mem x (List.mem_of_mem_take hx)) Byt.nil) (hc k (by omega)) h5.2.2
 cases hq : ckK m.cs k with
 | mk a b c =>
  rw [hq] at p1 p2_ p3
  cases hz : ckAt d s k with
  | mk a' b' c' =>
   rw [hz] at p1 p2_ p3
   simp only at p1 p2_ p3
   rw [p1, p2_, p3]
theorem memF_ok {m : ME} (h : memF m = 0) : m.dt.length ≤ 240 ∧ ∃ s : Nat, m.st = (s : Int) ∧ 1 ≤ s ∧ s ≤ 60 ∧ sameR (memX m.dt s) m = true := by
 unfold memF at h
 by_cases h1 : askC m.dt m.st = 0
 ·rw [if_neg (by rw [h1]; simp)] at h
  obtain ⟨h240, s, hst, hs, hs2⟩ := askC_ok h1
  refine ⟨h240, s, hst, hs, hs2, ?_⟩
  rw [hst] at h
  cases hq : sameR (memX m.dt s) m with
  | true => rfl
  | false =>
   have e : sameR (memX m.dt ((s : Int).toNat)) m = false := hq
   rw [e] at h
   simp at h
 ·rw [if_pos h1] at h
  exact absurd h h1
def lcC (m : ME) (A : Int) : Int := if memF m ≠ 0 then memF m else if A < 0 ∨ (m.dt.length : Int) < A then 3 else 0
def LcP (m : ME) (A : Int) (w : World) (e : Ending) (w' : World) : Prop :=
 (¬ lcC m A = 0 ∧ e = .returned (.agg #[.int .i64 (lcC m A), .int .i64 0, .int .i64 0, .slice none 0 0]) ∧ Below w.heap.size w w') ∨
 (lcC m A = 0 ∧ ∃ s K : Nat, m.dt.length ≤ 240 ∧ m.st = (s : Int) ∧ 1 ≤ s ∧ s ≤ 60 ∧ K = A.toNat / s ∧ ∃ v, e = .returned (.agg #[.int .i64 0, .int .i64 ((K * s : Nat) : Int), .int .i64 ((tkN m.dt s K).length : Int), v]) ∧ w'.ownsRow (w.heap.size + 2) 5 1 v (hdN m.dt s K).length (bcs (hdN m.dt s K)) ∧ Below w.heap.size w w')
theorem keptQ (w' : World) (c : Nat) (v0 v1 v2 v3 : Value) : KeptIn c (c + 1) w' ((((w'.setCell ⟨c, 0, none⟩ v0).setCell ⟨c, 1, none⟩ v1).setCell ⟨c, 2, none⟩ v2).setCell ⟨c, 3, none⟩ v3) :=
 ((((KeptIn.refl c (c + 1) w').setCell (p := ⟨c, 0, none⟩) (by simp) (by simp) v0).setCell (p := ⟨c, 1, none⟩) (by simp) (by simp) v1).setCell (p := ⟨c, 2, none⟩) (by simp) (by simp) v2).setCell (p := ⟨c, 3, none⟩) (by simp) (by simp) v3
theorem boxesL (w : World) (x0 x1 x2 x3 x4 : Value) :
  let W := (w.alloc (.cells #[x0, x1, x2, x3, x4] 27)).alloc (.cells #[.int .i64 0, .int .i64 0, .int .i64 0, .slice none 0 0] 33)
  Below w.heap.size w W ∧ W.rowIs w.heap.size 27 5 (r5 x0 x1 x2 x3 x4) ∧ W.rowIs (w.heap.size + 1) 33 4 (r4 (.int .i64 0) (.int .i64 0) (.int .i64 0) (.slice none 0 0)) := by
 refine ⟨(below_new w _).alloc (by simp) _, (row5 w 27 x0 x1 x2 x3 x4).alloc _, ?_⟩
 have := row4 (w.alloc (.cells #[x0, x1, x2, x3, x4] 27)) 33 (.int .i64 0) (.int .i64 0) (.int .i64 0) (.slice none 0 0)
 rw [show (w.alloc (.cells #[x0, x1, x2, x3, x4] 27)).heap.size = w.heap.size + 1 by simp] at this
 exact this
theorem keptIn_drew {lo hi : Nat} {w w' : World} (h : KeptIn lo hi w w') : KeptIn lo hi w w'.drew := ⟨h.os, h.tape, h.output, h.size, h.block⟩
theorem keptIn_cell {lo hi : Nat} {w w' : World} (h : KeptIn lo hi w w') (b o : Nat) (hb : b < w.heap.size) (hn : b < lo ∨ hi ≤ b) : w'.cell? ⟨b, o, none⟩ = w.cell? ⟨b, o, none⟩ :=
 World.cell?_of_block (a := ⟨b, o, none⟩) (h.block b hb hn)
theorem keptIn_own {lo hi base base' : Nat} {w w' : World} {e : TypeId} {size : Nat} {v : Value} {n : Nat} {xs : List Value} (h : KeptIn lo hi w w') (ho : w.ownsRow base e size v n xs) (h1 : base' ≤ base) (h2 : hi ≤ base) : w'.ownsRow base' e size v n xs := by
 refine ⟨ho.1, ?_⟩
 rcases ho.2 with h0 | ⟨g, cap, cur, rfl, hg, hh, r⟩
 ·exact .inl h0
 ·exact .inr ⟨g, cap, cur, rfl, Nat.le_trans h1 hg, by rw [h.block g (Array.getElem?_eq_some_iff.1 hh).1 (.inr (Nat.le_trans h2 hg))]; exact hh, r⟩
theorem implLC_any (tp : TypeId) (pv : Value) (m : ME) (a t u c : Option Addr) (ca ct cu cc : Nat) (A : Int) (w : World) (hE : Env w.heap.size tp pv w) (h1 : MAt w a t u c m) (hca : m.dt.length ≤ ca) (hub : Byt m.dt) (hm : (msz m : Int) ≤ 1048576) (b1 : -9223372036854775808 ≤ A) (b2 : A ≤ 9223372036854775807) :
  Calls Tryz.prog 10 #[.agg #[.slice a m.dt.length ca, .int .i64 m.st, .slice t m.tk.length ct, .slice u m.hd.length cu, .slice c m.cs.length cc], .int .i64 A] w fun e w' => LcP m A w e w' := by
 have MS_ : (msz m : Int) = m.dt.length + m.tk.length + tssz m.tk + m.hd.length + m.cs.length + csz m.cs := by unfold msz; omega
 have hdl : (m.dt.length : Int) ≤ 1048576 := by omega
 obtain ⟨B0, R1, R2⟩ := boxesL w (.slice a m.dt.length ca) (.int .i64 m.st) (.slice t m.tk.length ct) (.slice u m.hd.length cu) (.slice c m.cs.length cc)
 have KR := Hid.mk' (rightMemo_any tp pv m a t u c ca ct cu cc _ ((hE.keep B0).up B0.size (Nat.le_refl _)) (h1.below B0) hca hub hm)
 have HB := Hid.mk' B0
 have H2 := Hid.mk' R2
 obtain ⟨x0, x1, x2, x3, x4, x5⟩ := cells5 R1
 clear MS_ B0 R1 R2 h1 hub hm hE
 generalize hW : (w.alloc (.cells #[.slice a m.dt.length ca, .int .i64 m.st, .slice t m.tk.length ct, .slice u m.hd.length cu, .slice c m.cs.length cc] 27)).alloc (.cells #[.int .i64 0, .int .i64 0, .int .i64 0, .slice none 0 0] 33) = W at *
 go_enter Tryz.func10, Tryz.ntmps10
 go_wp2_with fail
 clear hW x0 x1 x2 x3 x4 x5
 refine KR.out.mono ?_
 rintro e w1 (⟨hf, rfl, hb1⟩ | ⟨hf, h240, s, hst, hs, hs2, hsame, gd, gc, tv, hvs, us, rs, bl, bh, rfl, hx, hb1⟩)
 ·have EC : Hid (lcC m A = memF m) := Hid.mk' (by unfold lcC; rw [if_pos hf])
  obtain ⟨F, hF⟩ : ∃ F, memF m = F := ⟨_, rfl⟩
  rw [hF] at EC hf ⊢
  have HNZ : Hid (¬ F = 0) := Hid.mk' hf
  have hne : (F != 0) = true := by simp [hf]
  have N1 := below_new w1 (.cells #[.slice none 0 0, .int .i64 0, .slice none 0 0, .slice none 0 0, .slice none 0 0] 27)
  have M1 := hb1.trans (N1.mono hb1.size)
  have HZ := Hid.mk' (rowB H2.out M1)
  have B1 := Hid.mk' (HB.out.trans (M1.mono HB.out.size))
  clear hF N1 M1 hb1
  obtain ⟨y0, y1, y2, y3, y4⟩ := cells4 HZ.out
  have f0 := HZ.out.frozen 0
  have f1 := HZ.out.frozen 1
  have f2 := HZ.out.frozen 2
  have f3 := HZ.out.frozen 3
  go_wp2
  refine bodyPost_ret (v := .agg #[.int .i64 F, .int .i64 0, .int .i64 0, .slice none 0 0]) (by simp [results, Tryz.results10, go_sem, *]) rfl ?_
  exact .inl ⟨by rw [EC.out]; exact HNZ.out, by rw [EC.out], B1.out.trans ((keptQ _ _ _ _ _ _).below (Nat.le_succ _) B1.out.size)⟩
 obtain ⟨ta, tc, rfl, -⟩ := own_src hx.rx.tp.row
 obtain ⟨ha, hc, eh, -⟩ := own_bat (hx.rx.own (m.dt.length / s + 1) (Nat.le_refl _))
 rw [eh]
 obtain ⟨Tl, hTl⟩ : ∃ Tl, (tkN m.dt s (m.dt.length / s + 1)).length = Tl := ⟨_, rfl⟩
 obtain ⟨Hl, hHl⟩ : ∃ Hl, (hdN m.dt s (m.dt.length / s + 1)).length = Hl := ⟨_, rfl⟩
 rw [hTl, hHl]
 have CKR := Hid.mk' hx.ck
 have HO := Hid.mk' hx.rx.own
 clear hTl hHl eh
 obtain ⟨J, hJ⟩ : ∃ J, m.dt.length / s + 1 = J := ⟨_, rfl⟩
 have HJ := Hid.mk' hJ
 rw [hJ] at CKR HO ⊢
 have N1 := below_new w1 (.cells #[.slice (some ⟨gd, 0, none⟩) m.dt.length m.dt.length, .int .i64 (s : Int), .slice ta Tl tc, .slice ha Hl hc, .slice (some ⟨gc, 0, none⟩) J J] 27)
 have M1 := hb1.trans (N1.mono hb1.size)
 have HZ := Hid.mk' (rowB H2.out M1)
 have B1 := Hid.mk' (HB.out.trans (M1.mono HB.out.size))
 have RX := row5 w1 27 (.slice (some ⟨gd, 0, none⟩) m.dt.length m.dt.length) (.int .i64 (s : Int)) (.slice ta Tl tc) (.slice ha Hl hc) (.slice (some ⟨gc, 0, none⟩) J J)
 obtain ⟨x0, x1, x2, x3, x4, x5⟩ := cells5 RX
 have CK1 := Hid.mk' (rowB CKR.out N1)
 have HO1 : Hid (∀ i, i ≤ J → (w1.alloc (.cells #[.slice (some ⟨gd, 0, none⟩) m.dt.length m.dt.length, .int .i64 (s : Int), .slice ta Tl tc, .slice ha Hl hc, .slice (some ⟨gc, 0, none⟩) J J] 27)).ownsRow (W.heap.size + 1) 5 1 (hvs i) (hdN m.dt s i).length (bcs (hdN m.dt s i))) := Hid.mk' (fun i hi => own_keep (HO.out i hi) N1)
 have LW : Hid (w.heap.size + 2 ≤ W.heap.size) := Hid.mk' (by have := H2.out.lt; omega)
 have NGC : Hid (W.heap.size ≤ gc) := Hid.mk' (by have := hx.o1; have := hx.o2; omega)
 have NX1 : Hid (W.heap.size ≤ w1.heap.size) := Hid.mk' hb1.size
 have NX2 : Hid (w1.heap.size < (w1.alloc (.cells #[.slice (some ⟨gd, 0, none⟩) m.dt.length m.dt.length, .int .i64 (s : Int), .slice ta Tl tc, .slice ha Hl hc, .slice (some ⟨gc, 0, none⟩) J J] 27)).heap.size) := Hid.mk' x5
 clear N1 M1 hb1 RX hx CKR HO
 generalize hV : w1.alloc (.cells #[.slice (some ⟨gd, 0, none⟩) m.dt.length m.dt.length, .int .i64 (s : Int), .slice ta Tl tc, .slice ha Hl hc, .slice (some ⟨gc, 0, none⟩) J J] 27) = V at *
 by_cases hr : A < 0 ∨ (m.dt.length : Int) < A
 ·have EC : Hid (lcC m A = 3) := Hid.mk' (by unfold lcC; rw [if_neg (by rw [hf]; simp), if_pos hr])
  by_cases hr1 : A < 0
  ·clear hr
   obtain ⟨y0, y1, y2, y3, y4⟩ := cells4 HZ.out
   have f0 := HZ.out.frozen 0
   have f1 := HZ.out.frozen 1
   have f2 := HZ.out.frozen 2
   have f3 := HZ.out.frozen 3
   go_wp2
   refine bodyPost_ret (v := .agg #[.int .i64 3, .int .i64 0, .int .i64 0, .slice none 0 0]) (by simp [results, Tryz.results10, go_sem, *]) rfl ?_
   exact .inl ⟨by rw [EC.out]; simp, by rw [EC.out], B1.out.trans ((keptQ _ _ _ _ _ _).below (Nat.le_succ _) B1.out.size)⟩
  ·have hr2 : (m.dt.length : Int) < A := by rcases hr with h | h; exact absurd h hr1; exact h
   clear hr
   obtain ⟨y0, y1, y2, y3, y4⟩ := cells4 HZ.out
   have f0 := HZ.out.frozen 0
   have f1 := HZ.out.frozen 1
   have f2 := HZ.out.frozen 2
   have f3 := HZ.out.frozen 3
   go_wp2
   refine bodyPost_ret (v := .agg #[.int .i64 3, .int .i64 0, .int .i64 0, .slice none 0 0]) (by simp [results, Tryz.results10, go_sem, *]) rfl ?_
   exact .inl ⟨by rw [EC.out]; simp, by rw [EC.out], B1.out.trans ((keptQ _ _ _ _ _ _).below (Nat.le_succ _) B1.out.size)⟩
 obtain ⟨n, rfl⟩ : ∃ n : Nat, A = (n : Int) := ⟨A.toNat, by omega⟩
 have hn : n ≤ m.dt.length := by omega
 have EC : Hid (lcC m (n : Int) = 0) := Hid.mk' (by unfold lcC; rw [if_neg (by rw [hf]; simp), if_neg hr])
 have hKJ : n / s < J := by rw [← hJ]; exact Nat.lt_succ_of_le (Nat.div_le_div_right hn)
 have hq0 : (n : Int) / (s : Int) = ((n / s : Nat) : Int) := by simp
 have hq1 : n / s ≤ n := Nat.div_le_self _ _
 obtain ⟨K, hK⟩ : ∃ K, n / s = K := ⟨_, rfl⟩
 rw [hK] at hq0 hq1 hKJ
 have HK := Hid.mk' hK
 have hwK : IntKind.i64.wrap (K : Int) = (K : Int) := by rw [IntKind.wrap_i64]; omega
 have hs0 : ¬ s = 0 := by omega
 have ck : (K : Int) < (J : Int) := by omega
 have hr1 : ¬ (n : Int) < 0 := by omega
 have hr2 : ¬ (m.dt.length : Int) < (n : Int) := by omega
 have HS := Hid.mk' (And.intro h240 (And.intro hst (And.intro hs hs2)))
 have OK := HO1.out K (by omega)
 obtain ⟨va, vc, ev, -⟩ := own_bat OK
 have c1 : V.cell? ⟨gc, K * 3, none⟩ = some (.int .i64 ((K * s : Nat) : Int)) := by
  rw [CK1.out.cell (i := K * 3) (by omega)]
  unfold ckV
  rw [show K * 3 / 3 = K by omega, show K * 3 % 3 = 0 by omega, if_pos hKJ]; rfl
 have c2 : V.cell? ⟨gc, K * 3 + 1, none⟩ = some (.int .i64 ((tkN m.dt s K).length : Int)) := by
  rw [CK1.out.cell (i := K * 3 + 1) (by omega)]
  unfold ckV
  rw [show (K * 3 + 1) / 3 = K by omega, show (K * 3 + 1) % 3 = 1 by omega, if_pos hKJ]; rfl
 have c3 : V.cell? ⟨gc, K * 3 + 2, none⟩ = some (.slice va (hdN m.dt s K).length vc) := by
  rw [CK1.out.cell (i := K * 3 + 2) (by omega)]
  unfold ckV
  rw [show (K * 3 + 2) / 3 = K by omega, show (K * 3 + 2) % 3 = 2 by omega, if_pos hKJ]
  show some (hvs K) = _
  rw [ev]
 have lg := CK1.out.lt
 rw [ev] at OK
 have HOK := Hid.mk' OK
 clear OK ev hst hs hs2 h240 hsame hK hJ hf hr CK1 HO1
 obtain ⟨Tn, hTn⟩ : ∃ Tn, (tkN m.dt s K).length = Tn := ⟨_, rfl⟩
 obtain ⟨H, hH⟩ : ∃ H, hdN m.dt s K = H := ⟨_, rfl⟩
 obtain ⟨Q, hQ⟩ : ∃ Q, K * s = Q := ⟨_, rfl⟩
 rw [hTn] at c2
 rw [hH] at c3 HOK
 rw [hQ] at c1
 have HTn := Hid.mk' hTn
 have HH := Hid.mk' hH
 have HQ := Hid.mk' hQ
 clear hTn hH hQ
 go_wp2_with (first | go_big_skip)
 clear hV
 have HCE : Hid (∀ v, Below V.heap.size V v → (fun v => v.cell? ⟨w1.heap.size, 4, none⟩ = some (.slice (some ⟨gc, 0, none⟩) J J) ∧ v.cell? ⟨w1.heap.size, 1, none⟩ = some (.int .i64 (s : Int)) ∧ v.cell? ⟨gc, K * 3, none⟩ = some (.int .i64 (Q : Int)) ∧ v.cell? ⟨gc, K * 3 + 1, none⟩ = some (.int .i64 (Tn : Int)) ∧ v.cell? ⟨gc, K * 3 + 2, none⟩ = some (.slice va H.length vc)) v) := Hid.mk' (fun v hb => ⟨(hb.cell x5).trans x4, (hb.cell x5).trans x1, (hb.cell lg).trans c1, (hb.cell lg).trans c2, (hb.cell lg).trans c3⟩)
 clear x0 x1 x2 x3 x4 x5 c1 c2 c3
 refine wp_region_held_drew (S := (fun v => v.cell? ⟨w1.heap.size, 4, none⟩ = some (.slice (some ⟨gc, 0, none⟩) J J) ∧ v.cell? ⟨w1.heap.size, 1, none⟩ = some (.int .i64 (s : Int)) ∧ v.cell? ⟨gc, K * 3, none⟩ = some (.int .i64 (Q : Int)) ∧ v.cell? ⟨gc, K * 3 + 1, none⟩ = some (.int .i64 (Tn : Int)) ∧ v.cell? ⟨gc, K * 3 + 2, none⟩ = some (.slice va H.length vc))) (by kernel_rfl) (HCE.out _ (Below.refl _ _).drew) (fun hHeld => ?_)
 refine tkY 0 ?_
 refine tkY 1 ?_
 refine tkY 2 ?_
 refine tkY 3 ?_
 refine tkY 4 ?_
 refine tkY 5 ?_
 refine tkY 6 ?_
 refine tkY 7 ?_
 refine tkY 8 ?_
 obtain ⟨k0, k1, k2, k3, k4⟩ := cells4 HZ.out
 have f0 := HZ.out.frozen 0
 have f1 := HZ.out.frozen 1
 have f2 := HZ.out.frozen 2
 have f3 := HZ.out.frozen 3
 have lz := HZ.out.lt
 have lw := LW.out
 have lgc : w.heap.size + 1 ≠ gc := by have := NGC.out; omega
 have lx : w.heap.size + 1 ≠ w1.heap.size := by have := NX1.out; omega
 have K2 := keptQ V (w.heap.size + 1) (.int .i64 0) (.int .i64 (Q : Int)) (.int .i64 (Tn : Int)) (.slice va H.length vc)
 have K3 := keptIn_drew K2
 have n1 : w1.heap.size < w.heap.size + 1 ∨ w.heap.size + 1 + 1 ≤ w1.heap.size := by have := NX1.out; omega
 have n2 : gc < w.heap.size + 1 ∨ w.heap.size + 1 + 1 ≤ gc := by have := NGC.out; omega
 refine wpAnyH_ready (rs := [9]) (by kernel_rfl) (by simp) ?_
 refine AllReadyH.cons (o := ⟨_, _, _, _, _, _⟩) rfl (fun K9 hK => ?_) AllReadyH.nil
 go_simp
 refine hK.out _ _ ?_ (fun hHeld => ?_)
 ·have h0 := HCE.out V (Below.refl _ _)
  clear hK HCE
  exact ⟨(keptIn_cell K3 _ _ NX2.out n1).trans h0.1, (keptIn_cell K3 _ _ NX2.out n1).trans h0.2.1, (keptIn_cell K3 _ _ lg n2).trans h0.2.2.1, (keptIn_cell K3 _ _ lg n2).trans h0.2.2.2.1, (keptIn_cell K3 _ _ lg n2).trans h0.2.2.2.2⟩
 clear hK K9
 try simp only [Act.put, zA, zB, zC]
 refine wpAnyH_done (by kernel_rfl) ?_ _
 clear hHeld
 go_wp2
 refine bodyPost_ret (v := .agg #[.int .i64 0, .int .i64 (Q : Int), .int .i64 (Tn : Int), .slice va H.length vc]) (by simp [results, Tryz.results10, go_sem, *]) rfl ?_
 obtain ⟨h240, hst, hs, hs2⟩ := HS.out
 refine .inr ⟨EC.out, s, K, h240, hst, hs, hs2, by rw [← HK.out]; rfl, .slice va H.length vc, by rw [HQ.out, HTn.out], ?_, B1.out.trans (K3.below (Nat.le_succ _) B1.out.size)⟩
 rw [HH.out]
 exact keptIn_own K3 HOK.out (by omega) (by omega)

end Go.Proofs.YtieeojhdidjnaaaGreatDoor
