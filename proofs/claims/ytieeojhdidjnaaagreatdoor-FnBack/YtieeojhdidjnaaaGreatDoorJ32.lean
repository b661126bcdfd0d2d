/- The model reads an edit: from the last check ahead of it to where all is as it was. -/
import Derived.Test.YtieeojhdidjnaaaGreatDoorJ31
set_option maxHeartbeats 6400000
set_option maxRecDepth 100000
set_option linter.unusedVariables false
set_option linter.unusedSimpArgs false
namespace Go.Proofs.YtieeojhdidjnaaaGreatDoor
open Go.RowKit
def fedT (T : List Int) (q x : Nat) : List TK := (allX [] (hdA T q) ((T.drop q).take (x - q))).1
def GoP (m : ME) (s i j : Nat) (p : List Int) (w : World) (e : Ending) (w' : World) : Prop :=
 ∃ v u us RT RH, e = .returned (.tuple #[v, u, .int .i64 (meetN (mtF m.dt (spl m.dt i j p) s i j p.length) (spl m.dt i j p).length (i / s * s) : Int)]) ∧ TokS w.heap.size w' v RT us ∧ w'.ownsRow w.heap.size 5 1 u RH.length (bcs RH) ∧ Below w.heap.size w w' ∧
  (∀ x, meetN (mtF m.dt (spl m.dt i j p) s i j p.length) (spl m.dt i j p).length (i / s * s) = x → (x < (spl m.dt i j p).length → RT = m.tk.take (tkN m.dt s (i / s)).length ++ fedT (spl m.dt i j p) (i / s * s) x ++ m.tk.drop (tkN m.dt s ((x + j - p.length) / s)).length ∧ RH = m.hd) ∧ (x = (spl m.dt i j p).length → RT = m.tk.take (tkN m.dt s (i / s)).length ++ fedT (spl m.dt i j p) (i / s * s) x ∧ RH = hdA (spl m.dt i j p) x))
theorem tssz_takeLe (l : List TK) : ∀ n, tssz (l.take n) ≤ tssz l := by
 induction l with
 | nil => intro n; simp
 | cons x r ih => intro n; cases n with
  | zero => simp [tssz]
  | succ n => simp [tssz]; have := ih n; omega
theorem HP_3 {g : Nat} {m : ME} {a t u c : Option Addr} {ca ct cu cc : Nat} {w : World} (h : P1 g m a t u c ca ct cu cc w) : w.cell? ⟨g, 3, none⟩ = some (.slice u m.hd.length cu) := by
 obtain ⟨x0, x1, x2, x3, x4, x5⟩ := cells5 h.r
 exact x3
theorem TokIn.for {base : Nat} {w : World} {g g' : Option Nat} {t : TK} {u : Value} (h : TokIn base w g t u) (hg : ∀ k, g' = some k → k < base) : TokIn base w g' t u := by
 rcases h with h | ⟨lo, w9, rs, h1, h2, h3, h4, h5⟩
 ·exact .inl h
 ·exact .inr ⟨lo, w9, rs, h1, h2, h3, h4, fun k e => .inl (Nat.lt_of_lt_of_le (hg k e) h1)⟩
theorem l13Go_any (g : Nat) (m : ME) (u : Option Addr) (bd od bt ot b9 o9 ca ct cu cc s i j : Nat) (e : Option Addr) (d : Nat) (p : List Int) (w : World) (hp : P1 g m (some ⟨bd, od, none⟩) (some ⟨bt, ot, none⟩) u (some ⟨b9, o9, none⟩) ca ct cu cc w) (hca : m.dt.length ≤ ca) (hct : m.tk.length ≤ ct) (hub : Byt m.dt) (hpb : Byt p) (he : BAt w e p) (hst : m.st = (s : Int)) (hs : 1 ≤ s) (hs2 : s ≤ 60) (hd : m.dt.length ≤ 240) (ecl : m.cs.length = m.dt.length / s + 1) (eck : ∀ k, k < m.dt.length / s + 1 → ckK m.cs k = ckAt m.dt s k) (hcnt : ∀ k, k < m.dt.length / s + 1 → (tkN m.dt s k).length ≤ m.tk.length) (hat : i + j ≤ m.dt.length) (hL : (spl m.dt i j p).length ≤ 240) (hpl : p.length ≤ 240) (hm : (msz m : Int) ≤ 1048576) :
  Calls Tryz.prog 59 #[.pointer (some ⟨g, 0, none⟩), .int .i64 (i : Int), .int .i64 (j : Int), .slice e p.length d] w fun ev w' => GoP m s i j p w ev w' := by
 have MS_ : (msz m : Int) = m.dt.length + m.tk.length + tssz m.tk + m.hd.length + m.cs.length + csz m.cs := by unfold msz; omega
 have KS := Hid.mk' (l13SpliceB_any bd od ca m.dt i j e d p w hp.m1.1 hca he (by omega) (by omega) hat)
 have HP := Hid.mk' hp
 obtain ⟨x0, x1, x2, x3, x4, x5⟩ := cells5 hp.r
 rw [hst] at x1
 go_enter Tryz.func59, Tryz.ntmps59
 go_wp2_with fail
 refine KS.out.mono ?_
 rintro e1 w1 ⟨tx, rfl, ot1, hb1⟩
 clear x0 x1 x2 x3 x4 x5
 have P1_ := Hid.mk' (HP.out.below hb1)
 have B1 := Hid.mk' hb1
 obtain ⟨ta, tcap, rfl, bta⟩ := own_bat ot1
 have OT1 := Hid.mk' ot1
 have BT1 := Hid.mk' bta
 clear hb1 ot1 bta KS
 have hn : i ≤ m.dt.length := by omega
 have hKJ : i / s < m.dt.length / s + 1 := Nat.lt_succ_of_le (Nat.div_le_div_right hn)
 have hq0 : (i : Int) / (s : Int) = ((i / s : Nat) : Int) := by simp
 have hq1 : i / s ≤ i := Nat.div_le_self _ _
 have hqs : i / s * s ≤ i := Nat.div_mul_le_self _ _
 have hs0 : ¬ s = 0 := by omega
 obtain ⟨x0, x1, x2, x3, x4, x5⟩ := cells5 P1_.out.r
 rw [hst] at x1
 rcases P1_.out.m1.2.2.2 with hnil | ⟨b8, o8, e8, hbs9, hc9⟩
 ·rw [hnil] at ecl; simp at ecl
 cases e8
 obtain ⟨p1, p2_, pq, pc, p3, p4⟩ := hc9 (i / s) (by omega)
 rw [eck (i / s) hKJ] at p1 p2_ p3 p4
 obtain ⟨K, hK⟩ : ∃ K, i / s = K := ⟨_, rfl⟩
 rw [hK] at hKJ hq0 hq1 hqs p1 p2_ p3 p4
 have hwK : IntKind.i64.wrap (K : Int) = (K : Int) := by rw [IntKind.wrap_i64]; omega
 have ck : (K : Int) < (m.cs.length : Int) := by omega
 have c0 : w1.cell? ⟨b9, o9 + K * 3, none⟩ = some (.int .i64 ((K * s : Nat) : Int)) := p1
 have c1 : w1.cell? ⟨b9, o9 + K * 3 + 1, none⟩ = some (.int .i64 ((tkN m.dt s K).length : Int)) := p2_
 have c2 : w1.cell? ⟨b9, o9 + K * 3 + 2, none⟩ = some (.slice pq (hdN m.dt s K).length pc) := p3
 have c3 : BAt w1 pq (hdN m.dt s K) := p4
 have tc := hcnt K hKJ
 have gH : GoodH (hdN m.dt s K) := allX_good _ _ _ (.inl rfl)
 have hH := gH.len
 have bH : Byt (hdN m.dt s K) := allX_byt _ _ _ (fun x hx => hub.mem x (List.mem_of_mem_take hx)) Byt.nil
 obtain ⟨Q, hQ⟩ : ∃ Q, K * s = Q := ⟨_, rfl⟩
 obtain ⟨H, hH0⟩ : ∃ H, hdN m.dt s K = H := ⟨_, rfl⟩
 obtain ⟨cn, hcn⟩ : ∃ cn, (tkN m.dt s K).length = cn := ⟨_, rfl⟩
 rw [hQ] at c0 hqs
 rw [hH0] at c2 c3 hH bH gH
 rw [hcn] at c1 tc
 have HQ := Hid.mk' hQ
 have HH := Hid.mk' hH0
 have HCN := Hid.mk' hcn
 have HK := Hid.mk' hK
 have ttk := tssz_takeLe m.tk cn
 have K4 : Hid (∀ V, Below w1.heap.size w1 V → Calls Tryz.prog 67 #[.slice (some ⟨bt, ot, none⟩) cn ct] V fun e w' => ∃ v us, e = .returned v ∧ TokS V.heap.size w' v (m.tk.take cn) us ∧ Below V.heap.size V w') := Hid.mk' (fun V hV => by
  have := l4Copy_any (some ⟨bt, ot, none⟩) ct (m.tk.take cn) V ((P1_.out.m1.2.1.head tc).below hV) (by rw [List.length_take]; omega)
  rw [List.length_take, Nat.min_eq_left tc] at this
  exact this)
 have K5 : Hid (∀ V, Below w1.heap.size w1 V → Calls Tryz.prog 51 #[.slice pq H.length pc] V fun e w' => ∃ v, e = .returned v ∧ w'.ownsRow V.heap.size 5 1 v H.length (bcs H) ∧ Below V.heap.size V w') := Hid.mk' (fun V hV => l1Copy_own pq pc H V (c3.below hV) (by omega))
 have ECL := Hid.mk' ecl
 have ECK := Hid.mk' eck
 have HCT := Hid.mk' hcnt
 have sTK : (m.tk.length : Int) + tssz m.tk ≤ 1048576 := by omega
 have sHD : (m.hd.length : Int) ≤ 1048576 := by omega
 have sCS : m.cs.length ≤ 1048576 := by omega
 clear p1 p2_ p3 p4 hK hQ hH0 hcn hc9 ttk MS_ c3 ecl eck hcnt hp hm
 go_wp2
 refine wp_region_held_drew (S := (fun v => v.cell? ⟨g, 1, none⟩ = some (.int .i64 (s : Int)) ∧ v.cell? ⟨g, 4, none⟩ = some (.slice (some ⟨b9, o9, none⟩) m.cs.length cc))) (by kernel_rfl) ⟨x1, x4⟩ (fun hHeld => ?_)
 refine tkY 0 ?_
 refine tkY 1 ?_
 refine tkY 2 ?_
 refine tkY 3 ?_
 refine tkY 4 ?_
 refine tkY 5 ?_
 refine tkY 6 ?_
 refine tkY 7 ?_
 refine tkY 8 ?_
 refine tkY 9 ?_
 refine tkY 10 ?_
 refine tkY 11 ?_
 refine wpAnyH_done (by kernel_rfl) ?_ _
 clear hHeld
 have i1 : (0 : Int) ≤ (cn : Int) := by omega
 have i2 : (cn : Int) ≤ (m.tk.length : Int) := by omega
 have i3 : (cn : Int) ≤ (ct : Int) := by omega
 go_wp2
 refine wp_region_held_drew (S := (fun v => v.cell? ⟨g, 2, none⟩ = some (.slice (some ⟨bt, ot, none⟩) m.tk.length ct) ∧ v.cell? ⟨b9, o9 + K * 3 + 1, none⟩ = some (.int .i64 (cn : Int)))) (by kernel_rfl) ⟨x2, c1⟩ (fun hHeld => ?_)
 refine tkY 0 ?_
 refine tkY 1 ?_
 refine tkY 2 ?_
 refine tkY 3 ?_
 refine tkY 4 ?_
 refine tkY 5 ?_
 refine tkY 6 ?_
 refine tkY 7 ?_
 refine tkY 8 ?_
 refine wpAnyH_ready (rs := [9]) (by kernel_rfl) (by simp) ?_
 refine AllReadyH.cons (o := ⟨_, _, _, _, _, _⟩) rfl (fun K hK => ?_) AllReadyH.nil
 go_simp
 refine (K4.out _ (Below.refl _ _).drew.drew).mono ?_
 rintro e2 w2 ⟨tv, us0, rfl, tk2, hb2⟩
 replace hb2 := undrew (undrew hb2)
 obtain ⟨tva, tvc, rfl, -⟩ := own_src tk2.row
 refine hK.out _ _ ⟨(hb2.cell x5).trans x2, (hb2.cell hbs9).trans c1⟩ (fun hHeld => ?_)
 clear hK K
 try simp only [Act.put, zA, zB, zC]
 refine tkY 10 ?_
 refine wpAnyH_done (by kernel_rfl) ?_ _
 clear hHeld
 have TK2 : Hid (TokS w1.heap.size w2 (.slice tva (m.tk.take cn).length tvc) (m.tk.take cn) us0) := Hid.mk' tk2
 have P2 := Hid.mk' (P1_.out.below hb2)
 have B2 := Hid.mk' (B1.out.trans (hb2.mono B1.out.size))
 have d0 : w2.cell? ⟨b9, o9 + K * 3, none⟩ = some (.int .i64 (Q : Int)) := (hb2.cell (p := ⟨b9, o9 + K * 3, none⟩) hbs9).trans c0
 have d2 : w2.cell? ⟨b9, o9 + K * 3 + 2, none⟩ = some (.slice pq H.length pc) := (hb2.cell (p := ⟨b9, o9 + K * 3 + 2, none⟩) hbs9).trans c2
 have hbs2 : b9 < w2.heap.size := Nat.lt_of_lt_of_le hbs9 hb2.size
 have K6 := Hid.mk' (K5.out w2 hb2)
 have HB2 := Hid.mk' hb2
 clear tk2 hb2 x0 x1 x2 x3 x4 x5 c0 c1 c2 hbs9 K4 K5 OT1
 obtain ⟨T, hT⟩ : ∃ T, spl m.dt i j p = T := ⟨_, rfl⟩
 have eT : T.take Q = m.dt.take Q := by rw [← hT]; exact spl_take hqs hn
 have lT : T.length = m.dt.length - j + p.length := by rw [← hT]; exact spl_len hat
 have EH : Hid (hdA T Q = H) := Hid.mk' (by rw [hdA_same eT, ← HH.out, ← HQ.out]; rfl)
 have bT : Byt T := by
  rw [← hT]
  exact Byt.of (fun x hx => by
   unfold spl at hx
   rcases List.mem_append.1 hx with h | h
   ·rcases List.mem_append.1 h with h | h
    ·exact hub.mem x (List.mem_of_mem_take h)
    ·exact hpb.mem x h
   ·exact hub.mem x (List.mem_of_mem_drop h))
 rw [hT] at hL BT1 ⊢
 have HT := Hid.mk' hT
 have HBT := Hid.mk' bT
 have HLT := Hid.mk' lT
 clear hT eT bT lT
 go_wp2_with fail
 refine K6.out.mono ?_
 rintro e3 w3 ⟨hv, rfl, oh3, hb3⟩
 have TK3 : Hid (TokS w1.heap.size w3 (.slice tva (m.tk.take cn).length tvc) (m.tk.take cn) us0) := Hid.mk' ⟨TK2.out.len, own_keep TK2.out.row hb3, TK2.out.one, fun i t u h1 h2 => (TK2.out.all i t u h1 h2).below hb3⟩
 have HB3 := Hid.mk' (HB2.out.trans (hb3.mono HB2.out.size))
 have d3 : w3.cell? ⟨b9, o9 + K * 3, none⟩ = some (.int .i64 (Q : Int)) := (hb3.cell (p := ⟨b9, o9 + K * 3, none⟩) hbs2).trans d0
 have OH3 := Hid.mk' (own_down oh3 HB2.out.size)
 have lcn : (m.tk.take cn).length = cn := by rw [List.length_take]; omega
 rw [lcn] at TK3
 clear K6 P2 d0 d2 oh3 hb3 TK2 B2 HB2 lcn
 go_wp2
 have QL : Q ≤ T.length := by rw [HLT.out]; omega
 obtain ⟨D, hD⟩ : ∃ D, T.drop Q = D := ⟨_, rfl⟩
 have lD : D.length = T.length - Q := by rw [← hD, List.length_drop]
 have HDD := Hid.mk' hD
 have HA : Hid (∀ k, hdA T (Q + k) = (allX [] H (D.take k)).2) := Hid.mk' (fun k => by rw [hdA_add, EH.out, hD])
 have bD : Byt D := by rw [← hD]; exact Byt.of (fun x hx => HBT.out.mem x (List.mem_of_mem_drop hx))
 obtain ⟨ff, hff⟩ : ∃ ff, mtF m.dt T s i j p.length = ff := ⟨_, rfl⟩
 have HF := Hid.mk' hff
 clear hD hff
 go_loopw [13, 14, 15] (fun tv hv iv wr => ∃ (k : Nat) (us : List Value), Q + k ≤ T.length ∧ iv = .int .i64 ((Q + k : Nat) : Int) ∧ TokS w1.heap.size wr tv (m.tk.take cn ++ (allX [] H (D.take k)).1) us ∧ wr.ownsRow w1.heap.size 5 1 hv (allX [] H (D.take k)).2.length (bcs (allX [] H (D.take k)).2) ∧ (allX [] H (D.take k)).1.length ≤ 161 * k ∧ (allX [] H (D.take k)).2.length ≤ 160 ∧ Byt (allX [] H (D.take k)).2 ∧ meetN ff T.length Q = meetN ff T.length (Q + k) ∧ Below w1.heap.size w1 wr) (fun _ _ iv _ => T.length - (intOf iv).toNat)
 case atStart => exact ⟨0, us0, by omega, rfl, by simpa [allX] using TK3.out, OH3.out, Nat.zero_le _, by show H.length ≤ 160; omega, bH, rfl, HB3.out⟩
 case round =>
  obtain ⟨k, us, hk, rfl, ht, hn', l1, l2, hby, hme, hbl⟩ := hrel
  by_cases hlt : Q + k < T.length
  ·have ci : ((Q + k : Nat) : Int) < (T.length : Int) := by omega
   obtain ⟨y0, y1⟩ := bD k (by omega)
   obtain ⟨y, hy⟩ : ∃ y : Nat, D.getD k 0 = (y : Int) := ⟨(D.getD k 0).toNat, by omega⟩
   rw [hy] at y1
   have hcell : ∃ ga oa, ta = some ⟨ga, oa, none⟩ ∧ wr.cell? ⟨ga, oa + (Q + k), none⟩ = some (.int .u8 y) := by
    rcases BT1.out with h0 | ⟨ga, oa, ea, hbs, hc⟩
    ·exact absurd hlt (by rw [h0]; simp)
    ·refine ⟨ga, oa, ea, (hbl.cell (p := ⟨ga, oa + (Q + k), none⟩) hbs).trans ((hc (Q + k) hlt).trans ?_)⟩
     have : T.getD (Q + k) 0 = D.getD k 0 := by rw [← HDD.out]; simp
     unfold bv
     rw [this, hy]
   obtain ⟨ga, oa, rfl, hcell⟩ := hcell
   have ES : Hid (allX [] H (D.take (k + 1)) = ((allX [] H (D.take k)).1 ++ (feedX (allX [] H (D.take k)).2 y).1, (feedX (allX [] H (D.take k)).2 y).2)) := Hid.mk' (by
    rw [take_snoc_int (by omega), allX_append, hy]
    simp [allX])
   have hff : Hid (ff (Q + k) = (decide (i + p.length ≤ Q + k) && (decide ((Q + k + j - p.length) % s = 0) && beqB (hdN m.dt s ((Q + k + j - p.length) / s)) (allX [] H (D.take k)).2))) := Hid.mk' (by rw [← HF.out]; unfold mtF; rw [HA.out])
   clear hy y0
   obtain ⟨TT, hTT⟩ : ∃ TT, (allX [] H (D.take k)).1 = TT := ⟨_, rfl⟩
   rw [hTT] at ES ht l1
   have ETT := Hid.mk' hTT
   clear hTT
   generalize (allX [] H (D.take k)).2 = HH' at *
   obtain ⟨an, can, rfl, hcan⟩ := own_cap hn'
   obtain ⟨an', can', en, ban⟩ := own_bat hn'
   injection en with en1 _ en3
   subst en1 en3
   have P4 := Hid.mk' (P1_.out.below hbl)
   have wA : IntKind.i64.wrap (((Q + k : Nat) : Int) + (j : Int)) = ((Q + k : Nat) : Int) + (j : Int) := by rw [IntKind.wrap_i64]; omega
   have wB : IntKind.i64.wrap (((Q + k : Nat) : Int) + (j : Int) - (p.length : Int)) = ((Q + k : Nat) : Int) + (j : Int) - (p.length : Int) := by rw [IntKind.wrap_i64]; omega
   have wC : IntKind.i64.wrap ((i : Int) + (p.length : Int)) = (i : Int) + (p.length : Int) := by rw [IntKind.wrap_i64]; omega
   have hk2 : k ≤ 240 := by omega
   obtain ⟨X, hX⟩ : ∃ X, Q + k = X := ⟨_, rfl⟩
   rw [hX] at wA wB ci hcell hff hk hlt hme ⊢
   have HX := Hid.mk' hX
   have lTT : (m.tk.take cn ++ TT).length ≤ 1048576 + 161 * k := by rw [List.length_append, List.length_take]; omega
   have fl := feedX_len HH' y
   have fh := Hid.mk' (feedX_held HH' y)
   have fb := Hid.mk' (feedX_byt (b := y) hby (by omega))
   have KF := Hid.mk' (fun V (hV : BAt V an HH') => l5Feed_any an can HH' y V hV hby hcan (by omega) (by omega))
   by_cases hx : X < i + p.length
   ·have cg : ¬ (X : Int) ≥ (i : Int) + (p.length : Int) := by omega
    have fX : Hid (ff X = false) := Hid.mk' (by rw [hff.out, decide_eq_false (by omega)]; rfl)
    have HT' := Hid.mk' ht
    have HB := Hid.mk' hbl
    have BN := Hid.mk' ban
    have HME := Hid.mk' hme
    clear ht hn' hbl ban hff hX hme
    go_wp2_with (first | go_big_skip | fail)
    generalize hR : feedX HH' y = R at *
    refine (KF.out _ BN.out).mono ?_
    intro e2 w2' hx2
    obtain ⟨v1, u1, us1, rfl, t1, hA1, o1, b1⟩ := hx2.toks
    have OV := Hid.mk' (own_keep HT'.out.row b1)
    obtain ⟨a1, c1', rfl, s1⟩ := own_src t1.row
    have S1 := Hid.mk' s1
    have T1 := Hid.mk' t1
    have LN := Hid.mk' (tcs_len R.1 us1 t1.len)
    have PP1 := Hid.mk' (tcs_one R.1 us1 t1.one)
    have HA1 := Hid.mk' (hA1 _ (fun k hk => (HT'.out.row.lt k hk).2))
    have O1 := Hid.mk' o1
    have BB2 := Hid.mk' b1
    have SZ := Hid.mk' (Nat.le_trans HB.out.size b1.size)
    clear hx2 t1 hA1 o1 b1 s1 KF
    go_wp2_with (at_builtin; refine wpList_append_at _ rfl (.tmp 101) (.tmp 102) 24 rfl w1.heap.size 107 (.agg #[.int .i64 0, .int .i64 0, .string ⟨#[]⟩, .slice none 0 0, .bool false]) 5 64 Tryz.underlying24 Tryz.infoTok rfl (by decide) _ _ _ rfl OV.out _ R.1.length _ (tcs R.1 us1) rfl LN.out S1.out PP1.out (by unfold maxLen; omega) (by omega) SZ.out ?_; intro v' w3' o3 hg3 at3)
    have T3 := Hid.mk' (TokS.app HT'.out BB2.out HB.out.size HA1.out T1.out.len T1.out.one o3 hg3 at3)
    have B3' := Hid.mk' ((HB.out.trans (BB2.out.mono HB.out.size)).grown hg3 SZ.out (own_lo OV.out))
    have U3 : Hid (w3'.ownsRow w1.heap.size 5 1 u1 R.2.length (bcs R.2)) := Hid.mk' (own_down (O1.out.kept hg3 (by
     cases hu1 : u1.ownBlock with
     | none => exact .inl rfl
     | some q => exact .inr (fun e => by
       have h1 := (O1.out.lt q hu1).1
       have h2 := (HT'.out.row.lt q e.symm).2
       omega))) HB.out.size)
    have L3 : Hid ((TT ++ R.1).length ≤ 161 * (k + 1)) := Hid.mk' (by rw [List.length_append]; omega)
    clear o3 hg3 at3
    go_roundw
    case rel =>
     have ex := HX.out
     refine ⟨k + 1, us ++ us1, by omega, by rw [show Q + (k + 1) = X + 1 by omega]; go_num, by rw [ES.out, ← List.append_assoc]; exact T3.out, by rw [ES.out]; exact U3.out, by rw [ES.out]; exact L3.out, by rw [ES.out]; exact fh.out, by rw [ES.out]; exact fb.out, by rw [show Q + (k + 1) = X + 1 by omega, HME.out, meetN_no hlt fX.out], B3'.out⟩
    case measure => simp [intOf]; omega
   ·have cg : (X : Int) ≥ (i : Int) + (p.length : Int) := by omega
    have lt2 := HLT.out
    have ho : X + j - p.length ≤ m.dt.length := by omega
    have eo : (X : Int) + (j : Int) - (p.length : Int) = ((X + j - p.length : Nat) : Int) := by omega
    have hoJ : (X + j - p.length) / s < m.dt.length / s + 1 := Nat.lt_succ_of_le (Nat.div_le_div_right ho)
    have eh : (ckK m.cs ((X + j - p.length) / s)).hd = hdN m.dt s ((X + j - p.length) / s) := by rw [ECK.out _ hoJ]; rfl
    have hhl : (hdN m.dt s ((X + j - p.length) / s)).length ≤ 159 := (allX_good _ _ _ (.inl rfl)).len
    have KST := l13Stands_any g m (some ⟨bd, od, none⟩) (some ⟨bt, ot, none⟩) u b9 o9 ca ct cu cc s (X + j - p.length) an can HH' wr P4.out hst hs hs2 ECL.out sCS ho hd ban (by omega) (by rw [eh]; omega)
    rw [← eo, eh] at KST
    have KST := Hid.mk' KST
    have HT' := Hid.mk' ht
    have HB := Hid.mk' hbl
    have BN := Hid.mk' ban
    have HME := Hid.mk' hme
    have EO := Hid.mk' eo
    have HO := Hid.mk' (And.intro ho hoJ)
    clear ht hn' hbl ban hX hme eo lt2 eh hhl ho hoJ
    obtain ⟨Bl, hBl⟩ : ∃ Bl, (decide ((X + j - p.length) % s = 0) && beqB (hdN m.dt s ((X + j - p.length) / s)) HH') = Bl := ⟨_, rfl⟩
    rw [hBl] at KST
    have fX : Hid (ff X = Bl) := Hid.mk' (by rw [hff.out, decide_eq_true (by omega), hBl]; rfl)
    clear hBl hff
    go_wp2_with (first | go_big_skip | go_big_want | fail)
    refine KST.out.mono ?_
    rintro eS wS ⟨rfl, hbS⟩
    have HT' := Hid.mk' (show TokS w1.heap.size wS _ _ _ from ⟨HT'.out.len, own_keep HT'.out.row hbS, HT'.out.one, fun i t u h1 h2 => (HT'.out.all i t u h1 h2).below hbS⟩)
    have P5 := Hid.mk' (P4.out.below hbS)
    have hcell : wS.cell? ⟨ga, oa + X, none⟩ = some (.int .u8 y) := (hbS.cell (p := ⟨ga, oa + X, none⟩) (by
     have := hcell
     unfold World.cell? at this
     by_cases hb : ga < wr.heap.size
     ·exact hb
     ·rw [Array.getElem?_eq_none (Nat.le_of_not_lt hb)] at this; simp at this)).trans hcell
    have BN := Hid.mk' (BN.out.below hbS)
    have HB := Hid.mk' (HB.out.trans (hbS.mono HB.out.size))
    clear KST hbS P4
    cases Bl with
    | false =>
     go_wp2_with (first | go_big_skip | go_big_want | fail)
     generalize hR : feedX HH' y = R at *
     refine (KF.out _ BN.out).mono ?_
     intro e2 w2' hx2
     obtain ⟨v1, u1, us1, rfl, t1, hA1, o1, b1⟩ := hx2.toks
     have OV := Hid.mk' (own_keep HT'.out.row b1)
     obtain ⟨a1, c1', rfl, s1⟩ := own_src t1.row
     have S1 := Hid.mk' s1
     have T1 := Hid.mk' t1
     have LN := Hid.mk' (tcs_len R.1 us1 t1.len)
     have PP1 := Hid.mk' (tcs_one R.1 us1 t1.one)
     have HA1 := Hid.mk' (hA1 _ (fun k hk => (HT'.out.row.lt k hk).2))
     have O1 := Hid.mk' o1
     have BB2 := Hid.mk' b1
     have SZ := Hid.mk' (Nat.le_trans HB.out.size b1.size)
     clear hx2 t1 hA1 o1 b1 s1 KF
     go_wp2_with (at_builtin; refine wpList_append_at _ rfl (.tmp 101) (.tmp 102) 24 rfl w1.heap.size 107 (.agg #[.int .i64 0, .int .i64 0, .string ⟨#[]⟩, .slice none 0 0, .bool false]) 5 64 Tryz.underlying24 Tryz.infoTok rfl (by decide) _ _ _ rfl OV.out _ R.1.length _ (tcs R.1 us1) rfl LN.out S1.out PP1.out (by unfold maxLen; omega) (by omega) SZ.out ?_; intro v' w3' o3 hg3 at3)
     have T3 := Hid.mk' (TokS.app HT'.out BB2.out HB.out.size HA1.out T1.out.len T1.out.one o3 hg3 at3)
     have B3' := Hid.mk' ((HB.out.trans (BB2.out.mono HB.out.size)).grown hg3 SZ.out (own_lo OV.out))
     have U3 : Hid (w3'.ownsRow w1.heap.size 5 1 u1 R.2.length (bcs R.2)) := Hid.mk' (own_down (O1.out.kept hg3 (by
      cases hu1 : u1.ownBlock with
      | none => exact .inl rfl
      | some q => exact .inr (fun e => by
        have h1 := (O1.out.lt q hu1).1
        have h2 := (HT'.out.row.lt q e.symm).2
        omega))) HB.out.size)
     have L3 : Hid ((TT ++ R.1).length ≤ 161 * (k + 1)) := Hid.mk' (by rw [List.length_append]; omega)
     clear o3 hg3 at3
     go_roundw
     case rel =>
      have ex := HX.out
      refine ⟨k + 1, us ++ us1, by omega, by rw [show Q + (k + 1) = X + 1 by omega]; go_num, by rw [ES.out, ← List.append_assoc]; exact T3.out, by rw [ES.out]; exact U3.out, by rw [ES.out]; exact L3.out, by rw [ES.out]; exact fh.out, by rw [ES.out]; exact fb.out, by rw [show Q + (k + 1) = X + 1 by omega, HME.out, meetN_no hlt fX.out], B3'.out⟩
     case measure => simp [intOf]; omega
    | true =>
     obtain ⟨ho, hoJ⟩ := HO.out
     have HMX : Hid (meetN ff T.length Q = X) := Hid.mk' (by rw [HME.out, meetN_yes hlt fX.out])
     obtain ⟨zn, hzn⟩ : ∃ zn, (tkN m.dt s ((X + j - p.length) / s)).length = zn := ⟨_, rfl⟩
     have znl : zn ≤ m.tk.length := by rw [← hzn]; exact HCT.out _ hoJ
     have HZN := Hid.mk' hzn
     have KTL : Hid (∀ V, Below wS.heap.size wS V → Calls Tryz.prog 92 #[.pointer (some ⟨g, 0, none⟩), .int .i64 ((X : Int) + (j : Int) - (p.length : Int))] V fun e w' => ∃ v us, e = .returned v ∧ TokS V.heap.size w' v (m.tk.drop zn) us ∧ Below V.heap.size V w') := Hid.mk' (fun V hV => by
      rw [EO.out]
      exact l13Tail_any g m (some ⟨bd, od, none⟩) u bt ot b9 o9 ca ct cu cc s (X + j - p.length) zn V (P5.out.below hV) hct hst hs hs2 ECL.out ho hd (by rw [ECK.out _ hoJ, ← hzn]; rfl) znl sTK)
     have KL1 : Hid (∀ V, Below w.heap.size w V → Calls Tryz.prog 51 #[.slice u m.hd.length cu] V fun e w' => ∃ v, e = .returned v ∧ w'.ownsRow V.heap.size 5 1 v m.hd.length (bcs m.hd) ∧ Below V.heap.size V w') := Hid.mk' (fun V hV => l1Copy_own u cu m.hd V (HP.out.m1.2.2.1.below hV) sHD)
     have HBW := Hid.mk' (B1.out.trans (HB.out.mono B1.out.size))
     obtain ⟨r0, r1, r2, r3, r4, r5⟩ := cells5 P5.out.r
     have gw : g < w.heap.size := HP.out.r.lt
     have lTL : (m.tk.take cn ++ TT).length + (m.tk.drop zn).length ≤ 2200000 := by rw [List.length_drop]; omega
     clear hzn
     go_wp2_with (first | go_big_skip | go_big_want | fail)
     refine wp_region_held_drew (S := (fun v => v.cell? ⟨g, 3, none⟩ = some (.slice u m.hd.length cu))) (by kernel_rfl) r3 (fun hHeld => ?_)
     refine tkY 0 ?_
     refine tkY 1 ?_
     refine tkY 2 ?_
     refine tkY 5 ?_
     refine tkY 6 ?_
     refine tkY 7 ?_
     refine tkY 8 ?_
     refine tkY 10 ?_
     refine wpAnyH_ready (rs := [3]) (by kernel_rfl) (by simp) ?_
     refine AllReadyH.cons (o := ⟨_, _, _, _, _, _⟩) rfl (fun K hK => ?_) AllReadyH.nil
     go_simp
     refine (KTL.out _ (Below.refl _ _).drew).mono ?_
     rintro e5 w5 ⟨v5, us5, rfl, t5, hb5⟩
     replace hb5 := undrew hb5
     obtain ⟨a5, c5, rfl, s5⟩ := own_src t5.row
     have OV5 := own_keep HT'.out.row hb5
     have LN5 := tcs_len (m.tk.drop zn) us5 t5.len
     have PP5 := tcs_one (m.tk.drop zn) us5 t5.one
     refine hK.out _ _ ((hb5.cell (p := ⟨g, 3, none⟩) r5).trans r3) (fun hHeld => ?_)
     clear hK K
     try simp only [Act.put, zA, zB, zC]
     refine wpAnyH_ready (rs := [4]) (by kernel_rfl) (by simp) ?_
     refine AllReadyH.cons (o := ⟨_, _, _, _, _, _⟩) rfl (fun K hK => ?_) AllReadyH.nil
     refine step_append_at rfl (.tmp 81) (.tmp 84) 24 rfl w1.heap.size 107 (.agg #[.int .i64 0, .int .i64 0, .string ⟨#[]⟩, .slice none 0 0, .bool false]) 5 64 Tryz.underlying24 Tryz.infoTok rfl (by decide) _ _ _ rfl OV5 _ (m.tk.drop zn).length _ (tcs (m.tk.drop zn) us5) rfl LN5 s5 PP5 (by unfold maxLen; omega) (by omega) (Nat.le_trans HB.out.size hb5.size) ?_
     intro v6 w6 o6 hg6 at6
     have hb6 := (HB.out.trans (hb5.mono HB.out.size)).grown hg6 (Nat.le_trans HB.out.size hb5.size) (own_lo OV5)
     have hbw6 := B1.out.trans (hb6.mono B1.out.size)
     refine hK.out _ _ ((hbw6.cell (p := ⟨g, 3, none⟩) gw).trans (HP_3 HP.out)) (fun hHeld => ?_)
     clear hK K
     try simp only [Act.put, zA, zB, zC]
     refine wpAnyH_ready (rs := [9]) (by kernel_rfl) (by simp) ?_
     refine AllReadyH.cons (o := ⟨_, _, _, _, _, _⟩) rfl (fun K hK => ?_) AllReadyH.nil
     go_simp
     refine (KL1.out _ hbw6).mono ?_
     rintro e7 w7 ⟨v7, rfl, o7, hb7⟩
     refine hK.out _ _ ((hb7.cell (p := ⟨g, 3, none⟩) (Nat.lt_of_lt_of_le gw hbw6.size)).trans ((hbw6.cell (p := ⟨g, 3, none⟩) gw).trans (HP_3 HP.out))) (fun hHeld => ?_)
     clear hK K
     try simp only [Act.put, zA, zB, zC]
     refine tkY 11 ?_
     refine tkY 12 ?_
     refine tkY 13 ?_
     refine wpAnyH_done (by kernel_rfl) ?_ _
     clear hHeld
     go_wp2
     refine bodyPost_ret (v := .tuple #[v6, v7, .int .i64 (X : Int)]) (by simp [results, Tryz.results59, go_sem]) rfl ?_
     have T6 := TokS.app HT'.out hb5 HB.out.size (fun i t u h1 h2 => (t5.all i t u h1 h2).for (fun k hk => (HT'.out.row.lt k hk).2)) t5.len t5.one o6 hg6 at6
     have T7 : TokS w1.heap.size w7 v6 (m.tk.take cn ++ TT ++ m.tk.drop zn) (us ++ us5) := ⟨T6.len, own_keep T6.row hb7, T6.one, fun i t u h1 h2 => (T6.all i t u h1 h2).below hb7⟩
     unfold GoP
     rw [HT.out, HK.out, HQ.out, HF.out, HCN.out]
     refine ⟨_, _, us ++ us5, _, _, by rw [HMX.out], ⟨T7.len, own_down T7.row B1.out.size, T7.one, fun i t u h1 h2 => (T7.all i t u h1 h2).down B1.out.size⟩, own_down o7 hbw6.size, hbw6.trans (hb7.mono hbw6.size), fun x hx => ?_⟩
     rw [HMX.out] at hx
     subst hx
     refine ⟨fun _ => ⟨?_, rfl⟩, fun h => absurd h (by omega)⟩
     unfold fedT
     rw [EH.out, HDD.out, HZN.out, show X - Q = k by have := HX.out; omega, ETT.out]
  ·have ci : ¬ ((Q + k : Nat) : Int) < (T.length : Int) := by omega
   have e : Q + k = T.length := by omega
   have F := Hid.mk' (And.intro ht (And.intro hn' hbl))
   have ME_ : Hid (meetN ff T.length Q = T.length) := Hid.mk' (by rw [hme, e, meetN_end (Nat.le_refl _)])
   have E := Hid.mk' e
   clear ht hn' l1 l2 hby hbl hme e
   go_wp2
   refine bodyPost_ret (v := .tuple #[u13, u14, .int .i64 (T.length : Int)]) (by simp [results, Tryz.results59, go_sem]) rfl ?_
   unfold GoP
   rw [HT.out, HK.out, HQ.out, HF.out, HCN.out]
   refine ⟨_, _, us, _, _, by rw [ME_.out], ⟨F.out.1.len, own_down F.out.1.row B1.out.size, F.out.1.one, fun i t u h1 h2 => (F.out.1.all i t u h1 h2).down B1.out.size⟩, own_down F.out.2.1 B1.out.size, B1.out.trans (F.out.2.2.mono B1.out.size), fun x hx => ?_⟩
   rw [ME_.out] at hx
   subst hx
   refine ⟨fun h => absurd h (Nat.lt_irrefl _), fun _ => ⟨?_, ?_⟩⟩
   ·unfold fedT
    rw [EH.out, HDD.out, show T.length - Q = k by have := E.out; omega]
   ·rw [← HA.out, E.out]
def mtV (m : ME) (A N : Int) (p : List Int) : Int := if edC m A N p = 0 then (meetN (mtF m.dt (spl m.dt A.toNat N.toNat p) m.st.toNat A.toNat N.toNat p.length) (spl m.dt A.toNat N.toNat p).length (A.toNat / m.st.toNat * m.st.toNat) : Int) else 0
theorem tkN_le (d : List Int) (s k : Nat) : (tkN d s k).length ≤ (allX [] [] d).1.length := by
 have e : allX [] [] d = allX [] [] (d.take (k * s) ++ d.drop (k * s)) := by rw [List.take_append_drop]
 rw [e, allX_append, allX_from, List.length_append]
 exact Nat.le_add_right _ _
theorem right_len {d : List Int} {s : Nat} {m : ME} (h : sameR (memX d s) m = true) : m.tk.length = (allX [] [] d).1.length := by
 unfold sameR at h
 have h1 : sameTs (memX d s).tk m.tk = true := by
  cases e : sameTs (memX d s).tk m.tk with
  | true => rfl
  | false => rw [e] at h; simp at h
 unfold sameTs at h1
 have h2 : (memX d s).tk.length = m.tk.length := by
  by_cases e : (memX d s).tk.length = m.tk.length
  ·exact e
  ·rw [decide_eq_false e] at h1; simp at h1
 exact h2.symm

end Go.Proofs.YtieeojhdidjnaaaGreatDoor
