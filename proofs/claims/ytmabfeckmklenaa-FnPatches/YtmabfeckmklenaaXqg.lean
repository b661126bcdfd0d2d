/- Patches that are drawn: the draw. -/
import Derived.Test.YtmabfeckmklenaaXqf
import Derived.Deep.RegionHeld3
import Derived.BigGuard
namespace Go.Proofs.Ytmabfeckmklenaa
open Go.RowKit
set_option linter.unusedVariables false
set_option linter.unusedSimpArgs false

theorem l1MinP_any (x y : Int) (w : World) : Calls Try.prog 34 #[.int .i64 x, .int .i64 y] w fun e w' => e = .returned (.int .i64 (if x < y then x else y)) ∧ w' = w := by
  by_cases h : x < y
  · rw [if_pos h]
    go_enter Try.func34, Try.ntmps34
    go_wp2
    go_ret
    exact ⟨rfl, rfl⟩
  · rw [if_neg h]
    go_enter Try.func34, Try.ntmps34
    go_wp2
    go_ret
    exact ⟨rfl, rfl⟩

theorem PD.box {w : World} {b k k' q i : Nat} {l : List Int} {v x : Value} {L : List XK} {us : List Value} {w3 wi : World} (h3 : PD w b l k v L us w3) (h : PD w b l k' v L us wi) (hbw : b < w.heap.size) (hq : w3.heap.size ≤ q) : PD w b l k' v L us (wi.setCell ⟨q, i, none⟩ x) := by
  have K : KeptIn q (q + 1) wi (wi.setCell ⟨q, i, none⟩ x) := (KeptIn.refl _ _ _).setCell (p := ⟨q, i, none⟩) (Nat.le_refl _) (Nat.lt_succ_self _) x
  have hbq : b < w3.heap.size := h3.src.lt
  refine ⟨h.len, ?_, fun j hj => ?_, h.src.kept K (by omega), ?_⟩
  · exact h.own.kept (row := some q) ⟨K.os, K.tape, K.output, K.size, fun y hy hn => K.block y hy (by
      have : y ≠ q := fun e => hn (by rw [e])
      omega)⟩ (.inr (fun e => by
        have := (h3.own.lt q e).2
        omega))
  · obtain ⟨h1, h2, h4⟩ := h.put j hj
    have o3 := (h3.put j hj).2.1
    exact ⟨h1, h2.keep (fun y e hy => K.block y hy (.inl (by have := o3.lt y e; omega))), h4⟩
  · have := h.kept
    exact ⟨this.os, this.tape, this.output, Nat.le_trans this.size K.size, fun y hy hc => (K.block y (Nat.lt_of_lt_of_le hy this.size) (.inl (by have := h3.kept.size; omega))).trans (this.block y hy hc)⟩

theorem three_new (W : World) (g : Nat) (hg : W.heap.size = g) (x y z : Value) (T : TypeId) : ∀ j u, [x, y, z][j]? = some u → (W.alloc (.cells #[x, y, z] T)).cell? ((⟨g, 0, none⟩ : Addr).add j) = some u := by
  subst hg
  intro j u hj
  obtain ⟨c0, c1, c2, _⟩ := cells3 (row3 W T x y z)
  have hlt : j < 3 := (List.getElem?_eq_some_iff.1 hj).1
  rw [Addr.add_mid, Nat.zero_add]
  have h : j = 0 ∨ j = 1 ∨ j = 2 := by omega
  rcases h with rfl | rfl | rfl
  · simp at hj; subst hj; exact c0
  · simp at hj; subst hj; exact c1
  · simp at hj; subst hj; exact c2

theorem one3 (x y : Int) (p : Option Addr) (n c : Nat) : ∀ u ∈ [Value.int .i64 x, .int .i64 y, .slice p n c], u.oneCell' = true := by
  intro u hu
  simp at hu
  rcases hu with rfl | rfl | rfl <;> rfl

/-- Small patches. -/
def Tame3 (L : List XK) : Prop := ∀ j, j < L.length → 0 ≤ (xkK L j).pl ∧ (xkK L j).pl ≤ 12 ∧ 0 ≤ (xkK L j).ct ∧ (xkK L j).ct ≤ 12 ∧ (xkK L j).hd.length ≤ 3

theorem Tame3.app {L : List XK} {x : XK} (h : Tame3 L) (h1 : 0 ≤ x.pl) (h2 : x.pl ≤ 12) (h3 : 0 ≤ x.ct) (h4 : x.ct ≤ 12) (h5 : x.hd.length ≤ 3) : Tame3 (L ++ [x]) := fun j hj => by
  rw [List.length_append, List.length_singleton] at hj
  by_cases c : j = L.length
  · subst c
    rw [xkK_last]
    exact ⟨h1, h2, h3, h4, h5⟩
  · rw [xkK_left (by omega)]
    exact h j (by omega)

/-- Patches that are no machine's edge. -/
def TameX (L : List XK) : Prop := ∀ j, j < L.length → -1 ≤ (xkK L j).pl ∧ (xkK L j).pl ≤ 100 ∧ -1 ≤ (xkK L j).ct ∧ (xkK L j).ct ≤ 100 ∧ (xkK L j).hd.length ≤ 241

theorem Tame3.x {L : List XK} (h : Tame3 L) : TameX L := fun j hj => by
  have := h j hj
  omega

theorem TameX.app {L : List XK} {x : XK} (h : TameX L) (h1 : -1 ≤ x.pl) (h2 : x.pl ≤ 100) (h3 : -1 ≤ x.ct) (h4 : x.ct ≤ 100) (h5 : x.hd.length ≤ 241) : TameX (L ++ [x]) := fun j hj => by
  rw [List.length_append, List.length_singleton] at hj
  by_cases c : j = L.length
  · subst c
    rw [xkK_last]
    exact ⟨h1, h2, h3, h4, h5⟩
  · rw [xkK_left (by omega)]
    exact h j (by omega)

theorem TameX.wide {L : List XK} (h : TameX L) : WideX L := fun k hk => by
  have := h k hk
  omega

theorem TameX.size {L : List XK} (h : TameX L) : ∀ k, k ≤ L.length → xsz (L.take k) ≤ 241 * k := by
  intro k
  induction k with
  | zero => intro _; simp [xsz]
  | succ k ih =>
    intro hk
    have h1 := ih (by omega)
    have h2 := h k (by omega)
    rw [xsz_take L k (by omega)]
    omega

theorem TameX.sz {L : List XK} (h : TameX L) : xsz L ≤ 241 * L.length := by
  have := h.size L.length (Nat.le_refl _)
  rwa [List.take_length] at this

theorem rep_xk (n k : Nat) : xkK (List.replicate n ⟨0, 0, []⟩) k = ⟨0, 0, []⟩ := by
  unfold xkK
  rw [List.getD_eq_getElem?_getD, List.getElem?_replicate]
  split <;> rfl

theorem zero_patches (w : World) (n : Nat) : XsAt (w.alloc (.cells (madeCells #[.int .i64 0, .int .i64 0, .slice none 0 0] (n * 3)) 33)) (some ⟨w.heap.size, 0, none⟩) (List.replicate n ⟨0, 0, []⟩) ∧ TameX (List.replicate n ⟨0, 0, []⟩) := by
  have r : (w.alloc (.cells (madeCells #[.int .i64 0, .int .i64 0, .slice none 0 0] (n * 3)) 33)).rowIs w.heap.size 33 (n * 3) (fun i => r3 (.int .i64 0) (.int .i64 0) (.slice none 0 0) (i % 3)) := by
    refine ⟨_, Deep.blk_alloc_new _ _, size_madeCells _ _, fun i hi => ?_⟩
    have h : i % 3 = 0 ∨ i % 3 = 1 ∨ i % 3 = 2 := by omega
    rcases h with h | h | h <;> simp [madeCells, hi, h, r3]
  refine ⟨.inr ⟨w.heap.size, 0, rfl, r.lt, fun k hk => ?_⟩, fun j hj => ?_⟩
  · rw [List.length_replicate] at hk
    rw [rep_xk, Nat.zero_add, r.cell (by omega), r.cell (by omega), r.cell (by omega)]
    rw [show k * 3 % 3 = 0 by omega, show (k * 3 + 1) % 3 = 1 by omega, show (k * 3 + 2) % 3 = 2 by omega]
    exact ⟨rfl, rfl, none, 0, rfl, .inl rfl⟩
  · rw [rep_xk]
    simp

/-- What a draw of patches leaves. -/
def DrQ (b k : Nat) (l : List Int) (w : World) (e : Ending) (w' : World) : Prop := ∃ (a : Option Addr) (L : List XK) (c k' : Nat), e = .returned (.slice a L.length c) ∧ XsAt w' a L ∧ TameX L ∧ L.length ≤ 21 ∧ k' ≤ k + 100 ∧ Src b l k' w' ∧ KeptIn b (b + 1) w w'

theorem drq_of {b k k' : Nat} {l : List Int} {w w' : World} {v : Value} {L : List XK} {us : List Value} (h : PD w b l k' v L us w') (hT : TameX L) (hL : L.length ≤ 21) (hk : k' ≤ k + 100) : DrQ b k l w (.returned v) w' := by
  obtain ⟨a, c, e, hx⟩ := h.at
  subst e
  exact ⟨a, L, c, k', rfl, hx, hT, hL, hk, h.src, h.kept⟩

set_option maxRecDepth 100000 in
set_option maxHeartbeats 4000000 in
theorem l14Draw_any (b k : Nat) (size : Nat) (l : List Int) (w : World) (h : Src b l k w) (hk : k ≤ 1000) (hs : size ≤ 12) (hl : (l.length : Int) ≤ 1048576) :
    Calls Try.prog 33 #[.pointer (some ⟨b, 0, none⟩), .int .i64 (size : Int)] w fun e w' => DrQ b k l w e w' := by
  have hbw := h.lt
  have N0 := below_new w (.cells #[] 33)
  have D0 : Hid (PD w b l k (.slice (some ⟨w.heap.size, 0, none⟩) 0 0) [] [] (w.alloc (.cells #[] 33))) := Hid.mk' ⟨rfl, World.ownsRow_lit w #[] 0 (Nat.le_refl _) (by decide) rfl, fun j hj => absurd hj (Nat.not_lt_zero _), h.below N0, KeptIn.of_below N0⟩
  clear h N0
  go_enter Try.func33, Try.ntmps33
  go_wp2_with fail
  refine (l1Next_any b k l 4 _ D0.out.src (by omega) (by decide) (by decide) hl).mono ?_
  rintro e w1 ⟨x, rfl, x0, x1, hS1, hK1⟩
  obtain ⟨x, rfl⟩ : ∃ n : Nat, x = (n : Int) := ⟨x.toNat, by omega⟩
  have D1 := Hid.mk' (D0.out.turn hS1 hK1 hbw)
  clear D0 hS1 hK1
  go_wp2
  go_loopw [5, 6, 7, 8] (fun v z i _ wr => ∃ (m f k' : Nat) (L : List XK) (us : List Value), z = .int .i64 (f : Int) ∧ i = .int .i64 (m : Int) ∧ f ≤ size ∧ L.length + m ≤ 3 ∧ k' ≤ k + 1 + 6 * L.length ∧ Tame3 L ∧ PD w b l k' v L us wr) (fun _ _ i _ _ => (intOf i).toNat)
  case atStart => exact ⟨x, 0, k + 1, [], [], rfl, rfl, Nat.zero_le _, by simp; omega, by simp, fun j hj => absurd hj (Nat.not_lt_zero _), D1.out⟩
  case round =>
    obtain ⟨m, f, k', L, us, rfl, rfl, hf, hm, hk', hT, hD⟩ := hrel
    have HT := Hid.mk' hT
    have HD := Hid.mk' hD
    obtain ⟨va, vc, ev⟩ := own_form hD.own
    subst ev
    clear hT hD D1
    by_cases cm : 0 < m
    · have ci : (0 : Int) < (m : Int) := by omega
      by_cases cf : f < size
      · have cj : (f : Int) < (size : Int) := by omega
        have v1 : IntKind.i64.wrap ((size : Int) - (f : Int)) = ((size - f : Nat) : Int) := by rw [IntKind.wrap_i64]; omega
        obtain ⟨mm, hmm, hm1, hm4⟩ : ∃ mm : Nat, (if (4 : Int) < ((size - f : Nat) : Int) then (4 : Int) else ((size - f : Nat) : Int)) = (mm : Int) ∧ mm ≤ 4 ∧ mm ≤ size - f := by
          split
          · exact ⟨4, rfl, by omega, by omega⟩
          · exact ⟨size - f, rfl, by omega, by omega⟩
        have v2 : IntKind.i64.wrap ((mm : Int) + 1) = (mm : Int) + 1 := by rw [IntKind.wrap_i64]; omega
        have KM := fun W => l1MinP_any 4 ((size - f : Nat) : Int) W
        rw [hmm] at KM
        have KM := Hid.mk' KM
        clear hmm
        go_wp2_with (go_at_call 34; refine (KM.out _).mono ?_; rintro e wq ⟨rfl, hwq⟩; obtain rfl := hwq.symm)
        refine (l1Next_any b k' l ((mm : Int) + 1) _ HD.out.src (by omega) (by omega) (by omega) hl).mono ?_
        rintro e w2 ⟨y, rfl, y0, y1, hS2, hK2⟩
        obtain ⟨y, rfl⟩ : ∃ n : Nat, y = (n : Int) := ⟨y.toNat, by omega⟩
        have D2 := Hid.mk' (HD.out.turn hS2 hK2 hbw)
        obtain ⟨pl, hpl⟩ : ∃ pl : Nat, f + y = pl := ⟨_, rfl⟩
        have v3 : IntKind.i64.wrap ((f : Int) + (y : Int)) = (pl : Int) := by rw [IntKind.wrap_i64]; omega
        clear HD hS2 hK2 KM
        go_wp2_with fail
        refine (l1Next_any b (k' + 1) l 4 _ D2.out.src (by omega) (by decide) (by decide) hl).mono ?_
        rintro e w3 ⟨z, rfl, z0, z1, hS3, hK3⟩
        obtain ⟨z, rfl⟩ : ∃ n : Nat, z = (n : Int) := ⟨z.toNat, by omega⟩
        have D3 := Hid.mk' (D2.out.turn hS3 hK3 hbw)
        clear D2 hS3 hK3
        go_wp2_with fail
        refine (l1Some_any b (k' + 1 + 1) z l _ D3.out.src (by omega) (by omega) hl).mono ?_
        rintro e w4 ⟨u, P, rfl, hP, hDr, hsm⟩
        subst hP
        obtain ⟨oU, loU⟩ := OB.of_own hDr.own
        obtain ⟨pu, cu, eu, _⟩ := oU.len
        subst eu
        have y4 := hDr.kept.size
        have D4 := Hid.mk' (D3.out.turn hDr.src hDr.kept hbw)
        have U4 := Hid.mk' oU
        have hq4 : Hid (∀ q, (Value.slice pu P.length cu).ownBlock = some q → b < q ∧ (Value.slice va L.length vc).ownBlock ≠ some q) := Hid.mk' (fun q e => ⟨by have := loU q e; have := D3.out.src.lt; omega, fun e' => by have := (D3.out.own.lt q e').2; have := loU q e; omega⟩)
        clear hDr hsm oU loU
        have N5 := below_new w4 (.cells #[.int .i64 (pl : Int), .int .i64 0, .slice pu P.length cu] 33)
        have R5 := row3 w4 33 (.int .i64 (pl : Int)) (.int .i64 0) (.slice pu P.length cu)
        have D5 := Hid.mk' (D4.out.below N5)
        have U5 := Hid.mk' (U4.out.below N5)
        have HR5 := Hid.mk' R5
        have hplb : pl ≤ size := by omega
        have v4 : IntKind.i64.wrap ((size : Int) - (pl : Int)) = ((size - pl : Nat) : Int) := by rw [IntKind.wrap_i64]; omega
        obtain ⟨nn, hnn, hn1, hn3⟩ : ∃ nn : Nat, (if (3 : Int) < ((size - pl : Nat) : Int) then (3 : Int) else ((size - pl : Nat) : Int)) = (nn : Int) ∧ nn ≤ 3 ∧ nn ≤ size - pl := by
          split
          · exact ⟨3, rfl, by omega, by omega⟩
          · exact ⟨size - pl, rfl, by omega, by omega⟩
        have v5 : IntKind.i64.wrap ((nn : Int) + 1) = (nn : Int) + 1 := by rw [IntKind.wrap_i64]; omega
        have KM := fun W => l1MinP_any 3 ((size - pl : Nat) : Int) W
        rw [hnn] at KM
        have KM := Hid.mk' KM
        clear hnn N5 R5
        have HVS : Hid ((w4.alloc (.cells #[.int .i64 (pl : Int), .int .i64 0, .slice pu P.length cu] 33)).heap.size = w4.heap.size + 1) := Hid.mk' (by simp)
        generalize hV : w4.alloc (.cells #[.int .i64 (pl : Int), .int .i64 0, .slice pu P.length cu] 33) = V at *
        obtain ⟨p0, p1, p2_, p3⟩ := cells3 HR5.out
        have pf1 := HR5.out.frozen 1
        go_wp2_with (go_at_call 34; refine (KM.out _).mono ?_; rintro e wq ⟨rfl, hwq⟩; obtain rfl := hwq.symm)
        clear hV
        refine (l1Next_any b _ l ((nn : Int) + 1) _ D5.out.src (by omega) (by omega) (by omega) hl).mono ?_
        rintro e w6 ⟨ct, rfl, ct0, ct1, hS6, hK6⟩
        obtain ⟨ct, rfl⟩ : ∃ n : Nat, ct = (n : Int) := ⟨ct.toNat, by omega⟩
        have y5 : V.heap.size = w4.heap.size + 1 := HVS.out
        have y6 := hK6.size
        have bw4 : b < w4.heap.size := D4.out.src.lt
        have D6 := Hid.mk' ((D5.out.turn hS6 hK6 hbw))
        have U6 := Hid.mk' (U5.out.keep (fun q e hq => hK6.block q hq (.inr (by have := (hq4.out q e).1; omega))))
        have R6 := Hid.mk' (HR5.out.of_block (hK6.block _ HR5.out.lt (.inr (by omega))))
        have z6 : Hid (∀ q, (Value.slice pu P.length cu).ownBlock = some q → q < w4.heap.size) := Hid.mk' (fun q e => U4.out.lt q e)
        obtain ⟨r0, r1, r2_, rl_⟩ := cells3 R6.out
        have rf1 := R6.out.frozen 1
        clear p0 p1 p2_ pf1 hS6 hK6 D5 U5 HR5 KM
        have D7 := Hid.mk' (D4.out.box (i := 1) (x := .int .i64 (ct : Int)) D6.out hbw (Nat.le_refl _))
        have K7 : Hid (KeptIn w4.heap.size (w4.heap.size + 1) w6 (w6.setCell ⟨w4.heap.size, 1, none⟩ (.int .i64 (ct : Int)))) := Hid.mk' ((KeptIn.refl _ _ _).setCell (p := ⟨w4.heap.size, 1, none⟩) (Nat.le_refl _) (Nat.lt_succ_self _) _)
        have R7 : Hid ((w6.setCell ⟨w4.heap.size, 1, none⟩ (.int .i64 (ct : Int))).rowIs w4.heap.size 33 3 (r3 (.int .i64 (pl : Int)) (.int .i64 (ct : Int)) (.slice pu P.length cu))) := Hid.mk' ((R6.out.set 1 (.int .i64 (ct : Int))).congr (fun j hj => by
          have h : j = 0 ∨ j = 1 ∨ j = 2 := by omega
          rcases h with rfl | rfl | rfl <;> simp [r3]))
        have sz7 : Hid ((w6.setCell ⟨w4.heap.size, 1, none⟩ (.int .i64 (ct : Int))).heap.size = w6.heap.size) := Hid.mk' (by simp)
        have U7 := Hid.mk' (U6.out.keep (w' := w6.setCell ⟨w4.heap.size, 1, none⟩ (.int .i64 (ct : Int))) (fun q e hq => K7.out.block q hq (.inl (z6.out q e))))
        have N8 := below_new (w6.setCell ⟨w4.heap.size, 1, none⟩ (.int .i64 (ct : Int))) (.cells #[.int .i64 (pl : Int), .int .i64 (ct : Int), .slice pu P.length cu] 33)
        have D8 := Hid.mk' (D7.out.below N8)
        have U8 := Hid.mk' (U7.out.below N8)
        have R8 := Hid.mk' (rowB R7.out N8)
        have O4 := Hid.mk' D4.out.own
        have v6 : IntKind.i64.wrap ((pl : Int) + (ct : Int)) = (pl : Int) + (ct : Int) := by rw [IntKind.wrap_i64]; omega
        have S8 : Hid (∀ j u, [Value.int .i64 (pl : Int), .int .i64 (ct : Int), .slice pu P.length cu][j]? = some u → ((w6.setCell ⟨w4.heap.size, 1, none⟩ (.int .i64 (ct : Int))).alloc (.cells #[.int .i64 (pl : Int), .int .i64 (ct : Int), .slice pu P.length cu] 33)).cell? ((⟨w6.heap.size, 0, none⟩ : Addr).add j) = some u) := Hid.mk' (three_new _ _ sz7.out _ _ _ _)
        have bs8 : Hid (w.heap.size ≤ ((w6.setCell ⟨w4.heap.size, 1, none⟩ (.int .i64 (ct : Int))).alloc (.cells #[.int .i64 (pl : Int), .int .i64 (ct : Int), .slice pu P.length cu] 33)).heap.size) := Hid.mk' D8.out.kept.size
        clear N8 D7 U7 U6 D6 K7 R6 R7
        go_wp2_with (at_builtin; refine wpList_append_at _ rfl (.tmp 44) (.tmp 46) 26 rfl w.heap.size 33 (.agg #[.int .i64 0, .int .i64 0, .slice none 0 0]) 3 40 Try.underlying26 Try.info33 rfl (by decide) (.slice va L.length vc) L.length (xcs L us) rfl D8.out.own _ 1 _ [.int .i64 (pl : Int), .int .i64 (ct : Int), .slice pu P.length cu] rfl rfl (.inr ⟨_, rfl, S8.out⟩) (one3 _ _ _ _ _) (by unfold maxLen; omega) (by omega) bs8.out ?_; intro v9 w9 ho9 hg9 hat9; have D9 := Hid.mk' (D8.out.app hbw (x := ⟨(pl : Int), (ct : Int), P⟩) (u := .slice pu P.length cu) ⟨_, _, rfl⟩ U8.out hq4.out ho9 hg9 hat9); have R9 := R8.out.of_block (hg9.block _ R8.out.lt (fun e => by have := (O4.out.lt _ e.symm).2; omega)); obtain ⟨t0, t1, t2, t3⟩ := cells3 R9; clear ho9 hg9 hat9 R9)
        exact ⟨⟨m - 1, pl + ct, k' + 1 + 1 + P.length + 1, L ++ [⟨(pl : Int), (ct : Int), P⟩], us ++ [.slice pu P.length cu], by go_num, by go_num, by omega, by rw [List.length_append, List.length_singleton]; omega, by rw [List.length_append, List.length_singleton]; omega, HT.out.app (by simp only; omega) (by simp only; omega) (by simp only; omega) (by simp only; omega) (by simp only; omega), D9.out⟩, by simp [intOf]; omega⟩
      · have cj : decide ((f : Int) < (size : Int)) = false := by rw [decide_eq_false_iff_not]; omega
        go_wp2_with fail
        refine (l1Next_any b k' l 14 _ HD.out.src (by omega) (by decide) (by decide) hl).mono ?_
        rintro e w2 ⟨y, rfl, y0, y1, hS2, hK2⟩
        obtain ⟨y, rfl⟩ : ∃ n : Nat, y = (n : Int) := ⟨y.toNat, by omega⟩
        have D2 := Hid.mk' (HD.out.turn hS2 hK2 hbw)
        clear HD hS2 hK2
        by_cases c0 : y = 0
        · subst c0
          have bw2 : b < w2.heap.size := D2.out.src.lt
          have wsz : IntKind.i64.wrap ((size : Int) + 1) = (size : Int) + 1 := by rw [IntKind.wrap_i64]; omega
          go_wp2_with fail
          refine (l1Pick_any b (k' + 1) w2.heap.size 3 l [0, -1, (size : Int) + 1] _ (D2.out.src.below (below_new w2 _)) (iat_lit w2 [0, -1, (size : Int) + 1]) (by omega) (by omega) (by simp) (by simp) hl).mono ?_
          rintro e w3 ⟨i, hi, rfl, hS3, hK3⟩
          have hv : -1 ≤ ([0, -1, (size : Int) + 1] : List Int).getD i 0 ∧ ([0, -1, (size : Int) + 1] : List Int).getD i 0 ≤ 13 := by
            have hi' : i = 0 ∨ i = 1 ∨ i = 2 := by simp at hi; omega
            rcases hi' with rfl | rfl | rfl <;> simp <;> omega
          generalize ([0, -1, (size : Int) + 1] : List Int).getD i 0 = vA at *
          have D3 := Hid.mk' ((D2.out.below (below_new w2 _)).turn hS3 hK3 hbw)
          have bw3 : b < w3.heap.size := D3.out.src.lt
          clear D2 hS3 hK3
          go_wp2_with fail
          refine (l1Pick_any b (k' + 1 + 1) w3.heap.size 3 l [0, 1, -1] _ (D3.out.src.below (below_new w3 _)) (iat_lit w3 [0, 1, -1]) (by omega) (by omega) (by simp) (by simp) hl).mono ?_
          rintro e w4 ⟨i2, hi2, rfl, hS4, hK4⟩
          have hv2 : -1 ≤ ([0, 1, -1] : List Int).getD i2 0 ∧ ([0, 1, -1] : List Int).getD i2 0 ≤ 1 := by
            have hi' : i2 = 0 ∨ i2 = 1 ∨ i2 = 2 := by simp at hi2; omega
            rcases hi' with rfl | rfl | rfl <;> decide
          generalize ([0, 1, -1] : List Int).getD i2 0 = vC at *
          have D4 := Hid.mk' ((D3.out.below (below_new w3 _)).turn hS4 hK4 hbw)
          have bw4 : b < w4.heap.size := D4.out.src.lt
          have N5 := below_new w4 (.cells #[.int .i64 vA, .int .i64 vC, .slice none 0 0] 33)
          have D5 := Hid.mk' (D4.out.below N5)
          have bs5 := Hid.mk' (D5.out.kept.size)
          have S5 := Hid.mk' (three_new w4 w4.heap.size rfl (.int .i64 vA) (.int .i64 vC) (.slice none 0 0) 33)
          clear D3 hS4 hK4 N5 D4
          go_wp2_with (at_builtin; refine wpList_append_at _ rfl (.tmp 57) (.tmp 67) 26 rfl w.heap.size 33 (.agg #[.int .i64 0, .int .i64 0, .slice none 0 0]) 3 40 Try.underlying26 Try.info33 rfl (by decide) (.slice va L.length vc) L.length (xcs L us) rfl D5.out.own _ 1 _ [.int .i64 vA, .int .i64 vC, .slice none 0 0] rfl rfl (.inr ⟨_, rfl, S5.out⟩) (one3 _ _ _ _ _) (by unfold maxLen; omega) (by omega) bs5.out ?_; intro v9 w9 ho9 hg9 hat9; have D9 := Hid.mk' (D5.out.app hbw (x := ⟨vA, vC, []⟩) (u := .slice none 0 0) ⟨none, 0, rfl⟩ (OB.none _) (fun q e => by simp [Value.ownBlock] at e) ho9 hg9 hat9); clear ho9 hg9 hat9)
          go_ret
          exact drq_of D9.out (HT.out.x.app (by simp only; omega) (by simp only; omega) (by simp only; omega) (by simp only; omega) (by simp)) (by rw [List.length_append, List.length_singleton]; omega) (by omega)
        by_cases c1 : y = 1
        · subst c1
          have bw2 : b < w2.heap.size := D2.out.src.lt
          go_wp2_with fail
          refine (l1Pick_any b (k' + 1) w2.heap.size 2 l [240, 241] _ (D2.out.src.below (below_new w2 _)) (iat_lit w2 [240, 241]) (by omega) (by omega) (by decide) (by decide) hl).mono ?_
          rintro e w3 ⟨i, hi, rfl, hS3, hK3⟩
          obtain ⟨R, hR, hRl⟩ : ∃ R : Nat, ([240, 241] : List Int).getD i 0 = ((List.replicate R (0 : Int)).length : Int) ∧ R ≤ 241 := by
            have hi' : i = 0 ∨ i = 1 := by simp at hi; omega
            rcases hi' with rfl | rfl
            · exact ⟨240, rfl, by decide⟩
            · exact ⟨241, rfl, by decide⟩
          rw [hR]
          have rl : (List.replicate R (0 : Int)).length ≤ 241 := by rw [List.length_replicate]; exact hRl
          have rz : ∀ j, bv (List.replicate R (0 : Int)) j = .int .u8 0 := fun j => by unfold bv; rw [List.getD_eq_getElem?_getD, List.getElem?_replicate]; split <;> rfl
          generalize List.replicate R (0 : Int) = RR at *
          have hmk := run_make_row' (P := Try.prog) 22 5 (.int .u8 0) 1 Try.underlying22 Try.info5 rfl .i64 .i64 RR.length (by omega) (by omega)
          have D3 := Hid.mk' ((D2.out.below (below_new w2 _)).turn hS3 hK3 hbw)
          have bw3 : b < w3.heap.size := D3.out.src.lt
          have N4 := below_new w3 (.cells (madeCells #[.int .u8 0] RR.length) 5)
          have D4 := Hid.mk' (D3.out.below N4)
          have U4 := Hid.mk' (ob_of_row rfl ((World.rowIs_made w3 (.int .u8 0) RR.length 5).congr (fun j _ => (rz j).symm)))
          clear D2 hS3 hK3 N4 hR rz
          have hq4 : Hid (∀ q, (Value.slice (some ⟨w3.heap.size, 0, none⟩) RR.length RR.length).ownBlock = some q → b < q ∧ (Value.slice va L.length vc).ownBlock ≠ some q) := Hid.mk' (fun q e => by
            have e1 : w3.heap.size = q := by simpa [Value.ownBlock] using e
            exact ⟨by omega, fun e' => by have := (D3.out.own.lt q e').2; omega⟩)
          generalize hV : w3.alloc (.cells (madeCells #[.int .u8 0] RR.length) 5) = V at *
          have N5 := below_new V (.cells #[.int .i64 (f : Int), .int .i64 0, .slice (some ⟨w3.heap.size, 0, none⟩) RR.length RR.length] 33)
          have D5 := Hid.mk' (D4.out.below N5)
          have U5 := Hid.mk' (U4.out.below N5)
          have bs5 := Hid.mk' (D5.out.kept.size)
          have S5 := Hid.mk' (three_new V V.heap.size rfl (.int .i64 (f : Int)) (.int .i64 0) (.slice (some ⟨w3.heap.size, 0, none⟩) RR.length RR.length) 33)
          clear D4 U4 N5 D3
          go_wp2_with (at_builtin; refine wpList_append_at _ rfl (.tmp 71) (.tmp 78) 26 rfl w.heap.size 33 (.agg #[.int .i64 0, .int .i64 0, .slice none 0 0]) 3 40 Try.underlying26 Try.info33 rfl (by decide) (.slice va L.length vc) L.length (xcs L us) rfl D5.out.own _ 1 _ [.int .i64 (f : Int), .int .i64 0, .slice (some ⟨w3.heap.size, 0, none⟩) RR.length RR.length] rfl rfl (.inr ⟨_, rfl, S5.out⟩) (one3 _ _ _ _ _) (by unfold maxLen; omega) (by omega) bs5.out ?_; intro v9 w9 ho9 hg9 hat9; have D9 := Hid.mk' (D5.out.app hbw (x := ⟨(f : Int), 0, RR⟩) (u := .slice (some ⟨w3.heap.size, 0, none⟩) RR.length RR.length) ⟨_, _, rfl⟩ U5.out hq4.out ho9 hg9 hat9); clear ho9 hg9 hat9)
          go_ret
          exact drq_of D9.out (HT.out.x.app (by simp only; omega) (by simp only; omega) (by simp only; omega) (by simp only; omega) rl) (by rw [List.length_append, List.length_singleton]; omega) (by omega)
        by_cases c2 : y = 2
        · subst c2
          have bw2 : b < w2.heap.size := D2.out.src.lt
          go_wp2_with fail
          refine (l1Pick_any b (k' + 1) w2.heap.size 2 l [20, 21] _ (D2.out.src.below (below_new w2 _)) (iat_lit w2 [20, 21]) (by omega) (by omega) (by decide) (by decide) hl).mono ?_
          rintro e w3 ⟨i, hi, rfl, hS3, hK3⟩
          obtain ⟨R, hR, hRl⟩ : ∃ R : Nat, ([20, 21] : List Int).getD i 0 = (R : Int) ∧ R ≤ 21 := by
            have hi' : i = 0 ∨ i = 1 := by simp at hi; omega
            rcases hi' with rfl | rfl
            · exact ⟨20, rfl, by decide⟩
            · exact ⟨21, rfl, by decide⟩
          rw [hR]
          have hmk := make_patches (P := Try.prog) 26 33 Try.underlying26 Try.info33 R (by omega)
          have D3 := Hid.mk' ((D2.out.below (below_new w2 _)).turn hS3 hK3 hbw)
          have Z3 := Hid.mk' (zero_patches w3 R)
          have D4 := Hid.mk' (D3.out.below (below_new w3 (.cells (madeCells #[.int .i64 0, .int .i64 0, .slice none 0 0] (R * 3)) 33)))
          clear D2 hS3 hK3 hR D3
          go_wp2
          go_ret
          exact ⟨some ⟨w3.heap.size, 0, none⟩, List.replicate R ⟨0, 0, []⟩, R, k' + 1 + 1, by rw [List.length_replicate]; rfl, Z3.out.1, Z3.out.2, by rw [List.length_replicate]; exact hRl, by omega, D4.out.src, D4.out.kept⟩
        have n0 : ((y : Int) == 0) = false := by rw [beq_eq_false_iff_ne]; omega
        have n1 : ((y : Int) == 1) = false := by rw [beq_eq_false_iff_ne]; omega
        have n2 : ((y : Int) == 2) = false := by rw [beq_eq_false_iff_ne]; omega
        go_wp2
        go_ret
        exact drq_of D2.out HT.out.x (by omega) (by omega)

    · have ci : ¬ (0 : Int) < (m : Int) := by omega
      have m0 : m = 0 := by omega
      subst m0
      go_wp2_with go_big_skip
      refine (l1Next_any b k' l 14 _ HD.out.src (by omega) (by decide) (by decide) hl).mono ?_
      rintro e w2 ⟨y, rfl, y0, y1, hS2, hK2⟩
      obtain ⟨y, rfl⟩ : ∃ n : Nat, y = (n : Int) := ⟨y.toNat, by omega⟩
      have D2 := Hid.mk' (HD.out.turn hS2 hK2 hbw)
      clear HD hS2 hK2
      by_cases c0 : y = 0
      · subst c0
        have bw2 : b < w2.heap.size := D2.out.src.lt
        have wsz : IntKind.i64.wrap ((size : Int) + 1) = (size : Int) + 1 := by rw [IntKind.wrap_i64]; omega
        go_wp2_with fail
        refine (l1Pick_any b (k' + 1) w2.heap.size 3 l [0, -1, (size : Int) + 1] _ (D2.out.src.below (below_new w2 _)) (iat_lit w2 [0, -1, (size : Int) + 1]) (by omega) (by omega) (by simp) (by simp) hl).mono ?_
        rintro e w3 ⟨i, hi, rfl, hS3, hK3⟩
        have hv : -1 ≤ ([0, -1, (size : Int) + 1] : List Int).getD i 0 ∧ ([0, -1, (size : Int) + 1] : List Int).getD i 0 ≤ 13 := by
          have hi' : i = 0 ∨ i = 1 ∨ i = 2 := by simp at hi; omega
          rcases hi' with rfl | rfl | rfl <;> simp <;> omega
        generalize ([0, -1, (size : Int) + 1] : List Int).getD i 0 = vA at *
        have D3 := Hid.mk' ((D2.out.below (below_new w2 _)).turn hS3 hK3 hbw)
        have bw3 : b < w3.heap.size := D3.out.src.lt
        clear D2 hS3 hK3
        go_wp2_with fail
        refine (l1Pick_any b (k' + 1 + 1) w3.heap.size 3 l [0, 1, -1] _ (D3.out.src.below (below_new w3 _)) (iat_lit w3 [0, 1, -1]) (by omega) (by omega) (by simp) (by simp) hl).mono ?_
        rintro e w4 ⟨i2, hi2, rfl, hS4, hK4⟩
        have hv2 : -1 ≤ ([0, 1, -1] : List Int).getD i2 0 ∧ ([0, 1, -1] : List Int).getD i2 0 ≤ 1 := by
          have hi' : i2 = 0 ∨ i2 = 1 ∨ i2 = 2 := by simp at hi2; omega
          rcases hi' with rfl | rfl | rfl <;> decide
        generalize ([0, 1, -1] : List Int).getD i2 0 = vC at *
        have D4 := Hid.mk' ((D3.out.below (below_new w3 _)).turn hS4 hK4 hbw)
        have bw4 : b < w4.heap.size := D4.out.src.lt
        have N5 := below_new w4 (.cells #[.int .i64 vA, .int .i64 vC, .slice none 0 0] 33)
        have D5 := Hid.mk' (D4.out.below N5)
        have bs5 := Hid.mk' (D5.out.kept.size)
        have S5 := Hid.mk' (three_new w4 w4.heap.size rfl (.int .i64 vA) (.int .i64 vC) (.slice none 0 0) 33)
        clear D3 hS4 hK4 N5 D4
        go_wp2_with (at_builtin; refine wpList_append_at _ rfl (.tmp 57) (.tmp 67) 26 rfl w.heap.size 33 (.agg #[.int .i64 0, .int .i64 0, .slice none 0 0]) 3 40 Try.underlying26 Try.info33 rfl (by decide) (.slice va L.length vc) L.length (xcs L us) rfl D5.out.own _ 1 _ [.int .i64 vA, .int .i64 vC, .slice none 0 0] rfl rfl (.inr ⟨_, rfl, S5.out⟩) (one3 _ _ _ _ _) (by unfold maxLen; omega) (by omega) bs5.out ?_; intro v9 w9 ho9 hg9 hat9; have D9 := Hid.mk' (D5.out.app hbw (x := ⟨vA, vC, []⟩) (u := .slice none 0 0) ⟨none, 0, rfl⟩ (OB.none _) (fun q e => by simp [Value.ownBlock] at e) ho9 hg9 hat9); clear ho9 hg9 hat9)
        go_ret
        exact drq_of D9.out (HT.out.x.app (by simp only; omega) (by simp only; omega) (by simp only; omega) (by simp only; omega) (by simp)) (by rw [List.length_append, List.length_singleton]; omega) (by omega)
      by_cases c1 : y = 1
      · subst c1
        have bw2 : b < w2.heap.size := D2.out.src.lt
        go_wp2_with fail
        refine (l1Pick_any b (k' + 1) w2.heap.size 2 l [240, 241] _ (D2.out.src.below (below_new w2 _)) (iat_lit w2 [240, 241]) (by omega) (by omega) (by decide) (by decide) hl).mono ?_
        rintro e w3 ⟨i, hi, rfl, hS3, hK3⟩
        obtain ⟨R, hR, hRl⟩ : ∃ R : Nat, ([240, 241] : List Int).getD i 0 = ((List.replicate R (0 : Int)).length : Int) ∧ R ≤ 241 := by
          have hi' : i = 0 ∨ i = 1 := by simp at hi; omega
          rcases hi' with rfl | rfl
          · exact ⟨240, rfl, by decide⟩
          · exact ⟨241, rfl, by decide⟩
        rw [hR]
        have rl : (List.replicate R (0 : Int)).length ≤ 241 := by rw [List.length_replicate]; exact hRl
        have rz : ∀ j, bv (List.replicate R (0 : Int)) j = .int .u8 0 := fun j => by unfold bv; rw [List.getD_eq_getElem?_getD, List.getElem?_replicate]; split <;> rfl
        generalize List.replicate R (0 : Int) = RR at *
        have hmk := run_make_row' (P := Try.prog) 22 5 (.int .u8 0) 1 Try.underlying22 Try.info5 rfl .i64 .i64 RR.length (by omega) (by omega)
        have D3 := Hid.mk' ((D2.out.below (below_new w2 _)).turn hS3 hK3 hbw)
        have bw3 : b < w3.heap.size := D3.out.src.lt
        have N4 := below_new w3 (.cells (madeCells #[.int .u8 0] RR.length) 5)
        have D4 := Hid.mk' (D3.out.below N4)
        have U4 := Hid.mk' (ob_of_row rfl ((World.rowIs_made w3 (.int .u8 0) RR.length 5).congr (fun j _ => (rz j).symm)))
        clear D2 hS3 hK3 N4 hR rz
        have hq4 : Hid (∀ q, (Value.slice (some ⟨w3.heap.size, 0, none⟩) RR.length RR.length).ownBlock = some q → b < q ∧ (Value.slice va L.length vc).ownBlock ≠ some q) := Hid.mk' (fun q e => by
          have e1 : w3.heap.size = q := by simpa [Value.ownBlock] using e
          exact ⟨by omega, fun e' => by have := (D3.out.own.lt q e').2; omega⟩)
        generalize hV : w3.alloc (.cells (madeCells #[.int .u8 0] RR.length) 5) = V at *
        have N5 := below_new V (.cells #[.int .i64 (f : Int), .int .i64 0, .slice (some ⟨w3.heap.size, 0, none⟩) RR.length RR.length] 33)
        have D5 := Hid.mk' (D4.out.below N5)
        have U5 := Hid.mk' (U4.out.below N5)
        have bs5 := Hid.mk' (D5.out.kept.size)
        have S5 := Hid.mk' (three_new V V.heap.size rfl (.int .i64 (f : Int)) (.int .i64 0) (.slice (some ⟨w3.heap.size, 0, none⟩) RR.length RR.length) 33)
        clear D4 U4 N5 D3
        go_wp2_with (at_builtin; refine wpList_append_at _ rfl (.tmp 71) (.tmp 78) 26 rfl w.heap.size 33 (.agg #[.int .i64 0, .int .i64 0, .slice none 0 0]) 3 40 Try.underlying26 Try.info33 rfl (by decide) (.slice va L.length vc) L.length (xcs L us) rfl D5.out.own _ 1 _ [.int .i64 (f : Int), .int .i64 0, .slice (some ⟨w3.heap.size, 0, none⟩) RR.length RR.length] rfl rfl (.inr ⟨_, rfl, S5.out⟩) (one3 _ _ _ _ _) (by unfold maxLen; omega) (by omega) bs5.out ?_; intro v9 w9 ho9 hg9 hat9; have D9 := Hid.mk' (D5.out.app hbw (x := ⟨(f : Int), 0, RR⟩) (u := .slice (some ⟨w3.heap.size, 0, none⟩) RR.length RR.length) ⟨_, _, rfl⟩ U5.out hq4.out ho9 hg9 hat9); clear ho9 hg9 hat9)
        go_ret
        exact drq_of D9.out (HT.out.x.app (by simp only; omega) (by simp only; omega) (by simp only; omega) (by simp only; omega) rl) (by rw [List.length_append, List.length_singleton]; omega) (by omega)
      by_cases c2 : y = 2
      · subst c2
        have bw2 : b < w2.heap.size := D2.out.src.lt
        go_wp2_with fail
        refine (l1Pick_any b (k' + 1) w2.heap.size 2 l [20, 21] _ (D2.out.src.below (below_new w2 _)) (iat_lit w2 [20, 21]) (by omega) (by omega) (by decide) (by decide) hl).mono ?_
        rintro e w3 ⟨i, hi, rfl, hS3, hK3⟩
        obtain ⟨R, hR, hRl⟩ : ∃ R : Nat, ([20, 21] : List Int).getD i 0 = (R : Int) ∧ R ≤ 21 := by
          have hi' : i = 0 ∨ i = 1 := by simp at hi; omega
          rcases hi' with rfl | rfl
          · exact ⟨20, rfl, by decide⟩
          · exact ⟨21, rfl, by decide⟩
        rw [hR]
        have hmk := make_patches (P := Try.prog) 26 33 Try.underlying26 Try.info33 R (by omega)
        have D3 := Hid.mk' ((D2.out.below (below_new w2 _)).turn hS3 hK3 hbw)
        have Z3 := Hid.mk' (zero_patches w3 R)
        have D4 := Hid.mk' (D3.out.below (below_new w3 (.cells (madeCells #[.int .i64 0, .int .i64 0, .slice none 0 0] (R * 3)) 33)))
        clear D2 hS3 hK3 hR D3
        go_wp2
        go_ret
        exact ⟨some ⟨w3.heap.size, 0, none⟩, List.replicate R ⟨0, 0, []⟩, R, k' + 1 + 1, by rw [List.length_replicate]; rfl, Z3.out.1, Z3.out.2, by rw [List.length_replicate]; exact hRl, by omega, D4.out.src, D4.out.kept⟩
      have n0 : ((y : Int) == 0) = false := by rw [beq_eq_false_iff_ne]; omega
      have n1 : ((y : Int) == 1) = false := by rw [beq_eq_false_iff_ne]; omega
      have n2 : ((y : Int) == 2) = false := by rw [beq_eq_false_iff_ne]; omega
      go_wp2
      go_ret
      exact drq_of D2.out HT.out.x (by omega) (by omega)

end Go.Proofs.Ytmabfeckmklenaa
