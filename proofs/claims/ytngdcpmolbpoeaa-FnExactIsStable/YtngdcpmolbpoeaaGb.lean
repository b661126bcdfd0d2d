/- Walks: nodes copied. -/
import Derived.Test.YtngdcpmolbpoeaaGa
namespace Go.Proofs.Ytngdcpmolbpoeaa
open Go.RowKit
set_option linter.unusedVariables false
set_option linter.unusedSimpArgs false

/-- A row of attributes of one's own at g; the bytes of each one behind it, and all below hi. -/
def AOh (hi g : Nat) (l : List AT) (w : World) : Prop := ∃ f, w.rowIs g 74 (l.length * 2) f ∧ g < hi ∧ ∀ j, j < l.length → f (j * 2) = .string (atK l j).nm ∧ ∃ b, f (j * 2 + 1) = .slice (some ⟨b, 0, none⟩) (atK l j).vl.length (atK l j).vl.length ∧ g < b ∧ b < hi ∧ w.rowIs b 5 (atK l j).vl.length (bv (atK l j).vl)

theorem AOh.ao {hi g : Nat} {l : List AT} {w : World} (h : AOh hi g l w) : AO g l w := by
  obtain ⟨f, hf, _, hj⟩ := h
  refine ⟨f, hf, fun j hl => ?_⟩
  obtain ⟨h1, b, h2, h3, _, h4⟩ := hj j hl
  exact ⟨h1, b, h2, h3, h4⟩

theorem AO.h {hi g : Nat} {l : List AT} {w : World} (h : AO g l w) (hh : w.heap.size ≤ hi) : AOh hi g l w := by
  obtain ⟨f, hf, hj⟩ := h
  refine ⟨f, hf, Nat.lt_of_lt_of_le hf.lt hh, fun j hl => ?_⟩
  obtain ⟨h1, b, h2, h3, h4⟩ := hj j hl
  exact ⟨h1, b, h2, h3, Nat.lt_of_lt_of_le h4.lt hh, h4⟩

/-- What lies from g on and below hi stays. -/
theorem AOh.keep {hi g : Nat} {l : List AT} {w w' : World} (h : AOh hi g l w) (hk : ∀ k, g ≤ k → k < hi → k < w.heap.size → w'.heap[k]? = w.heap[k]?) : AOh hi g l w' := by
  obtain ⟨f, hf, hg, hj⟩ := h
  refine ⟨f, hf.of_block (hk g (Nat.le_refl _) hg hf.lt), hg, fun j hl => ?_⟩
  obtain ⟨h1, b, h2, h3, h4, h5⟩ := hj j hl
  exact ⟨h1, b, h2, h3, h4, h5.of_block (hk b (by omega) h4 h5.lt)⟩

theorem AOh.below {hi g : Nat} {l : List AT} {w w' : World} (h : AOh hi g l w) (hb : Below w.heap.size w w') : AOh hi g l w' := h.keep fun k _ _ hl => hb.block k hl

theorem AOh.kept {hi g lo' hi' : Nat} {l : List AT} {w w' : World} (h : AOh hi g l w) (hk : KeptIn lo' hi' w w') (hd : hi ≤ lo' ∨ hi' ≤ g) : AOh hi g l w' := h.keep fun k h1 h2 hl => hk.block k hl (by omega)

set_option maxHeartbeats 3200000 in
theorem toNode_any (t : ND) (a p : Option Addr) (c d : Nat) (w : World) (ha : AAt w a t.at_) (hp : BAt w p t.tx) (hl : (nsz t : Int) ≤ 1048576) :
    Calls Try.prog 16 #[.agg #[.int .i64 t.up, .string t.tg, .slice a t.at_.length c, .slice p t.tx.length d]] w fun e w' => ∃ g b, e = .returned (.agg #[.int .i64 t.up, .string t.tg, .slice (some ⟨g, 0, none⟩) t.at_.length t.at_.length, .slice (some ⟨b, 0, none⟩) t.tx.length t.tx.length]) ∧ w.heap.size ≤ g ∧ AOh b g t.at_ w' ∧ w'.rowIs b 5 t.tx.length (bv t.tx) ∧ Below w.heap.size w w' := by
  unfold nsz at hl
  have B0 := ((Below.refl w.heap.size w).alloc (Nat.le_refl _) (.cells #[.int .i64 t.up, .string t.tg, .slice a t.at_.length c, .slice p t.tx.length d] 38)).alloc (by simp) (.cells #[.int .i64 0, .string ⟨#[]⟩, .slice none 0 0, .slice none 0 0] 42)
  have B1 := B0.alloc (by simp; omega) (.cells #[.int .i64 t.up, .string t.tg, .slice none 0 0, .slice none 0 0] 42)
  have RP := ((row4 w 38 (.int .i64 t.up) (.string t.tg) (.slice a t.at_.length c) (.slice p t.tx.length d)).alloc (.cells #[.int .i64 0, .string ⟨#[]⟩, .slice none 0 0, .slice none 0 0] 42)).alloc (.cells #[.int .i64 t.up, .string t.tg, .slice none 0 0, .slice none 0 0] 42)
  have RR := (row4 (w.alloc (.cells #[.int .i64 t.up, .string t.tg, .slice a t.at_.length c, .slice p t.tx.length d] 38)) 42 (.int .i64 0) (.string ⟨#[]⟩) (.slice none 0 0) (.slice none 0 0)).alloc (.cells #[.int .i64 t.up, .string t.tg, .slice none 0 0, .slice none 0 0] 42)
  have RO := row4 ((w.alloc (.cells #[.int .i64 t.up, .string t.tg, .slice a t.at_.length c, .slice p t.tx.length d] 38)).alloc (.cells #[.int .i64 0, .string ⟨#[]⟩, .slice none 0 0, .slice none 0 0] 42)) 42 (.int .i64 t.up) (.string t.tg) (.slice none 0 0) (.slice none 0 0)
  have KB := Hid.mk' (toAttrS_any a c t.at_ _ (ha.below B1) (by omega))
  have HB := Hid.mk' B1
  have HT := Hid.mk' hp
  have z1 : (w.alloc (.cells #[.int .i64 t.up, .string t.tg, .slice a t.at_.length c, .slice p t.tx.length d] 38)).heap.size = w.heap.size + 1 := by simp
  have z2 : ((w.alloc (.cells #[.int .i64 t.up, .string t.tg, .slice a t.at_.length c, .slice p t.tx.length d] 38)).alloc (.cells #[.int .i64 0, .string ⟨#[]⟩, .slice none 0 0, .slice none 0 0] 42)).heap.size = w.heap.size + 1 + 1 := by simp
  have z3 : (((w.alloc (.cells #[.int .i64 t.up, .string t.tg, .slice a t.at_.length c, .slice p t.tx.length d] 38)).alloc (.cells #[.int .i64 0, .string ⟨#[]⟩, .slice none 0 0, .slice none 0 0] 42)).alloc (.cells #[.int .i64 t.up, .string t.tg, .slice none 0 0, .slice none 0 0] 42)).heap.size = w.heap.size + 1 + 1 + 1 := by simp
  rw [z1] at RR
  rw [z2] at RO
  have HR := Hid.mk' RR
  have HO := Hid.mk' RO
  have HP := Hid.mk' RP
  have Z3 := Hid.mk' z3
  clear ha hp B0 B1 RR RO RP z1 z2 z3
  generalize hW : ((w.alloc (.cells #[.int .i64 t.up, .string t.tg, .slice a t.at_.length c, .slice p t.tx.length d] 38)).alloc (.cells #[.int .i64 0, .string ⟨#[]⟩, .slice none 0 0, .slice none 0 0] 42)).alloc (.cells #[.int .i64 t.up, .string t.tg, .slice none 0 0, .slice none 0 0] 42) = W at *
  obtain ⟨p0, p1, p2_, p3, p4⟩ := cells4 HP.out
  go_enter Try.func16, Try.ntmps16
  go_wp2_with fail
  clear hW p0 p1 p2_ p3 p4
  refine KB.out.mono ?_
  rintro e w1 ⟨rfl, har⟩
  have hbl := har.bl
  have Hp := rowB HP.out hbl
  have Ho := rowB HO.out hbl
  have Hr := rowB HR.out hbl
  have K1 := (KeptIn.refl (w.heap.size + 1) (w.heap.size + 1 + 1 + 1) w1).setCell (p := ⟨w.heap.size + 1 + 1, 2, none⟩) (by simp) (by simp) (.slice (some ⟨W.heap.size, 0, none⟩) t.at_.length t.at_.length)
  have hz := Z3.out
  have hs1 := hbl.size
  have B2 := (HB.out.trans (hbl.mono HB.out.size)).trans (K1.below (B := w.heap.size) (by omega) (by omega))
  have KT := Hid.mk' (toByteS_any p d t.tx _ (HT.out.below B2) (by omega))
  have HA := Hid.mk' (AO.of har K1 (by omega))
  have KK := Hid.mk' K1
  have BB := Hid.mk' B2
  have Hp2 := Hid.mk' (rowK Hp K1 (.inl (by omega)))
  have Ho2 := Hid.mk' (Ho.set 2 (.slice (some ⟨W.heap.size, 0, none⟩) t.at_.length t.at_.length))
  have Hr2 := Hid.mk' (rowK (lo := w.heap.size + 1 + 1) (hi := w.heap.size + 1 + 1 + 1) Hr ((KeptIn.refl _ _ w1).setCell (p := ⟨w.heap.size + 1 + 1, 2, none⟩) (by simp) (by simp) (.slice (some ⟨W.heap.size, 0, none⟩) t.at_.length t.at_.length)) (.inl (by omega)))
  obtain ⟨p0, p1, p2_, p3, p4⟩ := cells4 Hp
  obtain ⟨o0, o1, o2, o3, o4⟩ := cells4 Ho
  have fo2 := Ho.frozen 2
  have s2 : (w1.setCell ⟨w.heap.size + 1 + 1, 2, none⟩ (.slice (some ⟨W.heap.size, 0, none⟩) t.at_.length t.at_.length)).heap.size = w1.heap.size := by simp [World.setCell]
  have p3' := Hp2.out.cell (i := 3) (by omega)
  have S2 := Hid.mk' s2
  have S1 := Hid.mk' hs1
  have ZZ := Hid.mk' hz
  clear Hp Ho Hr har hbl K1 B2 KB HO HR HP HB HT Z3 hz hs1 s2
  generalize hV : w1.setCell ⟨w.heap.size + 1 + 1, 2, none⟩ (.slice (some ⟨W.heap.size, 0, none⟩) t.at_.length t.at_.length) = V at *
  go_wp2_with fail
  clear hV p0 p1 p2_ p3 p4 o0 o1 o2 o3 o4 fo2 p3'
  refine KT.out.mono ?_
  rintro e w2 ⟨b, rfl, hb, hrow, hbl⟩
  have Ho := rowB Ho2.out hbl
  have Hr := rowB Hr2.out hbl
  have Hp := rowB Hp2.out hbl
  obtain ⟨p0, p1, p2_, p3, p4⟩ := cells4 Hp
  have o0 : w2.cell? ⟨w.heap.size + 1 + 1, 0, none⟩ = some (.int .i64 t.up) := Ho.cell (by omega)
  have o1 : w2.cell? ⟨w.heap.size + 1 + 1, 1, none⟩ = some (.string t.tg) := Ho.cell (by omega)
  have o2 : w2.cell? ⟨w.heap.size + 1 + 1, 2, none⟩ = some (.slice (some ⟨W.heap.size, 0, none⟩) t.at_.length t.at_.length) := Ho.cell (by omega)
  have o3 : w2.cell? ⟨w.heap.size + 1 + 1, 3, none⟩ = some (.slice none 0 0) := Ho.cell (by omega)
  have o4 : w.heap.size + 1 + 1 < w2.heap.size := Ho.lt
  obtain ⟨r0, r1, r2, r3_, r4_⟩ := cells4 Hr
  have fo3 := Ho.frozen 3
  have fr0 := Hr.frozen 0
  have fr1 := Hr.frozen 1
  have fr2 := Hr.frozen 2
  have fr3 := Hr.frozen 3
  have AH := Hid.mk' ((HA.out.h (hi := b) (by omega)).below hbl)
  have RW := Hid.mk' hrow
  have BL := Hid.mk' hbl
  have hb' := Hid.mk' hb
  clear Ho Hr Hp hrow hbl KT Ho2 Hr2 Hp2 HA KK hb
  go_wp2
  refine bodyPost_ret (v := .agg #[.int .i64 t.up, .string t.tg, .slice (some ⟨W.heap.size, 0, none⟩) t.at_.length t.at_.length, .slice (some ⟨b, 0, none⟩) t.tx.length t.tx.length]) (by simp [results, Try.results16, go_sem, *]) rfl ?_
  have e1 := ZZ.out
  have e2 := S1.out
  have e3 := S2.out
  have e4 := hb'.out
  have KK := (((((KeptIn.refl (w.heap.size + 1) (w.heap.size + 1 + 1 + 1) w2).setCell (p := ⟨w.heap.size + 1 + 1, 3, none⟩) (by simp) (by simp) (.slice (some ⟨b, 0, none⟩) t.tx.length t.tx.length)).setCell (p := ⟨w.heap.size + 1, 0, none⟩) (by simp) (by simp) (.int .i64 t.up)).setCell (p := ⟨w.heap.size + 1, 1, none⟩) (by simp) (by simp) (.string t.tg)).setCell (p := ⟨w.heap.size + 1, 2, none⟩) (by simp) (by simp) (.slice (some ⟨W.heap.size, 0, none⟩) t.at_.length t.at_.length)).setCell (p := ⟨w.heap.size + 1, 3, none⟩) (by simp) (by simp) (.slice (some ⟨b, 0, none⟩) t.tx.length t.tx.length)
  exact ⟨W.heap.size, b, rfl, by omega, AH.out.kept KK (.inr (by omega)), rowK RW.out KK (.inr (by omega)), (BB.out.trans (BL.out.mono BB.out.size)).trans (KK.below (by omega) (by omega))⟩

theorem Try.info42 : (Try.prog.info? 42).map (fun i => (i.zero, i.size, i.bytes)) = some (some (.agg #[.int .i64 0, .string ⟨#[]⟩, .slice none 0 0, .slice none 0 0]), 4, 72) := by kernel_rfl

theorem make_nodes {P : Program} (t e : TypeId) (ht : P.underlying t = some (.slice e)) (hinfo : (P.info? e).map (fun i => (i.zero, i.size, i.bytes)) = some (some (.agg #[.int .i64 0, .string ⟨#[]⟩, .slice none 0 0, .slice none 0 0]), 4, 72))
    (n : Nat) (hn : (n : Int) ≤ 1048576) (w : World) :
    (Instr.makeSlice t (.int .i64 (n : Int)) (.int .i64 (n : Int))).run P w = .ok (.slice (some ⟨w.heap.size, 0, none⟩) n n) (w.alloc (.cells (madeCells #[.int .i64 0, .string ⟨#[]⟩, .slice none 0 0, .slice none 0 0] (n * 4)) e)) := by
  obtain ⟨i, hi, hzz⟩ := Option.map_eq_some_iff.1 hinfo
  simp only [Prod.mk.injEq] at hzz
  obtain ⟨hz, hs, hb⟩ := hzz
  have hr := run_make (P := P) w t e i _ ht hi hz .i64 .i64 n n (by omega) (Int.le_refl _) (by rw [hb]; omega) (by omega)
  simp only [Int.toNat_natCast, hs] at hr
  exact hr

/-- A node in a row of nodes of one's own: its rows lie from lo on and below hi. -/
def NO (lo hi : Nat) (t : ND) (f : Nat → Value) (j : Nat) (w : World) : Prop :=
  f (j * 4) = .int .i64 t.up ∧ f (j * 4 + 1) = .string t.tg ∧ ∃ g b, f (j * 4 + 2) = .slice (some ⟨g, 0, none⟩) t.at_.length t.at_.length ∧ f (j * 4 + 3) = .slice (some ⟨b, 0, none⟩) t.tx.length t.tx.length ∧ lo ≤ g ∧ b < hi ∧ AOh b g t.at_ w ∧ w.rowIs b 5 t.tx.length (bv t.tx)

theorem AOh.lt {hi g : Nat} {l : List AT} {w : World} (h : AOh hi g l w) : g < hi := by obtain ⟨_, _, h, _⟩ := h; exact h

theorem NO.keep {lo hi : Nat} {t : ND} {f f' : Nat → Value} {j : Nat} {w w' : World} (h : NO lo hi t f j w) (hf : ∀ i, i < 4 → f' (j * 4 + i) = f (j * 4 + i)) (hk : ∀ k, lo ≤ k → k < hi → k < w.heap.size → w'.heap[k]? = w.heap[k]?) : NO lo hi t f' j w' := by
  obtain ⟨h1, h2, g, b, h3, h4, h5, h6, h7, h8⟩ := h
  have hl := h7.lt
  exact ⟨(hf 0 (by omega)).trans h1, (hf 1 (by omega)).trans h2, g, b, (hf 2 (by omega)).trans h3, (hf 3 (by omega)).trans h4, h5, h6, h7.keep (fun k a c d => hk k (by omega) (by omega) d), h8.of_block (hk b (by omega) h6 h8.lt)⟩

/-- Nodes being copied into a row of one's own: k of them are there; the rows of each one behind those of the one ahead. -/
structure NR (w : World) (l : List ND) (k : Nat) (wr : World) : Prop where
  bl : Below w.heap.size w wr
  row : ∃ (f : Nat → Value) (s : Nat → Nat), wr.rowIs w.heap.size 42 (l.length * 4) f ∧ w.heap.size < s 0 ∧ s k ≤ wr.heap.size ∧ (∀ j, j < k → s j ≤ s (j + 1)) ∧ ∀ j, j < k → NO (s j) (s (j + 1)) (ndK l j) f j wr

theorem NR.start (w : World) (l : List ND) : NR w l 0 (w.alloc (.cells (madeCells #[.int .i64 0, .string ⟨#[]⟩, .slice none 0 0, .slice none 0 0] (l.length * 4)) 42)) := by
  refine ⟨(Below.refl _ _).alloc (Nat.le_refl _) _, fun i => r4 (.int .i64 0) (.string ⟨#[]⟩) (.slice none 0 0) (.slice none 0 0) (i % 4), fun _ => w.heap.size + 1, ?_, Nat.lt_succ_self _, by simp, fun j hj => absurd hj (Nat.not_lt_zero _), fun j hj => absurd hj (Nat.not_lt_zero _)⟩
  refine ⟨_, Deep.blk_alloc_new _ _, size_madeCells _ _, fun i hi => ?_⟩
  have h : i % 4 = 0 ∨ i % 4 = 1 ∨ i % 4 = 2 ∨ i % 4 = 3 := by omega
  rcases h with h | h | h | h <;> simp [madeCells, hi, h, r4]

theorem NR.below {w wr w1 : World} {l : List ND} {k : Nat} (h : NR w l k wr) (hb : Below wr.heap.size wr w1) : NR w l k w1 := by
  obtain ⟨f, s, hf, h0, h1, h2, hj⟩ := h.row
  exact ⟨h.bl.trans (hb.mono h.bl.size), f, s, rowB hf hb, h0, Nat.le_trans h1 hb.size, h2, fun j hk => (hj j hk).keep (fun _ _ => rfl) (fun i _ _ hl => hb.block i hl)⟩

theorem mono_s {s : Nat → Nat} {k : Nat} (h : ∀ j, j < k → s j ≤ s (j + 1)) : ∀ j, j ≤ k → s 0 ≤ s j
  | 0, _ => Nat.le_refl _
  | j + 1, hj => Nat.le_trans (mono_s h j (by omega)) (h j (by omega))

theorem NR.step {w wr w1 : World} {l : List ND} {k g b : Nat} (h : NR w l k wr) (hb1 : Below wr.heap.size wr w1) (hg : wr.heap.size ≤ g) (hao : AOh b g (ndK l k).at_ w1) (hrow : w1.rowIs b 5 (ndK l k).tx.length (bv (ndK l k).tx)) :
    NR w l (k + 1) ((((w1.setCell ⟨w.heap.size, k * 4, none⟩ (.int .i64 (ndK l k).up)).setCell ⟨w.heap.size, k * 4 + 1, none⟩ (.string (ndK l k).tg)).setCell ⟨w.heap.size, k * 4 + 2, none⟩ (.slice (some ⟨g, 0, none⟩) (ndK l k).at_.length (ndK l k).at_.length)).setCell ⟨w.heap.size, k * 4 + 3, none⟩ (.slice (some ⟨b, 0, none⟩) (ndK l k).tx.length (ndK l k).tx.length)) := by
  have h' := h.below hb1
  obtain ⟨f0, s0, hf0, _, h10, _, _⟩ := h.row
  obtain ⟨f, s, hf, h0, h1, h2, hj⟩ := h.row
  have hf := rowB hf hb1
  have K := kept4 w1 w.heap.size (k * 4) (k * 4 + 1) (k * 4 + 2) (k * 4 + 3) (.int .i64 (ndK l k).up) (.string (ndK l k).tg) (.slice (some ⟨g, 0, none⟩) (ndK l k).at_.length (ndK l k).at_.length) (.slice (some ⟨b, 0, none⟩) (ndK l k).tx.length (ndK l k).tx.length)
  have hm := mono_s h2
  have hbs := hb1.size
  have hbl := hrow.lt
  have hgb := hao.lt
  have hm2 := hm k (Nat.le_refl _)
  refine ⟨h'.bl.trans (K.below (Nat.le_refl _) h'.bl.size), _, fun j => if j = k + 1 then w1.heap.size else s j, (((hf.set (k * 4) _).set (k * 4 + 1) _).set (k * 4 + 2) _).set (k * 4 + 3) _, by simpa using h0, ?_, fun j hk => ?_, fun j hk => ?_⟩
  · simp [World.setCell]
  · by_cases e : j = k
    · subst e; simp; omega
    · simp only [show ¬ j = k + 1 by omega, show ¬ j + 1 = k + 1 by omega, if_false]; exact h2 j (by omega)
  · by_cases e : j = k
    · subst e
      simp only [show ¬ j = j + 1 by omega, if_false, if_true]
      refine ⟨?_, ?_, g, b, ?_, ?_, by omega, hbl, hao.kept K (.inr (by omega)), rowK hrow K (.inr (by omega))⟩
      · dsimp only; rw [if_neg (by omega), if_neg (by omega), if_neg (by omega), if_pos rfl]
      · dsimp only; rw [if_neg (by omega), if_neg (by omega), if_pos rfl]
      · dsimp only; rw [if_neg (by omega), if_pos rfl]
      · dsimp only; rw [if_pos rfl]
    · simp only [show ¬ j = k + 1 by omega, show ¬ j + 1 = k + 1 by omega, if_false]
      have hmj := hm j (by omega)
      refine (hj j (by omega)).keep (fun i hi => ?_) (fun i h3 h4 h5 => ?_)
      · rw [if_neg (by omega), if_neg (by omega), if_neg (by omega), if_neg (by omega)]
      · exact (K.block i (by omega) (by omega)).trans (hb1.block i h5)

theorem NR.at {w wr : World} {l : List ND} (h : NR w l l.length wr) : NsAt wr (some ⟨w.heap.size, 0, none⟩) l := by
  obtain ⟨f, s, hf, h0, h1, h2, hj⟩ := h.row
  refine .inr ⟨_, _, rfl, hf.lt, fun k hk => ?_⟩
  obtain ⟨e1, e2, g, b, e3, e4, h5, h6, h7, h8⟩ := hj k hk
  have c := fun i (hi : i < 4) => hf.cell (show k * 4 + i < l.length * 4 by omega)
  refine ⟨by rw [Nat.zero_add]; exact (c 0 (by omega)).trans (by rw [Nat.add_zero, e1]), by rw [Nat.zero_add, c 1 (by omega), e2], ⟨_, _, by rw [Nat.zero_add, c 2 (by omega), e3], Nat.le_refl _, h7.ao.at⟩, ⟨_, _, by rw [Nat.zero_add, c 3 (by omega), e4], .of_row h8⟩⟩

set_option maxHeartbeats 1600000 in
theorem toNodeS_any (a : Option Addr) (c : Nat) (l : List ND) (w : World) (ha : NsAt w a l) (hl : (l.length : Int) + nssz l ≤ 1048576) :
    Calls Try.prog 7 #[.slice a l.length c] w fun e w' => e = .returned (.slice (some ⟨w.heap.size, 0, none⟩) l.length l.length) ∧ NR w l l.length w' := by
  have hmk := make_nodes (P := Try.prog) 25 42 Try.underlying25 Try.info42 l.length (by omega)
  have HA := Hid.mk' ha
  clear ha
  go_enter Try.func7, Try.ntmps7
  go_wp2
  go_loopw [4] (fun i wr => ∃ k : Nat, k ≤ l.length ∧ i = .int .i64 k ∧ NR w l k wr) (fun i _ => l.length - (intOf i).toNat)
  case atStart => exact ⟨0, Nat.zero_le _, rfl, NR.start w l⟩
  case round =>
    obtain ⟨k, hk, rfl, hr⟩ := hrel
    have HR := Hid.mk' hr
    clear hr hmk
    by_cases hlt : k < l.length
    · have ci : (k : Int) < (l.length : Int) := by omega
      rcases HA.out with ha | ⟨b, o, rfl, hbs, hc⟩
      · exact absurd hlt (by rw [ha]; exact Nat.not_lt_zero _)
      obtain ⟨q1, q2, ⟨p, d, q3, _, q4⟩, ⟨p', d', q5, q6⟩⟩ := hc k hlt
      have h1 := (HR.out.bl.cell hbs).trans q1
      have h2 := (HR.out.bl.cell hbs).trans q2
      have h3 := (HR.out.bl.cell hbs).trans q3
      have h4 := (HR.out.bl.cell hbs).trans q5
      have st := nssz_at hlt
      have KA := Hid.mk' (toNode_any (ndK l k) p p' d d' wr (q4.below HR.out.bl) (q6.below HR.out.bl) (by omega))
      clear q1 q2 q3 q4 q5 q6 hc st
      go_wp2_with fail
      refine KA.out.mono ?_
      rintro e w1 ⟨g, b1, rfl, hg, hao, hrow, hbl⟩
      have hr1 := HR.out.below hbl
      obtain ⟨f, _, hf, _⟩ := hr1.row
      have f0 := hf.frozen (k * 4)
      have f1 := hf.frozen (k * 4 + 1)
      have f2 := hf.frozen (k * 4 + 2)
      have f3 := hf.frozen (k * 4 + 3)
      obtain ⟨v0, g0⟩ : ∃ v, w1.cell? ⟨w.heap.size, k * 4, none⟩ = some v := ⟨_, hf.cell (by omega)⟩
      obtain ⟨v1, g1⟩ : ∃ v, w1.cell? ⟨w.heap.size, k * 4 + 1, none⟩ = some v := ⟨_, hf.cell (by omega)⟩
      obtain ⟨v2, g2⟩ : ∃ v, w1.cell? ⟨w.heap.size, k * 4 + 2, none⟩ = some v := ⟨_, hf.cell (by omega)⟩
      obtain ⟨v3, g3⟩ : ∃ v, w1.cell? ⟨w.heap.size, k * 4 + 3, none⟩ = some v := ⟨_, hf.cell (by omega)⟩
      have R1 := Hid.mk' (HR.out.step hbl hg hao hrow)
      clear hr1 hf hao hbl hrow KA h1 h2 h3 h4 hg
      go_wp2
      go_roundw
      case rel => exact ⟨k + 1, by omega, by go_num, R1.out⟩
      case measure => simp [intOf]; omega
    · have ci : ¬ (k : Int) < (l.length : Int) := by omega
      have e : k = l.length := by omega
      subst e
      go_wp2
      go_ret
      exact ⟨rfl, HR.out⟩

end Go.Proofs.Ytngdcpmolbpoeaa
