/- What a bent table comes to. -/
import Derived.Test.YtahkneghmgmnbaaYc
namespace Go.Proofs.Ytahkneghmgmnbaa
open Go.RowKit
set_option linter.unusedVariables false

/-- A table of bytes whose numbers are small. -/
structure Bent (t : TB) : Prop where
  ub : U8 t.base
  um : U8 t.more
  lb : t.base.length ≤ 2000
  lm : t.more.length ≤ 2001
  lp : t.pcs.length ≤ 41
  sz : ∀ k, k < t.pcs.length → 0 ≤ (pc t.pcs k).sz ∧ (pc t.pcs k).sz ≤ 2000
  wf : WFT t

theorem Good.bent {t : TB} (h : Good t) : Bent t := by
  obtain ⟨h1, h2, h3, _, _⟩ := fault_zero h.fz
  exact ⟨h.ub, h.um, by omega, by omega, by omega, (fault_small h.fz).2, fun k hk => by
    rw [pc_get _ _ hk]
    have hb := lies_bounds (List.all_eq_true.1 (fault_zero h.fz).2.2.2.1 _ (List.getElem_mem hk))
    unfold room at hb
    split at hb <;> omega⟩

theorem OT.swap3 {lo g n c : Nat} {w w' : World} {s1 s2 s3 : Value} {t : TB} {P : List PC} (h : OT lo w.heap.size w s1 s2 s3 t) (hb : Below w.heap.size w w') (hlo : lo ≤ g) (hg : w.heap.size ≤ g) (hg' : g < w'.heap.size) (ho : OP w' (.slice (some ⟨g, 0, none⟩) n c) P) : OT lo w'.heap.size w' s1 s2 (.slice (some ⟨g, 0, none⟩) n c) ⟨t.base, t.more, P⟩ :=
  ⟨(h.below hb).o1, (h.below hb).o2, ho, h.i1.mono (Nat.le_refl _) hb.size, h.i2.mono (Nat.le_refl _) hb.size, In.at hlo hg', h.a12, Ap.of_in h.i1 (In.at hg hg'), Ap.of_in h.i2 (In.at hg hg')⟩

theorem OT.swap2 {lo g n c : Nat} {w w' : World} {s1 s2 s3 : Value} {t : TB} {M : List Int} (h : OT lo w.heap.size w s1 s2 s3 t) (hb : Below w.heap.size w w') (hlo : lo ≤ g) (hg : w.heap.size ≤ g) (hg' : g < w'.heap.size) (ho : OB w' (.slice (some ⟨g, 0, none⟩) n c) M) : OT lo w'.heap.size w' s1 (.slice (some ⟨g, 0, none⟩) n c) s3 ⟨t.base, M, t.pcs⟩ :=
  ⟨(h.below hb).o1, ho, (h.below hb).o3, h.i1.mono (Nat.le_refl _) hb.size, In.at hlo hg', h.i3.mono (Nat.le_refl _) hb.size, Ap.of_in h.i1 (In.at hg hg'), h.a13, (Ap.of_in h.i3 (In.at hg hg')).symm⟩

theorem OT.swap1 {lo g n c : Nat} {w w' : World} {s1 s2 s3 : Value} {t : TB} {M : List Int} (h : OT lo w.heap.size w s1 s2 s3 t) (hb : Below w.heap.size w w') (hlo : lo ≤ g) (hg : w.heap.size ≤ g) (hg' : g < w'.heap.size) (ho : OB w' (.slice (some ⟨g, 0, none⟩) n c) M) : OT lo w'.heap.size w' (.slice (some ⟨g, 0, none⟩) n c) s2 s3 ⟨M, t.more, t.pcs⟩ :=
  ⟨ho, (h.below hb).o2, (h.below hb).o3, In.at hlo hg', h.i2.mono (Nat.le_refl _) hb.size, h.i3.mono (Nat.le_refl _) hb.size, (Ap.of_in h.i2 (In.at hg hg')).symm, (Ap.of_in h.i3 (In.at hg hg')).symm, h.a23⟩

theorem off_new {g h n c : Nat} (hh : g < h) : ∀ k, (Value.slice (some ⟨h, 0, none⟩) n c).ownBlock = some k → k ≠ g := fun k hk => by
  simp [Value.ownBlock] at hk; omega

theorem zeros_OB (w : World) (n : Nat) : OB (w.alloc (.cells (madeCells #[.int .u8 0] n) 5)) (.slice (some ⟨w.heap.size, 0, none⟩) n n) (List.replicate n 0) :=
  .inr ⟨w.heap.size, n, n, fun _ => .int .u8 0, by rw [List.length_replicate], by simp, World.rowIs_made w (.int .u8 0) n 5, by simp, fun i hi => by
    rw [List.length_replicate] at hi
    simp [bv, List.getD_eq_getElem?_getD, hi]⟩

theorem pc_replicate (n k : Nat) : pc (List.replicate n ⟨false, 0, 0⟩) k = ⟨false, 0, 0⟩ := by
  unfold pc
  rw [List.getD_eq_getElem?_getD, List.getElem?_replicate]
  split <;> rfl

theorem zeros_OP (w : World) (n : Nat) (hn : n ≤ 1000) : OP (w.alloc (.cells (madeCells #[.bool false, .int .i64 0, .int .i64 0] (n * 3)) 72)) (.slice (some ⟨w.heap.size, 0, none⟩) n n) (List.replicate n ⟨false, 0, 0⟩) :=
  .inr ⟨w.heap.size, n, n * 3, ppart [] 0, by rw [List.length_replicate], by simp, row_ppart_start w _ [] n, ⟨rfl, by unfold maxLen; omega⟩, fun i hi => by
    simp [ppart, pz, pv, pc_replicate]⟩

theorem DS.put2 {w wr : World} {b q g k : Nat} {l : List Int} {s1 s2 s3 u : Value} {t t' : TB} (h : DS w b q g l k s1 s2 s3 t wr) (hbw : b < w.heap.size) (ho : OT (q + 1) wr.heap.size wr s1 s2 u t') (hu : ∀ k, u.ownBlock = some k → k ≠ g) : DS w b q g l k s1 s2 u t' (wr.setCell ⟨g, 2, none⟩ u) :=
  h.put hbw (keptj1 (KeptIn.refl _ _ _) 2 u) ((h.box.set 2 u).congr (fun i hi => by
    have h : i = 0 ∨ i = 1 ∨ i = 2 := by omega
    rcases h with rfl | rfl | rfl <;> simp [r3])) ho ⟨h.off.1, h.off.2.1, hu⟩

theorem DS.put1 {w wr : World} {b q g k : Nat} {l : List Int} {s1 s2 s3 u : Value} {t t' : TB} (h : DS w b q g l k s1 s2 s3 t wr) (hbw : b < w.heap.size) (ho : OT (q + 1) wr.heap.size wr s1 u s3 t') (hu : ∀ k, u.ownBlock = some k → k ≠ g) : DS w b q g l k s1 u s3 t' (wr.setCell ⟨g, 1, none⟩ u) :=
  h.put hbw (keptj1 (KeptIn.refl _ _ _) 1 u) ((h.box.set 1 u).congr (fun i hi => by
    have h : i = 0 ∨ i = 1 ∨ i = 2 := by omega
    rcases h with rfl | rfl | rfl <;> simp [r3])) ho ⟨h.off.1, hu, h.off.2.2⟩

theorem DS.put0 {w wr : World} {b q g k : Nat} {l : List Int} {s1 s2 s3 u : Value} {t t' : TB} (h : DS w b q g l k s1 s2 s3 t wr) (hbw : b < w.heap.size) (ho : OT (q + 1) wr.heap.size wr u s2 s3 t') (hu : ∀ k, u.ownBlock = some k → k ≠ g) : DS w b q g l k u s2 s3 t' (wr.setCell ⟨g, 0, none⟩ u) :=
  h.put hbw (keptj1 (KeptIn.refl _ _ _) 0 u) ((h.box.set 0 u).congr (fun i hi => by
    have h : i = 0 ∨ i = 1 ∨ i = 2 := by omega
    rcases h with rfl | rfl | rfl <;> simp [r3])) ho ⟨hu, h.off.2.1, h.off.2.2⟩

/-- Pieces of zeros for those of a table. -/
theorem DS.zp {w wr : World} {b q g k : Nat} {l : List Int} {s1 s2 s3 : Value} {t : TB} (h : DS w b q g l k s1 s2 s3 t wr) (hbw : b < w.heap.size) (n : Nat) (hn : n ≤ 1000) : DS w b q g l k s1 s2 (.slice (some ⟨wr.heap.size, 0, none⟩) n n) ⟨t.base, t.more, List.replicate n ⟨false, 0, 0⟩⟩ ((wr.alloc (.cells (madeCells #[.bool false, .int .i64 0, .int .i64 0] (n * 3)) 72)).setCell ⟨g, 2, none⟩ (.slice (some ⟨wr.heap.size, 0, none⟩) n n)) :=
  have N := below_new wr (.cells (madeCells #[.bool false, .int .i64 0, .int .i64 0] (n * 3)) 72)
  have h1 := h.box.lt
  have h2 := h.qg
  (h.below N).put2 hbw (h.ot.swap3 N (by omega) (Nat.le_refl _) (by simp) (zeros_OP wr n hn)) (off_new h1)

/-- Zeros for the bytes that a table has more. -/
theorem DS.zm {w wr : World} {b q g k : Nat} {l : List Int} {s1 s2 s3 : Value} {t : TB} (h : DS w b q g l k s1 s2 s3 t wr) (hbw : b < w.heap.size) (n : Nat) : DS w b q g l k s1 (.slice (some ⟨wr.heap.size, 0, none⟩) n n) s3 ⟨t.base, List.replicate n 0, t.pcs⟩ ((wr.alloc (.cells (madeCells #[.int .u8 0] n) 5)).setCell ⟨g, 1, none⟩ (.slice (some ⟨wr.heap.size, 0, none⟩) n n)) :=
  have N := below_new wr (.cells (madeCells #[.int .u8 0] n) 5)
  have h1 := h.box.lt
  have h2 := h.qg
  (h.below N).put1 hbw (h.ot.swap2 N (by omega) (Nat.le_refl _) (by simp) (zeros_OB wr n)) (off_new h1)

theorem DS.zb {w wr : World} {b q g k : Nat} {l : List Int} {s1 s2 s3 : Value} {t : TB} (h : DS w b q g l k s1 s2 s3 t wr) (hbw : b < w.heap.size) (n : Nat) : DS w b q g l k (.slice (some ⟨wr.heap.size, 0, none⟩) n n) s2 s3 ⟨List.replicate n 0, t.more, t.pcs⟩ ((wr.alloc (.cells (madeCells #[.int .u8 0] n) 5)).setCell ⟨g, 0, none⟩ (.slice (some ⟨wr.heap.size, 0, none⟩) n n)) :=
  have N := below_new wr (.cells (madeCells #[.int .u8 0] n) 5)
  have h1 := h.box.lt
  have h2 := h.qg
  (h.below N).put0 hbw (h.ot.swap1 N (by omega) (Nat.le_refl _) (by simp) (zeros_OB wr n)) (off_new h1)

theorem two_OP (w : World) (x : Int) : OP (w.alloc (.cells #[.bool false, .int .i64 0, .int .i64 x, .bool false, .int .i64 0, .int .i64 1] 72)) (.slice (some ⟨w.heap.size, 0, none⟩) 2 2) [⟨false, 0, x⟩, ⟨false, 0, 1⟩] :=
  .inr ⟨w.heap.size, 2, 6, pv [⟨false, 0, x⟩, ⟨false, 0, 1⟩], rfl, Nat.le_refl _, World.rowIs_alloc w #[.bool false, .int .i64 0, .int .i64 x, .bool false, .int .i64 0, .int .i64 1] _ _ (fun i hi => by
    have h : i = 0 ∨ i = 1 ∨ i = 2 ∨ i = 3 ∨ i = 4 ∨ i = 5 := by simp at hi; omega
    rcases h with rfl | rfl | rfl | rfl | rfl | rfl <;> simp [pv, pc]), ⟨rfl, by unfold maxLen; omega⟩, fun i _ => rfl⟩

/-- Other pieces for those of a table, in a new row. -/
theorem DS.np {w wr : World} {b q g k n c : Nat} {l : List Int} {s1 s2 s3 : Value} {t : TB} {P : List PC} (h : DS w b q g l k s1 s2 s3 t wr) (hbw : b < w.heap.size) (o : Obj) (ho : OP (wr.alloc o) (.slice (some ⟨wr.heap.size, 0, none⟩) n c) P) : DS w b q g l k s1 s2 (.slice (some ⟨wr.heap.size, 0, none⟩) n c) ⟨t.base, t.more, P⟩ ((wr.alloc o).setCell ⟨g, 2, none⟩ (.slice (some ⟨wr.heap.size, 0, none⟩) n c)) :=
  have N := below_new wr o
  have h1 := h.box.lt
  have h2 := h.qg
  (h.below N).put2 hbw (h.ot.swap3 N (by omega) (Nat.le_refl _) (by simp) ho) (off_new h1)

theorem set_size (w : World) (p : Addr) (v : Value) : (w.setCell p v).heap.size = w.heap.size := by simp [World.setCell]

/-- Numbers that lie off the source. -/
structure IG (b g : Nat) (xs : List Int) (w : World) : Prop where
  at_ : IAt w g xs
  bg : b < g

theorem IG.below {b g : Nat} {xs : List Int} {w w' : World} (h : IG b g xs w) (hb : Below w.heap.size w w') : IG b g xs w' :=
  ⟨⟨Nat.lt_of_lt_of_le h.at_.1 hb.size, fun i hi => (hb.cell h.at_.1).trans (h.at_.2 i hi)⟩, h.bg⟩

theorem IG.next {b g : Nat} {xs : List Int} {w w' : World} (h : IG b g xs w) (hK : KeptIn b (b + 1) w w') : IG b g xs w' :=
  ⟨⟨Nat.lt_of_lt_of_le h.at_.1 hK.size, fun i hi => (World.cell?_of_block (hK.block g h.at_.1 (.inr h.bg))).trans (h.at_.2 i hi)⟩, h.bg⟩

theorem DS.ig1 {w wr : World} {b q g k : Nat} {l : List Int} {s1 s2 s3 : Value} {t : TB} (h : DS w b q g l k s1 s2 s3 t wr) (j : Nat) (hj : wr.heap.size = j) : IG b j [0, -1, 3] (wr.alloc (.cells #[.int .i64 0, .int .i64 (-1), .int .i64 3] 2)) := by
  subst hj; exact ⟨iat_lit wr [0, -1, 3], h.src.lt⟩

theorem DS.ig2 {w wr : World} {b q g k : Nat} {l : List Int} {s1 s2 s3 : Value} {t : TB} (h : DS w b q g l k s1 s2 s3 t wr) (j : Nat) (hj : wr.heap.size = j) : IG b j [1, 0, 300] (wr.alloc (.cells #[.int .i64 1, .int .i64 0, .int .i64 300] 2)) := by
  subst hj; exact ⟨iat_lit wr [1, 0, 300], h.src.lt⟩

theorem DS.own3 {w wr : World} {b q g k : Nat} {l : List Int} {s1 s2 s3 : Value} {t : TB} (h : DS w b q g l k s1 s2 s3 t wr) : wr.ownsRow (q + 1) 72 3 s3 t.pcs.length (pcs t.pcs) :=
  h.ot.o3.own fun k hk => (h.ot.i3 k hk).1

theorem DS.box' {w wr w' : World} {b q g k : Nat} {l : List Int} {s1 s2 s3 : Value} {t : TB} (h : DS w b q g l k s1 s2 s3 t wr) (hg : wr.grownBy w' s3.ownBlock) : w'.rowIs g 26 3 (r3 s1 s2 s3) :=
  h.box.of_block (hg.block g h.box.lt fun e => h.off.2.2 g e.symm rfl)

/-- One piece more. -/
theorem DS.app {w wr w' : World} {b q g k : Nat} {l : List Int} {s1 s2 s3 v : Value} {t : TB} {p : PC} (h : DS w b q g l k s1 s2 s3 t wr) (hbw : b < w.heap.size) (ho : w'.ownsRow (q + 1) 72 3 v (t.pcs.length + 1) (pcs t.pcs ++ pcs [p])) (hg : wr.grownBy w' s3.ownBlock) (hat : v.ownBlock = s3.ownBlock ∨ v.ownBlock = some wr.heap.size) : DS w b q g l k s1 s2 v ⟨t.base, t.more, t.pcs ++ [p]⟩ (w'.setCell ⟨g, 2, none⟩ v) := by
  have h1 := h.qw
  have h2 := h.qg
  have h3 := h.box.lt
  have hs := hg.size
  have hlt := ho.lt
  rw [← pcs_append] at ho
  have ho' : w'.ownsRow (q + 1) 72 3 v (t.pcs ++ [p]).length (pcs (t.pcs ++ [p])) := by
    rw [List.length_append]; exact ho
  obtain ⟨o3, _⟩ := OP.of_own ho'
  have kb : ∀ {j : Nat}, j < wr.heap.size → (∀ e, s3.ownBlock = some e → e ≠ j) → w'.heap[j]? = wr.heap[j]? := fun hj hne => hg.block _ hj fun e => hne _ e.symm rfl
  have i3 : In (q + 1) w'.heap.size v := fun j hj => hlt j hj
  have a1 : Ap s1 v := fun j hu hv => by
    rcases hat with e | e
    · exact h.ot.a13 j hu (e ▸ hv)
    · rw [e] at hv; cases hv; have := h.ot.i1 _ hu; omega
  have a2 : Ap s2 v := fun j hu hv => by
    rcases hat with e | e
    · exact h.ot.a23 j hu (e ▸ hv)
    · rw [e] at hv; cases hv; have := h.ot.i2 _ hu; omega
  have og : ∀ j, v.ownBlock = some j → j ≠ g := fun j hv => by
    rcases hat with e | e
    · exact h.off.2.2 j (e ▸ hv)
    · rw [e] at hv; cases hv; omega
  have ot : OT (q + 1) w'.heap.size w' s1 s2 v ⟨t.base, t.more, t.pcs ++ [p]⟩ :=
    ⟨h.ot.o1.keep fun j e hl => kb hl fun e' he' => fun ee => h.ot.a13 j e (ee ▸ he'), h.ot.o2.keep fun j e hl => kb hl fun e' he' => fun ee => h.ot.a23 j e (ee ▸ he'), o3, h.ot.i1.mono (Nat.le_refl _) hs, h.ot.i2.mono (Nat.le_refl _) hs, i3, h.ot.a12, a1, a2⟩
  have hK : KeptIn (q + 1) wr.heap.size wr w' := ⟨hg.os, hg.tape, hg.output, hg.size, fun j hj hc => kb hj fun e he => by have := h.ot.i3 e he; omega⟩
  have hK2 := keptj1 (KeptIn.refl g (g + 1) w') 2 v
  refine ⟨h1, h2, (((h.box' hg).set 2 v).congr (fun i hi => by
    have h : i = 0 ∨ i = 1 ∨ i = 2 := by omega
    rcases h with rfl | rfl | rfl <;> simp [r3])), rowK (rowK h.res hK (.inl (by omega))) hK2 (.inl h2), (ot.set ⟨h.off.1, h.off.2.1, og⟩ hK2).mono (Nat.le_refl _) hK2.size, ⟨h.off.1, h.off.2.1, og⟩, (h.src.kept hK (by omega)).kept hK2 (by omega), ?_⟩
  exact ⟨hK2.os.trans (hK.os.trans h.kept.os), hK2.tape.trans (hK.tape.trans h.kept.tape), hK2.output.trans (hK.output.trans h.kept.output), Nat.le_trans h.kept.size (Nat.le_trans hK.size hK2.size), fun j hj hc => by
    have hj1 := h.kept.size
    have hj2 := hK.size
    exact (hK2.block j (by omega) (.inl (by omega))).trans ((hK.block j (by omega) (.inl (by omega))).trans (h.kept.block j hj hc))⟩

theorem Bent.app {t : TB} (h : Bent t) (h40 : t.pcs.length ≤ 40) (ad : Bool) (fr sz : Int) (f1 : fr ≤ 3) (s0 : 0 ≤ sz) (s1 : sz ≤ 300) : Bent ⟨t.base, t.more, t.pcs ++ [⟨ad, fr, sz⟩]⟩ :=
  ⟨h.ub, h.um, h.lb, h.lm, by simp; omega, fun k hk => by
    by_cases c : k < t.pcs.length
    · rw [show pc (t.pcs ++ [⟨ad, fr, sz⟩]) k = pc t.pcs k by simp [pc, List.getElem?_append_left c]]
      exact h.sz k c
    · have e : k = t.pcs.length := by simp at hk; omega
      subst e
      rw [show pc (t.pcs ++ [⟨ad, fr, sz⟩]) t.pcs.length = ⟨ad, fr, sz⟩ by simp [pc]]
      exact ⟨s0, show sz ≤ 2000 by omega⟩, fun k hk => by
    by_cases c : k < t.pcs.length
    · rw [show pc (t.pcs ++ [⟨ad, fr, sz⟩]) k = pc t.pcs k by simp [pc, List.getElem?_append_left c]]
      exact h.wf k c
    · have e : k = t.pcs.length := by simp at hk; omega
      subst e
      rw [show pc (t.pcs ++ [⟨ad, fr, sz⟩]) t.pcs.length = ⟨ad, fr, sz⟩ by simp [pc]]
      exact show fr ≤ 9223372036854775807 by omega⟩

theorem U8.zeros (n : Nat) : U8 (List.replicate n 0) := fun x hx => by rw [List.eq_of_mem_replicate hx]; decide

end Go.Proofs.Ytahkneghmgmnbaa
