/- Walks: a table without a fault, drawn by edits. -/
import Derived.Test.YtahkneghmgmnbaaYa
import Derived.Deep.RegionHeld3
namespace Go.Proofs.Ytahkneghmgmnbaa
open Go.RowKit
set_option linter.unusedVariables false

def U8 (l : List Int) : Prop := ∀ x ∈ l, 0 ≤ x ∧ x ≤ 255
/-- A table without a fault, of bytes. -/
structure Good (t : TB) : Prop where
  fz : fault t = 0
  ub : U8 t.base
  um : U8 t.more

theorem good_new {l : List Int} (h : U8 l) (hl : l.length ≤ 240) : Good (newT l) := by
  refine ⟨?_, h, fun x hx => by simp [newT] at hx⟩
  unfold newT newPcs
  split
  · exact fault_ok (by simp; omega) (by simp) (by simp) (by simp) (by simp [total])
  · refine fault_ok (by simp; omega) (by simp) (by simp) ?_ (by simp [total]; omega)
    simp [lies, room]
    omega

theorem good_ins {t : TB} {x : Int} {d : List Int} (h : Good t) (hd : U8 d) (hc : insCode t x d = 0) : Good (insT t x d) := by
  obtain ⟨_, _, _, hf, _⟩ := ins_good hc
  refine ⟨hf, ?_, ?_⟩
  · unfold insT
    split
    · split
      · exact h.ub
      · split
        · intro y hy; simp at hy
        · exact h.ub
    · intro y hy; simp at hy
  · unfold insT
    split
    · split
      · exact h.um
      · split
        · intro y hy; simp at hy
        · intro y hy
          rcases List.mem_append.1 hy with hy | hy
          · exact h.um y hy
          · exact hd y hy
    · intro y hy; simp at hy

theorem delT_parts (t : TB) (x n : Int) : ((delT t x n).base = t.base ∨ (delT t x n).base = []) ∧ ((delT t x n).more = t.more ∨ (delT t x n).more = []) := by
  unfold delT
  repeat' split
  all_goals simp

theorem U8.nil : U8 [] := fun x hx => by simp at hx

theorem good_del {t : TB} {x n : Int} (h : Good t) (hc : delCode t x n = 0) : Good (delT t x n) := by
  obtain ⟨_, _, _, _, hf, _⟩ := del_good hc
  obtain ⟨hb, hm⟩ := delT_parts t x n
  refine ⟨hf, ?_, ?_⟩
  · rcases hb with e | e <;> rw [e]
    · exact h.ub
    · exact U8.nil
  · rcases hm with e | e <;> rw [e]
    · exact h.um
    · exact U8.nil

theorem good_len {t : TB} (h : Good t) : (t.base.length : Int) + t.more.length + t.pcs.length ≤ 1048576 := by
  obtain ⟨h1, h2, h3, _, _⟩ := fault_zero h.fz
  omega

theorem OB.cap {w : World} {v : Value} {l : List Int} (h : OB w v l) : ∃ a c, v = .slice a l.length c ∧ BAt w a l ∧ l.length ≤ c := by
  rcases h with ⟨rfl, rfl⟩ | ⟨g, cap, cn, f, rfl, hca, hr, hl, hf⟩
  · exact ⟨Option.none, 0, rfl, .inl rfl, Nat.le_refl _⟩
  · exact ⟨_, _, rfl, .inr ⟨g, 0, rfl, hr.lt, fun k hk => by rw [Nat.zero_add, hr.cell (by omega), hf k hk]⟩, hca⟩

theorem OT.atC {lo hi : Nat} {w : World} {s1 s2 s3 : Value} {t : TB} (h : OT lo hi w s1 s2 s3 t) : TAtC w (.agg #[s1, s2, s3]) t := by
  obtain ⟨a1, c1, rfl, b1, k1⟩ := h.o1.cap
  obtain ⟨a2, c2, rfl, b2, k2⟩ := h.o2.cap
  obtain ⟨a3, c3, rfl, b3⟩ := h.o3.len
  exact ⟨a1, a2, a3, c1, c2, c3, rfl, b1, b2, b3, k1, k2⟩

theorem own_bat {w : World} {base : Nat} {a : Option Addr} {c : Nat} {l : List Int} (h : w.ownsRow base 5 1 (.slice a l.length c) l.length (bcs l)) : BAt w a l := by
  obtain ⟨a', c', e, hb⟩ := (OB.of_own h).1.len
  cases e
  exact hb

/-- No row of the three is that block. -/
def Off (g : Nat) (s1 s2 s3 : Value) : Prop := (∀ k, s1.ownBlock = some k → k ≠ g) ∧ (∀ k, s2.ownBlock = some k → k ≠ g) ∧ (∀ k, s3.ownBlock = some k → k ≠ g)

theorem OT.off {lo hi g : Nat} {w : World} {s1 s2 s3 : Value} {t : TB} (h : OT lo hi w s1 s2 s3 t) (hg : g < lo ∨ hi ≤ g) : Off g s1 s2 s3 :=
  ⟨fun k e => by have := h.i1 k e; omega, fun k e => by have := h.i2 k e; omega, fun k e => by have := h.i3 k e; omega⟩

/-- Cells of other blocks may be written. -/
theorem OT.set {lo hi g : Nat} {w w' : World} {s1 s2 s3 : Value} {t : TB} (h : OT lo hi w s1 s2 s3 t) (ho : Off g s1 s2 s3) (hk : KeptIn g (g + 1) w w') : OT lo hi w' s1 s2 s3 t :=
  ⟨h.o1.keep fun k e hl => hk.block k hl (by have := ho.1 k e; omega), h.o2.keep fun k e hl => hk.block k hl (by have := ho.2.1 k e; omega), h.o3.keep fun k e hl => hk.block k hl (by have := ho.2.2 k e; omega), h.i1, h.i2, h.i3, h.a12, h.a13, h.a23⟩

/-- A table under way: in its box at block g, beside the box of the answer at block q. -/
structure DS (w : World) (b q g : Nat) (l : List Int) (k : Nat) (s1 s2 s3 : Value) (t : TB) (wr : World) : Prop where
  qw : w.heap.size ≤ q
  qg : q < g
  box : wr.rowIs g 26 3 (r3 s1 s2 s3)
  res : wr.rowIs q 26 3 (r3 (.slice none 0 0) (.slice none 0 0) (.slice none 0 0))
  ot : OT (q + 1) wr.heap.size wr s1 s2 s3 t
  off : Off g s1 s2 s3
  src : Src b l k wr
  kept : KeptIn b (b + 1) w wr

theorem DS.below {w wr w' : World} {b q g k : Nat} {l : List Int} {s1 s2 s3 : Value} {t : TB} (h : DS w b q g l k s1 s2 s3 t wr) (hb : Below wr.heap.size wr w') : DS w b q g l k s1 s2 s3 t w' :=
  ⟨h.qw, h.qg, rowB h.box hb, rowB h.res hb, (h.ot.below hb).mono (Nat.le_refl _) hb.size, h.off, h.src.below hb, h.kept.trans (KeptIn.of_below hb)⟩

theorem DS.next {w wr w' : World} {b q g k k' : Nat} {l : List Int} {s1 s2 s3 : Value} {t : TB} (h : DS w b q g l k s1 s2 s3 t wr) (hbw : b < w.heap.size) (hS : Src b l k' w') (hK : KeptIn b (b + 1) wr w') : DS w b q g l k' s1 s2 s3 t w' :=
  have h1 := h.qw
  have h2 := h.qg
  ⟨h.qw, h.qg, rowK h.box hK (.inr (by omega)), rowK h.res hK (.inr (by omega)), (h.ot.kept hK (.inr (by omega))).mono (Nat.le_refl _) hK.size, h.off, hS, h.kept.trans hK⟩

theorem DS.put {w wr w' : World} {b q g k : Nat} {l : List Int} {s1 s2 s3 u1 u2 u3 : Value} {t t' : TB} (h : DS w b q g l k s1 s2 s3 t wr) (hbw : b < w.heap.size) (hK : KeptIn g (g + 1) wr w') (hbox : w'.rowIs g 26 3 (r3 u1 u2 u3)) (ho : OT (q + 1) wr.heap.size wr u1 u2 u3 t') (hof : Off g u1 u2 u3) : DS w b q g l k u1 u2 u3 t' w' :=
  have h1 := h.qw
  have h2 := h.qg
  ⟨h.qw, h.qg, hbox, rowK h.res hK (.inl h.qg), (ho.set hof hK).mono (Nat.le_refl _) hK.size, hof, h.src.kept hK (by omega), ⟨hK.os.trans h.kept.os, hK.tape.trans h.kept.tape, hK.output.trans h.kept.output, Nat.le_trans h.kept.size hK.size, fun j hj hc => (hK.block j (Nat.lt_of_lt_of_le hj h.kept.size) (.inl (by omega))).trans (h.kept.block j hj hc)⟩⟩

theorem drew_size (w : World) : w.drew.heap.size = w.heap.size := rfl

/-- The box of a result under way, at block j, off the rows of a table. -/
structure RS (b g j : Nat) (s1 s2 s3 c u1 u2 u3 : Value) (wr : World) : Prop where
  jb : b + 1 ≤ j
  gj : g < j
  off : Off j s1 s2 s3
  box : wr.rowIs j 30 4 (r4 c u1 u2 u3)

theorem RS.next {b g j : Nat} {s1 s2 s3 c u1 u2 u3 : Value} {wr w' : World} (h : RS b g j s1 s2 s3 c u1 u2 u3 wr) (hK : KeptIn b (b + 1) wr w') : RS b g j s1 s2 s3 c u1 u2 u3 w' :=
  ⟨h.jb, h.gj, h.off, rowK h.box hK (.inr h.jb)⟩

theorem RS.below {b g j : Nat} {s1 s2 s3 c u1 u2 u3 : Value} {wr w' : World} (h : RS b g j s1 s2 s3 c u1 u2 u3 wr) (hb : Below wr.heap.size wr w') : RS b g j s1 s2 s3 c u1 u2 u3 w' :=
  ⟨h.jb, h.gj, h.off, rowB h.box hb⟩

theorem DS.rs {w wr : World} {b q g k : Nat} {l : List Int} {s1 s2 s3 : Value} {t : TB} (h : DS w b q g l k s1 s2 s3 t wr) (hbw : b < w.heap.size) (j : Nat) (hj : wr.heap.size = j) (c u1 u2 u3 : Value) : RS b g j s1 s2 s3 c u1 u2 u3 (wr.alloc (.cells #[c, u1, u2, u3] 30)) := by
  subst hj
  have h1 := h.kept.size
  exact ⟨by omega, h.box.lt, h.ot.off (.inr (Nat.le_refl _)), row4 wr _ c u1 u2 u3⟩

theorem RS.facts {b g j : Nat} {s1 s2 s3 c u1 u2 u3 : Value} {wr : World} (h : RS b g j s1 s2 s3 c u1 u2 u3 wr) : wr.cell? ⟨j, 0, none⟩ = some c ∧ wr.cell? ⟨j, 1, none⟩ = some u1 ∧ wr.cell? ⟨j, 2, none⟩ = some u2 ∧ wr.cell? ⟨j, 3, none⟩ = some u3 ∧ j < wr.heap.size ∧ wr.frozen? ⟨j, 0, none⟩ = false ∧ wr.frozen? ⟨j, 1, none⟩ = false ∧ wr.frozen? ⟨j, 2, none⟩ = false ∧ wr.frozen? ⟨j, 3, none⟩ = false ∧ ¬ g = j ∧ ¬ j = g := by
  obtain ⟨a, b', c', d, e⟩ := cells4 h.box
  have := h.gj
  exact ⟨a, b', c', d, e, h.box.frozen 0, h.box.frozen 1, h.box.frozen 2, h.box.frozen 3, by omega, by omega⟩

theorem DS.fresh {w wr w3 : World} {b q g k hi : Nat} {l : List Int} {s1 s2 s3 u1 u2 u3 : Value} {t t' : TB} (h : DS w b q g l k s1 s2 s3 t wr) (ho : OT wr.heap.size hi w3 u1 u2 u3 t') : OT (q + 1) hi w3 u1 u2 u3 t' ∧ Off g u1 u2 u3 :=
  have h1 := h.qg
  have h2 := h.box.lt
  ⟨ho.mono (by omega) (Nat.le_refl _), ho.off (.inl h2)⟩

theorem RS.fresh {b g j hi : Nat} {s1 s2 s3 c u1 u2 u3 v1 v2 v3 : Value} {wr w3 : World} {t' : TB} (h : RS b g j s1 s2 s3 c u1 u2 u3 wr) (ho : OT wr.heap.size hi w3 v1 v2 v3 t') : Off j v1 v2 v3 := ho.off (.inl h.box.lt)

/-- A row of four, written anew. -/
theorem put4 {wr : World} {j : Nat} {ty : TypeId} {c u1 u2 u3 : Value} (h : wr.rowIs j ty 4 (r4 c u1 u2 u3)) (c' v1 v2 v3 : Value) : ((((wr.setCell ⟨j, 0, none⟩ c').setCell ⟨j, 1, none⟩ v1).setCell ⟨j, 2, none⟩ v2).setCell ⟨j, 3, none⟩ v3).rowIs j ty 4 (r4 c' v1 v2 v3) :=
  ((((h.set 0 c').set 1 v1).set 2 v2).set 3 v3).congr (fun i hi => by
    have h : i = 0 ∨ i = 1 ∨ i = 2 ∨ i = 3 := by omega
    rcases h with rfl | rfl | rfl | rfl <;> simp [r4])

theorem put3 {wr : World} {j : Nat} {ty : TypeId} {u1 u2 u3 : Value} (h : wr.rowIs j ty 3 (r3 u1 u2 u3)) (v1 v2 v3 : Value) : (((wr.setCell ⟨j, 0, none⟩ v1).setCell ⟨j, 1, none⟩ v2).setCell ⟨j, 2, none⟩ v3).rowIs j ty 3 (r3 v1 v2 v3) :=
  (((h.set 0 v1).set 1 v2).set 2 v3).congr (fun i hi => by
    have h : i = 0 ∨ i = 1 ∨ i = 2 := by omega
    rcases h with rfl | rfl | rfl <;> simp [r3])

theorem keptj1 {a w : World} {j : Nat} (h : KeptIn j (j + 1) a w) (o : Nat) (v : Value) : KeptIn j (j + 1) a (w.setCell ⟨j, o, none⟩ v) :=
  h.setCell (p := ⟨j, o, none⟩) (Nat.le_refl _) (Nat.lt_succ_self _) v

theorem keptj4 (wr : World) (j : Nat) (c' v1 v2 v3 : Value) : KeptIn j (j + 1) wr ((((wr.setCell ⟨j, 0, none⟩ c').setCell ⟨j, 1, none⟩ v1).setCell ⟨j, 2, none⟩ v2).setCell ⟨j, 3, none⟩ v3) :=
  keptj1 (keptj1 (keptj1 (keptj1 (KeptIn.refl _ _ _) 0 c') 1 v1) 2 v2) 3 v3

theorem keptj3 (wr : World) (j : Nat) (v1 v2 v3 : Value) : KeptIn j (j + 1) wr (((wr.setCell ⟨j, 0, none⟩ v1).setCell ⟨j, 1, none⟩ v2).setCell ⟨j, 2, none⟩ v3) :=
  keptj1 (keptj1 (keptj1 (KeptIn.refl _ _ _) 0 v1) 1 v2) 2 v3

/-- Another box is written. -/
theorem DS.aside {w wr w' : World} {b q g k j : Nat} {l : List Int} {s1 s2 s3 : Value} {t : TB} (h : DS w b q g l k s1 s2 s3 t wr) (hbw : b < w.heap.size) (hj : g < j) (ho : Off j s1 s2 s3) (hK : KeptIn j (j + 1) wr w') : DS w b q g l k s1 s2 s3 t w' :=
  have h1 := h.qw
  have h2 := h.qg
  ⟨h.qw, h.qg, rowK h.box hK (.inl hj), rowK h.res hK (.inl (by omega)), (h.ot.set ho hK).mono (Nat.le_refl _) hK.size, h.off, h.src.kept hK (by omega), ⟨hK.os.trans h.kept.os, hK.tape.trans h.kept.tape, hK.output.trans h.kept.output, Nat.le_trans h.kept.size hK.size, fun i hi hc => (hK.block i (Nat.lt_of_lt_of_le hi h.kept.size) (.inl (by omega))).trans (h.kept.block i hi hc)⟩⟩

/-- A table and a result, both under way. -/
structure ES (w : World) (b q g : Nat) (l : List Int) (k : Nat) (s1 s2 s3 : Value) (t : TB) (j : Nat) (c : Int) (u1 u2 u3 : Value) (t' : TB) (wr : World) : Prop where
  d : DS w b q g l k s1 s2 s3 t wr
  r : RS b g j s1 s2 s3 (.int .i64 c) u1 u2 u3 wr
  o : OT (q + 1) wr.heap.size wr u1 u2 u3 t'
  og : Off g u1 u2 u3
  oj : Off j u1 u2 u3
  gd : c = 0 → Good t'

theorem ES.new {w wr : World} {b q g k : Nat} {l : List Int} {s1 s2 s3 u1 u2 u3 : Value} {t t' : TB} {c : Int} (h : DS w b q g l k s1 s2 s3 t wr) (hbw : b < w.heap.size) (ho : OT (q + 1) wr.heap.size wr u1 u2 u3 t' ∧ Off g u1 u2 u3) (hg : c = 0 → Good t') : ES w b q g l k s1 s2 s3 t wr.heap.size c u1 u2 u3 t' (wr.alloc (.cells #[.int .i64 c, u1, u2, u3] 30)) :=
  have N := below_new wr (.cells #[.int .i64 c, u1, u2, u3] 30)
  ⟨h.below N, h.rs hbw _ rfl _ _ _ _, (ho.1.below N).mono (Nat.le_refl _) N.size, ho.2, ho.1.off (.inr (Nat.le_refl _)), hg⟩

theorem ES.put {w wr : World} {b q g k j : Nat} {l : List Int} {s1 s2 s3 c0 r1 r2 r3 u1 u2 u3 : Value} {t t' : TB} {c : Int} (h : DS w b q g l k s1 s2 s3 t wr) (hbw : b < w.heap.size) (hr : RS b g j s1 s2 s3 c0 r1 r2 r3 wr) (ho : OT (q + 1) wr.heap.size wr u1 u2 u3 t' ∧ Off g u1 u2 u3) (hj : Off j u1 u2 u3) (hg : c = 0 → Good t') : ES w b q g l k s1 s2 s3 t j c u1 u2 u3 t' ((((wr.setCell ⟨j, 0, none⟩ (.int .i64 c)).setCell ⟨j, 1, none⟩ u1).setCell ⟨j, 2, none⟩ u2).setCell ⟨j, 3, none⟩ u3) :=
  have K := keptj4 wr j (.int .i64 c) u1 u2 u3
  ⟨h.aside hbw hr.gj hr.off K, ⟨hr.jb, hr.gj, hr.off, put4 hr.box _ _ _ _⟩, (ho.1.set hj K).mono (Nat.le_refl _) K.size, ho.2, hj, hg⟩

theorem ES.next {w wr w' : World} {b q g k k' j : Nat} {l : List Int} {s1 s2 s3 u1 u2 u3 : Value} {t t' : TB} {c : Int} (h : ES w b q g l k s1 s2 s3 t j c u1 u2 u3 t' wr) (hbw : b < w.heap.size) (hS : Src b l k' w') (hK : KeptIn b (b + 1) wr w') : ES w b q g l k' s1 s2 s3 t j c u1 u2 u3 t' w' :=
  have h1 := h.d.qw
  ⟨h.d.next hbw hS hK, h.r.next hK, (h.o.kept hK (.inr (by omega))).mono (Nat.le_refl _) hK.size, h.og, h.oj, h.gd⟩

theorem ES.below {w wr w' : World} {b q g k j : Nat} {l : List Int} {s1 s2 s3 u1 u2 u3 : Value} {t t' : TB} {c : Int} (h : ES w b q g l k s1 s2 s3 t j c u1 u2 u3 t' wr) (hb : Below wr.heap.size wr w') : ES w b q g l k s1 s2 s3 t j c u1 u2 u3 t' w' :=
  ⟨h.d.below hb, h.r.below hb, (h.o.below hb).mono (Nat.le_refl _) hb.size, h.og, h.oj, h.gd⟩

/-- The result is taken. -/
theorem ES.take {w wr : World} {b q g k j : Nat} {l : List Int} {s1 s2 s3 u1 u2 u3 : Value} {t t' : TB} {c : Int} (h : ES w b q g l k s1 s2 s3 t j c u1 u2 u3 t' wr) (hbw : b < w.heap.size) : DS w b q g l k u1 u2 u3 t' (((wr.setCell ⟨g, 0, none⟩ u1).setCell ⟨g, 1, none⟩ u2).setCell ⟨g, 2, none⟩ u3) :=
  h.d.put hbw (keptj3 wr g u1 u2 u3) (put3 h.d.box _ _ _) h.o h.og

/-- The table is answered. -/
theorem DS.done {w wr : World} {b g k : Nat} {l : List Int} {s1 s2 s3 : Value} {t : TB} (h : DS w b w.heap.size g l k s1 s2 s3 t wr) (hbw : b < w.heap.size) (v1 v2 v3 : Value) : OT w.heap.size (((wr.setCell ⟨w.heap.size, 0, none⟩ v1).setCell ⟨w.heap.size, 1, none⟩ v2).setCell ⟨w.heap.size, 2, none⟩ v3).heap.size (((wr.setCell ⟨w.heap.size, 0, none⟩ v1).setCell ⟨w.heap.size, 1, none⟩ v2).setCell ⟨w.heap.size, 2, none⟩ v3) s1 s2 s3 t ∧ Src b l k (((wr.setCell ⟨w.heap.size, 0, none⟩ v1).setCell ⟨w.heap.size, 1, none⟩ v2).setCell ⟨w.heap.size, 2, none⟩ v3) ∧ KeptIn b (b + 1) w (((wr.setCell ⟨w.heap.size, 0, none⟩ v1).setCell ⟨w.heap.size, 1, none⟩ v2).setCell ⟨w.heap.size, 2, none⟩ v3) :=
  have hK := keptj3 wr w.heap.size v1 v2 v3
  ⟨(h.ot.set (h.ot.off (.inl (Nat.lt_succ_self _))) hK).mono (by omega) hK.size, h.src.kept hK (by omega), ⟨hK.os.trans h.kept.os, hK.tape.trans h.kept.tape, hK.output.trans h.kept.output, Nat.le_trans h.kept.size hK.size, fun i hi hc => (hK.block i (Nat.lt_of_lt_of_le hi h.kept.size) (.inl hi)).trans (h.kept.block i hi hc)⟩⟩

end Go.Proofs.Ytahkneghmgmnbaa
