/- Plain notions: slices that a call has made for itself, and what is kept while they are written. -/
import Derived.Test.YtaihlcfpkabonaaDoorMath
namespace Go.Proofs.YtaihlcfpkabonaaDoor
open Go.RowKit
set_option linter.unusedVariables false

/-- Of the blocks that are there only those from lo on and below hi may have turned. -/
structure KeptIn (lo hi : Nat) (w w' : World) : Prop where
  os : w'.os = w.os
  tape : w'.tape = w.tape
  output : w'.output = w.output
  size : w.heap.size ≤ w'.heap.size
  block : ∀ k, k < w.heap.size → (k < lo ∨ hi ≤ k) → w'.heap[k]? = w.heap[k]?

theorem KeptIn.refl (lo hi : Nat) (w : World) : KeptIn lo hi w w := ⟨rfl, rfl, rfl, Nat.le_refl _, fun _ _ _ => rfl⟩

theorem KeptIn.trans {lo hi : Nat} {a b c : World} (h : KeptIn lo hi a b) (k : KeptIn lo hi b c) : KeptIn lo hi a c :=
  ⟨k.os.trans h.os, k.tape.trans h.tape, k.output.trans h.output, Nat.le_trans h.size k.size, fun i hi' hc => (k.block i (Nat.lt_of_lt_of_le hi' h.size) hc).trans (h.block i hi' hc)⟩

theorem KeptIn.mono {lo hi lo' hi' : Nat} {a b : World} (h : KeptIn lo hi a b) (h1 : lo' ≤ lo) (h2 : hi ≤ hi') : KeptIn lo' hi' a b :=
  ⟨h.os, h.tape, h.output, h.size, fun i hi hc => h.block i hi (by omega)⟩

theorem KeptIn.of_below {lo hi : Nat} {a b : World} (h : Below a.heap.size a b) : KeptIn lo hi a b := ⟨h.os, h.tape, h.output, h.size, fun i hi _ => h.block i hi⟩

theorem KeptIn.below {lo hi B : Nat} {a b : World} (h : KeptIn lo hi a b) (h1 : B ≤ lo) (h2 : B ≤ a.heap.size) : Below B a b := ⟨h.os, h.tape, h.output, h.size, fun k hk => h.block k (by omega) (by omega)⟩

theorem KeptIn.setCell {lo hi : Nat} {a w : World} (h : KeptIn lo hi a w) {p : Addr} (hp : lo ≤ p.block) (hp' : p.block < hi) (u : Value) : KeptIn lo hi a (w.setCell p u) :=
  h.trans ⟨rfl, rfl, rfl, by simp [World.setCell], fun k hk hc => Below.heap_setCell _ _ _ _ (by omega)⟩

theorem KeptIn.alloc {lo hi : Nat} {a w : World} (h : KeptIn lo hi a w) (o : Obj) : KeptIn lo hi a (w.alloc o) :=
  h.trans ⟨rfl, rfl, rfl, by simp, fun k hk hc => Below.heap_alloc _ _ _ hk⟩

/-- Bytes in a row of one's own (or none, in none). -/
def OB (w : World) (v : Value) (l : List Int) : Prop := (v = .slice none 0 0 ∧ l = []) ∨
  ∃ g cap cn f, v = .slice (some ⟨g, 0, none⟩) l.length cap ∧ l.length ≤ cap ∧ w.rowIs g 5 cn f ∧ l.length ≤ cn ∧ ∀ i, i < l.length → f i = bv l i

/-- The row of a slice lies from lo on and below hi. -/
def In (lo hi : Nat) (v : Value) : Prop := ∀ k, v.ownBlock = some k → lo ≤ k ∧ k < hi

/-- Two slices have not one row. -/
def Ap (u v : Value) : Prop := ∀ k, u.ownBlock = some k → v.ownBlock = some k → False

theorem In.mono {lo hi lo' hi' : Nat} {v : Value} (h : In lo hi v) (h1 : lo' ≤ lo) (h2 : hi ≤ hi') : In lo' hi' v := fun k hk => by have := h k hk; omega
theorem In.nil (lo hi : Nat) : In lo hi (.slice none 0 0) := fun k hk => by simp [Value.ownBlock] at hk
theorem In.at {lo hi g n c : Nat} (h1 : lo ≤ g) (h2 : g < hi) : In lo hi (.slice (some ⟨g, 0, none⟩) n c) := fun k hk => by simp [Value.ownBlock] at hk; omega
theorem Ap.nil_left (v : Value) : Ap (.slice none 0 0) v := fun k hk => by simp [Value.ownBlock] at hk
theorem Ap.nil_right (v : Value) : Ap v (.slice none 0 0) := fun k _ hk => by simp [Value.ownBlock] at hk
theorem Ap.of_in {u v : Value} {a b c : Nat} (h1 : In a b u) (h2 : In b c v) : Ap u v := fun k hu hv => by have := h1 k hu; have := h2 k hv; omega
theorem Ap.symm {u v : Value} (h : Ap u v) : Ap v u := fun k hv hu => h k hu hv

theorem OB.keep {w w' : World} {v : Value} {l : List Int} (h : OB w v l) (hk : ∀ k, v.ownBlock = some k → k < w.heap.size → w'.heap[k]? = w.heap[k]?) : OB w' v l := by
  rcases h with h | ⟨g, cap, cn, f, rfl, hca, hr, hl, hf⟩
  · exact .inl h
  · exact .inr ⟨g, cap, cn, f, rfl, hca, hr.of_block (hk g rfl hr.lt), hl, hf⟩

theorem OB.len {w : World} {v : Value} {l : List Int} (h : OB w v l) : ∃ a c, v = .slice a l.length c ∧ BAt w a l := by
  rcases h with ⟨rfl, rfl⟩ | ⟨g, cap, cn, f, rfl, hca, hr, hl, hf⟩
  · exact ⟨none, 0, rfl, .inl rfl⟩
  · exact ⟨_, _, rfl, .inr ⟨g, 0, rfl, hr.lt, fun k hk => by rw [Nat.zero_add, hr.cell (by omega), hf k hk]⟩⟩

theorem OB.lt {w : World} {v : Value} {l : List Int} (h : OB w v l) : ∀ k, v.ownBlock = some k → k < w.heap.size := by
  rcases h with ⟨rfl, rfl⟩ | ⟨g, cap, cn, f, rfl, hca, hr, hl, hf⟩
  · intro k hk; simp [Value.ownBlock] at hk
  · intro k hk; simp [Value.ownBlock] at hk; subst hk; exact hr.lt

/-- The marks that a byte slice gets. -/
def mb (k n : Nat) : List Int := (List.range n).map fun (i : Nat) => ((k : Int) + (i : Int)) % 256

theorem mb_len (k n : Nat) : (mb k n).length = n := by simp [mb]
theorem bv_mb (k n i : Nat) (h : i < n) : bv (mb k n) i = .int .u8 (((k : Int) + (i : Int)) % 256) := by simp [bv, mb, h]

/-- The marks that a piece slice gets. -/
def mp (k n : Nat) : List PC := (List.range n).map fun (i : Nat) => ⟨(k : Int) % 3 == 0, (k : Int) + 3 * (i : Int) + 1, (k : Int) + 3 * (i : Int) + 1 + 1⟩

theorem mp_len (k n : Nat) : (mp k n).length = n := by simp [mp]
theorem pc_mp (k n i : Nat) (h : i < n) : pc (mp k n) i = ⟨(k : Int) % 3 == 0, (k : Int) + 3 * (i : Int) + 1, (k : Int) + 3 * (i : Int) + 1 + 1⟩ := by simp [pc, mp, h]

/-- A row of bytes of which the first i are marked. -/
def mpart (f : Nat → Value) (k i j : Nat) : Value := if j < i then .int .u8 (((k : Int) + (j : Int)) % 256) else f j

theorem mpart_step {w : World} {g cn k i : Nat} {f : Nat → Value} (h : w.rowIs g 5 cn (mpart f k i)) : (w.setCell ⟨g, i, none⟩ (.int .u8 (((k : Int) + (i : Int)) % 256))).rowIs g 5 cn (mpart f k (i + 1)) :=
  (h.set i _).congr (fun j _ => by
    by_cases e : j = i
    · subst e; rw [if_pos rfl]; unfold mpart; rw [if_pos (by omega)]
    · rw [if_neg e]; unfold mpart
      by_cases hlt : j < i
      · rw [if_pos hlt, if_pos (by omega)]
      · rw [if_neg hlt, if_neg (by omega)])

/-- A row of pieces of which the first i are marked. -/
def mppart (f : Nat → Value) (k n i j : Nat) : Value := if j < i * 3 then pv (mp k n) j else f j

/-- A table, marked from k on. -/
def mt (k : Nat) (t : TB) : TB := ⟨mb k t.base.length, mb (k + t.base.length) t.more.length, mp (k + t.base.length + t.more.length) t.pcs.length⟩

theorem rowB {w w' : World} {g n : Nat} {t : TypeId} {f : Nat → Value} (h : w.rowIs g t n f) (hb : Below w.heap.size w w') : w'.rowIs g t n f := h.of_block (hb.block _ h.lt)
theorem rowK {w w' : World} {g n lo hi : Nat} {t : TypeId} {f : Nat → Value} (h : w.rowIs g t n f) (hk : KeptIn lo hi w w') (hg : g < lo ∨ hi ≤ g) : w'.rowIs g t n f := h.of_block (hk.block _ h.lt hg)
theorem below_new (w : World) (o : Obj) : Below w.heap.size w (w.alloc o) := (Below.refl _ _).alloc (Nat.le_refl _) o

/-- The i-th of four cells. -/
def r4 (x y z u : Value) (i : Nat) : Value := if i = 0 then x else if i = 1 then y else if i = 2 then z else u

theorem row4 (w : World) (t : TypeId) (x y z u : Value) : (w.alloc (.cells #[x, y, z, u] t)).rowIs w.heap.size t 4 (r4 x y z u) :=
  World.rowIs_alloc w #[x, y, z, u] t _ (fun i hi => by
    have h : i = 0 ∨ i = 1 ∨ i = 2 ∨ i = 3 := by simp at hi; omega
    rcases h with rfl | rfl | rfl | rfl <;> simp [r4])

theorem cells4 {w : World} {g : Nat} {ty : TypeId} {x y z u : Value} (h : w.rowIs g ty 4 (r4 x y z u)) : w.cell? ⟨g, 0, none⟩ = some x ∧ w.cell? ⟨g, 1, none⟩ = some y ∧ w.cell? ⟨g, 2, none⟩ = some z ∧ w.cell? ⟨g, 3, none⟩ = some u ∧ g < w.heap.size :=
  ⟨h.cell (by omega), h.cell (by omega), h.cell (by omega), h.cell (by omega), h.lt⟩

/-- Of the blocks that are there only the row of v may have turned. -/
structure Turned (v : Value) (w w' : World) : Prop where
  os : w'.os = w.os
  tape : w'.tape = w.tape
  output : w'.output = w.output
  size : w.heap.size ≤ w'.heap.size
  block : ∀ k, k < w.heap.size → v.ownBlock ≠ some k → w'.heap[k]? = w.heap[k]?

theorem Turned.refl (v : Value) (w : World) : Turned v w w := ⟨rfl, rfl, rfl, Nat.le_refl _, fun _ _ _ => rfl⟩

theorem Turned.of_kept {g n c : Nat} {w w' : World} (h : KeptIn g (g + 1) w w') : Turned (.slice (some ⟨g, 0, none⟩) n c) w w' :=
  ⟨h.os, h.tape, h.output, h.size, fun k hk hne => h.block k hk (by have : g ≠ k := fun e => hne (by simp [Value.ownBlock, e]); omega)⟩

theorem Turned.kept {v : Value} {w w' : World} {lo hi : Nat} (h : Turned v w w') (hin : In lo hi v) : KeptIn lo hi w w' :=
  ⟨h.os, h.tape, h.output, h.size, fun k hk hc => h.block k hk (fun e => by have := hin k e; omega)⟩

theorem OB.turned {u v : Value} {w w' : World} {l : List Int} (h : OB w u l) (ht : Turned v w w') (ha : Ap u v) : OB w' u l := h.keep fun k e hl => ht.block k hl (fun e' => ha k e e')

theorem OB.below {u : Value} {w w' : World} {l : List Int} (h : OB w u l) (hb : Below w.heap.size w w') : OB w' u l := h.keep fun k e hl => hb.block k hl

theorem mt_len (k : Nat) (t : TB) : (mt k t).base.length = t.base.length ∧ (mt k t).more.length = t.more.length ∧ (mt k t).pcs.length = t.pcs.length := by simp [mt, mb_len, mp_len]

/-- How many marks a table takes. -/
def cnt (t : TB) : Nat := t.base.length + t.more.length + 3 * t.pcs.length

theorem OB.kept {u : Value} {w w' : World} {l : List Int} {lo hi a b : Nat} (h : OB w u l) (hin : In lo hi u) (hk : KeptIn a b w w') (hd : hi ≤ a ∨ b ≤ lo) : OB w' u l := h.keep fun k e hl => hk.block k hl (by have := hin k e; omega)

theorem kept3 (w : World) (g o1 o2 o3 : Nat) (v1 v2 v3 : Value) : KeptIn g (g + 1) w (((w.setCell ⟨g, o1, none⟩ v1).setCell ⟨g, o2, none⟩ v2).setCell ⟨g, o3, none⟩ v3) :=
  (((KeptIn.refl g (g + 1) w).setCell (p := ⟨g, o1, none⟩) (Nat.le_refl _) (Nat.lt_succ_self _) _).setCell (p := ⟨g, o2, none⟩) (Nat.le_refl _) (Nat.lt_succ_self _) _).setCell (p := ⟨g, o3, none⟩) (Nat.le_refl _) (Nat.lt_succ_self _) _

theorem kept4 (w : World) (g o1 o2 o3 o4 : Nat) (v1 v2 v3 v4 : Value) : KeptIn g (g + 1) w ((((w.setCell ⟨g, o1, none⟩ v1).setCell ⟨g, o2, none⟩ v2).setCell ⟨g, o3, none⟩ v3).setCell ⟨g, o4, none⟩ v4) :=
  (kept3 w g o1 o2 o3 v1 v2 v3).setCell (p := ⟨g, o4, none⟩) (Nat.le_refl _) (Nat.lt_succ_self _) _

theorem World.heap_size_setCell' (w : World) (a : Addr) (v : Value) : (w.setCell a v).heap.size = w.heap.size := by simp [World.setCell]
theorem World.heap_size_alloc' (w : World) (o : Obj) : (w.alloc o).heap.size = w.heap.size + 1 := by simp

theorem OB.none (w : World) : OB w (.slice none 0 0) [] := .inl ⟨rfl, rfl⟩

end Go.Proofs.YtaihlcfpkabonaaDoor
