/- Walks: pieces copied; bytes and pieces compared. -/
import Derived.Test.YtlimgcmhidooaaaGreatDoorM2
import Derived.BigQuiet
import Derived.Deep.QuietTactic
import Derived.Deep.RegionHeld3
import Derived.WalkSmall
import Derived.Test.YtlimgcmhidooaaaGreatDoorM1
set_option linter.unusedVariables false
set_option linter.unusedSimpArgs false
namespace Go.Proofs.YtlimgcmhidooaaaGreatDoor
open Go.RowKit
theorem bcell {W w1 : World} (hb : Below W.heap.size W w1) : (∀ b o, b < W.heap.size → w1.cell? ⟨b, o, none⟩ = W.cell? ⟨b, o, none⟩) ∧ (∀ b o, b < W.heap.size → w1.frozen? ⟨b, o, none⟩ = W.frozen? ⟨b, o, none⟩) :=
 ⟨fun b o h => hb.cell (p := ⟨b, o, none⟩) h, fun b o h => hb.frozen (p := ⟨b, o, none⟩) h⟩
theorem undrew {W w1 : World} (h : Below W.drew.heap.size W.drew w1) : Below W.heap.size W w1 := ⟨h.os, h.tape, h.output, h.size, h.block⟩
structure KeptIn (lo hi : Nat) (w w' : World) : Prop where
 os : w'.os = w.os
 tape : w'.tape = w.tape
 output : w'.output = w.output
 size : w.heap.size ≤ w'.heap.size
 block : ∀ k, k < w.heap.size → (k < lo ∨ hi ≤ k) → w'.heap[k]? = w.heap[k]?
theorem KeptIn.refl (lo hi : Nat) (w : World) : KeptIn lo hi w w := ⟨rfl, rfl, rfl, Nat.le_refl _, fun _ _ _ => rfl⟩
theorem KeptIn.trans {lo hi : Nat} {a b c : World} (h : KeptIn lo hi a b) (k : KeptIn lo hi b c) : KeptIn lo hi a c :=
 ⟨k.os.trans h.os, k.tape.trans h.tape, k.output.trans h.output, Nat.le_trans h.size k.size, fun i hi' hc => (k.block i (Nat.lt_of_lt_of_le hi' h.size) hc).trans (h.block i hi' hc)⟩
theorem KeptIn.of_below {lo hi : Nat} {a b : World} (h : Below a.heap.size a b) : KeptIn lo hi a b := ⟨h.os, h.tape, h.output, h.size, fun i hi _ => h.block i hi⟩
theorem KeptIn.below {lo hi B : Nat} {a b : World} (h : KeptIn lo hi a b) (h1 : B ≤ lo) (h2 : B ≤ a.heap.size) : Below B a b := ⟨h.os, h.tape, h.output, h.size, fun k hk => h.block k (by omega) (by omega)⟩
theorem KeptIn.setCell {lo hi : Nat} {a w : World} (h : KeptIn lo hi a w) {p : Addr} (hp : lo ≤ p.block) (hp' : p.block < hi) (u : Value) : KeptIn lo hi a (w.setCell p u) :=
 h.trans ⟨rfl, rfl, rfl, by simp [World.setCell], fun k hk hc => Below.heap_setCell _ _ _ _ (by omega)⟩
theorem KeptIn.alloc {lo hi : Nat} {a w : World} (h : KeptIn lo hi a w) (o : Obj) : KeptIn lo hi a (w.alloc o) :=
 h.trans ⟨rfl, rfl, rfl, by simp, fun k hk hc => Below.heap_alloc _ _ _ hk⟩
def OB (w : World) (v : Value) (l : List Int) : Prop := (v = .slice none 0 0 ∧ l = []) ∨
 ∃ g cap cn f, v = .slice (some ⟨g, 0, none⟩) l.length cap ∧ l.length ≤ cap ∧ w.rowIs g 5 cn f ∧ l.length ≤ cn ∧ ∀ i, i < l.length → f i = bv l i
def In (lo hi : Nat) (v : Value) : Prop := ∀ k, v.ownBlock = some k → lo ≤ k ∧ k < hi
def Ap (u v : Value) : Prop := ∀ k, u.ownBlock = some k → v.ownBlock = some k → False
theorem In.mono {lo hi lo' hi' : Nat} {v : Value} (h : In lo hi v) (h1 : lo' ≤ lo) (h2 : hi ≤ hi') : In lo' hi' v := fun k hk => by have := h k hk; omega
theorem In.nil (lo hi : Nat) : In lo hi (.slice none 0 0) := fun k hk => by simp [Value.ownBlock] at hk
theorem In.at {lo hi g n c : Nat} (h1 : lo ≤ g) (h2 : g < hi) : In lo hi (.slice (some ⟨g, 0, none⟩) n c) := fun k hk => by simp [Value.ownBlock] at hk; omega
theorem OB.keep {w w' : World} {v : Value} {l : List Int} (h : OB w v l) (hk : ∀ k, v.ownBlock = some k → k < w.heap.size → w'.heap[k]? = w.heap[k]?) : OB w' v l := by
 rcases h with h | ⟨g, cap, cn, f, rfl, hca, hr, hl, hf⟩
 ·exact .inl h
 ·exact .inr ⟨g, cap, cn, f, rfl, hca, hr.of_block (hk g rfl hr.lt), hl, hf⟩
theorem OB.len {w : World} {v : Value} {l : List Int} (h : OB w v l) : ∃ a c, v = .slice a l.length c ∧ BAt w a l := by
 rcases h with ⟨rfl, rfl⟩ | ⟨g, cap, cn, f, rfl, hca, hr, hl, hf⟩
 ·exact ⟨none, 0, rfl, .inl rfl⟩
 ·exact ⟨_, _, rfl, .inr ⟨g, 0, rfl, hr.lt, fun k hk => by rw [Nat.zero_add, hr.cell (by omega), hf k hk]⟩⟩
theorem OB.lt {w : World} {v : Value} {l : List Int} (h : OB w v l) : ∀ k, v.ownBlock = some k → k < w.heap.size := by
 rcases h with ⟨rfl, rfl⟩ | ⟨g, cap, cn, f, rfl, hca, hr, hl, hf⟩
 ·intro k hk; simp [Value.ownBlock] at hk
 ·intro k hk; simp [Value.ownBlock] at hk; subst hk; exact hr.lt
theorem rowB {w w' : World} {g n : Nat} {t : TypeId} {f : Nat → Value} (h : w.rowIs g t n f) (hb : Below w.heap.size w w') : w'.rowIs g t n f := h.of_block (hb.block _ h.lt)
theorem rowK {w w' : World} {g n lo hi : Nat} {t : TypeId} {f : Nat → Value} (h : w.rowIs g t n f) (hk : KeptIn lo hi w w') (hg : g < lo ∨ hi ≤ g) : w'.rowIs g t n f := h.of_block (hk.block _ h.lt hg)
theorem below_new (w : World) (o : Obj) : Below w.heap.size w (w.alloc o) := (Below.refl _ _).alloc (Nat.le_refl _) o
theorem OB.below {u : Value} {w w' : World} {l : List Int} (h : OB w u l) (hb : Below w.heap.size w w') : OB w' u l := h.keep fun k e hl => hb.block k hl
theorem OB.kept {u : Value} {w w' : World} {l : List Int} {lo hi a b : Nat} (h : OB w u l) (hin : In lo hi u) (hk : KeptIn a b w w') (hd : hi ≤ a ∨ b ≤ lo) : OB w' u l := h.keep fun k e hl => hk.block k hl (by have := hin k e; omega)
theorem World.heap_size_setCell' (w : World) (a : Addr) (v : Value) : (w.setCell a v).heap.size = w.heap.size := by simp [World.setCell]
theorem World.heap_size_alloc' (w : World) (o : Obj) : (w.alloc o).heap.size = w.heap.size + 1 := by simp
theorem OB.none (w : World) : OB w (.slice none 0 0) [] := .inl ⟨rfl, rfl⟩
structure AT where
 nm : ByteArray
 vl : List Int
def atK (l : List AT) (k : Nat) : AT := l.getD k ⟨⟨#[]⟩, []⟩
def AAt (w : World) (a : Option Addr) (l : List AT) : Prop :=
 l = [] ∨ ∃ b o, a = some ⟨b, o, none⟩ ∧ b < w.heap.size ∧ ∀ k, k < l.length → w.cell? ⟨b, o + k * 2, none⟩ = some (.string (atK l k).nm) ∧ ∃ p c, w.cell? ⟨b, o + k * 2 + 1, none⟩ = some (.slice p (atK l k).vl.length c) ∧ BAt w p (atK l k).vl
theorem AAt.below {w w' : World} {a : Option Addr} {l : List AT} (h : AAt w a l) (hb : Below w.heap.size w w') : AAt w' a l := by
 rcases h with h | ⟨b, o, e, hs, hc⟩
 ·exact .inl h
 ·refine .inr ⟨b, o, e, Nat.lt_of_lt_of_le hs hb.size, fun k hk => ?_⟩
  obtain ⟨h1, p, c, h2, h3⟩ := hc k hk
  exact ⟨(hb.cell hs).trans h1, p, c, (hb.cell hs).trans h2, h3.below hb⟩
def asz : List AT → Nat
 | [] => 0
 | x :: r => x.nm.size + x.vl.length + asz r
theorem asz_take (l : List AT) : ∀ k, k < l.length → asz (l.take (k + 1)) = asz (l.take k) + ((atK l k).nm.size + (atK l k).vl.length) := by
 induction l with
 | nil => intro k h; exact absurd h (Nat.not_lt_zero _)
 | cons x r ih =>
  intro k hk
  cases k with
  | zero => simp [asz, atK]
  | succ k =>
   have := ih k (by simpa using hk)
   simp only [List.take_succ_cons, asz]
   rw [this]
   have e : atK (x :: r) (k + 1) = atK r k := by simp [atK]
   rw [e]; omega
theorem asz_le (l : List AT) (k : Nat) : asz (l.take k) ≤ asz l := by
 induction l generalizing k with
 | nil => simp [asz]
 | cons x r ih =>
  cases k with
  | zero => simp [asz]
  | succ k => simp only [List.take_succ_cons, asz]; have := ih k; omega
structure TK where
 kd : Int
 by_ : Int
 nm : ByteArray
 at_ : List AT
 sh : Bool
theorem Tryz.info139 : (Tryz.prog.info? 139).map (fun i => (i.zero, i.size, i.bytes)) = some (some (.agg #[.string ⟨#[]⟩, .slice none 0 0]), 2, 40) := by kernel_rfl
def p2 (x y : Value) (i : Nat) : Value := if i = 0 then x else y
theorem rowp2 (w : World) (t : TypeId) (x y : Value) : (w.alloc (.cells #[x, y] t)).rowIs w.heap.size t 2 (p2 x y) :=
 ⟨_, Deep.blk_alloc_new _ _, rfl, fun i hi => by
  have : i = 0 ∨ i = 1 := by omega
  rcases this with rfl | rfl <;> rfl⟩
theorem cells2 {w : World} {g : Nat} {ty : TypeId} {x y : Value} (h : w.rowIs g ty 2 (p2 x y)) : w.cell? ⟨g, 0, none⟩ = some x ∧ w.cell? ⟨g, 1, none⟩ = some y ∧ g < w.heap.size :=
 ⟨h.cell (by omega), h.cell (by omega), h.lt⟩
def r5 (x y z u v : Value) (i : Nat) : Value := if i = 0 then x else if i = 1 then y else if i = 2 then z else if i = 3 then u else v
theorem row5 (w : World) (t : TypeId) (x y z u v : Value) : (w.alloc (.cells #[x, y, z, u, v] t)).rowIs w.heap.size t 5 (r5 x y z u v) :=
 ⟨_, Deep.blk_alloc_new _ _, rfl, fun i hi => by
  have : i = 0 ∨ i = 1 ∨ i = 2 ∨ i = 3 ∨ i = 4 := by omega
  rcases this with rfl | rfl | rfl | rfl | rfl <;> rfl⟩
theorem cells5 {w : World} {g : Nat} {ty : TypeId} {x y z u v : Value} (h : w.rowIs g ty 5 (r5 x y z u v)) : w.cell? ⟨g, 0, none⟩ = some x ∧ w.cell? ⟨g, 1, none⟩ = some y ∧ w.cell? ⟨g, 2, none⟩ = some z ∧ w.cell? ⟨g, 3, none⟩ = some u ∧ w.cell? ⟨g, 4, none⟩ = some v ∧ g < w.heap.size :=
 ⟨h.cell (by omega), h.cell (by omega), h.cell (by omega), h.cell (by omega), h.cell (by omega), h.lt⟩


end Go.Proofs.YtlimgcmhidooaaaGreatDoor
