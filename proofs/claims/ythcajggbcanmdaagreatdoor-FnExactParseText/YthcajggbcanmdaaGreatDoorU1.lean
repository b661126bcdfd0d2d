/- Plain notions: bytes and pieces that lie in memory. -/
import Derived.WalkKit
import Derived.Deep.OwnRows
import Derived.Test.YthcajggbcanmdaaGreatDoorProg
import Derived.WalkSpells
import Derived.WalkLawsBesides
import Derived.BigQuiet
import Derived.Deep.QuietTactic
import Derived.Deep.RegionHeld3
import Derived.WalkSmall
import Derived.Test.YthcajggbcanmdaaGreatDoorChecked
import Derived.ProofKit
import Derived.OpenShut
import Derived.BigGuard
import Derived.Laws.IdiomStrings
import Derived.Test.YthcajggbcanmdaaGreatDoorRows
import Derived.LaidMore
import Derived.ChangeVars
import Derived.Stop.Joined
import Derived.Lib.LaidU8
import Derived.Laws.CopyOwn
import Derived.Deep.MidRow
import Derived.Maps.AppendAt
import Derived.Lib.ParseIntB
set_option linter.unusedVariables false
set_option linter.unusedSimpArgs false
namespace Go.Proofs.YthcajggbcanmdaaGreatDoor
open Go.RowKit

theorem Hid.mk' {p : Prop} (h : p) : Hid p := h

def bv (l : List Int) (i : Nat) : Value := .int .u8 (l.getD i 0)

def BAt (w : World) (a : Option Addr) (l : List Int) : Prop :=
  l = [] ∨ ∃ b o, a = some ⟨b, o, none⟩ ∧ b < w.heap.size ∧ ∀ k, k < l.length → w.cell? ⟨b, o + k, none⟩ = some (bv l k)

theorem BAt.below {w w' : World} {a : Option Addr} {l : List Int} (h : BAt w a l) (hb : Below w.heap.size w w') : BAt w' a l := by
  rcases h with h | ⟨b, o, ha, hl, hc⟩
  · exact Or.inl h
  · exact Or.inr ⟨b, o, ha, Nat.lt_of_lt_of_le hl hb.size, fun k hk => (hb.cell hl).trans (hc k hk)⟩

def part (l : List Int) (k j : Nat) : Value := if j < k then bv l j else .int .u8 0

theorem row_part_start (w : World) (l : List Int) (n : Nat) : (w.alloc (.cells (madeCells #[.int .u8 0] n) 5)).rowIs w.heap.size 5 n (part l 0) :=
  (World.rowIs_made w (.int .u8 0) n 5).congr (fun i _ => by simp [part])

theorem row_part_step {w : World} {b n k : Nat} {l : List Int} (h : w.rowIs b 5 n (part l k)) : (w.setCell ⟨b, k, none⟩ (bv l k)).rowIs b 5 n (part l (k + 1)) :=
  (h.set k _).congr (fun j _ => by
    by_cases e : j = k
    · subst e; simp [part]
    · by_cases hlt : j < k
      · rw [if_neg e]; unfold part; rw [if_pos hlt, if_pos (by omega)]
      · rw [if_neg e]; unfold part; rw [if_neg hlt, if_neg (by omega)])

theorem row_part_end {w : World} {b : Nat} {l : List Int} (h : w.rowIs b 5 l.length (part l l.length)) : w.rowIs b 5 l.length (bv l) :=
  h.congr (fun i hi => by unfold part; rw [if_pos hi])

theorem BAt.of_row {w : World} {b : Nat} {l : List Int} (h : w.rowIs b 5 l.length (bv l)) : BAt w (some ⟨b, 0, none⟩) l :=
  Or.inr ⟨b, 0, rfl, h.lt, fun k hk => by rw [Nat.zero_add]; exact h.cell hk⟩

def r3 (x y z : Value) (i : Nat) : Value := if i = 0 then x else if i = 1 then y else z

theorem row3 (w : World) (t : TypeId) (x y z : Value) : (w.alloc (.cells #[x, y, z] t)).rowIs w.heap.size t 3 (r3 x y z) :=
  World.rowIs_alloc w #[x, y, z] t _ (fun i hi => by
    have h : i = 0 ∨ i = 1 ∨ i = 2 := by simp at hi; omega
    rcases h with rfl | rfl | rfl <;> simp [r3])

theorem zA {α : Type} (l : List α) (i : Nat) (a : α) : l.toArray.setIfInBounds i a = (l.set i a).toArray := List.setIfInBounds_toArray l i a

theorem zB {α : Type} (x y : α) (l : List α) : (x :: l).set 0 y = y :: l := rfl

theorem zC {α : Type} (x y : α) (l : List α) (n : Nat) : (x :: l).set (n + 1) y = x :: l.set n y := rfl

end Go.Proofs.YthcajggbcanmdaaGreatDoor

namespace Go.Proofs.YthcajggbcanmdaaGreatDoor
open Go.RowKit

theorem Tryz.info5 : (Tryz.prog.info? 5).map (fun i => (i.zero, i.size, i.bytes)) = some (some (.int .u8 0), 1, 1) := by kernel_rfl

set_option maxHeartbeats 400000 in
theorem toByteS_any (a : Option Addr) (c : Nat) (l : List Int) (w : World) (ha : BAt w a l) (hl : (l.length : Int) ≤ 1048576) :
    Calls Tryz.prog 7 #[.slice a l.length c] w fun e w' => ∃ b, e = .returned (.slice (some ⟨b, 0, none⟩) l.length l.length) ∧ w.heap.size ≤ b ∧ w'.rowIs b 5 l.length (bv l) ∧ Below w.heap.size w w' := by
  have hmk := run_make_row' (P := Tryz.prog) 22 5 (.int .u8 0) 1 Tryz.underlying22 Tryz.info5 rfl .i64 .i64 l.length (by omega) (by omega)
  go_enter Tryz.func7, Tryz.ntmps7
  go_wp2
  go_loopw [4] (fun i wr => ∃ k : Nat, k ≤ l.length ∧ i = .int .i64 k ∧ wr.rowIs w.heap.size 5 l.length (part l k) ∧ Below w.heap.size w wr) (fun i _ => l.length - (intOf i).toNat)
  case atStart => exact ⟨0, Nat.zero_le _, rfl, row_part_start w l _, (Below.refl _ _).alloc (Nat.le_refl _) _⟩
  case round =>
    obtain ⟨k, hk, rfl, hrow, hbl⟩ := hrel
    by_cases hlt : k < l.length
    · rcases ha with ha | ⟨b, o, rfl, hbs, hc⟩
      · exact absurd hlt (by rw [ha]; exact Nat.not_lt_zero _)
      obtain ⟨x, hx⟩ : ∃ x, bv l k = .int .u8 x := ⟨_, rfl⟩
      have h1 : wr.cell? ⟨b, o + k, none⟩ = some (.int .u8 x) := hx ▸ (hbl.cell hbs).trans (hc k hlt)
      have h2 : wr.cell? ⟨w.heap.size, k, none⟩ = some (.int .u8 0) := by rw [hrow.cell hlt]; simp [part]
      have h3 := hrow.frozen k
      have R1 := Hid.mk' (hx ▸ row_part_step hrow)
      have R2 := Hid.mk' (hbl.setCell (p := ⟨w.heap.size, k, none⟩) (Nat.le_refl _) (.int .u8 x))
      clear hrow hbl hmk hc hx
      go_wp2
      go_roundw
      case rel => exact ⟨k + 1, by omega, by go_num, R1.out, R2.out⟩
      case measure => simp [intOf]; omega
    · go_wp2
      go_ret
      have e : k = l.length := by omega
      subst e
      exact ⟨_, rfl, Nat.le_refl _, row_part_end hrow, hbl⟩

end Go.Proofs.YthcajggbcanmdaaGreatDoor

namespace Go.Proofs.YthcajggbcanmdaaGreatDoor
open Go.RowKit

set_option maxHeartbeats 400000 in
theorem eqByteS_any (a b : Option Addr) (c d : Nat) (l : List Int) (w : World) (ha : BAt w a l) (hb : BAt w b l) (hl : (l.length : Int) ≤ 1048576) :
    Calls Tryz.prog 10 #[.slice a l.length c, .slice b l.length d] w fun e w' => e = .returned (.bool true) ∧ Below w.heap.size w w' := by
  go_enter Tryz.func10, Tryz.ntmps10
  go_wp2
  go_loopw [5] (fun i wr => ∃ k : Nat, k ≤ l.length ∧ i = .int .i64 k ∧ Below w.heap.size w wr) (fun i _ => l.length - (intOf i).toNat)
  case atStart => exact ⟨0, Nat.zero_le _, rfl, Below.refl _ _⟩
  case round =>
    obtain ⟨k, hk, rfl, hbl⟩ := hrel
    by_cases hlt : k < l.length
    · rcases ha with ha | ⟨b1, o1, rfl, hbs1, hc1⟩
      · exact absurd hlt (by rw [ha]; exact Nat.not_lt_zero _)
      rcases hb with hb | ⟨b2, o2, rfl, hbs2, hc2⟩
      · exact absurd hlt (by rw [hb]; exact Nat.not_lt_zero _)
      obtain ⟨x, hx⟩ : ∃ x, bv l k = .int .u8 x := ⟨_, rfl⟩
      have h1 : wr.cell? ⟨b1, o1 + k, none⟩ = some (.int .u8 x) := hx ▸ (hbl.cell hbs1).trans (hc1 k hlt)
      have h2 : wr.cell? ⟨b2, o2 + k, none⟩ = some (.int .u8 x) := hx ▸ (hbl.cell hbs2).trans (hc2 k hlt)
      have R2 := Hid.mk' hbl
      clear hbl hc1 hc2 hx
      go_wp2
      go_quiet (fail)
      go_wp2
      go_roundw
      case rel => exact ⟨k + 1, by omega, by go_num, below_drewN R2.out _⟩
      case measure => simp [intOf]; omega
    · go_wp2
      go_ret
      exact ⟨rfl, hbl⟩

theorem bcell {W w1 : World} (hb : Below W.heap.size W w1) : (∀ b o, b < W.heap.size → w1.cell? ⟨b, o, none⟩ = W.cell? ⟨b, o, none⟩) ∧ (∀ b o, b < W.heap.size → w1.frozen? ⟨b, o, none⟩ = W.frozen? ⟨b, o, none⟩) :=
  ⟨fun b o h => hb.cell (p := ⟨b, o, none⟩) h, fun b o h => hb.frozen (p := ⟨b, o, none⟩) h⟩

theorem undrew {W w1 : World} (h : Below W.drew.heap.size W.drew w1) : Below W.heap.size W w1 := ⟨h.os, h.tape, h.output, h.size, h.block⟩

end Go.Proofs.YthcajggbcanmdaaGreatDoor

namespace Go.Proofs.YthcajggbcanmdaaGreatDoor
open Go.RowKit

end Go.Proofs.YthcajggbcanmdaaGreatDoor

namespace Go.Proofs.YthcajggbcanmdaaGreatDoor
open Go.RowKit

structure KeptIn (lo hi : Nat) (w w' : World) : Prop where
  os : w'.os = w.os
  tape : w'.tape = w.tape
  output : w'.output = w.output
  size : w.heap.size ≤ w'.heap.size
  block : ∀ k, k < w.heap.size → (k < lo ∨ hi ≤ k) → w'.heap[k]? = w.heap[k]?

theorem KeptIn.refl (lo hi : Nat) (w : World) : KeptIn lo hi w w := ⟨rfl, rfl, rfl, Nat.le_refl _, fun _ _ _ => rfl⟩

theorem KeptIn.trans {lo hi : Nat} {a b c : World} (h : KeptIn lo hi a b) (k : KeptIn lo hi b c) : KeptIn lo hi a c :=
  ⟨k.os.trans h.os, k.tape.trans h.tape, k.output.trans h.output, Nat.le_trans h.size k.size, fun i hi' hc => (k.block i (Nat.lt_of_lt_of_le hi' h.size) hc).trans (h.block i hi' hc)⟩

theorem KeptIn.of_below {lo hi : Nat} {a b : World} (h : Below a.heap.size a b) : KeptIn lo hi a b := ⟨h.os, h.tape, h.output, h.size, fun i hi _ => h.block i hi⟩

theorem KeptIn.below {lo hi B : Nat} {a b : World} (h : KeptIn lo hi a b) (h1 : B ≤ lo) (h2 : B ≤ a.heap.size) : Below B a b := ⟨h.os, h.tape, h.output, h.size, fun k hk => h.block k (by omega) (by omega)⟩

theorem KeptIn.setCell {lo hi : Nat} {a w : World} (h : KeptIn lo hi a w) {p : Addr} (hp : lo ≤ p.block) (hp' : p.block < hi) (u : Value) : KeptIn lo hi a (w.setCell p u) :=
  h.trans ⟨rfl, rfl, rfl, by simp [World.setCell], fun k hk hc => Below.heap_setCell _ _ _ _ (by omega)⟩

def OB (w : World) (v : Value) (l : List Int) : Prop := (v = .slice none 0 0 ∧ l = []) ∨
  ∃ g cap cn f, v = .slice (some ⟨g, 0, none⟩) l.length cap ∧ l.length ≤ cap ∧ w.rowIs g 5 cn f ∧ l.length ≤ cn ∧ ∀ i, i < l.length → f i = bv l i

def In (lo hi : Nat) (v : Value) : Prop := ∀ k, v.ownBlock = some k → lo ≤ k ∧ k < hi

def Ap (u v : Value) : Prop := ∀ k, u.ownBlock = some k → v.ownBlock = some k → False

theorem In.mono {lo hi lo' hi' : Nat} {v : Value} (h : In lo hi v) (h1 : lo' ≤ lo) (h2 : hi ≤ hi') : In lo' hi' v := fun k hk => by have := h k hk; omega
theorem In.nil (lo hi : Nat) : In lo hi (.slice none 0 0) := fun k hk => by simp [Value.ownBlock] at hk
theorem Ap.nil_left (v : Value) : Ap (.slice none 0 0) v := fun k hk => by simp [Value.ownBlock] at hk
theorem Ap.symm {u v : Value} (h : Ap u v) : Ap v u := fun k hv hu => h k hu hv

theorem OB.keep {w w' : World} {v : Value} {l : List Int} (h : OB w v l) (hk : ∀ k, v.ownBlock = some k → k < w.heap.size → w'.heap[k]? = w.heap[k]?) : OB w' v l := by
  rcases h with h | ⟨g, cap, cn, f, rfl, hca, hr, hl, hf⟩
  · exact .inl h
  · exact .inr ⟨g, cap, cn, f, rfl, hca, hr.of_block (hk g rfl hr.lt), hl, hf⟩

theorem OB.len {w : World} {v : Value} {l : List Int} (h : OB w v l) : ∃ a c, v = .slice a l.length c ∧ BAt w a l := by
  rcases h with ⟨rfl, rfl⟩ | ⟨g, cap, cn, f, rfl, hca, hr, hl, hf⟩
  · exact ⟨none, 0, rfl, .inl rfl⟩
  · exact ⟨_, _, rfl, .inr ⟨g, 0, rfl, hr.lt, fun k hk => by rw [Nat.zero_add, hr.cell (by omega), hf k hk]⟩⟩

theorem OB.lt {w : World} {v : Value} {l : List Int} (h : OB w v l) : ∀ k, v.ownBlock = some k → k < w.heap.size := by
  rcases h with ⟨rfl, rfl⟩ | ⟨g, cap, cn, f, rfl, hca, hr, hl, hf⟩
  · intro k hk; simp [Value.ownBlock] at hk
  · intro k hk; simp [Value.ownBlock] at hk; subst hk; exact hr.lt

def mb (k n : Nat) : List Int := (List.range n).map fun (i : Nat) => ((k : Int) + (i : Int)) % 256

theorem mb_len (k n : Nat) : (mb k n).length = n := by simp [mb]
theorem bv_mb (k n i : Nat) (h : i < n) : bv (mb k n) i = .int .u8 (((k : Int) + (i : Int)) % 256) := by simp [bv, mb, h]

def mpart (f : Nat → Value) (k i j : Nat) : Value := if j < i then .int .u8 (((k : Int) + (j : Int)) % 256) else f j

theorem mpart_step {w : World} {g cn k i : Nat} {f : Nat → Value} (h : w.rowIs g 5 cn (mpart f k i)) : (w.setCell ⟨g, i, none⟩ (.int .u8 (((k : Int) + (i : Int)) % 256))).rowIs g 5 cn (mpart f k (i + 1)) :=
  (h.set i _).congr (fun j _ => by
    by_cases e : j = i
    · subst e; rw [if_pos rfl]; unfold mpart; rw [if_pos (by omega)]
    · rw [if_neg e]; unfold mpart
      by_cases hlt : j < i
      · rw [if_pos hlt, if_pos (by omega)]
      · rw [if_neg hlt, if_neg (by omega)])

theorem rowB {w w' : World} {g n : Nat} {t : TypeId} {f : Nat → Value} (h : w.rowIs g t n f) (hb : Below w.heap.size w w') : w'.rowIs g t n f := h.of_block (hb.block _ h.lt)
theorem rowK {w w' : World} {g n lo hi : Nat} {t : TypeId} {f : Nat → Value} (h : w.rowIs g t n f) (hk : KeptIn lo hi w w') (hg : g < lo ∨ hi ≤ g) : w'.rowIs g t n f := h.of_block (hk.block _ h.lt hg)
theorem below_new (w : World) (o : Obj) : Below w.heap.size w (w.alloc o) := (Below.refl _ _).alloc (Nat.le_refl _) o

def r4 (x y z u : Value) (i : Nat) : Value := if i = 0 then x else if i = 1 then y else if i = 2 then z else u

theorem row4 (w : World) (t : TypeId) (x y z u : Value) : (w.alloc (.cells #[x, y, z, u] t)).rowIs w.heap.size t 4 (r4 x y z u) :=
  World.rowIs_alloc w #[x, y, z, u] t _ (fun i hi => by
    have h : i = 0 ∨ i = 1 ∨ i = 2 ∨ i = 3 := by simp at hi; omega
    rcases h with rfl | rfl | rfl | rfl <;> simp [r4])

theorem cells4 {w : World} {g : Nat} {ty : TypeId} {x y z u : Value} (h : w.rowIs g ty 4 (r4 x y z u)) : w.cell? ⟨g, 0, none⟩ = some x ∧ w.cell? ⟨g, 1, none⟩ = some y ∧ w.cell? ⟨g, 2, none⟩ = some z ∧ w.cell? ⟨g, 3, none⟩ = some u ∧ g < w.heap.size :=
  ⟨h.cell (by omega), h.cell (by omega), h.cell (by omega), h.cell (by omega), h.lt⟩

structure Turned (v : Value) (w w' : World) : Prop where
  os : w'.os = w.os
  tape : w'.tape = w.tape
  output : w'.output = w.output
  size : w.heap.size ≤ w'.heap.size
  block : ∀ k, k < w.heap.size → v.ownBlock ≠ some k → w'.heap[k]? = w.heap[k]?

theorem Turned.refl (v : Value) (w : World) : Turned v w w := ⟨rfl, rfl, rfl, Nat.le_refl _, fun _ _ _ => rfl⟩

theorem Turned.of_kept {g n c : Nat} {w w' : World} (h : KeptIn g (g + 1) w w') : Turned (.slice (some ⟨g, 0, none⟩) n c) w w' :=
  ⟨h.os, h.tape, h.output, h.size, fun k hk hne => h.block k hk (by have : g ≠ k := fun e => hne (by simp [Value.ownBlock, e]); omega)⟩

theorem OB.below {u : Value} {w w' : World} {l : List Int} (h : OB w u l) (hb : Below w.heap.size w w') : OB w' u l := h.keep fun k e hl => hb.block k hl

theorem OB.kept {u : Value} {w w' : World} {l : List Int} {lo hi a b : Nat} (h : OB w u l) (hin : In lo hi u) (hk : KeptIn a b w w') (hd : hi ≤ a ∨ b ≤ lo) : OB w' u l := h.keep fun k e hl => hk.block k hl (by have := hin k e; omega)

theorem World.heap_size_setCell' (w : World) (a : Addr) (v : Value) : (w.setCell a v).heap.size = w.heap.size := by simp [World.setCell]
theorem World.heap_size_alloc' (w : World) (o : Obj) : (w.alloc o).heap.size = w.heap.size + 1 := by simp

theorem OB.none (w : World) : OB w (.slice none 0 0) [] := .inl ⟨rfl, rfl⟩

end Go.Proofs.YthcajggbcanmdaaGreatDoor

namespace Go.Proofs.YthcajggbcanmdaaGreatDoor
open Go.RowKit

structure AT where
  nm : ByteArray
  vl : List Int

def atK (l : List AT) (k : Nat) : AT := l.getD k ⟨⟨#[]⟩, []⟩

def AAt (w : World) (a : Option Addr) (l : List AT) : Prop :=
  l = [] ∨ ∃ b o, a = some ⟨b, o, none⟩ ∧ b < w.heap.size ∧ ∀ k, k < l.length → w.cell? ⟨b, o + k * 2, none⟩ = some (.string (atK l k).nm) ∧ ∃ p c, w.cell? ⟨b, o + k * 2 + 1, none⟩ = some (.slice p (atK l k).vl.length c) ∧ BAt w p (atK l k).vl

theorem AAt.below {w w' : World} {a : Option Addr} {l : List AT} (h : AAt w a l) (hb : Below w.heap.size w w') : AAt w' a l := by
  rcases h with h | ⟨b, o, e, hs, hc⟩
  · exact .inl h
  · refine .inr ⟨b, o, e, Nat.lt_of_lt_of_le hs hb.size, fun k hk => ?_⟩
    obtain ⟨h1, p, c, h2, h3⟩ := hc k hk
    exact ⟨(hb.cell hs).trans h1, p, c, (hb.cell hs).trans h2, h3.below hb⟩

def asz : List AT → Nat
  | [] => 0
  | x :: r => x.nm.size + x.vl.length + asz r

theorem asz_take (l : List AT) : ∀ k, k < l.length → asz (l.take (k + 1)) = asz (l.take k) + ((atK l k).nm.size + (atK l k).vl.length) := by
  induction l with
  | nil => intro k h; exact absurd h (Nat.not_lt_zero _)
  | cons x r ih =>
    intro k hk
    cases k with
    | zero => simp [asz, atK]
    | succ k =>
      have := ih k (by simpa using hk)
      simp only [List.take_succ_cons, asz]
      rw [this]
      have e : atK (x :: r) (k + 1) = atK r k := by simp [atK]
      rw [e]; omega

theorem asz_le (l : List AT) (k : Nat) : asz (l.take k) ≤ asz l := by
  induction l generalizing k with
  | nil => simp [asz]
  | cons x r ih =>
    cases k with
    | zero => simp [asz]
    | succ k => simp only [List.take_succ_cons, asz]; have := ih k; omega

structure TK where
  kd : Int
  by_ : Int
  nm : ByteArray
  at_ : List AT
  sh : Bool

end Go.Proofs.YthcajggbcanmdaaGreatDoor

namespace Go.Proofs.YthcajggbcanmdaaGreatDoor
open Go.RowKit

theorem Tryz.info82 : (Tryz.prog.info? 82).map (fun i => (i.zero, i.size, i.bytes)) = some (some (.agg #[.string ⟨#[]⟩, .slice none 0 0]), 2, 40) := by kernel_rfl

def p2 (x y : Value) (i : Nat) : Value := if i = 0 then x else y

theorem rowp2 (w : World) (t : TypeId) (x y : Value) : (w.alloc (.cells #[x, y] t)).rowIs w.heap.size t 2 (p2 x y) :=
  ⟨_, Deep.blk_alloc_new _ _, rfl, fun i hi => by
    have : i = 0 ∨ i = 1 := by omega
    rcases this with rfl | rfl <;> rfl⟩

theorem cells2 {w : World} {g : Nat} {ty : TypeId} {x y : Value} (h : w.rowIs g ty 2 (p2 x y)) : w.cell? ⟨g, 0, none⟩ = some x ∧ w.cell? ⟨g, 1, none⟩ = some y ∧ g < w.heap.size :=
  ⟨h.cell (by omega), h.cell (by omega), h.lt⟩

end Go.Proofs.YthcajggbcanmdaaGreatDoor

namespace Go.Proofs.YthcajggbcanmdaaGreatDoor
open Go.RowKit

def r5 (x y z u v : Value) (i : Nat) : Value := if i = 0 then x else if i = 1 then y else if i = 2 then z else if i = 3 then u else v

theorem row5 (w : World) (t : TypeId) (x y z u v : Value) : (w.alloc (.cells #[x, y, z, u, v] t)).rowIs w.heap.size t 5 (r5 x y z u v) :=
  ⟨_, Deep.blk_alloc_new _ _, rfl, fun i hi => by
    have : i = 0 ∨ i = 1 ∨ i = 2 ∨ i = 3 ∨ i = 4 := by omega
    rcases this with rfl | rfl | rfl | rfl | rfl <;> rfl⟩

theorem cells5 {w : World} {g : Nat} {ty : TypeId} {x y z u v : Value} (h : w.rowIs g ty 5 (r5 x y z u v)) : w.cell? ⟨g, 0, none⟩ = some x ∧ w.cell? ⟨g, 1, none⟩ = some y ∧ w.cell? ⟨g, 2, none⟩ = some z ∧ w.cell? ⟨g, 3, none⟩ = some u ∧ w.cell? ⟨g, 4, none⟩ = some v ∧ g < w.heap.size :=
  ⟨h.cell (by omega), h.cell (by omega), h.cell (by omega), h.cell (by omega), h.cell (by omega), h.lt⟩

end Go.Proofs.YthcajggbcanmdaaGreatDoor

namespace Go.Proofs.YthcajggbcanmdaaGreatDoor
open Go.RowKit

end Go.Proofs.YthcajggbcanmdaaGreatDoor

namespace Go.Proofs.YthcajggbcanmdaaGreatDoor
open Go.RowKit

def ltr (c : Nat) : Prop := 97 ≤ c ∧ c ≤ 122
def ltrB (c : Nat) : Bool := decide (97 ≤ c) && decide (c ≤ 122)
theorem ltrB_iff (c : Nat) : ltrB c = true ↔ ltr c := by unfold ltrB ltr; rw [Bool.and_eq_true, decide_eq_true_eq, decide_eq_true_eq]
theorem ltrB_true {c : Nat} (h : ltr c) : ltrB c = true := (ltrB_iff c).2 h
theorem ltrB_false {c : Nat} (h : ¬ ltr c) : ltrB c = false := Bool.eq_false_iff.2 fun e => h ((ltrB_iff c).1 e)

def low (s : ByteArray) (k : Nat) : Prop := ∀ i (h : i < s.size), i < k → ltr (s[i]'h).toNat

def isNm (s : ByteArray) : Prop := 1 ≤ s.size ∧ s.size ≤ 8 ∧ low s s.size

def nmB (s : ByteArray) : Bool := decide (1 ≤ s.size) && decide (s.size ≤ 8) && s.data.toList.all (fun b => ltrB b.toNat)

theorem nmB_iff (s : ByteArray) : nmB s = true ↔ isNm s := by
  unfold nmB isNm low
  rw [Bool.and_eq_true, Bool.and_eq_true, decide_eq_true_eq, decide_eq_true_eq, List.all_eq_true]
  constructor
  · rintro ⟨⟨h1, h2⟩, h3⟩
    exact ⟨h1, h2, fun i hi _ => (ltrB_iff _).1 (h3 (s[i]'hi) (Array.mem_toList_iff.2 (Array.getElem_mem hi)))⟩
  · rintro ⟨h1, h2, h3⟩
    refine ⟨⟨h1, h2⟩, fun b hb => ltrB_true ?_⟩
    obtain ⟨i, hi, rfl⟩ := Array.mem_iff_getElem.1 (Array.mem_toList_iff.1 hb)
    exact h3 i hi hi

theorem nmB_true {s : ByteArray} (h : isNm s) : nmB s = true := (nmB_iff s).2 h
theorem nmB_false {s : ByteArray} (h : ¬ isNm s) : nmB s = false := Bool.eq_false_iff.2 fun e => h ((nmB_iff s).1 e)

theorem low_next {s : ByteArray} {k : Nat} (h : low s k) (hk : k < s.size) (hc : ltr (s[k]'hk).toNat) : low s (k + 1) := fun i hi hik => by
  by_cases e : i = k
  · subst e; exact hc
  · exact h i hi (by omega)

theorem letters_any (s : ByteArray) (w : World) (hm : (s.size : Int) ≤ 9223372036854775807) :
    Calls Tryz.prog 172 #[.string s] w fun e w' => ∃ n : Nat, e = .returned (.int .i64 n) ∧ w' = w ∧ n ≤ s.size ∧ low s n ∧ ∀ h : n < s.size, ¬ ltr (s[n]'h).toNat := by
  go_enter Tryz.func172, Tryz.ntmps172
  go_wp2
  go_loop [3] (fun i => ∃ k : Nat, k ≤ s.size ∧ i = .int .i64 k ∧ low s k) (fun i => s.size - (intOf i).toNat)
  case atStart => exact ⟨0, Nat.zero_le _, rfl, fun i _ h => absurd h (Nat.not_lt_zero _)⟩
  case round =>
    obtain ⟨k, hk, rfl, hlow⟩ := hrel
    have HL := Hid.mk' hlow
    clear hlow
    by_cases hlt : k < s.size
    · have ci : (k : Int) < (s.size : Int) := by omega
      obtain ⟨cc, hc⟩ : ∃ c : Nat, (s[k]'hlt).toNat = c := ⟨_, rfl⟩
      by_cases b1 : (cc : Int) < 97
      · go_wp2
        go_ret
        exact ⟨k, rfl, rfl, hk, HL.out, fun h => by unfold ltr; omega⟩
      · by_cases b2 : (cc : Int) > 122
        · go_wp2
          go_ret
          exact ⟨k, rfl, rfl, hk, HL.out, fun h => by unfold ltr; omega⟩
        · go_wp2
          go_round
          case rel => exact ⟨k + 1, by omega, by go_num, low_next HL.out hlt (by unfold ltr; omega)⟩
          case measure => simp [intOf]; omega
    · have ci : ¬ (k : Int) < (s.size : Int) := by omega
      have e : k = s.size := by omega
      go_wp2
      go_ret
      exact ⟨s.size, by simp, rfl, Nat.le_refl _, e ▸ HL.out, fun h => absurd h (Nat.lt_irrefl _)⟩

theorem isName_any (s : ByteArray) (w : World) (hm : (s.size : Int) ≤ 9223372036854775807) :
    Calls Tryz.prog 144 #[.string s] w fun e w' => e = .returned (.bool (nmB s)) ∧ w' = w := by
  have K := Hid.mk' (letters_any s w hm)
  go_enter Tryz.func144, Tryz.ntmps144
  by_cases b1 : (s.size : Int) ≥ 1
  · by_cases b2 : (s.size : Int) ≤ 8
    · go_wp2_with fail
      refine K.out.mono ?_
      rintro e w1 ⟨n, rfl, rfl, hn, hl, hx⟩
      have HL := Hid.mk' hl
      have HX := Hid.mk' hx
      clear hl hx
      by_cases b3 : (n : Int) = s.size
      · go_wp2
        go_ret
        have e : n = s.size := by omega
        rw [nmB_true ⟨by omega, by omega, e ▸ HL.out⟩]
        exact ⟨by simp, rfl⟩
      · go_wp2
        go_ret
        rw [nmB_false fun h => HX.out (by omega) (h.2.2 n (by omega) (by omega))]
        exact ⟨by simp; omega, rfl⟩
    · go_wp2
      go_ret
      exact ⟨by rw [nmB_false fun h => by have := h.1; have := h.2.1; omega]; rfl, rfl⟩
  · go_wp2
    go_ret
    exact ⟨by rw [nmB_false fun h => by have := h.1; have := h.2.1; omega]; rfl, rfl⟩

theorem letter_any (c : Nat) (w : World) :
    Calls Tryz.prog 116 #[.int .u8 c] w fun e w' => e = .returned (.bool (ltrB c)) ∧ w' = w := by
  go_enter Tryz.func116, Tryz.ntmps116
  by_cases b1 : (c : Int) ≥ 97
  · by_cases b2 : (c : Int) ≤ 122
    · go_wp2
      go_ret
      exact ⟨by first | rw [ltrB_true (show ltr c by unfold ltr; omega)]; rfl | rw [ltrB_false (show ¬ ltr c by unfold ltr; omega)]; rfl, rfl⟩
    · go_wp2
      go_ret
      exact ⟨by first | rw [ltrB_true (show ltr c by unfold ltr; omega)]; rfl | rw [ltrB_false (show ¬ ltr c by unfold ltr; omega)]; rfl, rfl⟩
  · go_wp2
    go_ret
    exact ⟨by first | rw [ltrB_true (show ltr c by unfold ltr; omega)]; rfl | rw [ltrB_false (show ¬ ltr c by unfold ltr; omega)]; rfl, rfl⟩

theorem l4Name_any (s : ByteArray) (w : World) (hm : (s.size : Int) ≤ 9223372036854775807) :
    Calls Tryz.prog 102 #[.string s] w fun e w' => e = .returned (.bool (nmB s)) ∧ w' = w := by
  have K : Hid (∀ c : Nat, Calls Tryz.prog 116 #[.int .u8 c] w fun e w' => e = .returned (.bool (ltrB c)) ∧ w' = w) := fun c => letter_any c w
  go_enter Tryz.func102, Tryz.ntmps102
  go_wp2
  go_loop [3] (fun i => ∃ k : Nat, k ≤ s.size ∧ i = .int .i64 k ∧ low s k) (fun i => s.size - (intOf i).toNat)
  case atStart => exact ⟨0, Nat.zero_le _, rfl, fun i _ h => absurd h (Nat.not_lt_zero _)⟩
  case round =>
    obtain ⟨k, hk, rfl, hlow⟩ := hrel
    have HL := Hid.mk' hlow
    clear hlow
    by_cases hlt : k < s.size
    · have ci : (k : Int) < (s.size : Int) := by omega
      obtain ⟨cc, hc⟩ : ∃ c : Nat, (s[k]'hlt).toNat = c := ⟨_, rfl⟩
      by_cases b : ltr cc
      · have K := Hid.mk' (K.out cc)
        rw [ltrB_true b] at K
        go_wp2_with fail
        refine K.out.mono ?_
        rintro e w1 ⟨rfl, rfl⟩
        go_wp2
        go_round
        case rel => exact ⟨k + 1, by omega, by go_num, low_next HL.out hlt (by rw [hc]; exact b)⟩
        case measure => simp [intOf]; omega
      · have K := Hid.mk' (K.out cc)
        rw [ltrB_false b] at K
        go_wp2_with fail
        refine K.out.mono ?_
        rintro e w1 ⟨rfl, rfl⟩
        go_wp2
        go_ret
        exact ⟨by rw [nmB_false fun h => b (by rw [← hc]; exact h.2.2 k hlt hlt)]; rfl, rfl⟩
    · have ci : ¬ (k : Int) < (s.size : Int) := by omega
      have e : k = s.size := by omega
      by_cases b1 : (s.size : Int) ≥ 1
      · by_cases b2 : (s.size : Int) ≤ 8
        · go_wp2
          go_ret
          exact ⟨by rw [nmB_true ⟨by omega, by omega, e ▸ HL.out⟩]; rfl, rfl⟩
        · go_wp2
          go_ret
          exact ⟨by rw [nmB_false fun h => by have := h.1; have := h.2.1; omega]; rfl, rfl⟩
      · go_wp2
        go_ret
        exact ⟨by rw [nmB_false fun h => by have := h.1; have := h.2.1; omega]; rfl, rfl⟩

end Go.Proofs.YthcajggbcanmdaaGreatDoor

namespace Go.Proofs.YthcajggbcanmdaaGreatDoor
open Go.RowKit

def posFrom : List AT → ByteArray → Nat → Int
  | [], _, _ => -1
  | x :: r, s, n => if (x.nm.toList == s.toList) = true then (n : Int) else posFrom r s (n + 1)
def posK (l : List AT) (s : ByteArray) : Int := posFrom l s 0

theorem posFrom_found : ∀ (l : List AT) (s : ByteArray) (n k : Nat), k < l.length → (∀ j, j < k → ((atK l j).nm.toList == s.toList) = false) → ((atK l k).nm.toList == s.toList) = true → posFrom l s n = ((n + k : Nat) : Int)
  | [], _, _, _, h, _, _ => absurd h (Nat.not_lt_zero _)
  | x :: r, s, n, 0, _, _, e => by
    have : (x.nm.toList == s.toList) = true := e
    unfold posFrom
    rw [if_pos this, Nat.add_zero]
  | x :: r, s, n, k + 1, h, hn, e => by
    have h0 : (x.nm.toList == s.toList) = false := hn 0 (by omega)
    have ih := posFrom_found r s (n + 1) k (by simpa using h) (fun j hj => hn (j + 1) (by omega)) e
    unfold posFrom
    rw [if_neg (by rw [h0]; exact Bool.false_ne_true), ih]
    omega

theorem posFrom_none : ∀ (l : List AT) (s : ByteArray) (n : Nat), (∀ j, j < l.length → ((atK l j).nm.toList == s.toList) = false) → posFrom l s n = -1
  | [], _, _, _ => rfl
  | x :: r, s, n, hn => by
    have h0 : (x.nm.toList == s.toList) = false := hn 0 (by simp)
    unfold posFrom
    rw [if_neg (by rw [h0]; exact Bool.false_ne_true)]
    exact posFrom_none r s (n + 1) (fun j hj => hn (j + 1) (by simp; omega))

set_option maxHeartbeats 800000 in
theorem l4Has_any (a : Option Addr) (c : Nat) (l : List AT) (s : ByteArray) (w : World) (ha : AAt w a l) (hl : (l.length : Int) ≤ 1048576) :
    Calls Tryz.prog 131 #[.slice a l.length c, .string s] w fun e w' => e = .returned (.int .i64 (posK l s)) ∧ w' = w := by
  go_enter Tryz.func131, Tryz.ntmps131
  go_wp2
  go_loop [5] (fun i => ∃ k : Nat, k ≤ l.length ∧ i = .int .i64 k ∧ ∀ j, j < k → ((atK l j).nm.toList == s.toList) = false) (fun i => l.length - (intOf i).toNat)
  case atStart => exact ⟨0, Nat.zero_le _, rfl, fun j h => absurd h (Nat.not_lt_zero _)⟩
  case round =>
    obtain ⟨k, hk, rfl, hn⟩ := hrel
    have HN := Hid.mk' hn
    clear hn
    by_cases hlt : k < l.length
    · have ci : (k : Int) < (l.length : Int) := by omega
      rcases ha with ha | ⟨b, o, rfl, hbs, hc⟩
      · exact absurd hlt (by rw [ha]; exact Nat.not_lt_zero _)
      obtain ⟨h1, p, d, h2, _⟩ := hc k hlt
      clear hc
      cases e : ((atK l k).nm.toList == s.toList) with
      | true =>
        go_wp2
        go_ret
        refine ⟨?_, rfl⟩
        unfold posK
        rw [posFrom_found l s 0 k hlt HN.out e, Nat.zero_add]
        rfl
      | false =>
        go_wp2
        go_round
        case rel => exact ⟨k + 1, by omega, by go_num, fun j hj => by
          by_cases h : j = k
          · subst h; exact e
          · exact HN.out j (by omega)⟩
        case measure => simp [intOf]; omega
    · have ci : ¬ (k : Int) < (l.length : Int) := by omega
      have e : k = l.length := by omega
      subst e
      go_wp2
      go_ret
      refine ⟨?_, rfl⟩
      unfold posK
      rw [posFrom_none l s 0 HN.out]
      rfl

theorem atK_take {l : List AT} {j k : Nat} (h : j < k) (hk : k ≤ l.length) : atK (l.take k) j = atK l j := by
  unfold atK
  rw [List.getD_eq_getElem?_getD, List.getD_eq_getElem?_getD, List.getElem?_take_of_lt h]

theorem AAt.take {w : World} {a : Option Addr} {l : List AT} (h : AAt w a l) (k : Nat) (hk : k ≤ l.length) : AAt w a (l.take k) := by
  rcases h with h | ⟨b, o, e, hs, hc⟩
  · left; rw [h]; simp
  · refine .inr ⟨b, o, e, hs, fun j hj => ?_⟩
    rw [List.length_take] at hj
    rw [atK_take (by omega) hk]
    exact hc j (by omega)

def afR : List AT → List AT → Int
  | _, [] => 0
  | seen, x :: r => if nmB x.nm = true then (if 0 ≤ posK seen x.nm then 1 else afR (seen ++ [x]) r) else 5
def afault (l : List AT) : Int := afR [] l

theorem afR_step {l : List AT} {k : Nat} (hk : k < l.length) : afR (l.take k) (l.drop k) = if nmB (atK l k).nm = true then (if 0 ≤ posK (l.take k) (atK l k).nm then 1 else afR (l.take (k + 1)) (l.drop (k + 1))) else 5 := by
  have e1 : l.drop k = atK l k :: l.drop (k + 1) := by
    rw [List.drop_eq_getElem_cons hk]
    unfold atK
    rw [List.getD_eq_getElem?_getD, List.getElem?_eq_getElem hk]; rfl
  have e2 : l.take (k + 1) = l.take k ++ [atK l k] := by
    rw [List.take_succ_eq_append_getElem hk]
    unfold atK
    rw [List.getD_eq_getElem?_getD, List.getElem?_eq_getElem hk]; rfl
  rw [e1, e2]
  rfl

set_option maxHeartbeats 1600000 in
theorem l4Attrs_any (a : Option Addr) (c : Nat) (l : List AT) (w : World) (ha : AAt w a l) (hc : l.length ≤ c) (hl : (l.length : Int) + asz l ≤ 1048576) :
    Calls Tryz.prog 103 #[.slice a l.length c] w fun e w' => e = .returned (.int .i64 (afault l)) ∧ Below w.heap.size w w' := by
  have HA := Hid.mk' ha
  clear ha
  go_enter Tryz.func103, Tryz.ntmps103
  go_wp2
  go_loopw [3] (fun i wr => ∃ k : Nat, k ≤ l.length ∧ i = .int .i64 k ∧ afault l = afR (l.take k) (l.drop k) ∧ Below w.heap.size w wr) (fun i _ => l.length - (intOf i).toNat)
  case atStart => exact ⟨0, Nat.zero_le _, rfl, rfl, Below.refl _ _⟩
  case round =>
    obtain ⟨k, hk, rfl, hf, hbl⟩ := hrel
    have HF := Hid.mk' hf
    have HB := Hid.mk' hbl
    by_cases hlt : k < l.length
    · have ci : (k : Int) < (l.length : Int) := by omega
      have HS := Hid.mk' (afR_step hlt)
      have hAk := HA.out.below hbl
      have HT := Hid.mk' (hAk.take k hk)
      rcases hAk with ha | ⟨b, o, rfl, hbs, hcl⟩
      · exact absurd hlt (by rw [ha]; exact Nat.not_lt_zero _)
      obtain ⟨h1, p, d, h2, _⟩ := hcl k hlt
      have st := asz_take l k hlt
      have sl := asz_le l (k + 1)
      have KN := Hid.mk' (l4Name_any (atK l k).nm wr (by omega))
      clear hf hbl hcl
      cases hn : nmB (atK l k).nm with
      | false =>
        rw [hn] at KN
        go_wp2_with fail
        refine KN.out.mono ?_
        rintro e w1 ⟨rfl, rfl⟩
        go_wp2
        go_ret
        refine ⟨?_, HB.out⟩
        rw [HF.out, HS.out, hn]
        rfl
      | true =>
        rw [hn] at KN
        go_wp2_with fail
        refine KN.out.mono ?_
        rintro e w1 ⟨rfl, rfl⟩
        have KH := l4Has_any (some ⟨b, o, none⟩) c (l.take k) (atK l k).nm w1.drew (HT.out.below (Below.refl _ _).drew) (by rw [List.length_take]; omega)
        rw [List.length_take, Nat.min_eq_left hk] at KH
        have KH := Hid.mk' KH
        have b1 : (0 : Int) ≤ (k : Int) := by omega
        have b2 : (k : Int) ≤ (c : Int) := by omega
        by_cases hp : 0 ≤ posK (l.take k) (atK l k).nm
        · have HE : Hid (afault l = 1) := Hid.mk' (by rw [HF.out, HS.out, hn, if_pos rfl, if_pos hp])
          generalize posK (l.take k) (atK l k).nm = q at *
          clear HS HT HF KN st sl
          go_wp2
          go_region_held3 (fun w' => w'.cell? ⟨b, o + k * 2, none⟩ = some (.string (atK l k).nm)) (simp [*])
            ((go_at_call 131; refine KH.out.mono ?_; rintro e w2 ⟨rfl, rfl⟩))
          go_wp2
          go_ret
          exact ⟨by rw [HE.out]; rfl, HB.out.drew⟩
        · have HE : Hid (afault l = afR (l.take (k + 1)) (l.drop (k + 1))) := Hid.mk' (by rw [HF.out, HS.out, hn, if_pos rfl, if_neg hp])
          generalize posK (l.take k) (atK l k).nm = q at *
          clear HS HT HF KN st sl
          go_wp2
          go_region_held3 (fun w' => w'.cell? ⟨b, o + k * 2, none⟩ = some (.string (atK l k).nm)) (simp [*])
            ((go_at_call 131; refine KH.out.mono ?_; rintro e w2 ⟨rfl, rfl⟩))
          go_wp2
          go_roundw
          case rel => exact ⟨k + 1, by omega, by go_num, HE.out, HB.out.drew⟩
          case measure => simp [intOf]; omega
    · have ci : ¬ (k : Int) < (l.length : Int) := by omega
      have e : k = l.length := by omega
      subst e
      go_wp2
      go_ret
      refine ⟨?_, HB.out⟩
      have h := HF.out
      rw [List.drop_length, List.take_length] at h
      first | rfl | (rw [h]; rfl)

end Go.Proofs.YthcajggbcanmdaaGreatDoor

namespace Go.Proofs.YthcajggbcanmdaaGreatDoor
open Go.RowKit

theorem l1In_any (v lo hi : Int) (w : World) : Calls Tryz.prog 101 #[.int .i64 v, .int .i64 lo, .int .i64 hi] w fun e w' => e = .returned (.bool (decide (lo ≤ v) && decide (v ≤ hi))) ∧ w' = w := by
  by_cases h1 : lo ≤ v
  · by_cases h2 : v ≤ hi
    · go_enter Tryz.func101, Tryz.ntmps101
      go_wp2
      go_ret
      exact ⟨by simp [h1, h2], rfl⟩
    · go_enter Tryz.func101, Tryz.ntmps101
      go_wp2
      go_ret
      exact ⟨by simp; omega, rfl⟩
  · go_enter Tryz.func101, Tryz.ntmps101
    go_wp2
    go_ret
    exact ⟨by simp; omega, rfl⟩

def tform (t : TK) : Bool := decide (1 ≤ t.kd) && decide (t.kd ≤ 4) && (decide (t.kd = 1) || decide (t.by_ = 0)) && (decide (t.kd = 2) || decide (t.kd = 3) || (t.nm.toList == [])) && (decide (t.kd = 2) || (decide (t.at_.length = 0) && !t.sh))

def tfault (t : TK) : Int := if tform t = true then (if 0 ≤ t.by_ ∧ t.by_ ≤ 255 then (if (t.kd = 2 ∨ t.kd = 3) ∧ nmB t.nm = false then 5 else afault t.at_) else 3) else 1

end Go.Proofs.YthcajggbcanmdaaGreatDoor

namespace Go.Proofs.YthcajggbcanmdaaGreatDoor
open Go.RowKit

def refCell : Nat → Value
  | 0 => .int .u8 60
  | 1 => .string ⟨#[38, 108, 116, 59]⟩
  | 2 => .int .u8 62
  | 3 => .string ⟨#[38, 103, 116, 59]⟩
  | 4 => .int .u8 38
  | 5 => .string ⟨#[38, 97, 109, 112, 59]⟩
  | 6 => .int .u8 34
  | _ => .string ⟨#[38, 113, 117, 111, 116, 59]⟩
def Refs (w : World) : Prop := ∀ i, i < 8 → w.cell? ⟨2, i, none⟩ = some (refCell i)
theorem Refs.lt {w : World} (h : Refs w) : 2 < w.heap.size := by
  have h0 := h 0 (by decide)
  refine Nat.lt_of_not_le fun hn => ?_
  have : w.heap[2]? = none := Array.getElem?_eq_none hn
  simp [World.cell?, this] at h0
theorem Refs.below {w w' : World} (h : Refs w) (hb : Below w.heap.size w w') : Refs w' := fun i hi => by
  rw [hb.cell (p := ⟨2, i, none⟩) h.lt]; exact h i hi

theorem ix0 (w : World) : (Instr.index 211 (.agg #[.int .u8 60, .string ⟨#[38, 108, 116, 59]⟩, .int .u8 62, .string ⟨#[38, 103, 116, 59]⟩, .int .u8 38, .string ⟨#[38, 97, 109, 112, 59]⟩, .int .u8 34, .string ⟨#[38, 113, 117, 111, 116, 59]⟩]) (.int .i64 0)).run Tryz.prog w = .ok (.agg #[.int .u8 60, .string ⟨#[38, 108, 116, 59]⟩]) w := by kernel_rfl
theorem ix1 (w : World) : (Instr.index 211 (.agg #[.int .u8 60, .string ⟨#[38, 108, 116, 59]⟩, .int .u8 62, .string ⟨#[38, 103, 116, 59]⟩, .int .u8 38, .string ⟨#[38, 97, 109, 112, 59]⟩, .int .u8 34, .string ⟨#[38, 113, 117, 111, 116, 59]⟩]) (.int .i64 1)).run Tryz.prog w = .ok (.agg #[.int .u8 62, .string ⟨#[38, 103, 116, 59]⟩]) w := by kernel_rfl
theorem ix2 (w : World) : (Instr.index 211 (.agg #[.int .u8 60, .string ⟨#[38, 108, 116, 59]⟩, .int .u8 62, .string ⟨#[38, 103, 116, 59]⟩, .int .u8 38, .string ⟨#[38, 97, 109, 112, 59]⟩, .int .u8 34, .string ⟨#[38, 113, 117, 111, 116, 59]⟩]) (.int .i64 2)).run Tryz.prog w = .ok (.agg #[.int .u8 38, .string ⟨#[38, 97, 109, 112, 59]⟩]) w := by kernel_rfl
theorem ix3 (w : World) : (Instr.index 211 (.agg #[.int .u8 60, .string ⟨#[38, 108, 116, 59]⟩, .int .u8 62, .string ⟨#[38, 103, 116, 59]⟩, .int .u8 38, .string ⟨#[38, 97, 109, 112, 59]⟩, .int .u8 34, .string ⟨#[38, 113, 117, 111, 116, 59]⟩]) (.int .i64 3)).run Tryz.prog w = .ok (.agg #[.int .u8 34, .string ⟨#[38, 113, 117, 111, 116, 59]⟩]) w := by kernel_rfl

end Go.Proofs.YthcajggbcanmdaaGreatDoor

namespace Go.Proofs.YthcajggbcanmdaaGreatDoor
open Go.ChangeShapes Go.WideShapes Go.ChangeAt Go.RowKit
theorem gRef : Tryz.prog.globalNamed "loop.example/g00606/impl.namedRefs" = some 2 := by kernel_rfl
theorem tRef : (Tryz.prog.globals[2]?).map (·.type) = some 211 := by kernel_rfl
theorem cells62 : Tryz.prog.cellsOf 210 = 2 := by kernel_rfl
theorem cells63 : Tryz.prog.cellsOf 211 = 8 := by kernel_rfl
theorem own : ownKnob Tryz.prog.godebug = none := by kernel_rfl
theorem c5 : Tryz.prog.cellsOf 5 = 1 := by kernel_rfl
theorem c9 : Tryz.prog.cellsOf 9 = 1 := by kernel_rfl

theorem ref_elem {H : Type} {enc : TypeId × Value → H} {w : World} {base : Nat} {sp : Nat → Bool} {held : Bool} {fuel : Nat} {x y : Value} {k : Int} {bs : List UInt8} {q : List MemPlace}
    (h : DataW.trod enc Tryz.prog w base sp held fuel 210 [x, y] = some (.agg [.lit (.int .u8 k), .lit (.string bs)], q)) : x = .int .u8 k ∧ y = .string ⟨bs.toArray⟩ := by
  obtain ⟨xs, n, rfl, hx, hl, hxl, hall⟩ := DataW.trod_struct Tryz.underlying210 h
  have h0 : DataW.trod enc Tryz.prog w base sp held n 5 (List.take (Tryz.prog.cellsOf 5) (List.drop 0 [x, y])) = xs[0]? := hall 0 _ rfl
  have h1 : DataW.trod enc Tryz.prog w base sp held n 9 (List.take (Tryz.prog.cellsOf 9) (List.drop 1 [x, y])) = xs[1]? := hall 1 _ rfl
  rw [c5] at h0
  rw [c9] at h1
  match xs, hxl with
  | [a, b], _ =>
    simp at h0 h1 hx
    obtain ⟨z, e1, e2, _⟩ := DataW.trod_int Tryz.underlying5 h0
    obtain ⟨s, e3, e4, _⟩ := DataW.trod_string Tryz.underlying9 h1
    subst e2 e4
    simp at e1 e3 hx
    refine ⟨by rw [e1, hx.1.1], ?_⟩
    rw [e3]
    refine congrArg Value.string ?_
    rw [hx.1.2]

def cells8 : List Value := [.int .u8 60, .string ⟨#[38, 108, 116, 59]⟩, .int .u8 62, .string ⟨#[38, 103, 116, 59]⟩, .int .u8 38, .string ⟨#[38, 97, 109, 112, 59]⟩, .int .u8 34, .string ⟨#[38, 113, 117, 111, 116, 59]⟩]

set_option maxRecDepth 100000 in
theorem var_of_reads {w : World} (h : Lib.VarReads Tryz.prog w "loop.example/g00606/impl.namedRefs" Rows.laid_loop_example_g00606_impl_namedRefs) : w.var? Tryz.prog "loop.example/g00606/impl.namedRefs" = some cells8.toArray := by
  obtain ⟨g, t, cs, fuel, p, hg, ht, hv, hd⟩ := h
  obtain rfl := Option.some.inj (gRef.symm.trans hg)
  obtain rfl := Option.some.inj (tRef.symm.trans ht)
  rw [hv]
  obtain ⟨l⟩ := cs
  obtain ⟨xs, m1, rfl, hx1, hlen, hn3, hel⟩ := DataW.trod_array Tryz.underlying211 hd
  rw [cells63] at hlen
  match l, hlen with
  | [x0, x1, x2, x3, x4, x5, x6, x7], _ =>
    obtain ⟨f0, d0, q0, e0, h0⟩ := Lib.array_elem Tryz.underlying211 hd 0 (by decide)
    obtain ⟨f1, d1, q1, e1, h1⟩ := Lib.array_elem Tryz.underlying211 hd 1 (by decide)
    obtain ⟨f2, d2, q2, e2, h2⟩ := Lib.array_elem Tryz.underlying211 hd 2 (by decide)
    obtain ⟨f3, d3, q3, e3, h3⟩ := Lib.array_elem Tryz.underlying211 hd 3 (by decide)
    rw [cells62] at h0 h1 h2 h3
    simp at e0 e1 e2 e3 h0 h1 h2 h3
    subst e0 e1 e2 e3
    obtain ⟨rfl, rfl⟩ := ref_elem h0
    obtain ⟨rfl, rfl⟩ := ref_elem h1
    obtain ⟨rfl, rfl⟩ := ref_elem h2
    obtain ⟨rfl, rfl⟩ := ref_elem h3
    rfl

theorem refs_of_var {w : World} (hv : w.var? Tryz.prog "loop.example/g00606/impl.namedRefs" = some cells8.toArray) : Refs w := by
  intro i hi
  have := World.var?_cell gRef hv i
  rw [this]
  match i, hi with
  | 0, _ => rfl
  | 1, _ => rfl
  | 2, _ => rfl
  | 3, _ => rfl
  | 4, _ => rfl
  | 5, _ => rfl
  | 6, _ => rfl
  | 7, _ => rfl

theorem laidOut : laidOutB Tryz.prog = true := by kernel_rfl

theorem reads_cells8 {H : Type} (enc : TypeId × Value → H) (W : World) (sp : Nat → Bool) : DataW.trod enc Tryz.prog W 0 sp true 4 211 cells8 = some (Rows.laid_loop_example_g00606_impl_namedRefs, []) := by kernel_rfl
theorem var_lt {w : World} (hv : w.var? Tryz.prog "loop.example/g00606/impl.namedRefs" = some cells8.toArray) : 2 < w.heap.size := (refs_of_var hv).lt
theorem var_below {w w' : World} (hv : w.var? Tryz.prog "loop.example/g00606/impl.namedRefs" = some cells8.toArray) (hb : Below w.heap.size w w') : w'.var? Tryz.prog "loop.example/g00606/impl.namedRefs" = some cells8.toArray := by
  rw [← hv]
  simp only [World.var?, gRef, Option.bind_some]
  rw [hb.block 2 (var_lt hv)]

end Go.Proofs.YthcajggbcanmdaaGreatDoor

namespace Go.Proofs.YthcajggbcanmdaaGreatDoor
open Go.RowKit

theorem wpList_append_any {P : Program} (w : World) {ops : Array Oper} {rest : List Oper} {o : Oper} {a : Act} {Q : Exit → Act → World → Prop} (hgd : o.guard = none) (s x : Operand) (t : TypeId)
    (ho : o.op = .call { callee := .builtin .append, args := #[s, x], argTypes := #[t, t] })
    (base : Nat) (e : TypeId) (z : Value) (size bytes : Nat) (ht : P.underlying t = some (.slice e)) (hinfo : (P.info? e).map (fun i => (i.zero, i.size, i.bytes)) = some (some z, size, bytes))
    (hzs : z.cells.size = size) (hsz : 0 < size)
    (v : Value) (n : Nat) (xs : List Value) (hs : a.eval s = v) (hown : w.ownsRow base e size v n xs)
    (ax : Option Addr) (m c : Nat) (news : List Value) (hx : a.eval x = .slice ax m c) (hl : news.length = m * size)
    (hsrc : m = 0 ∨ ∃ ad, ax = some ad ∧ ∀ j u, news[j]? = some u → w.cell? (ad.add j) = some u) (h1 : ∀ u ∈ news, u.oneCell' = true)
    (h63 : n + m ≤ maxLen) (hbytes : (n + m) * bytes ≤ 140737488355328) (hbase : base ≤ w.heap.size)
    (h : ∀ v' w', w'.ownsRow base e size v' (n + m) (xs ++ news) → w.grownBy w' v.ownBlock → wpList P ops Q rest (a.put o.dst v') w') : wpList P ops Q (o :: rest) a w := by
  obtain ⟨i, hi, hz0, hz1, hz2⟩ := info_parts hinfo
  cases ax with
  | some ad =>
    refine wpList_append_own w hgd s x t ho base e i z size bytes ht hi hz0 hz1 hz2 hzs hsz v n xs hs hown ad m c news hx hl ?_ h1 h63 hbytes hbase fun v' w' h2 h3 _ => h v' w' h2 h3
    rcases hsrc with h0 | ⟨ad', e', hc⟩
    · subst h0
      have : news = [] := List.eq_nil_of_length_eq_zero (by simpa using hl)
      subst this
      intro j u hj
      simp at hj
    · cases e'
      exact hc
  | none =>
    have hm : m = 0 := by
      rcases hsrc with h0 | ⟨ad', e', _⟩
      · exact h0
      · cases e'
    subst hm
    have hn : news = [] := List.eq_nil_of_length_eq_zero (by simpa using hl)
    subst hn
    have hr : (Builtin.append_ #[t, t] o.type #[v, .slice none 0 c]).run P w = .ok v w := by
      rcases hown.2 with ⟨rfl, rfl⟩ | ⟨g, cap, cur, rfl, _, _, hnc, _⟩
      · simp [Builtin.append_, run_underlying ht, sizeOf, typeInfo, hi, Builtin.lenOf, Builtin.firstCells]
      · simp [Builtin.append_, run_underlying ht, sizeOf, typeInfo, hi, Builtin.lenOf, Builtin.firstCells, hnc, storeCells]
    refine wpList_plain hgd fun K hK => ?_
    unfold Oper.wp execOp
    simp only [ho, resolve, invoke, builtin, Sem.run_bind, Sem.run_pure, Result.andThen_ok, List.map_toArray, List.map_cons, List.map_nil, hs, hx, hr]
    exact hK _ _ (h v w (by simpa using hown) ⟨rfl, rfl, rfl, Nat.le_refl _, fun _ _ _ => rfl⟩)

def bcs (l : List Int) : List Value := l.map (Value.int .u8)

theorem bcs_len (l : List Int) : (bcs l).length = l.length * 1 := by simp [bcs]
theorem bcs_one (l : List Int) : ∀ u ∈ bcs l, u.oneCell' = true := by
  intro u hu; simp [bcs] at hu; obtain ⟨x, _, rfl⟩ := hu; rfl
theorem bcs_get (l : List Int) (j : Nat) (h : j < l.length) : (bcs l)[j]? = some (bv l j) := by simp [bcs, bv, h]
theorem bcs_append (a b : List Int) : bcs (a ++ b) = bcs a ++ bcs b := by simp [bcs]

theorem BAt.src {w : World} {a : Option Addr} {l : List Int} (h : BAt w a l) : l.length = 0 ∨ ∃ ad, a = some ad ∧ ∀ j u, (bcs l)[j]? = some u → w.cell? (ad.add j) = some u := by
  rcases h with h | ⟨b, o, rfl, hl, hc⟩
  · left; rw [h]; rfl
  · right
    refine ⟨_, rfl, fun j u hj => ?_⟩
    have hlt : j < l.length := by
      have := (List.getElem?_eq_some_iff.1 hj).1
      rw [bcs_len] at this; omega
    rw [bcs_get l j hlt] at hj
    rw [Addr.add_mid, hc j hlt]
    exact hj

theorem OB.of_own {w : World} {base : Nat} {v : Value} {l : List Int} (h : w.ownsRow base 5 1 v l.length (bcs l)) : OB w v l ∧ ∀ k, v.ownBlock = some k → base ≤ k := by
  obtain ⟨_, h | ⟨g, cap, cur, rfl, hb, hg, hn, hm, hs, ht⟩⟩ := h
  · obtain ⟨rfl, h0⟩ := h
    exact ⟨.inl ⟨rfl, List.eq_nil_of_length_eq_zero h0⟩, fun k hk => by simp [Value.ownBlock] at hk⟩
  · refine ⟨.inr ⟨g, cap, cap, fun i => cur.toList.getD i undef, rfl, hn, ⟨cur, hg, by omega, fun i hi => ?_⟩, hn, fun i hi => ?_⟩, fun k hk => by simp [Value.ownBlock] at hk; omega⟩
    · have : i < cur.size := by omega
      simp [this]
    · have e := bcs_get l i hi
      rw [← ht, List.getElem?_take, if_pos (by omega)] at e
      simp only [List.getD_eq_getElem?_getD, e, Option.getD_some]

theorem copy_row {P : Program} (dT sT ty : TypeId) (hu : P.underlying dT = some (.slice 5)) (hs : (P.info? 5).map (·.size) = some 1) {w : World} {g cn : Nat} {f : Nat → Value} (o dn dc : Nat) (hr : w.rowIs g 5 cn f) (a : Option Addr) (c : Nat) (l : List Int)
    (ha : BAt w a l) (h1 : l.length ≤ dn) (h2 : o + l.length ≤ cn) :
    ∃ w', (Builtin.copy_ #[dT, sT] ty #[.slice (some ⟨g, o, none⟩) dn dc, .slice a l.length c]).run P w = .ok (goInt l.length) w' ∧ w'.rowIs g 5 cn (fun j => if o ≤ j ∧ j < o + l.length then bv l (j - o) else f j) ∧ KeptIn g (g + 1) w w' := by
  rcases ha.src with h0 | ⟨ad, rfl, hc⟩
  · rw [h0]
    exact ⟨w, run_copy_none w dT sT ty 5 _ a dn dc 0 c hu hs (by simp), hr.congr (fun j _ => by rw [if_neg (by omega)]), KeptIn.refl _ _ _⟩
  · obtain ⟨cur, hg, hn, hf⟩ := hr
    have hmin : (bcs l).length = Nat.min l.length dn := by rw [bcs_len, Nat.mul_one]; exact (Nat.min_eq_left h1).symm
    have hrun := run_copy_row (P := P) w dT sT ty 5 g o dn dc ad l.length c cur 5 (bcs l) hu hs hg hmin hc (by rw [bcs_len]; omega) (bcs_one l)
    rw [bcs_len, Nat.mul_one] at hrun
    refine ⟨_, hrun, ⟨_, setRow_heap w g cur _ 5 _ hg, ?_, fun i hi => ?_⟩, ⟨rfl, rfl, rfl, by simp [World.setRow], fun k hk hne => setRow_other w g k _ (by omega)⟩⟩
    · simp only [List.size_toArray, List.length_append, List.length_take, List.length_drop, Array.length_toList, bcs_len]
      omega
    · simp only [List.getElem?_toArray]
      have hlt : (cur.toList.take o).length = o := by rw [List.length_take, Array.length_toList]; omega
      by_cases c1 : i < o
      · rw [if_neg (by omega), List.append_assoc, List.getElem?_append_left (by omega), List.getElem?_take, if_pos c1, Array.getElem?_toList]
        exact hf i hi
      · by_cases c2 : i < o + l.length
        · rw [if_pos (by omega), List.append_assoc, List.getElem?_append_right (by omega), hlt, List.getElem?_append_left (by rw [bcs_len]; omega)]
          exact bcs_get l _ (by omega)
        · rw [if_neg (by omega), List.append_assoc, List.getElem?_append_right (by omega), hlt, List.getElem?_append_right (by rw [bcs_len]; omega), bcs_len, List.getElem?_drop, Array.getElem?_toList]
          rw [show o + l.length + (i - o - l.length * 1) = i from by omega]
          exact hf i hi

end Go.Proofs.YthcajggbcanmdaaGreatDoor

namespace Go.Proofs.YthcajggbcanmdaaGreatDoor
open Go.RowKit

theorem grown_cells {B : Nat} {w w1 : World} {row : Option Nat} (hg : w.grownBy w1 row) (hr : ∀ k, row = some k → B ≤ k) (hB : B ≤ w.heap.size) : ∀ b o, b < B → w1.cell? ⟨b, o, none⟩ = w.cell? ⟨b, o, none⟩ := by
  intro b o hb
  exact World.cell?_of_block (hg.block b (by omega) (fun e => by have := hr b e.symm; omega))

theorem own_lo {w : World} {base : Nat} {e : TypeId} {size : Nat} {v : Value} {n : Nat} {xs : List Value} (h : w.ownsRow base e size v n xs) : ∀ k, v.ownBlock = some k → base ≤ k := fun k hk => (h.lt k hk).1

theorem grown_frozen {B : Nat} {w w1 : World} {row : Option Nat} (hg : w.grownBy w1 row) (hr : ∀ k, row = some k → B ≤ k) (hB : B ≤ w.heap.size) : ∀ b o, b < B → w1.frozen? ⟨b, o, none⟩ = w.frozen? ⟨b, o, none⟩ := by
  intro b o hb
  exact World.frozen?_of_block (hg.block b (by omega) (fun e => by have := hr b e.symm; omega))

end Go.Proofs.YthcajggbcanmdaaGreatDoor

namespace Go.Proofs.YthcajggbcanmdaaGreatDoor
open Go.RowKit

theorem wpList_append_at {P : Program} (w : World) {ops : Array Oper} {rest : List Oper} {o : Oper} {a : Act} {Q : Exit → Act → World → Prop} (hgd : o.guard = none) (s x : Operand) (t : TypeId)
    (ho : o.op = .call { callee := .builtin .append, args := #[s, x], argTypes := #[t, t] })
    (base : Nat) (e : TypeId) (z : Value) (size bytes : Nat) (ht : P.underlying t = some (.slice e)) (hinfo : (P.info? e).map (fun i => (i.zero, i.size, i.bytes)) = some (some z, size, bytes))
    (hzs : z.cells.size = size) (hsz : 0 < size)
    (v : Value) (n : Nat) (xs : List Value) (hs : a.eval s = v) (hown : w.ownsRow base e size v n xs)
    (ax : Option Addr) (m c : Nat) (news : List Value) (hx : a.eval x = .slice ax m c) (hl : news.length = m * size)
    (hsrc : m = 0 ∨ ∃ ad, ax = some ad ∧ ∀ j u, news[j]? = some u → w.cell? (ad.add j) = some u) (h1 : ∀ u ∈ news, u.oneCell' = true)
    (h63 : n + m ≤ maxLen) (hbytes : (n + m) * bytes ≤ 140737488355328) (hbase : base ≤ w.heap.size)
    (h : ∀ v' w', w'.ownsRow base e size v' (n + m) (xs ++ news) → w.grownBy w' v.ownBlock → (v'.ownBlock = v.ownBlock ∨ v'.ownBlock = some w.heap.size) → wpList P ops Q rest (a.put o.dst v') w') : wpList P ops Q (o :: rest) a w := by
  obtain ⟨i, hi, hz0, hz1, hz2⟩ := info_parts hinfo
  refine wpList_plain hgd fun K hK => ?_
  cases ax with
  | some ad =>
    have hnews : ∀ j u, news[j]? = some u → w.cell? (ad.add j) = some u := by
      rcases hsrc with h0 | ⟨ad', e', hc⟩
      · subst h0
        have : news = [] := List.eq_nil_of_length_eq_zero (by simpa using hl)
        subst this
        intro j u hj
        simp at hj
      · cases e'
        exact hc
    obtain ⟨v', w', hr, h2, h3, _, h5⟩ := run_append_own_at (P := P) w base t o.type e i z size bytes ht hi hz0 hz1 hz2 hzs hsz v n xs hown ad m c news hl hnews h1 h63 hbytes hbase
    unfold Oper.wp execOp
    simp only [ho, resolve, invoke, builtin, Sem.run_bind, Sem.run_pure, Result.andThen_ok, List.map_toArray, List.map_cons, List.map_nil, hs, hx, hr]
    exact hK _ _ (h v' w' h2 h3 h5)
  | none =>
    have hm : m = 0 := by
      rcases hsrc with h0 | ⟨ad', e', _⟩
      · exact h0
      · cases e'
    subst hm
    have hn : news = [] := List.eq_nil_of_length_eq_zero (by simpa using hl)
    subst hn
    have hr : (Builtin.append_ #[t, t] o.type #[v, .slice none 0 c]).run P w = .ok v w := by
      rcases hown.2 with ⟨rfl, rfl⟩ | ⟨g, cap, cur, rfl, _, _, hnc, _⟩
      · simp [Builtin.append_, run_underlying ht, sizeOf, typeInfo, hi, Builtin.lenOf, Builtin.firstCells]
      · simp [Builtin.append_, run_underlying ht, sizeOf, typeInfo, hi, Builtin.lenOf, Builtin.firstCells, hnc, storeCells]
    unfold Oper.wp execOp
    simp only [ho, resolve, invoke, builtin, Sem.run_bind, Sem.run_pure, Result.andThen_ok, List.map_toArray, List.map_cons, List.map_nil, hs, hx, hr]
    exact hK _ _ (h v w (by simpa using hown) ⟨rfl, rfl, rfl, Nat.le_refl _, fun _ _ _ => rfl⟩ (.inl rfl))

theorem step_append_at {P : Program} {ops : Array Oper} {o : Oper} {a : Act} {w : World} {K : Act → World → Prop} {Q : Exit → Act → World → Prop} {E : Prop} (hgd : o.guard = none) (s x : Operand) (t : TypeId)
    (ho : o.op = .call { callee := .builtin .append, args := #[s, x], argTypes := #[t, t] })
    (base : Nat) (e : TypeId) (z : Value) (size bytes : Nat) (ht : P.underlying t = some (.slice e)) (hinfo : (P.info? e).map (fun i => (i.zero, i.size, i.bytes)) = some (some z, size, bytes))
    (hzs : z.cells.size = size) (hsz : 0 < size)
    (v : Value) (n : Nat) (xs : List Value) (hs : a.eval s = v) (hown : w.ownsRow base e size v n xs)
    (ax : Option Addr) (m c : Nat) (news : List Value) (hx : a.eval x = .slice ax m c) (hl : news.length = m * size)
    (hsrc : m = 0 ∨ ∃ ad, ax = some ad ∧ ∀ j u, news[j]? = some u → w.cell? (ad.add j) = some u) (h1 : ∀ u ∈ news, u.oneCell' = true)
    (h63 : n + m ≤ maxLen) (hbytes : (n + m) * bytes ≤ 140737488355328) (hbase : base ≤ w.heap.size)
    (h : ∀ v' w', w'.ownsRow base e size v' (n + m) (xs ++ news) → w.grownBy w' v.ownBlock → (v'.ownBlock = v.ownBlock ∨ v'.ownBlock = some w.heap.size) → K (a.put o.dst v') w') :
    if Region.wanted o (yielded ops a.tmps) = true then Oper.wp P o a w K Q else E := by
  have hw : Region.wanted o (yielded ops a.tmps) = true := by simp [Region.wanted, hgd]
  rw [if_pos hw]
  obtain ⟨i, hi, hz0, hz1, hz2⟩ := info_parts hinfo
  cases ax with
  | some ad =>
    have hnews : ∀ j u, news[j]? = some u → w.cell? (ad.add j) = some u := by
      rcases hsrc with h0 | ⟨ad', e', hc⟩
      · subst h0
        have : news = [] := List.eq_nil_of_length_eq_zero (by simpa using hl)
        subst this
        intro j u hj
        simp at hj
      · cases e'
        exact hc
    obtain ⟨v', w', hr, h2, h3, _, h5⟩ := run_append_own_at (P := P) w base t o.type e i z size bytes ht hi hz0 hz1 hz2 hzs hsz v n xs hown ad m c news hl hnews h1 h63 hbytes hbase
    unfold Oper.wp execOp
    simp only [ho, resolve, invoke, builtin, Sem.run_bind, Sem.run_pure, Result.andThen_ok, List.map_toArray, List.map_cons, List.map_nil, hs, hx, hr]
    exact h v' w' h2 h3 h5
  | none =>
    have hm : m = 0 := by
      rcases hsrc with h0 | ⟨ad', e', _⟩
      · exact h0
      · cases e'
    subst hm
    have hn : news = [] := List.eq_nil_of_length_eq_zero (by simpa using hl)
    subst hn
    have hr : (Builtin.append_ #[t, t] o.type #[v, .slice none 0 c]).run P w = .ok v w := by
      rcases hown.2 with ⟨rfl, rfl⟩ | ⟨g, cap, cur, rfl, _, _, hnc, _⟩
      · simp [Builtin.append_, run_underlying ht, sizeOf, typeInfo, hi, Builtin.lenOf, Builtin.firstCells]
      · simp [Builtin.append_, run_underlying ht, sizeOf, typeInfo, hi, Builtin.lenOf, Builtin.firstCells, hnc, storeCells]
    unfold Oper.wp execOp
    simp only [ho, resolve, invoke, builtin, Sem.run_bind, Sem.run_pure, Result.andThen_ok, List.map_toArray, List.map_cons, List.map_nil, hs, hx, hr]
    exact h v w (by simpa using hown) ⟨rfl, rfl, rfl, Nat.le_refl _, fun _ _ _ => rfl⟩ (.inl rfl)

theorem own_keep {w w' : World} {base : Nat} {e : TypeId} {size : Nat} {v : Value} {n : Nat} {xs : List Value} (h : w.ownsRow base e size v n xs) (hb : Below w.heap.size w w') : w'.ownsRow base e size v n xs :=
  h.kept (row := none) ⟨hb.os, hb.tape, hb.output, hb.size, fun k hk _ => hb.block k hk⟩ (by cases hv : v.ownBlock <;> simp)

end Go.Proofs.YthcajggbcanmdaaGreatDoor

namespace Go.Proofs.YthcajggbcanmdaaGreatDoor
open Go.RowKit

def isD (c : UInt8) : Bool := decide (48 ≤ c.toNat) && decide (c.toNat ≤ 57)
def valF (acc : Nat) : List UInt8 → Nat
  | [] => acc
  | c :: r => valF (acc * 10 + (c.toNat - 48)) r
def numOf (d : List UInt8) : Option Nat := if (1 ≤ d.length ∧ d.length ≤ 3) ∧ ¬ (d.getD 0 0).toNat = 48 then (if d.all isD = true ∧ valF 0 d ≤ 255 then some (valF 0 d) else none) else none
def optI : Option Nat → Int
  | some n => n
  | none => -1

theorem valF_snoc : ∀ (l : List UInt8) (c : UInt8) (a : Nat), valF a (l ++ [c]) = valF a l * 10 + (c.toNat - 48)
  | [], c, a => rfl
  | x :: r, c, a => valF_snoc r c _
theorem take_snoc1 (l : List UInt8) (k : Nat) (h : k < l.length) : l.take (k + 1) = l.take k ++ [l.getD k 0] := by
  rw [List.take_add_one, List.getElem?_eq_getElem h, Option.toList_some]
  simp [List.getD_eq_getElem?_getD, List.getElem?_eq_getElem h]
theorem valF_take (l : List UInt8) (k : Nat) (h : k < l.length) : valF 0 (l.take (k + 1)) = valF 0 (l.take k) * 10 + ((l.getD k 0).toNat - 48) := by rw [take_snoc1 l k h, valF_snoc]
theorem all_take (l : List UInt8) (k : Nat) (h : k < l.length) : (l.take (k + 1)).all isD = ((l.take k).all isD && isD (l.getD k 0)) := by rw [take_snoc1 l k h]; simp
theorem isD_bd {c : UInt8} (h : isD c = true) : 48 ≤ c.toNat ∧ c.toNat ≤ 57 := by unfold isD at h; simpa using h
theorem val1 (a : UInt8) (h : isD a = true) : valF 0 [a] ≤ 999 := by
  have h := isD_bd h
  have e : valF 0 [a] = 0 * 10 + (a.toNat - 48) := rfl
  rw [e]
  omega
theorem val2 (a b : UInt8) (h : isD a = true) (k : isD b = true) : valF 0 [a, b] ≤ 999 := by
  have h := isD_bd h
  have k := isD_bd k
  have e : valF 0 [a, b] = (0 * 10 + (a.toNat - 48)) * 10 + (b.toNat - 48) := rfl
  rw [e]
  omega
theorem val3 (a b c : UInt8) (h : isD a = true) (k : isD b = true) (m : isD c = true) : valF 0 [a, b, c] ≤ 999 := by
  have h := isD_bd h
  have k := isD_bd k
  have m := isD_bd m
  have e : valF 0 [a, b, c] = ((0 * 10 + (a.toNat - 48)) * 10 + (b.toNat - 48)) * 10 + (c.toNat - 48) := rfl
  rw [e]
  omega
theorem valF_small : ∀ (l : List UInt8), l.length ≤ 3 → l.all isD = true → valF 0 l ≤ 999
  | [], _, _ => Nat.zero_le _
  | [a], _, h => val1 a (by simpa using h)
  | [a, b], _, h => by
    simp only [List.all_cons, List.all_nil, Bool.and_true, Bool.and_eq_true] at h
    exact val2 a b h.1 h.2
  | [a, b, c], _, h => by
    simp only [List.all_cons, List.all_nil, Bool.and_true, Bool.and_eq_true] at h
    exact val3 a b c h.1 h.2.1 h.2.2
  | _ :: _ :: _ :: _ :: _, h, _ => by simp at h
theorem get_list {s : ByteArray} {L : List UInt8} (e : s.data.toList = L) (k : Nat) (h : k < s.size) : (s[k]'h).toNat = (L.getD k 0).toNat := by
  subst e
  have h' : k < s.data.toList.length := by rw [Array.length_toList]; exact h
  rw [List.getD_eq_getElem?_getD, List.getElem?_eq_getElem h']
  simp
  rfl
theorem len_list (s : ByteArray) : s.data.toList.length = s.size := Array.length_toList

set_option maxRecDepth 100000 in
set_option maxHeartbeats 800000 in
theorem l2Number_core (s : ByteArray) (L : List UInt8) (e : s.data.toList = L) (w : World) (hb : s.size ≤ 1048576) :
    Calls Tryz.prog 178 #[.string s] w fun e w' => e = .returned (.int .i64 (optI (numOf L))) ∧ w' = w := by
  have hL : L.length = s.size := by rw [← e]; exact len_list s
  have EE := Hid.mk' e
  by_cases h1 : s.size < 1
  · rw [show numOf L = none from by unfold numOf; rw [if_neg (by omega)]]
    clear e
    go_enter Tryz.func178, Tryz.ntmps178
    go_wp2
    go_ret
    exact ⟨rfl, rfl⟩
  by_cases h2 : 3 < s.size
  · rw [show numOf L = none from by unfold numOf; rw [if_neg (by omega)]]
    clear e
    go_enter Tryz.func178, Tryz.ntmps178
    go_wp2
    go_ret
    exact ⟨rfl, rfl⟩
  have hg := get_list e
  clear e
  have h0 := hg 0 (by omega)
  by_cases h3 : (s[0]'(by omega)).toNat = 48
  · rw [show numOf L = none from by unfold numOf; rw [if_neg (by rw [← h0]; simp [h3])]]
    clear hg h0
    go_enter Tryz.func178, Tryz.ntmps178
    go_wp2
    go_ret
    exact ⟨rfl, rfl⟩
  have hn : numOf L = if L.all isD = true ∧ valF 0 L ≤ 255 then some (valF 0 L) else none := by unfold numOf; rw [if_pos ⟨⟨by omega, by omega⟩, by rw [← h0]; exact h3⟩]
  have HN := Hid.mk' hn
  have HG := Hid.mk' hg
  have i1 : ¬ ((s.size : Int) < 1) := by omega
  have i2 : ¬ (3 < (s.size : Int)) := by omega
  have i3 : (((s[0]'(by omega)).toNat : Int) == 48) = false := by rw [beq_eq_false_iff_ne]; omega
  clear h0 hg hn h3
  go_enter Tryz.func178, Tryz.ntmps178
  go_wp2
  clear i3
  go_loop [3, 4] (fun n i => ∃ k : Nat, k ≤ s.size ∧ i = .int .i64 k ∧ n = .int .i64 (valF 0 (L.take k) : Nat) ∧ (L.take k).all isD = true) (fun _ i => s.size - (intOf i).toNat)
  case atStart => exact ⟨0, Nat.zero_le _, rfl, rfl, rfl⟩
  case round =>
    obtain ⟨k, hk, rfl, rfl, hall⟩ := hrel
    by_cases hlt : k < s.size
    · have e1 := HG.out k hlt
      have V := Hid.mk' (valF_take L k (by omega))
      have A := Hid.mk' (all_take L k (by omega))
      have hv' := valF_small _ (by rw [List.length_take]; omega) hall
      have HA := Hid.mk' hall
      clear hall
      generalize valF 0 (L.take k) = v at *
      by_cases hd : 48 ≤ (s[k]'hlt).toNat ∧ (s[k]'hlt).toNat ≤ 57
      · have D := Hid.mk' (show isD (L.getD k 0) = true by unfold isD; rw [← e1]; simp only [hd.1, hd.2, decide_true, Bool.and_self])
        have E1 := Hid.mk' e1
        obtain ⟨hd1, hd2⟩ := hd
        clear e1
        go_wp2
        refine ⟨⟨k + 1, hlt, by simp, ?_, by rw [A.out, HA.out, D.out]; rfl⟩, by simp [intOf]; omega⟩
        rw [V.out, ← E1.out]
        congr 1
        omega
      · have D : Hid (L.all isD = false) := by
          have : isD (L.getD k 0) = false := by
            cases hq : isD (L.getD k 0) with
            | false => rfl
            | true => exact absurd (by have := isD_bd hq; rw [← e1] at this; exact this) hd
          cases hq : L.all isD with
          | false => rfl
          | true =>
            exfalso
            have hm : L.getD k 0 ∈ L := by
              rw [List.getD_eq_getElem?_getD, List.getElem?_eq_getElem (show k < L.length by omega)]
              exact List.getElem_mem _
            rw [List.all_eq_true.1 hq _ hm] at this
            cases this
        have hd' : (decide (((s[k]'hlt).toNat : Int) < 48) || decide (57 < ((s[k]'hlt).toNat : Int))) = true := by
          simp only [Bool.or_eq_true, decide_eq_true_eq]; omega
        clear e1 hd
        by_cases hd1 : ((s[k]'hlt).toNat : Int) < 48
        · clear hd'
          go_wp2
          go_ret
          rw [HN.out, if_neg (by rw [D.out]; simp)]
          exact ⟨rfl, rfl⟩
        · have hd2 : 57 < ((s[k]'hlt).toNat : Int) := by simpa [hd1] using hd'
          clear hd'
          go_wp2
          go_ret
          rw [HN.out, if_neg (by rw [D.out]; simp)]
          exact ⟨rfl, rfl⟩
    · have e : k = s.size := by omega
      subst e
      have ht : L.take s.size = L := by rw [← hL, List.take_length]
      rw [ht] at hall ⊢
      have HA := Hid.mk' hall
      have hv' := valF_small L (by omega) hall
      clear hall
      by_cases hq : valF 0 L ≤ 255
      · have Z := Hid.mk' (show numOf L = some (valF 0 L) by rw [HN.out, if_pos ⟨HA.out, hq⟩])
        generalize valF 0 L = v at *
        go_wp2
        go_ret
        rw [Z.out]
        exact ⟨rfl, rfl⟩
      · have Z := Hid.mk' (show numOf L = none by rw [HN.out, if_neg (fun h => hq h.2)])
        generalize valF 0 L = v at *
        go_wp2
        go_ret
        rw [Z.out]
        exact ⟨rfl, rfl⟩

theorem l2Number_any (s : ByteArray) (w : World) (hb : s.size ≤ 1048576) :
    Calls Tryz.prog 178 #[.string s] w fun e w' => e = .returned (.int .i64 (optI (numOf s.data.toList))) ∧ w' = w := l2Number_core s _ rfl w hb
end Go.Proofs.YthcajggbcanmdaaGreatDoor

namespace Go.Proofs.YthcajggbcanmdaaGreatDoor
open Go.RowKit

def namedOf (w : List UInt8) : Option Nat := if w = [108, 116] then some 60 else if w = [103, 116] then some 62 else if w = [97, 109, 112] then some 38 else if w = [113, 117, 111, 116] then some 34 else if 1 < w.length ∧ (w.getD 0 0).toNat = 35 then numOf (w.drop 1) else none
def semi : List UInt8 → Nat → Option Nat
  | _, 0 => none
  | [], _ + 1 => none
  | c :: r, n + 1 => if c.toNat = 59 then some 0 else (semi r n).map (· + 1)
def refOf : List UInt8 → Nat × Nat
  | [] => (0, 0)
  | c :: R => if c.toNat = 38 then (match semi R 5 with
      | some m => (match namedOf (R.take m) with
        | some b => (b, m + 2)
        | none => (0, 0))
      | none => (0, 0)) else (0, 0)

theorem semi_some : ∀ (R : List UInt8) (n m : Nat), m < n → m < R.length → (∀ j, j < m → ¬ (R.getD j 0).toNat = 59) → (R.getD m 0).toNat = 59 → semi R n = some m
  | _, 0, _, h, _, _, _ => absurd h (Nat.not_lt_zero _)
  | [], _ + 1, _, _, h, _, _ => absurd h (Nat.not_lt_zero _)
  | c :: r, n + 1, 0, _, _, _, h => by
    have h : c.toNat = 59 := h
    simp only [semi, h, if_true]
  | c :: r, n + 1, m + 1, h1, h2, hj, h => by
    have h0 : ¬ c.toNat = 59 := hj 0 (Nat.succ_pos _)
    have ih := semi_some r n m (Nat.lt_of_succ_lt_succ h1) (Nat.lt_of_succ_lt_succ h2) (fun j hjm => hj (j + 1) (Nat.succ_lt_succ hjm)) h
    simp only [semi, if_neg h0, ih, Option.map_some]
theorem semi_none : ∀ (R : List UInt8) (n : Nat), (∀ j, j < n → j < R.length → ¬ (R.getD j 0).toNat = 59) → semi R n = none
  | [], 0, _ => rfl
  | _ :: _, 0, _ => rfl
  | [], _ + 1, _ => rfl
  | c :: r, n + 1, hj => by
    have h0 : ¬ c.toNat = 59 := hj 0 (Nat.succ_pos _) (Nat.succ_pos _)
    have ih := semi_none r n (fun j h1 h2 => hj (j + 1) (Nat.succ_lt_succ h1) (Nat.succ_lt_succ h2))
    simp only [semi, if_neg h0, ih, Option.map_none]
theorem drop_cons (L : List UInt8) (k : Nat) (h : k < L.length) : L.drop k = L.getD k 0 :: L.drop (k + 1) := by
  rw [List.drop_eq_getElem_cons h, List.getD_eq_getElem?_getD, List.getElem?_eq_getElem h]; rfl
theorem getD_drop (L : List UInt8) (k j : Nat) : (L.drop k).getD j 0 = L.getD (k + j) 0 := by
  rw [List.getD_eq_getElem?_getD, List.getD_eq_getElem?_getD, List.getElem?_drop]
theorem ext_list (s : ByteArray) (a b : Nat) : (s.extract a b).data.toList = (s.data.toList.drop a).take (b - a) := by
  rw [ByteArray.data_extract]
  simp
theorem beq_list (s : ByteArray) (l : List UInt8) : (s.toList == l) = decide (s.data.toList = l) := by
  rw [ByteArray.toList_eq]
  by_cases h : s.data.toList = l <;> simp [h]

set_option maxRecDepth 100000 in
set_option maxHeartbeats 800000 in
theorem l2Named_any (s : ByteArray) (w : World) (hb : s.size ≤ 1048576) :
    Calls Tryz.prog 150 #[.string s] w fun e w' => e = .returned (.int .i64 (optI (namedOf s.data.toList))) ∧ w' = w := by
  have hL := len_list s
  have e1 := beq_list s [108, 116]
  have e2 := beq_list s [103, 116]
  have e3 := beq_list s [97, 109, 112]
  have e4 := beq_list s [113, 117, 111, 116]
  unfold namedOf
  by_cases d1 : s.data.toList = [108, 116]
  · rw [if_pos d1]
    rw [decide_eq_true d1] at e1
    clear d1 e2 e3 e4
    go_enter Tryz.func150, Tryz.ntmps150
    go_wp2_with fail
    go_ret
    exact ⟨rfl, rfl⟩
  rw [if_neg d1]
  rw [decide_eq_false d1] at e1
  by_cases d2 : s.data.toList = [103, 116]
  · rw [if_pos d2]
    rw [decide_eq_true d2] at e2
    clear d1 d2 e3 e4
    go_enter Tryz.func150, Tryz.ntmps150
    go_wp2_with fail
    go_ret
    exact ⟨rfl, rfl⟩
  rw [if_neg d2]
  rw [decide_eq_false d2] at e2
  by_cases d3 : s.data.toList = [97, 109, 112]
  · rw [if_pos d3]
    rw [decide_eq_true d3] at e3
    clear d1 d2 d3 e4
    go_enter Tryz.func150, Tryz.ntmps150
    go_wp2_with fail
    go_ret
    exact ⟨rfl, rfl⟩
  rw [if_neg d3]
  rw [decide_eq_false d3] at e3
  by_cases d4 : s.data.toList = [113, 117, 111, 116]
  · rw [if_pos d4]
    rw [decide_eq_true d4] at e4
    clear d1 d2 d3 d4
    go_enter Tryz.func150, Tryz.ntmps150
    go_wp2_with fail
    go_ret
    exact ⟨rfl, rfl⟩
  rw [if_neg d4]
  rw [decide_eq_false d4] at e4
  clear d1 d2 d3 d4
  by_cases d5 : 1 < s.size
  · have hg := get_list (s := s) rfl 0 (by omega)
    by_cases d6 : (s[0]'(by omega)).toNat = 35
    · rw [if_pos ⟨by omega, by rw [← hg]; exact d6⟩]
      have F := l2Number_any (s.extract 1 s.size) w (by rw [ByteArray.size_extract]; omega)
      rw [ext_list, List.take_of_length_le (by rw [List.length_drop]; omega)] at F
      have FF := Hid.mk' F
      have i5 : 1 < (s.size : Int) := by omega
      have i6 : (((s[0]'(by omega)).toNat : Int) == 35) = true := by rw [beq_iff_eq]; omega
      clear F hg d6
      go_enter Tryz.func150, Tryz.ntmps150
      go_wp2_with fail
      refine FF.out.mono ?_
      rintro e w1 ⟨rfl, rfl⟩
      go_wp2
      go_ret
      rw [List.drop_one]
      exact ⟨rfl, rfl⟩
    · rw [if_neg (by rw [← hg]; exact fun h => d6 h.2)]
      have i5 : 1 < (s.size : Int) := by omega
      have i6 : (((s[0]'(by omega)).toNat : Int) == 35) = false := by rw [beq_eq_false_iff_ne]; omega
      clear hg d6
      go_enter Tryz.func150, Tryz.ntmps150
      go_wp2_with fail
      go_ret
      exact ⟨rfl, rfl⟩
  · rw [if_neg (by omega)]
    have i5 : ¬ 1 < (s.size : Int) := by omega
    go_enter Tryz.func150, Tryz.ntmps150
    go_wp2_with fail
    go_ret
    exact ⟨rfl, rfl⟩

theorem refOf_not (L : List UInt8) (k : Nat) (h : k < L.length) (hc : ¬ (L.getD k 0).toNat = 38) : refOf (L.drop k) = (0, 0) := by
  rw [drop_cons L k h, refOf, if_neg hc]
theorem refOf_none (L : List UInt8) (k : Nat) (h : k < L.length) (hn : ∀ j, j < 5 → k + 1 + j < L.length → ¬ (L.getD (k + 1 + j) 0).toNat = 59) : refOf (L.drop k) = (0, 0) := by
  rw [drop_cons L k h, refOf]
  rw [semi_none _ 5 (fun j h1 h2 => by rw [List.length_drop] at h2; rw [getD_drop]; exact hn j h1 (by omega))]
  split <;> rfl
theorem refOf_some (L : List UInt8) (k m : Nat) (h : k + 1 + m < L.length) (hm : m < 5) (hc : (L.getD k 0).toNat = 38) (hj : ∀ j, j < m → ¬ (L.getD (k + 1 + j) 0).toNat = 59) (he : (L.getD (k + 1 + m) 0).toNat = 59) :
    refOf (L.drop k) = (match namedOf ((L.drop (k + 1)).take m) with
        | some b => (b, m + 2)
        | none => (0, 0)) := by
  rw [drop_cons L k (by omega), refOf, if_pos hc]
  rw [semi_some _ 5 m hm (by rw [List.length_drop]; omega) (fun j h1 => by rw [getD_drop]; exact hj j h1) (by rw [getD_drop]; exact he)]

set_option maxRecDepth 100000 in
set_option maxHeartbeats 1600000 in
theorem l2At_core (s : ByteArray) (L : List UInt8) (e : s.data.toList = L) (k : Nat) (w : World) (hb : s.size ≤ 1048576) (hk : k < s.size) :
    Calls Tryz.prog 115 #[.string s, .int .i64 k] w fun e w' => e = .returned (.tuple #[.int .i64 (refOf (L.drop k)).1, .int .i64 (refOf (L.drop k)).2]) ∧ w' = w := by
  have hL : L.length = s.size := by rw [← e]; exact len_list s
  have hg := get_list e
  have h0 := hg k hk
  have EE := Hid.mk' e
  clear e
  by_cases hc : (s[k]'hk).toNat = 38
  · have HC := Hid.mk' (show (L.getD k 0).toNat = 38 by rw [← h0]; exact hc)
    have HG := Hid.mk' hg
    have i3 : (((s[k]'hk).toNat : Int) != 38) = false := by rw [bne_eq_false_iff_eq]; omega
    clear hg h0 hc
    go_enter Tryz.func115, Tryz.ntmps115
    go_wp2
    clear i3
    go_loopw [6] (fun i wr => ∃ m : Nat, m ≤ 5 ∧ k + 1 + m ≤ s.size ∧ i = .int .i64 (k + 1 + m : Nat) ∧ (∀ j, j < m → ¬ (L.getD (k + 1 + j) 0).toNat = 59) ∧ wr = w) (fun i _ => k + 6 - (intOf i).toNat)
    case atStart => exact ⟨0, by decide, by omega, by simp, fun j h => absurd h (Nat.not_lt_zero _), rfl⟩
    case round =>
      obtain ⟨m, hm, hms, rfl, hn, rfl⟩ := hrel
      have HN := Hid.mk' hn
      clear hn
      by_cases hlt : k + 1 + m < s.size
      · by_cases hm5 : m < 5
        · have e1 := HG.out (k + 1 + m) hlt
          by_cases hs : (s[k + 1 + m]'hlt).toNat = 59
          · have Z := Hid.mk' (refOf_some L k m (by omega) hm5 HC.out HN.out (by rw [← e1]; exact hs))
            have F := l2Named_any (s.extract (k + 1) (k + 1 + m)) wr (by rw [ByteArray.size_extract]; omega)
            rw [ext_list, EE.out, show k + 1 + m - (k + 1) = m from by omega] at F
            have FF := Hid.mk' F
            have i3 : (((s[k + 1 + m]'hlt).toNat : Int) == 59) = true := by rw [beq_iff_eq]; omega
            have i4 : ((k + 1 + m : Nat) : Int) ≤ (k : Int) + 5 := by omega
            have i5 : ((k + 1 + m : Nat) : Int) + 1 - k = (m + 2 : Nat) := by omega
            have i6 : ((k + 1 + m : Nat) : Int) < s.size := by omega
            have i7 : k + 1 ≤ k + 1 + m := by omega
            clear F e1 hs
            generalize k + 1 + m = i at *
            go_wp2_with fail
            refine FF.out.mono ?_
            rintro e w1 ⟨rfl, rfl⟩
            clear FF
            cases hq : namedOf ((L.drop (k + 1)).take m) with
            | some b =>
              rw [hq] at Z
              have i8 : ¬ (optI (some b) < 0) := by show ¬ ((b : Int) < 0); omega
              go_wp2
              go_ret2
              rw [Z.out]
              exact ⟨rfl, rfl⟩
            | none =>
              rw [hq] at Z
              have i8 : optI none < 0 := by decide
              go_wp2
              go_ret2
              rw [Z.out]
              exact ⟨rfl, rfl⟩
          · have i3 : (((s[k + 1 + m]'hlt).toNat : Int) == 59) = false := by rw [beq_eq_false_iff_ne]; omega
            have i4 : ((k + 1 + m : Nat) : Int) ≤ (k : Int) + 5 := by omega
            have i6 : ((k + 1 + m : Nat) : Int) < s.size := by omega
            have N1 := Hid.mk' (show ∀ j, j < m + 1 → ¬ (L.getD (k + 1 + j) 0).toNat = 59 from fun j hj => by
              by_cases ej : j = m
              · subst ej; rw [← e1]; exact hs
              · exact HN.out j (by omega))
            have i9 : (k + 1 + m : Nat) + 1 = k + 1 + (m + 1) := by omega
            clear e1 hs
            go_wp2
            go_roundw
            case rel =>
              exact ⟨m + 1, hm5, by omega, by rw [← i9]; go_num, N1.out, trivial⟩
            case measure => simp [intOf]; omega
        · have e5 : m = 5 := by omega
          subst e5
          have Z := Hid.mk' (refOf_none L k (by omega) (fun j h1 _ => HN.out j h1))
          have i4 : ¬ ((k + 1 + 5 : Nat) : Int) ≤ (k : Int) + 5 := by omega
          have i6 : ((k + 1 + 5 : Nat) : Int) < s.size := by omega
          go_wp2
          go_ret2
          rw [Z.out]
          exact ⟨rfl, rfl⟩
      · have Z := Hid.mk' (refOf_none L k (by omega) (fun j h1 h2 => HN.out j (by omega)))
        have i6 : ¬ ((k + 1 + m : Nat) : Int) < s.size := by omega
        go_wp2
        go_ret2
        rw [Z.out]
        exact ⟨rfl, rfl⟩
  · have Z := Hid.mk' (refOf_not L k (by omega) (by rw [← h0]; exact hc))
    have i3 : (((s[k]'hk).toNat : Int) != 38) = true := by rw [bne_iff_ne]; omega
    clear hg h0 hc
    go_enter Tryz.func115, Tryz.ntmps115
    go_wp2
    go_ret2
    rw [Z.out]
    exact ⟨rfl, rfl⟩
end Go.Proofs.YthcajggbcanmdaaGreatDoor
