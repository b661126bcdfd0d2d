/- Walks: pieces copied; bytes and pieces compared. -/
import Derived.Test.YtdloogkjnjklcaaGreatDoorE2
import Derived.BigQuiet
import Derived.Deep.QuietTactic
import Derived.Deep.RegionHeld3
import Derived.WalkSmall
import Derived.Test.YtdloogkjnjklcaaGreatDoorE1
set_option linter.unusedVariables false
set_option linter.unusedSimpArgs false
namespace Go.Proofs.YtdloogkjnjklcaaGreatDoor
open Go.RowKit

set_option maxHeartbeats 400000 in
theorem eqByteS_any (a b : Option Addr) (c d : Nat) (l : List Int) (w : World) (ha : BAt w a l) (hb : BAt w b l) (hl : (l.length : Int) ≤ 1048576) :
    Calls Tryz.prog 11 #[.slice a l.length c, .slice b l.length d] w fun e w' => e = .returned (.bool true) ∧ Below w.heap.size w w' := by
  go_enter Tryz.func11, Tryz.ntmps11
  go_wp2
  go_loopw [5] (fun i wr => ∃ k : Nat, k ≤ l.length ∧ i = .int .i64 k ∧ Below w.heap.size w wr) (fun i _ => l.length - (intOf i).toNat)
  case atStart => exact ⟨0, Nat.zero_le _, rfl, Below.refl _ _⟩
  case round =>
    obtain ⟨k, hk, rfl, hbl⟩ := hrel
    by_cases hlt : k < l.length
    · rcases ha with ha | ⟨b1, o1, rfl, hbs1, hc1⟩
      · exact absurd hlt (by rw [ha]; exact Nat.not_lt_zero _)
      rcases hb with hb | ⟨b2, o2, rfl, hbs2, hc2⟩
      · exact absurd hlt (by rw [hb]; exact Nat.not_lt_zero _)
      obtain ⟨x, hx⟩ : ∃ x, bv l k = .int .u8 x := ⟨_, rfl⟩
      have h1 : wr.cell? ⟨b1, o1 + k, none⟩ = some (.int .u8 x) := hx ▸ (hbl.cell hbs1).trans (hc1 k hlt)
      have h2 : wr.cell? ⟨b2, o2 + k, none⟩ = some (.int .u8 x) := hx ▸ (hbl.cell hbs2).trans (hc2 k hlt)
      have R2 := Hid.mk' hbl
      clear hbl hc1 hc2 hx
      go_wp2
      go_quiet (fail)
      go_wp2
      go_roundw
      case rel => exact ⟨k + 1, by omega, by go_num, below_drewN R2.out _⟩
      case measure => simp [intOf]; omega
    · go_wp2
      go_ret
      exact ⟨rfl, hbl⟩

theorem bcell {W w1 : World} (hb : Below W.heap.size W w1) : (∀ b o, b < W.heap.size → w1.cell? ⟨b, o, none⟩ = W.cell? ⟨b, o, none⟩) ∧ (∀ b o, b < W.heap.size → w1.frozen? ⟨b, o, none⟩ = W.frozen? ⟨b, o, none⟩) :=
  ⟨fun b o h => hb.cell (p := ⟨b, o, none⟩) h, fun b o h => hb.frozen (p := ⟨b, o, none⟩) h⟩

theorem undrew {W w1 : World} (h : Below W.drew.heap.size W.drew w1) : Below W.heap.size W w1 := ⟨h.os, h.tape, h.output, h.size, h.block⟩

end Go.Proofs.YtdloogkjnjklcaaGreatDoor

namespace Go.Proofs.YtdloogkjnjklcaaGreatDoor
open Go.RowKit

end Go.Proofs.YtdloogkjnjklcaaGreatDoor

namespace Go.Proofs.YtdloogkjnjklcaaGreatDoor
open Go.RowKit

structure KeptIn (lo hi : Nat) (w w' : World) : Prop where
  os : w'.os = w.os
  tape : w'.tape = w.tape
  output : w'.output = w.output
  size : w.heap.size ≤ w'.heap.size
  block : ∀ k, k < w.heap.size → (k < lo ∨ hi ≤ k) → w'.heap[k]? = w.heap[k]?

theorem KeptIn.refl (lo hi : Nat) (w : World) : KeptIn lo hi w w := ⟨rfl, rfl, rfl, Nat.le_refl _, fun _ _ _ => rfl⟩

theorem KeptIn.trans {lo hi : Nat} {a b c : World} (h : KeptIn lo hi a b) (k : KeptIn lo hi b c) : KeptIn lo hi a c :=
  ⟨k.os.trans h.os, k.tape.trans h.tape, k.output.trans h.output, Nat.le_trans h.size k.size, fun i hi' hc => (k.block i (Nat.lt_of_lt_of_le hi' h.size) hc).trans (h.block i hi' hc)⟩

theorem KeptIn.of_below {lo hi : Nat} {a b : World} (h : Below a.heap.size a b) : KeptIn lo hi a b := ⟨h.os, h.tape, h.output, h.size, fun i hi _ => h.block i hi⟩

theorem KeptIn.below {lo hi B : Nat} {a b : World} (h : KeptIn lo hi a b) (h1 : B ≤ lo) (h2 : B ≤ a.heap.size) : Below B a b := ⟨h.os, h.tape, h.output, h.size, fun k hk => h.block k (by omega) (by omega)⟩

theorem KeptIn.setCell {lo hi : Nat} {a w : World} (h : KeptIn lo hi a w) {p : Addr} (hp : lo ≤ p.block) (hp' : p.block < hi) (u : Value) : KeptIn lo hi a (w.setCell p u) :=
  h.trans ⟨rfl, rfl, rfl, by simp [World.setCell], fun k hk hc => Below.heap_setCell _ _ _ _ (by omega)⟩

def OB (w : World) (v : Value) (l : List Int) : Prop := (v = .slice none 0 0 ∧ l = []) ∨
  ∃ g cap cn f, v = .slice (some ⟨g, 0, none⟩) l.length cap ∧ l.length ≤ cap ∧ w.rowIs g 5 cn f ∧ l.length ≤ cn ∧ ∀ i, i < l.length → f i = bv l i

def In (lo hi : Nat) (v : Value) : Prop := ∀ k, v.ownBlock = some k → lo ≤ k ∧ k < hi

def Ap (u v : Value) : Prop := ∀ k, u.ownBlock = some k → v.ownBlock = some k → False

theorem In.mono {lo hi lo' hi' : Nat} {v : Value} (h : In lo hi v) (h1 : lo' ≤ lo) (h2 : hi ≤ hi') : In lo' hi' v := fun k hk => by have := h k hk; omega
theorem In.nil (lo hi : Nat) : In lo hi (.slice none 0 0) := fun k hk => by simp [Value.ownBlock] at hk

theorem OB.keep {w w' : World} {v : Value} {l : List Int} (h : OB w v l) (hk : ∀ k, v.ownBlock = some k → k < w.heap.size → w'.heap[k]? = w.heap[k]?) : OB w' v l := by
  rcases h with h | ⟨g, cap, cn, f, rfl, hca, hr, hl, hf⟩
  · exact .inl h
  · exact .inr ⟨g, cap, cn, f, rfl, hca, hr.of_block (hk g rfl hr.lt), hl, hf⟩

theorem OB.len {w : World} {v : Value} {l : List Int} (h : OB w v l) : ∃ a c, v = .slice a l.length c ∧ BAt w a l := by
  rcases h with ⟨rfl, rfl⟩ | ⟨g, cap, cn, f, rfl, hca, hr, hl, hf⟩
  · exact ⟨none, 0, rfl, .inl rfl⟩
  · exact ⟨_, _, rfl, .inr ⟨g, 0, rfl, hr.lt, fun k hk => by rw [Nat.zero_add, hr.cell (by omega), hf k hk]⟩⟩

theorem OB.lt {w : World} {v : Value} {l : List Int} (h : OB w v l) : ∀ k, v.ownBlock = some k → k < w.heap.size := by
  rcases h with ⟨rfl, rfl⟩ | ⟨g, cap, cn, f, rfl, hca, hr, hl, hf⟩
  · intro k hk; simp [Value.ownBlock] at hk
  · intro k hk; simp [Value.ownBlock] at hk; subst hk; exact hr.lt

def mb (k n : Nat) : List Int := (List.range n).map fun (i : Nat) => ((k : Int) + (i : Int)) % 256

theorem mb_len (k n : Nat) : (mb k n).length = n := by simp [mb]
theorem bv_mb (k n i : Nat) (h : i < n) : bv (mb k n) i = .int .u8 (((k : Int) + (i : Int)) % 256) := by simp [bv, mb, h]

def mpart (f : Nat → Value) (k i j : Nat) : Value := if j < i then .int .u8 (((k : Int) + (j : Int)) % 256) else f j

theorem mpart_step {w : World} {g cn k i : Nat} {f : Nat → Value} (h : w.rowIs g 5 cn (mpart f k i)) : (w.setCell ⟨g, i, none⟩ (.int .u8 (((k : Int) + (i : Int)) % 256))).rowIs g 5 cn (mpart f k (i + 1)) :=
  (h.set i _).congr (fun j _ => by
    by_cases e : j = i
    · subst e; rw [if_pos rfl]; unfold mpart; rw [if_pos (by omega)]
    · rw [if_neg e]; unfold mpart
      by_cases hlt : j < i
      · rw [if_pos hlt, if_pos (by omega)]
      · rw [if_neg hlt, if_neg (by omega)])

theorem rowB {w w' : World} {g n : Nat} {t : TypeId} {f : Nat → Value} (h : w.rowIs g t n f) (hb : Below w.heap.size w w') : w'.rowIs g t n f := h.of_block (hb.block _ h.lt)
theorem rowK {w w' : World} {g n lo hi : Nat} {t : TypeId} {f : Nat → Value} (h : w.rowIs g t n f) (hk : KeptIn lo hi w w') (hg : g < lo ∨ hi ≤ g) : w'.rowIs g t n f := h.of_block (hk.block _ h.lt hg)
theorem below_new (w : World) (o : Obj) : Below w.heap.size w (w.alloc o) := (Below.refl _ _).alloc (Nat.le_refl _) o

structure Turned (v : Value) (w w' : World) : Prop where
  os : w'.os = w.os
  tape : w'.tape = w.tape
  output : w'.output = w.output
  size : w.heap.size ≤ w'.heap.size
  block : ∀ k, k < w.heap.size → v.ownBlock ≠ some k → w'.heap[k]? = w.heap[k]?

theorem Turned.refl (v : Value) (w : World) : Turned v w w := ⟨rfl, rfl, rfl, Nat.le_refl _, fun _ _ _ => rfl⟩

theorem Turned.of_kept {g n c : Nat} {w w' : World} (h : KeptIn g (g + 1) w w') : Turned (.slice (some ⟨g, 0, none⟩) n c) w w' :=
  ⟨h.os, h.tape, h.output, h.size, fun k hk hne => h.block k hk (by have : g ≠ k := fun e => hne (by simp [Value.ownBlock, e]); omega)⟩

theorem Turned.kept {v : Value} {w w' : World} {lo hi : Nat} (h : Turned v w w') (hin : In lo hi v) : KeptIn lo hi w w' :=
  ⟨h.os, h.tape, h.output, h.size, fun k hk hc => h.block k hk (fun e => by have := hin k e; omega)⟩

theorem OB.below {u : Value} {w w' : World} {l : List Int} (h : OB w u l) (hb : Below w.heap.size w w') : OB w' u l := h.keep fun k e hl => hb.block k hl

theorem OB.kept {u : Value} {w w' : World} {l : List Int} {lo hi a b : Nat} (h : OB w u l) (hin : In lo hi u) (hk : KeptIn a b w w') (hd : hi ≤ a ∨ b ≤ lo) : OB w' u l := h.keep fun k e hl => hk.block k hl (by have := hin k e; omega)

theorem World.heap_size_setCell' (w : World) (a : Addr) (v : Value) : (w.setCell a v).heap.size = w.heap.size := by simp [World.setCell]
theorem World.heap_size_alloc' (w : World) (o : Obj) : (w.alloc o).heap.size = w.heap.size + 1 := by simp

theorem OB.none (w : World) : OB w (.slice none 0 0) [] := .inl ⟨rfl, rfl⟩

end Go.Proofs.YtdloogkjnjklcaaGreatDoor

namespace Go.Proofs.YtdloogkjnjklcaaGreatDoor
open Go.RowKit

structure AT where
  nm : ByteArray
  vl : List Int

def atK (l : List AT) (k : Nat) : AT := l.getD k ⟨⟨#[]⟩, []⟩

def AAt (w : World) (a : Option Addr) (l : List AT) : Prop :=
  l = [] ∨ ∃ b o, a = some ⟨b, o, none⟩ ∧ b < w.heap.size ∧ ∀ k, k < l.length → w.cell? ⟨b, o + k * 2, none⟩ = some (.string (atK l k).nm) ∧ ∃ p c, w.cell? ⟨b, o + k * 2 + 1, none⟩ = some (.slice p (atK l k).vl.length c) ∧ BAt w p (atK l k).vl

theorem AAt.below {w w' : World} {a : Option Addr} {l : List AT} (h : AAt w a l) (hb : Below w.heap.size w w') : AAt w' a l := by
  rcases h with h | ⟨b, o, e, hs, hc⟩
  · exact .inl h
  · refine .inr ⟨b, o, e, Nat.lt_of_lt_of_le hs hb.size, fun k hk => ?_⟩
    obtain ⟨h1, p, c, h2, h3⟩ := hc k hk
    exact ⟨(hb.cell hs).trans h1, p, c, (hb.cell hs).trans h2, h3.below hb⟩

def asz : List AT → Nat
  | [] => 0
  | x :: r => x.nm.size + x.vl.length + asz r

theorem asz_take (l : List AT) : ∀ k, k < l.length → asz (l.take (k + 1)) = asz (l.take k) + ((atK l k).nm.size + (atK l k).vl.length) := by
  induction l with
  | nil => intro k h; exact absurd h (Nat.not_lt_zero _)
  | cons x r ih =>
    intro k hk
    cases k with
    | zero => simp [asz, atK]
    | succ k =>
      have := ih k (by simpa using hk)
      simp only [List.take_succ_cons, asz]
      rw [this]
      have e : atK (x :: r) (k + 1) = atK r k := by simp [atK]
      rw [e]; omega

theorem asz_le (l : List AT) (k : Nat) : asz (l.take k) ≤ asz l := by
  induction l generalizing k with
  | nil => simp [asz]
  | cons x r ih =>
    cases k with
    | zero => simp [asz]
    | succ k => simp only [List.take_succ_cons, asz]; have := ih k; omega

structure TK where
  kd : Int
  by_ : Int
  nm : ByteArray
  at_ : List AT
  sh : Bool

end Go.Proofs.YtdloogkjnjklcaaGreatDoor

namespace Go.Proofs.YtdloogkjnjklcaaGreatDoor
open Go.RowKit

theorem Tryz.info134 : (Tryz.prog.info? 134).map (fun i => (i.zero, i.size, i.bytes)) = some (some (.agg #[.string ⟨#[]⟩, .slice none 0 0]), 2, 40) := by kernel_rfl

def p2 (x y : Value) (i : Nat) : Value := if i = 0 then x else y

theorem rowp2 (w : World) (t : TypeId) (x y : Value) : (w.alloc (.cells #[x, y] t)).rowIs w.heap.size t 2 (p2 x y) :=
  ⟨_, Deep.blk_alloc_new _ _, rfl, fun i hi => by
    have : i = 0 ∨ i = 1 := by omega
    rcases this with rfl | rfl <;> rfl⟩

theorem cells2 {w : World} {g : Nat} {ty : TypeId} {x y : Value} (h : w.rowIs g ty 2 (p2 x y)) : w.cell? ⟨g, 0, none⟩ = some x ∧ w.cell? ⟨g, 1, none⟩ = some y ∧ g < w.heap.size :=
  ⟨h.cell (by omega), h.cell (by omega), h.lt⟩

end Go.Proofs.YtdloogkjnjklcaaGreatDoor

namespace Go.Proofs.YtdloogkjnjklcaaGreatDoor
open Go.RowKit

def r5 (x y z u v : Value) (i : Nat) : Value := if i = 0 then x else if i = 1 then y else if i = 2 then z else if i = 3 then u else v

theorem row5 (w : World) (t : TypeId) (x y z u v : Value) : (w.alloc (.cells #[x, y, z, u, v] t)).rowIs w.heap.size t 5 (r5 x y z u v) :=
  ⟨_, Deep.blk_alloc_new _ _, rfl, fun i hi => by
    have : i = 0 ∨ i = 1 ∨ i = 2 ∨ i = 3 ∨ i = 4 := by omega
    rcases this with rfl | rfl | rfl | rfl | rfl <;> rfl⟩

theorem cells5 {w : World} {g : Nat} {ty : TypeId} {x y z u v : Value} (h : w.rowIs g ty 5 (r5 x y z u v)) : w.cell? ⟨g, 0, none⟩ = some x ∧ w.cell? ⟨g, 1, none⟩ = some y ∧ w.cell? ⟨g, 2, none⟩ = some z ∧ w.cell? ⟨g, 3, none⟩ = some u ∧ w.cell? ⟨g, 4, none⟩ = some v ∧ g < w.heap.size :=
  ⟨h.cell (by omega), h.cell (by omega), h.cell (by omega), h.cell (by omega), h.cell (by omega), h.lt⟩

set_option maxHeartbeats 400000 in
theorem eqAttr_any (s : ByteArray) (a b : Option Addr) (c d : Nat) (l : List Int) (w : World) (ha : BAt w a l) (hb : BAt w b l) (hl : (l.length : Int) ≤ 1048576) :
    Calls Tryz.prog 110 #[.agg #[.string s, .slice a l.length c], .agg #[.string s, .slice b l.length d]] w fun e w' => e = .returned (.bool true) ∧ Below w.heap.size w w' := by
  have B0 := ((Below.refl w.heap.size w).alloc (Nat.le_refl _) (.cells #[.string s, .slice a l.length c] 134)).alloc (by simp) (.cells #[.string s, .slice b l.length d] 134)
  have KB := Hid.mk' (eqByteS_any a b c d l _ (ha.below B0) (hb.below B0) hl)
  have HB := Hid.mk' B0
  clear ha hb B0
  go_enter Tryz.func110, Tryz.ntmps110
  go_wp2_with fail
  refine KB.out.mono ?_
  rintro e w1 ⟨rfl, hb⟩
  have HB := Hid.mk' (HB.out.trans (hb.mono HB.out.size))
  clear hb KB
  go_wp2
  go_ret
  exact ⟨rfl, HB.out⟩

end Go.Proofs.YtdloogkjnjklcaaGreatDoor

namespace Go.Proofs.YtdloogkjnjklcaaGreatDoor
open Go.RowKit

set_option maxHeartbeats 1600000 in
theorem eqAttrS_any (a b : Option Addr) (c d : Nat) (l : List AT) (w : World) (ha : AAt w a l) (hb : AAt w b l) (hl : (l.length : Int) + asz l ≤ 1048576) :
    Calls Tryz.prog 90 #[.slice a l.length c, .slice b l.length d] w fun e w' => e = .returned (.bool true) ∧ Below w.heap.size w w' := by
  have HA := Hid.mk' ha
  have HB := Hid.mk' hb
  clear ha hb
  go_enter Tryz.func90, Tryz.ntmps90
  go_wp2
  go_loopw [5] (fun i wr => ∃ k : Nat, k ≤ l.length ∧ i = .int .i64 k ∧ Below w.heap.size w wr) (fun i _ => l.length - (intOf i).toNat)
  case atStart => exact ⟨0, Nat.zero_le _, rfl, Below.refl _ _⟩
  case round =>
    obtain ⟨k, hk, rfl, hbl⟩ := hrel
    have R2 := Hid.mk' hbl
    by_cases hlt : k < l.length
    · have ci : (k : Int) < (l.length : Int) := by omega
      rcases HA.out.below hbl with ha | ⟨b1, o1, rfl, s1, hc1⟩
      · exact absurd hlt (by rw [ha]; exact Nat.not_lt_zero _)
      rcases HB.out.below hbl with hb | ⟨b2, o2, rfl, s2, hc2⟩
      · exact absurd hlt (by rw [hb]; exact Nat.not_lt_zero _)
      obtain ⟨h1, p1, d1, h2, h3⟩ := hc1 k hlt
      obtain ⟨h4, p2_, d2, h5, h6⟩ := hc2 k hlt
      have st := asz_take l k hlt
      have sl := asz_le l (k + 1)
      have KE : Hid (Calls Tryz.prog 110 #[.agg #[.string (atK l k).nm, .slice p1 (atK l k).vl.length d1], .agg #[.string (atK l k).nm, .slice p2_ (atK l k).vl.length d2]] wr.drew fun e w' => e = .returned (.bool true) ∧ Below wr.drew.heap.size wr.drew w') := eqAttr_any _ _ _ _ _ _ _ (h3.below (Below.refl _ _).drew) (h6.below (Below.refl _ _).drew) (by omega)
      clear hbl hc1 hc2 h3 h6 st sl
      go_wp2
      go_region_held3 (fun w' => w'.cell? ⟨b1, o1 + k * 2, none⟩ = some (.string (atK l k).nm) ∧ w'.cell? ⟨b1, o1 + k * 2 + 1, none⟩ = some (.slice p1 (atK l k).vl.length d1) ∧ w'.cell? ⟨b2, o2 + k * 2, none⟩ = some (.string (atK l k).nm) ∧ w'.cell? ⟨b2, o2 + k * 2 + 1, none⟩ = some (.slice p2_ (atK l k).vl.length d2)) (simp [*])
        ((go_at_call 110; refine KE.out.mono ?_; rintro e w1 ⟨rfl, hb1⟩; replace hb1 := undrew hb1; obtain ⟨hx1, hx2⟩ := bcell hb1))
      go_wp2
      go_roundw
      case rel => exact ⟨k + 1, by omega, by go_num, R2.out.trans (hb1.mono R2.out.size)⟩
      case measure => simp [intOf]; omega
    · have ci : ¬ (k : Int) < (l.length : Int) := by omega
      go_wp2
      go_ret
      exact ⟨rfl, R2.out⟩

set_option maxHeartbeats 1600000 in
theorem eqToken_any (t : TK) (a b : Option Addr) (c d : Nat) (w : World) (ha : AAt w a t.at_) (hb : AAt w b t.at_) (hl : (t.at_.length : Int) + asz t.at_ ≤ 1048576) :
    Calls Tryz.prog 70 #[.agg #[.int .i64 t.kd, .int .i64 t.by_, .string t.nm, .slice a t.at_.length c, .bool t.sh], .agg #[.int .i64 t.kd, .int .i64 t.by_, .string t.nm, .slice b t.at_.length d, .bool t.sh]] w fun e w' => e = .returned (.bool true) ∧ Below w.heap.size w w' := by
  have B0 := ((Below.refl w.heap.size w).alloc (Nat.le_refl _) (.cells #[.int .i64 t.kd, .int .i64 t.by_, .string t.nm, .slice a t.at_.length c, .bool t.sh] 101)).alloc (by simp) (.cells #[.int .i64 t.kd, .int .i64 t.by_, .string t.nm, .slice b t.at_.length d, .bool t.sh] 101)
  have R1 := (row5 w 101 (.int .i64 t.kd) (.int .i64 t.by_) (.string t.nm) (.slice a t.at_.length c) (.bool t.sh)).alloc (.cells #[.int .i64 t.kd, .int .i64 t.by_, .string t.nm, .slice b t.at_.length d, .bool t.sh] 101)
  have R2 := row5 (w.alloc (.cells #[.int .i64 t.kd, .int .i64 t.by_, .string t.nm, .slice a t.at_.length c, .bool t.sh] 101)) 101 (.int .i64 t.kd) (.int .i64 t.by_) (.string t.nm) (.slice b t.at_.length d) (.bool t.sh)
  have z1 : (w.alloc (.cells #[.int .i64 t.kd, .int .i64 t.by_, .string t.nm, .slice a t.at_.length c, .bool t.sh] 101)).heap.size = w.heap.size + 1 := by simp
  rw [z1] at R2
  have H1 := Hid.mk' R1
  have H2 := Hid.mk' R2
  have KB := Hid.mk' (eqAttrS_any a b c d t.at_ _ (ha.below B0) (hb.below B0) hl)
  have HB := Hid.mk' B0
  clear ha hb B0 R1 R2 z1
  generalize hW : (w.alloc (.cells #[.int .i64 t.kd, .int .i64 t.by_, .string t.nm, .slice a t.at_.length c, .bool t.sh] 101)).alloc (.cells #[.int .i64 t.kd, .int .i64 t.by_, .string t.nm, .slice b t.at_.length d, .bool t.sh] 101) = W at *
  obtain ⟨p0, p1, p2_, p3, p4, p5⟩ := cells5 H1.out
  obtain ⟨q0, q1, q2, q3, q4, q5⟩ := cells5 H2.out
  go_enter Tryz.func70, Tryz.ntmps70
  go_wp2_with fail
  clear hW p0 p1 p2_ p3 p4 p5 q0 q1 q2 q3 q4 q5
  refine KB.out.mono ?_
  rintro e w1 ⟨rfl, hb⟩
  obtain ⟨p0, p1, p2_, p3, p4, p5⟩ := cells5 (rowB H1.out hb)
  obtain ⟨q0, q1, q2, q3, q4, q5⟩ := cells5 (rowB H2.out hb)
  have HB := Hid.mk' (HB.out.trans (hb.mono HB.out.size))
  clear hb KB
  go_wp2
  go_ret
  exact ⟨rfl, HB.out⟩

end Go.Proofs.YtdloogkjnjklcaaGreatDoor
