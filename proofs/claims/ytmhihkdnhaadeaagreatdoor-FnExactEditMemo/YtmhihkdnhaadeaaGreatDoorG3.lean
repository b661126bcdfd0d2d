/- Walks: pieces copied; bytes and pieces compared. -/
import Derived.Test.YtmhihkdnhaadeaaGreatDoorG2
import Derived.BigQuiet
import Derived.Deep.QuietTactic
import Derived.Deep.RegionHeld3
import Derived.WalkSmall
import Derived.Test.YtmhihkdnhaadeaaGreatDoorG1
set_option maxHeartbeats 1600000
set_option linter.unusedVariables false
set_option linter.unusedSimpArgs false
namespace Go.Proofs.YtmhihkdnhaadeaaGreatDoor
open Go.RowKit
theorem eqByteS_any (a b : Option Addr) (c d : Nat) (l : List Int) (w : World) (ha : BAt w a l) (hb : BAt w b l) (hl : (l.length : Int) ≤ 1048576) :
  Calls Tryz.prog 12 #[.slice a l.length c, .slice b l.length d] w fun e w' => e = .returned (.bool true) ∧ Below w.heap.size w w' := by
 go_enter Tryz.func12, Tryz.ntmps12
 go_wp2
 go_loopw [5] (fun i wr => ∃ k : Nat, k ≤ l.length ∧ i = .int .i64 k ∧ Below w.heap.size w wr) (fun i _ => l.length - (intOf i).toNat)
 case atStart => exact ⟨0, Nat.zero_le _, rfl, Below.refl _ _⟩
 case round =>
  obtain ⟨k, hk, rfl, hbl⟩ := hrel
  by_cases hlt : k < l.length
  ·rcases ha with ha | ⟨b1, o1, rfl, hbs1, hc1⟩
   ·exact absurd hlt (by rw [ha]; exact Nat.not_lt_zero _)
   rcases hb with hb | ⟨b2, o2, rfl, hbs2, hc2⟩
   ·exact absurd hlt (by rw [hb]; exact Nat.not_lt_zero _)
   obtain ⟨x, hx⟩ : ∃ x, bv l k = .int .u8 x := ⟨_, rfl⟩
   have h1 : wr.cell? ⟨b1, o1 + k, none⟩ = some (.int .u8 x) := hx ▸ (hbl.cell hbs1).trans (hc1 k hlt)
   have h2 : wr.cell? ⟨b2, o2 + k, none⟩ = some (.int .u8 x) := hx ▸ (hbl.cell hbs2).trans (hc2 k hlt)
   have R2 := Hid.mk' hbl
   clear hbl hc1 hc2 hx
   go_wp2
   go_quiet (fail)
   go_wp2
   go_roundw
   case rel => exact ⟨k + 1, by omega, by go_num, below_drewN R2.out _⟩
   case measure => simp [intOf]; omega
  ·go_wp2
   go_ret
   exact ⟨rfl, hbl⟩
theorem bcell {W w1 : World} (hb : Below W.heap.size W w1) : (∀ b o, b < W.heap.size → w1.cell? ⟨b, o, none⟩ = W.cell? ⟨b, o, none⟩) ∧ (∀ b o, b < W.heap.size → w1.frozen? ⟨b, o, none⟩ = W.frozen? ⟨b, o, none⟩) :=
 ⟨fun b o h => hb.cell (p := ⟨b, o, none⟩) h, fun b o h => hb.frozen (p := ⟨b, o, none⟩) h⟩
theorem undrew {W w1 : World} (h : Below W.drew.heap.size W.drew w1) : Below W.heap.size W w1 := ⟨h.os, h.tape, h.output, h.size, h.block⟩
structure KeptIn (lo hi : Nat) (w w' : World) : Prop where
 os : w'.os = w.os
 tape : w'.tape = w.tape
 output : w'.output = w.output
 size : w.heap.size ≤ w'.heap.size
 block : ∀ k, k < w.heap.size → (k < lo ∨ hi ≤ k) → w'.heap[k]? = w.heap[k]?
theorem KeptIn.refl (lo hi : Nat) (w : World) : KeptIn lo hi w w := ⟨rfl, rfl, rfl, Nat.le_refl _, fun _ _ _ => rfl⟩
theorem KeptIn.trans {lo hi : Nat} {a b c : World} (h : KeptIn lo hi a b) (k : KeptIn lo hi b c) : KeptIn lo hi a c :=
 ⟨k.os.trans h.os, k.tape.trans h.tape, k.output.trans h.output, Nat.le_trans h.size k.size, fun i hi' hc => (k.block i (Nat.lt_of_lt_of_le hi' h.size) hc).trans (h.block i hi' hc)⟩
theorem KeptIn.mono {lo hi lo' hi' : Nat} {a b : World} (h : KeptIn lo hi a b) (h1 : lo' ≤ lo) (h2 : hi ≤ hi') : KeptIn lo' hi' a b :=
 ⟨h.os, h.tape, h.output, h.size, fun i hi hc => h.block i hi (by omega)⟩
theorem KeptIn.of_below {lo hi : Nat} {a b : World} (h : Below a.heap.size a b) : KeptIn lo hi a b := ⟨h.os, h.tape, h.output, h.size, fun i hi _ => h.block i hi⟩
theorem KeptIn.below {lo hi B : Nat} {a b : World} (h : KeptIn lo hi a b) (h1 : B ≤ lo) (h2 : B ≤ a.heap.size) : Below B a b := ⟨h.os, h.tape, h.output, h.size, fun k hk => h.block k (by omega) (by omega)⟩
theorem KeptIn.setCell {lo hi : Nat} {a w : World} (h : KeptIn lo hi a w) {p : Addr} (hp : lo ≤ p.block) (hp' : p.block < hi) (u : Value) : KeptIn lo hi a (w.setCell p u) :=
 h.trans ⟨rfl, rfl, rfl, by simp [World.setCell], fun k hk hc => Below.heap_setCell _ _ _ _ (by omega)⟩
def OB (w : World) (v : Value) (l : List Int) : Prop := (v = .slice none 0 0 ∧ l = []) ∨
 ∃ g cap cn f, v = .slice (some ⟨g, 0, none⟩) l.length cap ∧ l.length ≤ cap ∧ w.rowIs g 5 cn f ∧ l.length ≤ cn ∧ ∀ i, i < l.length → f i = bv l i
def In (lo hi : Nat) (v : Value) : Prop := ∀ k, v.ownBlock = some k → lo ≤ k ∧ k < hi
def Ap (u v : Value) : Prop := ∀ k, u.ownBlock = some k → v.ownBlock = some k → False
theorem In.mono {lo hi lo' hi' : Nat} {v : Value} (h : In lo hi v) (h1 : lo' ≤ lo) (h2 : hi ≤ hi') : In lo' hi' v := fun k hk => by have := h k hk; omega
theorem In.nil (lo hi : Nat) : In lo hi (.slice none 0 0) := fun k hk => by simp [Value.ownBlock] at hk
theorem In.at {lo hi g n c : Nat} (h1 : lo ≤ g) (h2 : g < hi) : In lo hi (.slice (some ⟨g, 0, none⟩) n c) := fun k hk => by simp [Value.ownBlock] at hk; omega
theorem OB.keep {w w' : World} {v : Value} {l : List Int} (h : OB w v l) (hk : ∀ k, v.ownBlock = some k → k < w.heap.size → w'.heap[k]? = w.heap[k]?) : OB w' v l := by
 rcases h with h | ⟨g, cap, cn, f, rfl, hca, hr, hl, hf⟩
 ·exact .inl h
 ·exact .inr ⟨g, cap, cn, f, rfl, hca, hr.of_block (hk g rfl hr.lt), hl, hf⟩
theorem OB.len {w : World} {v : Value} {l : List Int} (h : OB w v l) : ∃ a c, v = .slice a l.length c ∧ BAt w a l := by
 rcases h with ⟨rfl, rfl⟩ | ⟨g, cap, cn, f, rfl, hca, hr, hl, hf⟩
 ·exact ⟨none, 0, rfl, .inl rfl⟩
 ·exact ⟨_, _, rfl, .inr ⟨g, 0, rfl, hr.lt, fun k hk => by rw [Nat.zero_add, hr.cell (by omega), hf k hk]⟩⟩
theorem OB.lt {w : World} {v : Value} {l : List Int} (h : OB w v l) : ∀ k, v.ownBlock = some k → k < w.heap.size := by
 rcases h with ⟨rfl, rfl⟩ | ⟨g, cap, cn, f, rfl, hca, hr, hl, hf⟩
 ·intro k hk; simp [Value.ownBlock] at hk
 ·intro k hk; simp [Value.ownBlock] at hk; subst hk; exact hr.lt
def mb (k n : Nat) : List Int := (List.range n).map fun (i : Nat) => ((k : Int) + (i : Int)) % 256
theorem mb_len (k n : Nat) : (mb k n).length = n := by simp [mb]
theorem bv_mb (k n i : Nat) (h : i < n) : bv (mb k n) i = .int .u8 (((k : Int) + (i : Int)) % 256) := by simp [bv, mb, h]
def mpart (f : Nat → Value) (k i j : Nat) : Value := if j < i then .int .u8 (((k : Int) + (j : Int)) % 256) else f j
theorem mpart_step {w : World} {g cn k i : Nat} {f : Nat → Value} (h : w.rowIs g 5 cn (mpart f k i)) : (w.setCell ⟨g, i, none⟩ (.int .u8 (((k : Int) + (i : Int)) % 256))).rowIs g 5 cn (mpart f k (i + 1)) :=
 (h.set i _).congr (fun j _ => by
  by_cases e : j = i
  ·subst e; rw [if_pos rfl]; unfold mpart; rw [if_pos (by omega)]
  ·rw [if_neg e]; unfold mpart
   by_cases hlt : j < i
   ·rw [if_pos hlt, if_pos (by omega)]
   ·rw [if_neg hlt, if_neg (by omega)])
theorem rowB {w w' : World} {g n : Nat} {t : TypeId} {f : Nat → Value} (h : w.rowIs g t n f) (hb : Below w.heap.size w w') : w'.rowIs g t n f := h.of_block (hb.block _ h.lt)
theorem rowK {w w' : World} {g n lo hi : Nat} {t : TypeId} {f : Nat → Value} (h : w.rowIs g t n f) (hk : KeptIn lo hi w w') (hg : g < lo ∨ hi ≤ g) : w'.rowIs g t n f := h.of_block (hk.block _ h.lt hg)
theorem below_new (w : World) (o : Obj) : Below w.heap.size w (w.alloc o) := (Below.refl _ _).alloc (Nat.le_refl _) o
structure Turned (v : Value) (w w' : World) : Prop where
 os : w'.os = w.os
 tape : w'.tape = w.tape
 output : w'.output = w.output
 size : w.heap.size ≤ w'.heap.size
 block : ∀ k, k < w.heap.size → v.ownBlock ≠ some k → w'.heap[k]? = w.heap[k]?
theorem Turned.refl (v : Value) (w : World) : Turned v w w := ⟨rfl, rfl, rfl, Nat.le_refl _, fun _ _ _ => rfl⟩
theorem Turned.of_kept {g n c : Nat} {w w' : World} (h : KeptIn g (g + 1) w w') : Turned (.slice (some ⟨g, 0, none⟩) n c) w w' :=
 ⟨h.os, h.tape, h.output, h.size, fun k hk hne => h.block k hk (by have : g ≠ k := fun e => hne (by simp [Value.ownBlock, e]); omega)⟩
theorem Turned.kept {v : Value} {w w' : World} {lo hi : Nat} (h : Turned v w w') (hin : In lo hi v) : KeptIn lo hi w w' :=
 ⟨h.os, h.tape, h.output, h.size, fun k hk hc => h.block k hk (fun e => by have := hin k e; omega)⟩
theorem OB.below {u : Value} {w w' : World} {l : List Int} (h : OB w u l) (hb : Below w.heap.size w w') : OB w' u l := h.keep fun k e hl => hb.block k hl
theorem OB.kept {u : Value} {w w' : World} {l : List Int} {lo hi a b : Nat} (h : OB w u l) (hin : In lo hi u) (hk : KeptIn a b w w') (hd : hi ≤ a ∨ b ≤ lo) : OB w' u l := h.keep fun k e hl => hk.block k hl (by have := hin k e; omega)
theorem World.heap_size_setCell' (w : World) (a : Addr) (v : Value) : (w.setCell a v).heap.size = w.heap.size := by simp [World.setCell]
theorem World.heap_size_alloc' (w : World) (o : Obj) : (w.alloc o).heap.size = w.heap.size + 1 := by simp
theorem OB.none (w : World) : OB w (.slice none 0 0) [] := .inl ⟨rfl, rfl⟩
structure AT where
 nm : ByteArray
 vl : List Int
def atK (l : List AT) (k : Nat) : AT := l.getD k ⟨⟨#[]⟩, []⟩
def AAt (w : World) (a : Option Addr) (l : List AT) : Prop :=
 l = [] ∨ ∃ b o, a = some ⟨b, o, none⟩ ∧ b < w.heap.size ∧ ∀ k, k < l.length → w.cell? ⟨b, o + k * 2, none⟩ = some (.string (atK l k).nm) ∧ ∃ p c, w.cell? ⟨b, o + k * 2 + 1, none⟩ = some (.slice p (atK l k).vl.length c) ∧ BAt w p (atK l k).vl
theorem AAt.below {w w' : World} {a : Option Addr} {l : List AT} (h : AAt w a l) (hb : Below w.heap.size w w') : AAt w' a l := by
 rcases h with h | ⟨b, o, e, hs, hc⟩
 ·exact .inl h
 ·refine .inr ⟨b, o, e, Nat.lt_of_lt_of_le hs hb.size, fun k hk => ?_⟩
  obtain ⟨h1, p, c, h2, h3⟩ := hc k hk
  exact ⟨(hb.cell hs).trans h1, p, c, (hb.cell hs).trans h2, h3.below hb⟩
def asz : List AT → Nat
 | [] => 0
 | x :: r => x.nm.size + x.vl.length + asz r
theorem asz_take (l : List AT) : ∀ k, k < l.length → asz (l.take (k + 1)) = asz (l.take k) + ((atK l k).nm.size + (atK l k).vl.length) := by
 induction l with
 | nil => intro k h; exact absurd h (Nat.not_lt_zero _)
 | cons x r ih =>
  intro k hk
  cases k with
  | zero => simp [asz, atK]
  | succ k =>
   have := ih k (by simpa using hk)
   simp only [List.take_succ_cons, asz]
   rw [this]
   have e : atK (x :: r) (k + 1) = atK r k := by simp [atK]
   rw [e]; omega
theorem asz_le (l : List AT) (k : Nat) : asz (l.take k) ≤ asz l := by
 induction l generalizing k with
 | nil => simp [asz]
 | cons x r ih =>
  cases k with
  | zero => simp [asz]
  | succ k => simp only [List.take_succ_cons, asz]; have := ih k; omega
theorem szAttr_any (s : ByteArray) (a : Option Addr) (n c : Nat) (l : Int) (w : World) (h0 : 0 ≤ l) (h1 : l ≤ 1048576) (hs : (s.size : Int) ≤ 9223372036854775807) (hn : (n : Int) ≤ 9223372036854775807) :
  Calls Tryz.prog 82 #[.agg #[.string s, .slice a n c], .int .i64 l] w fun e w' => e = .returned (.int .i64 (if l < (s.size : Int) + n then -1 else l - s.size - n)) ∧ Below w.heap.size w w' := by
 by_cases g1 : l < (s.size : Int)
 ·rw [if_pos (by omega)]
  go_enter Tryz.func82, Tryz.ntmps82
  go_wp2
  go_ret
  exact ⟨rfl, (Below.refl _ _).alloc (Nat.le_refl _) _⟩
 by_cases g2 : l - (s.size : Int) < n
 ·rw [if_pos (by omega)]
  go_enter Tryz.func82, Tryz.ntmps82
  go_wp2_with (go_at_call 20; refine (szByteS_any _ _ _ _ _ (by omega) (by omega) (by omega)).mono ?_; rintro e w' ⟨rfl, rfl⟩)
  go_ret
  exact ⟨rfl, (Below.refl _ _).alloc (Nat.le_refl _) _⟩
 ·rw [if_neg (by omega)]
  go_enter Tryz.func82, Tryz.ntmps82
  go_wp2_with (go_at_call 20; refine (szByteS_any _ _ _ _ _ (by omega) (by omega) (by omega)).mono ?_; rintro e w' ⟨rfl, rfl⟩)
  go_ret
  exact ⟨rfl, (Below.refl _ _).alloc (Nat.le_refl _) _⟩
def Wide (l : List AT) : Prop := ∀ k, k < l.length → ((atK l k).nm.size : Int) ≤ 9223372036854775807 ∧ ((atK l k).vl.length : Int) ≤ 9223372036854775807
theorem szAttrS_any (a : Option Addr) (c : Nat) (l : List AT) (z : Int) (w : World) (ha : AAt w a l) (hw : Wide l) (h0 : 0 ≤ z) (h1 : z ≤ 1048576) (hl : (l.length : Int) ≤ 9223372036854775807) :
  Calls Tryz.prog 65 #[.slice a l.length c, .int .i64 z] w fun e w' => e = .returned (.int .i64 (if z < (l.length : Int) + asz l then -1 else z - l.length - asz l)) ∧ Below w.heap.size w w' := by
 by_cases g1 : z < (l.length : Int)
 ·rw [if_pos (by omega)]
  go_enter Tryz.func65, Tryz.ntmps65
  go_wp2
  go_ret
  exact ⟨rfl, Below.refl _ _⟩
 have HA := Hid.mk' ha
 have HW := Hid.mk' hw
 clear ha hw
 go_enter Tryz.func65, Tryz.ntmps65
 go_wp2
 go_loopw [1, 5] (fun x i wr => ∃ k : Nat, k ≤ l.length ∧ i = .int .i64 k ∧ x = .int .i64 (z - (l.length : Int) - (asz (l.take k) : Int)) ∧ (asz (l.take k) : Int) ≤ z - l.length ∧ Below w.heap.size w wr) (fun _ i _ => l.length - (intOf i).toNat)
 case atStart => exact ⟨0, Nat.zero_le _, rfl, by simp [asz], by simp [asz]; omega, Below.refl _ _⟩
 case round =>
  obtain ⟨k, hk, rfl, rfl, hz, hbl⟩ := hrel
  have HB := Hid.mk' hbl
  clear hbl
  by_cases hlt : k < l.length
  ·have ci : (k : Int) < (l.length : Int) := by omega
   rcases HA.out.below HB.out with ha | ⟨b, o, rfl, hbs, hc⟩
   ·exact absurd hlt (by rw [ha]; exact Nat.not_lt_zero _)
   obtain ⟨q1, p, d, q2, _⟩ := hc k hlt
   obtain ⟨w1, w2⟩ := HW.out k hlt
   have st := asz_take l k hlt
   have KA := Hid.mk' (szAttr_any (atK l k).nm p (atK l k).vl.length d (z - (l.length : Int) - (asz (l.take k) : Int)) wr (by omega) (by omega) w1 w2)
   generalize hn1 : (atK l k).nm = nm at *
   generalize hn2 : (atK l k).vl.length = n at *
   generalize hy : z - (l.length : Int) - (asz (l.take k) : Int) = y at *
   clear hc
   by_cases g2 : y < (nm.size : Int) + n
   ·rw [if_pos g2] at KA
    have gz : z < (l.length : Int) + asz l := by have := asz_le l (k + 1); omega
    go_wp2_with fail
    refine KA.out.mono ?_
    rintro e w1 ⟨rfl, hb⟩
    have HB := Hid.mk' (HB.out.trans (hb.mono HB.out.size))
    clear hb KA
    go_wp2
    go_ret
    exact ⟨by first | rfl | (rw [if_pos gz]; rfl), HB.out⟩
   ·rw [if_neg g2] at KA
    have gy : ¬ (y - (nm.size : Int) - n < 0) := by omega
    go_wp2_with fail
    refine KA.out.mono ?_
    rintro e w1 ⟨rfl, hb⟩
    have HB := Hid.mk' (HB.out.trans (hb.mono HB.out.size))
    clear hb KA
    go_wp2
    go_roundw
    case rel => exact ⟨k + 1, by omega, by go_num, by congr 1; omega, by omega, HB.out⟩
    case measure => simp [intOf]; omega
  ·have ci : ¬ (k : Int) < (l.length : Int) := by omega
   have e : k = l.length := by omega
   subst e
   rw [List.take_length] at hz
   go_wp2
   go_ret
   exact ⟨by first | rfl | (simp; done) | (rw [if_neg (by omega)]; simp), HB.out⟩
structure TK where
 kd : Int
 by_ : Int
 nm : ByteArray
 at_ : List AT
 sh : Bool
theorem Tryz.info127 : (Tryz.prog.info? 127).map (fun i => (i.zero, i.size, i.bytes)) = some (some (.agg #[.string ⟨#[]⟩, .slice none 0 0]), 2, 40) := by kernel_rfl
theorem make_attrs {P : Program} (t e : TypeId) (ht : P.underlying t = some (.slice e)) (hinfo : (P.info? e).map (fun i => (i.zero, i.size, i.bytes)) = some (some (.agg #[.string ⟨#[]⟩, .slice none 0 0]), 2, 40))
  (n : Nat) (hn : (n : Int) ≤ 1048576) (w : World) :
  (Instr.makeSlice t (.int .i64 (n : Int)) (.int .i64 (n : Int))).run P w = .ok (.slice (some ⟨w.heap.size, 0, none⟩) n n) (w.alloc (.cells (madeCells #[.string ⟨#[]⟩, .slice none 0 0] (n * 2)) e)) := by
 obtain ⟨i, hi, hzz⟩ := Option.map_eq_some_iff.1 hinfo
 simp only [Prod.mk.injEq] at hzz
 obtain ⟨hz, hs, hb⟩ := hzz
 have hr := run_make (P := P) w t e i _ ht hi hz .i64 .i64 n n (by omega) (Int.le_refl _) (by rw [hb]; omega) (by omega)
 simp only [Int.toNat_natCast, hs] at hr
 exact hr
def p2 (x y : Value) (i : Nat) : Value := if i = 0 then x else y
theorem rowp2 (w : World) (t : TypeId) (x y : Value) : (w.alloc (.cells #[x, y] t)).rowIs w.heap.size t 2 (p2 x y) :=
 ⟨_, Deep.blk_alloc_new _ _, rfl, fun i hi => by
  have : i = 0 ∨ i = 1 := by omega
  rcases this with rfl | rfl <;> rfl⟩
theorem cells2 {w : World} {g : Nat} {ty : TypeId} {x y : Value} (h : w.rowIs g ty 2 (p2 x y)) : w.cell? ⟨g, 0, none⟩ = some x ∧ w.cell? ⟨g, 1, none⟩ = some y ∧ g < w.heap.size :=
 ⟨h.cell (by omega), h.cell (by omega), h.lt⟩
theorem toAttr_any (s : ByteArray) (a : Option Addr) (c : Nat) (l : List Int) (w : World) (ha : BAt w a l) (hl : (l.length : Int) ≤ 1048576) :
  Calls Tryz.prog 91 #[.agg #[.string s, .slice a l.length c]] w fun e w' => ∃ b, e = .returned (.agg #[.string s, .slice (some ⟨b, 0, none⟩) l.length l.length]) ∧ w.heap.size ≤ b ∧ w'.rowIs b 5 l.length (bv l) ∧ Below w.heap.size w w' := by
 have B0 := ((Below.refl w.heap.size w).alloc (Nat.le_refl _) (.cells #[.string s, .slice a l.length c] 129)).alloc (by simp) (.cells #[.string ⟨#[]⟩, .slice none 0 0] 127)
 have B1 := B0.alloc (by simp; omega) (.cells #[.string s, .slice none 0 0] 127)
 have RR := (rowp2 (w.alloc (.cells #[.string s, .slice a l.length c] 129)) 127 (.string ⟨#[]⟩) (.slice none 0 0)).alloc (.cells #[.string s, .slice none 0 0] 127)
 have RO := rowp2 ((w.alloc (.cells #[.string s, .slice a l.length c] 129)).alloc (.cells #[.string ⟨#[]⟩, .slice none 0 0] 127)) 127 (.string s) (.slice none 0 0)
 have RP := ((rowp2 w 129 (.string s) (.slice a l.length c)).alloc (.cells #[.string ⟨#[]⟩, .slice none 0 0] 127)).alloc (.cells #[.string s, .slice none 0 0] 127)
 have KB := Hid.mk' (toByteS_any a c l _ (ha.below B1) hl)
 have HB := Hid.mk' B1
 have z1 : (w.alloc (.cells #[.string s, .slice a l.length c] 129)).heap.size = w.heap.size + 1 := by simp
 have z2 : ((w.alloc (.cells #[.string s, .slice a l.length c] 129)).alloc (.cells #[.string ⟨#[]⟩, .slice none 0 0] 127)).heap.size = w.heap.size + 1 + 1 := by simp
 have z3 : (((w.alloc (.cells #[.string s, .slice a l.length c] 129)).alloc (.cells #[.string ⟨#[]⟩, .slice none 0 0] 127)).alloc (.cells #[.string s, .slice none 0 0] 127)).heap.size = w.heap.size + 1 + 1 + 1 := by simp
 rw [z1] at RR
 rw [z2] at RO
 have HR := Hid.mk' RR
 have HO := Hid.mk' RO
 have Z3 := Hid.mk' z3
 have HP := Hid.mk' RP
 clear ha B0 B1 RR RO RP z1 z2 z3
 generalize hW : ((w.alloc (.cells #[.string s, .slice a l.length c] 129)).alloc (.cells #[.string ⟨#[]⟩, .slice none 0 0] 127)).alloc (.cells #[.string s, .slice none 0 0] 127) = W at *
 obtain ⟨p0, p1, p3⟩ := cells2 HP.out
 go_enter Tryz.func91, Tryz.ntmps91
 go_wp2_with fail
 clear hW
 refine KB.out.mono ?_
 rintro e w1 ⟨b, rfl, hb, hrow, hbl⟩
 have Ho := rowB HO.out hbl
 have Hr := rowB HR.out hbl
 obtain ⟨o0, o1, o2⟩ := cells2 Ho
 obtain ⟨r0, r1, r2⟩ := cells2 Hr
 have fo := Ho.frozen 1
 have fr0 := Hr.frozen 0
 have fr1 := Hr.frozen 1
 have KK : Hid (KeptIn (w.heap.size + 1) (w.heap.size + 1 + 1 + 1) w1 (((w1.setCell ⟨w.heap.size + 1 + 1, 1, none⟩ (.slice (some ⟨b, 0, none⟩) l.length l.length)).setCell ⟨w.heap.size + 1, 0, none⟩ (.string s)).setCell ⟨w.heap.size + 1, 1, none⟩ (.slice (some ⟨b, 0, none⟩) l.length l.length))) :=
  (((KeptIn.refl _ _ w1).setCell (p := ⟨w.heap.size + 1 + 1, 1, none⟩) (by simp) (by simp) _).setCell (p := ⟨w.heap.size + 1, 0, none⟩) (by simp) (by simp) _).setCell (p := ⟨w.heap.size + 1, 1, none⟩) (by simp) (by simp) _
 have HW := Hid.mk' hrow
 have HL := Hid.mk' hbl
 have hb' : w.heap.size + 1 + 1 + 1 ≤ b := by have := Z3.out; omega
 have hwl : w.heap.size + 1 ≤ w1.heap.size := by have := Z3.out; have := hbl.size; omega
 clear hrow hbl Ho Hr KB HO HR hb
 go_wp2
 refine bodyPost_ret (v := .agg #[.string s, .slice (some ⟨b, 0, none⟩) l.length l.length]) (by simp [results, Tryz.results91, go_sem, *]) rfl ?_
 exact ⟨b, rfl, by omega, rowK HW.out KK.out (.inr hb'), (HB.out.trans (HL.out.mono HB.out.size)).trans (KK.out.below (by omega) (by omega))⟩
structure AR (w : World) (l : List AT) (k : Nat) (wr : World) : Prop where
 bl : Below w.heap.size w wr
 row : ∃ f, wr.rowIs w.heap.size 127 (l.length * 2) f ∧ ∀ j, j < k → f (j * 2) = .string (atK l j).nm ∧ ∃ b, f (j * 2 + 1) = .slice (some ⟨b, 0, none⟩) (atK l j).vl.length (atK l j).vl.length ∧ w.heap.size < b ∧ wr.rowIs b 5 (atK l j).vl.length (bv (atK l j).vl)
theorem AR.start (w : World) (l : List AT) : AR w l 0 (w.alloc (.cells (madeCells #[.string ⟨#[]⟩, .slice none 0 0] (l.length * 2)) 127)) := by
 refine ⟨(Below.refl _ _).alloc (Nat.le_refl _) _, fun i => p2 (.string ⟨#[]⟩) (.slice none 0 0) (i % 2), ?_, fun j hj => absurd hj (Nat.not_lt_zero _)⟩
 refine ⟨_, Deep.blk_alloc_new _ _, size_madeCells _ _, fun i hi => ?_⟩
 have h : i % 2 = 0 ∨ i % 2 = 1 := by omega
 rcases h with h | h <;> simp [madeCells, hi, h, p2]
theorem AR.below {w wr w1 : World} {l : List AT} {k : Nat} (h : AR w l k wr) (hb : Below wr.heap.size wr w1) : AR w l k w1 := by
 obtain ⟨f, hf, hj⟩ := h.row
 refine ⟨h.bl.trans (hb.mono h.bl.size), f, rowB hf hb, fun j hk => ?_⟩
 obtain ⟨h1, b, h2, h3, h4⟩ := hj j hk
 exact ⟨h1, b, h2, h3, rowB h4 hb⟩
theorem AR.step {w wr : World} {l : List AT} {k b : Nat} (h : AR w l k wr) (hb : w.heap.size < b) (hrow : wr.rowIs b 5 (atK l k).vl.length (bv (atK l k).vl)) :
  AR w l (k + 1) ((wr.setCell ⟨w.heap.size, k * 2, none⟩ (.string (atK l k).nm)).setCell ⟨w.heap.size, k * 2 + 1, none⟩ (.slice (some ⟨b, 0, none⟩) (atK l k).vl.length (atK l k).vl.length)) := by
 obtain ⟨f, hf, hj⟩ := h.row
 have K : KeptIn w.heap.size (w.heap.size + 1) wr ((wr.setCell ⟨w.heap.size, k * 2, none⟩ (.string (atK l k).nm)).setCell ⟨w.heap.size, k * 2 + 1, none⟩ (.slice (some ⟨b, 0, none⟩) (atK l k).vl.length (atK l k).vl.length)) :=
  ((KeptIn.refl _ _ wr).setCell (p := ⟨w.heap.size, k * 2, none⟩) (Nat.le_refl _) (Nat.lt_succ_self _) _).setCell (p := ⟨w.heap.size, k * 2 + 1, none⟩) (Nat.le_refl _) (Nat.lt_succ_self _) _
 refine ⟨h.bl.trans (K.below (Nat.le_refl _) h.bl.size), _, (hf.set (k * 2) _).set (k * 2 + 1) _, fun j hk => ?_⟩
 by_cases e : j = k
 ·subst e
  refine ⟨?_, b, ?_, hb, rowK hrow K (.inr hb)⟩
  ·rw [if_neg (by omega), if_pos rfl]
  ·rw [if_pos rfl]
 ·obtain ⟨h1, b', h2, h3, h4⟩ := hj j (by omega)
  refine ⟨?_, b', ?_, h3, rowK h4 K (.inr h3)⟩
  ·rw [if_neg (by omega), if_neg (by omega)]; exact h1
  ·rw [if_neg (by omega), if_neg (by omega)]; exact h2
theorem toAttrS_any (a : Option Addr) (c : Nat) (l : List AT) (w : World) (ha : AAt w a l) (hl : (l.length : Int) + asz l ≤ 1048576) :
  Calls Tryz.prog 73 #[.slice a l.length c] w fun e w' => e = .returned (.slice (some ⟨w.heap.size, 0, none⟩) l.length l.length) ∧ AR w l l.length w' := by
 have hmk := make_attrs (P := Tryz.prog) 85 127 Tryz.underlying85 Tryz.info127 l.length (by omega)
 have HA := Hid.mk' ha
 clear ha
 go_enter Tryz.func73, Tryz.ntmps73
 go_wp2
 go_loopw [4] (fun i wr => ∃ k : Nat, k ≤ l.length ∧ i = .int .i64 k ∧ AR w l k wr) (fun i _ => l.length - (intOf i).toNat)
 case atStart => exact ⟨0, Nat.zero_le _, rfl, AR.start w l⟩
 case round =>
  obtain ⟨k, hk, rfl, hr⟩ := hrel
  have HR := Hid.mk' hr
  clear hr hmk
  by_cases hlt : k < l.length
  ·have ci : (k : Int) < (l.length : Int) := by omega
   rcases HA.out with ha | ⟨b, o, rfl, hbs, hc⟩
   ·exact absurd hlt (by rw [ha]; exact Nat.not_lt_zero _)
   obtain ⟨q1, p, d, q2, q3⟩ := hc k hlt
   have h1 : wr.cell? ⟨b, o + k * 2, none⟩ = some (.string (atK l k).nm) := (HR.out.bl.cell hbs).trans q1
   have h2 : wr.cell? ⟨b, o + k * 2 + 1, none⟩ = some (.slice p (atK l k).vl.length d) := (HR.out.bl.cell hbs).trans q2
   have h3 : BAt wr p (atK l k).vl := by
    rcases q3 with q | ⟨b', o', e, hb', hc'⟩
    ·exact .inl q
    ·exact .inr ⟨b', o', e, Nat.lt_of_lt_of_le hb' HR.out.bl.size, fun i hi => (HR.out.bl.cell hb').trans (hc' i hi)⟩
   have st := asz_take l k hlt
   have sl := asz_le l (k + 1)
   have KA := Hid.mk' (toAttr_any (atK l k).nm p d (atK l k).vl wr h3 (by omega))
   clear h3 q1 q2 q3 hc st sl
   go_wp2_with fail
   refine KA.out.mono ?_
   rintro e w1 ⟨g, rfl, hg, hrow, hbl⟩
   have hr1 := HR.out.below hbl
   obtain ⟨f, hf, _⟩ := hr1.row
   have f0 := hf.frozen (k * 2)
   have f1 := hf.frozen (k * 2 + 1)
   obtain ⟨v0, g0⟩ : ∃ v, w1.cell? ⟨w.heap.size, k * 2, none⟩ = some v := ⟨_, hf.cell (by omega)⟩
   obtain ⟨v1, g1⟩ : ∃ v, w1.cell? ⟨w.heap.size, k * 2 + 1, none⟩ = some v := ⟨_, hf.cell (by omega)⟩
   have hgl : w.heap.size < g := by obtain ⟨f', hf', _⟩ := HR.out.row; have := hf'.lt; omega
   have R1 := Hid.mk' (hr1.step hgl hrow)
   clear hr1 hf hrow hbl KA h1 h2 hg
   go_wp2
   go_roundw
   case rel => exact ⟨k + 1, by omega, by go_num, R1.out⟩
   case measure => simp [intOf]; omega
  ·have ci : ¬ (k : Int) < (l.length : Int) := by omega
   have e : k = l.length := by omega
   subst e
   go_wp2
   go_ret
   exact ⟨rfl, HR.out⟩
def r5 (x y z u v : Value) (i : Nat) : Value := if i = 0 then x else if i = 1 then y else if i = 2 then z else if i = 3 then u else v
theorem row5 (w : World) (t : TypeId) (x y z u v : Value) : (w.alloc (.cells #[x, y, z, u, v] t)).rowIs w.heap.size t 5 (r5 x y z u v) :=
 ⟨_, Deep.blk_alloc_new _ _, rfl, fun i hi => by
  have : i = 0 ∨ i = 1 ∨ i = 2 ∨ i = 3 ∨ i = 4 := by omega
  rcases this with rfl | rfl | rfl | rfl | rfl <;> rfl⟩
theorem cells5 {w : World} {g : Nat} {ty : TypeId} {x y z u v : Value} (h : w.rowIs g ty 5 (r5 x y z u v)) : w.cell? ⟨g, 0, none⟩ = some x ∧ w.cell? ⟨g, 1, none⟩ = some y ∧ w.cell? ⟨g, 2, none⟩ = some z ∧ w.cell? ⟨g, 3, none⟩ = some u ∧ w.cell? ⟨g, 4, none⟩ = some v ∧ g < w.heap.size :=
 ⟨h.cell (by omega), h.cell (by omega), h.cell (by omega), h.cell (by omega), h.cell (by omega), h.lt⟩
def AO (g : Nat) (l : List AT) (w : World) : Prop := ∃ f, w.rowIs g 127 (l.length * 2) f ∧ ∀ j, j < l.length → f (j * 2) = .string (atK l j).nm ∧ ∃ b, f (j * 2 + 1) = .slice (some ⟨b, 0, none⟩) (atK l j).vl.length (atK l j).vl.length ∧ g < b ∧ w.rowIs b 5 (atK l j).vl.length (bv (atK l j).vl)
theorem AO.below {g : Nat} {l : List AT} {w w1 : World} (h : AO g l w) (hb : Below w.heap.size w w1) : AO g l w1 := by
 obtain ⟨f, hf, hj⟩ := h
 refine ⟨f, rowB hf hb, fun j hk => ?_⟩
 obtain ⟨h1, b, h2, h3, h4⟩ := hj j hk
 exact ⟨h1, b, h2, h3, rowB h4 hb⟩
theorem AO.of {w wr w1 : World} {l : List AT} {lo hi : Nat} (h : AR w l l.length wr) (hk : KeptIn lo hi wr w1) (hhi : hi ≤ w.heap.size) : AO w.heap.size l w1 := by
 obtain ⟨f, hf, hj⟩ := h.row
 refine ⟨f, rowK hf hk (.inr hhi), fun j hjk => ?_⟩
 obtain ⟨h1, b, h2, h3, h4⟩ := hj j hjk
 exact ⟨h1, b, h2, h3, rowK h4 hk (.inr (by omega))⟩
theorem AO.at {g : Nat} {l : List AT} {w : World} (h : AO g l w) : AAt w (some ⟨g, 0, none⟩) l := by
 obtain ⟨f, hf, hj⟩ := h
 refine .inr ⟨_, _, rfl, hf.lt, fun k hk => ?_⟩
 obtain ⟨h1, b, h2, h3, h4⟩ := hj k hk
 have c1 : w.cell? ⟨g, k * 2, none⟩ = some (f (k * 2)) := hf.cell (by omega)
 have c2 : w.cell? ⟨g, k * 2 + 1, none⟩ = some (f (k * 2 + 1)) := hf.cell (by omega)
 refine ⟨by rw [Nat.zero_add, c1, h1], _, _, by rw [Nat.zero_add, c2, h2], ?_⟩
 exact .inr ⟨b, 0, rfl, h4.lt, fun i hi => by rw [Nat.zero_add]; exact h4.cell hi⟩
theorem toToken_any (t : TK) (a : Option Addr) (c : Nat) (w : World) (ha : AAt w a t.at_) (hl : (t.at_.length : Int) + asz t.at_ ≤ 1048576) :
  Calls Tryz.prog 46 #[.agg #[.int .i64 t.kd, .int .i64 t.by_, .string t.nm, .slice a t.at_.length c, .bool t.sh]] w fun e w' => ∃ g, e = .returned (.agg #[.int .i64 t.kd, .int .i64 t.by_, .string t.nm, .slice (some ⟨g, 0, none⟩) t.at_.length t.at_.length, .bool t.sh]) ∧ w.heap.size ≤ g ∧ AO g t.at_ w' ∧ Below w.heap.size w w' := by
 have B0 := ((Below.refl w.heap.size w).alloc (Nat.le_refl _) (.cells #[.int .i64 t.kd, .int .i64 t.by_, .string t.nm, .slice a t.at_.length c, .bool t.sh] 74)).alloc (by simp) (.cells #[.int .i64 0, .int .i64 0, .string ⟨#[]⟩, .slice none 0 0, .bool false] 87)
 have B1 := B0.alloc (by simp; omega) (.cells #[.int .i64 t.kd, .int .i64 t.by_, .string t.nm, .slice none 0 0, .bool false] 87)
 have RP := ((row5 w 74 (.int .i64 t.kd) (.int .i64 t.by_) (.string t.nm) (.slice a t.at_.length c) (.bool t.sh)).alloc (.cells #[.int .i64 0, .int .i64 0, .string ⟨#[]⟩, .slice none 0 0, .bool false] 87)).alloc (.cells #[.int .i64 t.kd, .int .i64 t.by_, .string t.nm, .slice none 0 0, .bool false] 87)
 have RR := (row5 (w.alloc (.cells #[.int .i64 t.kd, .int .i64 t.by_, .string t.nm, .slice a t.at_.length c, .bool t.sh] 74)) 87 (.int .i64 0) (.int .i64 0) (.string ⟨#[]⟩) (.slice none 0 0) (.bool false)).alloc (.cells #[.int .i64 t.kd, .int .i64 t.by_, .string t.nm, .slice none 0 0, .bool false] 87)
 have RO := row5 ((w.alloc (.cells #[.int .i64 t.kd, .int .i64 t.by_, .string t.nm, .slice a t.at_.length c, .bool t.sh] 74)).alloc (.cells #[.int .i64 0, .int .i64 0, .string ⟨#[]⟩, .slice none 0 0, .bool false] 87)) 87 (.int .i64 t.kd) (.int .i64 t.by_) (.string t.nm) (.slice none 0 0) (.bool false)
 have KB := Hid.mk' (toAttrS_any a c t.at_ _ (ha.below B1) hl)
 have HB := Hid.mk' B1
 have z1 : (w.alloc (.cells #[.int .i64 t.kd, .int .i64 t.by_, .string t.nm, .slice a t.at_.length c, .bool t.sh] 74)).heap.size = w.heap.size + 1 := by simp
 have z2 : ((w.alloc (.cells #[.int .i64 t.kd, .int .i64 t.by_, .string t.nm, .slice a t.at_.length c, .bool t.sh] 74)).alloc (.cells #[.int .i64 0, .int .i64 0, .string ⟨#[]⟩, .slice none 0 0, .bool false] 87)).heap.size = w.heap.size + 1 + 1 := by simp
 have z3 : (((w.alloc (.cells #[.int .i64 t.kd, .int .i64 t.by_, .string t.nm, .slice a t.at_.length c, .bool t.sh] 74)).alloc (.cells #[.int .i64 0, .int .i64 0, .string ⟨#[]⟩, .slice none 0 0, .bool false] 87)).alloc (.cells #[.int .i64 t.kd, .int .i64 t.by_, .string t.nm, .slice none 0 0, .bool false] 87)).heap.size = w.heap.size + 1 + 1 + 1 := by simp
 rw [z1] at RR
 rw [z2] at RO
 have HR := Hid.mk' RR
 have HO := Hid.mk' RO
 have HP := Hid.mk' RP
 have Z3 := Hid.mk' z3
 clear ha B0 B1 RR RO RP z1 z2 z3
 generalize hW : ((w.alloc (.cells #[.int .i64 t.kd, .int .i64 t.by_, .string t.nm, .slice a t.at_.length c, .bool t.sh] 74)).alloc (.cells #[.int .i64 0, .int .i64 0, .string ⟨#[]⟩, .slice none 0 0, .bool false] 87)).alloc (.cells #[.int .i64 t.kd, .int .i64 t.by_, .string t.nm, .slice none 0 0, .bool false] 87) = W at *
 obtain ⟨p0, p1, p2_, p3, p4, p5⟩ := cells5 HP.out
 go_enter Tryz.func46, Tryz.ntmps46
 go_wp2_with fail
 clear hW p0 p1 p2_ p3 p4 p5
 refine KB.out.mono ?_
 rintro e w1 ⟨rfl, har⟩
 have hbl := har.bl
 have Hp := rowB HP.out hbl
 have Ho := rowB HO.out hbl
 have Hr := rowB HR.out hbl
 obtain ⟨p0, p1, p2_, p3, p4, p5⟩ := cells5 Hp
 obtain ⟨o0, o1, o2, o3, o4, o5⟩ := cells5 Ho
 obtain ⟨r0, r1, r2, r3_, r4_, r5_⟩ := cells5 Hr
 have fo3 := Ho.frozen 3
 have fo4 := Ho.frozen 4
 have fr0 := Hr.frozen 0
 have fr1 := Hr.frozen 1
 have fr2 := Hr.frozen 2
 have fr3 := Hr.frozen 3
 have fr4 := Hr.frozen 4
 have HA := Hid.mk' har
 have zz := Z3.out
 have hwl : w.heap.size + 1 ≤ w1.heap.size := by have := hbl.size; omega
 have zz' := Hid.mk' zz
 clear har hbl Ho Hr Hp KB HO HR HP zz
 go_wp2
 refine bodyPost_ret (v := .agg #[.int .i64 t.kd, .int .i64 t.by_, .string t.nm, .slice (some ⟨W.heap.size, 0, none⟩) t.at_.length t.at_.length, .bool t.sh]) (by simp [results, Tryz.results46, go_sem, *]) rfl ?_
 have zz := zz'.out
 have KK := (((((((KeptIn.refl (w.heap.size + 1) (w.heap.size + 1 + 1 + 1) w1).setCell (p := ⟨w.heap.size + 1 + 1, 3, none⟩) (by simp) (by simp) (.slice (some ⟨W.heap.size, 0, none⟩) t.at_.length t.at_.length)).setCell (p := ⟨w.heap.size + 1 + 1, 4, none⟩) (by simp) (by simp) (.bool t.sh)).setCell (p := ⟨w.heap.size + 1, 0, none⟩) (by simp) (by simp) (.int .i64 t.kd)).setCell (p := ⟨w.heap.size + 1, 1, none⟩) (by simp) (by simp) (.int .i64 t.by_)).setCell (p := ⟨w.heap.size + 1, 2, none⟩) (by simp) (by simp) (.string t.nm)).setCell (p := ⟨w.heap.size + 1, 3, none⟩) (by simp) (by simp) (.slice (some ⟨W.heap.size, 0, none⟩) t.at_.length t.at_.length)).setCell (p := ⟨w.heap.size + 1, 4, none⟩) (by simp) (by simp) (.bool t.sh)
 exact ⟨W.heap.size, rfl, by omega, AO.of HA.out KK (by omega), (HB.out.trans (HA.out.bl.mono HB.out.size)).trans (KK.below (by omega) (by omega))⟩
theorem eqAttr_any (s : ByteArray) (a b : Option Addr) (c d : Nat) (l : List Int) (w : World) (ha : BAt w a l) (hb : BAt w b l) (hl : (l.length : Int) ≤ 1048576) :
  Calls Tryz.prog 100 #[.agg #[.string s, .slice a l.length c], .agg #[.string s, .slice b l.length d]] w fun e w' => e = .returned (.bool true) ∧ Below w.heap.size w w' := by
 have B0 := ((Below.refl w.heap.size w).alloc (Nat.le_refl _) (.cells #[.string s, .slice a l.length c] 127)).alloc (by simp) (.cells #[.string s, .slice b l.length d] 127)
 have KB := Hid.mk' (eqByteS_any a b c d l _ (ha.below B0) (hb.below B0) hl)
 have HB := Hid.mk' B0
 clear ha hb B0
 go_enter Tryz.func100, Tryz.ntmps100
 go_wp2_with fail
 refine KB.out.mono ?_
 rintro e w1 ⟨rfl, hb⟩
 have HB := Hid.mk' (HB.out.trans (hb.mono HB.out.size))
 clear hb KB
 go_wp2
 go_ret
 exact ⟨rfl, HB.out⟩
theorem eqAttrS_any (a b : Option Addr) (c d : Nat) (l : List AT) (w : World) (ha : AAt w a l) (hb : AAt w b l) (hl : (l.length : Int) + asz l ≤ 1048576) :
  Calls Tryz.prog 79 #[.slice a l.length c, .slice b l.length d] w fun e w' => e = .returned (.bool true) ∧ Below w.heap.size w w' := by
 have HA := Hid.mk' ha
 have HB := Hid.mk' hb
 clear ha hb
 go_enter Tryz.func79, Tryz.ntmps79
 go_wp2
 go_loopw [5] (fun i wr => ∃ k : Nat, k ≤ l.length ∧ i = .int .i64 k ∧ Below w.heap.size w wr) (fun i _ => l.length - (intOf i).toNat)
 case atStart => exact ⟨0, Nat.zero_le _, rfl, Below.refl _ _⟩
 case round =>
  obtain ⟨k, hk, rfl, hbl⟩ := hrel
  have R2 := Hid.mk' hbl
  by_cases hlt : k < l.length
  ·have ci : (k : Int) < (l.length : Int) := by omega
   rcases HA.out.below hbl with ha | ⟨b1, o1, rfl, s1, hc1⟩
   ·exact absurd hlt (by rw [ha]; exact Nat.not_lt_zero _)
   rcases HB.out.below hbl with hb | ⟨b2, o2, rfl, s2, hc2⟩
   ·exact absurd hlt (by rw [hb]; exact Nat.not_lt_zero _)
   obtain ⟨h1, p1, d1, h2, h3⟩ := hc1 k hlt
   obtain ⟨h4, p2_, d2, h5, h6⟩ := hc2 k hlt
   have st := asz_take l k hlt
   have sl := asz_le l (k + 1)
   have KE : Hid (Calls Tryz.prog 100 #[.agg #[.string (atK l k).nm, .slice p1 (atK l k).vl.length d1], .agg #[.string (atK l k).nm, .slice p2_ (atK l k).vl.length d2]] wr.drew fun e w' => e = .returned (.bool true) ∧ Below wr.drew.heap.size wr.drew w') := eqAttr_any _ _ _ _ _ _ _ (h3.below (Below.refl _ _).drew) (h6.below (Below.refl _ _).drew) (by omega)
   clear hbl hc1 hc2 h3 h6 st sl
   go_wp2
   go_region_held3 (fun w' => w'.cell? ⟨b1, o1 + k * 2, none⟩ = some (.string (atK l k).nm) ∧ w'.cell? ⟨b1, o1 + k * 2 + 1, none⟩ = some (.slice p1 (atK l k).vl.length d1) ∧ w'.cell? ⟨b2, o2 + k * 2, none⟩ = some (.string (atK l k).nm) ∧ w'.cell? ⟨b2, o2 + k * 2 + 1, none⟩ = some (.slice p2_ (atK l k).vl.length d2)) (simp [*])
    ((go_at_call 100; refine KE.out.mono ?_; rintro e w1 ⟨rfl, hb1⟩; replace hb1 := undrew hb1; obtain ⟨hx1, hx2⟩ := bcell hb1))
   go_wp2
   go_roundw
   case rel => exact ⟨k + 1, by omega, by go_num, R2.out.trans (hb1.mono R2.out.size)⟩
   case measure => simp [intOf]; omega
  ·have ci : ¬ (k : Int) < (l.length : Int) := by omega
   go_wp2
   go_ret
   exact ⟨rfl, R2.out⟩
theorem eqToken_any (t : TK) (a b : Option Addr) (c d : Nat) (w : World) (ha : AAt w a t.at_) (hb : AAt w b t.at_) (hl : (t.at_.length : Int) + asz t.at_ ≤ 1048576) :
  Calls Tryz.prog 54 #[.agg #[.int .i64 t.kd, .int .i64 t.by_, .string t.nm, .slice a t.at_.length c, .bool t.sh], .agg #[.int .i64 t.kd, .int .i64 t.by_, .string t.nm, .slice b t.at_.length d, .bool t.sh]] w fun e w' => e = .returned (.bool true) ∧ Below w.heap.size w w' := by
 have B0 := ((Below.refl w.heap.size w).alloc (Nat.le_refl _) (.cells #[.int .i64 t.kd, .int .i64 t.by_, .string t.nm, .slice a t.at_.length c, .bool t.sh] 87)).alloc (by simp) (.cells #[.int .i64 t.kd, .int .i64 t.by_, .string t.nm, .slice b t.at_.length d, .bool t.sh] 87)
 have R1 := (row5 w 87 (.int .i64 t.kd) (.int .i64 t.by_) (.string t.nm) (.slice a t.at_.length c) (.bool t.sh)).alloc (.cells #[.int .i64 t.kd, .int .i64 t.by_, .string t.nm, .slice b t.at_.length d, .bool t.sh] 87)
 have R2 := row5 (w.alloc (.cells #[.int .i64 t.kd, .int .i64 t.by_, .string t.nm, .slice a t.at_.length c, .bool t.sh] 87)) 87 (.int .i64 t.kd) (.int .i64 t.by_) (.string t.nm) (.slice b t.at_.length d) (.bool t.sh)
 have z1 : (w.alloc (.cells #[.int .i64 t.kd, .int .i64 t.by_, .string t.nm, .slice a t.at_.length c, .bool t.sh] 87)).heap.size = w.heap.size + 1 := by simp
 rw [z1] at R2
 have H1 := Hid.mk' R1
 have H2 := Hid.mk' R2
 have KB := Hid.mk' (eqAttrS_any a b c d t.at_ _ (ha.below B0) (hb.below B0) hl)
 have HB := Hid.mk' B0
 clear ha hb B0 R1 R2 z1
 generalize hW : (w.alloc (.cells #[.int .i64 t.kd, .int .i64 t.by_, .string t.nm, .slice a t.at_.length c, .bool t.sh] 87)).alloc (.cells #[.int .i64 t.kd, .int .i64 t.by_, .string t.nm, .slice b t.at_.length d, .bool t.sh] 87) = W at *
 obtain ⟨p0, p1, p2_, p3, p4, p5⟩ := cells5 H1.out
 obtain ⟨q0, q1, q2, q3, q4, q5⟩ := cells5 H2.out
 go_enter Tryz.func54, Tryz.ntmps54
 go_wp2_with fail
 clear hW p0 p1 p2_ p3 p4 p5 q0 q1 q2 q3 q4 q5
 refine KB.out.mono ?_
 rintro e w1 ⟨rfl, hb⟩
 obtain ⟨p0, p1, p2_, p3, p4, p5⟩ := cells5 (rowB H1.out hb)
 obtain ⟨q0, q1, q2, q3, q4, q5⟩ := cells5 (rowB H2.out hb)
 have HB := Hid.mk' (HB.out.trans (hb.mono HB.out.size))
 clear hb KB
 go_wp2
 go_ret
 exact ⟨rfl, HB.out⟩

end Go.Proofs.YtmhihkdnhaadeaaGreatDoor
