/- Plain notions: bytes and pieces that lie in memory. -/
import Derived.WalkKit
import Derived.Deep.OwnRows
namespace Go.Proofs.YtaihlcfpkabonaaDoor
open Go.RowKit
set_option linter.unusedVariables false

theorem Hid.mk' {p : Prop} (h : p) : Hid p := h

/-- The i-th of bytes, as a value. -/
def bv (l : List Int) (i : Nat) : Value := .int .u8 (l.getD i 0)

/-- Bytes lie at an address (none need lie there, if there are none). -/
def BAt (w : World) (a : Option Addr) (l : List Int) : Prop :=
  l = [] ∨ ∃ b o, a = some ⟨b, o, none⟩ ∧ b < w.heap.size ∧ ∀ k, k < l.length → w.cell? ⟨b, o + k, none⟩ = some (bv l k)

/-- A piece: is it of More, where, how many. -/
structure PC where
  ad : Bool
  fr : Int
  sz : Int

/-- The k-th of pieces. -/
def pc (l : List PC) (k : Nat) : PC := l.getD k ⟨false, 0, 0⟩

/-- The j-th cell of pieces, three a piece. -/
def pv (l : List PC) (j : Nat) : Value := if j % 3 = 0 then .bool (pc l (j / 3)).ad else if j % 3 = 1 then .int .i64 (pc l (j / 3)).fr else .int .i64 (pc l (j / 3)).sz

/-- The j-th cell of pieces that are zero. -/
def pz (j : Nat) : Value := if j % 3 = 0 then .bool false else .int .i64 0

/-- What a copy of pieces holds when k of them are copied. -/
def ppart (l : List PC) (k j : Nat) : Value := if j < k * 3 then pv l j else pz j

theorem pv0 (l : List PC) (k : Nat) : pv l (k * 3) = .bool (pc l k).ad := by
  unfold pv; rw [if_pos (by omega), show k * 3 / 3 = k from by omega]
theorem pv1 (l : List PC) (k : Nat) : pv l (k * 3 + 1) = .int .i64 (pc l k).fr := by
  unfold pv; rw [if_neg (by omega), if_pos (by omega), show (k * 3 + 1) / 3 = k from by omega]
theorem pv2 (l : List PC) (k : Nat) : pv l (k * 3 + 2) = .int .i64 (pc l k).sz := by
  unfold pv; rw [if_neg (by omega), if_neg (by omega), show (k * 3 + 2) / 3 = k from by omega]

theorem row_ppart_start (w : World) (t : TypeId) (l : List PC) (n : Nat) : (w.alloc (.cells (madeCells #[.bool false, .int .i64 0, .int .i64 0] (n * 3)) t)).rowIs w.heap.size t (n * 3) (ppart l 0) := by
  refine ⟨_, Deep.blk_alloc_new _ _, size_madeCells _ _, fun i hi => ?_⟩
  have h3 : i % 3 = 0 ∨ i % 3 = 1 ∨ i % 3 = 2 := by omega
  rcases h3 with h | h | h <;> simp [madeCells, hi, h, ppart, pz]

theorem row_ppart_step {w : World} {b n k : Nat} {t : TypeId} {l : List PC} (h : w.rowIs b t n (ppart l k)) :
    (((w.setCell ⟨b, k * 3, none⟩ (.bool (pc l k).ad)).setCell ⟨b, k * 3 + 1, none⟩ (.int .i64 (pc l k).fr)).setCell ⟨b, k * 3 + 2, none⟩ (.int .i64 (pc l k).sz)).rowIs b t n (ppart l (k + 1)) :=
  (((h.set (k * 3) _).set (k * 3 + 1) _).set (k * 3 + 2) _).congr (fun j _ => by
    by_cases e2 : j = k * 3 + 2
    · rw [if_pos e2]; subst e2; unfold ppart; rw [if_pos (by omega), pv2]
    rw [if_neg e2]
    by_cases e1 : j = k * 3 + 1
    · rw [if_pos e1]; subst e1; unfold ppart; rw [if_pos (by omega), pv1]
    rw [if_neg e1]
    by_cases e0 : j = k * 3
    · rw [if_pos e0]; subst e0; unfold ppart; rw [if_pos (by omega), pv0]
    rw [if_neg e0]
    unfold ppart
    by_cases hlt : j < k * 3
    · rw [if_pos hlt, if_pos (by omega)]
    · rw [if_neg hlt, if_neg (by omega)])

theorem row_ppart_end {w : World} {b : Nat} {t : TypeId} {l : List PC} (h : w.rowIs b t (l.length * 3) (ppart l l.length)) : w.rowIs b t (l.length * 3) (pv l) :=
  h.congr (fun i hi => by unfold ppart; rw [if_pos hi])

/-- Pieces lie at an address. -/
def PAt (w : World) (a : Option Addr) (l : List PC) : Prop :=
  l = [] ∨ ∃ b o, a = some ⟨b, o, none⟩ ∧ b < w.heap.size ∧ ∀ k, k < l.length → w.cell? ⟨b, o + k * 3, none⟩ = some (.bool (pc l k).ad) ∧ w.cell? ⟨b, o + k * 3 + 1, none⟩ = some (.int .i64 (pc l k).fr) ∧ w.cell? ⟨b, o + k * 3 + 2, none⟩ = some (.int .i64 (pc l k).sz)

theorem BAt.below {w w' : World} {a : Option Addr} {l : List Int} (h : BAt w a l) (hb : Below w.heap.size w w') : BAt w' a l := by
  rcases h with h | ⟨b, o, ha, hl, hc⟩
  · exact Or.inl h
  · exact Or.inr ⟨b, o, ha, Nat.lt_of_lt_of_le hl hb.size, fun k hk => (hb.cell hl).trans (hc k hk)⟩

theorem PAt.below {w w' : World} {a : Option Addr} {l : List PC} (h : PAt w a l) (hb : Below w.heap.size w w') : PAt w' a l := by
  rcases h with h | ⟨b, o, ha, hl, hc⟩
  · exact Or.inl h
  · exact Or.inr ⟨b, o, ha, Nat.lt_of_lt_of_le hl hb.size, fun k hk => ⟨(hb.cell hl).trans (hc k hk).1, (hb.cell hl).trans (hc k hk).2.1, (hb.cell hl).trans (hc k hk).2.2⟩⟩

theorem PAt.below_of {w w' : World} {a : Option Addr} {l : List PC} (h : PAt w a l) (hb : Below w.heap.size w w') : PAt w' a l := h.below hb

/-- What a copy of bytes holds when k of them are copied. -/
def part (l : List Int) (k j : Nat) : Value := if j < k then bv l j else .int .u8 0

theorem row_part_start (w : World) (l : List Int) (n : Nat) : (w.alloc (.cells (madeCells #[.int .u8 0] n) 5)).rowIs w.heap.size 5 n (part l 0) :=
  (World.rowIs_made w (.int .u8 0) n 5).congr (fun i _ => by simp [part])

theorem row_part_step {w : World} {b n k : Nat} {l : List Int} (h : w.rowIs b 5 n (part l k)) : (w.setCell ⟨b, k, none⟩ (bv l k)).rowIs b 5 n (part l (k + 1)) :=
  (h.set k _).congr (fun j _ => by
    by_cases e : j = k
    · subst e; simp [part]
    · by_cases hlt : j < k
      · rw [if_neg e]; unfold part; rw [if_pos hlt, if_pos (by omega)]
      · rw [if_neg e]; unfold part; rw [if_neg hlt, if_neg (by omega)])

theorem row_part_end {w : World} {b : Nat} {l : List Int} (h : w.rowIs b 5 l.length (part l l.length)) : w.rowIs b 5 l.length (bv l) :=
  h.congr (fun i hi => by unfold part; rw [if_pos hi])

theorem BAt.of_row {w : World} {b : Nat} {l : List Int} (h : w.rowIs b 5 l.length (bv l)) : BAt w (some ⟨b, 0, none⟩) l :=
  Or.inr ⟨b, 0, rfl, h.lt, fun k hk => by rw [Nat.zero_add]; exact h.cell hk⟩

theorem PAt.of_row {w : World} {b : Nat} {t : TypeId} {l : List PC} (h : w.rowIs b t (l.length * 3) (pv l)) : PAt w (some ⟨b, 0, none⟩) l :=
  Or.inr ⟨b, 0, rfl, h.lt, fun k hk => by
    simp only [Nat.zero_add]
    exact ⟨(h.cell (by omega)).trans (congrArg some (pv0 l k)), (h.cell (by omega)).trans (congrArg some (pv1 l k)), (h.cell (by omega)).trans (congrArg some (pv2 l k))⟩⟩

/-- make([]T, n) where T has three cells: a bool and two numbers. -/
theorem make_pieces {P : Program} (t e : TypeId) (ht : P.underlying t = some (.slice e)) (hinfo : (P.info? e).map (fun i => (i.zero, i.size, i.bytes)) = some (some (.agg #[.bool false, .int .i64 0, .int .i64 0]), 3, 24))
    (n : Nat) (hn : (n : Int) ≤ 1048576) (w : World) :
    (Instr.makeSlice t (.int .i64 (n : Int)) (.int .i64 (n : Int))).run P w = .ok (.slice (some ⟨w.heap.size, 0, none⟩) n n) (w.alloc (.cells (madeCells #[.bool false, .int .i64 0, .int .i64 0] (n * 3)) e)) := by
  obtain ⟨i, hi, hzz⟩ := Option.map_eq_some_iff.1 hinfo
  simp only [Prod.mk.injEq] at hzz
  obtain ⟨hz, hs, hb⟩ := hzz
  have hr := run_make (P := P) w t e i _ ht hi hz .i64 .i64 n n (by omega) (Int.le_refl _) (by rw [hb]; omega) (by omega)
  simp only [Int.toNat_natCast, hs] at hr
  exact hr

/-- The i-th of three cells. -/
def r3 (x y z : Value) (i : Nat) : Value := if i = 0 then x else if i = 1 then y else z

/-- A box of three cells. -/
theorem row3 (w : World) (t : TypeId) (x y z : Value) : (w.alloc (.cells #[x, y, z] t)).rowIs w.heap.size t 3 (r3 x y z) :=
  World.rowIs_alloc w #[x, y, z] t _ (fun i hi => by
    have h : i = 0 ∨ i = 1 ∨ i = 2 := by simp at hi; omega
    rcases h with rfl | rfl | rfl <;> simp [r3])

/-- A table: two stores of bytes, and pieces. -/
structure TB where
  base : List Int
  more : List Int
  pcs : List PC

/-- A value that reads as a table. -/
def TAt (w : World) (v : Value) (t : TB) : Prop := ∃ a1 a2 a3 c1 c2 c3, v = .agg #[.slice a1 t.base.length c1, .slice a2 t.more.length c2, .slice a3 t.pcs.length c3] ∧ BAt w a1 t.base ∧ BAt w a2 t.more ∧ PAt w a3 t.pcs

theorem TAt.below {w w' : World} {v : Value} {t : TB} (h : TAt w v t) (hb : Below w.heap.size w w') : TAt w' v t := by
  obtain ⟨a1, a2, a3, c1, c2, c3, hv, h1, h2, h3⟩ := h
  exact ⟨a1, a2, a3, c1, c2, c3, hv, h1.below hb, h2.below hb, h3.below hb⟩

/-- A value that reads as a table, the capacities with it. -/
def TAtC (w : World) (v : Value) (t : TB) : Prop := ∃ a1 a2 a3 c1 c2 c3, v = .agg #[.slice a1 t.base.length c1, .slice a2 t.more.length c2, .slice a3 t.pcs.length c3] ∧ BAt w a1 t.base ∧ BAt w a2 t.more ∧ PAt w a3 t.pcs ∧ t.base.length ≤ c1 ∧ t.more.length ≤ c2

theorem TAtC.at {w : World} {v : Value} {t : TB} (h : TAtC w v t) : TAt w v t := by
  obtain ⟨a1, a2, a3, c1, c2, c3, hv, h1, h2, h3, _, _⟩ := h
  exact ⟨a1, a2, a3, c1, c2, c3, hv, h1, h2, h3⟩

theorem TAtC.below {w w' : World} {v : Value} {t : TB} (h : TAtC w v t) (hb : Below w.heap.size w w') : TAtC w' v t := by
  obtain ⟨a1, a2, a3, c1, c2, c3, hv, h1, h2, h3, h4, h5⟩ := h
  exact ⟨a1, a2, a3, c1, c2, c3, hv, h1.below hb, h2.below hb, h3.below hb, h4, h5⟩

end Go.Proofs.YtaihlcfpkabonaaDoor
