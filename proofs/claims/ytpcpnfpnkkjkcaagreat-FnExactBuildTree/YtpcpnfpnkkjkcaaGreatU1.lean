/- Plain notions: bytes and pieces that lie in memory. -/
import Derived.WalkKit
import Derived.Deep.OwnRows
import Derived.Test.YtpcpnfpnkkjkcaaGreatProg
import Derived.WalkSpells
import Derived.WalkLawsBesides
import Derived.BigQuiet
import Derived.Deep.QuietTactic
import Derived.Deep.RegionHeld3
import Derived.WalkSmall
import Derived.Test.YtpcpnfpnkkjkcaaGreatChecked
import Derived.ProofKit
import Derived.OpenShut
import Derived.BigGuard
namespace Go.Proofs.YtpcpnfpnkkjkcaaGreat
open Go.RowKit
set_option linter.unusedVariables false

theorem Hid.mk' {p : Prop} (h : p) : Hid p := h

/-- The i-th of bytes, as a value. -/
def bv (l : List Int) (i : Nat) : Value := .int .u8 (l.getD i 0)

/-- Bytes lie at an address (none need lie there, if there are none). -/
def BAt (w : World) (a : Option Addr) (l : List Int) : Prop :=
  l = [] ∨ ∃ b o, a = some ⟨b, o, none⟩ ∧ b < w.heap.size ∧ ∀ k, k < l.length → w.cell? ⟨b, o + k, none⟩ = some (bv l k)

/-- A piece: is it of More, where, how many. -/
structure PC where
  ad : Bool
  fr : Int
  sz : Int

/-- The k-th of pieces. -/
def pc (l : List PC) (k : Nat) : PC := l.getD k ⟨false, 0, 0⟩

/-- The j-th cell of pieces, three a piece. -/
def pv (l : List PC) (j : Nat) : Value := if j % 3 = 0 then .bool (pc l (j / 3)).ad else if j % 3 = 1 then .int .i64 (pc l (j / 3)).fr else .int .i64 (pc l (j / 3)).sz

/-- The j-th cell of pieces that are zero. -/
def pz (j : Nat) : Value := if j % 3 = 0 then .bool false else .int .i64 0

/-- What a copy of pieces holds when k of them are copied. -/
def ppart (l : List PC) (k j : Nat) : Value := if j < k * 3 then pv l j else pz j

theorem pv0 (l : List PC) (k : Nat) : pv l (k * 3) = .bool (pc l k).ad := by
  unfold pv; rw [if_pos (by omega), show k * 3 / 3 = k from by omega]
theorem pv1 (l : List PC) (k : Nat) : pv l (k * 3 + 1) = .int .i64 (pc l k).fr := by
  unfold pv; rw [if_neg (by omega), if_pos (by omega), show (k * 3 + 1) / 3 = k from by omega]
theorem pv2 (l : List PC) (k : Nat) : pv l (k * 3 + 2) = .int .i64 (pc l k).sz := by
  unfold pv; rw [if_neg (by omega), if_neg (by omega), show (k * 3 + 2) / 3 = k from by omega]

theorem row_ppart_start (w : World) (t : TypeId) (l : List PC) (n : Nat) : (w.alloc (.cells (madeCells #[.bool false, .int .i64 0, .int .i64 0] (n * 3)) t)).rowIs w.heap.size t (n * 3) (ppart l 0) := by
  refine ⟨_, Deep.blk_alloc_new _ _, size_madeCells _ _, fun i hi => ?_⟩
  have h3 : i % 3 = 0 ∨ i % 3 = 1 ∨ i % 3 = 2 := by omega
  rcases h3 with h | h | h <;> simp [madeCells, hi, h, ppart, pz]

theorem row_ppart_step {w : World} {b n k : Nat} {t : TypeId} {l : List PC} (h : w.rowIs b t n (ppart l k)) :
    (((w.setCell ⟨b, k * 3, none⟩ (.bool (pc l k).ad)).setCell ⟨b, k * 3 + 1, none⟩ (.int .i64 (pc l k).fr)).setCell ⟨b, k * 3 + 2, none⟩ (.int .i64 (pc l k).sz)).rowIs b t n (ppart l (k + 1)) :=
  (((h.set (k * 3) _).set (k * 3 + 1) _).set (k * 3 + 2) _).congr (fun j _ => by
    by_cases e2 : j = k * 3 + 2
    · rw [if_pos e2]; subst e2; unfold ppart; rw [if_pos (by omega), pv2]
    rw [if_neg e2]
    by_cases e1 : j = k * 3 + 1
    · rw [if_pos e1]; subst e1; unfold ppart; rw [if_pos (by omega), pv1]
    rw [if_neg e1]
    by_cases e0 : j = k * 3
    · rw [if_pos e0]; subst e0; unfold ppart; rw [if_pos (by omega), pv0]
    rw [if_neg e0]
    unfold ppart
    by_cases hlt : j < k * 3
    · rw [if_pos hlt, if_pos (by omega)]
    · rw [if_neg hlt, if_neg (by omega)])

theorem row_ppart_end {w : World} {b : Nat} {t : TypeId} {l : List PC} (h : w.rowIs b t (l.length * 3) (ppart l l.length)) : w.rowIs b t (l.length * 3) (pv l) :=
  h.congr (fun i hi => by unfold ppart; rw [if_pos hi])

/-- Pieces lie at an address. -/
def PAt (w : World) (a : Option Addr) (l : List PC) : Prop :=
  l = [] ∨ ∃ b o, a = some ⟨b, o, none⟩ ∧ b < w.heap.size ∧ ∀ k, k < l.length → w.cell? ⟨b, o + k * 3, none⟩ = some (.bool (pc l k).ad) ∧ w.cell? ⟨b, o + k * 3 + 1, none⟩ = some (.int .i64 (pc l k).fr) ∧ w.cell? ⟨b, o + k * 3 + 2, none⟩ = some (.int .i64 (pc l k).sz)

theorem BAt.below {w w' : World} {a : Option Addr} {l : List Int} (h : BAt w a l) (hb : Below w.heap.size w w') : BAt w' a l := by
  rcases h with h | ⟨b, o, ha, hl, hc⟩
  · exact Or.inl h
  · exact Or.inr ⟨b, o, ha, Nat.lt_of_lt_of_le hl hb.size, fun k hk => (hb.cell hl).trans (hc k hk)⟩

theorem PAt.below {w w' : World} {a : Option Addr} {l : List PC} (h : PAt w a l) (hb : Below w.heap.size w w') : PAt w' a l := by
  rcases h with h | ⟨b, o, ha, hl, hc⟩
  · exact Or.inl h
  · exact Or.inr ⟨b, o, ha, Nat.lt_of_lt_of_le hl hb.size, fun k hk => ⟨(hb.cell hl).trans (hc k hk).1, (hb.cell hl).trans (hc k hk).2.1, (hb.cell hl).trans (hc k hk).2.2⟩⟩

theorem PAt.below_of {w w' : World} {a : Option Addr} {l : List PC} (h : PAt w a l) (hb : Below w.heap.size w w') : PAt w' a l := h.below hb

/-- What a copy of bytes holds when k of them are copied. -/
def part (l : List Int) (k j : Nat) : Value := if j < k then bv l j else .int .u8 0

theorem row_part_start (w : World) (l : List Int) (n : Nat) : (w.alloc (.cells (madeCells #[.int .u8 0] n) 5)).rowIs w.heap.size 5 n (part l 0) :=
  (World.rowIs_made w (.int .u8 0) n 5).congr (fun i _ => by simp [part])

theorem row_part_step {w : World} {b n k : Nat} {l : List Int} (h : w.rowIs b 5 n (part l k)) : (w.setCell ⟨b, k, none⟩ (bv l k)).rowIs b 5 n (part l (k + 1)) :=
  (h.set k _).congr (fun j _ => by
    by_cases e : j = k
    · subst e; simp [part]
    · by_cases hlt : j < k
      · rw [if_neg e]; unfold part; rw [if_pos hlt, if_pos (by omega)]
      · rw [if_neg e]; unfold part; rw [if_neg hlt, if_neg (by omega)])

theorem row_part_end {w : World} {b : Nat} {l : List Int} (h : w.rowIs b 5 l.length (part l l.length)) : w.rowIs b 5 l.length (bv l) :=
  h.congr (fun i hi => by unfold part; rw [if_pos hi])

theorem BAt.of_row {w : World} {b : Nat} {l : List Int} (h : w.rowIs b 5 l.length (bv l)) : BAt w (some ⟨b, 0, none⟩) l :=
  Or.inr ⟨b, 0, rfl, h.lt, fun k hk => by rw [Nat.zero_add]; exact h.cell hk⟩

theorem PAt.of_row {w : World} {b : Nat} {t : TypeId} {l : List PC} (h : w.rowIs b t (l.length * 3) (pv l)) : PAt w (some ⟨b, 0, none⟩) l :=
  Or.inr ⟨b, 0, rfl, h.lt, fun k hk => by
    simp only [Nat.zero_add]
    exact ⟨(h.cell (by omega)).trans (congrArg some (pv0 l k)), (h.cell (by omega)).trans (congrArg some (pv1 l k)), (h.cell (by omega)).trans (congrArg some (pv2 l k))⟩⟩

/-- make([]T, n) where T has three cells: a bool and two numbers. -/
theorem make_pieces {P : Program} (t e : TypeId) (ht : P.underlying t = some (.slice e)) (hinfo : (P.info? e).map (fun i => (i.zero, i.size, i.bytes)) = some (some (.agg #[.bool false, .int .i64 0, .int .i64 0]), 3, 24))
    (n : Nat) (hn : (n : Int) ≤ 1048576) (w : World) :
    (Instr.makeSlice t (.int .i64 (n : Int)) (.int .i64 (n : Int))).run P w = .ok (.slice (some ⟨w.heap.size, 0, none⟩) n n) (w.alloc (.cells (madeCells #[.bool false, .int .i64 0, .int .i64 0] (n * 3)) e)) := by
  obtain ⟨i, hi, hzz⟩ := Option.map_eq_some_iff.1 hinfo
  simp only [Prod.mk.injEq] at hzz
  obtain ⟨hz, hs, hb⟩ := hzz
  have hr := run_make (P := P) w t e i _ ht hi hz .i64 .i64 n n (by omega) (Int.le_refl _) (by rw [hb]; omega) (by omega)
  simp only [Int.toNat_natCast, hs] at hr
  exact hr

/-- The i-th of three cells. -/
def r3 (x y z : Value) (i : Nat) : Value := if i = 0 then x else if i = 1 then y else z

/-- A box of three cells. -/
theorem row3 (w : World) (t : TypeId) (x y z : Value) : (w.alloc (.cells #[x, y, z] t)).rowIs w.heap.size t 3 (r3 x y z) :=
  World.rowIs_alloc w #[x, y, z] t _ (fun i hi => by
    have h : i = 0 ∨ i = 1 ∨ i = 2 := by simp at hi; omega
    rcases h with rfl | rfl | rfl <;> simp [r3])

/-- A table: two stores of bytes, and pieces. -/
structure TB where
  base : List Int
  more : List Int
  pcs : List PC

/-- A value that reads as a table. -/
def TAt (w : World) (v : Value) (t : TB) : Prop := ∃ a1 a2 a3 c1 c2 c3, v = .agg #[.slice a1 t.base.length c1, .slice a2 t.more.length c2, .slice a3 t.pcs.length c3] ∧ BAt w a1 t.base ∧ BAt w a2 t.more ∧ PAt w a3 t.pcs

theorem TAt.below {w w' : World} {v : Value} {t : TB} (h : TAt w v t) (hb : Below w.heap.size w w') : TAt w' v t := by
  obtain ⟨a1, a2, a3, c1, c2, c3, hv, h1, h2, h3⟩ := h
  exact ⟨a1, a2, a3, c1, c2, c3, hv, h1.below hb, h2.below hb, h3.below hb⟩

/-- A value that reads as a table, the capacities with it. -/
def TAtC (w : World) (v : Value) (t : TB) : Prop := ∃ a1 a2 a3 c1 c2 c3, v = .agg #[.slice a1 t.base.length c1, .slice a2 t.more.length c2, .slice a3 t.pcs.length c3] ∧ BAt w a1 t.base ∧ BAt w a2 t.more ∧ PAt w a3 t.pcs ∧ t.base.length ≤ c1 ∧ t.more.length ≤ c2

theorem TAtC.at {w : World} {v : Value} {t : TB} (h : TAtC w v t) : TAt w v t := by
  obtain ⟨a1, a2, a3, c1, c2, c3, hv, h1, h2, h3, _, _⟩ := h
  exact ⟨a1, a2, a3, c1, c2, c3, hv, h1, h2, h3⟩

theorem TAtC.below {w w' : World} {v : Value} {t : TB} (h : TAtC w v t) (hb : Below w.heap.size w w') : TAtC w' v t := by
  obtain ⟨a1, a2, a3, c1, c2, c3, hv, h1, h2, h3, h4, h5⟩ := h
  exact ⟨a1, a2, a3, c1, c2, c3, hv, h1.below hb, h2.below hb, h3.below hb, h4, h5⟩

end Go.Proofs.YtpcpnfpnkkjkcaaGreat

/- Walks of small callees: the measure of a table, a piece copied and compared. -/
namespace Go.Proofs.YtpcpnfpnkkjkcaaGreat
open Go.RowKit
set_option linter.unusedVariables false

set_option maxHeartbeats 400000 in
theorem szByteS_any (a : Option Addr) (n c : Nat) (l : Int) (w : World) (h0 : 0 ≤ l) (h1 : l ≤ 1048576) (hn : (n : Int) ≤ 9223372036854775807) :
    Calls Tryz.prog 83 #[.slice a n c, .int .i64 l] w fun e w' => e = .returned (.int .i64 (if l < n then -1 else l - n)) ∧ w' = w := by
  go_enter Tryz.func83, Tryz.ntmps83
  go_wp2
  all_goals go_ret
  all_goals exact ⟨rfl, rfl⟩

theorem Tryz.info5 : (Tryz.prog.info? 5).map (fun i => (i.zero, i.size, i.bytes)) = some (some (.int .u8 0), 1, 1) := by kernel_rfl

set_option maxHeartbeats 400000 in
theorem toByteS_any (a : Option Addr) (c : Nat) (l : List Int) (w : World) (ha : BAt w a l) (hl : (l.length : Int) ≤ 1048576) :
    Calls Tryz.prog 91 #[.slice a l.length c] w fun e w' => ∃ b, e = .returned (.slice (some ⟨b, 0, none⟩) l.length l.length) ∧ w.heap.size ≤ b ∧ w'.rowIs b 5 l.length (bv l) ∧ Below w.heap.size w w' := by
  have hmk := run_make_row' (P := Tryz.prog) 87 5 (.int .u8 0) 1 Tryz.underlying87 Tryz.info5 rfl .i64 .i64 l.length (by omega) (by omega)
  go_enter Tryz.func91, Tryz.ntmps91
  go_wp2
  go_loopw [4] (fun i wr => ∃ k : Nat, k ≤ l.length ∧ i = .int .i64 k ∧ wr.rowIs w.heap.size 5 l.length (part l k) ∧ Below w.heap.size w wr) (fun i _ => l.length - (intOf i).toNat)
  case atStart => exact ⟨0, Nat.zero_le _, rfl, row_part_start w l _, (Below.refl _ _).alloc (Nat.le_refl _) _⟩
  case round =>
    obtain ⟨k, hk, rfl, hrow, hbl⟩ := hrel
    by_cases hlt : k < l.length
    · rcases ha with ha | ⟨b, o, rfl, hbs, hc⟩
      · exact absurd hlt (by rw [ha]; exact Nat.not_lt_zero _)
      obtain ⟨x, hx⟩ : ∃ x, bv l k = .int .u8 x := ⟨_, rfl⟩
      have h1 : wr.cell? ⟨b, o + k, none⟩ = some (.int .u8 x) := hx ▸ (hbl.cell hbs).trans (hc k hlt)
      have h2 : wr.cell? ⟨w.heap.size, k, none⟩ = some (.int .u8 0) := by rw [hrow.cell hlt]; simp [part]
      have h3 := hrow.frozen k
      have R1 := Hid.mk' (hx ▸ row_part_step hrow)
      have R2 := Hid.mk' (hbl.setCell (p := ⟨w.heap.size, k, none⟩) (Nat.le_refl _) (.int .u8 x))
      clear hrow hbl hmk hc hx
      go_wp2
      go_roundw
      case rel => exact ⟨k + 1, by omega, by go_num, R1.out, R2.out⟩
      case measure => simp [intOf]; omega
    · go_wp2
      go_ret
      have e : k = l.length := by omega
      subst e
      exact ⟨_, rfl, Nat.le_refl _, row_part_end hrow, hbl⟩

end Go.Proofs.YtpcpnfpnkkjkcaaGreat

/- Walks: pieces copied; bytes and pieces compared. -/
namespace Go.Proofs.YtpcpnfpnkkjkcaaGreat
open Go.RowKit
set_option linter.unusedVariables false

set_option maxHeartbeats 400000 in
theorem eqByteS_any (a b : Option Addr) (c d : Nat) (l : List Int) (w : World) (ha : BAt w a l) (hb : BAt w b l) (hl : (l.length : Int) ≤ 1048576) :
    Calls Tryz.prog 109 #[.slice a l.length c, .slice b l.length d] w fun e w' => e = .returned (.bool true) ∧ Below w.heap.size w w' := by
  go_enter Tryz.func109, Tryz.ntmps109
  go_wp2
  go_loopw [5] (fun i wr => ∃ k : Nat, k ≤ l.length ∧ i = .int .i64 k ∧ Below w.heap.size w wr) (fun i _ => l.length - (intOf i).toNat)
  case atStart => exact ⟨0, Nat.zero_le _, rfl, Below.refl _ _⟩
  case round =>
    obtain ⟨k, hk, rfl, hbl⟩ := hrel
    by_cases hlt : k < l.length
    · rcases ha with ha | ⟨b1, o1, rfl, hbs1, hc1⟩
      · exact absurd hlt (by rw [ha]; exact Nat.not_lt_zero _)
      rcases hb with hb | ⟨b2, o2, rfl, hbs2, hc2⟩
      · exact absurd hlt (by rw [hb]; exact Nat.not_lt_zero _)
      obtain ⟨x, hx⟩ : ∃ x, bv l k = .int .u8 x := ⟨_, rfl⟩
      have h1 : wr.cell? ⟨b1, o1 + k, none⟩ = some (.int .u8 x) := hx ▸ (hbl.cell hbs1).trans (hc1 k hlt)
      have h2 : wr.cell? ⟨b2, o2 + k, none⟩ = some (.int .u8 x) := hx ▸ (hbl.cell hbs2).trans (hc2 k hlt)
      have R2 := Hid.mk' hbl
      clear hbl hc1 hc2 hx
      go_wp2
      go_quiet (fail)
      go_wp2
      go_roundw
      case rel => exact ⟨k + 1, by omega, by go_num, below_drewN R2.out _⟩
      case measure => simp [intOf]; omega
    · go_wp2
      go_ret
      exact ⟨rfl, hbl⟩

/-- Behind a call that turns nothing old: each old cell reads as it did. -/
theorem bcell {W w1 : World} (hb : Below W.heap.size W w1) : (∀ b o, b < W.heap.size → w1.cell? ⟨b, o, none⟩ = W.cell? ⟨b, o, none⟩) ∧ (∀ b o, b < W.heap.size → w1.frozen? ⟨b, o, none⟩ = W.frozen? ⟨b, o, none⟩) :=
  ⟨fun b o h => hb.cell (p := ⟨b, o, none⟩) h, fun b o h => hb.frozen (p := ⟨b, o, none⟩) h⟩

theorem undrew {W w1 : World} (h : Below W.drew.heap.size W.drew w1) : Below W.heap.size W w1 := ⟨h.os, h.tape, h.output, h.size, h.block⟩

end Go.Proofs.YtpcpnfpnkkjkcaaGreat

/- Plain mathematics of tables: what is a fault, how many bytes the pieces have. -/
namespace Go.Proofs.YtpcpnfpnkkjkcaaGreat
open Go.RowKit
set_option linter.unusedVariables false

/-- How many bytes the store of a piece has. -/
def room (t : TB) (p : PC) : Int := if p.ad then t.more.length else t.base.length

/-- A piece lies in its store. -/
def lies (t : TB) (p : PC) : Bool := decide (0 ≤ p.fr) && decide (1 ≤ p.sz) && decide (p.sz ≤ room t p - p.fr)

def total : List PC → Int
  | [] => 0
  | p :: r => p.sz + total r

theorem total_append (a b : List PC) : total (a ++ b) = total a + total b := by
  induction a with
  | nil => simp [total]
  | cons p r ih => simp only [List.cons_append, total, ih]; omega

theorem take_snoc {α : Type} (l : List α) (k : Nat) (h : k < l.length) : l.take (k + 1) = l.take k ++ [l[k]] := List.take_succ_eq_append_getElem h

theorem pc_get (l : List PC) (k : Nat) (h : k < l.length) : pc l k = l[k] := by
  unfold pc; simp [h]

theorem total_take (l : List PC) (k : Nat) (h : k < l.length) : total (l.take (k + 1)) = total (l.take k) + (pc l k).sz := by
  rw [take_snoc l k h, total_append, pc_get l k h]; simp [total]

/-- The code of a table. -/
def fault (t : TB) : Int :=
  if 2000 < t.base.length ∨ 2000 < t.more.length ∨ 40 < t.pcs.length then 2
  else if t.pcs.all (lies t) then (if 240 < total t.pcs then 6 else 0) else 3

/-- Sizes that add up to little. -/
def Small (l : List PC) : Prop := l.length ≤ 40 ∧ ∀ k, k < l.length → 0 ≤ (pc l k).sz ∧ (pc l k).sz ≤ 2000

theorem Small.total_le {l : List PC} (h : Small l) : ∀ k, k ≤ l.length → 0 ≤ total (l.take k) ∧ total (l.take k) ≤ 2000 * k := by
  intro k
  induction k with
  | zero => intro _; simp [total]
  | succ k ih =>
    intro hk
    have h1 := ih (by omega)
    have h2 := h.2 k (by omega)
    rw [total_take l k (by omega)]
    omega

theorem lies_bounds {t : TB} {p : PC} (h : lies t p = true) : 0 ≤ p.fr ∧ 1 ≤ p.sz ∧ p.sz ≤ room t p - p.fr := by
  unfold lies at h
  simp at h
  omega

theorem small_of {t : TB} (h1 : ¬ 2000 < t.base.length) (h2 : ¬ 2000 < t.more.length) (h3 : ¬ 40 < t.pcs.length) (h : t.pcs.all (lies t) = true) : Small t.pcs := by
  refine ⟨by omega, fun k hk => ?_⟩
  rw [pc_get _ _ hk]
  have hl := lies_bounds (List.all_eq_true.1 h _ (List.getElem_mem hk))
  unfold room at hl
  split at hl <;> omega

/-- The pieces up to k lie right. -/
def upto (t : TB) (k : Nat) : Prop := ∀ j, j < k → lies t (pc t.pcs j) = true

theorem all_of_upto {t : TB} {k : Nat} (h : upto t k) (hk : t.pcs.length ≤ k) : t.pcs.all (lies t) = true := by
  rw [List.all_eq_true]
  intro p hp
  obtain ⟨j, hj, rfl⟩ := List.getElem_of_mem hp
  rw [← pc_get _ _ hj]
  exact h j (by omega)

theorem not_all {t : TB} {k : Nat} (hk : k < t.pcs.length) (h : lies t (pc t.pcs k) = false) : t.pcs.all (lies t) = false := by
  rw [List.all_eq_false]
  refine ⟨_, List.getElem_mem hk, ?_⟩
  rw [← pc_get _ _ hk, h]; simp

theorem upto_step {t : TB} {k : Nat} (h : upto t k) (hk : lies t (pc t.pcs k) = true) : upto t (k + 1) := by
  intro j hj
  by_cases e : j = k
  · subst e; exact hk
  · exact h j (by omega)

theorem fault_many {t : TB} (h : 2000 < t.base.length ∨ 2000 < t.more.length ∨ 40 < t.pcs.length) : fault t = 2 := by unfold fault; rw [if_pos h]
theorem fault_range {t : TB} (h1 : ¬ 2000 < t.base.length) (h2 : ¬ 2000 < t.more.length) (h3 : ¬ 40 < t.pcs.length) (h : t.pcs.all (lies t) = false) : fault t = 3 := by
  unfold fault; rw [if_neg (by omega), h]; rfl
theorem fault_large {t : TB} (h1 : ¬ 2000 < t.base.length) (h2 : ¬ 2000 < t.more.length) (h3 : ¬ 40 < t.pcs.length) (h : t.pcs.all (lies t) = true) (h4 : 240 < total t.pcs) : fault t = 6 := by
  unfold fault; rw [if_neg (by omega), h, if_pos h4]; rfl
theorem fault_ok {t : TB} (h1 : ¬ 2000 < t.base.length) (h2 : ¬ 2000 < t.more.length) (h3 : ¬ 40 < t.pcs.length) (h : t.pcs.all (lies t) = true) (h4 : ¬ 240 < total t.pcs) : fault t = 0 := by
  unfold fault; rw [if_neg (by omega), h, if_neg h4]; rfl

/-- What a table without a fault is. -/
theorem fault_zero {t : TB} (h : fault t = 0) : ¬ 2000 < t.base.length ∧ ¬ 2000 < t.more.length ∧ ¬ 40 < t.pcs.length ∧ t.pcs.all (lies t) = true ∧ total t.pcs ≤ 240 := by
  unfold fault at h
  split at h
  · simp at h
  · rename_i hn
    split at h
    · rename_i ha
      split at h
      · simp at h
      · exact ⟨by omega, by omega, by omega, ha, by omega⟩
    · simp at h

theorem fault_small {t : TB} (h : fault t = 0) : Small t.pcs := by
  obtain ⟨h1, h2, h3, h4, _⟩ := fault_zero h
  exact small_of h1 h2 h3 h4

/-- The size that is told beside the code. -/
def sizeVal (t : TB) : Int := if fault t = 0 then total t.pcs else 0

end Go.Proofs.YtpcpnfpnkkjkcaaGreat

/- Plain notions: slices that a call has made for itself, and what is kept while they are written. -/
namespace Go.Proofs.YtpcpnfpnkkjkcaaGreat
open Go.RowKit
set_option linter.unusedVariables false

/-- Of the blocks that are there only those from lo on and below hi may have turned. -/
structure KeptIn (lo hi : Nat) (w w' : World) : Prop where
  os : w'.os = w.os
  tape : w'.tape = w.tape
  output : w'.output = w.output
  size : w.heap.size ≤ w'.heap.size
  block : ∀ k, k < w.heap.size → (k < lo ∨ hi ≤ k) → w'.heap[k]? = w.heap[k]?

theorem KeptIn.refl (lo hi : Nat) (w : World) : KeptIn lo hi w w := ⟨rfl, rfl, rfl, Nat.le_refl _, fun _ _ _ => rfl⟩

theorem KeptIn.trans {lo hi : Nat} {a b c : World} (h : KeptIn lo hi a b) (k : KeptIn lo hi b c) : KeptIn lo hi a c :=
  ⟨k.os.trans h.os, k.tape.trans h.tape, k.output.trans h.output, Nat.le_trans h.size k.size, fun i hi' hc => (k.block i (Nat.lt_of_lt_of_le hi' h.size) hc).trans (h.block i hi' hc)⟩

theorem KeptIn.mono {lo hi lo' hi' : Nat} {a b : World} (h : KeptIn lo hi a b) (h1 : lo' ≤ lo) (h2 : hi ≤ hi') : KeptIn lo' hi' a b :=
  ⟨h.os, h.tape, h.output, h.size, fun i hi hc => h.block i hi (by omega)⟩

theorem KeptIn.of_below {lo hi : Nat} {a b : World} (h : Below a.heap.size a b) : KeptIn lo hi a b := ⟨h.os, h.tape, h.output, h.size, fun i hi _ => h.block i hi⟩

theorem KeptIn.below {lo hi B : Nat} {a b : World} (h : KeptIn lo hi a b) (h1 : B ≤ lo) (h2 : B ≤ a.heap.size) : Below B a b := ⟨h.os, h.tape, h.output, h.size, fun k hk => h.block k (by omega) (by omega)⟩

theorem KeptIn.setCell {lo hi : Nat} {a w : World} (h : KeptIn lo hi a w) {p : Addr} (hp : lo ≤ p.block) (hp' : p.block < hi) (u : Value) : KeptIn lo hi a (w.setCell p u) :=
  h.trans ⟨rfl, rfl, rfl, by simp [World.setCell], fun k hk hc => Below.heap_setCell _ _ _ _ (by omega)⟩

theorem KeptIn.alloc {lo hi : Nat} {a w : World} (h : KeptIn lo hi a w) (o : Obj) : KeptIn lo hi a (w.alloc o) :=
  h.trans ⟨rfl, rfl, rfl, by simp, fun k hk hc => Below.heap_alloc _ _ _ hk⟩

/-- Bytes in a row of one's own (or none, in none). -/
def OB (w : World) (v : Value) (l : List Int) : Prop := (v = .slice none 0 0 ∧ l = []) ∨
  ∃ g cap cn f, v = .slice (some ⟨g, 0, none⟩) l.length cap ∧ l.length ≤ cap ∧ w.rowIs g 5 cn f ∧ l.length ≤ cn ∧ ∀ i, i < l.length → f i = bv l i

/-- The row of a slice lies from lo on and below hi. -/
def In (lo hi : Nat) (v : Value) : Prop := ∀ k, v.ownBlock = some k → lo ≤ k ∧ k < hi

/-- Two slices have not one row. -/
def Ap (u v : Value) : Prop := ∀ k, u.ownBlock = some k → v.ownBlock = some k → False

theorem In.mono {lo hi lo' hi' : Nat} {v : Value} (h : In lo hi v) (h1 : lo' ≤ lo) (h2 : hi ≤ hi') : In lo' hi' v := fun k hk => by have := h k hk; omega
theorem In.nil (lo hi : Nat) : In lo hi (.slice none 0 0) := fun k hk => by simp [Value.ownBlock] at hk
theorem In.at {lo hi g n c : Nat} (h1 : lo ≤ g) (h2 : g < hi) : In lo hi (.slice (some ⟨g, 0, none⟩) n c) := fun k hk => by simp [Value.ownBlock] at hk; omega
theorem Ap.nil_left (v : Value) : Ap (.slice none 0 0) v := fun k hk => by simp [Value.ownBlock] at hk
theorem Ap.nil_right (v : Value) : Ap v (.slice none 0 0) := fun k _ hk => by simp [Value.ownBlock] at hk
theorem Ap.of_in {u v : Value} {a b c : Nat} (h1 : In a b u) (h2 : In b c v) : Ap u v := fun k hu hv => by have := h1 k hu; have := h2 k hv; omega
theorem Ap.symm {u v : Value} (h : Ap u v) : Ap v u := fun k hv hu => h k hu hv

theorem OB.keep {w w' : World} {v : Value} {l : List Int} (h : OB w v l) (hk : ∀ k, v.ownBlock = some k → k < w.heap.size → w'.heap[k]? = w.heap[k]?) : OB w' v l := by
  rcases h with h | ⟨g, cap, cn, f, rfl, hca, hr, hl, hf⟩
  · exact .inl h
  · exact .inr ⟨g, cap, cn, f, rfl, hca, hr.of_block (hk g rfl hr.lt), hl, hf⟩

theorem OB.len {w : World} {v : Value} {l : List Int} (h : OB w v l) : ∃ a c, v = .slice a l.length c ∧ BAt w a l := by
  rcases h with ⟨rfl, rfl⟩ | ⟨g, cap, cn, f, rfl, hca, hr, hl, hf⟩
  · exact ⟨none, 0, rfl, .inl rfl⟩
  · exact ⟨_, _, rfl, .inr ⟨g, 0, rfl, hr.lt, fun k hk => by rw [Nat.zero_add, hr.cell (by omega), hf k hk]⟩⟩

theorem OB.lt {w : World} {v : Value} {l : List Int} (h : OB w v l) : ∀ k, v.ownBlock = some k → k < w.heap.size := by
  rcases h with ⟨rfl, rfl⟩ | ⟨g, cap, cn, f, rfl, hca, hr, hl, hf⟩
  · intro k hk; simp [Value.ownBlock] at hk
  · intro k hk; simp [Value.ownBlock] at hk; subst hk; exact hr.lt

/-- The marks that a byte slice gets. -/
def mb (k n : Nat) : List Int := (List.range n).map fun (i : Nat) => ((k : Int) + (i : Int)) % 256

theorem mb_len (k n : Nat) : (mb k n).length = n := by simp [mb]
theorem bv_mb (k n i : Nat) (h : i < n) : bv (mb k n) i = .int .u8 (((k : Int) + (i : Int)) % 256) := by simp [bv, mb, h]

/-- The marks that a piece slice gets. -/
def mp (k n : Nat) : List PC := (List.range n).map fun (i : Nat) => ⟨(k : Int) % 3 == 0, (k : Int) + 3 * (i : Int) + 1, (k : Int) + 3 * (i : Int) + 1 + 1⟩

theorem mp_len (k n : Nat) : (mp k n).length = n := by simp [mp]
theorem pc_mp (k n i : Nat) (h : i < n) : pc (mp k n) i = ⟨(k : Int) % 3 == 0, (k : Int) + 3 * (i : Int) + 1, (k : Int) + 3 * (i : Int) + 1 + 1⟩ := by simp [pc, mp, h]

/-- A row of bytes of which the first i are marked. -/
def mpart (f : Nat → Value) (k i j : Nat) : Value := if j < i then .int .u8 (((k : Int) + (j : Int)) % 256) else f j

theorem mpart_step {w : World} {g cn k i : Nat} {f : Nat → Value} (h : w.rowIs g 5 cn (mpart f k i)) : (w.setCell ⟨g, i, none⟩ (.int .u8 (((k : Int) + (i : Int)) % 256))).rowIs g 5 cn (mpart f k (i + 1)) :=
  (h.set i _).congr (fun j _ => by
    by_cases e : j = i
    · subst e; rw [if_pos rfl]; unfold mpart; rw [if_pos (by omega)]
    · rw [if_neg e]; unfold mpart
      by_cases hlt : j < i
      · rw [if_pos hlt, if_pos (by omega)]
      · rw [if_neg hlt, if_neg (by omega)])

/-- A row of pieces of which the first i are marked. -/
def mppart (f : Nat → Value) (k n i j : Nat) : Value := if j < i * 3 then pv (mp k n) j else f j

/-- A table, marked from k on. -/
def mt (k : Nat) (t : TB) : TB := ⟨mb k t.base.length, mb (k + t.base.length) t.more.length, mp (k + t.base.length + t.more.length) t.pcs.length⟩

theorem rowB {w w' : World} {g n : Nat} {t : TypeId} {f : Nat → Value} (h : w.rowIs g t n f) (hb : Below w.heap.size w w') : w'.rowIs g t n f := h.of_block (hb.block _ h.lt)
theorem rowK {w w' : World} {g n lo hi : Nat} {t : TypeId} {f : Nat → Value} (h : w.rowIs g t n f) (hk : KeptIn lo hi w w') (hg : g < lo ∨ hi ≤ g) : w'.rowIs g t n f := h.of_block (hk.block _ h.lt hg)
theorem below_new (w : World) (o : Obj) : Below w.heap.size w (w.alloc o) := (Below.refl _ _).alloc (Nat.le_refl _) o

/-- The i-th of four cells. -/
def r4 (x y z u : Value) (i : Nat) : Value := if i = 0 then x else if i = 1 then y else if i = 2 then z else u

theorem row4 (w : World) (t : TypeId) (x y z u : Value) : (w.alloc (.cells #[x, y, z, u] t)).rowIs w.heap.size t 4 (r4 x y z u) :=
  World.rowIs_alloc w #[x, y, z, u] t _ (fun i hi => by
    have h : i = 0 ∨ i = 1 ∨ i = 2 ∨ i = 3 := by simp at hi; omega
    rcases h with rfl | rfl | rfl | rfl <;> simp [r4])

theorem cells4 {w : World} {g : Nat} {ty : TypeId} {x y z u : Value} (h : w.rowIs g ty 4 (r4 x y z u)) : w.cell? ⟨g, 0, none⟩ = some x ∧ w.cell? ⟨g, 1, none⟩ = some y ∧ w.cell? ⟨g, 2, none⟩ = some z ∧ w.cell? ⟨g, 3, none⟩ = some u ∧ g < w.heap.size :=
  ⟨h.cell (by omega), h.cell (by omega), h.cell (by omega), h.cell (by omega), h.lt⟩

/-- Of the blocks that are there only the row of v may have turned. -/
structure Turned (v : Value) (w w' : World) : Prop where
  os : w'.os = w.os
  tape : w'.tape = w.tape
  output : w'.output = w.output
  size : w.heap.size ≤ w'.heap.size
  block : ∀ k, k < w.heap.size → v.ownBlock ≠ some k → w'.heap[k]? = w.heap[k]?

theorem Turned.refl (v : Value) (w : World) : Turned v w w := ⟨rfl, rfl, rfl, Nat.le_refl _, fun _ _ _ => rfl⟩

theorem Turned.of_kept {g n c : Nat} {w w' : World} (h : KeptIn g (g + 1) w w') : Turned (.slice (some ⟨g, 0, none⟩) n c) w w' :=
  ⟨h.os, h.tape, h.output, h.size, fun k hk hne => h.block k hk (by have : g ≠ k := fun e => hne (by simp [Value.ownBlock, e]); omega)⟩

theorem Turned.kept {v : Value} {w w' : World} {lo hi : Nat} (h : Turned v w w') (hin : In lo hi v) : KeptIn lo hi w w' :=
  ⟨h.os, h.tape, h.output, h.size, fun k hk hc => h.block k hk (fun e => by have := hin k e; omega)⟩

theorem OB.turned {u v : Value} {w w' : World} {l : List Int} (h : OB w u l) (ht : Turned v w w') (ha : Ap u v) : OB w' u l := h.keep fun k e hl => ht.block k hl (fun e' => ha k e e')

theorem OB.below {u : Value} {w w' : World} {l : List Int} (h : OB w u l) (hb : Below w.heap.size w w') : OB w' u l := h.keep fun k e hl => hb.block k hl

theorem mt_len (k : Nat) (t : TB) : (mt k t).base.length = t.base.length ∧ (mt k t).more.length = t.more.length ∧ (mt k t).pcs.length = t.pcs.length := by simp [mt, mb_len, mp_len]

/-- How many marks a table takes. -/
def cnt (t : TB) : Nat := t.base.length + t.more.length + 3 * t.pcs.length

theorem OB.kept {u : Value} {w w' : World} {l : List Int} {lo hi a b : Nat} (h : OB w u l) (hin : In lo hi u) (hk : KeptIn a b w w') (hd : hi ≤ a ∨ b ≤ lo) : OB w' u l := h.keep fun k e hl => hk.block k hl (by have := hin k e; omega)

theorem kept3 (w : World) (g o1 o2 o3 : Nat) (v1 v2 v3 : Value) : KeptIn g (g + 1) w (((w.setCell ⟨g, o1, none⟩ v1).setCell ⟨g, o2, none⟩ v2).setCell ⟨g, o3, none⟩ v3) :=
  (((KeptIn.refl g (g + 1) w).setCell (p := ⟨g, o1, none⟩) (Nat.le_refl _) (Nat.lt_succ_self _) _).setCell (p := ⟨g, o2, none⟩) (Nat.le_refl _) (Nat.lt_succ_self _) _).setCell (p := ⟨g, o3, none⟩) (Nat.le_refl _) (Nat.lt_succ_self _) _

theorem kept4 (w : World) (g o1 o2 o3 o4 : Nat) (v1 v2 v3 v4 : Value) : KeptIn g (g + 1) w ((((w.setCell ⟨g, o1, none⟩ v1).setCell ⟨g, o2, none⟩ v2).setCell ⟨g, o3, none⟩ v3).setCell ⟨g, o4, none⟩ v4) :=
  (kept3 w g o1 o2 o3 v1 v2 v3).setCell (p := ⟨g, o4, none⟩) (Nat.le_refl _) (Nat.lt_succ_self _) _

theorem World.heap_size_setCell' (w : World) (a : Addr) (v : Value) : (w.setCell a v).heap.size = w.heap.size := by simp [World.setCell]
theorem World.heap_size_alloc' (w : World) (o : Obj) : (w.alloc o).heap.size = w.heap.size + 1 := by simp

theorem OB.none (w : World) : OB w (.slice none 0 0) [] := .inl ⟨rfl, rfl⟩

end Go.Proofs.YtpcpnfpnkkjkcaaGreat

/- Attributes and tokens that lie in memory; their sizes. -/
namespace Go.Proofs.YtpcpnfpnkkjkcaaGreat
open Go.RowKit
set_option linter.unusedVariables false

/-- An attribute: its name, its value. -/
structure AT where
  nm : ByteArray
  vl : List Int

/-- The k-th of attributes. -/
def atK (l : List AT) (k : Nat) : AT := l.getD k ⟨⟨#[]⟩, []⟩

/-- Attributes lie at an address. -/
def AAt (w : World) (a : Option Addr) (l : List AT) : Prop :=
  l = [] ∨ ∃ b o, a = some ⟨b, o, none⟩ ∧ b < w.heap.size ∧ ∀ k, k < l.length → w.cell? ⟨b, o + k * 2, none⟩ = some (.string (atK l k).nm) ∧ ∃ p c, w.cell? ⟨b, o + k * 2 + 1, none⟩ = some (.slice p (atK l k).vl.length c) ∧ BAt w p (atK l k).vl

theorem AAt.below {w w' : World} {a : Option Addr} {l : List AT} (h : AAt w a l) (hb : Below w.heap.size w w') : AAt w' a l := by
  rcases h with h | ⟨b, o, e, hs, hc⟩
  · exact .inl h
  · refine .inr ⟨b, o, e, Nat.lt_of_lt_of_le hs hb.size, fun k hk => ?_⟩
    obtain ⟨h1, p, c, h2, h3⟩ := hc k hk
    exact ⟨(hb.cell hs).trans h1, p, c, (hb.cell hs).trans h2, h3.below hb⟩

/-- The bytes of attributes, and their number. -/
def asz : List AT → Nat
  | [] => 0
  | x :: r => x.nm.size + x.vl.length + asz r

theorem asz_take (l : List AT) : ∀ k, k < l.length → asz (l.take (k + 1)) = asz (l.take k) + ((atK l k).nm.size + (atK l k).vl.length) := by
  induction l with
  | nil => intro k h; exact absurd h (Nat.not_lt_zero _)
  | cons x r ih =>
    intro k hk
    cases k with
    | zero => simp [asz, atK]
    | succ k =>
      have := ih k (by simpa using hk)
      simp only [List.take_succ_cons, asz]
      rw [this]
      have e : atK (x :: r) (k + 1) = atK r k := by simp [atK]
      rw [e]; omega

theorem asz_le (l : List AT) (k : Nat) : asz (l.take k) ≤ asz l := by
  induction l generalizing k with
  | nil => simp [asz]
  | cons x r ih =>
    cases k with
    | zero => simp [asz]
    | succ k => simp only [List.take_succ_cons, asz]; have := ih k; omega



theorem szAttr_any (s : ByteArray) (a : Option Addr) (n c : Nat) (l : Int) (w : World) (h0 : 0 ≤ l) (h1 : l ≤ 1048576) (hs : (s.size : Int) ≤ 9223372036854775807) (hn : (n : Int) ≤ 9223372036854775807) :
    Calls Tryz.prog 54 #[.agg #[.string s, .slice a n c], .int .i64 l] w fun e w' => e = .returned (.int .i64 (if l < (s.size : Int) + n then -1 else l - s.size - n)) ∧ Below w.heap.size w w' := by
  by_cases g1 : l < (s.size : Int)
  · rw [if_pos (by omega)]
    go_enter Tryz.func54, Tryz.ntmps54
    go_wp2
    go_ret
    exact ⟨rfl, (Below.refl _ _).alloc (Nat.le_refl _) _⟩
  by_cases g2 : l - (s.size : Int) < n
  · rw [if_pos (by omega)]
    go_enter Tryz.func54, Tryz.ntmps54
    go_wp2_with (go_at_call 83; refine (szByteS_any _ _ _ _ _ (by omega) (by omega) (by omega)).mono ?_; rintro e w' ⟨rfl, rfl⟩)
    go_ret
    exact ⟨rfl, (Below.refl _ _).alloc (Nat.le_refl _) _⟩
  · rw [if_neg (by omega)]
    go_enter Tryz.func54, Tryz.ntmps54
    go_wp2_with (go_at_call 83; refine (szByteS_any _ _ _ _ _ (by omega) (by omega) (by omega)).mono ?_; rintro e w' ⟨rfl, rfl⟩)
    go_ret
    exact ⟨rfl, (Below.refl _ _).alloc (Nat.le_refl _) _⟩

/-- The widest that a value or a name can be. -/
def Wide (l : List AT) : Prop := ∀ k, k < l.length → ((atK l k).nm.size : Int) ≤ 9223372036854775807 ∧ ((atK l k).vl.length : Int) ≤ 9223372036854775807

set_option maxHeartbeats 800000 in
theorem szAttrS_any (a : Option Addr) (c : Nat) (l : List AT) (z : Int) (w : World) (ha : AAt w a l) (hw : Wide l) (h0 : 0 ≤ z) (h1 : z ≤ 1048576) (hl : (l.length : Int) ≤ 9223372036854775807) :
    Calls Tryz.prog 32 #[.slice a l.length c, .int .i64 z] w fun e w' => e = .returned (.int .i64 (if z < (l.length : Int) + asz l then -1 else z - l.length - asz l)) ∧ Below w.heap.size w w' := by
  by_cases g1 : z < (l.length : Int)
  · rw [if_pos (by omega)]
    go_enter Tryz.func32, Tryz.ntmps32
    go_wp2
    go_ret
    exact ⟨rfl, Below.refl _ _⟩
  have HA := Hid.mk' ha
  have HW := Hid.mk' hw
  clear ha hw
  go_enter Tryz.func32, Tryz.ntmps32
  go_wp2
  go_loopw [1, 5] (fun x i wr => ∃ k : Nat, k ≤ l.length ∧ i = .int .i64 k ∧ x = .int .i64 (z - (l.length : Int) - (asz (l.take k) : Int)) ∧ (asz (l.take k) : Int) ≤ z - l.length ∧ Below w.heap.size w wr) (fun _ i _ => l.length - (intOf i).toNat)
  case atStart => exact ⟨0, Nat.zero_le _, rfl, by simp [asz], by simp [asz]; omega, Below.refl _ _⟩
  case round =>
    obtain ⟨k, hk, rfl, rfl, hz, hbl⟩ := hrel
    have HB := Hid.mk' hbl
    clear hbl
    by_cases hlt : k < l.length
    · have ci : (k : Int) < (l.length : Int) := by omega
      rcases HA.out.below HB.out with ha | ⟨b, o, rfl, hbs, hc⟩
      · exact absurd hlt (by rw [ha]; exact Nat.not_lt_zero _)
      obtain ⟨q1, p, d, q2, _⟩ := hc k hlt
      obtain ⟨w1, w2⟩ := HW.out k hlt
      have st := asz_take l k hlt
      have KA := Hid.mk' (szAttr_any (atK l k).nm p (atK l k).vl.length d (z - (l.length : Int) - (asz (l.take k) : Int)) wr (by omega) (by omega) w1 w2)
      generalize hn1 : (atK l k).nm = nm at *
      generalize hn2 : (atK l k).vl.length = n at *
      generalize hy : z - (l.length : Int) - (asz (l.take k) : Int) = y at *
      clear hc
      by_cases g2 : y < (nm.size : Int) + n
      · rw [if_pos g2] at KA
        have gz : z < (l.length : Int) + asz l := by have := asz_le l (k + 1); omega
        go_wp2_with fail
        refine KA.out.mono ?_
        rintro e w1 ⟨rfl, hb⟩
        have HB := Hid.mk' (HB.out.trans (hb.mono HB.out.size))
        clear hb KA
        go_wp2
        go_ret
        exact ⟨by first | rfl | (rw [if_pos gz]; rfl), HB.out⟩
      · rw [if_neg g2] at KA
        have gy : ¬ (y - (nm.size : Int) - n < 0) := by omega
        go_wp2_with fail
        refine KA.out.mono ?_
        rintro e w1 ⟨rfl, hb⟩
        have HB := Hid.mk' (HB.out.trans (hb.mono HB.out.size))
        clear hb KA
        go_wp2
        go_roundw
        case rel => exact ⟨k + 1, by omega, by go_num, by congr 1; omega, by omega, HB.out⟩
        case measure => simp [intOf]; omega
    · have ci : ¬ (k : Int) < (l.length : Int) := by omega
      have e : k = l.length := by omega
      subst e
      rw [List.take_length] at hz
      go_wp2
      go_ret
      exact ⟨by first | rfl | (simp; done) | (rw [if_neg (by omega)]; simp), HB.out⟩

/-- A token. -/
structure TK where
  kd : Int
  by_ : Int
  nm : ByteArray
  at_ : List AT
  sh : Bool

/-- A token's value. -/
def tkV (t : TK) (a : Option Addr) (c : Nat) : Value := .agg #[.int .i64 t.kd, .int .i64 t.by_, .string t.nm, .slice a t.at_.length c, .bool t.sh]

set_option maxHeartbeats 800000 in
theorem szToken_any (t : TK) (a : Option Addr) (c : Nat) (w : World) (ha : AAt w a t.at_) (hw : Wide t.at_) (hn : (t.nm.size : Int) ≤ 9223372036854775807) (hl : (t.at_.length : Int) ≤ 9223372036854775807) :
    Calls Tryz.prog 7 #[.agg #[.int .i64 t.kd, .int .i64 t.by_, .string t.nm, .slice a t.at_.length c, .bool t.sh], .int .i64 1048576] w fun e w' => e = .returned (.int .i64 (if 1048576 < (t.nm.size : Int) + t.at_.length + asz t.at_ then -1 else 1048576 - t.nm.size - t.at_.length - asz t.at_)) ∧ Below w.heap.size w w' := by
  by_cases g1 : 1048576 < (t.nm.size : Int)
  · rw [if_pos (by omega)]
    go_enter Tryz.func7, Tryz.ntmps7
    go_wp2
    go_ret
    exact ⟨rfl, (Below.refl _ _).alloc (Nat.le_refl _) _⟩
  have N0 := below_new w (.cells #[.int .i64 t.kd, .int .i64 t.by_, .string t.nm, .slice a t.at_.length c, .bool t.sh] 28)
  have KA := Hid.mk' (szAttrS_any a c t.at_ (1048576 - (t.nm.size : Int)) _ (ha.below N0) hw (by omega) (by omega) hl)
  have HB := Hid.mk' N0
  clear N0 ha hw
  by_cases g2 : 1048576 - (t.nm.size : Int) < (t.at_.length : Int) + asz t.at_
  · rw [if_pos g2] at KA
    rw [if_pos (by omega)]
    go_enter Tryz.func7, Tryz.ntmps7
    go_wp2_with fail
    refine KA.out.mono ?_
    rintro e w1 ⟨rfl, hb⟩
    have HB := Hid.mk' (HB.out.trans (hb.mono HB.out.size))
    clear hb KA
    go_wp2
    go_ret
    exact ⟨rfl, HB.out⟩
  · rw [if_neg g2] at KA
    rw [if_neg (by omega)]
    go_enter Tryz.func7, Tryz.ntmps7
    go_wp2_with fail
    refine KA.out.mono ?_
    rintro e w1 ⟨rfl, hb⟩
    have HB := Hid.mk' (HB.out.trans (hb.mono HB.out.size))
    clear hb KA
    have gy : ¬ (1048576 - (t.nm.size : Int) - t.at_.length - asz t.at_ < 0) := by omega
    go_wp2
    go_ret
    exact ⟨rfl, HB.out⟩

end Go.Proofs.YtpcpnfpnkkjkcaaGreat

/- Walks: attributes and tokens copied. -/
namespace Go.Proofs.YtpcpnfpnkkjkcaaGreat
open Go.RowKit
set_option linter.unusedVariables false

theorem Tryz.info106 : (Tryz.prog.info? 106).map (fun i => (i.zero, i.size, i.bytes)) = some (some (.agg #[.string ⟨#[]⟩, .slice none 0 0]), 2, 40) := by kernel_rfl

theorem make_attrs {P : Program} (t e : TypeId) (ht : P.underlying t = some (.slice e)) (hinfo : (P.info? e).map (fun i => (i.zero, i.size, i.bytes)) = some (some (.agg #[.string ⟨#[]⟩, .slice none 0 0]), 2, 40))
    (n : Nat) (hn : (n : Int) ≤ 1048576) (w : World) :
    (Instr.makeSlice t (.int .i64 (n : Int)) (.int .i64 (n : Int))).run P w = .ok (.slice (some ⟨w.heap.size, 0, none⟩) n n) (w.alloc (.cells (madeCells #[.string ⟨#[]⟩, .slice none 0 0] (n * 2)) e)) := by
  obtain ⟨i, hi, hzz⟩ := Option.map_eq_some_iff.1 hinfo
  simp only [Prod.mk.injEq] at hzz
  obtain ⟨hz, hs, hb⟩ := hzz
  have hr := run_make (P := P) w t e i _ ht hi hz .i64 .i64 n n (by omega) (Int.le_refl _) (by rw [hb]; omega) (by omega)
  simp only [Int.toNat_natCast, hs] at hr
  exact hr

/-- The i-th of two cells. -/
def p2 (x y : Value) (i : Nat) : Value := if i = 0 then x else y

theorem rowp2 (w : World) (t : TypeId) (x y : Value) : (w.alloc (.cells #[x, y] t)).rowIs w.heap.size t 2 (p2 x y) :=
  ⟨_, Deep.blk_alloc_new _ _, rfl, fun i hi => by
    have : i = 0 ∨ i = 1 := by omega
    rcases this with rfl | rfl <;> rfl⟩

theorem cells2 {w : World} {g : Nat} {ty : TypeId} {x y : Value} (h : w.rowIs g ty 2 (p2 x y)) : w.cell? ⟨g, 0, none⟩ = some x ∧ w.cell? ⟨g, 1, none⟩ = some y ∧ g < w.heap.size :=
  ⟨h.cell (by omega), h.cell (by omega), h.lt⟩

set_option maxHeartbeats 800000 in
theorem toAttr_any (s : ByteArray) (a : Option Addr) (c : Nat) (l : List Int) (w : World) (ha : BAt w a l) (hl : (l.length : Int) ≤ 1048576) :
    Calls Tryz.prog 68 #[.agg #[.string s, .slice a l.length c]] w fun e w' => ∃ b, e = .returned (.agg #[.string s, .slice (some ⟨b, 0, none⟩) l.length l.length]) ∧ w.heap.size ≤ b ∧ w'.rowIs b 5 l.length (bv l) ∧ Below w.heap.size w w' := by
  have B0 := ((Below.refl w.heap.size w).alloc (Nat.le_refl _) (.cells #[.string s, .slice a l.length c] 92)).alloc (by simp) (.cells #[.string ⟨#[]⟩, .slice none 0 0] 106)
  have B1 := B0.alloc (by simp; omega) (.cells #[.string s, .slice none 0 0] 106)
  have RR := (rowp2 (w.alloc (.cells #[.string s, .slice a l.length c] 92)) 106 (.string ⟨#[]⟩) (.slice none 0 0)).alloc (.cells #[.string s, .slice none 0 0] 106)
  have RO := rowp2 ((w.alloc (.cells #[.string s, .slice a l.length c] 92)).alloc (.cells #[.string ⟨#[]⟩, .slice none 0 0] 106)) 106 (.string s) (.slice none 0 0)
  have RP := ((rowp2 w 92 (.string s) (.slice a l.length c)).alloc (.cells #[.string ⟨#[]⟩, .slice none 0 0] 106)).alloc (.cells #[.string s, .slice none 0 0] 106)
  have KB := Hid.mk' (toByteS_any a c l _ (ha.below B1) hl)
  have HB := Hid.mk' B1
  have z1 : (w.alloc (.cells #[.string s, .slice a l.length c] 92)).heap.size = w.heap.size + 1 := by simp
  have z2 : ((w.alloc (.cells #[.string s, .slice a l.length c] 92)).alloc (.cells #[.string ⟨#[]⟩, .slice none 0 0] 106)).heap.size = w.heap.size + 1 + 1 := by simp
  have z3 : (((w.alloc (.cells #[.string s, .slice a l.length c] 92)).alloc (.cells #[.string ⟨#[]⟩, .slice none 0 0] 106)).alloc (.cells #[.string s, .slice none 0 0] 106)).heap.size = w.heap.size + 1 + 1 + 1 := by simp
  rw [z1] at RR
  rw [z2] at RO
  have HR := Hid.mk' RR
  have HO := Hid.mk' RO
  have Z3 := Hid.mk' z3
  have HP := Hid.mk' RP
  clear ha B0 B1 RR RO RP z1 z2 z3
  generalize hW : ((w.alloc (.cells #[.string s, .slice a l.length c] 92)).alloc (.cells #[.string ⟨#[]⟩, .slice none 0 0] 106)).alloc (.cells #[.string s, .slice none 0 0] 106) = W at *
  obtain ⟨p0, p1, p3⟩ := cells2 HP.out
  go_enter Tryz.func68, Tryz.ntmps68
  go_wp2_with fail
  clear hW
  refine KB.out.mono ?_
  rintro e w1 ⟨b, rfl, hb, hrow, hbl⟩
  have Ho := rowB HO.out hbl
  have Hr := rowB HR.out hbl
  obtain ⟨o0, o1, o2⟩ := cells2 Ho
  obtain ⟨r0, r1, r2⟩ := cells2 Hr
  have fo := Ho.frozen 1
  have fr0 := Hr.frozen 0
  have fr1 := Hr.frozen 1
  have KK : Hid (KeptIn (w.heap.size + 1) (w.heap.size + 1 + 1 + 1) w1 (((w1.setCell ⟨w.heap.size + 1 + 1, 1, none⟩ (.slice (some ⟨b, 0, none⟩) l.length l.length)).setCell ⟨w.heap.size + 1, 0, none⟩ (.string s)).setCell ⟨w.heap.size + 1, 1, none⟩ (.slice (some ⟨b, 0, none⟩) l.length l.length))) :=
    (((KeptIn.refl _ _ w1).setCell (p := ⟨w.heap.size + 1 + 1, 1, none⟩) (by simp) (by simp) _).setCell (p := ⟨w.heap.size + 1, 0, none⟩) (by simp) (by simp) _).setCell (p := ⟨w.heap.size + 1, 1, none⟩) (by simp) (by simp) _
  have HW := Hid.mk' hrow
  have HL := Hid.mk' hbl
  have hb' : w.heap.size + 1 + 1 + 1 ≤ b := by have := Z3.out; omega
  have hwl : w.heap.size + 1 ≤ w1.heap.size := by have := Z3.out; have := hbl.size; omega
  clear hrow hbl Ho Hr KB HO HR hb
  go_wp2
  refine bodyPost_ret (v := .agg #[.string s, .slice (some ⟨b, 0, none⟩) l.length l.length]) (by simp [results, Tryz.results68, go_sem, *]) rfl ?_
  exact ⟨b, rfl, by omega, rowK HW.out KK.out (.inr hb'), (HB.out.trans (HL.out.mono HB.out.size)).trans (KK.out.below (by omega) (by omega))⟩

/-- Attributes being copied into a row of one's own: k of them are there. -/
structure AR (w : World) (l : List AT) (k : Nat) (wr : World) : Prop where
  bl : Below w.heap.size w wr
  row : ∃ f, wr.rowIs w.heap.size 106 (l.length * 2) f ∧ ∀ j, j < k → f (j * 2) = .string (atK l j).nm ∧ ∃ b, f (j * 2 + 1) = .slice (some ⟨b, 0, none⟩) (atK l j).vl.length (atK l j).vl.length ∧ w.heap.size < b ∧ wr.rowIs b 5 (atK l j).vl.length (bv (atK l j).vl)

theorem AR.start (w : World) (l : List AT) : AR w l 0 (w.alloc (.cells (madeCells #[.string ⟨#[]⟩, .slice none 0 0] (l.length * 2)) 106)) := by
  refine ⟨(Below.refl _ _).alloc (Nat.le_refl _) _, fun i => p2 (.string ⟨#[]⟩) (.slice none 0 0) (i % 2), ?_, fun j hj => absurd hj (Nat.not_lt_zero _)⟩
  refine ⟨_, Deep.blk_alloc_new _ _, size_madeCells _ _, fun i hi => ?_⟩
  have h : i % 2 = 0 ∨ i % 2 = 1 := by omega
  rcases h with h | h <;> simp [madeCells, hi, h, p2]

theorem AR.below {w wr w1 : World} {l : List AT} {k : Nat} (h : AR w l k wr) (hb : Below wr.heap.size wr w1) : AR w l k w1 := by
  obtain ⟨f, hf, hj⟩ := h.row
  refine ⟨h.bl.trans (hb.mono h.bl.size), f, rowB hf hb, fun j hk => ?_⟩
  obtain ⟨h1, b, h2, h3, h4⟩ := hj j hk
  exact ⟨h1, b, h2, h3, rowB h4 hb⟩

theorem AR.step {w wr : World} {l : List AT} {k b : Nat} (h : AR w l k wr) (hb : w.heap.size < b) (hrow : wr.rowIs b 5 (atK l k).vl.length (bv (atK l k).vl)) :
    AR w l (k + 1) ((wr.setCell ⟨w.heap.size, k * 2, none⟩ (.string (atK l k).nm)).setCell ⟨w.heap.size, k * 2 + 1, none⟩ (.slice (some ⟨b, 0, none⟩) (atK l k).vl.length (atK l k).vl.length)) := by
  obtain ⟨f, hf, hj⟩ := h.row
  have K : KeptIn w.heap.size (w.heap.size + 1) wr ((wr.setCell ⟨w.heap.size, k * 2, none⟩ (.string (atK l k).nm)).setCell ⟨w.heap.size, k * 2 + 1, none⟩ (.slice (some ⟨b, 0, none⟩) (atK l k).vl.length (atK l k).vl.length)) :=
    ((KeptIn.refl _ _ wr).setCell (p := ⟨w.heap.size, k * 2, none⟩) (Nat.le_refl _) (Nat.lt_succ_self _) _).setCell (p := ⟨w.heap.size, k * 2 + 1, none⟩) (Nat.le_refl _) (Nat.lt_succ_self _) _
  refine ⟨h.bl.trans (K.below (Nat.le_refl _) h.bl.size), _, (hf.set (k * 2) _).set (k * 2 + 1) _, fun j hk => ?_⟩
  by_cases e : j = k
  · subst e
    refine ⟨?_, b, ?_, hb, rowK hrow K (.inr hb)⟩
    · rw [if_neg (by omega), if_pos rfl]
    · rw [if_pos rfl]
  · obtain ⟨h1, b', h2, h3, h4⟩ := hj j (by omega)
    refine ⟨?_, b', ?_, h3, rowK h4 K (.inr h3)⟩
    · rw [if_neg (by omega), if_neg (by omega)]; exact h1
    · rw [if_neg (by omega), if_neg (by omega)]; exact h2

theorem AR.at {w wr : World} {l : List AT} (h : AR w l l.length wr) : AAt wr (some ⟨w.heap.size, 0, none⟩) l := by
  obtain ⟨f, hf, hj⟩ := h.row
  refine .inr ⟨_, _, rfl, hf.lt, fun k hk => ?_⟩
  obtain ⟨h1, b, h2, h3, h4⟩ := hj k hk
  have c1 : wr.cell? ⟨w.heap.size, k * 2, none⟩ = some (f (k * 2)) := hf.cell (by omega)
  have c2 : wr.cell? ⟨w.heap.size, k * 2 + 1, none⟩ = some (f (k * 2 + 1)) := hf.cell (by omega)
  refine ⟨by rw [Nat.zero_add, c1, h1], _, _, by rw [Nat.zero_add, c2, h2], ?_⟩
  exact .inr ⟨b, 0, rfl, h4.lt, fun i hi => by rw [Nat.zero_add]; exact h4.cell hi⟩

set_option maxHeartbeats 800000 in
theorem toAttrS_any (a : Option Addr) (c : Nat) (l : List AT) (w : World) (ha : AAt w a l) (hl : (l.length : Int) + asz l ≤ 1048576) :
    Calls Tryz.prog 39 #[.slice a l.length c] w fun e w' => e = .returned (.slice (some ⟨w.heap.size, 0, none⟩) l.length l.length) ∧ AR w l l.length w' := by
  have hmk := make_attrs (P := Tryz.prog) 38 106 Tryz.underlying38 Tryz.info106 l.length (by omega)
  have HA := Hid.mk' ha
  clear ha
  go_enter Tryz.func39, Tryz.ntmps39
  go_wp2
  go_loopw [4] (fun i wr => ∃ k : Nat, k ≤ l.length ∧ i = .int .i64 k ∧ AR w l k wr) (fun i _ => l.length - (intOf i).toNat)
  case atStart => exact ⟨0, Nat.zero_le _, rfl, AR.start w l⟩
  case round =>
    obtain ⟨k, hk, rfl, hr⟩ := hrel
    have HR := Hid.mk' hr
    clear hr hmk
    by_cases hlt : k < l.length
    · have ci : (k : Int) < (l.length : Int) := by omega
      rcases HA.out with ha | ⟨b, o, rfl, hbs, hc⟩
      · exact absurd hlt (by rw [ha]; exact Nat.not_lt_zero _)
      obtain ⟨q1, p, d, q2, q3⟩ := hc k hlt
      have h1 : wr.cell? ⟨b, o + k * 2, none⟩ = some (.string (atK l k).nm) := (HR.out.bl.cell hbs).trans q1
      have h2 : wr.cell? ⟨b, o + k * 2 + 1, none⟩ = some (.slice p (atK l k).vl.length d) := (HR.out.bl.cell hbs).trans q2
      have h3 : BAt wr p (atK l k).vl := by
        rcases q3 with q | ⟨b', o', e, hb', hc'⟩
        · exact .inl q
        · exact .inr ⟨b', o', e, Nat.lt_of_lt_of_le hb' HR.out.bl.size, fun i hi => (HR.out.bl.cell hb').trans (hc' i hi)⟩
      have st := asz_take l k hlt
      have sl := asz_le l (k + 1)
      have KA := Hid.mk' (toAttr_any (atK l k).nm p d (atK l k).vl wr h3 (by omega))
      clear h3 q1 q2 q3 hc st sl
      go_wp2_with fail
      refine KA.out.mono ?_
      rintro e w1 ⟨g, rfl, hg, hrow, hbl⟩
      have hr1 := HR.out.below hbl
      obtain ⟨f, hf, _⟩ := hr1.row
      have f0 := hf.frozen (k * 2)
      have f1 := hf.frozen (k * 2 + 1)
      obtain ⟨v0, g0⟩ : ∃ v, w1.cell? ⟨w.heap.size, k * 2, none⟩ = some v := ⟨_, hf.cell (by omega)⟩
      obtain ⟨v1, g1⟩ : ∃ v, w1.cell? ⟨w.heap.size, k * 2 + 1, none⟩ = some v := ⟨_, hf.cell (by omega)⟩
      have hgl : w.heap.size < g := by obtain ⟨f', hf', _⟩ := HR.out.row; have := hf'.lt; omega
      have R1 := Hid.mk' (hr1.step hgl hrow)
      clear hr1 hf hrow hbl KA h1 h2 hg
      go_wp2
      go_roundw
      case rel => exact ⟨k + 1, by omega, by go_num, R1.out⟩
      case measure => simp [intOf]; omega
    · have ci : ¬ (k : Int) < (l.length : Int) := by omega
      have e : k = l.length := by omega
      subst e
      go_wp2
      go_ret
      exact ⟨rfl, HR.out⟩

end Go.Proofs.YtpcpnfpnkkjkcaaGreat

/- Walks: a token copied; attributes and tokens compared. -/
namespace Go.Proofs.YtpcpnfpnkkjkcaaGreat
open Go.RowKit
set_option linter.unusedVariables false

/-- The i-th of five cells. -/
def r5 (x y z u v : Value) (i : Nat) : Value := if i = 0 then x else if i = 1 then y else if i = 2 then z else if i = 3 then u else v

theorem row5 (w : World) (t : TypeId) (x y z u v : Value) : (w.alloc (.cells #[x, y, z, u, v] t)).rowIs w.heap.size t 5 (r5 x y z u v) :=
  ⟨_, Deep.blk_alloc_new _ _, rfl, fun i hi => by
    have : i = 0 ∨ i = 1 ∨ i = 2 ∨ i = 3 ∨ i = 4 := by omega
    rcases this with rfl | rfl | rfl | rfl | rfl <;> rfl⟩

theorem cells5 {w : World} {g : Nat} {ty : TypeId} {x y z u v : Value} (h : w.rowIs g ty 5 (r5 x y z u v)) : w.cell? ⟨g, 0, none⟩ = some x ∧ w.cell? ⟨g, 1, none⟩ = some y ∧ w.cell? ⟨g, 2, none⟩ = some z ∧ w.cell? ⟨g, 3, none⟩ = some u ∧ w.cell? ⟨g, 4, none⟩ = some v ∧ g < w.heap.size :=
  ⟨h.cell (by omega), h.cell (by omega), h.cell (by omega), h.cell (by omega), h.cell (by omega), h.lt⟩

/-- A row of attributes of one's own at g; the bytes of each one behind it. -/
def AO (g : Nat) (l : List AT) (w : World) : Prop := ∃ f, w.rowIs g 106 (l.length * 2) f ∧ ∀ j, j < l.length → f (j * 2) = .string (atK l j).nm ∧ ∃ b, f (j * 2 + 1) = .slice (some ⟨b, 0, none⟩) (atK l j).vl.length (atK l j).vl.length ∧ g < b ∧ w.rowIs b 5 (atK l j).vl.length (bv (atK l j).vl)

theorem AO.below {g : Nat} {l : List AT} {w w1 : World} (h : AO g l w) (hb : Below w.heap.size w w1) : AO g l w1 := by
  obtain ⟨f, hf, hj⟩ := h
  refine ⟨f, rowB hf hb, fun j hk => ?_⟩
  obtain ⟨h1, b, h2, h3, h4⟩ := hj j hk
  exact ⟨h1, b, h2, h3, rowB h4 hb⟩

theorem AO.of {w wr w1 : World} {l : List AT} {lo hi : Nat} (h : AR w l l.length wr) (hk : KeptIn lo hi wr w1) (hhi : hi ≤ w.heap.size) : AO w.heap.size l w1 := by
  obtain ⟨f, hf, hj⟩ := h.row
  refine ⟨f, rowK hf hk (.inr hhi), fun j hjk => ?_⟩
  obtain ⟨h1, b, h2, h3, h4⟩ := hj j hjk
  exact ⟨h1, b, h2, h3, rowK h4 hk (.inr (by omega))⟩

theorem AO.at {g : Nat} {l : List AT} {w : World} (h : AO g l w) : AAt w (some ⟨g, 0, none⟩) l := by
  obtain ⟨f, hf, hj⟩ := h
  refine .inr ⟨_, _, rfl, hf.lt, fun k hk => ?_⟩
  obtain ⟨h1, b, h2, h3, h4⟩ := hj k hk
  have c1 : w.cell? ⟨g, k * 2, none⟩ = some (f (k * 2)) := hf.cell (by omega)
  have c2 : w.cell? ⟨g, k * 2 + 1, none⟩ = some (f (k * 2 + 1)) := hf.cell (by omega)
  refine ⟨by rw [Nat.zero_add, c1, h1], _, _, by rw [Nat.zero_add, c2, h2], ?_⟩
  exact .inr ⟨b, 0, rfl, h4.lt, fun i hi => by rw [Nat.zero_add]; exact h4.cell hi⟩

set_option maxHeartbeats 1600000 in
theorem toToken_any (t : TK) (a : Option Addr) (c : Nat) (w : World) (ha : AAt w a t.at_) (hl : (t.at_.length : Int) + asz t.at_ ≤ 1048576) :
    Calls Tryz.prog 10 #[.agg #[.int .i64 t.kd, .int .i64 t.by_, .string t.nm, .slice a t.at_.length c, .bool t.sh]] w fun e w' => ∃ g, e = .returned (.agg #[.int .i64 t.kd, .int .i64 t.by_, .string t.nm, .slice (some ⟨g, 0, none⟩) t.at_.length t.at_.length, .bool t.sh]) ∧ w.heap.size ≤ g ∧ AO g t.at_ w' ∧ Below w.heap.size w w' := by
  have B0 := ((Below.refl w.heap.size w).alloc (Nat.le_refl _) (.cells #[.int .i64 t.kd, .int .i64 t.by_, .string t.nm, .slice a t.at_.length c, .bool t.sh] 28)).alloc (by simp) (.cells #[.int .i64 0, .int .i64 0, .string ⟨#[]⟩, .slice none 0 0, .bool false] 40)
  have B1 := B0.alloc (by simp; omega) (.cells #[.int .i64 t.kd, .int .i64 t.by_, .string t.nm, .slice none 0 0, .bool false] 40)
  have RP := ((row5 w 28 (.int .i64 t.kd) (.int .i64 t.by_) (.string t.nm) (.slice a t.at_.length c) (.bool t.sh)).alloc (.cells #[.int .i64 0, .int .i64 0, .string ⟨#[]⟩, .slice none 0 0, .bool false] 40)).alloc (.cells #[.int .i64 t.kd, .int .i64 t.by_, .string t.nm, .slice none 0 0, .bool false] 40)
  have RR := (row5 (w.alloc (.cells #[.int .i64 t.kd, .int .i64 t.by_, .string t.nm, .slice a t.at_.length c, .bool t.sh] 28)) 40 (.int .i64 0) (.int .i64 0) (.string ⟨#[]⟩) (.slice none 0 0) (.bool false)).alloc (.cells #[.int .i64 t.kd, .int .i64 t.by_, .string t.nm, .slice none 0 0, .bool false] 40)
  have RO := row5 ((w.alloc (.cells #[.int .i64 t.kd, .int .i64 t.by_, .string t.nm, .slice a t.at_.length c, .bool t.sh] 28)).alloc (.cells #[.int .i64 0, .int .i64 0, .string ⟨#[]⟩, .slice none 0 0, .bool false] 40)) 40 (.int .i64 t.kd) (.int .i64 t.by_) (.string t.nm) (.slice none 0 0) (.bool false)
  have KB := Hid.mk' (toAttrS_any a c t.at_ _ (ha.below B1) hl)
  have HB := Hid.mk' B1
  have z1 : (w.alloc (.cells #[.int .i64 t.kd, .int .i64 t.by_, .string t.nm, .slice a t.at_.length c, .bool t.sh] 28)).heap.size = w.heap.size + 1 := by simp
  have z2 : ((w.alloc (.cells #[.int .i64 t.kd, .int .i64 t.by_, .string t.nm, .slice a t.at_.length c, .bool t.sh] 28)).alloc (.cells #[.int .i64 0, .int .i64 0, .string ⟨#[]⟩, .slice none 0 0, .bool false] 40)).heap.size = w.heap.size + 1 + 1 := by simp
  have z3 : (((w.alloc (.cells #[.int .i64 t.kd, .int .i64 t.by_, .string t.nm, .slice a t.at_.length c, .bool t.sh] 28)).alloc (.cells #[.int .i64 0, .int .i64 0, .string ⟨#[]⟩, .slice none 0 0, .bool false] 40)).alloc (.cells #[.int .i64 t.kd, .int .i64 t.by_, .string t.nm, .slice none 0 0, .bool false] 40)).heap.size = w.heap.size + 1 + 1 + 1 := by simp
  rw [z1] at RR
  rw [z2] at RO
  have HR := Hid.mk' RR
  have HO := Hid.mk' RO
  have HP := Hid.mk' RP
  have Z3 := Hid.mk' z3
  clear ha B0 B1 RR RO RP z1 z2 z3
  generalize hW : ((w.alloc (.cells #[.int .i64 t.kd, .int .i64 t.by_, .string t.nm, .slice a t.at_.length c, .bool t.sh] 28)).alloc (.cells #[.int .i64 0, .int .i64 0, .string ⟨#[]⟩, .slice none 0 0, .bool false] 40)).alloc (.cells #[.int .i64 t.kd, .int .i64 t.by_, .string t.nm, .slice none 0 0, .bool false] 40) = W at *
  obtain ⟨p0, p1, p2_, p3, p4, p5⟩ := cells5 HP.out
  go_enter Tryz.func10, Tryz.ntmps10
  go_wp2_with fail
  clear hW p0 p1 p2_ p3 p4 p5
  refine KB.out.mono ?_
  rintro e w1 ⟨rfl, har⟩
  have hbl := har.bl
  have Hp := rowB HP.out hbl
  have Ho := rowB HO.out hbl
  have Hr := rowB HR.out hbl
  obtain ⟨p0, p1, p2_, p3, p4, p5⟩ := cells5 Hp
  obtain ⟨o0, o1, o2, o3, o4, o5⟩ := cells5 Ho
  obtain ⟨r0, r1, r2, r3_, r4_, r5_⟩ := cells5 Hr
  have fo3 := Ho.frozen 3
  have fo4 := Ho.frozen 4
  have fr0 := Hr.frozen 0
  have fr1 := Hr.frozen 1
  have fr2 := Hr.frozen 2
  have fr3 := Hr.frozen 3
  have fr4 := Hr.frozen 4
  have HA := Hid.mk' har
  have zz := Z3.out
  have hwl : w.heap.size + 1 ≤ w1.heap.size := by have := hbl.size; omega
  have zz' := Hid.mk' zz
  clear har hbl Ho Hr Hp KB HO HR HP zz
  go_wp2
  refine bodyPost_ret (v := .agg #[.int .i64 t.kd, .int .i64 t.by_, .string t.nm, .slice (some ⟨W.heap.size, 0, none⟩) t.at_.length t.at_.length, .bool t.sh]) (by simp [results, Tryz.results10, go_sem, *]) rfl ?_
  have zz := zz'.out
  have KK := (((((((KeptIn.refl (w.heap.size + 1) (w.heap.size + 1 + 1 + 1) w1).setCell (p := ⟨w.heap.size + 1 + 1, 3, none⟩) (by simp) (by simp) (.slice (some ⟨W.heap.size, 0, none⟩) t.at_.length t.at_.length)).setCell (p := ⟨w.heap.size + 1 + 1, 4, none⟩) (by simp) (by simp) (.bool t.sh)).setCell (p := ⟨w.heap.size + 1, 0, none⟩) (by simp) (by simp) (.int .i64 t.kd)).setCell (p := ⟨w.heap.size + 1, 1, none⟩) (by simp) (by simp) (.int .i64 t.by_)).setCell (p := ⟨w.heap.size + 1, 2, none⟩) (by simp) (by simp) (.string t.nm)).setCell (p := ⟨w.heap.size + 1, 3, none⟩) (by simp) (by simp) (.slice (some ⟨W.heap.size, 0, none⟩) t.at_.length t.at_.length)).setCell (p := ⟨w.heap.size + 1, 4, none⟩) (by simp) (by simp) (.bool t.sh)
  exact ⟨W.heap.size, rfl, by omega, AO.of HA.out KK (by omega), (HB.out.trans (HA.out.bl.mono HB.out.size)).trans (KK.below (by omega) (by omega))⟩

set_option maxHeartbeats 400000 in
theorem eqAttr_any (s : ByteArray) (a b : Option Addr) (c d : Nat) (l : List Int) (w : World) (ha : BAt w a l) (hb : BAt w b l) (hl : (l.length : Int) ≤ 1048576) :
    Calls Tryz.prog 78 #[.agg #[.string s, .slice a l.length c], .agg #[.string s, .slice b l.length d]] w fun e w' => e = .returned (.bool true) ∧ Below w.heap.size w w' := by
  have B0 := ((Below.refl w.heap.size w).alloc (Nat.le_refl _) (.cells #[.string s, .slice a l.length c] 106)).alloc (by simp) (.cells #[.string s, .slice b l.length d] 106)
  have KB := Hid.mk' (eqByteS_any a b c d l _ (ha.below B0) (hb.below B0) hl)
  have HB := Hid.mk' B0
  clear ha hb B0
  go_enter Tryz.func78, Tryz.ntmps78
  go_wp2_with fail
  refine KB.out.mono ?_
  rintro e w1 ⟨rfl, hb⟩
  have HB := Hid.mk' (HB.out.trans (hb.mono HB.out.size))
  clear hb KB
  go_wp2
  go_ret
  exact ⟨rfl, HB.out⟩

end Go.Proofs.YtpcpnfpnkkjkcaaGreat

/- Walks: attributes and tokens that are the same are told so. -/
namespace Go.Proofs.YtpcpnfpnkkjkcaaGreat
open Go.RowKit
set_option linter.unusedVariables false

set_option maxHeartbeats 1600000 in
theorem eqAttrS_any (a b : Option Addr) (c d : Nat) (l : List AT) (w : World) (ha : AAt w a l) (hb : AAt w b l) (hl : (l.length : Int) + asz l ≤ 1048576) :
    Calls Tryz.prog 46 #[.slice a l.length c, .slice b l.length d] w fun e w' => e = .returned (.bool true) ∧ Below w.heap.size w w' := by
  have HA := Hid.mk' ha
  have HB := Hid.mk' hb
  clear ha hb
  go_enter Tryz.func46, Tryz.ntmps46
  go_wp2
  go_loopw [5] (fun i wr => ∃ k : Nat, k ≤ l.length ∧ i = .int .i64 k ∧ Below w.heap.size w wr) (fun i _ => l.length - (intOf i).toNat)
  case atStart => exact ⟨0, Nat.zero_le _, rfl, Below.refl _ _⟩
  case round =>
    obtain ⟨k, hk, rfl, hbl⟩ := hrel
    have R2 := Hid.mk' hbl
    by_cases hlt : k < l.length
    · have ci : (k : Int) < (l.length : Int) := by omega
      rcases HA.out.below hbl with ha | ⟨b1, o1, rfl, s1, hc1⟩
      · exact absurd hlt (by rw [ha]; exact Nat.not_lt_zero _)
      rcases HB.out.below hbl with hb | ⟨b2, o2, rfl, s2, hc2⟩
      · exact absurd hlt (by rw [hb]; exact Nat.not_lt_zero _)
      obtain ⟨h1, p1, d1, h2, h3⟩ := hc1 k hlt
      obtain ⟨h4, p2_, d2, h5, h6⟩ := hc2 k hlt
      have st := asz_take l k hlt
      have sl := asz_le l (k + 1)
      have KE : Hid (Calls Tryz.prog 78 #[.agg #[.string (atK l k).nm, .slice p1 (atK l k).vl.length d1], .agg #[.string (atK l k).nm, .slice p2_ (atK l k).vl.length d2]] wr.drew fun e w' => e = .returned (.bool true) ∧ Below wr.drew.heap.size wr.drew w') := eqAttr_any _ _ _ _ _ _ _ (h3.below (Below.refl _ _).drew) (h6.below (Below.refl _ _).drew) (by omega)
      clear hbl hc1 hc2 h3 h6 st sl
      go_wp2
      go_region_held3 (fun w' => w'.cell? ⟨b1, o1 + k * 2, none⟩ = some (.string (atK l k).nm) ∧ w'.cell? ⟨b1, o1 + k * 2 + 1, none⟩ = some (.slice p1 (atK l k).vl.length d1) ∧ w'.cell? ⟨b2, o2 + k * 2, none⟩ = some (.string (atK l k).nm) ∧ w'.cell? ⟨b2, o2 + k * 2 + 1, none⟩ = some (.slice p2_ (atK l k).vl.length d2)) (simp [*])
        ((go_at_call 78; refine KE.out.mono ?_; rintro e w1 ⟨rfl, hb1⟩; replace hb1 := undrew hb1; obtain ⟨hx1, hx2⟩ := bcell hb1))
      go_wp2
      go_roundw
      case rel => exact ⟨k + 1, by omega, by go_num, R2.out.trans (hb1.mono R2.out.size)⟩
      case measure => simp [intOf]; omega
    · have ci : ¬ (k : Int) < (l.length : Int) := by omega
      go_wp2
      go_ret
      exact ⟨rfl, R2.out⟩

set_option maxHeartbeats 1600000 in
theorem eqToken_any (t : TK) (a b : Option Addr) (c d : Nat) (w : World) (ha : AAt w a t.at_) (hb : AAt w b t.at_) (hl : (t.at_.length : Int) + asz t.at_ ≤ 1048576) :
    Calls Tryz.prog 14 #[.agg #[.int .i64 t.kd, .int .i64 t.by_, .string t.nm, .slice a t.at_.length c, .bool t.sh], .agg #[.int .i64 t.kd, .int .i64 t.by_, .string t.nm, .slice b t.at_.length d, .bool t.sh]] w fun e w' => e = .returned (.bool true) ∧ Below w.heap.size w w' := by
  have B0 := ((Below.refl w.heap.size w).alloc (Nat.le_refl _) (.cells #[.int .i64 t.kd, .int .i64 t.by_, .string t.nm, .slice a t.at_.length c, .bool t.sh] 40)).alloc (by simp) (.cells #[.int .i64 t.kd, .int .i64 t.by_, .string t.nm, .slice b t.at_.length d, .bool t.sh] 40)
  have R1 := (row5 w 40 (.int .i64 t.kd) (.int .i64 t.by_) (.string t.nm) (.slice a t.at_.length c) (.bool t.sh)).alloc (.cells #[.int .i64 t.kd, .int .i64 t.by_, .string t.nm, .slice b t.at_.length d, .bool t.sh] 40)
  have R2 := row5 (w.alloc (.cells #[.int .i64 t.kd, .int .i64 t.by_, .string t.nm, .slice a t.at_.length c, .bool t.sh] 40)) 40 (.int .i64 t.kd) (.int .i64 t.by_) (.string t.nm) (.slice b t.at_.length d) (.bool t.sh)
  have z1 : (w.alloc (.cells #[.int .i64 t.kd, .int .i64 t.by_, .string t.nm, .slice a t.at_.length c, .bool t.sh] 40)).heap.size = w.heap.size + 1 := by simp
  rw [z1] at R2
  have H1 := Hid.mk' R1
  have H2 := Hid.mk' R2
  have KB := Hid.mk' (eqAttrS_any a b c d t.at_ _ (ha.below B0) (hb.below B0) hl)
  have HB := Hid.mk' B0
  clear ha hb B0 R1 R2 z1
  generalize hW : (w.alloc (.cells #[.int .i64 t.kd, .int .i64 t.by_, .string t.nm, .slice a t.at_.length c, .bool t.sh] 40)).alloc (.cells #[.int .i64 t.kd, .int .i64 t.by_, .string t.nm, .slice b t.at_.length d, .bool t.sh] 40) = W at *
  obtain ⟨p0, p1, p2_, p3, p4, p5⟩ := cells5 H1.out
  obtain ⟨q0, q1, q2, q3, q4, q5⟩ := cells5 H2.out
  go_enter Tryz.func14, Tryz.ntmps14
  go_wp2_with fail
  clear hW p0 p1 p2_ p3 p4 p5 q0 q1 q2 q3 q4 q5
  refine KB.out.mono ?_
  rintro e w1 ⟨rfl, hb⟩
  obtain ⟨p0, p1, p2_, p3, p4, p5⟩ := cells5 (rowB H1.out hb)
  obtain ⟨q0, q1, q2, q3, q4, q5⟩ := cells5 (rowB H2.out hb)
  have HB := Hid.mk' (HB.out.trans (hb.mono HB.out.size))
  clear hb KB
  go_wp2
  go_ret
  exact ⟨rfl, HB.out⟩

end Go.Proofs.YtpcpnfpnkkjkcaaGreat

/- Names: the letters that a text begins with, both sides. -/
namespace Go.Proofs.YtpcpnfpnkkjkcaaGreat
open Go.RowKit
set_option linter.unusedVariables false

/-- A letter a to z. -/
def ltr (c : Nat) : Prop := 97 ≤ c ∧ c ≤ 122
def ltrB (c : Nat) : Bool := decide (97 ≤ c) && decide (c ≤ 122)
theorem ltrB_iff (c : Nat) : ltrB c = true ↔ ltr c := by unfold ltrB ltr; rw [Bool.and_eq_true, decide_eq_true_eq, decide_eq_true_eq]
theorem ltrB_true {c : Nat} (h : ltr c) : ltrB c = true := (ltrB_iff c).2 h
theorem ltrB_false {c : Nat} (h : ¬ ltr c) : ltrB c = false := Bool.eq_false_iff.2 fun e => h ((ltrB_iff c).1 e)

/-- The first k bytes are letters. -/
def low (s : ByteArray) (k : Nat) : Prop := ∀ i (h : i < s.size), i < k → ltr (s[i]'h).toNat

/-- A text that is a name. -/
def isNm (s : ByteArray) : Prop := 1 ≤ s.size ∧ s.size ≤ 8 ∧ low s s.size

/-- Whether a text is a name. -/
def nmB (s : ByteArray) : Bool := decide (1 ≤ s.size) && decide (s.size ≤ 8) && s.data.toList.all (fun b => ltrB b.toNat)

theorem nmB_iff (s : ByteArray) : nmB s = true ↔ isNm s := by
  unfold nmB isNm low
  rw [Bool.and_eq_true, Bool.and_eq_true, decide_eq_true_eq, decide_eq_true_eq, List.all_eq_true]
  constructor
  · rintro ⟨⟨h1, h2⟩, h3⟩
    exact ⟨h1, h2, fun i hi _ => (ltrB_iff _).1 (h3 (s[i]'hi) (Array.mem_toList_iff.2 (Array.getElem_mem hi)))⟩
  · rintro ⟨h1, h2, h3⟩
    refine ⟨⟨h1, h2⟩, fun b hb => ltrB_true ?_⟩
    obtain ⟨i, hi, rfl⟩ := Array.mem_iff_getElem.1 (Array.mem_toList_iff.1 hb)
    exact h3 i hi hi

theorem nmB_true {s : ByteArray} (h : isNm s) : nmB s = true := (nmB_iff s).2 h
theorem nmB_false {s : ByteArray} (h : ¬ isNm s) : nmB s = false := Bool.eq_false_iff.2 fun e => h ((nmB_iff s).1 e)

theorem low_next {s : ByteArray} {k : Nat} (h : low s k) (hk : k < s.size) (hc : ltr (s[k]'hk).toNat) : low s (k + 1) := fun i hi hik => by
  by_cases e : i = k
  · subst e; exact hc
  · exact h i hi (by omega)

theorem letters_any (s : ByteArray) (w : World) (hm : (s.size : Int) ≤ 9223372036854775807) :
    Calls Tryz.prog 117 #[.string s] w fun e w' => ∃ n : Nat, e = .returned (.int .i64 n) ∧ w' = w ∧ n ≤ s.size ∧ low s n ∧ ∀ h : n < s.size, ¬ ltr (s[n]'h).toNat := by
  go_enter Tryz.func117, Tryz.ntmps117
  go_wp2
  go_loop [3] (fun i => ∃ k : Nat, k ≤ s.size ∧ i = .int .i64 k ∧ low s k) (fun i => s.size - (intOf i).toNat)
  case atStart => exact ⟨0, Nat.zero_le _, rfl, fun i _ h => absurd h (Nat.not_lt_zero _)⟩
  case round =>
    obtain ⟨k, hk, rfl, hlow⟩ := hrel
    have HL := Hid.mk' hlow
    clear hlow
    by_cases hlt : k < s.size
    · have ci : (k : Int) < (s.size : Int) := by omega
      obtain ⟨cc, hc⟩ : ∃ c : Nat, (s[k]'hlt).toNat = c := ⟨_, rfl⟩
      by_cases b1 : (cc : Int) < 97
      · go_wp2
        go_ret
        exact ⟨k, rfl, rfl, hk, HL.out, fun h => by unfold ltr; omega⟩
      · by_cases b2 : (cc : Int) > 122
        · go_wp2
          go_ret
          exact ⟨k, rfl, rfl, hk, HL.out, fun h => by unfold ltr; omega⟩
        · go_wp2
          go_round
          case rel => exact ⟨k + 1, by omega, by go_num, low_next HL.out hlt (by unfold ltr; omega)⟩
          case measure => simp [intOf]; omega
    · have ci : ¬ (k : Int) < (s.size : Int) := by omega
      have e : k = s.size := by omega
      go_wp2
      go_ret
      exact ⟨s.size, by simp, rfl, Nat.le_refl _, e ▸ HL.out, fun h => absurd h (Nat.lt_irrefl _)⟩

theorem isName_any (s : ByteArray) (w : World) (hm : (s.size : Int) ≤ 9223372036854775807) :
    Calls Tryz.prog 103 #[.string s] w fun e w' => e = .returned (.bool (nmB s)) ∧ w' = w := by
  have K := Hid.mk' (letters_any s w hm)
  go_enter Tryz.func103, Tryz.ntmps103
  by_cases b1 : (s.size : Int) ≥ 1
  · by_cases b2 : (s.size : Int) ≤ 8
    · go_wp2_with fail
      refine K.out.mono ?_
      rintro e w1 ⟨n, rfl, rfl, hn, hl, hx⟩
      have HL := Hid.mk' hl
      have HX := Hid.mk' hx
      clear hl hx
      by_cases b3 : (n : Int) = s.size
      · go_wp2
        go_ret
        have e : n = s.size := by omega
        rw [nmB_true ⟨by omega, by omega, e ▸ HL.out⟩]
        exact ⟨by simp, rfl⟩
      · go_wp2
        go_ret
        rw [nmB_false fun h => HX.out (by omega) (h.2.2 n (by omega) (by omega))]
        exact ⟨by simp; omega, rfl⟩
    · go_wp2
      go_ret
      exact ⟨by rw [nmB_false fun h => by have := h.1; have := h.2.1; omega]; rfl, rfl⟩
  · go_wp2
    go_ret
    exact ⟨by rw [nmB_false fun h => by have := h.1; have := h.2.1; omega]; rfl, rfl⟩

theorem letter_any (c : Nat) (w : World) :
    Calls Tryz.prog 86 #[.int .u8 c] w fun e w' => e = .returned (.bool (ltrB c)) ∧ w' = w := by
  go_enter Tryz.func86, Tryz.ntmps86
  by_cases b1 : (c : Int) ≥ 97
  · by_cases b2 : (c : Int) ≤ 122
    · go_wp2
      go_ret
      exact ⟨by first | rw [ltrB_true (show ltr c by unfold ltr; omega)]; rfl | rw [ltrB_false (show ¬ ltr c by unfold ltr; omega)]; rfl, rfl⟩
    · go_wp2
      go_ret
      exact ⟨by first | rw [ltrB_true (show ltr c by unfold ltr; omega)]; rfl | rw [ltrB_false (show ¬ ltr c by unfold ltr; omega)]; rfl, rfl⟩
  · go_wp2
    go_ret
    exact ⟨by first | rw [ltrB_true (show ltr c by unfold ltr; omega)]; rfl | rw [ltrB_false (show ¬ ltr c by unfold ltr; omega)]; rfl, rfl⟩

theorem l4Name_any (s : ByteArray) (w : World) (hm : (s.size : Int) ≤ 9223372036854775807) :
    Calls Tryz.prog 61 #[.string s] w fun e w' => e = .returned (.bool (nmB s)) ∧ w' = w := by
  have K : Hid (∀ c : Nat, Calls Tryz.prog 86 #[.int .u8 c] w fun e w' => e = .returned (.bool (ltrB c)) ∧ w' = w) := fun c => letter_any c w
  go_enter Tryz.func61, Tryz.ntmps61
  go_wp2
  go_loop [3] (fun i => ∃ k : Nat, k ≤ s.size ∧ i = .int .i64 k ∧ low s k) (fun i => s.size - (intOf i).toNat)
  case atStart => exact ⟨0, Nat.zero_le _, rfl, fun i _ h => absurd h (Nat.not_lt_zero _)⟩
  case round =>
    obtain ⟨k, hk, rfl, hlow⟩ := hrel
    have HL := Hid.mk' hlow
    clear hlow
    by_cases hlt : k < s.size
    · have ci : (k : Int) < (s.size : Int) := by omega
      obtain ⟨cc, hc⟩ : ∃ c : Nat, (s[k]'hlt).toNat = c := ⟨_, rfl⟩
      by_cases b : ltr cc
      · have K := Hid.mk' (K.out cc)
        rw [ltrB_true b] at K
        go_wp2_with fail
        refine K.out.mono ?_
        rintro e w1 ⟨rfl, rfl⟩
        go_wp2
        go_round
        case rel => exact ⟨k + 1, by omega, by go_num, low_next HL.out hlt (by rw [hc]; exact b)⟩
        case measure => simp [intOf]; omega
      · have K := Hid.mk' (K.out cc)
        rw [ltrB_false b] at K
        go_wp2_with fail
        refine K.out.mono ?_
        rintro e w1 ⟨rfl, rfl⟩
        go_wp2
        go_ret
        exact ⟨by rw [nmB_false fun h => b (by rw [← hc]; exact h.2.2 k hlt hlt)]; rfl, rfl⟩
    · have ci : ¬ (k : Int) < (s.size : Int) := by omega
      have e : k = s.size := by omega
      by_cases b1 : (s.size : Int) ≥ 1
      · by_cases b2 : (s.size : Int) ≤ 8
        · go_wp2
          go_ret
          exact ⟨by rw [nmB_true ⟨by omega, by omega, e ▸ HL.out⟩]; rfl, rfl⟩
        · go_wp2
          go_ret
          exact ⟨by rw [nmB_false fun h => by have := h.1; have := h.2.1; omega]; rfl, rfl⟩
      · go_wp2
        go_ret
        exact ⟨by rw [nmB_false fun h => by have := h.1; have := h.2.1; omega]; rfl, rfl⟩

end Go.Proofs.YtpcpnfpnkkjkcaaGreat

/- The model's side of a token's fault. -/
namespace Go.Proofs.YtpcpnfpnkkjkcaaGreat
open Go.RowKit
set_option linter.unusedVariables false

/-- Where an attribute of that name stands; -1: nowhere. -/
def posFrom : List AT → ByteArray → Nat → Int
  | [], _, _ => -1
  | x :: r, s, n => if (x.nm.toList == s.toList) = true then (n : Int) else posFrom r s (n + 1)
def posK (l : List AT) (s : ByteArray) : Int := posFrom l s 0

theorem posFrom_found : ∀ (l : List AT) (s : ByteArray) (n k : Nat), k < l.length → (∀ j, j < k → ((atK l j).nm.toList == s.toList) = false) → ((atK l k).nm.toList == s.toList) = true → posFrom l s n = ((n + k : Nat) : Int)
  | [], _, _, _, h, _, _ => absurd h (Nat.not_lt_zero _)
  | x :: r, s, n, 0, _, _, e => by
    have : (x.nm.toList == s.toList) = true := e
    unfold posFrom
    rw [if_pos this, Nat.add_zero]
  | x :: r, s, n, k + 1, h, hn, e => by
    have h0 : (x.nm.toList == s.toList) = false := hn 0 (by omega)
    have ih := posFrom_found r s (n + 1) k (by simpa using h) (fun j hj => hn (j + 1) (by omega)) e
    unfold posFrom
    rw [if_neg (by rw [h0]; exact Bool.false_ne_true), ih]
    omega

theorem posFrom_none : ∀ (l : List AT) (s : ByteArray) (n : Nat), (∀ j, j < l.length → ((atK l j).nm.toList == s.toList) = false) → posFrom l s n = -1
  | [], _, _, _ => rfl
  | x :: r, s, n, hn => by
    have h0 : (x.nm.toList == s.toList) = false := hn 0 (by simp)
    unfold posFrom
    rw [if_neg (by rw [h0]; exact Bool.false_ne_true)]
    exact posFrom_none r s (n + 1) (fun j hj => hn (j + 1) (by simp; omega))

set_option maxHeartbeats 800000 in
theorem l4Has_any (a : Option Addr) (c : Nat) (l : List AT) (s : ByteArray) (w : World) (ha : AAt w a l) (hl : (l.length : Int) ≤ 1048576) :
    Calls Tryz.prog 87 #[.slice a l.length c, .string s] w fun e w' => e = .returned (.int .i64 (posK l s)) ∧ w' = w := by
  go_enter Tryz.func87, Tryz.ntmps87
  go_wp2
  go_loop [5] (fun i => ∃ k : Nat, k ≤ l.length ∧ i = .int .i64 k ∧ ∀ j, j < k → ((atK l j).nm.toList == s.toList) = false) (fun i => l.length - (intOf i).toNat)
  case atStart => exact ⟨0, Nat.zero_le _, rfl, fun j h => absurd h (Nat.not_lt_zero _)⟩
  case round =>
    obtain ⟨k, hk, rfl, hn⟩ := hrel
    have HN := Hid.mk' hn
    clear hn
    by_cases hlt : k < l.length
    · have ci : (k : Int) < (l.length : Int) := by omega
      rcases ha with ha | ⟨b, o, rfl, hbs, hc⟩
      · exact absurd hlt (by rw [ha]; exact Nat.not_lt_zero _)
      obtain ⟨h1, p, d, h2, _⟩ := hc k hlt
      clear hc
      cases e : ((atK l k).nm.toList == s.toList) with
      | true =>
        go_wp2
        go_ret
        refine ⟨?_, rfl⟩
        unfold posK
        rw [posFrom_found l s 0 k hlt HN.out e, Nat.zero_add]
        rfl
      | false =>
        go_wp2
        go_round
        case rel => exact ⟨k + 1, by omega, by go_num, fun j hj => by
          by_cases h : j = k
          · subst h; exact e
          · exact HN.out j (by omega)⟩
        case measure => simp [intOf]; omega
    · have ci : ¬ (k : Int) < (l.length : Int) := by omega
      have e : k = l.length := by omega
      subst e
      go_wp2
      go_ret
      refine ⟨?_, rfl⟩
      unfold posK
      rw [posFrom_none l s 0 HN.out]
      rfl

theorem atK_take {l : List AT} {j k : Nat} (h : j < k) (hk : k ≤ l.length) : atK (l.take k) j = atK l j := by
  unfold atK
  rw [List.getD_eq_getElem?_getD, List.getD_eq_getElem?_getD, List.getElem?_take_of_lt h]

theorem AAt.take {w : World} {a : Option Addr} {l : List AT} (h : AAt w a l) (k : Nat) (hk : k ≤ l.length) : AAt w a (l.take k) := by
  rcases h with h | ⟨b, o, e, hs, hc⟩
  · left; rw [h]; simp
  · refine .inr ⟨b, o, e, hs, fun j hj => ?_⟩
    rw [List.length_take] at hj
    rw [atK_take (by omega) hk]
    exact hc j (by omega)

/-- The code of attributes: those ahead, and those to come. -/
def afR : List AT → List AT → Int
  | _, [] => 0
  | seen, x :: r => if nmB x.nm = true then (if 0 ≤ posK seen x.nm then 1 else afR (seen ++ [x]) r) else 5
def afault (l : List AT) : Int := afR [] l

theorem afR_step {l : List AT} {k : Nat} (hk : k < l.length) : afR (l.take k) (l.drop k) = if nmB (atK l k).nm = true then (if 0 ≤ posK (l.take k) (atK l k).nm then 1 else afR (l.take (k + 1)) (l.drop (k + 1))) else 5 := by
  have e1 : l.drop k = atK l k :: l.drop (k + 1) := by
    rw [List.drop_eq_getElem_cons hk]
    unfold atK
    rw [List.getD_eq_getElem?_getD, List.getElem?_eq_getElem hk]; rfl
  have e2 : l.take (k + 1) = l.take k ++ [atK l k] := by
    rw [List.take_succ_eq_append_getElem hk]
    unfold atK
    rw [List.getD_eq_getElem?_getD, List.getElem?_eq_getElem hk]; rfl
  rw [e1, e2]
  rfl

set_option maxHeartbeats 1600000 in
theorem l4Attrs_any (a : Option Addr) (c : Nat) (l : List AT) (w : World) (ha : AAt w a l) (hc : l.length ≤ c) (hl : (l.length : Int) + asz l ≤ 1048576) :
    Calls Tryz.prog 62 #[.slice a l.length c] w fun e w' => e = .returned (.int .i64 (afault l)) ∧ Below w.heap.size w w' := by
  have HA := Hid.mk' ha
  clear ha
  go_enter Tryz.func62, Tryz.ntmps62
  go_wp2
  go_loopw [3] (fun i wr => ∃ k : Nat, k ≤ l.length ∧ i = .int .i64 k ∧ afault l = afR (l.take k) (l.drop k) ∧ Below w.heap.size w wr) (fun i _ => l.length - (intOf i).toNat)
  case atStart => exact ⟨0, Nat.zero_le _, rfl, rfl, Below.refl _ _⟩
  case round =>
    obtain ⟨k, hk, rfl, hf, hbl⟩ := hrel
    have HF := Hid.mk' hf
    have HB := Hid.mk' hbl
    by_cases hlt : k < l.length
    · have ci : (k : Int) < (l.length : Int) := by omega
      have HS := Hid.mk' (afR_step hlt)
      have hAk := HA.out.below hbl
      have HT := Hid.mk' (hAk.take k hk)
      rcases hAk with ha | ⟨b, o, rfl, hbs, hcl⟩
      · exact absurd hlt (by rw [ha]; exact Nat.not_lt_zero _)
      obtain ⟨h1, p, d, h2, _⟩ := hcl k hlt
      have st := asz_take l k hlt
      have sl := asz_le l (k + 1)
      have KN := Hid.mk' (l4Name_any (atK l k).nm wr (by omega))
      clear hf hbl hcl
      cases hn : nmB (atK l k).nm with
      | false =>
        rw [hn] at KN
        go_wp2_with fail
        refine KN.out.mono ?_
        rintro e w1 ⟨rfl, rfl⟩
        go_wp2
        go_ret
        refine ⟨?_, HB.out⟩
        rw [HF.out, HS.out, hn]
        rfl
      | true =>
        rw [hn] at KN
        go_wp2_with fail
        refine KN.out.mono ?_
        rintro e w1 ⟨rfl, rfl⟩
        have KH := l4Has_any (some ⟨b, o, none⟩) c (l.take k) (atK l k).nm w1.drew (HT.out.below (Below.refl _ _).drew) (by rw [List.length_take]; omega)
        rw [List.length_take, Nat.min_eq_left hk] at KH
        have KH := Hid.mk' KH
        have b1 : (0 : Int) ≤ (k : Int) := by omega
        have b2 : (k : Int) ≤ (c : Int) := by omega
        by_cases hp : 0 ≤ posK (l.take k) (atK l k).nm
        · have HE : Hid (afault l = 1) := Hid.mk' (by rw [HF.out, HS.out, hn, if_pos rfl, if_pos hp])
          generalize posK (l.take k) (atK l k).nm = q at *
          clear HS HT HF KN st sl
          go_wp2
          go_region_held3 (fun w' => w'.cell? ⟨b, o + k * 2, none⟩ = some (.string (atK l k).nm)) (simp [*])
            ((go_at_call 87; refine KH.out.mono ?_; rintro e w2 ⟨rfl, rfl⟩))
          go_wp2
          go_ret
          exact ⟨by rw [HE.out]; rfl, HB.out.drew⟩
        · have HE : Hid (afault l = afR (l.take (k + 1)) (l.drop (k + 1))) := Hid.mk' (by rw [HF.out, HS.out, hn, if_pos rfl, if_neg hp])
          generalize posK (l.take k) (atK l k).nm = q at *
          clear HS HT HF KN st sl
          go_wp2
          go_region_held3 (fun w' => w'.cell? ⟨b, o + k * 2, none⟩ = some (.string (atK l k).nm)) (simp [*])
            ((go_at_call 87; refine KH.out.mono ?_; rintro e w2 ⟨rfl, rfl⟩))
          go_wp2
          go_roundw
          case rel => exact ⟨k + 1, by omega, by go_num, HE.out, HB.out.drew⟩
          case measure => simp [intOf]; omega
    · have ci : ¬ (k : Int) < (l.length : Int) := by omega
      have e : k = l.length := by omega
      subst e
      go_wp2
      go_ret
      refine ⟨?_, HB.out⟩
      have h := HF.out
      rw [List.drop_length, List.take_length] at h
      first | rfl | (rw [h]; rfl)

end Go.Proofs.YtpcpnfpnkkjkcaaGreat

/- The model's side: a token's form, and its code. -/
namespace Go.Proofs.YtpcpnfpnkkjkcaaGreat
open Go.RowKit
set_option linter.unusedVariables false

theorem l1In_any (v lo hi : Int) (w : World) : Calls Tryz.prog 60 #[.int .i64 v, .int .i64 lo, .int .i64 hi] w fun e w' => e = .returned (.bool (decide (lo ≤ v) && decide (v ≤ hi))) ∧ w' = w := by
  by_cases h1 : lo ≤ v
  · by_cases h2 : v ≤ hi
    · go_enter Tryz.func60, Tryz.ntmps60
      go_wp2
      go_ret
      exact ⟨by simp [h1, h2], rfl⟩
    · go_enter Tryz.func60, Tryz.ntmps60
      go_wp2
      go_ret
      exact ⟨by simp; omega, rfl⟩
  · go_enter Tryz.func60, Tryz.ntmps60
    go_wp2
    go_ret
    exact ⟨by simp; omega, rfl⟩

/-- A token of a kind that there is, with nothing that its kind has not. -/
def tform (t : TK) : Bool := decide (1 ≤ t.kd) && decide (t.kd ≤ 4) && (decide (t.kd = 1) || decide (t.by_ = 0)) && (decide (t.kd = 2) || decide (t.kd = 3) || (t.nm.toList == [])) && (decide (t.kd = 2) || (decide (t.at_.length = 0) && !t.sh))

set_option maxHeartbeats 3200000 in
theorem l4Form_any (t : TK) (g : Nat) (a : Option Addr) (c : Nat) (w : World) (h : w.rowIs g 40 5 (r5 (.int .i64 t.kd) (.int .i64 t.by_) (.string t.nm) (.slice a t.at_.length c) (.bool t.sh))) :
    Calls Tryz.prog 59 #[.pointer (some ⟨g, 0, none⟩)] w fun e w' => e = .returned (.bool (tform t)) ∧ w' = w := by
  have K := l1In_any t.kd 1 4 w
  obtain ⟨c0, c1, c2, c3, c4, c5⟩ := cells5 h
  clear h
  by_cases k1 : 1 ≤ t.kd ∧ t.kd ≤ 4
  · have kk : t.kd = 1 ∨ t.kd = 2 ∨ t.kd = 3 ∨ t.kd = 4 := by omega
    rw [show (decide (1 ≤ t.kd) && decide (t.kd ≤ 4)) = true by simp [k1]] at K
    rcases kk with e | e | e | e
    all_goals
      rw [e] at c0 K
      have K := Hid.mk' K
      have E := Hid.mk' e
      clear e k1
      go_enter Tryz.func59, Tryz.ntmps59
      go_wp2_with (first | go_big_skip | (go_at_call 60; refine K.out.mono ?_; rintro e w1 ⟨rfl, rfl⟩))
    all_goals go_ret
    all_goals
      have e := E.out
      exact ⟨by simp [tform, *], rfl⟩
  · rw [show (decide (1 ≤ t.kd) && decide (t.kd ≤ 4)) = false by simp; omega] at K
    have K := Hid.mk' K
    have E : Hid (tform t = false) := Hid.mk' (by
      unfold tform
      rw [show (decide (1 ≤ t.kd) && decide (t.kd ≤ 4)) = false by simp; omega]
      simp)
    have n1 : ¬ t.kd = 1 := by omega
    have n2 : ¬ t.kd = 2 := by omega
    have n3 : ¬ t.kd = 3 := by omega
    clear k1
    go_enter Tryz.func59, Tryz.ntmps59
    go_wp2_with (first | go_big_skip | (go_at_call 60; refine K.out.mono ?_; rintro e w1 ⟨rfl, rfl⟩))
    all_goals go_ret
    all_goals exact ⟨by rw [E.out]; rfl, rfl⟩

/-- The code of a token. -/
def tfault (t : TK) : Int := if tform t = true then (if 0 ≤ t.by_ ∧ t.by_ ≤ 255 then (if (t.kd = 2 ∨ t.kd = 3) ∧ nmB t.nm = false then 5 else afault t.at_) else 3) else 1

set_option maxHeartbeats 3200000 in
theorem l4Fault_any (t : TK) (g : Nat) (a : Option Addr) (c : Nat) (w : World) (h : w.rowIs g 40 5 (r5 (.int .i64 t.kd) (.int .i64 t.by_) (.string t.nm) (.slice a t.at_.length c) (.bool t.sh))) (ha : AAt w a t.at_) (hc : t.at_.length ≤ c) (hn : (t.nm.size : Int) ≤ 1048576) (hl : (t.at_.length : Int) + asz t.at_ ≤ 1048576) :
    Calls Tryz.prog 34 #[.pointer (some ⟨g, 0, none⟩)] w fun e w' => e = .returned (.int .i64 (tfault t)) ∧ Below w.heap.size w w' := by
  have KF := l4Form_any t g a c w h
  have KI := l1In_any t.by_ 0 255 w
  have KN := l4Name_any t.nm w (by omega)
  have KA := Hid.mk' (l4Attrs_any a c t.at_ w ha hc hl)
  obtain ⟨c0, c1, c2, c3, c4, c5⟩ := cells5 h
  clear h ha
  cases hf : tform t with
  | false =>
    rw [hf] at KF
    have KF := Hid.mk' KF
    have E : Hid (tfault t = 1) := Hid.mk' (by unfold tfault; rw [hf]; rfl)
    clear KI KN
    go_enter Tryz.func34, Tryz.ntmps34
    go_wp2_with fail
    refine KF.out.mono ?_
    rintro e w1 ⟨rfl, rfl⟩
    go_wp2
    go_ret
    exact ⟨by rw [E.out]; rfl, Below.refl _ _⟩
  | true =>
    rw [hf] at KF
    have KF := Hid.mk' KF
    by_cases hb : 0 ≤ t.by_ ∧ t.by_ ≤ 255
    · rw [show (decide (0 ≤ t.by_) && decide (t.by_ ≤ 255)) = true by simp [hb]] at KI
      have KI := Hid.mk' KI
      by_cases hk : t.kd = 2 ∨ t.kd = 3
      · cases hnm : nmB t.nm with
        | false =>
          rw [hnm] at KN
          have KN := Hid.mk' KN
          have E : Hid (tfault t = 5) := Hid.mk' (by unfold tfault; rw [if_pos hf, if_pos hb, if_pos ⟨hk, hnm⟩])
          clear hb
          rcases hk with e | e
          all_goals
            rw [e] at c0
            clear e
            go_enter Tryz.func34, Tryz.ntmps34
            go_wp2_with (first | go_big_skip | (go_at_call 59; refine KF.out.mono ?_; rintro e w1 ⟨rfl, rfl⟩) | (go_at_call 60; refine KI.out.mono ?_; rintro e w1 ⟨rfl, rfl⟩) | (go_at_call 61; refine KN.out.mono ?_; rintro e w1 ⟨rfl, rfl⟩))
            go_ret
            exact ⟨by rw [E.out]; rfl, Below.refl _ _⟩
        | true =>
          rw [hnm] at KN
          have KN := Hid.mk' KN
          have E : Hid (tfault t = afault t.at_) := Hid.mk' (by unfold tfault; rw [if_pos hf, if_pos hb, if_neg (by rw [hnm]; simp)])
          clear hb
          rcases hk with e | e
          all_goals
            rw [e] at c0
            clear e
            go_enter Tryz.func34, Tryz.ntmps34
            go_wp2_with (first | go_big_skip | (go_at_call 59; refine KF.out.mono ?_; rintro e w1 ⟨rfl, rfl⟩) | (go_at_call 60; refine KI.out.mono ?_; rintro e w1 ⟨rfl, rfl⟩) | (go_at_call 61; refine KN.out.mono ?_; rintro e w1 ⟨rfl, rfl⟩) | (go_at_call 62; refine KA.out.mono ?_; rintro e w1 ⟨rfl, hbb⟩; have HB := Hid.mk' hbb; clear hbb))
            go_ret
            exact ⟨by rw [E.out]; rfl, HB.out⟩
      · have n2 : ¬ t.kd = 2 := fun e => hk (.inl e)
        have n3 : ¬ t.kd = 3 := fun e => hk (.inr e)
        have E : Hid (tfault t = afault t.at_) := Hid.mk' (by unfold tfault; rw [if_pos hf, if_pos hb, if_neg (fun h => hk h.1)])
        clear hb hk KN
        go_enter Tryz.func34, Tryz.ntmps34
        go_wp2_with (first | go_big_skip | (go_at_call 59; refine KF.out.mono ?_; rintro e w1 ⟨rfl, rfl⟩) | (go_at_call 60; refine KI.out.mono ?_; rintro e w1 ⟨rfl, rfl⟩) | (go_at_call 62; refine KA.out.mono ?_; rintro e w1 ⟨rfl, hbb⟩; have HB := Hid.mk' hbb; clear hbb))
        go_ret
        exact ⟨by rw [E.out]; rfl, HB.out⟩
    · rw [show (decide (0 ≤ t.by_) && decide (t.by_ ≤ 255)) = false by simp; omega] at KI
      have KI := Hid.mk' KI
      have E : Hid (tfault t = 3) := Hid.mk' (by unfold tfault; rw [if_pos hf, if_neg hb])
      clear hb KN
      go_enter Tryz.func34, Tryz.ntmps34
      go_wp2_with (first | (go_at_call 59; refine KF.out.mono ?_; rintro e w1 ⟨rfl, rfl⟩) | (go_at_call 60; refine KI.out.mono ?_; rintro e w1 ⟨rfl, rfl⟩))
      go_ret
      exact ⟨by rw [E.out]; rfl, Below.refl _ _⟩

end Go.Proofs.YtpcpnfpnkkjkcaaGreat

/- The program's side: a token's form. -/
namespace Go.Proofs.YtpcpnfpnkkjkcaaGreat
open Go.RowKit
set_option linter.unusedVariables false

set_option maxHeartbeats 3200000 in
theorem hasForm_any (t : TK) (a : Option Addr) (c : Nat) (w : World) :
    Calls Tryz.prog 102 #[.agg #[.int .i64 t.kd, .int .i64 t.by_, .string t.nm, .slice a t.at_.length c, .bool t.sh]] w fun e w' => e = .returned (.bool (tform t)) ∧ Below w.heap.size w w' := by
  have HB := Hid.mk' (below_new w (.cells #[.int .i64 t.kd, .int .i64 t.by_, .string t.nm, .slice a t.at_.length c, .bool t.sh] 40))
  by_cases k1 : 1 ≤ t.kd ∧ t.kd ≤ 4
  · have kk : t.kd = 1 ∨ t.kd = 2 ∨ t.kd = 3 ∨ t.kd = 4 := by omega
    rcases kk with e | e | e | e
    all_goals
      rw [e]
      have E := Hid.mk' e
      clear e k1
      go_enter Tryz.func102, Tryz.ntmps102
      go_wp2_with go_big_skip
    all_goals go_ret
    all_goals
      have e := E.out
      refine ⟨?_, (below_new w _)⟩
      by_cases hz : t.by_ = 0 <;> first | contradiction | (simp [tform, *])
  · have E : Hid (tform t = false) := Hid.mk' (by
      unfold tform
      rw [show (decide (1 ≤ t.kd) && decide (t.kd ≤ 4)) = false by simp; omega]
      simp)
    have n1 : ¬ t.kd = 1 := by omega
    have n2 : ¬ t.kd = 2 := by omega
    have n3 : ¬ t.kd = 3 := by omega
    have n4 : ¬ t.kd = 4 := by omega
    clear k1
    go_enter Tryz.func102, Tryz.ntmps102
    go_wp2_with go_big_skip
    go_ret
    exact ⟨by rw [E.out]; rfl, below_new w _⟩

end Go.Proofs.YtpcpnfpnkkjkcaaGreat
