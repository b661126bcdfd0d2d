/- Plain notions: bytes and pieces that lie in memory. -/
import Derived.WalkKit
import Derived.Deep.OwnRows
set_option linter.unusedVariables false
set_option linter.unusedSimpArgs false
namespace Go.Proofs.YtdloogkjnjklcaaGreatDoor
open Go.RowKit

theorem Hid.mk' {p : Prop} (h : p) : Hid p := h

def bv (l : List Int) (i : Nat) : Value := .int .u8 (l.getD i 0)

def BAt (w : World) (a : Option Addr) (l : List Int) : Prop :=
  l = [] ∨ ∃ b o, a = some ⟨b, o, none⟩ ∧ b < w.heap.size ∧ ∀ k, k < l.length → w.cell? ⟨b, o + k, none⟩ = some (bv l k)

theorem BAt.below {w w' : World} {a : Option Addr} {l : List Int} (h : BAt w a l) (hb : Below w.heap.size w w') : BAt w' a l := by
  rcases h with h | ⟨b, o, ha, hl, hc⟩
  · exact Or.inl h
  · exact Or.inr ⟨b, o, ha, Nat.lt_of_lt_of_le hl hb.size, fun k hk => (hb.cell hl).trans (hc k hk)⟩

def part (l : List Int) (k j : Nat) : Value := if j < k then bv l j else .int .u8 0

theorem row_part_start (w : World) (l : List Int) (n : Nat) : (w.alloc (.cells (madeCells #[.int .u8 0] n) 5)).rowIs w.heap.size 5 n (part l 0) :=
  (World.rowIs_made w (.int .u8 0) n 5).congr (fun i _ => by simp [part])

theorem row_part_step {w : World} {b n k : Nat} {l : List Int} (h : w.rowIs b 5 n (part l k)) : (w.setCell ⟨b, k, none⟩ (bv l k)).rowIs b 5 n (part l (k + 1)) :=
  (h.set k _).congr (fun j _ => by
    by_cases e : j = k
    · subst e; simp [part]
    · by_cases hlt : j < k
      · rw [if_neg e]; unfold part; rw [if_pos hlt, if_pos (by omega)]
      · rw [if_neg e]; unfold part; rw [if_neg hlt, if_neg (by omega)])

theorem row_part_end {w : World} {b : Nat} {l : List Int} (h : w.rowIs b 5 l.length (part l l.length)) : w.rowIs b 5 l.length (bv l) :=
  h.congr (fun i hi => by unfold part; rw [if_pos hi])

theorem BAt.of_row {w : World} {b : Nat} {l : List Int} (h : w.rowIs b 5 l.length (bv l)) : BAt w (some ⟨b, 0, none⟩) l :=
  Or.inr ⟨b, 0, rfl, h.lt, fun k hk => by rw [Nat.zero_add]; exact h.cell hk⟩

def r3 (x y z : Value) (i : Nat) : Value := if i = 0 then x else if i = 1 then y else z

theorem row3 (w : World) (t : TypeId) (x y z : Value) : (w.alloc (.cells #[x, y, z] t)).rowIs w.heap.size t 3 (r3 x y z) :=
  World.rowIs_alloc w #[x, y, z] t _ (fun i hi => by
    have h : i = 0 ∨ i = 1 ∨ i = 2 := by simp at hi; omega
    rcases h with rfl | rfl | rfl <;> simp [r3])

theorem zA {α : Type} (l : List α) (i : Nat) (a : α) : l.toArray.setIfInBounds i a = (l.set i a).toArray := by simp

theorem zB {α : Type} (x y : α) (l : List α) : (x :: l).set 0 y = y :: l := rfl

theorem zC {α : Type} (x y : α) (l : List α) (n : Nat) : (x :: l).set (n + 1) y = x :: l.set n y := rfl

end Go.Proofs.YtdloogkjnjklcaaGreatDoor
