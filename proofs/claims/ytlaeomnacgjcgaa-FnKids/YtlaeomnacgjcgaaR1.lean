/- Plain notions: bytes and pieces that lie in memory. -/
import Derived.WalkKit
import Derived.Deep.OwnRows
import Derived.OrdersHeld
set_option linter.unusedVariables false
set_option linter.unusedSimpArgs false
namespace Go.Proofs.Ytlaeomnacgjcgaa
open Go.RowKit

theorem Hid.mk' {p : Prop} (h : p) : Hid p := h

def bv (l : List Int) (i : Nat) : Value := .int .u8 (l.getD i 0)

def BAt (w : World) (a : Option Addr) (l : List Int) : Prop :=
  l = [] ∨ ∃ b o, a = some ⟨b, o, none⟩ ∧ b < w.heap.size ∧ ∀ k, k < l.length → w.cell? ⟨b, o + k, none⟩ = some (bv l k)

theorem BAt.below {w w' : World} {a : Option Addr} {l : List Int} (h : BAt w a l) (hb : Below w.heap.size w w') : BAt w' a l := by
  rcases h with h | ⟨b, o, ha, hl, hc⟩
  · exact Or.inl h
  · exact Or.inr ⟨b, o, ha, Nat.lt_of_lt_of_le hl hb.size, fun k hk => (hb.cell hl).trans (hc k hk)⟩

def r3 (x y z : Value) (i : Nat) : Value := if i = 0 then x else if i = 1 then y else z

theorem row3 (w : World) (t : TypeId) (x y z : Value) : (w.alloc (.cells #[x, y, z] t)).rowIs w.heap.size t 3 (r3 x y z) :=
  World.rowIs_alloc w #[x, y, z] t _ (fun i hi => by
    have h : i = 0 ∨ i = 1 ∨ i = 2 := by simp at hi; omega
    rcases h with rfl | rfl | rfl <;> simp [r3])

theorem zA {α : Type} (l : List α) (i : Nat) (a : α) : l.toArray.setIfInBounds i a = (l.set i a).toArray := by simp

theorem zB {α : Type} (x y : α) (l : List α) : (x :: l).set 0 y = y :: l := rfl

theorem zC {α : Type} (x y : α) (l : List α) (n : Nat) : (x :: l).set (n + 1) y = x :: l.set n y := rfl

theorem tkY {P : Program} {ops : Array Oper} {Q : Exit → Act → World → Prop} {md : Region.Mode} {S : World → Prop} {d op ty ps af gd} {v : Value} {fuel : Nat} {listed : Array Bool} {a a' : Act} {w : World} (i : Nat)
    (h : wpAnyH P md ops Q S fuel (listed.setIfInBounds i true) a' w)
    (hi : ops[i]? = some ⟨d, op, ty, ps, af, gd⟩ := by rfl)
    (hs : Region.noSelect ops = true := by kernel_rfl) (hf : Region.free md ops listed i = true := by kernel_rfl) (hr : (Region.ready md ops listed).contains i = true := by kernel_rfl)
    (hQ : ∀ c a' w', Q (.panic c) (a'.put d v) w' → Q (.panic c) a' w' := by exact fun _ _ _ h => h)
    (hw : Region.wanted ⟨d, op, ty, ps, af, gd⟩ (yielded ops a.tmps) = true := by rfl)
    (hy : ∀ w, S w → (execOp a.eval ⟨d, op, ty, ps, af, gd⟩).run P w = .ok (.value v) w := by (intro w hSw; (try dsimp only at hSw); go_simp; (try with_reducible rfl)))
    (hS : S w := by assumption) (hp : a.put d v = a' := by ((try simp only [Act.put, zA, zB, zC]); exact rfl)) : wpAnyH P md ops Q S (fuel + 1) listed a w :=
  wpAnyH_take hi hs hf hr hQ (.inl ⟨hw, hy⟩) hS (hp ▸ h)

theorem tkU {P : Program} {ops : Array Oper} {Q : Exit → Act → World → Prop} {md : Region.Mode} {S : World → Prop} {d op ty ps af gd} {fuel : Nat} {listed : Array Bool} {a a' : Act} {w : World} (i : Nat)
    (h : wpAnyH P md ops Q S fuel (listed.setIfInBounds i true) a' w)
    (hi : ops[i]? = some ⟨d, op, ty, ps, af, gd⟩ := by rfl)
    (hs : Region.noSelect ops = true := by kernel_rfl) (hf : Region.free md ops listed i = true := by kernel_rfl) (hr : (Region.ready md ops listed).contains i = true := by kernel_rfl)
    (hQ : ∀ c a' w', Q (.panic c) (a'.put d undef) w' → Q (.panic c) a' w' := by exact fun _ _ _ h => h)
    (hw : Region.wanted ⟨d, op, ty, ps, af, gd⟩ (yielded ops a.tmps) = false := by rfl)
    (hS : S w := by assumption) (hp : a.put d undef = a' := by ((try simp only [Act.put, zA, zB, zC]); exact rfl)) : wpAnyH P md ops Q S (fuel + 1) listed a w :=
  wpAnyH_take hi hs hf hr hQ (.inr ⟨hw, rfl⟩) hS (hp ▸ h)

end Go.Proofs.Ytlaeomnacgjcgaa
