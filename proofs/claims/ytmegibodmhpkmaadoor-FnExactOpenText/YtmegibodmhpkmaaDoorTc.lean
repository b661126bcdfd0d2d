/- Walks: a token copied; attributes and tokens compared. -/
import Derived.Test.YtmegibodmhpkmaaDoorTb
namespace Go.Proofs.YtmegibodmhpkmaaDoor
open Go.RowKit
set_option linter.unusedVariables false

/-- The i-th of five cells. -/
def r5 (x y z u v : Value) (i : Nat) : Value := if i = 0 then x else if i = 1 then y else if i = 2 then z else if i = 3 then u else v

theorem row5 (w : World) (t : TypeId) (x y z u v : Value) : (w.alloc (.cells #[x, y, z, u, v] t)).rowIs w.heap.size t 5 (r5 x y z u v) :=
  ⟨_, Deep.blk_alloc_new _ _, rfl, fun i hi => by
    have : i = 0 ∨ i = 1 ∨ i = 2 ∨ i = 3 ∨ i = 4 := by omega
    rcases this with rfl | rfl | rfl | rfl | rfl <;> rfl⟩

theorem cells5 {w : World} {g : Nat} {ty : TypeId} {x y z u v : Value} (h : w.rowIs g ty 5 (r5 x y z u v)) : w.cell? ⟨g, 0, none⟩ = some x ∧ w.cell? ⟨g, 1, none⟩ = some y ∧ w.cell? ⟨g, 2, none⟩ = some z ∧ w.cell? ⟨g, 3, none⟩ = some u ∧ w.cell? ⟨g, 4, none⟩ = some v ∧ g < w.heap.size :=
  ⟨h.cell (by omega), h.cell (by omega), h.cell (by omega), h.cell (by omega), h.cell (by omega), h.lt⟩

/-- A row of attributes of one's own at g; the bytes of each one behind it. -/
def AO (g : Nat) (l : List AT) (w : World) : Prop := ∃ f, w.rowIs g 39 (l.length * 2) f ∧ ∀ j, j < l.length → f (j * 2) = .string (atK l j).nm ∧ ∃ b, f (j * 2 + 1) = .slice (some ⟨b, 0, none⟩) (atK l j).vl.length (atK l j).vl.length ∧ g < b ∧ w.rowIs b 5 (atK l j).vl.length (bv (atK l j).vl)

theorem AO.below {g : Nat} {l : List AT} {w w1 : World} (h : AO g l w) (hb : Below w.heap.size w w1) : AO g l w1 := by
  obtain ⟨f, hf, hj⟩ := h
  refine ⟨f, rowB hf hb, fun j hk => ?_⟩
  obtain ⟨h1, b, h2, h3, h4⟩ := hj j hk
  exact ⟨h1, b, h2, h3, rowB h4 hb⟩

theorem AO.of {w wr w1 : World} {l : List AT} {lo hi : Nat} (h : AR w l l.length wr) (hk : KeptIn lo hi wr w1) (hhi : hi ≤ w.heap.size) : AO w.heap.size l w1 := by
  obtain ⟨f, hf, hj⟩ := h.row
  refine ⟨f, rowK hf hk (.inr hhi), fun j hjk => ?_⟩
  obtain ⟨h1, b, h2, h3, h4⟩ := hj j hjk
  exact ⟨h1, b, h2, h3, rowK h4 hk (.inr (by omega))⟩

theorem AO.at {g : Nat} {l : List AT} {w : World} (h : AO g l w) : AAt w (some ⟨g, 0, none⟩) l := by
  obtain ⟨f, hf, hj⟩ := h
  refine .inr ⟨_, _, rfl, hf.lt, fun k hk => ?_⟩
  obtain ⟨h1, b, h2, h3, h4⟩ := hj k hk
  have c1 : w.cell? ⟨g, k * 2, none⟩ = some (f (k * 2)) := hf.cell (by omega)
  have c2 : w.cell? ⟨g, k * 2 + 1, none⟩ = some (f (k * 2 + 1)) := hf.cell (by omega)
  refine ⟨by rw [Nat.zero_add, c1, h1], _, _, by rw [Nat.zero_add, c2, h2], ?_⟩
  exact .inr ⟨b, 0, rfl, h4.lt, fun i hi => by rw [Nat.zero_add]; exact h4.cell hi⟩

set_option maxHeartbeats 400000 in
theorem eqAttr_any (s : ByteArray) (a b : Option Addr) (c d : Nat) (l : List Int) (w : World) (ha : BAt w a l) (hb : BAt w b l) (hl : (l.length : Int) ≤ 1048576) :
    Calls Tryd.prog 14 #[.agg #[.string s, .slice a l.length c], .agg #[.string s, .slice b l.length d]] w fun e w' => e = .returned (.bool true) ∧ Below w.heap.size w w' := by
  have B0 := ((Below.refl w.heap.size w).alloc (Nat.le_refl _) (.cells #[.string s, .slice a l.length c] 39)).alloc (by simp) (.cells #[.string s, .slice b l.length d] 39)
  have KB := Hid.mk' (eqByteS_any a b c d l _ (ha.below B0) (hb.below B0) hl)
  have HB := Hid.mk' B0
  clear ha hb B0
  go_enter Tryd.func14, Tryd.ntmps14
  go_wp2_with fail
  refine KB.out.mono ?_
  rintro e w1 ⟨rfl, hb⟩
  have HB := Hid.mk' (HB.out.trans (hb.mono HB.out.size))
  clear hb KB
  go_wp2
  go_ret
  exact ⟨rfl, HB.out⟩

end Go.Proofs.YtmegibodmhpkmaaDoor
