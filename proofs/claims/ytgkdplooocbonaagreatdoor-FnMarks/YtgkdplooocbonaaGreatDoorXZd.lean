/- The model's l4Start. -/
import Derived.Test.YtgkdplooocbonaaGreatDoorXV6
namespace Go.Proofs.YtgkdplooocbonaaGreatDoor
open Go.RowKit
set_option linter.unusedVariables false
set_option linter.unusedSimpArgs false

/-- What a reader of tags answers: a token and whether it is one. -/
def TagP (r : Option TK) (w : World) (e : Ending) (w' : World) : Prop := ∃ (t : TK) (v : Value) (us : List Value) (ok : Bool), e = .returned (.tuple #[.agg #[.int .i64 t.kd, .int .i64 t.by_, .string t.nm, v, .bool t.sh], .bool ok]) ∧ OA w.heap.size w' v t.at_ us ∧ r = (if ok = true then some t else none) ∧ Below w.heap.size w w'

/-- A start tag, its first byte told already. -/
def startA (L : List UInt8) : Option TK :=
  if 1 ≤ spn pL (L.drop 1) ∧ spn pL (L.drop 1) ≤ 8 then
      (match insideA (L.length + 1) (L.drop (1 + spn pL (L.drop 1))) [] with
      | none => none
      | some (l, sh) => some ⟨2, 0, ⟨((L.drop 1).take (spn pL (L.drop 1))).toArray⟩, l, sh⟩)
    else none

/-- What the end of a start tag says. -/
theorem inside_end {f : Nat} {L : List UInt8} {k : Nat} {acc : List AT} (hb : pB (L.getD k 0) = false) : insideA (f + 1) (L.drop k) acc = (if (L.getD k 0).toNat = 47 then (if k + 1 + 1 = L.length ∧ (L.getD (k + 1) 0).toNat = 62 then some (acc, true) else none) else (if k + 1 = L.length ∧ (L.getD k 0).toNat = 62 then some (acc, false) else none)) := by
  have hz : spn pB (L.drop k) = 0 := spn_zero_of (by rw [getD_drop, Nat.add_zero]; exact hb)
  unfold insideA
  rw [hz]
  simp only [List.drop_drop, Nat.add_zero, getD_drop, Nat.zero_add, if_true, one_left]
  by_cases h47 : (L.getD k 0).toNat = 47
  · rw [if_pos h47, if_pos h47]
  · rw [if_neg h47, if_neg h47]
    by_cases h62 : (L.getD k 0).toNat = 62
    · rw [if_pos h62]
    · rw [if_neg h62, if_neg (fun h => h62 h.2)]

/-- An attribute behind blanks. -/
theorem inside_attr {f : Nat} {L : List UInt8} {acc : List AT} {b : Nat} (hs : spn pB L = b) (hb : 1 ≤ b) (hc : pL ((L.drop b).getD 0 0) = true) : insideA (f + 1) L acc = (match attrA (L.drop b) with
      | none => none
      | some (a, n) => insideA f (L.drop (b + n)) (addA acc a)) := by
  have h := (ltrB_iff _).1 hc
  unfold ltr at h
  conv => lhs; unfold insideA
  rw [hs, if_neg (by omega), if_neg (by omega), if_neg (by omega)]
  cases attrA (L.drop b) with
  | none => rfl
  | some p => rfl

def set5 (w : World) (g : Nat) (x y z u v : Value) : World := ((((w.setCell ⟨g, 0, none⟩ x).setCell ⟨g, 1, none⟩ y).setCell ⟨g, 2, none⟩ z).setCell ⟨g, 3, none⟩ u).setCell ⟨g, 4, none⟩ v
theorem five_other (w : World) (g k : Nat) (x y z u v : Value) (h : k ≠ g) : (((((w.setCell ⟨g, 0, none⟩ x).setCell ⟨g, 1, none⟩ y).setCell ⟨g, 2, none⟩ z).setCell ⟨g, 3, none⟩ u).setCell ⟨g, 4, none⟩ v).heap[k]? = w.heap[k]? := by
  rw [Deep.blk_setCell_other _ _ _ _ h, Deep.blk_setCell_other _ _ _ _ h, Deep.blk_setCell_other _ _ _ _ h, Deep.blk_setCell_other _ _ _ _ h, Deep.blk_setCell_other _ _ _ _ h]
theorem five_cell (w : World) (g b o : Nat) (x y z u v : Value) (h : b ≠ g) : (((((w.setCell ⟨g, 0, none⟩ x).setCell ⟨g, 1, none⟩ y).setCell ⟨g, 2, none⟩ z).setCell ⟨g, 3, none⟩ u).setCell ⟨g, 4, none⟩ v).cell? ⟨b, o, none⟩ = w.cell? ⟨b, o, none⟩ := World.cell?_of_block (five_other w g b x y z u v h)
theorem five_below {B : Nat} {w w' : World} (h : Below B w w') (g : Nat) (x y z u v : Value) (hg : B ≤ g) : Below B w (((((w'.setCell ⟨g, 0, none⟩ x).setCell ⟨g, 1, none⟩ y).setCell ⟨g, 2, none⟩ z).setCell ⟨g, 3, none⟩ u).setCell ⟨g, 4, none⟩ v) :=
  ((((h.setCell (p := ⟨g, 0, none⟩) hg _).setCell (p := ⟨g, 1, none⟩) hg _).setCell (p := ⟨g, 2, none⟩) hg _).setCell (p := ⟨g, 3, none⟩) hg _).setCell (p := ⟨g, 4, none⟩) hg _

theorem drew_heap (w : World) (k : Nat) : w.drew.heap[k]? = w.heap[k]? := rfl
theorem fin_tag {r : Option TK} {w : World} {t : TK} {q : Nat} (W : World) (v : Value) (us : List Value) (ok : Bool) (ho : OA q W v t.at_ us) (hb : Below w.heap.size w W) (hq : w.heap.size < q) (hr : r = (if ok = true then some t else none)) : TagP r w (.returned (.tuple #[.agg #[.int .i64 t.kd, .int .i64 t.by_, .string t.nm, v, .bool t.sh], .bool ok])) (((((W.setCell ⟨w.heap.size, 0, none⟩ (.int .i64 t.kd)).setCell ⟨w.heap.size, 1, none⟩ (.int .i64 t.by_)).setCell ⟨w.heap.size, 2, none⟩ (.string t.nm)).setCell ⟨w.heap.size, 3, none⟩ v).setCell ⟨w.heap.size, 4, none⟩ (.bool t.sh)).drew :=
  ⟨t, v, us, ok, rfl, ho.keep (by omega) (fun k hk _ => (drew_heap _ k).trans (five_other W w.heap.size k _ _ _ _ _ (by omega))), hr, (five_below hb w.heap.size _ _ _ _ _ (Nat.le_refl _)).drew⟩

/-- What holds at each round of l4Start: the tag's box at q, the box of the answer, what is read, what is left. -/
structure LS (L : List UInt8) (nm : ByteArray) (w : World) (q : Nat) (R : Option (List AT × Bool)) (m : Nat) (wr : World) (f : Nat) (acc : List AT) (v : Value) (us : List Value) : Prop where
  le : m ≤ L.length
  fu : L.length < m + f
  ins : insideA f (L.drop m) acc = R
  few : acc.length ≤ m
  box : wr.rowIs q 33 5 (r5 (.int .i64 2) (.int .i64 0) (.string nm) v (.bool false))
  res : wr.rowIs w.heap.size 33 5 (r5 (.int .i64 0) (.int .i64 0) (.string ⟨#[]⟩) (.slice none 0 0) (.bool false))
  own : OA (q + 1) wr v acc us
  bl : Below w.heap.size w wr
theorem LS.below {L : List UInt8} {nm : ByteArray} {w : World} {q : Nat} {R : Option (List AT × Bool)} {m : Nat} {wr wx : World} {f : Nat} {acc : List AT} {v : Value} {us : List Value} (h : LS L nm w q R m wr f acc v us) (hb : Below wr.heap.size wr wx) : LS L nm w q R m wx f acc v us :=
  ⟨h.le, h.fu, h.ins, h.few, rowB h.box hb, rowB h.res hb, h.own.below hb, h.bl.trans (hb.mono h.bl.size)⟩

end Go.Proofs.YtgkdplooocbonaaGreatDoor
