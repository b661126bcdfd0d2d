/- A box of many cells, told as one array. -/
import Derived.Test.YtbdjppiagjhfmaaOwn
namespace Go.Proofs.Ytbdjppiagjhfmaa
open Go.RowKit
set_option linter.unusedVariables false
set_option linter.unusedSimpArgs false

/-- The box g holds just these cells. -/
def RowA (w : World) (g : Nat) (ty : TypeId) (cs : Array Value) : Prop := w.heap[g]? = some (.cells cs ty (0, 0))

theorem RowA.new (w : World) (ty : TypeId) (cs : Array Value) : RowA (w.alloc (.cells cs ty)) w.heap.size ty cs := Deep.blk_alloc_new _ _

theorem RowA.lt {w : World} {g : Nat} {ty : TypeId} {cs : Array Value} (h : RowA w g ty cs) : g < w.heap.size := by
  by_cases hg : g < w.heap.size
  · exact hg
  · unfold RowA at h
    rw [Array.getElem?_eq_none (by omega)] at h
    cases h

theorem RowA.below {w w' : World} {g : Nat} {ty : TypeId} {cs : Array Value} (h : RowA w g ty cs) (hb : Below w.heap.size w w') : RowA w' g ty cs :=
  (hb.block g h.lt).trans h

theorem RowA.row {w : World} {g : Nat} {ty : TypeId} {cs : Array Value} (h : RowA w g ty cs) : w.rowIs g ty cs.size (fun i => cs.getD i undef) :=
  ⟨cs, h, rfl, fun i hi => by simp [Array.getD, hi]⟩

theorem RowA.cell {w : World} {g : Nat} {ty : TypeId} {cs : Array Value} (h : RowA w g ty cs) (i : Nat) (v : Value) (hv : cs[i]? = some v) : w.cell? ⟨g, i, none⟩ = some v := by
  have hi : i < cs.size := by
    by_cases hi : i < cs.size
    · exact hi
    · rw [Array.getElem?_eq_none (by omega)] at hv; cases hv
  rw [h.row.cell hi]
  rw [Array.getElem?_eq_getElem hi] at hv
  simp only [Array.getD, hi, dif_pos]
  exact hv

theorem RowA.set {w : World} {g : Nat} {ty : TypeId} {cs : Array Value} (h : RowA w g ty cs) (i : Nat) (v : Value) : RowA (w.setCell ⟨g, i, none⟩ v) g ty (cs.setIfInBounds i v) := by
  unfold RowA at *
  simp [World.setCell, Array.getElem?_modify, h]

theorem RowA.other {w : World} {g : Nat} {ty : TypeId} {cs : Array Value} (h : RowA w g ty cs) {a : Addr} (ha : g ≠ a.block) (v : Value) : RowA (w.setCell a v) g ty cs := (Deep.blk_setCell_other _ _ _ _ ha).trans h

theorem RowA.frozen {w : World} {g : Nat} {ty : TypeId} {cs : Array Value} (h : RowA w g ty cs) (i : Nat) : w.frozen? ⟨g, i, none⟩ = false := h.row.frozen i

theorem RowA.load {P : Program} {w : World} {g : Nat} {ty : TypeId} {cs : Array Value} (h : RowA w g ty cs) (d : TypeDesc) (hu : P.underlying ty = some d) (hd : (match d with | .struct _ | .array _ _ => true | _ => false) = true) (hi : (P.info? ty).map (·.size) = some cs.size) :
    (loadVar ty ⟨g, 0, none⟩).run P w = .ok (.agg cs) w := run_loadVar_row (P := P) w g ty ty cs (0, 0) d h hu hd hi

theorem RowA.put {w : World} {g : Nat} {ty : TypeId} {cs : Array Value} (h : RowA w g ty cs) (ds : Array Value) : RowA (w.setRow g ds) g ty ds := setRow_heap w g cs ds ty (0, 0) h

theorem RowA.otherRow {w : World} {g k : Nat} {ty : TypeId} {cs : Array Value} (h : RowA w g ty cs) (hk : g ≠ k) (ds : Array Value) : RowA (w.setRow k ds) g ty cs := (setRow_other w k g ds hk).trans h

theorem RowA.putBelow {B : Nat} {w w' : World} {g : Nat} (hb : Below B w w') (hg : B ≤ g) (ds : Array Value) : Below B w (w'.setRow g ds) :=
  ⟨hb.os, hb.tape, hb.output, by rw [setRow_size]; exact hb.size, fun k hk => (setRow_other w' g k ds (by omega)).trans (hb.block k hk)⟩

theorem RowA.keptRow (w : World) (g : Nat) (ds : Array Value) : KeptIn g (g + 1) w (w.setRow g ds) :=
  ⟨rfl, rfl, rfl, by rw [setRow_size]; exact Nat.le_refl _, fun k hk h => setRow_other w g k ds (by omega)⟩

/-- A whole box is loaded. -/
theorem RowA.exec {P : Program} {o : Oper} {a : Act} {w : World} {g : Nat} {ty : TypeId} {cs : Array Value} (h : RowA w g ty cs) (x : Operand) (ho : o.op = .load ty x) (hx : a.eval x = .pointer (some ⟨g, 0, none⟩)) (d : TypeDesc)
    (hu : P.underlying ty = some d) (hd : (match d with | .struct _ | .array _ _ => true | _ => false) = true) (hi : (P.info? ty).map (·.size) = some cs.size) :
    (execOp a.eval o).run P w = .ok (.value (.agg cs)) w := by
  unfold execOp
  simp only [ho, hx, Instr.loadAt, Instr.sureAddr, Sem.run_bind, Sem.run_pure, Result.andThen_ok, run_loadVar_row w g ty ty cs (0, 0) d h hu hd hi]

theorem RowA.drew {w : World} {g : Nat} {ty : TypeId} {cs : Array Value} (h : RowA w g ty cs) : RowA w.drew g ty cs := h

theorem RowA.setBelow {B : Nat} {w w' : World} {g : Nat} (hb : Below B w w') (hg : B ≤ g) (i : Nat) (v : Value) : Below B w (w'.setCell ⟨g, i, none⟩ v) :=
  hb.setCell (p := ⟨g, i, none⟩) hg v

end Go.Proofs.Ytbdjppiagjhfmaa
