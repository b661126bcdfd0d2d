/- An edit, the program's side. -/
import Derived.Test.YtlimgcmhidooaaaGreatDoorL31
import Derived.Laws.ComplexArith
import Derived.Test.YtlimgcmhidooaaaGreatDoorL26
import Derived.Test.YtlimgcmhidooaaaGreatDoorL3
import Derived.Test.YtlimgcmhidooaaaGreatDoorL25
set_option linter.unusedVariables false
set_option linter.unusedSimpArgs false
namespace Go.Proofs.YtlimgcmhidooaaaGreatDoor
open Go.RowKit

theorem setRow_kept (w : World) (g : Nat) (z : Array Value) : KeptIn g (g + 1) w (w.setRow g z) := ⟨rfl, rfl, rfl, by simp [World.setRow], fun k hk hne => setRow_other w g k _ (by omega)⟩

end Go.Proofs.YtlimgcmhidooaaaGreatDoor

namespace Go.Proofs.YtlimgcmhidooaaaGreatDoor
open Go.RowKit

theorem alloc_setRow (w : World) (z X : Array Value) (T : TypeId) : (w.alloc (.cells z T)).setRow w.heap.size X = w.alloc (.cells X T) := by
  unfold World.setRow World.alloc
  congr 1
  apply Array.ext_getElem?
  intro i
  rw [Array.getElem?_modify]
  by_cases h : w.heap.size = i
  · subst h; simp
  · rw [if_neg h, Array.getElem?_push, Array.getElem?_push, if_neg (by omega), if_neg (by omega)]

end Go.Proofs.YtlimgcmhidooaaaGreatDoor

namespace Go.Proofs.YtlimgcmhidooaaaGreatDoor
open Go.RowKit

end Go.Proofs.YtlimgcmhidooaaaGreatDoor

namespace Go.Proofs.YtlimgcmhidooaaaGreatDoor
open Go.RowKit

end Go.Proofs.YtlimgcmhidooaaaGreatDoor

namespace Go.Proofs.YtlimgcmhidooaaaGreatDoor
open Go.RowKit

def RowA (w : World) (g : Nat) (ty : TypeId) (cs : Array Value) : Prop := w.heap[g]? = some (.cells cs ty (0, 0))

theorem RowA.new (w : World) (ty : TypeId) (cs : Array Value) : RowA (w.alloc (.cells cs ty)) w.heap.size ty cs := Deep.blk_alloc_new _ _

theorem RowA.lt {w : World} {g : Nat} {ty : TypeId} {cs : Array Value} (h : RowA w g ty cs) : g < w.heap.size := by
  by_cases hg : g < w.heap.size
  · exact hg
  · unfold RowA at h
    rw [Array.getElem?_eq_none (by omega)] at h
    cases h

theorem RowA.below {w w' : World} {g : Nat} {ty : TypeId} {cs : Array Value} (h : RowA w g ty cs) (hb : Below w.heap.size w w') : RowA w' g ty cs :=
  (hb.block g h.lt).trans h

theorem RowA.row {w : World} {g : Nat} {ty : TypeId} {cs : Array Value} (h : RowA w g ty cs) : w.rowIs g ty cs.size (fun i => cs.getD i undef) :=
  ⟨cs, h, rfl, fun i hi => by simp [Array.getD, hi]⟩

theorem RowA.cell {w : World} {g : Nat} {ty : TypeId} {cs : Array Value} (h : RowA w g ty cs) (i : Nat) (v : Value) (hv : cs[i]? = some v) : w.cell? ⟨g, i, none⟩ = some v := by
  have hi : i < cs.size := by
    by_cases hi : i < cs.size
    · exact hi
    · rw [Array.getElem?_eq_none (by omega)] at hv; cases hv
  rw [h.row.cell hi]
  rw [Array.getElem?_eq_getElem hi] at hv
  simp only [Array.getD, hi, dif_pos]
  exact hv

theorem RowA.set {w : World} {g : Nat} {ty : TypeId} {cs : Array Value} (h : RowA w g ty cs) (i : Nat) (v : Value) : RowA (w.setCell ⟨g, i, none⟩ v) g ty (cs.setIfInBounds i v) := by
  unfold RowA at *
  simp [World.setCell, Array.getElem?_modify, h]

theorem RowA.frozen {w : World} {g : Nat} {ty : TypeId} {cs : Array Value} (h : RowA w g ty cs) (i : Nat) : w.frozen? ⟨g, i, none⟩ = false := h.row.frozen i

theorem RowA.load {P : Program} {w : World} {g : Nat} {ty : TypeId} {cs : Array Value} (h : RowA w g ty cs) (d : TypeDesc) (hu : P.underlying ty = some d) (hd : (match d with | .struct _ | .array _ _ => true | _ => false) = true) (hi : (P.info? ty).map (·.size) = some cs.size) :
    (loadVar ty ⟨g, 0, none⟩).run P w = .ok (.agg cs) w := run_loadVar_row (P := P) w g ty ty cs (0, 0) d h hu hd hi

theorem RowA.put {w : World} {g : Nat} {ty : TypeId} {cs : Array Value} (h : RowA w g ty cs) (ds : Array Value) : RowA (w.setRow g ds) g ty ds := setRow_heap w g cs ds ty (0, 0) h

theorem RowA.putBelow {B : Nat} {w w' : World} {g : Nat} (hb : Below B w w') (hg : B ≤ g) (ds : Array Value) : Below B w (w'.setRow g ds) :=
  ⟨hb.os, hb.tape, hb.output, by rw [setRow_size]; exact hb.size, fun k hk => (setRow_other w' g k ds (by omega)).trans (hb.block k hk)⟩

theorem RowA.keptRow (w : World) (g : Nat) (ds : Array Value) : KeptIn g (g + 1) w (w.setRow g ds) :=
  ⟨rfl, rfl, rfl, by rw [setRow_size]; exact Nat.le_refl _, fun k hk h => setRow_other w g k ds (by omega)⟩

end Go.Proofs.YtlimgcmhidooaaaGreatDoor

namespace Go.Proofs.YtlimgcmhidooaaaGreatDoor
open Go.RowKit

end Go.Proofs.YtlimgcmhidooaaaGreatDoor

namespace Go.Proofs.YtlimgcmhidooaaaGreatDoor
open Go.RowKit

end Go.Proofs.YtlimgcmhidooaaaGreatDoor
