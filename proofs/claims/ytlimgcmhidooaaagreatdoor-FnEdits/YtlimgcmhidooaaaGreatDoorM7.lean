/- The table of names, as the listed variable: its cells out of its reading, and that a call leaves them. -/
import Derived.Test.YtlimgcmhidooaaaGreatDoorRows
import Derived.Test.YtlimgcmhidooaaaGreatDoorM6
import Derived.ProofKit
import Derived.LaidMore
import Derived.OpenShut
import Derived.ChangeVars
import Derived.Stop.Joined
import Derived.Lib.LaidU8
set_option maxRecDepth 100000
set_option linter.unusedVariables false
set_option linter.unusedSimpArgs false
namespace Go.Proofs.YtlimgcmhidooaaaGreatDoor
open Go.ChangeShapes Go.WideShapes Go.ChangeAt Go.RowKit
theorem gRef : Tryz.prog.globalNamed "loop.example/g00606/impl.namedRefs" = some 2 := by kernel_rfl
theorem tRef : (Tryz.prog.globals[2]?).map (·.type) = some 192 := by kernel_rfl
theorem cells62 : Tryz.prog.cellsOf 191 = 2 := by kernel_rfl
theorem cells63 : Tryz.prog.cellsOf 192 = 8 := by kernel_rfl
theorem own : ownKnob Tryz.prog.godebug = none := by kernel_rfl
theorem c5 : Tryz.prog.cellsOf 5 = 1 := by kernel_rfl
theorem c9 : Tryz.prog.cellsOf 9 = 1 := by kernel_rfl
theorem ref_elem {H : Type} {enc : TypeId × Value → H} {w : World} {base : Nat} {sp : Nat → Bool} {held : Bool} {fuel : Nat} {x y : Value} {k : Int} {bs : List UInt8} {q : List MemPlace}
  (h : DataW.trod enc Tryz.prog w base sp held fuel 191 [x, y] = some (.agg [.lit (.int .u8 k), .lit (.string bs)], q)) : x = .int .u8 k ∧ y = .string ⟨bs.toArray⟩ := by
 obtain ⟨xs, n, rfl, hx, hl, hxl, hall⟩ := DataW.trod_struct Tryz.underlying191 h
 have h0 : DataW.trod enc Tryz.prog w base sp held n 5 (List.take (Tryz.prog.cellsOf 5) (List.drop 0 [x, y])) = xs[0]? := hall 0 _ rfl
 have h1 : DataW.trod enc Tryz.prog w base sp held n 9 (List.take (Tryz.prog.cellsOf 9) (List.drop 1 [x, y])) = xs[1]? := hall 1 _ rfl
 rw [c5] at h0
 rw [c9] at h1
 match xs, hxl with
 | [a, b], _ =>
  simp at h0 h1 hx
  obtain ⟨z, e1, e2, _⟩ := DataW.trod_int Tryz.underlying5 h0
  obtain ⟨s, e3, e4, _⟩ := DataW.trod_string Tryz.underlying9 h1
  subst e2 e4
  simp at e1 e3 hx
  refine ⟨by rw [e1, hx.1.1], ?_⟩
  rw [e3]
  refine congrArg Value.string ?_
  rw [hx.1.2]
def cells8 : List Value := [.int .u8 60, .string ⟨#[38, 108, 116, 59]⟩, .int .u8 62, .string ⟨#[38, 103, 116, 59]⟩, .int .u8 38, .string ⟨#[38, 97, 109, 112, 59]⟩, .int .u8 34, .string ⟨#[38, 113, 117, 111, 116, 59]⟩]
theorem var_of_reads {w : World} (h : Lib.VarReads Tryz.prog w "loop.example/g00606/impl.namedRefs" Rows.laid_loop_example_g00606_impl_namedRefs) : w.var? Tryz.prog "loop.example/g00606/impl.namedRefs" = some cells8.toArray := by
 obtain ⟨g, t, cs, fuel, p, hg, ht, hv, hd⟩ := h
 obtain rfl := Option.some.inj (gRef.symm.trans hg)
 obtain rfl := Option.some.inj (tRef.symm.trans ht)
 rw [hv]
 obtain ⟨l⟩ := cs
 obtain ⟨xs, m1, rfl, hx1, hlen, hn3, hel⟩ := DataW.trod_array Tryz.underlying192 hd
 rw [cells63] at hlen
 match l, hlen with
 | [x0, x1, x2, x3, x4, x5, x6, x7], _ =>
  obtain ⟨f0, d0, q0, e0, h0⟩ := Lib.array_elem Tryz.underlying192 hd 0 (by decide)
  obtain ⟨f1, d1, q1, e1, h1⟩ := Lib.array_elem Tryz.underlying192 hd 1 (by decide)
  obtain ⟨f2, d2, q2, e2, h2⟩ := Lib.array_elem Tryz.underlying192 hd 2 (by decide)
  obtain ⟨f3, d3, q3, e3, h3⟩ := Lib.array_elem Tryz.underlying192 hd 3 (by decide)
  rw [cells62] at h0 h1 h2 h3
  simp at e0 e1 e2 e3 h0 h1 h2 h3
  subst e0 e1 e2 e3
  obtain ⟨rfl, rfl⟩ := ref_elem h0
  obtain ⟨rfl, rfl⟩ := ref_elem h1
  obtain ⟨rfl, rfl⟩ := ref_elem h2
  obtain ⟨rfl, rfl⟩ := ref_elem h3
  rfl
theorem refs_of_var {w : World} (hv : w.var? Tryz.prog "loop.example/g00606/impl.namedRefs" = some cells8.toArray) : Refs w := by
 intro i hi
 have := World.var?_cell gRef hv i
 rw [this]
 match i, hi with
 | 0, _ => rfl
 | 1, _ => rfl
 | 2, _ => rfl
 | 3, _ => rfl
 | 4, _ => rfl
 | 5, _ => rfl
 | 6, _ => rfl
 | 7, _ => rfl
theorem laidOut : laidOutB Tryz.prog = true := by kernel_rfl
theorem reads_cells8 {H : Type} (enc : TypeId × Value → H) (W : World) (sp : Nat → Bool) : DataW.trod enc Tryz.prog W 0 sp true 4 192 cells8 = some (Rows.laid_loop_example_g00606_impl_namedRefs, []) := by kernel_rfl
theorem var_lt {w : World} (hv : w.var? Tryz.prog "loop.example/g00606/impl.namedRefs" = some cells8.toArray) : 2 < w.heap.size := (refs_of_var hv).lt
theorem var_below {w w' : World} (hv : w.var? Tryz.prog "loop.example/g00606/impl.namedRefs" = some cells8.toArray) (hb : Below w.heap.size w w') : w'.var? Tryz.prog "loop.example/g00606/impl.namedRefs" = some cells8.toArray := by
 rw [← hv]
 simp only [World.var?, gRef, Option.bind_some]
 rw [hb.block 2 (var_lt hv)]

end Go.Proofs.YtlimgcmhidooaaaGreatDoor
