/- The two tables that a measure's text reads: out of the row's reading. -/
import Derived.Test.YthhdfbgjdfoalaaGreatDoorU4
import Derived.Test.YthhdfbgjdfoalaaGreatDoorRows
import Derived.OpenShut
import Derived.ChangeSame
import Derived.Lib.LaidU8
import Derived.Lib.LaidTab
namespace Go.Proofs.YthhdfbgjdfoalaaGreatDoor
open Go.ChangeShapes Go.WideShapes Go.ChangeAt Go.RowKit
set_option linter.unusedVariables false
set_option maxRecDepth 100000

theorem gPow : Tryz.prog.globalNamed "internal/strconv.pow10Tab" = some 11 := by kernel_rfl
theorem tPow : (Tryz.prog.globals[11]?).map (·.type) = some 334 := by kernel_rfl
theorem gTen : Tryz.prog.globalNamed "internal/strconv.uint64pow10" = some 8 := by kernel_rfl
theorem tTen : (Tryz.prog.globals[8]?).map (·.type) = some 298 := by kernel_rfl

theorem pow_cell {W : World} (h : Lib.VarReads Tryz.prog W "internal/strconv.pow10Tab" Go.Pinned.pow10Tab) (r : Nat) (hr : r < 696) (x : Nat × Nat) (hx : Go.Pinned.pow10Rows[r]? = some x) :
    W.cell? ⟨11, r * 2, none⟩ = some (.int .u64 x.1) ∧ W.cell? ⟨11, r * 2 + 1, none⟩ = some (.int .u64 x.2) := by
  obtain ⟨g, t, cs, fuel, p, hg, ht, hv, hd⟩ := h
  obtain rfl := Option.some.inj (gPow.symm.trans hg)
  obtain rfl := Option.some.inj (tPow.symm.trans ht)
  obtain ⟨xs, m, _, ex, _, hl, hel⟩ := DataW.trod_array Tryz.underlying334 hd
  have cE : Tryz.prog.cellsOf 333 = 2 := by kernel_rfl
  have c1 : Tryz.prog.cellsOf 163 = 1 := by kernel_rfl
  have hE := hel r hr
  rw [cE, List.getElem?_eq_getElem (by omega)] at hE
  obtain ⟨y0, y1, n, ey, _, t0, t1⟩ := trod_struct2 Tryz.underlying333 hE
  obtain ⟨z0, e0, q0, _⟩ := DataW.trod_int Tryz.underlying163 t0
  obtain ⟨z1, e1, q1, _⟩ := DataW.trod_int Tryz.underlying163 t1
  have e3 : xs.map (·.1) = Go.Pinned.pow10Rows.map fun x => (.agg [.lit (.int .u64 x.1), .lit (.int .u64 x.2)] : DataW Unit) := (DataW.agg.inj (Prod.mk.inj ex).1).symm
  have e4 : (xs.map (·.1))[r]? = (Go.Pinned.pow10Rows.map fun x => (.agg [.lit (.int .u64 x.1), .lit (.int .u64 x.2)] : DataW Unit))[r]? := by rw [e3]
  rw [List.getElem?_map, List.getElem?_map, hx, List.getElem?_eq_getElem (by omega : r < xs.length), ey, q0, q1] at e4
  simp only [Option.map_some, Option.some.injEq, DataW.agg.injEq, List.cons.injEq, DataW.lit.injEq, Lit.int.injEq, true_and, and_true] at e4
  obtain ⟨k0, k1⟩ := e4
  rw [World.var?_cell hg hv, World.var?_cell hg hv, ← k0, ← k1]
  have h0 : cs.toList[r * 2]? = some (.int .u64 z0) := by
    have := congrArg (·[0]?) e0
    simpa [c1, List.getElem?_take, List.getElem?_drop] using this
  have h1 : cs.toList[r * 2 + 1]? = some (.int .u64 z1) := by
    have := congrArg (·[0]?) e1
    simpa [c1, List.getElem?_take, List.getElem?_drop] using this
  exact ⟨by simpa using h0, by simpa using h1⟩

theorem tab_of {W : World} (h : Lib.VarReads Tryz.prog W "internal/strconv.uint64pow10" Rows.laid_internal_strconv_uint64pow10) : TabW W := by
  obtain ⟨g, t, cs, fuel, p, hg, ht, hv, hd⟩ := h
  obtain rfl := Option.some.inj (gTen.symm.trans hg)
  obtain rfl := Option.some.inj (tTen.symm.trans ht)
  have e : (Rows.laid_internal_strconv_uint64pow10 : DataW Unit) = Lib.tabData .u64 Lib.pow10Tab := by kernel_rfl
  rw [e] at hd
  show W.var? Tryz.prog _ = _
  rw [hv, ← Lib.cells_of_tab Tryz.underlying298 Tryz.underlying163 (by kernel_rfl) (by kernel_rfl) hd]

theorem hi_rows : ∀ p, p < 18 → 12 ≤ p → Go.Pinned.pow10Rows[p + 348]? = some (tabHi p, 0) := by decide +kernel

theorem pt_of {W : World} (h : Lib.VarReads Tryz.prog W "internal/strconv.pow10Tab" Go.Pinned.pow10Tab) : PT W := by
  refine ⟨?_, fun p h1 h2 => pow_cell h (p + 348) (by omega) _ (hi_rows p (by omega) h1)⟩
  have h0 := (pow_cell h 360 (by omega) _ (hi_rows 12 (by omega) (by omega))).1
  refine Nat.lt_of_not_le fun hn => ?_
  have : W.heap[11]? = none := Array.getElem?_eq_none hn
  simp [World.cell?, this] at h0

end Go.Proofs.YthhdfbgjdfoalaaGreatDoor
