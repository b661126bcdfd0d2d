/- The table of powers of ten that decimals read: out of the row's reading. -/
import Derived.Test.YtaihlcfpkabonaaDoorPtc
import Derived.Test.YtaihlcfpkabonaaDoorRows
import Derived.OpenShut
import Derived.ChangeSame
import Derived.Lib.LaidU8
import Derived.Lib.LaidTab
namespace Go.Proofs.YtaihlcfpkabonaaDoor
open Go.ChangeShapes Go.WideShapes Go.ChangeAt Go.RowKit
set_option linter.unusedVariables false
set_option maxRecDepth 100000

theorem gTen : Tryd.prog.globalNamed "internal/strconv.uint64pow10" = some 1 := by kernel_rfl
theorem tTen : (Tryd.prog.globals[1]?).map (·.type) = some 74 := by kernel_rfl

theorem tab_of {W : World} (h : Lib.VarReads Tryd.prog W "internal/strconv.uint64pow10" Rows.laid_internal_strconv_uint64pow10) : TabW W := by
  obtain ⟨g, t, cs, fuel, p, hg, ht, hv, hd⟩ := h
  obtain rfl := Option.some.inj (gTen.symm.trans hg)
  obtain rfl := Option.some.inj (tTen.symm.trans ht)
  have e : (Rows.laid_internal_strconv_uint64pow10 : DataW Unit) = Lib.tabData .u64 Lib.pow10Tab := by kernel_rfl
  rw [e] at hd
  show W.var? Tryd.prog _ = _
  rw [hv, ← Lib.cells_of_tab Tryd.underlying74 Tryd.underlying67 (by kernel_rfl) (by kernel_rfl) hd]

end Go.Proofs.YtaihlcfpkabonaaDoor
