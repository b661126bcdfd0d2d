/- The tables that ParseFloat reads: out of the row's reading. -/
import Derived.Test.YthhdfbgjdfoalaaGreatDoorU4
import Derived.Test.YthhdfbgjdfoalaaGreatDoorRows
import Derived.OpenShut
import Derived.ChangeSame
import Derived.Deep.Strs
import Derived.Lib.LaidU8
namespace Go.Proofs.YthhdfbgjdfoalaaGreatDoor
open Go.RowKit
open Ieee
set_option linter.unusedVariables false
set_option maxRecDepth 100000

theorem trod_float {H : Type} {enc : TypeId × Value → H} {P : Program} {w : World} {base : Nat} {spare : Nat → Bool} {held : Bool} {fuel : Nat} {t : TypeId} {cs : List Value} {x : DataW H × List MemPlace} {k : FloatKind} (ht : P.underlying t = some (.float k)) (h : DataW.trod enc P w base spare held fuel t cs = some x) : ∃ b, cs = [.float k b] ∧ x = (.lit (.float k b), []) := by
  cases fuel with
  | zero => simp [DataW.trod] at h
  | succ n =>
    unfold DataW.trod at h
    rw [ht] at h
    split at h <;> simp_all

theorem gInfo : Tryz.prog.globalNamed "internal/strconv.float64info" = some 10 := by kernel_rfl
theorem tInfo : (Tryz.prog.globals[10]?).map (·.type) = some 315 := by kernel_rfl
theorem gOpt : Tryz.prog.globalNamed "internal/strconv.optimize" = some 3 := by kernel_rfl
theorem tOpt : (Tryz.prog.globals[3]?).map (·.type) = some 4 := by kernel_rfl
theorem gF10 : Tryz.prog.globalNamed "internal/strconv.float64pow10" = some 15 := by kernel_rfl
theorem tF10 : (Tryz.prog.globals[15]?).map (·.type) = some 345 := by kernel_rfl

theorem info_of {W : World} (h : Lib.VarReads Tryz.prog W "internal/strconv.float64info" Rows.laid_internal_strconv_float64info) : W.cell? ⟨10, 0, none⟩ = some (.int .u64 52) := by
  obtain ⟨g, t, cs, fuel, p, hg, ht, hv, hd⟩ := h
  obtain rfl := Option.some.inj (gInfo.symm.trans hg)
  obtain rfl := Option.some.inj (tInfo.symm.trans ht)
  obtain ⟨y0, y1, y2, n, ex, hl, t0, _, _⟩ := Deep.trod_struct3 Tryz.underlying315 hd
  obtain ⟨z0, e0, q0, _⟩ := DataW.trod_int Tryz.underlying174 t0
  have e3 := DataW.agg.inj (Prod.mk.inj ex).1
  rw [q0] at e3
  simp only [List.cons.injEq, DataW.lit.injEq, Lit.int.injEq, true_and, and_true] at e3
  have c1 : Tryz.prog.cellsOf 174 = 1 := by kernel_rfl
  rw [World.var?_cell hg hv]
  have h0 : cs.toList[0]? = some (.int .u64 z0) := by
    have := congrArg (·[0]?) e0
    simpa [c1, List.getElem?_take, List.getElem?_drop] using this
  rw [← e3.1] at h0
  simpa using h0

theorem opt_of {W : World} (h : Lib.VarReads Tryz.prog W "internal/strconv.optimize" Rows.laid_internal_strconv_optimize) : W.cell? ⟨3, 0, none⟩ = some (.bool true) := by
  obtain ⟨g, t, cs, fuel, p, hg, ht, hv, hd⟩ := h
  obtain rfl := Option.some.inj (gOpt.symm.trans hg)
  obtain rfl := Option.some.inj (tOpt.symm.trans ht)
  obtain ⟨b, e0, q0⟩ := DataW.trod_bool Tryz.underlying4 hd
  have e3 := (Prod.mk.inj q0).1
  simp only [Rows.laid_internal_strconv_optimize, DataW.lit.injEq, Lit.bool.injEq] at e3
  rw [World.var?_cell hg hv]
  have : cs.toList[0]? = some (.bool b) := by rw [e0]; rfl
  rw [← e3] at this
  simpa using this

theorem addr_plain {w : World} {a : Addr} {v : Value} (h : w.cell? a = some v) : ∃ b o, a = ⟨b, o, none⟩ := by
  obtain ⟨b, o, s⟩ := a
  have hs := World.cell?_spot h
  simp at hs
  subst hs
  exact ⟨b, o, rfl⟩

theorem pow_rows : ∀ j, j < 4 → 1 ≤ j → (match (Rows.laid_internal_strconv_float64pow10 : DataW Unit) with | .slice es _ => es[j]? | _ => none) = some (.lit (.float .f64 (double.nearest false (10 ^ j) 0))) := by
  intro j h1 h2
  have c : j = 1 ∨ j = 2 ∨ j = 3 := by omega
  rcases c with rfl | rfl | rfl
  · exact congrArg (fun n => some (DataW.lit (Lit.float .f64 n))) (show (4621819117588971520 : Nat) = double.nearest false (10 ^ 1) 0 by decide +kernel)
  · exact congrArg (fun n => some (DataW.lit (Lit.float .f64 n))) (show (4636737291354636288 : Nat) = double.nearest false (10 ^ 2) 0 by decide +kernel)
  · exact congrArg (fun n => some (DataW.lit (Lit.float .f64 n))) (show (4652007308841189376 : Nat) = double.nearest false (10 ^ 3) 0 by decide +kernel)

theorem f10_of {W : World} (h : Lib.VarReads Tryz.prog W "internal/strconv.float64pow10" Rows.laid_internal_strconv_float64pow10) : PW W := by
  obtain ⟨g, t, cs, fuel, p, hg, ht, hv, hd⟩ := h
  obtain rfl := Option.some.inj (gF10.symm.trans hg)
  obtain rfl := Option.some.inj (tF10.symm.trans ht)
  have c1 : Tryz.prog.cellsOf 159 = 1 := by kernel_rfl
  rcases Deep.open_slice1 Tryz.underlying345 c1 hd with ⟨_, h0⟩ | ⟨a, len, cap, m, n, V, D, Pl, hcs, _, hl, hm, hmm, hx, hcell⟩
  · exact absurd (Prod.mk.inj h0).1 (by unfold Rows.laid_internal_strconv_float64pow10; simp)
  have hs := (Prod.mk.inj hx).1
  have he : ∀ j : Nat, ((List.range len).map D)[j]? = (match (Rows.laid_internal_strconv_float64pow10 : DataW Unit) with | .slice es _ => es[j]? | _ => none) := fun j => by rw [hs]
  have hlen : len = 23 := by
    have : ((List.range len).map D).length = (match (Rows.laid_internal_strconv_float64pow10 : DataW Unit) with | .slice es _ => es.length | _ => 0) := by rw [hs]
    rw [List.length_map, List.length_range] at this
    exact this
  have hlm : len ≤ m := by rw [hmm]; split <;> omega
  obtain ⟨b, o, rfl⟩ : ∃ b o, a = ⟨b, o, none⟩ := by
    have := (hcell 0 (by omega)).1
    obtain ⟨b, o, e⟩ := addr_plain this
    have ea : a.add 0 = a := by unfold Addr.add; split <;> simp_all
    rw [ea] at e
    exact ⟨b, o, e⟩
  refine ⟨b, o, cap, ?_, fun j j1 j2 => ?_⟩
  · rw [World.var?_cell hg hv]
    have : cs.toList[0]? = some (.slice (some ⟨b, o, none⟩) len cap) := by rw [hcs]; rfl
    rw [hlen] at this
    simpa using this
  · obtain ⟨k1, k2⟩ := hcell j (by omega)
    obtain ⟨z, e0, q0⟩ := trod_float Tryz.underlying159 k2
    have ev : V j = .float .f64 z := by simpa using e0
    have ed := (Prod.mk.inj q0).1
    have hj := he j
    rw [pow_rows j (by omega) j1, List.getElem?_map, List.getElem?_range (by omega), Option.map_some, ed] at hj
    simp only [Option.some.injEq, DataW.lit.injEq, Lit.float.injEq, true_and] at hj
    have ka : (⟨b, o, none⟩ : Addr).add j = ⟨b, o + j, none⟩ := by unfold Addr.add; split <;> simp_all
    rw [ka, ev, hj] at k1
    exact k1

end Go.Proofs.YthhdfbgjdfoalaaGreatDoor
