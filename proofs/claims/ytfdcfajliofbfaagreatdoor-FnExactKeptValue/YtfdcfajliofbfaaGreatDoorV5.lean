/- The tables that ParseFloat reads: out of the row's reading. -/
import Derived.Test.YtfdcfajliofbfaaGreatDoorBh
import Derived.Test.YtfdcfajliofbfaaGreatDoorRows
import Derived.OpenShut
import Derived.ChangeSame
import Derived.Deep.Strs
import Derived.Lib.LaidU8
import Derived.Test.YtfdcfajliofbfaaGreatDoorFn
import Derived.Lib.LaidTab
import Derived.Test.YtfdcfajliofbfaaGreatDoorChecked
import Derived.ProofKit
import Derived.ChangeMaps5
import Derived.Lib.SmallJoins
import Derived.Test.YtfdcfajliofbfaaGreatDoorCa
import Derived.ShutString
import Derived.ChangeOld
import Derived.SliceStrings
import Derived.Test.YtfdcfajliofbfaaGreatDoorLem
import Derived.Deep.MidRow
namespace Go.Proofs.YtfdcfajliofbfaaGreatDoor
open Go.RowKit
open Ieee
set_option linter.unusedVariables false
set_option maxRecDepth 100000

theorem trod_float {H : Type} {enc : TypeId × Value → H} {P : Program} {w : World} {base : Nat} {spare : Nat → Bool} {held : Bool} {fuel : Nat} {t : TypeId} {cs : List Value} {x : DataW H × List MemPlace} {k : FloatKind} (ht : P.underlying t = some (.float k)) (h : DataW.trod enc P w base spare held fuel t cs = some x) : ∃ b, cs = [.float k b] ∧ x = (.lit (.float k b), []) := by
  cases fuel with
  | zero => simp [DataW.trod] at h
  | succ n =>
    unfold DataW.trod at h
    rw [ht] at h
    split at h <;> simp_all

theorem gInfo : Tryz.prog.globalNamed "internal/strconv.float64info" = some 7 := by kernel_rfl
theorem tInfo : (Tryz.prog.globals[7]?).map (·.type) = some 298 := by kernel_rfl
theorem gOpt : Tryz.prog.globalNamed "internal/strconv.optimize" = some 1 := by kernel_rfl
theorem tOpt : (Tryz.prog.globals[1]?).map (·.type) = some 4 := by kernel_rfl
theorem gF10 : Tryz.prog.globalNamed "internal/strconv.float64pow10" = some 13 := by kernel_rfl
theorem tF10 : (Tryz.prog.globals[13]?).map (·.type) = some 340 := by kernel_rfl

theorem info_of {W : World} (h : Lib.VarReads Tryz.prog W "internal/strconv.float64info" Rows.laid_internal_strconv_float64info) : W.cell? ⟨7, 0, none⟩ = some (.int .u64 52) := by
  obtain ⟨g, t, cs, fuel, p, hg, ht, hv, hd⟩ := h
  obtain rfl := Option.some.inj (gInfo.symm.trans hg)
  obtain rfl := Option.some.inj (tInfo.symm.trans ht)
  obtain ⟨y0, y1, y2, n, ex, hl, t0, _, _⟩ := Deep.trod_struct3 Tryz.underlying298 hd
  obtain ⟨z0, e0, q0, _⟩ := DataW.trod_int Tryz.underlying153 t0
  have e3 := DataW.agg.inj (Prod.mk.inj ex).1
  rw [q0] at e3
  simp only [List.cons.injEq, DataW.lit.injEq, Lit.int.injEq, true_and, and_true] at e3
  have c1 : Tryz.prog.cellsOf 153 = 1 := by kernel_rfl
  rw [World.var?_cell hg hv]
  have h0 : cs.toList[0]? = some (.int .u64 z0) := by
    have := congrArg (·[0]?) e0
    simpa [c1, List.getElem?_take, List.getElem?_drop] using this
  rw [← e3.1] at h0
  simpa using h0

theorem opt_of {W : World} (h : Lib.VarReads Tryz.prog W "internal/strconv.optimize" Rows.laid_internal_strconv_optimize) : W.cell? ⟨1, 0, none⟩ = some (.bool true) := by
  obtain ⟨g, t, cs, fuel, p, hg, ht, hv, hd⟩ := h
  obtain rfl := Option.some.inj (gOpt.symm.trans hg)
  obtain rfl := Option.some.inj (tOpt.symm.trans ht)
  obtain ⟨b, e0, q0⟩ := DataW.trod_bool Tryz.underlying4 hd
  have e3 := (Prod.mk.inj q0).1
  simp only [Rows.laid_internal_strconv_optimize, DataW.lit.injEq, Lit.bool.injEq] at e3
  rw [World.var?_cell hg hv]
  have : cs.toList[0]? = some (.bool b) := by rw [e0]; rfl
  rw [← e3] at this
  simpa using this

theorem addr_plain {w : World} {a : Addr} {v : Value} (h : w.cell? a = some v) : ∃ b o, a = ⟨b, o, none⟩ := by
  obtain ⟨b, o, s⟩ := a
  have hs := World.cell?_spot h
  simp at hs
  subst hs
  exact ⟨b, o, rfl⟩

theorem pow_rows : ∀ j, j < 4 → 1 ≤ j → (match (Rows.laid_internal_strconv_float64pow10 : DataW Unit) with | .slice es _ => es[j]? | _ => none) = some (.lit (.float .f64 (double.nearest false (10 ^ j) 0))) := by
  intro j h1 h2
  have c : j = 1 ∨ j = 2 ∨ j = 3 := by omega
  rcases c with rfl | rfl | rfl
  · exact congrArg (fun n => some (DataW.lit (Lit.float .f64 n))) (show (4621819117588971520 : Nat) = double.nearest false (10 ^ 1) 0 by decide +kernel)
  · exact congrArg (fun n => some (DataW.lit (Lit.float .f64 n))) (show (4636737291354636288 : Nat) = double.nearest false (10 ^ 2) 0 by decide +kernel)
  · exact congrArg (fun n => some (DataW.lit (Lit.float .f64 n))) (show (4652007308841189376 : Nat) = double.nearest false (10 ^ 3) 0 by decide +kernel)

theorem f10_of {W : World} (h : Lib.VarReads Tryz.prog W "internal/strconv.float64pow10" Rows.laid_internal_strconv_float64pow10) : PW W := by
  obtain ⟨g, t, cs, fuel, p, hg, ht, hv, hd⟩ := h
  obtain rfl := Option.some.inj (gF10.symm.trans hg)
  obtain rfl := Option.some.inj (tF10.symm.trans ht)
  have c1 : Tryz.prog.cellsOf 74 = 1 := by kernel_rfl
  rcases Deep.open_slice1 Tryz.underlying340 c1 hd with ⟨_, h0⟩ | ⟨a, len, cap, m, n, V, D, Pl, hcs, _, hl, hm, hmm, hx, hcell⟩
  · exact absurd (Prod.mk.inj h0).1 (by unfold Rows.laid_internal_strconv_float64pow10; simp)
  have hs := (Prod.mk.inj hx).1
  have he : ∀ j : Nat, ((List.range len).map D)[j]? = (match (Rows.laid_internal_strconv_float64pow10 : DataW Unit) with | .slice es _ => es[j]? | _ => none) := fun j => by rw [hs]
  have hlen : len = 23 := by
    have : ((List.range len).map D).length = (match (Rows.laid_internal_strconv_float64pow10 : DataW Unit) with | .slice es _ => es.length | _ => 0) := by rw [hs]
    rw [List.length_map, List.length_range] at this
    exact this
  have hlm : len ≤ m := by rw [hmm]; split <;> omega
  obtain ⟨b, o, rfl⟩ : ∃ b o, a = ⟨b, o, none⟩ := by
    have := (hcell 0 (by omega)).1
    obtain ⟨b, o, e⟩ := addr_plain this
    have ea : a.add 0 = a := by unfold Addr.add; split <;> simp_all
    rw [ea] at e
    exact ⟨b, o, e⟩
  refine ⟨b, o, cap, ?_, fun j j1 j2 => ?_⟩
  · rw [World.var?_cell hg hv]
    have : cs.toList[0]? = some (.slice (some ⟨b, o, none⟩) len cap) := by rw [hcs]; rfl
    rw [hlen] at this
    simpa using this
  · obtain ⟨k1, k2⟩ := hcell j (by omega)
    obtain ⟨z, e0, q0⟩ := trod_float Tryz.underlying74 k2
    have ev : V j = .float .f64 z := by simpa using e0
    have ed := (Prod.mk.inj q0).1
    have hj := he j
    rw [pow_rows j (by omega) j1, List.getElem?_map, List.getElem?_range (by omega), Option.map_some, ed] at hj
    simp only [Option.some.injEq, DataW.lit.injEq, Lit.float.injEq, true_and] at hj
    have ka : (⟨b, o, none⟩ : Addr).add j = ⟨b, o + j, none⟩ := by unfold Addr.add; split <;> simp_all
    rw [ka, ev, hj] at k1
    exact k1

end Go.Proofs.YtfdcfajliofbfaaGreatDoor

/- The two tables that a measure's text reads: out of the row's reading. -/
namespace Go.Proofs.YtfdcfajliofbfaaGreatDoor
open Go.ChangeShapes Go.WideShapes Go.ChangeAt Go.RowKit
set_option linter.unusedVariables false
set_option maxRecDepth 100000

theorem gPow : Tryz.prog.globalNamed "internal/strconv.pow10Tab" = some 8 := by kernel_rfl
theorem tPow : (Tryz.prog.globals[8]?).map (·.type) = some 317 := by kernel_rfl
theorem gTen : Tryz.prog.globalNamed "internal/strconv.uint64pow10" = some 5 := by kernel_rfl
theorem tTen : (Tryz.prog.globals[5]?).map (·.type) = some 267 := by kernel_rfl

theorem pow_cell {W : World} (h : Lib.VarReads Tryz.prog W "internal/strconv.pow10Tab" Go.Pinned.pow10Tab) (r : Nat) (hr : r < 696) (x : Nat × Nat) (hx : Go.Pinned.pow10Rows[r]? = some x) :
    W.cell? ⟨8, r * 2, none⟩ = some (.int .u64 x.1) ∧ W.cell? ⟨8, r * 2 + 1, none⟩ = some (.int .u64 x.2) := by
  obtain ⟨g, t, cs, fuel, p, hg, ht, hv, hd⟩ := h
  obtain rfl := Option.some.inj (gPow.symm.trans hg)
  obtain rfl := Option.some.inj (tPow.symm.trans ht)
  obtain ⟨xs, m, _, ex, _, hl, hel⟩ := DataW.trod_array Tryz.underlying317 hd
  have cE : Tryz.prog.cellsOf 316 = 2 := by kernel_rfl
  have c1 : Tryz.prog.cellsOf 78 = 1 := by kernel_rfl
  have hE := hel r hr
  rw [cE, List.getElem?_eq_getElem (by omega)] at hE
  obtain ⟨y0, y1, n, ey, _, t0, t1⟩ := trod_struct2 Tryz.underlying316 hE
  obtain ⟨z0, e0, q0, _⟩ := DataW.trod_int Tryz.underlying78 t0
  obtain ⟨z1, e1, q1, _⟩ := DataW.trod_int Tryz.underlying78 t1
  have e3 : xs.map (·.1) = Go.Pinned.pow10Rows.map fun x => (.agg [.lit (.int .u64 x.1), .lit (.int .u64 x.2)] : DataW Unit) := (DataW.agg.inj (Prod.mk.inj ex).1).symm
  have e4 : (xs.map (·.1))[r]? = (Go.Pinned.pow10Rows.map fun x => (.agg [.lit (.int .u64 x.1), .lit (.int .u64 x.2)] : DataW Unit))[r]? := by rw [e3]
  rw [List.getElem?_map, List.getElem?_map, hx, List.getElem?_eq_getElem (by omega : r < xs.length), ey, q0, q1] at e4
  simp only [Option.map_some, Option.some.injEq, DataW.agg.injEq, List.cons.injEq, DataW.lit.injEq, Lit.int.injEq, true_and, and_true] at e4
  obtain ⟨k0, k1⟩ := e4
  rw [World.var?_cell hg hv, World.var?_cell hg hv, ← k0, ← k1]
  have h0 : cs.toList[r * 2]? = some (.int .u64 z0) := by
    have := congrArg (·[0]?) e0
    simpa [c1, List.getElem?_take, List.getElem?_drop] using this
  have h1 : cs.toList[r * 2 + 1]? = some (.int .u64 z1) := by
    have := congrArg (·[0]?) e1
    simpa [c1, List.getElem?_take, List.getElem?_drop] using this
  exact ⟨by simpa using h0, by simpa using h1⟩

theorem tab_of {W : World} (h : Lib.VarReads Tryz.prog W "internal/strconv.uint64pow10" Rows.laid_internal_strconv_uint64pow10) : TabW W := by
  obtain ⟨g, t, cs, fuel, p, hg, ht, hv, hd⟩ := h
  obtain rfl := Option.some.inj (gTen.symm.trans hg)
  obtain rfl := Option.some.inj (tTen.symm.trans ht)
  have e : (Rows.laid_internal_strconv_uint64pow10 : DataW Unit) = Lib.tabData .u64 Lib.pow10Tab := by kernel_rfl
  rw [e] at hd
  show W.var? Tryz.prog _ = _
  rw [hv, ← Lib.cells_of_tab Tryz.underlying267 Tryz.underlying78 (by kernel_rfl) (by kernel_rfl) hd]

theorem hi_rows : ∀ p, p < 18 → 12 ≤ p → Go.Pinned.pow10Rows[p + 348]? = some (tabHi p, 0) := by decide +kernel

theorem pt_of {W : World} (h : Lib.VarReads Tryz.prog W "internal/strconv.pow10Tab" Go.Pinned.pow10Tab) : PT W := by
  refine ⟨?_, fun p h1 h2 => pow_cell h (p + 348) (by omega) _ (hi_rows p (by omega) h1)⟩
  have h0 := (pow_cell h 360 (by omega) _ (hi_rows 12 (by omega) (by omega))).1
  refine Nat.lt_of_not_le fun hn => ?_
  have : W.heap[8]? = none := Array.getElem?_eq_none hn
  simp [World.cell?, this] at h0

end Go.Proofs.YtfdcfajliofbfaaGreatDoor

/- What a row asks of the program as a whole. -/
namespace Go.Proofs.YtfdcfajliofbfaaGreatDoor
open Go.ChangeShapes Go.WideShapes Go.ChangeAt Go.RowKit Go.Deep
set_option linter.unusedVariables false

theorem own : ownKnob Tryz.prog.godebug = none := by kernel_rfl

theorem laidOut : laidOutB Tryz.prog = true := by kernel_rfl

end Go.Proofs.YtfdcfajliofbfaaGreatDoor

/- From the reading of an argument to a policy that lies in memory. -/
namespace Go.Proofs.YtfdcfajliofbfaaGreatDoor
open Go.ChangeShapes Go.WideShapes Go.ChangeAt Go.RowKit Go.Deep
set_option linter.unusedVariables false
set_option linter.constructorNameAsVariable false
set_option maxRecDepth 100000

theorem cells9P : Tryz.prog.cellsOf 9 = 1 := by kernel_rfl

theorem cellsPolicy : Tryz.prog.cellsOf 29 = 3 := by kernel_rfl

theorem cellsStrs : Tryz.prog.cellsOf 27 = 1 := by kernel_rfl

theorem cell_ltP {w : World} {a : Addr} {v : Value} (h : w.cell? a = some v) : a.block < w.heap.size := by
  unfold World.cell? at h
  by_cases hb : a.block < w.heap.size
  · exact hb
  · rw [Array.getElem?_eq_none (by omega)] at h
    simp at h

/-- An address at which cells lie is plain. -/
theorem plain_addrP {w : World} {a : Addr} {v : Value} (h : w.cell? a = some v) : ∃ b o, a = ⟨b, o, none⟩ := by
  obtain ⟨b, o, s⟩ := a
  have hs := World.cell?_spot h
  simp at hs
  subst hs
  exact ⟨b, o, rfl⟩

theorem open_strs {H : Type} {enc : TypeId × Value → H} {W : World} {spare : Nat → Bool} {held : Bool} {fuel : Nat} {v : Value} {x : DataW H × List MemPlace} (h : DataW.trod enc Tryz.prog W 0 spare held fuel 27 [v] = some x) :
    ∃ a c l, v = .slice a l.length c ∧ StAt W a l ∧ (l.length : Int) ≤ 9223372036854775807 ∧ WideS l := by
  rcases open_strings Tryz.underlying27 Tryz.underlying9 cells9P h with ⟨hcs, _⟩ | ⟨a, len, cap, ss, hcs, _, hl, hm, hz, _, hcell, hsz⟩
  · simp at hcs
    subst hcs
    exact ⟨none, 0, [], rfl, .inl rfl, by simp, fun k hk => absurd hk (Nat.not_lt_zero _)⟩
  · simp at hcs
    subst hcs
    have hlz : len ≤ ss.length := by rw [hz]; split <;> omega
    have hlen : (ss.take len).length = len := by rw [List.length_take]; omega
    unfold maxLen at hm hsz
    have hk' : ∀ k, k < len → sK (ss.take len) k = ss.getD k ByteArray.empty := fun k hk => by
      unfold sK
      simp [hk, show k < ss.length from by omega]
    refine ⟨some a, cap, ss.take len, by rw [hlen], ?_, by rw [hlen]; omega, fun k hk => ?_⟩
    · by_cases h0 : len = 0
      · left; subst h0; simp
      · right
        have c0 := hcell 0 (by omega)
        have e0 : a.add 0 = a := by unfold Addr.add; split <;> simp_all
        rw [e0] at c0
        obtain ⟨b, o, rfl⟩ := plain_addrP c0
        refine ⟨b, o, rfl, cell_ltP c0, fun k hk => ?_⟩
        rw [hlen] at hk
        have ck := hcell k (by omega)
        rw [Addr.add_mid] at ck
        rw [ck, hk' k hk]
    · rw [hlen] at hk
      rw [hk' k hk]
      have e : ss.getD k ByteArray.empty = ss[k]'(by omega) := by simp [show k < ss.length from by omega]
      rw [e]
      have := hsz _ (List.getElem_mem (show k < ss.length by omega))
      omega

/-- What a law is told of a policy that came in. -/
theorem open_policy {H : Type} {enc : TypeId × Value → H} {W : World} {base : Nat} {spare : Nat → Bool} {held : Bool} {v : Value} {d : DataW H} {p : List MemPlace}
    (hv : Value.okWide Tryz.prog W .any base 29 v) (h : DataW.Trod enc Tryz.prog W 0 spare held 29 v d p) :
    ∃ (s : PO) (a b c : Option Addr) (n1 n2 n3 : Nat), v = .agg #[.slice a s.tg.length n1, .slice b s.at_.length n2, .slice c s.sc.length n3] ∧ POAt W a b c s ∧ WideP s := by
  obtain ⟨cs, rfl, hsz⟩ := okWide_struct Tryz.underlying29 hv
  obtain ⟨fuel, hf⟩ := h
  obtain ⟨xs, n, _, _, hl, hlen, hall⟩ := DataW.trod_struct Tryz.underlying29 hf
  have h0 := hall 0 _ rfl
  have h1 := hall 1 _ rfl
  have h2 := hall 2 _ rfl
  rw [cellsPolicy] at hsz
  obtain ⟨l⟩ := cs
  match l, hsz, xs, hlen with
  | [c0, c1, c2], _, [y0, y1, y2], _ =>
    simp [cellsStrs, Value.cells] at h0 h1 h2
    obtain ⟨a, n1, l1, rfl, q1, m1, w1⟩ := open_strs h0
    obtain ⟨b, n2, l2, rfl, q2, m2, w2⟩ := open_strs h1
    obtain ⟨c, n3, l3, rfl, q3, m3, w3⟩ := open_strs h2
    exact ⟨⟨l1, l2, l3⟩, a, b, c, n1, n2, n3, rfl, ⟨q1, q2, q3⟩, ⟨w1, w2, w3, m1, m2, m3⟩⟩

end Go.Proofs.YtfdcfajliofbfaaGreatDoor

/- From the reading of an argument to bytes that lie in memory. -/
namespace Go.Proofs.YtfdcfajliofbfaaGreatDoor
open Go.ChangeShapes Go.WideShapes Go.ChangeAt Go.RowKit
set_option linter.unusedVariables false
set_option maxRecDepth 100000

theorem cells5B : Tryz.prog.cellsOf 5 = 1 := by kernel_rfl

theorem cell_ltB {w : World} {a : Addr} {v : Value} (h : w.cell? a = some v) : a.block < w.heap.size := by
  unfold World.cell? at h
  by_cases hb : a.block < w.heap.size
  · exact hb
  · rw [Array.getElem?_eq_none (by omega)] at h
    simp at h

/-- An address at which cells lie is plain. -/
theorem plain_addrB {w : World} {a : Addr} {v : Value} (h : w.cell? a = some v) : ∃ b o, a = ⟨b, o, none⟩ := by
  obtain ⟨b, o, s⟩ := a
  have hs := World.cell?_spot h
  simp at hs
  subst hs
  exact ⟨b, o, rfl⟩

theorem open_bytesB {H : Type} {enc : TypeId × Value → H} {W : World} {spare : Nat → Bool} {held : Bool} {fuel : Nat} {v : Value} {x : DataW H × List MemPlace} (h : DataW.trod enc Tryz.prog W 0 spare held fuel 30 [v] = some x) :
    ∃ a c l, v = .slice a l.length c ∧ BAt W a l ∧ (l.length : Int) ≤ 9223372036854775807 ∧ ∀ k, k < l.length → 0 ≤ l.getD k 0 ∧ l.getD k 0 ≤ 255 := by
  rcases open_ints Tryz.underlying30 Tryz.underlying5 cells5B h with ⟨hcs, _⟩ | ⟨a, len, cap, zs, hcs, _, hl, hm, hz, _, hcell, hwz⟩
  · simp at hcs
    subst hcs
    exact ⟨none, 0, [], rfl, .inl rfl, by simp, by simp⟩
  · simp at hcs
    subst hcs
    have hlz : len ≤ zs.length := by rw [hz]; split <;> omega
    have hlen : (zs.take len).length = len := by rw [List.length_take]; omega
    unfold maxLen at hm
    refine ⟨some a, cap, zs.take len, by rw [hlen], ?_, by rw [hlen]; omega, fun k hk => ?_⟩
    · by_cases h0 : len = 0
      · left; subst h0; simp
      · right
        have c0 := hcell 0 (by omega)
        have e0 : a.add 0 = a := by unfold Addr.add; split <;> simp_all
        rw [e0] at c0
        obtain ⟨b, o, rfl⟩ := plain_addrB c0
        refine ⟨b, o, rfl, cell_ltB c0, fun k hk => ?_⟩
        rw [hlen] at hk
        have ck := hcell k (by omega)
        rw [Addr.add_mid] at ck
        rw [ck]
        unfold bv
        congr 2
        simp [hk]
    · rw [hlen] at hk
      have e : (zs.take len).getD k 0 = zs[k]'(by omega) := by simp [hk, show k < zs.length from by omega]
      rw [e]
      exact bounds_u8 (hwz _ (List.getElem_mem _))

theorem open_bytesBV {H : Type} {enc : TypeId × Value → H} {W : World} {base : Nat} {spare : Nat → Bool} {held : Bool} {v : Value} {d : DataW H} {p : List MemPlace}
    (hv : Value.okWide Tryz.prog W .any base 30 v) (h : DataW.Trod enc Tryz.prog W 0 spare held 30 v d p) :
    ∃ a c l, v = .slice a l.length c ∧ BAt W a l ∧ (l.length : Int) ≤ 9223372036854775807 ∧ ∀ k, k < l.length → 0 ≤ l.getD k 0 ∧ l.getD k 0 ≤ 255 := by
  obtain ⟨a0, len, cap, rfl⟩ := okWide_slice Tryz.underlying30 hv
  obtain ⟨fuel, hf⟩ := h
  exact open_bytesB (by simpa [Value.cells] using hf)

end Go.Proofs.YtfdcfajliofbfaaGreatDoor
