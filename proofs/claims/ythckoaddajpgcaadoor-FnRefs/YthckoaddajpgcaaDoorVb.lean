/- The library's two errors, as listed variables; the six listed variables together. -/
import Derived.Test.YthckoaddajpgcaaDoorVa
import Derived.Test.YthckoaddajpgcaaDoorRe
namespace Go.Proofs.YthckoaddajpgcaaDoor
open Go.ChangeShapes Go.WideShapes Go.ChangeAt Go.RowKit
set_option linter.unusedVariables false
set_option maxRecDepth 100000

theorem gIf (n : String) (h : ((Tryd.prog.globalNamed n).bind fun g => (Tryd.prog.globals[g]?).map (·.type)) = some 51) {g t : Nat} (hg : Tryd.prog.globalNamed n = some g) (ht : (Tryd.prog.globals[g]?).map (·.type) = some t) : t = 51 := by
  rw [hg, Option.bind_some, ht] at h
  exact Option.some.inj h

theorem err_of_reads {w : World} {n nm : String} {d : DataW Unit} (hn : ((Tryd.prog.globalNamed n).bind fun g => (Tryd.prog.globals[g]?).map (·.type)) = some 51) (h : Lib.VarReads Tryd.prog w n (.iface nm d)) : ∃ tp p, w.var? Tryd.prog n = some #[.iface tp p] := by
  obtain ⟨g, t, cs, fuel, p, hg, ht, hv, hd⟩ := h
  obtain rfl := gIf n hn hg ht
  obtain ⟨l⟩ := cs
  cases fuel with
  | zero => simp [DataW.trod] at hd
  | succ fuel =>
    rcases l with _ | ⟨v, _ | ⟨x, r⟩⟩
    · simp [DataW.trod, Tryd.underlying51] at hd
    · cases v with
      | iface u v => exact ⟨u, v, hv⟩
      | _ => simp [DataW.trod, Tryd.underlying51] at hd
    · simp [DataW.trod, Tryd.underlying51] at hd
theorem tES : ((Tryd.prog.globalNamed "strconv.ErrSyntax").bind fun g => (Tryd.prog.globals[g]?).map (·.type)) = some 51 := by kernel_rfl
theorem tER : ((Tryd.prog.globalNamed "strconv.ErrRange").bind fun g => (Tryd.prog.globals[g]?).map (·.type)) = some 51 := by kernel_rfl

abbrev laid6 : List (String × DataW Unit) := [("math/bits.deBruijn32tab", Rows.laid_math_bits_deBruijn32tab), ("math/bits.deBruijn64tab", Rows.laid_math_bits_deBruijn64tab), ("internal/strconv.uint64pow10", Rows.laid_internal_strconv_uint64pow10), ("strconv.ErrRange", Rows.laid_strconv_ErrRange), ("strconv.ErrSyntax", Rows.laid_strconv_ErrSyntax), ("loop.example/g00606/impl.namedRefs", Rows.laid_loop_example_g00606_impl_namedRefs)]
theorem door_met6 (os : Os) (args : Array Value) : laidMetH Tryd.prog laid6 ((World.doorLaid Tryd.prog 400 os).forCall (fun _ _ => 0) ⟨#[], args, []⟩).memory :=
  laidMetH_of_parts3 (fuel := 8) (laidMet_of_run' 8 (by kernel_rfl) (by kernel_rfl)) (by kernel_rfl) (by kernel_rfl)
theorem plain6 (w : World) (h : laidMetH Tryd.prog laid6 w) : laidMet Tryd.prog laid6 w := by
  rw [MakeChecks.laidMetH_plain _ _ _ (by kernel_rfl)] at h
  exact h
theorem errs_of {w : World} (h : laidMet Tryd.prog laid6 w) : Errs w :=
  ⟨err_of_reads tES (Lib.laidMet.reads h (by simp only [laid6, Rows.laid_strconv_ErrSyntax, List.mem_cons]; exact .inr (.inr (.inr (.inr (.inl rfl)))))), err_of_reads tER (Lib.laidMet.reads h (by simp only [laid6, Rows.laid_strconv_ErrRange, List.mem_cons]; exact .inr (.inr (.inr (.inl rfl)))))⟩
theorem refs6 {w : World} (h : laidMet Tryd.prog laid6 w) : w.var? Tryd.prog "loop.example/g00606/impl.namedRefs" = some cells8.toArray :=
  var_of_reads (Lib.laidMet.reads h (by simp [laid6]))
end Go.Proofs.YthckoaddajpgcaaDoor
