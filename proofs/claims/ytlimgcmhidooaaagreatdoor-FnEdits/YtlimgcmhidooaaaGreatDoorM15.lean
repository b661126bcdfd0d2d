/- The listed variables of a reader of tags: out of their reading, and that a call leaves them. -/
import Derived.Test.YtlimgcmhidooaaaGreatDoorM7
import Derived.Test.YtlimgcmhidooaaaGreatDoorM14
import Derived.OpenShut
import Derived.RowKitTokens
import Derived.Test.YtlimgcmhidooaaaGreatDoorM3
set_option linter.unusedVariables false
set_option linter.unusedSimpArgs false
namespace Go.Proofs.YtlimgcmhidooaaaGreatDoor
open Go.ChangeShapes Go.WideShapes Go.ChangeAt Go.RowKit
set_option maxRecDepth 100000
theorem gIf (n : String) (h : ((Tryz.prog.globalNamed n).bind fun g => (Tryz.prog.globals[g]?).map (·.type)) = some 180) {g t : Nat} (hg : Tryz.prog.globalNamed n = some g) (ht : (Tryz.prog.globals[g]?).map (·.type) = some t) : t = 180 := by
 rw [hg, Option.bind_some, ht] at h
 exact Option.some.inj h
theorem err_of_reads {w : World} {n nm : String} {d : DataW Unit} (hn : ((Tryz.prog.globalNamed n).bind fun g => (Tryz.prog.globals[g]?).map (·.type)) = some 180) (h : Lib.VarReads Tryz.prog w n (.iface nm d)) : ∃ tp p, w.var? Tryz.prog n = some #[.iface tp p] := by
 obtain ⟨g, t, cs, fuel, p, hg, ht, hv, hd⟩ := h
 obtain rfl := gIf n hn hg ht
 obtain ⟨l⟩ := cs
 cases fuel with
 | zero => simp [DataW.trod] at hd
 | succ fuel =>
  rcases l with _ | ⟨v, _ | ⟨x, r⟩⟩
  ·simp [DataW.trod, Tryz.underlying180] at hd
  ·cases v with
   | iface u v => exact ⟨u, v, hv⟩
   | _ => simp [DataW.trod, Tryz.underlying180] at hd
  ·simp [DataW.trod, Tryz.underlying180] at hd
theorem tES : ((Tryz.prog.globalNamed "strconv.ErrSyntax").bind fun g => (Tryz.prog.globals[g]?).map (·.type)) = some 180 := by kernel_rfl
theorem tER : ((Tryz.prog.globalNamed "strconv.ErrRange").bind fun g => (Tryz.prog.globals[g]?).map (·.type)) = some 180 := by kernel_rfl
theorem tNT : ((Tryz.prog.globalNamed "loop.example/g00606/impl.errNoTag").bind fun g => (Tryz.prog.globals[g]?).map (·.type)) = some 180 := by kernel_rfl
theorem gTag : Tryz.prog.globalNamed "loop.example/g00606/impl.errNoTag" = some 1 := by kernel_rfl
theorem tTag : (Tryz.prog.globals[1]?).map (·.type) = some 180 := by kernel_rfl
abbrev laid7 : List (String × DataW Unit) := [("math/bits.deBruijn32tab", Rows.laid_math_bits_deBruijn32tab), ("math/bits.deBruijn64tab", Rows.laid_math_bits_deBruijn64tab), ("internal/strconv.uint64pow10", Rows.laid_internal_strconv_uint64pow10), ("strconv.ErrRange", Rows.laid_strconv_ErrRange), ("strconv.ErrSyntax", Rows.laid_strconv_ErrSyntax), ("loop.example/g00606/impl.namedRefs", Rows.laid_loop_example_g00606_impl_namedRefs), ("loop.example/g00606/impl.errNoTag", Rows.laid_loop_example_g00606_impl_errNoTag)]
theorem door_met7 (os : Os) (args : Array Value) : laidMetH Tryz.prog laid7 ((World.doorLaid Tryz.prog 400 os).forCall (fun _ _ => 0) ⟨#[], args, []⟩).memory :=
 laidMetH_of_parts3 (fuel := 8) (laidMet_of_run' 8 (by kernel_rfl) (by kernel_rfl)) (by kernel_rfl) (by kernel_rfl)
theorem plain7 (w : World) (h : laidMetH Tryz.prog laid7 w) : laidMet Tryz.prog laid7 w := by
 rw [MakeChecks.laidMetH_plain _ _ _ (by kernel_rfl)] at h
 exact h
theorem errs7 {w : World} (h : laidMet Tryz.prog laid7 w) : Errs w :=
 ⟨err_of_reads tES (Lib.laidMet.reads h (by simp only [laid7, Rows.laid_strconv_ErrSyntax, List.mem_cons]; exact .inr (.inr (.inr (.inr (.inl rfl)))))), err_of_reads tER (Lib.laidMet.reads h (by simp only [laid7, Rows.laid_strconv_ErrRange, List.mem_cons]; exact .inr (.inr (.inr (.inl rfl)))))⟩
theorem refs7 {w : World} (h : laidMet Tryz.prog laid7 w) : w.var? Tryz.prog "loop.example/g00606/impl.namedRefs" = some cells8.toArray :=
 var_of_reads (Lib.laidMet.reads h (by simp [laid7]))
theorem tag7 {w : World} (h : laidMet Tryz.prog laid7 w) : ∃ tp p, w.var? Tryz.prog "loop.example/g00606/impl.errNoTag" = some #[.iface tp p] :=
 err_of_reads tNT (Lib.laidMet.reads h (by simp only [laid7, Rows.laid_loop_example_g00606_impl_errNoTag, List.mem_cons]; exact .inr (.inr (.inr (.inr (.inr (.inr (.inl rfl))))))))
theorem lt_of_var {w : World} {n : String} {g : Nat} {x : Value} (hg : Tryz.prog.globalNamed n = some g) (h : w.var? Tryz.prog n = some #[x]) : g < w.heap.size := by
 have h0 := World.var?_cell hg h 0
 refine Nat.lt_of_not_le fun hn => ?_
 have : w.heap[g]? = none := Array.getElem?_eq_none hn
 simp [World.cell?, this] at h0
theorem var_kept {w w' : World} {n : String} {g : Nat} {x : Value} (hg : Tryz.prog.globalNamed n = some g) (h : w.var? Tryz.prog n = some #[x]) (hb : Below w.heap.size w w') : w'.var? Tryz.prog n = some #[x] := by
 rw [var_same hg (hb.block g (lt_of_var hg h))]; exact h
theorem env7 {w : World} {tp : TypeId} {pv : Value} (h : laidMet Tryz.prog laid7 w) (ht : w.var? Tryz.prog "loop.example/g00606/impl.errNoTag" = some #[.iface tp pv]) : Env w.heap.size tp pv w := by
 have e := errs7 h
 obtain ⟨⟨_, _, h1⟩, ⟨_, _, h2⟩⟩ := id e
 exact ⟨refs_of_var (refs7 h), e, by simpa [NoTag] using World.var?_cell gTag ht 0, Nat.le_refl _, lt_of_var gTag ht, var_lt (refs7 h), lt_of_var gSyn h1, lt_of_var gRan h2⟩
end Go.Proofs.YtlimgcmhidooaaaGreatDoor

namespace Go.Proofs.YtlimgcmhidooaaaGreatDoor
open Go.RowKit
def q2 (x y : Value) (i : Nat) : Value := if i = 0 then x else y
theorem rowQ2 (w : World) (t : TypeId) (x y : Value) : (w.alloc (.cells #[x, y] t)).rowIs w.heap.size t 2 (q2 x y) :=
 World.rowIs_alloc w #[x, y] t _ (fun i hi => by
  have h : i = 0 ∨ i = 1 := by simp at hi; omega
  rcases h with rfl | rfl <;> simp [q2])
theorem cellsQ2 {w : World} {g : Nat} {ty : TypeId} {x y : Value} (h : w.rowIs g ty 2 (q2 x y)) : w.cell? ⟨g, 0, none⟩ = some x ∧ w.cell? ⟨g, 1, none⟩ = some y ∧ g < w.heap.size :=
 ⟨h.cell (by omega), h.cell (by omega), h.lt⟩
theorem frzQ2 {w : World} {g : Nat} {T : TypeId} {f : Nat → Value} (h : w.rowIs g T 2 f) : w.frozen? ⟨g, 0, none⟩ = false ∧ w.frozen? ⟨g, 1, none⟩ = false := ⟨h.frozen 0, h.frozen 1⟩

end Go.Proofs.YtlimgcmhidooaaaGreatDoor
