/- Bytes spliced: the model and the program. -/
import Derived.Test.YtbdjppiagjhfmaaSpa
namespace Go.Proofs.Ytbdjppiagjhfmaa
open Go.RowKit
set_option linter.unusedVariables false
set_option linter.unusedSimpArgs false

theorem l1InS_any (v lo hi : Int) (w : World) : Calls Try.prog 87 #[.int .i64 v, .int .i64 lo, .int .i64 hi] w fun e w' => e = .returned (.bool (decide (lo ≤ v) && decide (v ≤ hi))) ∧ w' = w := by
  by_cases h1 : lo ≤ v
  · by_cases h2 : v ≤ hi
    · go_enter Try.func87, Try.ntmps87
      go_wp2
      go_ret
      exact ⟨by simp [h1, h2], rfl⟩
    · go_enter Try.func87, Try.ntmps87
      go_wp2
      go_ret
      exact ⟨by simp; omega, rfl⟩
  · go_enter Try.func87, Try.ntmps87
    go_wp2
    go_ret
    exact ⟨by simp; omega, rfl⟩

/-- The end of bytes, where a slice from there on says it lies. -/
theorem CAt.rest {w : World} {b o c f : Nat} {l : List Int} (h : CAt w b o l) (hc : l.length ≤ c) (hf : f ≤ l.length) : BAt w (if c = f then some ⟨b, o, none⟩ else some ⟨b, o + f, none⟩) (l.drop f) := by
  by_cases e : c = f
  · exact .inl (List.drop_eq_nil_of_le (by omega))
  · rw [if_neg e]; exact (h.tail hf).at

/-- The code and the bytes of a splice. -/
def spB (l : List Int) (at_ n : Int) (p : List Int) : List Int := if spC l.length at_ n p.length = 0 then spl l at_.toNat n.toNat p else []

theorem spB_len (l : List Int) (at_ n : Int) (p : List Int) : (spB l at_ n p).length ≤ 240 := by
  unfold spB
  split
  · rename_i h
    obtain ⟨h1, h2, h3, h4⟩ := spC_zero h
    rw [spl_len (by omega)]
    omega
  · simp

/-- A copy of bytes to the end of a row, from place q on, where a slice from there on says it lies. -/
theorem copy_end {P : Program} (dT sT ty : TypeId) (hu : P.underlying dT = some (.slice 5)) (hs : (P.info? 5).map (·.size) = some 1) {w : World} {g cn : Nat} {f : Nat → Value} (q : Nat) (hr : w.rowIs g 5 cn f) (a : Option Addr) (c : Nat) (l : List Int)
    (ha : BAt w a l) (h2 : q + l.length ≤ cn) :
    ∃ w', (Builtin.copy_ #[dT, sT] ty #[.slice (if cn = q then some ⟨g, 0, none⟩ else some ⟨g, q, none⟩) (cn - q) (cn - q), .slice a l.length c]).run P w = .ok (goInt l.length) w' ∧ w'.rowIs g 5 cn (fun j => if q ≤ j ∧ j < q + l.length then bv l (j - q) else f j) ∧ KeptIn g (g + 1) w w' := by
  by_cases e : cn = q
  · have h0 : l.length = 0 := by omega
    rw [if_pos e]
    rw [h0]
    exact ⟨w, run_copy_none w dT sT ty 5 _ a (cn - q) (cn - q) 0 c hu hs (by simp), hr.congr (fun j _ => by rw [if_neg (by omega)]), KeptIn.refl _ _ _⟩
  · rw [if_neg e]
    exact copy_min dT sT ty hu hs q (cn - q) (cn - q) hr a c l l.length ha (Nat.min_eq_left (by omega)) h2

/-- A row cleared to its end, from place q on, where a slice from there on says it lies. -/
theorem clear_end {P : Program} (t ty : TypeId) (hu : P.underlying t = some (.slice 5)) (hv : ∀ w, (zeroValue 5).run P w = .ok (.int .u8 0) w) {w : World} {g cn : Nat} {f : Nat → Value} (q : Nat) (hr : w.rowIs g 5 cn f) (hq : q ≤ cn) :
    ∃ w', (Builtin.clear_ #[t] ty #[.slice (if cn = q then some ⟨g, 0, none⟩ else some ⟨g, q, none⟩) (cn - q) (cn - q)]).run P w = .ok (.tuple #[]) w' ∧ w'.rowIs g 5 cn (fun j => if j < q then f j else .int .u8 0) ∧ KeptIn g (g + 1) w w' := by
  by_cases e : cn = q
  · rw [if_pos e]
    subst e
    rw [Nat.sub_self]
    refine ⟨w, ?_, hr.congr (fun j hj => by rw [if_pos hj]), KeptIn.refl _ _ _⟩
    simp [Builtin.clear_, run_underlying hu]
  · rw [if_neg e]
    exact clear_row t ty hu hv q (cn - q) (cn - q) hr (by omega)

/-- A copy as one step of a region that draws its order, by what it was reckoned to do. -/
theorem step_copy_run {P : Program} {ops : Array Oper} {op : Oper} {a : Act} {w : World} {K : Act → World → Prop} {Q : Exit → Act → World → Prop} {E : Prop} (hgd : op.guard = none) (d s : Operand) (dT sT : TypeId)
    (ho : op.op = .call { callee := .builtin .copy, args := #[d, s], argTypes := #[dT, sT] }) (vd vs v : Value) (hd : a.eval d = vd) (hx : a.eval s = vs) (w' : World) (hrun : (Builtin.copy_ #[dT, sT] op.type #[vd, vs]).run P w = .ok v w')
    (h : K (a.put op.dst v) w') : if Region.wanted op (yielded ops a.tmps) = true then Oper.wp P op a w K Q else E := by
  have hw : Region.wanted op (yielded ops a.tmps) = true := by simp [Region.wanted, hgd]
  rw [if_pos hw]
  unfold Oper.wp
  simp [execOp, ho, resolve, invoke, builtin, hd, hx, hrun, Result.andThen]
  exact h

end Go.Proofs.Ytbdjppiagjhfmaa
