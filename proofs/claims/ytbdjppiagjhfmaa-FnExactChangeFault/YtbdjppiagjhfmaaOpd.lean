/- From the reading of an argument to a change that lies in memory. -/
import Derived.Test.YtbdjppiagjhfmaaOpp
import Derived.Test.YtbdjppiagjhfmaaOpen
import Derived.Test.YtbdjppiagjhfmaaSxc
namespace Go.Proofs.Ytbdjppiagjhfmaa
open Go.ChangeShapes Go.WideShapes Go.ChangeAt Go.RowKit Go.Deep
set_option linter.unusedVariables false
set_option linter.constructorNameAsVariable false
set_option maxRecDepth 100000

theorem cellsChange : Try.prog.cellsOf 27 = 7 := by kernel_rfl

theorem cellsBytesP : Try.prog.cellsOf 22 = 1 := by kernel_rfl

theorem cells2P : Try.prog.cellsOf 2 = 1 := by kernel_rfl

theorem open_policyL {H : Type} {enc : TypeId × Value → H} {W : World} {spare : Nat → Bool} {held : Bool} {fuel : Nat} {c0 c1 c2 : Value} {x : DataW H × List MemPlace} (h : DataW.trod enc Try.prog W 0 spare held fuel 25 [c0, c1, c2] = some x) :
    ∃ (s : PO) (a b c : Option Addr) (n1 n2 n3 : Nat), c0 = .slice a s.tg.length n1 ∧ c1 = .slice b s.at_.length n2 ∧ c2 = .slice c s.sc.length n3 ∧ POAt W a b c s ∧ WideP s := by
  obtain ⟨xs, n, _, _, hl, hlen, hall⟩ := DataW.trod_struct Try.underlying25 h
  have h0 := hall 0 _ rfl
  have h1 := hall 1 _ rfl
  have h2 := hall 2 _ rfl
  match xs, hlen with
  | [y0, y1, y2], _ =>
    simp [cellsStrs] at h0 h1 h2
    obtain ⟨a, n1, l1, rfl, q1, m1, w1⟩ := open_strs h0
    obtain ⟨b, n2, l2, rfl, q2, m2, w2⟩ := open_strs h1
    obtain ⟨c, n3, l3, rfl, q3, m3, w3⟩ := open_strs h2
    exact ⟨⟨l1, l2, l3⟩, a, b, c, n1, n2, n3, rfl, rfl, rfl, ⟨q1, q2, q3⟩, ⟨w1, w2, w3, m1, m2, m3⟩⟩

/-- What a law is told of a change that came in. -/
theorem open_change {H : Type} {enc : TypeId × Value → H} {W : World} {base : Nat} {spare : Nat → Bool} {held : Bool} {v : Value} {d : DataW H} {p : List MemPlace}
    (hv : Value.okWide Try.prog W .any base 27 v) (h : DataW.Trod enc Try.prog W 0 spare held 27 v d p) :
    ∃ (s : CH) (q a b c : Option Addr) (n0 n1 n2 n3 : Nat), v = .agg (chV s q a b c n0 n1 n2 n3) ∧ CHAt W q a b c s ∧ WideCH s := by
  obtain ⟨cs, rfl, hsz⟩ := okWide_struct Try.underlying27 hv
  obtain ⟨fuel, hf⟩ := h
  obtain ⟨xs, n, _, _, hl, hlen, hall⟩ := DataW.trod_struct Try.underlying27 hf
  have h0 := hall 0 _ rfl
  have h1 := hall 1 _ rfl
  have h2 := hall 2 _ rfl
  have h3 := hall 3 _ rfl
  have h4 := hall 4 _ rfl
  rw [cellsChange] at hsz
  obtain ⟨l⟩ := cs
  match l, hsz, xs, hlen with
  | [c0, c1, c2, c3, c4, c5, c6], _, [y0, y1, y2, y3, y4], _ =>
    simp [cellsPolicy, cellsBytesP, cells2P, Value.cells] at h0 h1 h2 h3 h4
    obtain ⟨kd, e0, _, _⟩ := DataW.trod_int Try.underlying2 h0
    obtain ⟨pl, e1, _, _⟩ := DataW.trod_int Try.underlying2 h1
    obtain ⟨nn, e2, _, _⟩ := DataW.trod_int Try.underlying2 h2
    obtain ⟨q, n0, pt, rfl, bq, nq, _⟩ := open_bytes h3
    obtain ⟨s, a, b, c, n1, n2, n3, rfl, rfl, rfl, bp, wp⟩ := open_policyL h4
    simp at e0 e1 e2
    subst e0
    subst e1
    subst e2
    exact ⟨⟨kd, pl, nn, pt, s⟩, q, a, b, c, n0, n1, n2, n3, rfl, ⟨bq, bp⟩, ⟨nq, wp⟩⟩

end Go.Proofs.Ytbdjppiagjhfmaa
