/- From the reading of an argument to a policy that lies in memory. -/
import Derived.Test.YtbdjppiagjhfmaaChecked
import Derived.Test.YtbdjppiagjhfmaaCa
import Derived.ProofKit
import Derived.OpenShut
import Derived.ShutString
import Derived.ChangeOld
import Derived.ChangeMaps5
import Derived.Lib.SmallJoins
import Derived.SliceStrings
namespace Go.Proofs.Ytbdjppiagjhfmaa
open Go.ChangeShapes Go.WideShapes Go.ChangeAt Go.RowKit Go.Deep
set_option linter.unusedVariables false
set_option linter.constructorNameAsVariable false
set_option maxRecDepth 100000

theorem cells9P : Try.prog.cellsOf 9 = 1 := by kernel_rfl

theorem cellsPolicy : Try.prog.cellsOf 25 = 3 := by kernel_rfl

theorem cellsStrs : Try.prog.cellsOf 23 = 1 := by kernel_rfl

theorem cell_ltP {w : World} {a : Addr} {v : Value} (h : w.cell? a = some v) : a.block < w.heap.size := by
  unfold World.cell? at h
  by_cases hb : a.block < w.heap.size
  · exact hb
  · rw [Array.getElem?_eq_none (by omega)] at h
    simp at h

/-- An address at which cells lie is plain. -/
theorem plain_addrP {w : World} {a : Addr} {v : Value} (h : w.cell? a = some v) : ∃ b o, a = ⟨b, o, none⟩ := by
  obtain ⟨b, o, s⟩ := a
  have hs := World.cell?_spot h
  simp at hs
  subst hs
  exact ⟨b, o, rfl⟩

theorem open_strs {H : Type} {enc : TypeId × Value → H} {W : World} {spare : Nat → Bool} {held : Bool} {fuel : Nat} {v : Value} {x : DataW H × List MemPlace} (h : DataW.trod enc Try.prog W 0 spare held fuel 23 [v] = some x) :
    ∃ a c l, v = .slice a l.length c ∧ StAt W a l ∧ (l.length : Int) ≤ 9223372036854775807 ∧ WideS l := by
  rcases open_strings Try.underlying23 Try.underlying9 cells9P h with ⟨hcs, _⟩ | ⟨a, len, cap, ss, hcs, _, hl, hm, hz, _, hcell, hsz⟩
  · simp at hcs
    subst hcs
    exact ⟨none, 0, [], rfl, .inl rfl, by simp, fun k hk => absurd hk (Nat.not_lt_zero _)⟩
  · simp at hcs
    subst hcs
    have hlz : len ≤ ss.length := by rw [hz]; split <;> omega
    have hlen : (ss.take len).length = len := by rw [List.length_take]; omega
    unfold maxLen at hm hsz
    have hk' : ∀ k, k < len → sK (ss.take len) k = ss.getD k ByteArray.empty := fun k hk => by
      unfold sK
      simp [hk, show k < ss.length from by omega]
    refine ⟨some a, cap, ss.take len, by rw [hlen], ?_, by rw [hlen]; omega, fun k hk => ?_⟩
    · by_cases h0 : len = 0
      · left; subst h0; simp
      · right
        have c0 := hcell 0 (by omega)
        have e0 : a.add 0 = a := by unfold Addr.add; split <;> simp_all
        rw [e0] at c0
        obtain ⟨b, o, rfl⟩ := plain_addrP c0
        refine ⟨b, o, rfl, cell_ltP c0, fun k hk => ?_⟩
        rw [hlen] at hk
        have ck := hcell k (by omega)
        rw [Addr.add_mid] at ck
        rw [ck, hk' k hk]
    · rw [hlen] at hk
      rw [hk' k hk]
      have e : ss.getD k ByteArray.empty = ss[k]'(by omega) := by simp [show k < ss.length from by omega]
      rw [e]
      have := hsz _ (List.getElem_mem (show k < ss.length by omega))
      omega

/-- What a law is told of a policy that came in. -/
theorem open_policy {H : Type} {enc : TypeId × Value → H} {W : World} {base : Nat} {spare : Nat → Bool} {held : Bool} {v : Value} {d : DataW H} {p : List MemPlace}
    (hv : Value.okWide Try.prog W .any base 25 v) (h : DataW.Trod enc Try.prog W 0 spare held 25 v d p) :
    ∃ (s : PO) (a b c : Option Addr) (n1 n2 n3 : Nat), v = .agg #[.slice a s.tg.length n1, .slice b s.at_.length n2, .slice c s.sc.length n3] ∧ POAt W a b c s ∧ WideP s := by
  obtain ⟨cs, rfl, hsz⟩ := okWide_struct Try.underlying25 hv
  obtain ⟨fuel, hf⟩ := h
  obtain ⟨xs, n, _, _, hl, hlen, hall⟩ := DataW.trod_struct Try.underlying25 hf
  have h0 := hall 0 _ rfl
  have h1 := hall 1 _ rfl
  have h2 := hall 2 _ rfl
  rw [cellsPolicy] at hsz
  obtain ⟨l⟩ := cs
  match l, hsz, xs, hlen with
  | [c0, c1, c2], _, [y0, y1, y2], _ =>
    simp [cellsStrs, Value.cells] at h0 h1 h2
    obtain ⟨a, n1, l1, rfl, q1, m1, w1⟩ := open_strs h0
    obtain ⟨b, n2, l2, rfl, q2, m2, w2⟩ := open_strs h1
    obtain ⟨c, n3, l3, rfl, q3, m3, w3⟩ := open_strs h2
    exact ⟨⟨l1, l2, l3⟩, a, b, c, n1, n2, n3, rfl, ⟨q1, q2, q3⟩, ⟨w1, w2, w3, m1, m2, m3⟩⟩

end Go.Proofs.Ytbdjppiagjhfmaa
