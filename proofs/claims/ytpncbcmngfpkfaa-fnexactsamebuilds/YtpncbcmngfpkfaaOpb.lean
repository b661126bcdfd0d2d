/- From the reading of an argument to a state of a builder that lies in memory. -/
import Derived.Test.YtpncbcmngfpkfaaOpn
import Derived.Test.YtpncbcmngfpkfaaJa
namespace Go.Proofs.Ytpncbcmngfpkfaa
open Go.ChangeShapes Go.WideShapes Go.ChangeAt Go.RowKit Go.Deep
set_option linter.unusedVariables false
set_option linter.constructorNameAsVariable false
set_option maxRecDepth 100000

theorem Try.cells25 : Try.prog.cellsOf 25 = 3 := by kernel_rfl

theorem Try.cells22 : Try.prog.cellsOf 22 = 1 := by kernel_rfl

theorem Try.cells23 : Try.prog.cellsOf 23 = 1 := by kernel_rfl

theorem open_i64s {H : Type} {enc : TypeId × Value → H} {W : World} {spare : Nat → Bool} {held : Bool} {fuel : Nat} {v : Value} {x : DataW H × List MemPlace} (h : DataW.trod enc Try.prog W 0 spare held fuel 23 [v] = some x) :
    ∃ a c l, v = .slice a l.length c ∧ IAt W a l ∧ (l.length : Int) ≤ 9223372036854775807 := by
  rcases open_ints Try.underlying23 Try.underlying2 Try.cells2 h with ⟨hcs, _⟩ | ⟨a, len, cap, zs, hcs, _, hl, hm, hz, _, hcell, hwz⟩
  · simp at hcs
    subst hcs
    exact ⟨none, 0, [], rfl, .inl rfl, by simp⟩
  · simp at hcs
    subst hcs
    have hlz : len ≤ zs.length := by rw [hz]; split <;> omega
    have hlen : (zs.take len).length = len := by rw [List.length_take]; omega
    unfold maxLen at hm
    refine ⟨some a, cap, zs.take len, by rw [hlen], ?_, by rw [hlen]; omega⟩
    by_cases h0 : len = 0
    · left; subst h0; simp
    · right
      have c0 := hcell 0 (by omega)
      have e0 : a.add 0 = a := by unfold Addr.add; split <;> simp_all
      rw [e0] at c0
      obtain ⟨b, o, rfl⟩ := plain_addr c0
      refine ⟨b, o, rfl, cell_lt c0, fun k hk => ?_⟩
      rw [hlen] at hk
      have ck := hcell k (by omega)
      rw [Addr.add_mid] at ck
      rw [ck]
      unfold wv
      congr 2
      simp [hk]

/-- What a law is told of a state that came in. -/
theorem open_build {H : Type} {enc : TypeId × Value → H} {W : World} {base : Nat} {spare : Nat → Bool} {held : Bool} {v : Value} {d : DataW H} {p : List MemPlace}
    (hv : Value.okWide Try.prog W .any base 25 v) (h : DataW.Trod enc Try.prog W 0 spare held 25 v d p) :
    ∃ s a q c c', v = .agg #[.slice a s.nd.length c, .slice q s.op.length c', .bool s.lg] ∧ SAt W a q s ∧ WideN s.nd ∧ (s.nd.length : Int) ≤ 9223372036854775807 ∧ (s.op.length : Int) ≤ 9223372036854775807 := by
  obtain ⟨cs, rfl, hsz⟩ := okWide_struct Try.underlying25 hv
  obtain ⟨fuel, hf⟩ := h
  obtain ⟨xs, n, _, _, hl, hlen, hall⟩ := DataW.trod_struct Try.underlying25 hf
  have h0 := hall 0 _ rfl
  have h1 := hall 1 _ rfl
  have h2 := hall 2 _ rfl
  rw [Try.cells25] at hsz
  obtain ⟨l⟩ := cs
  match l, hsz, xs, hlen with
  | [c0, c1, c2], _, [y0, y1, y2], _ =>
    simp [Try.cells22, Try.cells23, Try.cells4, Value.cells] at h0 h1 h2
    obtain ⟨a, c, l, rfl, hb, hw, hm⟩ := open_nodes h0
    obtain ⟨q, c', o, rfl, hq, hm2⟩ := open_i64s h1
    obtain ⟨b, hb2, _⟩ := DataW.trod_bool Try.underlying4 h2
    simp at hb2
    subst hb2
    exact ⟨⟨l, o, b⟩, a, q, c, c', rfl, ⟨hb, hq⟩, hw, hm, hm2⟩

end Go.Proofs.Ytpncbcmngfpkfaa
