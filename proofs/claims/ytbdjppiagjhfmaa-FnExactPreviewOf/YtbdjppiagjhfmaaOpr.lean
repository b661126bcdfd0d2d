/- From the reading of an argument to lists of patches that lie in memory. -/
import Derived.Test.YtbdjppiagjhfmaaOpq
import Derived.Test.YtbdjppiagjhfmaaXpv
namespace Go.Proofs.Ytbdjppiagjhfmaa
open Go.ChangeShapes Go.WideShapes Go.ChangeAt Go.RowKit Go.Deep
set_option maxRecDepth 100000
set_option linter.unusedVariables false

theorem Try.cells81 : Try.prog.cellsOf 81 = 1 := by kernel_rfl

theorem open_patchSSL {H : Type} {enc : TypeId × Value → H} {W : World} {spare : Nat → Bool} {held : Bool} {fuel : Nat} {v : Value} {x : DataW H × List MemPlace} (h : DataW.trod enc Try.prog W 0 spare held fuel 36 [v] = some x) :
    ∃ a c L, v = .slice a L.length c ∧ XssAt W a L ∧ WideXX L ∧ (L.length : Int) ≤ 9223372036854775807 := by
  rcases Deep.open_slice1 Try.underlying36 Try.cells81 h with ⟨hcs, _⟩ | ⟨a, len, cap, m, n, V, D, Pl, hcs, _, hl, hm, hmm, _, hx⟩
  · simp at hcs
    subst hcs
    exact ⟨none, 0, [], rfl, .inl rfl, fun k hk => absurd hk (Nat.not_lt_zero _), by simp⟩
  · simp at hcs
    subst hcs
    have hlm : len ≤ m := by rw [hmm]; split <;> omega
    have each : ∀ i, i < len → ∃ t : List XK, ∃ q c, W.cell? (a.add i) = some (.slice q t.length c) ∧ XsAt W q t ∧ WideX t ∧ (t.length : Int) ≤ 9223372036854775807 := by
      intro i hi
      obtain ⟨h1, h2⟩ := hx i (by omega)
      obtain ⟨q, c, l, e, h3, h4, h5⟩ := open_patches h2
      exact ⟨l, q, c, by rw [h1, e], h3, h4, h5⟩
    obtain ⟨q, hq⟩ := @Deep.choose_lt (List XK) ⟨[]⟩ _ _ each
    have hlen : ((List.range len).map q).length = len := by simp
    have hpc : ∀ k, k < len → xxK ((List.range len).map q) k = q k := fun k hk => by unfold xxK; simp [hk]
    unfold maxLen at hm
    refine ⟨some a, cap, (List.range len).map q, by rw [hlen], ?_, fun k hk => ?_, by rw [hlen]; omega⟩
    · by_cases h0 : len = 0
      · left; subst h0; simp
      · right
        obtain ⟨_, _, c0, _⟩ := hq 0 (by omega)
        have e0 : a.add 0 = a := by unfold Addr.add; split <;> simp_all
        rw [e0] at c0
        obtain ⟨b, o, rfl⟩ := plain_addr c0
        refine ⟨b, o, rfl, cell_lt c0, fun k hk => ?_⟩
        rw [hlen] at hk
        obtain ⟨p, c, k3, k4, _⟩ := hq k hk
        rw [Addr.add_mid] at k3
        rw [hpc k hk]
        exact ⟨p, c, k3, k4⟩
    · rw [hlen] at hk
      rw [hpc k hk]
      obtain ⟨_, _, _, _, k5, k6⟩ := hq k hk
      exact ⟨k5, k6⟩

/-- What a law is told of lists of patches that came in. -/
theorem open_patchSS {H : Type} {enc : TypeId × Value → H} {W : World} {base : Nat} {spare : Nat → Bool} {held : Bool} {v : Value} {d : DataW H} {p : List MemPlace}
    (hv : Value.okWide Try.prog W .any base 36 v) (h : DataW.Trod enc Try.prog W 0 spare held 36 v d p) :
    ∃ a c L, v = .slice a L.length c ∧ XssAt W a L ∧ WideXX L ∧ (L.length : Int) ≤ 9223372036854775807 := by
  obtain ⟨a0, len, cap, rfl⟩ := okWide_slice Try.underlying36 hv
  obtain ⟨fuel, hf⟩ := h
  exact open_patchSSL (by simpa [Value.cells] using hf)

end Go.Proofs.Ytbdjppiagjhfmaa
