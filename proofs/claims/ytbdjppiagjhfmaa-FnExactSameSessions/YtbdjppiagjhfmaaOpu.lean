/- From the reading of an argument to lists of tokens that lie in memory. -/
import Derived.Test.YtbdjppiagjhfmaaOpt
import Derived.Test.YtbdjppiagjhfmaaTn
namespace Go.Proofs.Ytbdjppiagjhfmaa
open Go.ChangeShapes Go.WideShapes Go.ChangeAt Go.RowKit Go.Deep
set_option maxRecDepth 100000
set_option linter.unusedVariables false

theorem open_tokens {H : Type} {enc : TypeId × Value → H} {W : World} {spare : Nat → Bool} {held : Bool} {fuel : Nat} {v : Value} {x : DataW H × List MemPlace} (h : DataW.trod enc Try.prog W 0 spare held fuel 54 [v] = some x) :
    ∃ a c l, v = .slice a l.length c ∧ TsAt W a l ∧ WideT l ∧ (l.length : Int) ≤ 9223372036854775807 := by
  rcases Deep.open_slice Try.underlying54 h with ⟨hcs, _⟩ | ⟨a, len, cap, m, n, D, Pl, hcs, _, hl, hm, hmm, _, hx⟩
  · simp at hcs
    subst hcs
    exact ⟨none, 0, [], rfl, .inl rfl, fun k hk => absurd hk (Nat.not_lt_zero _), by simp⟩
  · simp at hcs
    subst hcs
    have hlm : len ≤ m := by rw [hmm]; split <;> omega
    have each : ∀ i, i < len → ∃ t : TK, W.cell? (a.add (i * 5)) = some (.int .i64 t.kd) ∧ W.cell? (a.add (i * 5 + 1)) = some (.int .i64 t.by_) ∧ W.cell? (a.add (i * 5 + 2)) = some (.string t.nm) ∧ (∃ q c, W.cell? (a.add (i * 5 + 3)) = some (.slice q t.at_.length c) ∧ AAt W q t.at_) ∧ W.cell? (a.add (i * 5 + 4)) = some (.bool t.sh) ∧ Wide t.at_ ∧ (t.nm.size : Int) ≤ 9223372036854775807 ∧ (t.at_.length : Int) ≤ 9223372036854775807 := by
      intro i hi
      obtain ⟨cs', h1, h2⟩ := hx i (by omega)
      rw [Try.cells132] at h1
      obtain ⟨_, hlen, hcell⟩ := World.cells?_some h1
      obtain ⟨xs, n', _, _, hl', hlen', hfs⟩ := DataW.trod_struct Try.underlying132 h2
      match cs', hlen with
      | [u0, u1, u2, u3, u4], _ =>
      match xs, hlen' with
      | [z0, z1, z2, z3, z4], _ =>
        have t0 := hfs 0 _ rfl
        have t1 := hfs 1 _ rfl
        have t2 := hfs 2 _ rfl
        have t3 := hfs 3 _ rfl
        have t4 := hfs 4 _ rfl
        simp [Try.cells2, Try.cells9, Try.cells4, Try.cells130] at t0 t1 t2 t3 t4
        obtain ⟨kd, e0, _, _⟩ := DataW.trod_int Try.underlying2 t0
        obtain ⟨by_, e1, _, _⟩ := DataW.trod_int Try.underlying2 t1
        obtain ⟨nm, e2, _, ws⟩ := DataW.trod_string Try.underlying9 t2
        obtain ⟨q, c, l, rfl, ha, hll, hw⟩ := open_attrs t3
        obtain ⟨sh, e4, _⟩ := DataW.trod_bool Try.underlying4 t4
        simp at e0 e1 e2 e4
        subst e0 e1 e2 e4
        have q0 := hcell 0 (by omega)
        have q1 := hcell 1 (by omega)
        have q2 := hcell 2 (by omega)
        have q3 := hcell 3 (by omega)
        have q4 := hcell 4 (by omega)
        rw [Deep.add_add] at q0 q1 q2 q3 q4
        exact ⟨⟨kd, by_, nm, l, sh⟩, by simpa using q0, by simpa using q1, by simpa using q2, ⟨q, c, by simpa using q3, ha⟩, by simpa using q4, hw, by unfold maxLen at ws; show (nm.size : Int) ≤ 9223372036854775807; omega, hll⟩
    obtain ⟨q, hq⟩ := @Deep.choose_lt TK ⟨⟨0, 0, ⟨#[]⟩, [], false⟩⟩ _ _ each
    have hlen : ((List.range len).map q).length = len := by simp
    have hpc : ∀ k, k < len → tkK ((List.range len).map q) k = q k := fun k hk => by unfold tkK; simp [hk]
    unfold maxLen at hm
    refine ⟨some a, cap, (List.range len).map q, by rw [hlen], ?_, fun k hk => ?_, by rw [hlen]; omega⟩
    · by_cases h0 : len = 0
      · left; subst h0; simp
      · right
        have c0 := (hq 0 (by omega)).1
        have e0 : a.add (0 * 5) = a := by unfold Addr.add; split <;> simp_all
        rw [e0] at c0
        obtain ⟨b, o, rfl⟩ := plain_addr c0
        refine ⟨b, o, rfl, cell_lt c0, fun k hk => ?_⟩
        rw [hlen] at hk
        obtain ⟨k0, k1, k2, ⟨p, c, k3, k4⟩, k5, _⟩ := hq k hk
        rw [Addr.add_mid] at k0 k1 k2 k3 k5
        rw [hpc k hk]
        exact ⟨k0, k1, k2, ⟨p, c, k3, k4⟩, k5⟩
    · rw [hlen] at hk
      rw [hpc k hk]
      exact (hq k hk).2.2.2.2.2

/-- What a law is told of a list of tokens that came in. -/
theorem open_tokensV {H : Type} {enc : TypeId × Value → H} {W : World} {base : Nat} {spare : Nat → Bool} {held : Bool} {v : Value} {d : DataW H} {p : List MemPlace}
    (hv : Value.okWide Try.prog W .any base 54 v) (h : DataW.Trod enc Try.prog W 0 spare held 54 v d p) :
    ∃ a c l, v = .slice a l.length c ∧ TsAt W a l ∧ WideT l ∧ (l.length : Int) ≤ 9223372036854775807 := by
  obtain ⟨a0, len, cap, rfl⟩ := okWide_slice Try.underlying54 hv
  obtain ⟨fuel, hf⟩ := h
  exact open_tokens (by simpa [Value.cells] using hf)

end Go.Proofs.Ytbdjppiagjhfmaa
