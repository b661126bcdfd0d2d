/- From the reading of an argument to lists of nodes that lie in memory, whose values and texts are bytes. -/
import Derived.Test.YtcjnfodkppcpoaaDoorXOpa
import Derived.Test.YtcjnfodkppcpoaaDoorXUd
namespace Go.Proofs.YtcjnfodkppcpoaaDoor
open Go.ChangeShapes Go.WideShapes Go.ChangeAt Go.RowKit Go.Deep
set_option linter.unusedVariables false
set_option linter.constructorNameAsVariable false
set_option maxRecDepth 100000

theorem Tryd.cells44 : Tryd.prog.cellsOf 44 = 4 := by kernel_rfl

theorem slice_cap {H : Type} {enc : TypeId × Value → H} {W : World} {spare : Nat → Bool} {held : Bool} {fuel : Nat} {t e : TypeId} (ht : Tryd.prog.underlying t = some (.slice e)) {a : Option Addr} {n c : Nat} {x : DataW H × List MemPlace} (h : DataW.trod enc Tryd.prog W 0 spare held fuel t [.slice a n c] = some x) : n ≤ c := by
  rcases Deep.open_slice ht h with ⟨hcs, _⟩ | ⟨a', len, cap, m, n', D, Pl, hcs, _, hl, _⟩
  · simp at hcs; omega
  · simp at hcs; omega

theorem open_nodesb {H : Type} {enc : TypeId × Value → H} {W : World} {spare : Nat → Bool} {held : Bool} {fuel : Nat} {v : Value} {x : DataW H × List MemPlace} (h : DataW.trod enc Tryd.prog W 0 spare held fuel 22 [v] = some x) :
    ∃ a c l, v = .slice a l.length c ∧ NsAt W a l ∧ WideN l ∧ (l.length : Int) ≤ 9223372036854775807 ∧ NB l := by
  rcases Deep.open_slice Tryd.underlying22 h with ⟨hcs, _⟩ | ⟨a, len, cap, m, n, D, Pl, hcs, _, hl, hm, hmm, _, hx⟩
  · simp at hcs
    subst hcs
    exact ⟨none, 0, [], rfl, .inl rfl, fun k hk => absurd hk (Nat.not_lt_zero _), by simp, fun k hk => absurd hk (Nat.not_lt_zero _)⟩
  · simp at hcs
    subst hcs
    have hlm : len ≤ m := by rw [hmm]; split <;> omega
    have each : ∀ i, i < len → ∃ t : ND, W.cell? (a.add (i * 4)) = some (.int .i64 t.up) ∧ W.cell? (a.add (i * 4 + 1)) = some (.string t.tg) ∧ (∃ q c, W.cell? (a.add (i * 4 + 2)) = some (.slice q t.at_.length c) ∧ t.at_.length ≤ c ∧ AAt W q t.at_) ∧ (∃ q c, W.cell? (a.add (i * 4 + 3)) = some (.slice q t.tx.length c) ∧ BAt W q t.tx) ∧ Wide t.at_ ∧ (t.tg.size : Int) ≤ 9223372036854775807 ∧ (t.at_.length : Int) ≤ 9223372036854775807 ∧ (t.tx.length : Int) ≤ 9223372036854775807 ∧ (VB t.at_ ∧ Bytes t.tx) := by
      intro i hi
      obtain ⟨cs', h1, h2⟩ := hx i (by omega)
      rw [Tryd.cells44] at h1
      obtain ⟨_, hlen, hcell⟩ := World.cells?_some h1
      obtain ⟨xs, n', _, _, hl', hlen', hfs⟩ := DataW.trod_struct Tryd.underlying44 h2
      match cs', hlen with
      | [u0, u1, u2, u3], _ =>
      match xs, hlen' with
      | [z0, z1, z2, z3], _ =>
        have t0 := hfs 0 _ rfl
        have t1 := hfs 1 _ rfl
        have t2 := hfs 2 _ rfl
        have t3 := hfs 3 _ rfl
        simp [Tryd.cells2, Tryd.cells9, Tryd.cells24, Tryd.cells42] at t0 t1 t2 t3
        obtain ⟨up, e0, _, _⟩ := DataW.trod_int Tryd.underlying2 t0
        obtain ⟨tg, e1, _, ws⟩ := DataW.trod_string Tryd.underlying9 t1
        obtain ⟨q, c, l, rfl, ha, hll, hw, hvb⟩ := open_attrs t2
        have hcap := slice_cap Tryd.underlying42 t2
        obtain ⟨q', c', l', rfl, hb, hm2, hub⟩ := open_bytes t3
        simp at e0 e1
        subst e0 e1
        have q0 := hcell 0 (by omega)
        have q1 := hcell 1 (by omega)
        have q2 := hcell 2 (by omega)
        have q3 := hcell 3 (by omega)
        rw [Deep.add_add] at q0 q1 q2 q3
        exact ⟨⟨up, tg, l, l'⟩, by simpa using q0, by simpa using q1, ⟨q, c, by simpa using q2, hcap, ha⟩, ⟨q', c', by simpa using q3, hb⟩, hw, by unfold maxLen at ws; show (tg.size : Int) ≤ 9223372036854775807; omega, hll, hm2, hvb, hub⟩
    obtain ⟨q, hq⟩ := @Deep.choose_lt ND ⟨⟨0, ⟨#[]⟩, [], []⟩⟩ _ _ each
    have hlen : ((List.range len).map q).length = len := by simp
    have hpc : ∀ k, k < len → ndK ((List.range len).map q) k = q k := fun k hk => by unfold ndK; simp [hk]
    unfold maxLen at hm
    refine ⟨some a, cap, (List.range len).map q, by rw [hlen], ?_, fun k hk => ?_, by rw [hlen]; omega, fun k hk => ?_⟩
    · by_cases h0 : len = 0
      · left; subst h0; simp
      · right
        have c0 := (hq 0 (by omega)).1
        have e0 : a.add (0 * 4) = a := by unfold Addr.add; split <;> simp_all
        rw [e0] at c0
        obtain ⟨b, o, rfl⟩ := plain_addr c0
        refine ⟨b, o, rfl, cell_lt c0, fun k hk => ?_⟩
        rw [hlen] at hk
        obtain ⟨k0, k1, ⟨p, c, k2, k3, k4⟩, ⟨p', c', k5, k6⟩, _⟩ := hq k hk
        rw [Addr.add_mid] at k0 k1 k2 k5
        rw [hpc k hk]
        exact ⟨k0, k1, ⟨p, c, k2, k3, k4⟩, ⟨p', c', k5, k6⟩⟩
    · rw [hlen] at hk
      rw [hpc k hk]
      obtain ⟨_, _, _, _, w1, w2, w3, w4, _⟩ := hq k hk
      exact ⟨w1, w2, w3, w4⟩
    · rw [hlen] at hk
      rw [hpc k hk]
      obtain ⟨_, _, _, _, _, _, _, _, w5⟩ := hq k hk
      exact w5

/-- What a law is told of a list of nodes that came in. -/
theorem open_nodesB {H : Type} {enc : TypeId × Value → H} {W : World} {base : Nat} {spare : Nat → Bool} {held : Bool} {v : Value} {d : DataW H} {p : List MemPlace}
    (hv : Value.okWide Tryd.prog W .any base 22 v) (h : DataW.Trod enc Tryd.prog W 0 spare held 22 v d p) :
    ∃ a c l, v = .slice a l.length c ∧ NsAt W a l ∧ WideN l ∧ (l.length : Int) ≤ 9223372036854775807 ∧ NB l := by
  obtain ⟨a0, len, cap, rfl⟩ := okWide_slice Tryd.underlying22 hv
  obtain ⟨fuel, hf⟩ := h
  exact open_nodesb (by simpa [Value.cells] using hf)

end Go.Proofs.YtcjnfodkppcpoaaDoor
