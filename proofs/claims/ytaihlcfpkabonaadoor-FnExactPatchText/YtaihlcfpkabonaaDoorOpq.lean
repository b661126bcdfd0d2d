/- From the reading of an argument to patches that lie in memory. -/
import Derived.Test.YtaihlcfpkabonaaDoorOpen
import Derived.Test.YtaihlcfpkabonaaDoorXpa
namespace Go.Proofs.YtaihlcfpkabonaaDoor
open Go.ChangeShapes Go.WideShapes Go.ChangeAt Go.RowKit Go.Deep
set_option maxRecDepth 100000
set_option linter.unusedVariables false

theorem Tryd.cells35 : Tryd.prog.cellsOf 35 = 3 := by kernel_rfl

theorem xcells_u8s : Tryd.prog.cellsOf 33 = 1 := by kernel_rfl

theorem open_patches {H : Type} {enc : TypeId × Value → H} {W : World} {spare : Nat → Bool} {held : Bool} {fuel : Nat} {v : Value} {x : DataW H × List MemPlace} (h : DataW.trod enc Tryd.prog W 0 spare held fuel 22 [v] = some x) :
    ∃ a c l, v = .slice a l.length c ∧ XsAt W a l ∧ WideX l ∧ (l.length : Int) ≤ 9223372036854775807 := by
  rcases Deep.open_slice Tryd.underlying22 h with ⟨hcs, _⟩ | ⟨a, len, cap, m, n, D, Pl, hcs, _, hl, hm, hmm, _, hx⟩
  · simp at hcs
    subst hcs
    exact ⟨none, 0, [], rfl, .inl rfl, fun k hk => absurd hk (Nat.not_lt_zero _), by simp⟩
  · simp at hcs
    subst hcs
    have hlm : len ≤ m := by rw [hmm]; split <;> omega
    have each : ∀ i, i < len → ∃ t : XK, W.cell? (a.add (i * 3)) = some (.int .i64 t.pl) ∧ W.cell? (a.add (i * 3 + 1)) = some (.int .i64 t.ct) ∧ (∃ q c, W.cell? (a.add (i * 3 + 2)) = some (.slice q t.hd.length c) ∧ BAt W q t.hd) ∧ (t.hd.length : Int) ≤ 9223372036854775807 ∧ -9223372036854775808 ≤ t.pl ∧ t.pl ≤ 9223372036854775807 ∧ -9223372036854775808 ≤ t.ct ∧ t.ct ≤ 9223372036854775807 := by
      intro i hi
      obtain ⟨cs', h1, h2⟩ := hx i (by omega)
      rw [Tryd.cells35] at h1
      obtain ⟨_, hlen, hcell⟩ := World.cells?_some h1
      obtain ⟨xs, n', _, _, hl', hlen', hfs⟩ := DataW.trod_struct Tryd.underlying35 h2
      match cs', hlen with
      | [u0, u1, u2], _ =>
      match xs, hlen' with
      | [z0, z1, z2], _ =>
        have t0 := hfs 0 _ rfl
        have t1 := hfs 1 _ rfl
        have t2 := hfs 2 _ rfl
        simp [Tryd.cells2, xcells_u8s] at t0 t1 t2
        obtain ⟨pl, e0, _, f0⟩ := DataW.trod_int Tryd.underlying2 t0
        obtain ⟨ct, e1, _, f1⟩ := DataW.trod_int Tryd.underlying2 t1
        obtain ⟨q, c, l, rfl, ha, hll, _⟩ := open_bytes t2
        have b0 := bounds_i64 f0
        have b1 := bounds_i64 f1
        simp at e0 e1
        subst e0 e1
        have q0 := hcell 0 (by omega)
        have q1 := hcell 1 (by omega)
        have q2 := hcell 2 (by omega)
        rw [Deep.add_add] at q0 q1 q2
        exact ⟨⟨pl, ct, l⟩, by simpa using q0, by simpa using q1, ⟨q, c, by simpa using q2, ha⟩, hll, b0.1, b0.2, b1.1, b1.2⟩
    obtain ⟨q, hq⟩ := @Deep.choose_lt XK ⟨⟨0, 0, []⟩⟩ _ _ each
    have hlen : ((List.range len).map q).length = len := by simp
    have hpc : ∀ k, k < len → xkK ((List.range len).map q) k = q k := fun k hk => by unfold xkK; simp [hk]
    unfold maxLen at hm
    refine ⟨some a, cap, (List.range len).map q, by rw [hlen], ?_, fun k hk => ?_, by rw [hlen]; omega⟩
    · by_cases h0 : len = 0
      · left; subst h0; simp
      · right
        have c0 := (hq 0 (by omega)).1
        have e0 : a.add (0 * 3) = a := by unfold Addr.add; split <;> simp_all
        rw [e0] at c0
        obtain ⟨b, o, rfl⟩ := plain_addr c0
        refine ⟨b, o, rfl, cell_lt c0, fun k hk => ?_⟩
        rw [hlen] at hk
        obtain ⟨k0, k1, ⟨p, c, k3, k4⟩, _⟩ := hq k hk
        rw [Addr.add_mid] at k0 k1 k3
        rw [hpc k hk]
        exact ⟨k0, k1, p, c, k3, k4⟩
    · rw [hlen] at hk
      rw [hpc k hk]
      exact (hq k hk).2.2.2

/-- What a law is told of patches that came in. -/
theorem open_patchesV {H : Type} {enc : TypeId × Value → H} {W : World} {base : Nat} {spare : Nat → Bool} {held : Bool} {v : Value} {d : DataW H} {p : List MemPlace}
    (hv : Value.okWide Tryd.prog W .any base 22 v) (h : DataW.Trod enc Tryd.prog W 0 spare held 22 v d p) :
    ∃ a c l, v = .slice a l.length c ∧ XsAt W a l ∧ WideX l ∧ (l.length : Int) ≤ 9223372036854775807 := by
  obtain ⟨a0, len, cap, rfl⟩ := okWide_slice Tryd.underlying22 hv
  obtain ⟨fuel, hf⟩ := h
  exact open_patches (by simpa [Value.cells] using hf)

end Go.Proofs.YtaihlcfpkabonaaDoor
