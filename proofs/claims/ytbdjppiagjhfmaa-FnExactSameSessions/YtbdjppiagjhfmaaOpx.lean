/- From the reading of an argument to a memo that lies in memory. -/
import Derived.Test.YtbdjppiagjhfmaaOpu
import Derived.Test.YtbdjppiagjhfmaaMkb
namespace Go.Proofs.Ytbdjppiagjhfmaa
open Go.ChangeShapes Go.WideShapes Go.ChangeAt Go.RowKit Go.Deep
set_option maxRecDepth 100000
set_option linter.unusedVariables false

theorem Try.cells135 : Try.prog.cellsOf 135 = 3 := by kernel_rfl

theorem Try.cells57 : Try.prog.cellsOf 57 = 5 := by kernel_rfl

theorem Try.cells55 : Try.prog.cellsOf 55 = 1 := by kernel_rfl

theorem Try.cells54 : Try.prog.cellsOf 54 = 1 := by kernel_rfl

theorem open_checks {H : Type} {enc : TypeId × Value → H} {W : World} {spare : Nat → Bool} {held : Bool} {fuel : Nat} {v : Value} {x : DataW H × List MemPlace} (h : DataW.trod enc Try.prog W 0 spare held fuel 55 [v] = some x) :
    ∃ a c l, v = .slice a l.length c ∧ CsAt W a l ∧ WideC l ∧ (l.length : Int) ≤ 9223372036854775807 := by
  rcases Deep.open_slice Try.underlying55 h with ⟨hcs, _⟩ | ⟨a, len, cap, m, n, D, Pl, hcs, _, hl, hm, hmm, _, hx⟩
  · simp at hcs
    subst hcs
    exact ⟨none, 0, [], rfl, .inl rfl, fun k hk => absurd hk (Nat.not_lt_zero _), by simp⟩
  · simp at hcs
    subst hcs
    have hlm : len ≤ m := by rw [hmm]; split <;> omega
    have each : ∀ i, i < len → ∃ t : CK, W.cell? (a.add (i * 3)) = some (.int .i64 t.pl) ∧ W.cell? (a.add (i * 3 + 1)) = some (.int .i64 t.ct) ∧ (∃ q c, W.cell? (a.add (i * 3 + 2)) = some (.slice q t.hd.length c) ∧ BAt W q t.hd) ∧ (t.hd.length : Int) ≤ 9223372036854775807 := by
      intro i hi
      obtain ⟨cs', h1, h2⟩ := hx i (by omega)
      rw [Try.cells135] at h1
      obtain ⟨_, hlen, hcell⟩ := World.cells?_some h1
      obtain ⟨xs, n', _, _, hl', hlen', hfs⟩ := DataW.trod_struct Try.underlying135 h2
      match cs', hlen with
      | [u0, u1, u2], _ =>
      match xs, hlen' with
      | [z0, z1, z2], _ =>
        have t0 := hfs 0 _ rfl
        have t1 := hfs 1 _ rfl
        have t2 := hfs 2 _ rfl
        simp [Try.cells2, Try.cells22] at t0 t1 t2
        obtain ⟨pl, e0, _, _⟩ := DataW.trod_int Try.underlying2 t0
        obtain ⟨ct, e1, _, _⟩ := DataW.trod_int Try.underlying2 t1
        obtain ⟨q, c, l, rfl, ha, hll, _⟩ := open_bytes t2
        simp at e0 e1
        subst e0 e1
        have q0 := hcell 0 (by omega)
        have q1 := hcell 1 (by omega)
        have q2 := hcell 2 (by omega)
        rw [Deep.add_add] at q0 q1 q2
        exact ⟨⟨pl, ct, l⟩, by simpa using q0, by simpa using q1, ⟨q, c, by simpa using q2, ha⟩, hll⟩
    obtain ⟨q, hq⟩ := @Deep.choose_lt CK ⟨⟨0, 0, []⟩⟩ _ _ each
    have hlen : ((List.range len).map q).length = len := by simp
    have hpc : ∀ k, k < len → ckK ((List.range len).map q) k = q k := fun k hk => by unfold ckK; simp [hk]
    unfold maxLen at hm
    refine ⟨some a, cap, (List.range len).map q, by rw [hlen], ?_, fun k hk => ?_, by rw [hlen]; omega⟩
    · by_cases h0 : len = 0
      · left; subst h0; simp
      · right
        have c0 := (hq 0 (by omega)).1
        have e0 : a.add (0 * 3) = a := by unfold Addr.add; split <;> simp_all
        rw [e0] at c0
        obtain ⟨b, o, rfl⟩ := plain_addr c0
        refine ⟨b, o, rfl, cell_lt c0, fun k hk => ?_⟩
        rw [hlen] at hk
        obtain ⟨k0, k1, ⟨p, c, k3, k4⟩, _⟩ := hq k hk
        rw [Addr.add_mid] at k0 k1 k3
        rw [hpc k hk]
        exact ⟨k0, k1, p, c, k3, k4⟩
    · rw [hlen] at hk
      rw [hpc k hk]
      exact (hq k hk).2.2.2

/-- What a law is told of a memo that came in. -/
theorem open_memo {H : Type} {enc : TypeId × Value → H} {W : World} {base : Nat} {spare : Nat → Bool} {held : Bool} {v : Value} {d : DataW H} {p : List MemPlace}
    (hv : Value.okWide Try.prog W .any base 57 v) (h : DataW.Trod enc Try.prog W 0 spare held 57 v d p) :
    ∃ m a t u c ca ct cu cc, v = .agg #[.slice a m.dt.length ca, .int .i64 m.st, .slice t m.tk.length ct, .slice u m.hd.length cu, .slice c m.cs.length cc] ∧ MAt W a t u c m ∧ WideM m ∧ (∀ k, k < m.dt.length → 0 ≤ m.dt.getD k 0 ∧ m.dt.getD k 0 ≤ 255) ∧ (∀ k, k < m.hd.length → 0 ≤ m.hd.getD k 0 ∧ m.hd.getD k 0 ≤ 255) ∧ -9223372036854775808 ≤ m.st ∧ m.st ≤ 9223372036854775807 := by
  obtain ⟨cs, rfl, hsz⟩ := okWide_struct Try.underlying57 hv
  obtain ⟨fuel, hf⟩ := h
  obtain ⟨xs, n, _, _, hl, hlen, hall⟩ := DataW.trod_struct Try.underlying57 hf
  have h0 := hall 0 _ rfl
  have h1 := hall 1 _ rfl
  have h2 := hall 2 _ rfl
  have h3 := hall 3 _ rfl
  have h4 := hall 4 _ rfl
  rw [Try.cells57] at hsz
  obtain ⟨l⟩ := cs
  match l, hsz, xs, hlen with
  | [c0, c1, c2, c3, c4], _, [y0, y1, y2, y3, y4], _ =>
    simp [Try.cells54, Try.cells55, Try.cells2, Try.cells22, Value.cells] at h0 h1 h2 h3 h4
    obtain ⟨a, ca, dt, rfl, ba, na, ua⟩ := open_bytes h0
    obtain ⟨st, e1, _, wf⟩ := DataW.trod_int Try.underlying2 h1
    obtain ⟨t, ct, tk, rfl, bt, wt, nt⟩ := open_tokens h2
    obtain ⟨u, cu, hd, rfl, bu, nu, uu⟩ := open_bytes h3
    obtain ⟨c, cc, cs, rfl, bc, wc, nc⟩ := open_checks h4
    simp at e1
    subst e1
    have bd := bounds_i64 wf
    exact ⟨⟨dt, st, tk, hd, cs⟩, a, t, u, c, ca, ct, cu, cc, rfl, ⟨ba, bt, bu, bc⟩, ⟨na, wt, nt, nu, wc, nc⟩, ua, uu, bd.1, bd.2⟩

end Go.Proofs.Ytbdjppiagjhfmaa
