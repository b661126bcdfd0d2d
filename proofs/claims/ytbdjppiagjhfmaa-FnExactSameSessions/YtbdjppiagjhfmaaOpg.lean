/- From the reading of an argument to a session that lies in memory. -/
import Derived.Test.YtbdjppiagjhfmaaOpx
import Derived.Test.YtbdjppiagjhfmaaOpp
import Derived.Test.YtbdjppiagjhfmaaSse
import Derived.Deep.SlicePairs
namespace Go.Proofs.Ytbdjppiagjhfmaa
open Go.ChangeShapes Go.WideShapes Go.ChangeAt Go.RowKit Go.Deep
set_option maxRecDepth 100000
set_option linter.unusedVariables false

theorem cellsSession : Try.prog.cellsOf 59 = 13 := by kernel_rfl

theorem cellsTableK : Try.prog.cellsOf 53 = 3 := by kernel_rfl

theorem cellsPieceK : Try.prog.cellsOf 143 = 3 := by kernel_rfl

theorem cellsPcs : Try.prog.cellsOf 51 = 1 := by kernel_rfl

theorem open_pcsK {H : Type} {enc : TypeId × Value → H} {W : World} {spare : Nat → Bool} {held : Bool} {fuel : Nat} {v : Value} {x : DataW H × List MemPlace} (h : DataW.trod enc Try.prog W 0 spare held fuel 51 [v] = some x) :
    ∃ a c l, v = .slice a l.length c ∧ PAt W a l ∧ (l.length : Int) ≤ 9223372036854775807 ∧ ∀ k, k < l.length → (pc l k).fr ≤ 9223372036854775807 := by
  rcases Deep.open_slice Try.underlying51 h with ⟨hcs, _⟩ | ⟨a, len, cap, m, n, D, Pl, hcs, _, hl, hm, hmm, _, hx⟩
  · simp at hcs
    subst hcs
    exact ⟨none, 0, [], rfl, .inl rfl, by simp, by simp⟩
  · simp at hcs
    subst hcs
    have hlm : len ≤ m := by rw [hmm]; split <;> omega
    have each : ∀ i, i < len → ∃ p : PC, W.cell? (a.add (i * 3)) = some (.bool p.ad) ∧ W.cell? (a.add (i * 3 + 1)) = some (.int .i64 p.fr) ∧ W.cell? (a.add (i * 3 + 2)) = some (.int .i64 p.sz) ∧ p.fr ≤ 9223372036854775807 := by
      intro i hi
      obtain ⟨cs', h1, h2⟩ := hx i (by omega)
      rw [cellsPieceK] at h1
      obtain ⟨_, hlen, hcell⟩ := World.cells?_some h1
      obtain ⟨y0, y1, y2, n', _, _, t0, t1, t2⟩ := Deep.trod_struct3 Try.underlying143 h2
      match cs', hlen with
      | [u0, u1, u2], _ =>
        simp [Try.cells4, Try.cells2] at t0 t1 t2
        obtain ⟨b, e0, _⟩ := DataW.trod_bool Try.underlying4 t0
        obtain ⟨f, e1, _, wf1⟩ := DataW.trod_int Try.underlying2 t1
        obtain ⟨z, e2, _, _⟩ := DataW.trod_int Try.underlying2 t2
        simp at e0 e1 e2
        subst e0 e1 e2
        have q0 := hcell 0 (by omega)
        have q1 := hcell 1 (by omega)
        have q2 := hcell 2 (by omega)
        rw [Deep.add_add] at q0 q1 q2
        exact ⟨⟨b, f, z⟩, by simpa using q0, by simpa using q1, by simpa using q2, (bounds_i64 wf1).2⟩
    obtain ⟨q, hq⟩ := @Deep.choose_lt PC ⟨⟨false, 0, 0⟩⟩ _ _ each
    have hlen : ((List.range len).map q).length = len := by simp
    have hpc : ∀ k, k < len → pc ((List.range len).map q) k = q k := fun k hk => by unfold pc; simp [hk]
    unfold maxLen at hm
    refine ⟨some a, cap, (List.range len).map q, by rw [hlen], ?_, by rw [hlen]; omega, fun k hk => ?_⟩
    · by_cases h0 : len = 0
      · left; subst h0; simp
      · right
        have c0 := (hq 0 (by omega)).1
        have e0 : a.add (0 * 3) = a := by unfold Addr.add; split <;> simp_all
        rw [e0] at c0
        obtain ⟨b, o, rfl⟩ := plain_addr c0
        refine ⟨b, o, rfl, cell_lt c0, fun k hk => ?_⟩
        rw [hlen] at hk
        obtain ⟨k0, k1, k2, _⟩ := hq k hk
        rw [Addr.add_mid] at k0 k1 k2
        rw [hpc k hk]
        exact ⟨k0, k1, k2⟩
    · rw [hlen] at hk
      rw [hpc k hk]
      exact (hq k hk).2.2.2

theorem open_policyK {H : Type} {enc : TypeId × Value → H} {W : World} {spare : Nat → Bool} {held : Bool} {fuel : Nat} {c0 c1 c2 : Value} {x : DataW H × List MemPlace} (h : DataW.trod enc Try.prog W 0 spare held fuel 25 [c0, c1, c2] = some x) :
    ∃ (s : PO) (a b c : Option Addr) (n1 n2 n3 : Nat), c0 = .slice a s.tg.length n1 ∧ c1 = .slice b s.at_.length n2 ∧ c2 = .slice c s.sc.length n3 ∧ POAt W a b c s ∧ WideP s := by
  obtain ⟨xs, n, _, _, hl, hlen, hall⟩ := DataW.trod_struct Try.underlying25 h
  have h0 := hall 0 _ rfl
  have h1 := hall 1 _ rfl
  have h2 := hall 2 _ rfl
  match xs, hlen with
  | [y0, y1, y2], _ =>
    simp [cellsStrs] at h0 h1 h2
    obtain ⟨a, n1, l1, rfl, q1, m1, w1⟩ := open_strs h0
    obtain ⟨b, n2, l2, rfl, q2, m2, w2⟩ := open_strs h1
    obtain ⟨c, n3, l3, rfl, q3, m3, w3⟩ := open_strs h2
    exact ⟨⟨l1, l2, l3⟩, a, b, c, n1, n2, n3, rfl, rfl, rfl, ⟨q1, q2, q3⟩, ⟨w1, w2, w3, m1, m2, m3⟩⟩

theorem open_memoK {H : Type} {enc : TypeId × Value → H} {W : World} {spare : Nat → Bool} {held : Bool} {fuel : Nat} {c0 c1 c2 c3 c4 : Value} {x : DataW H × List MemPlace} (h : DataW.trod enc Try.prog W 0 spare held fuel 57 [c0, c1, c2, c3, c4] = some x) :
    ∃ (m : ME) (a t u c : Option Addr) (ca ct cu cc : Nat), c0 = .slice a m.dt.length ca ∧ c1 = .int .i64 m.st ∧ c2 = .slice t m.tk.length ct ∧ c3 = .slice u m.hd.length cu ∧ c4 = .slice c m.cs.length cc ∧ MAt W a t u c m ∧ WideM m := by
  obtain ⟨xs, n, _, _, hl, hlen, hall⟩ := DataW.trod_struct Try.underlying57 h
  have h0 := hall 0 _ rfl
  have h1 := hall 1 _ rfl
  have h2 := hall 2 _ rfl
  have h3 := hall 3 _ rfl
  have h4 := hall 4 _ rfl
  match xs, hlen with
  | [y0, y1, y2, y3, y4], _ =>
    simp [Try.cells54, Try.cells55, Try.cells2, Try.cells22] at h0 h1 h2 h3 h4
    obtain ⟨a, ca, dt, rfl, ba, na, ua⟩ := open_bytes h0
    obtain ⟨st, e1, _, wf⟩ := DataW.trod_int Try.underlying2 h1
    obtain ⟨t, ct, tk, rfl, bt, wt, nt⟩ := open_tokens h2
    obtain ⟨u, cu, hd, rfl, bu, nu, uu⟩ := open_bytes h3
    obtain ⟨c, cc, cs, rfl, bc, wc, nc⟩ := open_checks h4
    simp at e1
    subst e1
    exact ⟨⟨dt, st, tk, hd, cs⟩, a, t, u, c, ca, ct, cu, cc, rfl, rfl, rfl, rfl, rfl, ⟨ba, bt, bu, bc⟩, ⟨na, wt, nt, nu, wc, nc⟩⟩

theorem open_tableK {H : Type} {enc : TypeId × Value → H} {W : World} {spare : Nat → Bool} {held : Bool} {fuel : Nat} {c0 c1 c2 : Value} {x : DataW H × List MemPlace} (h : DataW.trod enc Try.prog W 0 spare held fuel 53 [c0, c1, c2] = some x) :
    ∃ (t : TB) (a b c : Option Addr) (n1 n2 n3 : Nat), c0 = .slice a t.base.length n1 ∧ c1 = .slice b t.more.length n2 ∧ c2 = .slice c t.pcs.length n3 ∧ BAt W a t.base ∧ BAt W b t.more ∧ PAt W c t.pcs ∧ (t.base.length : Int) ≤ 9223372036854775807 ∧ (t.more.length : Int) ≤ 9223372036854775807 ∧ (t.pcs.length : Int) ≤ 9223372036854775807 := by
  obtain ⟨xs, n, _, _, hl, hlen, hall⟩ := DataW.trod_struct Try.underlying53 h
  have h0 := hall 0 _ rfl
  have h1 := hall 1 _ rfl
  have h2 := hall 2 _ rfl
  match xs, hlen with
  | [y0, y1, y2], _ =>
    simp [Try.cells22, cellsPcs] at h0 h1 h2
    obtain ⟨a, n1, l1, rfl, q1, m1, _⟩ := open_bytes h0
    obtain ⟨b, n2, l2, rfl, q2, m2, _⟩ := open_bytes h1
    obtain ⟨c, n3, l3, rfl, q3, m3, _⟩ := open_pcsK h2
    exact ⟨⟨l1, l2, l3⟩, a, b, c, n1, n2, n3, rfl, rfl, rfl, q1, q2, q3, m1, m2, m3⟩

/-- What a law is told of a session that came in. -/
theorem open_session {H : Type} {enc : TypeId × Value → H} {W : World} {base : Nat} {spare : Nat → Bool} {held : Bool} {v : Value} {d : DataW H} {p : List MemPlace}
    (hv : Value.okWide Try.prog W .any base 59 v) (h : DataW.Trod enc Try.prog W 0 spare held 59 v d p) :
    ∃ (s : SE) (x : SX), v = .agg (seV s x) ∧ SEAt W s x ∧ WideSE s := by
  obtain ⟨cs, rfl, hsz⟩ := okWide_struct Try.underlying59 hv
  obtain ⟨fuel, hf⟩ := h
  obtain ⟨xs, n, _, _, hl, hlen, hall⟩ := DataW.trod_struct Try.underlying59 hf
  have h0 := hall 0 _ rfl
  have h1 := hall 1 _ rfl
  have h2 := hall 2 _ rfl
  have h3 := hall 3 _ rfl
  have h4 := hall 4 _ rfl
  rw [cellsSession] at hsz
  obtain ⟨l⟩ := cs
  match l, hsz, xs, hlen with
  | [c0, c1, c2, c3, c4, c5, c6, c7, c8, c9, c10, c11, c12], _, [y0, y1, y2, y3, y4], _ =>
    simp [cellsPolicy, cellsTableK, Try.cells57, Try.cells22, Try.cells2, Value.cells] at h0 h1 h2 h3 h4
    obtain ⟨po, p1, p2, p3, n1, n2, n3, rfl, rfl, rfl, bp, wp⟩ := open_policyK h0
    obtain ⟨tb, b1, b2, b3, k1, k2, k3, rfl, rfl, rfl, t1, t2, t3, w1, w2, w3⟩ := open_tableK h1
    obtain ⟨me, q1, q2, q3, q4, l1, l2, l3, l4, rfl, rfl, rfl, rfl, rfl, bm, wm⟩ := open_memoK h2
    obtain ⟨d1, j1, ou, rfl, bo, no, _⟩ := open_bytes h3
    obtain ⟨st, e4, _, _⟩ := DataW.trod_int Try.underlying2 h4
    simp at e4
    subst e4
    exact ⟨⟨po, tb, me, ou, st⟩, ⟨p1, p2, p3, b1, b2, b3, q1, q2, q3, q4, d1, n1, n2, n3, k1, k2, k3, l1, l2, l3, l4, j1⟩, rfl, ⟨bp, t1, t2, t3, bm, bo⟩, ⟨wp, w1, w2, w3, wm, no⟩⟩

end Go.Proofs.Ytbdjppiagjhfmaa
