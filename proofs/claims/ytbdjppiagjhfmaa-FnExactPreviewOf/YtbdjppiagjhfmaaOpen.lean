/- From the reading of an argument to bytes, pieces and tables that lie in memory. -/
import Derived.Test.YtbdjppiagjhfmaaLtf
import Derived.Test.YtbdjppiagjhfmaaChecked
import Derived.ProofKit
import Derived.OpenShut
import Derived.ShutString
import Derived.ChangeOld
import Derived.Lib.SmallJoins
import Derived.Deep.SlicePairs
namespace Go.Proofs.Ytbdjppiagjhfmaa
open Go.ChangeShapes Go.WideShapes Go.ChangeAt Go.RowKit
set_option linter.unusedVariables false
set_option maxRecDepth 100000

theorem own : ownKnob Try.prog.godebug = none := by kernel_rfl

theorem laidOut : laidOutB Try.prog = true := by kernel_rfl

theorem Try.cells5 : Try.prog.cellsOf 5 = 1 := by kernel_rfl

theorem Try.cells53 : Try.prog.cellsOf 53 = 3 := by kernel_rfl

theorem Try.cells143 : Try.prog.cellsOf 143 = 3 := by kernel_rfl

theorem Try.cells4 : Try.prog.cellsOf 4 = 1 := by kernel_rfl

theorem Try.cells2 : Try.prog.cellsOf 2 = 1 := by kernel_rfl

theorem cell_lt {w : World} {a : Addr} {v : Value} (h : w.cell? a = some v) : a.block < w.heap.size := by
  unfold World.cell? at h
  by_cases hb : a.block < w.heap.size
  · exact hb
  · rw [Array.getElem?_eq_none (by omega)] at h
    simp at h

/-- An address at which cells lie is plain. -/
theorem plain_addr {w : World} {a : Addr} {v : Value} (h : w.cell? a = some v) : ∃ b o, a = ⟨b, o, none⟩ := by
  obtain ⟨b, o, s⟩ := a
  have hs := World.cell?_spot h
  simp at hs
  subst hs
  exact ⟨b, o, rfl⟩

theorem open_bytes {H : Type} {enc : TypeId × Value → H} {W : World} {spare : Nat → Bool} {held : Bool} {fuel : Nat} {v : Value} {x : DataW H × List MemPlace} (h : DataW.trod enc Try.prog W 0 spare held fuel 22 [v] = some x) :
    ∃ a c l, v = .slice a l.length c ∧ BAt W a l ∧ (l.length : Int) ≤ 9223372036854775807 ∧ ∀ k, k < l.length → 0 ≤ l.getD k 0 ∧ l.getD k 0 ≤ 255 := by
  rcases open_ints Try.underlying22 Try.underlying5 Try.cells5 h with ⟨hcs, _⟩ | ⟨a, len, cap, zs, hcs, _, hl, hm, hz, _, hcell, hwz⟩
  · simp at hcs
    subst hcs
    exact ⟨none, 0, [], rfl, .inl rfl, by simp, by simp⟩
  · simp at hcs
    subst hcs
    have hlz : len ≤ zs.length := by rw [hz]; split <;> omega
    have hlen : (zs.take len).length = len := by rw [List.length_take]; omega
    unfold maxLen at hm
    refine ⟨some a, cap, zs.take len, by rw [hlen], ?_, by rw [hlen]; omega, fun k hk => ?_⟩
    · by_cases h0 : len = 0
      · left; subst h0; simp
      · right
        have c0 := hcell 0 (by omega)
        have e0 : a.add 0 = a := by unfold Addr.add; split <;> simp_all
        rw [e0] at c0
        obtain ⟨b, o, rfl⟩ := plain_addr c0
        refine ⟨b, o, rfl, cell_lt c0, fun k hk => ?_⟩
        rw [hlen] at hk
        have ck := hcell k (by omega)
        rw [Addr.add_mid] at ck
        rw [ck]
        unfold bv
        congr 2
        simp [hk]
    · rw [hlen] at hk
      have e : (zs.take len).getD k 0 = zs[k]'(by omega) := by simp [hk, show k < zs.length from by omega]
      rw [e]
      exact bounds_u8 (hwz _ (List.getElem_mem _))

theorem open_pcs {H : Type} {enc : TypeId × Value → H} {W : World} {spare : Nat → Bool} {held : Bool} {fuel : Nat} {v : Value} {x : DataW H × List MemPlace} (h : DataW.trod enc Try.prog W 0 spare held fuel 51 [v] = some x) :
    ∃ a c l, v = .slice a l.length c ∧ PAt W a l ∧ (l.length : Int) ≤ 9223372036854775807 ∧ ∀ k, k < l.length → (pc l k).fr ≤ 9223372036854775807 := by
  rcases Deep.open_slice Try.underlying51 h with ⟨hcs, _⟩ | ⟨a, len, cap, m, n, D, Pl, hcs, _, hl, hm, hmm, _, hx⟩
  · simp at hcs
    subst hcs
    exact ⟨none, 0, [], rfl, .inl rfl, by simp, by simp⟩
  · simp at hcs
    subst hcs
    have hlm : len ≤ m := by rw [hmm]; split <;> omega
    have each : ∀ i, i < len → ∃ p : PC, W.cell? (a.add (i * 3)) = some (.bool p.ad) ∧ W.cell? (a.add (i * 3 + 1)) = some (.int .i64 p.fr) ∧ W.cell? (a.add (i * 3 + 2)) = some (.int .i64 p.sz) ∧ p.fr ≤ 9223372036854775807 := by
      intro i hi
      obtain ⟨cs', h1, h2⟩ := hx i (by omega)
      rw [Try.cells143] at h1
      obtain ⟨_, hlen, hcell⟩ := World.cells?_some h1
      obtain ⟨y0, y1, y2, n', _, _, t0, t1, t2⟩ := Deep.trod_struct3 Try.underlying143 h2
      match cs', hlen with
      | [u0, u1, u2], _ =>
        simp [Try.cells4, Try.cells2] at t0 t1 t2
        obtain ⟨b, e0, _⟩ := DataW.trod_bool Try.underlying4 t0
        obtain ⟨f, e1, _, wf1⟩ := DataW.trod_int Try.underlying2 t1
        obtain ⟨z, e2, _, _⟩ := DataW.trod_int Try.underlying2 t2
        simp at e0 e1 e2
        subst e0 e1 e2
        have q0 := hcell 0 (by omega)
        have q1 := hcell 1 (by omega)
        have q2 := hcell 2 (by omega)
        rw [Deep.add_add] at q0 q1 q2
        exact ⟨⟨b, f, z⟩, by simpa using q0, by simpa using q1, by simpa using q2, (bounds_i64 wf1).2⟩
    obtain ⟨q, hq⟩ := @Deep.choose_lt PC ⟨⟨false, 0, 0⟩⟩ _ _ each
    have hlen : ((List.range len).map q).length = len := by simp
    have hpc : ∀ k, k < len → pc ((List.range len).map q) k = q k := fun k hk => by unfold pc; simp [hk]
    unfold maxLen at hm
    refine ⟨some a, cap, (List.range len).map q, by rw [hlen], ?_, by rw [hlen]; omega, fun k hk => ?_⟩
    · by_cases h0 : len = 0
      · left; subst h0; simp
      · right
        have c0 := (hq 0 (by omega)).1
        have e0 : a.add (0 * 3) = a := by unfold Addr.add; split <;> simp_all
        rw [e0] at c0
        obtain ⟨b, o, rfl⟩ := plain_addr c0
        refine ⟨b, o, rfl, cell_lt c0, fun k hk => ?_⟩
        rw [hlen] at hk
        obtain ⟨k0, k1, k2, _⟩ := hq k hk
        rw [Addr.add_mid] at k0 k1 k2
        rw [hpc k hk]
        exact ⟨k0, k1, k2⟩
    · rw [hlen] at hk
      rw [hpc k hk]
      exact (hq k hk).2.2.2

/-- What a law on one table is told of its argument. -/
theorem open_table {H : Type} {enc : TypeId × Value → H} {W : World} {base : Nat} {spare : Nat → Bool} {held : Bool} {v : Value} {d : DataW H} {p : List MemPlace}
    (hv : Value.okWide Try.prog W .any base 53 v) (h : DataW.Trod enc Try.prog W 0 spare held 53 v d p) :
    ∃ t, TAt W v t ∧ WFT t ∧ (t.base.length : Int) ≤ 9223372036854775807 ∧ (t.more.length : Int) ≤ 9223372036854775807 ∧ (t.pcs.length : Int) ≤ 9223372036854775807 := by
  obtain ⟨v0, v1, v2, y0, y1, y2, n, rfl, _, _, t0, t1, t2⟩ := Go.Joins.open_agg3 Try.underlying53 (by kernel_rfl) Try.cells53 hv h
  obtain ⟨a1, c1, l1, rfl, b1, m1, _⟩ := open_bytes t0
  obtain ⟨a2, c2, l2, rfl, b2, m2, _⟩ := open_bytes t1
  obtain ⟨a3, c3, l3, rfl, b3, m3, w3⟩ := open_pcs t2
  exact ⟨⟨l1, l2, l3⟩, ⟨a1, a2, a3, c1, c2, c3, rfl, b1, b2, b3⟩, w3, m1, m2, m3⟩

/-- What a law is told of a byte slice that came in. -/
theorem open_bytesV {H : Type} {enc : TypeId × Value → H} {W : World} {base : Nat} {spare : Nat → Bool} {held : Bool} {v : Value} {d : DataW H} {p : List MemPlace}
    (hv : Value.okWide Try.prog W .any base 22 v) (h : DataW.Trod enc Try.prog W 0 spare held 22 v d p) :
    ∃ a c l, v = .slice a l.length c ∧ BAt W a l ∧ (l.length : Int) ≤ 9223372036854775807 ∧ ∀ k, k < l.length → 0 ≤ l.getD k 0 ∧ l.getD k 0 ≤ 255 := by
  obtain ⟨a0, len, cap, rfl⟩ := okWide_slice Try.underlying22 hv
  obtain ⟨fuel, hf⟩ := h
  exact open_bytes (by simpa [Value.cells] using hf)

end Go.Proofs.Ytbdjppiagjhfmaa
