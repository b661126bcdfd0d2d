/- From the reading of an argument to tokens that lie in memory. -/
import Derived.Test.YtbdjppiagjhfmaaV4
import Derived.ShutString
import Derived.ChangeOld
import Derived.ChangeMaps5
import Derived.Lib.SmallJoins
import Derived.Deep.SlicePairs
namespace Go.Proofs.Ytbdjppiagjhfmaa
open Go.ChangeShapes Go.WideShapes Go.ChangeAt Go.RowKit Go.Deep
set_option linter.unusedVariables false

theorem own : ownKnob Try.prog.godebug = none := by kernel_rfl

theorem laidOut : laidOutB Try.prog = true := by kernel_rfl

theorem Try.cells5 : Try.prog.cellsOf 5 = 1 := by kernel_rfl

theorem Try.cells4 : Try.prog.cellsOf 4 = 1 := by kernel_rfl

theorem Try.cells2 : Try.prog.cellsOf 2 = 1 := by kernel_rfl

theorem Try.cells9 : Try.prog.cellsOf 9 = 1 := by kernel_rfl

theorem Try.cells158 : Try.prog.cellsOf 158 = 2 := by kernel_rfl

theorem Try.cells132 : Try.prog.cellsOf 132 = 5 := by kernel_rfl

theorem Try.cells22 : Try.prog.cellsOf 22 = 1 := by kernel_rfl

theorem Try.cells130 : Try.prog.cellsOf 130 = 1 := by kernel_rfl

theorem cell_lt {w : World} {a : Addr} {v : Value} (h : w.cell? a = some v) : a.block < w.heap.size := by
  unfold World.cell? at h
  by_cases hb : a.block < w.heap.size
  · exact hb
  · rw [Array.getElem?_eq_none (by omega)] at h
    simp at h

/-- An address at which cells lie is plain. -/
theorem plain_addr {w : World} {a : Addr} {v : Value} (h : w.cell? a = some v) : ∃ b o, a = ⟨b, o, none⟩ := by
  obtain ⟨b, o, s⟩ := a
  have hs := World.cell?_spot h
  simp at hs
  subst hs
  exact ⟨b, o, rfl⟩

theorem open_bytes {H : Type} {enc : TypeId × Value → H} {W : World} {spare : Nat → Bool} {held : Bool} {fuel : Nat} {v : Value} {x : DataW H × List MemPlace} (h : DataW.trod enc Try.prog W 0 spare held fuel 22 [v] = some x) :
    ∃ a c l, v = .slice a l.length c ∧ BAt W a l ∧ (l.length : Int) ≤ 9223372036854775807 ∧ ∀ k, k < l.length → 0 ≤ l.getD k 0 ∧ l.getD k 0 ≤ 255 := by
  rcases open_ints Try.underlying22 Try.underlying5 Try.cells5 h with ⟨hcs, _⟩ | ⟨a, len, cap, zs, hcs, _, hl, hm, hz, _, hcell, hwz⟩
  · simp at hcs
    subst hcs
    exact ⟨none, 0, [], rfl, .inl rfl, by simp, by simp⟩
  · simp at hcs
    subst hcs
    have hlz : len ≤ zs.length := by rw [hz]; split <;> omega
    have hlen : (zs.take len).length = len := by rw [List.length_take]; omega
    unfold maxLen at hm
    refine ⟨some a, cap, zs.take len, by rw [hlen], ?_, by rw [hlen]; omega, fun k hk => ?_⟩
    · by_cases h0 : len = 0
      · left; subst h0; simp
      · right
        have c0 := hcell 0 (by omega)
        have e0 : a.add 0 = a := by unfold Addr.add; split <;> simp_all
        rw [e0] at c0
        obtain ⟨b, o, rfl⟩ := plain_addr c0
        refine ⟨b, o, rfl, cell_lt c0, fun k hk => ?_⟩
        rw [hlen] at hk
        have ck := hcell k (by omega)
        rw [Addr.add_mid] at ck
        rw [ck]
        unfold bv
        congr 2
        simp [hk]
    · rw [hlen] at hk
      have e : (zs.take len).getD k 0 = zs[k]'(by omega) := by simp [hk, show k < zs.length from by omega]
      rw [e]
      exact bounds_u8 (hwz _ (List.getElem_mem _))

set_option maxRecDepth 100000 in
theorem open_attrs {H : Type} {enc : TypeId × Value → H} {W : World} {spare : Nat → Bool} {held : Bool} {fuel : Nat} {v : Value} {x : DataW H × List MemPlace} (h : DataW.trod enc Try.prog W 0 spare held fuel 130 [v] = some x) :
    ∃ a c l, v = .slice a l.length c ∧ AAt W a l ∧ (l.length : Int) ≤ 9223372036854775807 ∧ Wide l := by
  rcases Deep.open_slice Try.underlying130 h with ⟨hcs, _⟩ | ⟨a, len, cap, m, n, D, Pl, hcs, _, hl, hm, hmm, _, hx⟩
  · simp at hcs
    subst hcs
    exact ⟨none, 0, [], rfl, .inl rfl, by simp, fun k hk => absurd hk (Nat.not_lt_zero _)⟩
  · simp at hcs
    subst hcs
    have hlm : len ≤ m := by rw [hmm]; split <;> omega
    have each : ∀ i, i < len → ∃ p : AT, W.cell? (a.add (i * 2)) = some (.string p.nm) ∧ (∃ q c, W.cell? (a.add (i * 2 + 1)) = some (.slice q p.vl.length c) ∧ BAt W q p.vl) ∧ (p.nm.size : Int) ≤ 9223372036854775807 ∧ (p.vl.length : Int) ≤ 9223372036854775807 := by
      intro i hi
      obtain ⟨cs', h1, h2⟩ := hx i (by omega)
      rw [Try.cells158] at h1
      obtain ⟨_, hlen, hcell⟩ := World.cells?_some h1
      obtain ⟨y0, y1, n', _, _, t0, t1⟩ := trod_struct2 Try.underlying158 h2
      match cs', hlen with
      | [u0, u1], _ =>
        simp [Try.cells9, Try.cells22] at t0 t1
        obtain ⟨s, e0, _, ws⟩ := DataW.trod_string Try.underlying9 t0
        obtain ⟨q, c, l, rfl, hb, hm2, _⟩ := open_bytes t1
        simp at e0
        subst e0
        have q0 := hcell 0 (by omega)
        have q1 := hcell 1 (by omega)
        rw [Deep.add_add] at q0 q1
        exact ⟨⟨s, l⟩, by simpa using q0, ⟨q, c, by simpa using q1, hb⟩, by unfold maxLen at ws; show (s.size : Int) ≤ 9223372036854775807; omega, hm2⟩
    obtain ⟨q, hq⟩ := @Deep.choose_lt AT ⟨⟨⟨#[]⟩, []⟩⟩ _ _ each
    have hlen : ((List.range len).map q).length = len := by simp
    have hpc : ∀ k, k < len → atK ((List.range len).map q) k = q k := fun k hk => by unfold atK; simp [hk]
    unfold maxLen at hm
    refine ⟨some a, cap, (List.range len).map q, by rw [hlen], ?_, by rw [hlen]; omega, fun k hk => ?_⟩
    · by_cases h0 : len = 0
      · left; subst h0; simp
      · right
        have c0 := (hq 0 (by omega)).1
        have e0 : a.add (0 * 2) = a := by unfold Addr.add; split <;> simp_all
        rw [e0] at c0
        obtain ⟨b, o, rfl⟩ := plain_addr c0
        refine ⟨b, o, rfl, cell_lt c0, fun k hk => ?_⟩
        rw [hlen] at hk
        obtain ⟨k0, ⟨p, c, k1, k2⟩, _⟩ := hq k hk
        rw [Addr.add_mid] at k0 k1
        rw [hpc k hk]
        exact ⟨k0, p, c, k1, k2⟩
    · rw [hlen] at hk
      rw [hpc k hk]
      exact (hq k hk).2.2

theorem array5 {α : Type} {cs : Array α} (h : cs.size = 5) : ∃ c0 c1 c2 c3 c4, cs = #[c0, c1, c2, c3, c4] := by
  obtain ⟨l⟩ := cs
  match l, h with
  | [c0, c1, c2, c3, c4], _ => exact ⟨c0, c1, c2, c3, c4, rfl⟩

set_option maxRecDepth 100000 in
/-- What a law is told of a token that came in. -/
theorem open_token {H : Type} {enc : TypeId × Value → H} {W : World} {base : Nat} {spare : Nat → Bool} {held : Bool} {v : Value} {d : DataW H} {p : List MemPlace}
    (hv : Value.okWide Try.prog W .any base 132 v) (h : DataW.Trod enc Try.prog W 0 spare held 132 v d p) :
    ∃ (t : TK) (a : Option Addr) (c : Nat), v = .agg #[.int .i64 t.kd, .int .i64 t.by_, .string t.nm, .slice a t.at_.length c, .bool t.sh] ∧ AAt W a t.at_ ∧ Wide t.at_ ∧ (t.nm.size : Int) ≤ 9223372036854775807 ∧ (t.at_.length : Int) ≤ 9223372036854775807 := by
  obtain ⟨cs, rfl, hsz⟩ := okWide_struct Try.underlying132 hv
  obtain ⟨v0, v1, v2, v3, v4, rfl⟩ := array5 (hsz.trans Try.cells132)
  obtain ⟨fuel, hf⟩ := h
  obtain ⟨xs, n, _, _, hl, hlen, hfs⟩ := DataW.trod_struct Try.underlying132 hf
  match xs, hlen with
  | [y0, y1, y2, y3, y4], _ =>
    have t0 := hfs 0 _ rfl
    have t1 := hfs 1 _ rfl
    have t2 := hfs 2 _ rfl
    have t3 := hfs 3 _ rfl
    have t4 := hfs 4 _ rfl
    simp [Value.cells, Try.cells2, Try.cells9, Try.cells4, Try.cells130] at t0 t1 t2 t3 t4
    obtain ⟨kd, e0, _, _⟩ := DataW.trod_int Try.underlying2 t0
    obtain ⟨by_, e1, _, _⟩ := DataW.trod_int Try.underlying2 t1
    obtain ⟨nm, e2, _, ws⟩ := DataW.trod_string Try.underlying9 t2
    obtain ⟨a, c, l, rfl, ha, hll, hw⟩ := open_attrs t3
    obtain ⟨sh, e4, _⟩ := DataW.trod_bool Try.underlying4 t4
    simp at e0 e1 e2 e4
    subst e0 e1 e2 e4
    exact ⟨⟨kd, by_, nm, l, sh⟩, a, c, rfl, ha, hw, by unfold maxLen at ws; show (nm.size : Int) ≤ 9223372036854775807; omega, hll⟩

end Go.Proofs.Ytbdjppiagjhfmaa
