/- From the reading of an argument to tokens that lie in memory. -/
import Derived.Test.YtmhihkdnhaadeaaGreatDoorG14
import Derived.ShutString
import Derived.ChangeOld
import Derived.ChangeMaps5
import Derived.Lib.SmallJoins
import Derived.Deep.SlicePairs
import Derived.Test.YtmhihkdnhaadeaaGreatDoorG16
import Derived.Test.YtmhihkdnhaadeaaGreatDoorG22
set_option linter.unusedVariables false
set_option linter.unusedSimpArgs false
namespace Go.Proofs.YtmhihkdnhaadeaaGreatDoor
open Go.ChangeShapes Go.WideShapes Go.ChangeAt Go.RowKit Go.Deep
theorem Tryz.cells5 : Tryz.prog.cellsOf 5 = 1 := by kernel_rfl
theorem Tryz.cells4 : Tryz.prog.cellsOf 4 = 1 := by kernel_rfl
theorem Tryz.cells2 : Tryz.prog.cellsOf 2 = 1 := by kernel_rfl
theorem Tryz.cells9 : Tryz.prog.cellsOf 9 = 1 := by kernel_rfl
theorem Tryz.cells129 : Tryz.prog.cellsOf 129 = 2 := by kernel_rfl
theorem Tryz.cells74 : Tryz.prog.cellsOf 74 = 5 := by kernel_rfl
theorem Tryz.cells22 : Tryz.prog.cellsOf 22 = 1 := by kernel_rfl
theorem Tryz.cells72 : Tryz.prog.cellsOf 72 = 1 := by kernel_rfl
theorem cell_lt {w : World} {a : Addr} {v : Value} (h : w.cell? a = some v) : a.block < w.heap.size := by
 unfold World.cell? at h
 by_cases hb : a.block < w.heap.size
 ·exact hb
 ·rw [Array.getElem?_eq_none (by omega)] at h
  simp at h
theorem plain_addr {w : World} {a : Addr} {v : Value} (h : w.cell? a = some v) : ∃ b o, a = ⟨b, o, none⟩ := by
 obtain ⟨b, o, s⟩ := a
 have hs := World.cell?_spot h
 simp at hs
 subst hs
 exact ⟨b, o, rfl⟩
theorem open_bytes {H : Type} {enc : TypeId × Value → H} {W : World} {spare : Nat → Bool} {held : Bool} {fuel : Nat} {v : Value} {x : DataW H × List MemPlace} (h : DataW.trod enc Tryz.prog W 0 spare held fuel 22 [v] = some x) :
  ∃ a c l, v = .slice a l.length c ∧ BAt W a l ∧ (l.length : Int) ≤ 9223372036854775807 ∧ ∀ k, k < l.length → 0 ≤ l.getD k 0 ∧ l.getD k 0 ≤ 255 := by
 rcases open_ints Tryz.underlying22 Tryz.underlying5 Tryz.cells5 h with ⟨hcs, _⟩ | ⟨a, len, cap, zs, hcs, _, hl, hm, hz, _, hcell, hwz⟩
 ·simp at hcs
  subst hcs
  exact ⟨none, 0, [], rfl, .inl rfl, by simp, by simp⟩
 ·simp at hcs
  subst hcs
  have hlz : len ≤ zs.length := by rw [hz]; split <;> omega
  have hlen : (zs.take len).length = len := by rw [List.length_take]; omega
  unfold maxLen at hm
  refine ⟨some a, cap, zs.take len, by rw [hlen], ?_, by rw [hlen]; omega, fun k hk => ?_⟩
  ·by_cases h0 : len = 0
   ·left; subst h0; simp
   ·right
    have c0 := hcell 0 (by omega)
    have e0 : a.add 0 = a := by unfold Addr.add; split <;> simp_all
    rw [e0] at c0
    obtain ⟨b, o, rfl⟩ := plain_addr c0
    refine ⟨b, o, rfl, cell_lt c0, fun k hk => ?_⟩
    rw [hlen] at hk
    have ck := hcell k (by omega)
    rw [Addr.add_mid] at ck
    rw [ck]
    unfold bv
    congr 2
    simp [hk]
  ·rw [hlen] at hk
   have e : (zs.take len).getD k 0 = zs[k]'(by omega) := by simp [hk, show k < zs.length from by omega]
   rw [e]
   exact bounds_u8 (hwz _ (List.getElem_mem _))

end Go.Proofs.YtmhihkdnhaadeaaGreatDoor

namespace Go.Proofs.YtmhihkdnhaadeaaGreatDoor
open Go.ChangeShapes Go.WideShapes Go.ChangeAt Go.RowKit Go.Deep
set_option maxRecDepth 100000

end Go.Proofs.YtmhihkdnhaadeaaGreatDoor

namespace Go.Proofs.YtmhihkdnhaadeaaGreatDoor
open Go.ChangeShapes Go.WideShapes Go.ChangeAt Go.RowKit Go.Deep
set_option maxRecDepth 100000
theorem Tryz.cells76 : Tryz.prog.cellsOf 76 = 3 := by kernel_rfl
theorem Tryz.cells26 : Tryz.prog.cellsOf 26 = 5 := by kernel_rfl
theorem Tryz.cells24 : Tryz.prog.cellsOf 24 = 1 := by kernel_rfl
theorem Tryz.cells23 : Tryz.prog.cellsOf 23 = 1 := by kernel_rfl

end Go.Proofs.YtmhihkdnhaadeaaGreatDoor

namespace Go.Proofs.YtmhihkdnhaadeaaGreatDoor
open Go.ChangeShapes Go.WideShapes Go.ChangeAt Go.RowKit Go.Deep
set_option maxRecDepth 100000
theorem open_checksB {H : Type} {enc : TypeId × Value → H} {W : World} {spare : Nat → Bool} {held : Bool} {fuel : Nat} {v : Value} {x : DataW H × List MemPlace} (h : DataW.trod enc Tryz.prog W 0 spare held fuel 24 [v] = some x) :
  ∃ a c l, v = .slice a l.length c ∧ CsAt W a l ∧ WideC l ∧ (l.length : Int) ≤ 9223372036854775807 ∧ ∀ k, k < l.length → ∀ i, i < (ckK l k).hd.length → 0 ≤ (ckK l k).hd.getD i 0 ∧ (ckK l k).hd.getD i 0 ≤ 255 := by
 rcases Deep.open_slice Tryz.underlying24 h with ⟨hcs, _⟩ | ⟨a, len, cap, m, n, D, Pl, hcs, _, hl, hm, hmm, _, hx⟩
 ·simp at hcs
  subst hcs
  exact ⟨none, 0, [], rfl, .inl rfl, fun k hk => absurd hk (Nat.not_lt_zero _), by simp, fun k hk => absurd hk (Nat.not_lt_zero _)⟩
 ·simp at hcs
  subst hcs
  have hlm : len ≤ m := by rw [hmm]; split <;> omega
  have each : ∀ i, i < len → ∃ t : CK, W.cell? (a.add (i * 3)) = some (.int .i64 t.pl) ∧ W.cell? (a.add (i * 3 + 1)) = some (.int .i64 t.ct) ∧ (∃ q c, W.cell? (a.add (i * 3 + 2)) = some (.slice q t.hd.length c) ∧ BAt W q t.hd) ∧ (t.hd.length : Int) ≤ 9223372036854775807 ∧ ∀ i, i < t.hd.length → 0 ≤ t.hd.getD i 0 ∧ t.hd.getD i 0 ≤ 255 := by
   intro i hi
   obtain ⟨cs', h1, h2⟩ := hx i (by omega)
   rw [Tryz.cells76] at h1
   obtain ⟨_, hlen, hcell⟩ := World.cells?_some h1
   obtain ⟨xs, n', _, _, hl', hlen', hfs⟩ := DataW.trod_struct Tryz.underlying76 h2
   match cs', hlen with
   | [u0, u1, u2], _ =>
   match xs, hlen' with
   | [z0, z1, z2], _ =>
    have t0 := hfs 0 _ rfl
    have t1 := hfs 1 _ rfl
    have t2 := hfs 2 _ rfl
    simp [Tryz.cells2, Tryz.cells22] at t0 t1 t2
    obtain ⟨pl, e0, _, _⟩ := DataW.trod_int Tryz.underlying2 t0
    obtain ⟨ct, e1, _, _⟩ := DataW.trod_int Tryz.underlying2 t1
    obtain ⟨q, c, l, rfl, ha, hll, hbb⟩ := open_bytes t2
    simp at e0 e1
    subst e0 e1
    have q0 := hcell 0 (by omega)
    have q1 := hcell 1 (by omega)
    have q2 := hcell 2 (by omega)
    rw [Deep.add_add] at q0 q1 q2
    exact ⟨⟨pl, ct, l⟩, by simpa using q0, by simpa using q1, ⟨q, c, by simpa using q2, ha⟩, hll, hbb⟩
  obtain ⟨q, hq⟩ := @Deep.choose_lt CK ⟨⟨0, 0, []⟩⟩ _ _ each
  have hlen : ((List.range len).map q).length = len := by simp
  have hpc : ∀ k, k < len → ckK ((List.range len).map q) k = q k := fun k hk => by unfold ckK; simp [hk]
  unfold maxLen at hm
  refine ⟨some a, cap, (List.range len).map q, by rw [hlen], ?_, fun k hk => ?_, by rw [hlen]; omega, fun k hk => ?_⟩
  ·by_cases h0 : len = 0
   ·left; subst h0; simp
   ·right
    have c0 := (hq 0 (by omega)).1
    have e0 : a.add (0 * 3) = a := by unfold Addr.add; split <;> simp_all
    rw [e0] at c0
    obtain ⟨b, o, rfl⟩ := plain_addr c0
    refine ⟨b, o, rfl, cell_lt c0, fun k hk => ?_⟩
    rw [hlen] at hk
    obtain ⟨k0, k1, ⟨p, c, k3, k4⟩, _⟩ := hq k hk
    rw [Addr.add_mid] at k0 k1 k3
    rw [hpc k hk]
    exact ⟨k0, k1, p, c, k3, k4⟩
  ·rw [hlen] at hk
   rw [hpc k hk]
   exact (hq k hk).2.2.2.1
  ·rw [hlen] at hk
   rw [hpc k hk]
   exact (hq k hk).2.2.2.2

end Go.Proofs.YtmhihkdnhaadeaaGreatDoor

namespace Go.Proofs.YtmhihkdnhaadeaaGreatDoor
open Go.ChangeShapes Go.WideShapes Go.ChangeAt Go.RowKit Go.Deep
set_option maxRecDepth 100000
def VBZ (l : List AT) : Prop := ∀ k, k < l.length → ∀ i, i < (atK l k).vl.length → 0 ≤ (atK l k).vl.getD i 0 ∧ (atK l k).vl.getD i 0 ≤ 255
theorem open_attrsZ {H : Type} {enc : TypeId × Value → H} {W : World} {spare : Nat → Bool} {held : Bool} {fuel : Nat} {v : Value} {x : DataW H × List MemPlace} (h : DataW.trod enc Tryz.prog W 0 spare held fuel 72 [v] = some x) :
  ∃ a c l, v = .slice a l.length c ∧ AAt W a l ∧ (l.length : Int) ≤ 9223372036854775807 ∧ Wide l ∧ VBZ l := by
 rcases Deep.open_slice Tryz.underlying72 h with ⟨hcs, _⟩ | ⟨a, len, cap, m, n, D, Pl, hcs, _, hl, hm, hmm, _, hx⟩
 ·simp at hcs
  subst hcs
  exact ⟨none, 0, [], rfl, .inl rfl, by simp, fun k hk => absurd hk (Nat.not_lt_zero _), fun k hk => absurd hk (Nat.not_lt_zero _)⟩
 ·simp at hcs
  subst hcs
  have hlm : len ≤ m := by rw [hmm]; split <;> omega
  have each : ∀ i, i < len → ∃ p : AT, W.cell? (a.add (i * 2)) = some (.string p.nm) ∧ (∃ q c, W.cell? (a.add (i * 2 + 1)) = some (.slice q p.vl.length c) ∧ BAt W q p.vl) ∧ (p.nm.size : Int) ≤ 9223372036854775807 ∧ (p.vl.length : Int) ≤ 9223372036854775807 ∧ (∀ j, j < p.vl.length → 0 ≤ p.vl.getD j 0 ∧ p.vl.getD j 0 ≤ 255) := by
   intro i hi
   obtain ⟨cs', h1, h2⟩ := hx i (by omega)
   rw [Tryz.cells129] at h1
   obtain ⟨_, hlen, hcell⟩ := World.cells?_some h1
   obtain ⟨y0, y1, n', _, _, t0, t1⟩ := trod_struct2 Tryz.underlying129 h2
   match cs', hlen with
   | [u0, u1], _ =>
    simp [Tryz.cells9, Tryz.cells22] at t0 t1
    obtain ⟨s, e0, _, ws⟩ := DataW.trod_string Tryz.underlying9 t0
    obtain ⟨q, c, l, rfl, hb, hm2, hu⟩ := open_bytes t1
    simp at e0
    subst e0
    have q0 := hcell 0 (by omega)
    have q1 := hcell 1 (by omega)
    rw [Deep.add_add] at q0 q1
    exact ⟨⟨s, l⟩, by simpa using q0, ⟨q, c, by simpa using q1, hb⟩, by unfold maxLen at ws; show (s.size : Int) ≤ 9223372036854775807; omega, hm2, hu⟩
  obtain ⟨q, hq⟩ := @Deep.choose_lt AT ⟨⟨⟨#[]⟩, []⟩⟩ _ _ each
  have hlen : ((List.range len).map q).length = len := by simp
  have hpc : ∀ k, k < len → atK ((List.range len).map q) k = q k := fun k hk => by unfold atK; simp [hk]
  unfold maxLen at hm
  refine ⟨some a, cap, (List.range len).map q, by rw [hlen], ?_, by rw [hlen]; omega, fun k hk => ?_, fun k hk => ?_⟩
  ·by_cases h0 : len = 0
   ·left; subst h0; simp
   ·right
    have c0 := (hq 0 (by omega)).1
    have e0 : a.add (0 * 2) = a := by unfold Addr.add; split <;> simp_all
    rw [e0] at c0
    obtain ⟨b, o, rfl⟩ := plain_addr c0
    refine ⟨b, o, rfl, cell_lt c0, fun k hk => ?_⟩
    rw [hlen] at hk
    obtain ⟨k0, ⟨p, c, k1, k2⟩, _⟩ := hq k hk
    rw [Addr.add_mid] at k0 k1
    rw [hpc k hk]
    exact ⟨k0, p, c, k1, k2⟩
  ·rw [hlen] at hk
   rw [hpc k hk]
   exact ⟨(hq k hk).2.2.1, (hq k hk).2.2.2.1⟩
  ·rw [hlen] at hk
   rw [hpc k hk]
   exact (hq k hk).2.2.2.2
theorem open_tokensZ {H : Type} {enc : TypeId × Value → H} {W : World} {spare : Nat → Bool} {held : Bool} {fuel : Nat} {v : Value} {x : DataW H × List MemPlace} (h : DataW.trod enc Tryz.prog W 0 spare held fuel 23 [v] = some x) :
  ∃ a c l, v = .slice a l.length c ∧ TsAt W a l ∧ WideT l ∧ (l.length : Int) ≤ 9223372036854775807 ∧ ∀ i, i < l.length → VBZ (tkK l i).at_ := by
 rcases Deep.open_slice Tryz.underlying23 h with ⟨hcs, _⟩ | ⟨a, len, cap, m, n, D, Pl, hcs, _, hl, hm, hmm, _, hx⟩
 ·simp at hcs
  subst hcs
  exact ⟨none, 0, [], rfl, .inl rfl, fun k hk => absurd hk (Nat.not_lt_zero _), by simp, fun k hk => absurd hk (Nat.not_lt_zero _)⟩
 ·simp at hcs
  subst hcs
  have hlm : len ≤ m := by rw [hmm]; split <;> omega
  have each : ∀ i, i < len → ∃ t : TK, W.cell? (a.add (i * 5)) = some (.int .i64 t.kd) ∧ W.cell? (a.add (i * 5 + 1)) = some (.int .i64 t.by_) ∧ W.cell? (a.add (i * 5 + 2)) = some (.string t.nm) ∧ (∃ q c, W.cell? (a.add (i * 5 + 3)) = some (.slice q t.at_.length c) ∧ AAt W q t.at_) ∧ W.cell? (a.add (i * 5 + 4)) = some (.bool t.sh) ∧ Wide t.at_ ∧ (t.nm.size : Int) ≤ 9223372036854775807 ∧ (t.at_.length : Int) ≤ 9223372036854775807 ∧ VBZ t.at_ := by
   intro i hi
   obtain ⟨cs', h1, h2⟩ := hx i (by omega)
   rw [Tryz.cells74] at h1
   obtain ⟨_, hlen, hcell⟩ := World.cells?_some h1
   obtain ⟨xs, n', _, _, hl', hlen', hfs⟩ := DataW.trod_struct Tryz.underlying74 h2
   match cs', hlen with
   | [u0, u1, u2, u3, u4], _ =>
   match xs, hlen' with
   | [z0, z1, z2, z3, z4], _ =>
    have t0 := hfs 0 _ rfl
    have t1 := hfs 1 _ rfl
    have t2 := hfs 2 _ rfl
    have t3 := hfs 3 _ rfl
    have t4 := hfs 4 _ rfl
    simp [Tryz.cells2, Tryz.cells9, Tryz.cells4, Tryz.cells72] at t0 t1 t2 t3 t4
    obtain ⟨kd, e0, _, _⟩ := DataW.trod_int Tryz.underlying2 t0
    obtain ⟨by_, e1, _, _⟩ := DataW.trod_int Tryz.underlying2 t1
    obtain ⟨nm, e2, _, ws⟩ := DataW.trod_string Tryz.underlying9 t2
    obtain ⟨q, c, l, rfl, ha, hll, hw, hvb⟩ := open_attrsZ t3
    obtain ⟨sh, e4, _⟩ := DataW.trod_bool Tryz.underlying4 t4
    simp at e0 e1 e2 e4
    subst e0 e1 e2 e4
    have q0 := hcell 0 (by omega)
    have q1 := hcell 1 (by omega)
    have q2 := hcell 2 (by omega)
    have q3 := hcell 3 (by omega)
    have q4 := hcell 4 (by omega)
    rw [Deep.add_add] at q0 q1 q2 q3 q4
    exact ⟨⟨kd, by_, nm, l, sh⟩, by simpa using q0, by simpa using q1, by simpa using q2, ⟨q, c, by simpa using q3, ha⟩, by simpa using q4, hw, by unfold maxLen at ws; show (nm.size : Int) ≤ 9223372036854775807; omega, hll, hvb⟩
  obtain ⟨q, hq⟩ := @Deep.choose_lt TK ⟨⟨0, 0, ⟨#[]⟩, [], false⟩⟩ _ _ each
  have hlen : ((List.range len).map q).length = len := by simp
  have hpc : ∀ k, k < len → tkK ((List.range len).map q) k = q k := fun k hk => by unfold tkK; simp [hk]
  unfold maxLen at hm
  refine ⟨some a, cap, (List.range len).map q, by rw [hlen], ?_, fun k hk => ?_, by rw [hlen]; omega, fun k hk => ?_⟩
  ·by_cases h0 : len = 0
   ·left; subst h0; simp
   ·right
    have c0 := (hq 0 (by omega)).1
    have e0 : a.add (0 * 5) = a := by unfold Addr.add; split <;> simp_all
    rw [e0] at c0
    obtain ⟨b, o, rfl⟩ := plain_addr c0
    refine ⟨b, o, rfl, cell_lt c0, fun k hk => ?_⟩
    rw [hlen] at hk
    obtain ⟨k0, k1, k2, ⟨p, c, k3, k4⟩, k5, _⟩ := hq k hk
    rw [Addr.add_mid] at k0 k1 k2 k3 k5
    rw [hpc k hk]
    exact ⟨k0, k1, k2, ⟨p, c, k3, k4⟩, k5⟩
  ·rw [hlen] at hk
   rw [hpc k hk]
   exact ⟨(hq k hk).2.2.2.2.2.1, (hq k hk).2.2.2.2.2.2.1, (hq k hk).2.2.2.2.2.2.2.1⟩
  ·rw [hlen] at hk
   rw [hpc k hk]
   exact (hq k hk).2.2.2.2.2.2.2.2
theorem open_memoZ {H : Type} {enc : TypeId × Value → H} {W : World} {base : Nat} {spare : Nat → Bool} {held : Bool} {v : Value} {d : DataW H} {p : List MemPlace}
  (hv : Value.okWide Tryz.prog W .any base 26 v) (h : DataW.Trod enc Tryz.prog W 0 spare held 26 v d p) :
  ∃ m a t u c ca ct cu cc, v = .agg #[.slice a m.dt.length ca, .int .i64 m.st, .slice t m.tk.length ct, .slice u m.hd.length cu, .slice c m.cs.length cc] ∧ MAt W a t u c m ∧ WideM m ∧ (∀ k, k < m.dt.length → 0 ≤ m.dt.getD k 0 ∧ m.dt.getD k 0 ≤ 255) ∧ (∀ k, k < m.hd.length → 0 ≤ m.hd.getD k 0 ∧ m.hd.getD k 0 ≤ 255) ∧ (∀ k, k < m.cs.length → ∀ i, i < (ckK m.cs k).hd.length → 0 ≤ (ckK m.cs k).hd.getD i 0 ∧ (ckK m.cs k).hd.getD i 0 ≤ 255) ∧ (∀ i, i < m.tk.length → VBZ (tkK m.tk i).at_) ∧ -9223372036854775808 ≤ m.st ∧ m.st ≤ 9223372036854775807 := by
 obtain ⟨cs, rfl, hsz⟩ := okWide_struct Tryz.underlying26 hv
 obtain ⟨fuel, hf⟩ := h
 obtain ⟨xs, n, _, _, hl, hlen, hall⟩ := DataW.trod_struct Tryz.underlying26 hf
 have h0 := hall 0 _ rfl
 have h1 := hall 1 _ rfl
 have h2 := hall 2 _ rfl
 have h3 := hall 3 _ rfl
 have h4 := hall 4 _ rfl
 rw [Tryz.cells26] at hsz
 obtain ⟨l⟩ := cs
 match l, hsz, xs, hlen with
 | [c0, c1, c2, c3, c4], _, [y0, y1, y2, y3, y4], _ =>
  simp [Tryz.cells23, Tryz.cells24, Tryz.cells2, Tryz.cells22, Value.cells] at h0 h1 h2 h3 h4
  obtain ⟨a, ca, dt, rfl, ba, na, ua⟩ := open_bytes h0
  obtain ⟨st, e1, _, wf⟩ := DataW.trod_int Tryz.underlying2 h1
  obtain ⟨t, ct, tk, rfl, bt, wt, nt, zt⟩ := open_tokensZ h2
  obtain ⟨u, cu, hd, rfl, bu, nu, uu⟩ := open_bytes h3
  obtain ⟨c, cc, cs, rfl, bc, wc, nc, xc⟩ := open_checksB h4
  simp at e1
  subst e1
  have bd := bounds_i64 wf
  exact ⟨⟨dt, st, tk, hd, cs⟩, a, t, u, c, ca, ct, cu, cc, rfl, ⟨ba, bt, bu, bc⟩, ⟨na, wt, nt, nu, wc, nc⟩, ua, uu, xc, zt, bd.1, bd.2⟩

end Go.Proofs.YtmhihkdnhaadeaaGreatDoor
