/- Exact marks of patches; patches as an answer has them. -/
import Derived.Test.YtjkmidmgaaclfaaXpl
import Derived.Test.YtjkmidmgaaclfaaWk
namespace Go.Proofs.Ytjkmidmgaaclfaa
open Go.RowKit
set_option linter.unusedVariables false
set_option linter.unusedSimpArgs false

/-- Of the blocks that are there those of which p speaks are as they were. -/
structure Kp (p : Nat → Prop) (w w' : World) : Prop where
  os : w'.os = w.os
  tape : w'.tape = w.tape
  output : w'.output = w.output
  size : w.heap.size ≤ w'.heap.size
  block : ∀ k, k < w.heap.size → p k → w'.heap[k]? = w.heap[k]?

theorem Kp.refl (p : Nat → Prop) (w : World) : Kp p w w := ⟨rfl, rfl, rfl, Nat.le_refl _, fun _ _ _ => rfl⟩
theorem Kp.trans {p : Nat → Prop} {a b c : World} (h : Kp p a b) (k : Kp p b c) : Kp p a c :=
  ⟨k.os.trans h.os, k.tape.trans h.tape, k.output.trans h.output, Nat.le_trans h.size k.size, fun i hi hp => (k.block i (Nat.lt_of_lt_of_le hi h.size) hp).trans (h.block i hi hp)⟩
theorem Kp.mono {p q : Nat → Prop} {a b : World} (h : Kp p a b) (hq : ∀ k, q k → p k) : Kp q a b := ⟨h.os, h.tape, h.output, h.size, fun k hk e => h.block k hk (hq k e)⟩
theorem Kp.of_below {p : Nat → Prop} {a b : World} (h : Below a.heap.size a b) : Kp p a b := ⟨h.os, h.tape, h.output, h.size, fun k hk _ => h.block k hk⟩
theorem Kp.of_kept {p : Nat → Prop} {lo hi : Nat} {a b : World} (h : KeptIn lo hi a b) (hp : ∀ k, p k → k < lo ∨ hi ≤ k) : Kp p a b := ⟨h.os, h.tape, h.output, h.size, fun k hk e => h.block k hk (hp k e)⟩
theorem Kp.of_turned {p : Nat → Prop} {v : Value} {a b : World} (h : Turned v a b) (hp : ∀ k, p k → v.ownBlock ≠ some k) : Kp p a b := ⟨h.os, h.tape, h.output, h.size, fun k hk e => h.block k hk (hp k e)⟩
theorem Kp.of_grown {p : Nat → Prop} {r : Option Nat} {a b : World} (h : a.grownBy b r) (hp : ∀ k, p k → some k ≠ r) : Kp p a b := ⟨h.os, h.tape, h.output, h.size, fun k hk e => h.block k hk (hp k e)⟩
theorem Kp.setCell {p : Nat → Prop} {a w : World} (h : Kp p a w) {q : Addr} (hq : ¬ p q.block) (u : Value) : Kp p a (w.setCell q u) :=
  h.trans ⟨rfl, rfl, rfl, by simp [World.setCell], fun k hk e => Below.heap_setCell _ _ _ _ (fun e' => hq (e' ▸ e))⟩
theorem Kp.alloc {p : Nat → Prop} {a w : World} (h : Kp p a w) (o : Obj) : Kp p a (w.alloc o) := h.trans (Kp.of_below (below_new w o))
theorem Kp.keptIn {p : Nat → Prop} {lo hi : Nat} {a b : World} (h : Kp p a b) (hp : ∀ k, k < lo ∨ hi ≤ k → p k) : KeptIn lo hi a b := ⟨h.os, h.tape, h.output, h.size, fun k hk e => h.block k hk (hp k e)⟩

/-- Where the marks of the k-th patch begin. -/
def xkZ (z : Nat) (l : List XK) (k : Nat) : Nat := z + 2 * k + xsz (l.take k)

/-- Patches, marked from z on. -/
def mkX (z : Nat) (l : List XK) : List XK := (List.range l.length).map (fun k => ⟨(xkZ z l k : Int), (xkZ z l k : Int) + 1, mb (xkZ z l k + 1 + 1) (xkK l k).hd.length⟩)

theorem mkX_len (z : Nat) (l : List XK) : (mkX z l).length = l.length := by simp [mkX]
theorem mkX_at (z : Nat) (l : List XK) (k : Nat) (h : k < l.length) : xkK (mkX z l) k = ⟨(xkZ z l k : Int), (xkZ z l k : Int) + 1, mb (xkZ z l k + 1 + 1) (xkK l k).hd.length⟩ := by
  show (mkX z l).getD k ⟨0, 0, []⟩ = _
  unfold mkX
  simp [h]
theorem xkZ_zero (z : Nat) (l : List XK) : xkZ z l 0 = z := by simp [xkZ, xsz]
theorem xkZ_succ (z : Nat) (l : List XK) (k : Nat) (h : k < l.length) : xkZ z l (k + 1) = xkZ z l k + 1 + 1 + (xkK l k).hd.length := by
  unfold xkZ; rw [xsz_take l k h]; omega
theorem xkZ_le (z : Nat) (l : List XK) (k : Nat) (h : k ≤ l.length) : xkZ z l k ≤ z + 2 * l.length + xsz l := by
  have := xsz_le l k
  unfold xkZ; omega
theorem xkZ_all (z : Nat) (l : List XK) : xkZ z l l.length = z + 2 * l.length + xsz l := by unfold xkZ; rw [List.take_length]

/-- The i-th cell of patches in a row. -/
def xvF (l : List XK) (hvs : Nat → Value) (i : Nat) : Value := if i % 3 = 0 then .int .i64 (xkK l (i / 3)).pl else if i % 3 = 1 then .int .i64 (xkK l (i / 3)).ct else hvs (i / 3)

/-- The cells when k patches are marked. -/
def xvH (z : Nat) (l : List XK) (hvs : Nat → Value) (k i : Nat) : Value := if i / 3 < k then xvF (mkX z l) hvs i else xvF l hvs i

theorem xvF0 (l : List XK) (hvs : Nat → Value) (k : Nat) : xvF l hvs (k * 3) = .int .i64 (xkK l k).pl := by unfold xvF; rw [if_pos (by omega), show k * 3 / 3 = k by omega]
theorem xvF1 (l : List XK) (hvs : Nat → Value) (k : Nat) : xvF l hvs (k * 3 + 1) = .int .i64 (xkK l k).ct := by unfold xvF; rw [if_neg (by omega), if_pos (by omega), show (k * 3 + 1) / 3 = k by omega]
theorem xvF2 (l : List XK) (hvs : Nat → Value) (k : Nat) : xvF l hvs (k * 3 + 2) = hvs k := by unfold xvF; rw [if_neg (by omega), if_neg (by omega), show (k * 3 + 2) / 3 = k by omega]

theorem xvH_step {w : World} {g n : Nat} {T : TypeId} {z : Nat} {l : List XK} {hvs : Nat → Value} {k : Nat} (hk : k < l.length) (h : w.rowIs g T n (xvH z l hvs k)) :
    ((w.setCell ⟨g, k * 3, none⟩ (.int .i64 (xkZ z l k : Int))).setCell ⟨g, k * 3 + 1, none⟩ (.int .i64 ((xkZ z l k : Int) + 1))).rowIs g T n (xvH z l hvs (k + 1)) :=
  ((h.set (k * 3) _).set (k * 3 + 1) _).congr (fun j _ => by
    have m := mkX_at z l k hk
    by_cases e1 : j = k * 3 + 1
    · rw [if_pos e1]; subst e1; unfold xvH; rw [if_pos (by omega), xvF1, m]
    rw [if_neg e1]
    by_cases e0 : j = k * 3
    · rw [if_pos e0]; subst e0; unfold xvH; rw [if_pos (by omega), xvF0, m]
    rw [if_neg e0]
    unfold xvH
    by_cases c : j / 3 < k
    · rw [if_pos c, if_pos (by omega)]
    · rw [if_neg c]
      by_cases c2 : j / 3 < k + 1
      · rw [if_pos c2]
        have : j = k * 3 + 2 := by omega
        subst this
        rw [xvF2, xvF2]
      · rw [if_neg c2])

set_option maxRecDepth 100000 in
set_option maxHeartbeats 3200000 in
theorem markPatchS_is (g c z : Nat) (l : List XK) (hvs : Nat → Value) (w : World) (hr : w.rowIs g 54 (l.length * 3) (xvF l hvs)) (ho : ∀ k, k < l.length → OB w (hvs k) (xkK l k).hd) (hap : ∀ i k, i < l.length → k < l.length → i ≠ k → Ap (hvs i) (hvs k)) (hg : ∀ k, k < l.length → (hvs k).ownBlock ≠ some g) (hz : 0 < z) (hz2 : (z : Int) + 2 * l.length + xsz l ≤ 50000000) :
    Calls Try.prog 24 #[.slice (some ⟨g, 0, none⟩) l.length c, .int .i64 (z : Int)] w fun e w' => e = .returned (.int .i64 ((z + 2 * l.length + xsz l : Nat) : Int)) ∧ w'.rowIs g 54 (l.length * 3) (xvF (mkX z l) hvs) ∧ (∀ k, k < l.length → OB w' (hvs k) (xkK (mkX z l) k).hd) ∧ Kp (fun q => q ≠ g ∧ ∀ k, k < l.length → (hvs k).ownBlock ≠ some q) w w' := by
  have HR := Hid.mk' hr
  have HO := Hid.mk' ho
  have HAP := Hid.mk' hap
  have HG := Hid.mk' hg
  clear hr ho hap hg
  go_enter Try.func24, Try.ntmps24
  go_wp2
  go_loopw [1, 5] (fun x i wr => ∃ k : Nat, k ≤ l.length ∧ i = .int .i64 k ∧ x = .int .i64 (xkZ z l k : Int) ∧ wr.rowIs g 54 (l.length * 3) (xvH z l hvs k) ∧ (∀ i, i < k → OB wr (hvs i) (xkK (mkX z l) i).hd) ∧ (∀ i, k ≤ i → i < l.length → OB wr (hvs i) (xkK l i).hd) ∧ Kp (fun q => q ≠ g ∧ ∀ k, k < l.length → (hvs k).ownBlock ≠ some q) w wr) (fun _ i _ => l.length - (intOf i).toNat)
  case atStart => exact ⟨0, Nat.zero_le _, rfl, by rw [xkZ_zero], HR.out.congr (fun i _ => by unfold xvH; rw [if_neg (by omega)]), fun i h => absurd h (Nat.not_lt_zero _), fun i _ h => HO.out i h, Kp.refl _ _⟩
  case round =>
    obtain ⟨k, hk, rfl, rfl, hrow, hm, hn, hkp⟩ := hrel
    by_cases hlt : k < l.length
    · have ci : (k : Int) < (l.length : Int) := by omega
      have sl := xkZ_le z l (k + 1) hlt
      have ss := xkZ_succ z l k hlt
      have r1 := xvH_step hlt hrow
      obtain ⟨Z, hZ⟩ : ∃ Z, xkZ z l k = Z := ⟨_, rfl⟩
      rw [hZ] at r1 ss ⊢
      have ok := hn k (Nat.le_refl _) hlt
      obtain ⟨pa, pc, ev, -⟩ := ok.len
      have f0 := hrow.frozen (k * 3)
      have f1 := hrow.frozen (k * 3 + 1)
      obtain ⟨v0, g0⟩ : ∃ v, wr.cell? ⟨g, k * 3, none⟩ = some v := ⟨_, hrow.cell (by omega)⟩
      obtain ⟨v1, g1⟩ : ∃ v, wr.cell? ⟨g, k * 3 + 1, none⟩ = some v := ⟨_, hrow.cell (by omega)⟩
      have ne : (hvs k).ownBlock ≠ some g := HG.out k hlt
      have q1 : Kp (fun q => q ≠ g) wr ((wr.setCell ⟨g, k * 3, none⟩ (.int .i64 (Z : Int))).setCell ⟨g, k * 3 + 1, none⟩ (.int .i64 ((Z : Int) + 1))) := ((Kp.refl _ wr).setCell (q := ⟨g, k * 3, none⟩) (by simp) _).setCell (q := ⟨g, k * 3 + 1, none⟩) (by simp) _
      have ok1 := ok.keep (w' := (wr.setCell ⟨g, k * 3, none⟩ (.int .i64 (Z : Int))).setCell ⟨g, k * 3 + 1, none⟩ (.int .i64 ((Z : Int) + 1))) (fun q e h => q1.block q h (fun e' => ne (by rw [e, e'])))
      have c2 : ((wr.setCell ⟨g, k * 3, none⟩ (.int .i64 (Z : Int))).setCell ⟨g, k * 3 + 1, none⟩ (.int .i64 ((Z : Int) + 1))).cell? ⟨g, k * 3 + 2, none⟩ = some (.slice pa (xkK l k).hd.length pc) := by
        rw [r1.cell (by omega)]
        unfold xvH
        rw [if_pos (by omega), xvF2, ev]
      have lg := r1.lt
      have KA := markByteS_own (Z + 1 + 1) (hvs k) (xkK l k).hd _ ok1 (by omega)
      rw [ev] at KA
      have KA := Hid.mk' KA
      have R1 := Hid.mk' r1
      have Q1 := Hid.mk' q1
      have HM := Hid.mk' hm
      have HN := Hid.mk' hn
      have HK := Hid.mk' hkp
      have EV := Hid.mk' ev
      have hw1 : IntKind.i64.wrap ((Z : Int) + 1) = (Z : Int) + 1 := by rw [IntKind.wrap_i64]; omega
      have hw2 : IntKind.i64.wrap ((Z : Int) + 1 + 1) = (Z : Int) + 1 + 1 := by rw [IntKind.wrap_i64]; omega
      have NE := Hid.mk' ne
      have SS := Hid.mk' ss
      clear r1 ok ok1 hrow hm hn hkp q1 ev ne ss sl
      generalize hV2 : (wr.setCell ⟨g, k * 3, none⟩ (.int .i64 (Z : Int))).setCell ⟨g, k * 3 + 1, none⟩ (.int .i64 ((Z : Int) + 1)) = V2 at *
      go_wp2_with fail
      clear hV2
      refine KA.out.mono ?_
      rintro e w2 ⟨rfl, ob2, tu2⟩
      have T2 := Hid.mk' tu2
      have O2 := Hid.mk' ob2
      clear KA ob2 tu2 c2 g0 g1 f0 f1
      go_wp2
      go_roundw
      case rel =>
        have t2 := T2.out
        rw [← EV.out] at t2
        have nk : ∀ i, i < l.length → i ≠ k → ∀ q, (hvs i).ownBlock = some q → q < wr.heap.size → w2.heap[q]? = wr.heap[q]? := fun i hi hne q e h =>
          (t2.block q (Nat.lt_of_lt_of_le h Q1.out.size) (fun e' => HAP.out i k hi hlt hne q e e')).trans (Q1.out.block q h (fun e' => HG.out i hi (by rw [e, e'])))
        refine ⟨k + 1, by omega, by go_num, by rw [SS.out]; congr 1, ?_, fun i hi => ?_, fun i h1 h2 => (HN.out i (by omega) h2).keep (nk i h2 (by omega)), ?_⟩
        · exact R1.out.of_block (t2.block g R1.out.lt NE.out)
        · by_cases e : i = k
          · subst e
            rw [mkX_at z l i hlt, hZ]
            have := O2.out
            rw [← EV.out] at this
            exact this
          · exact (HM.out i (by omega)).keep (nk i (by omega) e)
        · exact HK.out.trans ⟨t2.os.trans Q1.out.os, t2.tape.trans Q1.out.tape, t2.output.trans Q1.out.output, Nat.le_trans Q1.out.size t2.size, fun q h hp => (t2.block q (Nat.lt_of_lt_of_le h Q1.out.size) (hp.2 k hlt)).trans (Q1.out.block q h hp.1)⟩
      case measure => simp [intOf]; omega
    · have ci : ¬ (k : Int) < (l.length : Int) := by omega
      have e : k = l.length := by omega
      subst e
      have R1 := Hid.mk' hrow
      have HM := Hid.mk' hm
      have HK := Hid.mk' hkp
      clear hrow hm hn hkp
      go_wp2
      go_ret
      exact ⟨by rw [xkZ_all]; rfl, R1.out.congr (fun i hi => by unfold xvH; rw [if_pos (by omega)]), HM.out, HK.out⟩

set_option maxRecDepth 100000 in
set_option maxHeartbeats 3200000 in
theorem heldPatchS_is (z : Nat) (a : Option Addr) (c : Nat) (l : List XK) (w : World) (ha : XsAt w a (mkX z l)) (hz : 0 < z) (hz2 : (z : Int) + 2 * l.length + xsz l ≤ 50000000) :
    Calls Try.prog 41 #[.slice a l.length c, .int .i64 (z : Int)] w fun e w' => e = .returned (.int .i64 ((z + 2 * l.length + xsz l : Nat) : Int)) ∧ Below w.heap.size w w' := by
  have HA := Hid.mk' ha
  clear ha
  go_enter Try.func41, Try.ntmps41
  go_wp2
  go_loopw [1, 5] (fun x i wr => ∃ k : Nat, k ≤ l.length ∧ i = .int .i64 k ∧ x = .int .i64 (xkZ z l k : Int) ∧ Below w.heap.size w wr) (fun _ i _ => l.length - (intOf i).toNat)
  case atStart => exact ⟨0, Nat.zero_le _, rfl, by rw [xkZ_zero], Below.refl _ _⟩
  case round =>
    obtain ⟨k, hk, rfl, rfl, hbl⟩ := hrel
    have HB := Hid.mk' hbl
    by_cases hlt : k < l.length
    · have ci : (k : Int) < (l.length : Int) := by omega
      have sl := xkZ_le z l (k + 1) hlt
      have ss := xkZ_succ z l k hlt
      rcases HA.out.below hbl with h0 | ⟨b1, o1, rfl, s1, hc1⟩
      · have := mkX_len z l; rw [h0] at this; simp at this; omega
      obtain ⟨h1, h2, p1, d1, h4, h5⟩ := hc1 k (by rw [mkX_len]; exact hlt)
      rw [mkX_at z l k hlt] at h1 h2 h4 h5
      obtain ⟨q, hq⟩ : ∃ q : Nat, xkZ z l k = q := ⟨_, rfl⟩
      rw [hq] at h1 h2 h4 h5 ss ⊢
      replace h1 : wr.cell? ⟨b1, o1 + k * 3, none⟩ = some (.int .i64 (q : Int)) := h1
      replace h2 : wr.cell? ⟨b1, o1 + k * 3 + 1, none⟩ = some (.int .i64 ((q : Int) + 1)) := h2
      replace h4 : wr.cell? ⟨b1, o1 + k * 3 + 2, none⟩ = some (.slice p1 (xkK l k).hd.length d1) := by
        have e : (mb (q + 1 + 1) (xkK l k).hd.length).length = (xkK l k).hd.length := mb_len _ _
        rw [← e]; exact h4
      have KB := Hid.mk' (heldByteS_any p1 d1 (xkK l k).hd.length (q + 1 + 1) wr h5 (by omega))
      have SS := Hid.mk' ss
      have hw1 : IntKind.i64.wrap ((q : Int) + 1) = (q : Int) + 1 := by rw [IntKind.wrap_i64]; omega
      have hw2 : IntKind.i64.wrap ((q : Int) + 1 + 1) = (q : Int) + 1 + 1 := by rw [IntKind.wrap_i64]; omega
      have zz : ¬ ((q : Int) + 1 + 1 + ((xkK l k).hd.length : Int) < 0) := by omega
      clear hbl hc1 h5 sl ss hq
      go_wp2_with fail
      refine KB.out.mono ?_
      rintro e w1 ⟨rfl, hb1⟩
      have B1 := Hid.mk' (HB.out.trans (hb1.mono HB.out.size))
      clear hb1 KB
      go_wp2
      go_roundw
      case rel => exact ⟨k + 1, by omega, by go_num, by rw [SS.out]; congr 1, B1.out⟩
      case measure => simp [intOf]; omega
    · have ci : ¬ (k : Int) < (l.length : Int) := by omega
      have e : k = l.length := by omega
      subst e
      go_wp2
      go_ret
      exact ⟨by rw [xkZ_all]; rfl, HB.out⟩

/-- Patches of an answer: a row of its own, each Put in its own memory. -/
def PO (lo hi : Nat) (w : World) (v : Value) (l : List XK) : Prop := ∃ a c, v = .slice a l.length c ∧ (l = [] ∨ ∃ (g : Nat) (hvs : Nat → Value), a = some ⟨g, 0, none⟩ ∧ lo ≤ g ∧ g < hi ∧ w.rowIs g 54 (l.length * 3) (xvF l hvs) ∧ (∀ k, k < l.length → OB w (hvs k) (xkK l k).hd) ∧ (∀ i k, i < l.length → k < l.length → i ≠ k → Ap (hvs i) (hvs k)) ∧ (∀ k, k < l.length → (hvs k).ownBlock ≠ some g) ∧ ∀ k, k < l.length → In lo hi (hvs k))

theorem PO.at {lo hi : Nat} {w : World} {v : Value} {l : List XK} (h : PO lo hi w v l) : ∃ a c, v = .slice a l.length c ∧ XsAt w a l := by
  obtain ⟨a, c, e, h⟩ := h
  refine ⟨a, c, e, ?_⟩
  rcases h with h | ⟨g, hvs, ea, _, _, hr, ho, _, _, _⟩
  · exact .inl h
  · refine .inr ⟨g, 0, ea, hr.lt, fun k hk => ?_⟩
    obtain ⟨pa, pc, ev, hb⟩ := (ho k hk).len
    simp only [Nat.zero_add]
    refine ⟨(hr.cell (by omega)).trans (congrArg some (xvF0 l hvs k)), (hr.cell (by omega)).trans (congrArg some (xvF1 l hvs k)), pa, pc, ?_, hb⟩
    rw [hr.cell (by omega), xvF2, ev]

theorem PO.below {lo hi : Nat} {w w' : World} {v : Value} {l : List XK} (h : PO lo hi w v l) (hb : Below w.heap.size w w') : PO lo hi w' v l := by
  obtain ⟨a, c, e, h⟩ := h
  refine ⟨a, c, e, ?_⟩
  rcases h with h | ⟨g, hvs, ea, h1, h2, hr, ho, hap, hg, hin⟩
  · exact .inl h
  · exact .inr ⟨g, hvs, ea, h1, h2, rowB hr hb, fun k hk => (ho k hk).below hb, hap, hg, hin⟩

theorem PO.kept {lo hi a b : Nat} {w w' : World} {v : Value} {l : List XK} (h : PO lo hi w v l) (hk : KeptIn a b w w') (hd : b ≤ lo ∨ hi ≤ a) : PO lo hi w' v l := by
  obtain ⟨x, c, e, h⟩ := h
  refine ⟨x, c, e, ?_⟩
  rcases h with h | ⟨g, hvs, ea, h1, h2, hr, ho, hap, hg, hin⟩
  · exact .inl h
  · exact .inr ⟨g, hvs, ea, h1, h2, rowK hr hk (by omega), fun k hq => (ho k hq).kept (hin k hq) hk (by omega), hap, hg, hin⟩

set_option maxHeartbeats 800000 in
theorem markPO_any {lo hi z : Nat} {w : World} {v : Value} {l : List XK} (h : PO lo hi w v l) (hz : 0 < z) (hz2 : (z : Int) + 2 * l.length + xsz l ≤ 50000000) :
    Calls Try.prog 24 #[v, .int .i64 (z : Int)] w fun e w' => e = .returned (.int .i64 ((z + 2 * l.length + xsz l : Nat) : Int)) ∧ PO lo hi w' v (mkX z l) ∧ KeptIn lo hi w w' := by
  obtain ⟨a, c, rfl, h⟩ := h
  rcases h with rfl | ⟨g, hvs, rfl, h1, h2, hr, ho, hap, hg, hin⟩
  · have E : Hid (z + 2 * ([] : List XK).length + xsz [] = z) := Hid.mk' (by simp [xsz])
    rw [E.out]
    go_enter Try.func24, Try.ntmps24
    go_wp2
    go_loopw [1, 5] (fun x i wr => x = .int .i64 (z : Int) ∧ i = .int .i64 0 ∧ wr = w) (fun _ _ _ => 0)
    case atStart => exact ⟨rfl, rfl, rfl⟩
    case round =>
      obtain ⟨rfl, rfl, hw⟩ := hrel
      obtain rfl := hw.symm
      go_wp2
      go_ret
      exact ⟨rfl, ⟨a, c, rfl, .inl rfl⟩, KeptIn.refl _ _ _⟩
  · refine (markPatchS_is g c z l hvs w hr ho hap hg hz hz2).mono ?_
    rintro e w' ⟨rfl, hr', ho', hk⟩
    have hl := mkX_len z l
    refine ⟨rfl, ⟨some ⟨g, 0, none⟩, c, by rw [hl], .inr ⟨g, hvs, rfl, h1, h2, by rw [hl]; exact hr', by rw [hl]; exact ho', by rw [hl]; exact hap, by rw [hl]; exact hg, by rw [hl]; exact hin⟩⟩, ?_⟩
    exact hk.keptIn (fun q hq => ⟨by omega, fun k hk e => by have := hin k hk q e; omega⟩)

end Go.Proofs.Ytjkmidmgaaclfaa
