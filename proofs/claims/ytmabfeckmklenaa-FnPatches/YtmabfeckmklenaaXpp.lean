/- Exact marks of patches; patches as an answer has them. -/
import Derived.Test.YtmabfeckmklenaaXpl
import Derived.Test.YtmabfeckmklenaaWk
namespace Go.Proofs.Ytmabfeckmklenaa
open Go.RowKit
set_option linter.unusedVariables false
set_option linter.unusedSimpArgs false

/-- Of the blocks that are there those of which p speaks are as they were. -/
structure Kp (p : Nat → Prop) (w w' : World) : Prop where
  os : w'.os = w.os
  tape : w'.tape = w.tape
  output : w'.output = w.output
  size : w.heap.size ≤ w'.heap.size
  block : ∀ k, k < w.heap.size → p k → w'.heap[k]? = w.heap[k]?

theorem Kp.refl (p : Nat → Prop) (w : World) : Kp p w w := ⟨rfl, rfl, rfl, Nat.le_refl _, fun _ _ _ => rfl⟩
theorem Kp.trans {p : Nat → Prop} {a b c : World} (h : Kp p a b) (k : Kp p b c) : Kp p a c :=
  ⟨k.os.trans h.os, k.tape.trans h.tape, k.output.trans h.output, Nat.le_trans h.size k.size, fun i hi hp => (k.block i (Nat.lt_of_lt_of_le hi h.size) hp).trans (h.block i hi hp)⟩
theorem Kp.mono {p q : Nat → Prop} {a b : World} (h : Kp p a b) (hq : ∀ k, q k → p k) : Kp q a b := ⟨h.os, h.tape, h.output, h.size, fun k hk e => h.block k hk (hq k e)⟩
theorem Kp.of_below {p : Nat → Prop} {a b : World} (h : Below a.heap.size a b) : Kp p a b := ⟨h.os, h.tape, h.output, h.size, fun k hk _ => h.block k hk⟩
theorem Kp.of_kept {p : Nat → Prop} {lo hi : Nat} {a b : World} (h : KeptIn lo hi a b) (hp : ∀ k, p k → k < lo ∨ hi ≤ k) : Kp p a b := ⟨h.os, h.tape, h.output, h.size, fun k hk e => h.block k hk (hp k e)⟩
theorem Kp.of_turned {p : Nat → Prop} {v : Value} {a b : World} (h : Turned v a b) (hp : ∀ k, p k → v.ownBlock ≠ some k) : Kp p a b := ⟨h.os, h.tape, h.output, h.size, fun k hk e => h.block k hk (hp k e)⟩
theorem Kp.of_grown {p : Nat → Prop} {r : Option Nat} {a b : World} (h : a.grownBy b r) (hp : ∀ k, p k → some k ≠ r) : Kp p a b := ⟨h.os, h.tape, h.output, h.size, fun k hk e => h.block k hk (hp k e)⟩
theorem Kp.setCell {p : Nat → Prop} {a w : World} (h : Kp p a w) {q : Addr} (hq : ¬ p q.block) (u : Value) : Kp p a (w.setCell q u) :=
  h.trans ⟨rfl, rfl, rfl, by simp [World.setCell], fun k hk e => Below.heap_setCell _ _ _ _ (fun e' => hq (e' ▸ e))⟩
theorem Kp.alloc {p : Nat → Prop} {a w : World} (h : Kp p a w) (o : Obj) : Kp p a (w.alloc o) := h.trans (Kp.of_below (below_new w o))
theorem Kp.keptIn {p : Nat → Prop} {lo hi : Nat} {a b : World} (h : Kp p a b) (hp : ∀ k, k < lo ∨ hi ≤ k → p k) : KeptIn lo hi a b := ⟨h.os, h.tape, h.output, h.size, fun k hk e => h.block k hk (hp k e)⟩

/-- Where the marks of the k-th patch begin. -/
def xkZ (z : Nat) (l : List XK) (k : Nat) : Nat := z + 2 * k + xsz (l.take k)

/-- Patches, marked from z on. -/
def mkX (z : Nat) (l : List XK) : List XK := (List.range l.length).map (fun k => ⟨(xkZ z l k : Int), (xkZ z l k : Int) + 1, mb (xkZ z l k + 1 + 1) (xkK l k).hd.length⟩)

theorem mkX_len (z : Nat) (l : List XK) : (mkX z l).length = l.length := by simp [mkX]
theorem mkX_at (z : Nat) (l : List XK) (k : Nat) (h : k < l.length) : xkK (mkX z l) k = ⟨(xkZ z l k : Int), (xkZ z l k : Int) + 1, mb (xkZ z l k + 1 + 1) (xkK l k).hd.length⟩ := by
  show (mkX z l).getD k ⟨0, 0, []⟩ = _
  unfold mkX
  simp [h]
theorem xkZ_zero (z : Nat) (l : List XK) : xkZ z l 0 = z := by simp [xkZ, xsz]
theorem xkZ_succ (z : Nat) (l : List XK) (k : Nat) (h : k < l.length) : xkZ z l (k + 1) = xkZ z l k + 1 + 1 + (xkK l k).hd.length := by
  unfold xkZ; rw [xsz_take l k h]; omega
theorem xkZ_le (z : Nat) (l : List XK) (k : Nat) (h : k ≤ l.length) : xkZ z l k ≤ z + 2 * l.length + xsz l := by
  have := xsz_le l k
  unfold xkZ; omega
theorem xkZ_all (z : Nat) (l : List XK) : xkZ z l l.length = z + 2 * l.length + xsz l := by unfold xkZ; rw [List.take_length]

/-- The i-th cell of patches in a row. -/
def xvF (l : List XK) (hvs : Nat → Value) (i : Nat) : Value := if i % 3 = 0 then .int .i64 (xkK l (i / 3)).pl else if i % 3 = 1 then .int .i64 (xkK l (i / 3)).ct else hvs (i / 3)

/-- The cells when k patches are marked. -/
def xvH (z : Nat) (l : List XK) (hvs : Nat → Value) (k i : Nat) : Value := if i / 3 < k then xvF (mkX z l) hvs i else xvF l hvs i

theorem xvF0 (l : List XK) (hvs : Nat → Value) (k : Nat) : xvF l hvs (k * 3) = .int .i64 (xkK l k).pl := by unfold xvF; rw [if_pos (by omega), show k * 3 / 3 = k by omega]
theorem xvF1 (l : List XK) (hvs : Nat → Value) (k : Nat) : xvF l hvs (k * 3 + 1) = .int .i64 (xkK l k).ct := by unfold xvF; rw [if_neg (by omega), if_pos (by omega), show (k * 3 + 1) / 3 = k by omega]
theorem xvF2 (l : List XK) (hvs : Nat → Value) (k : Nat) : xvF l hvs (k * 3 + 2) = hvs k := by unfold xvF; rw [if_neg (by omega), if_neg (by omega), show (k * 3 + 2) / 3 = k by omega]

theorem xvH_step {w : World} {g n : Nat} {T : TypeId} {z : Nat} {l : List XK} {hvs : Nat → Value} {k : Nat} (hk : k < l.length) (h : w.rowIs g T n (xvH z l hvs k)) :
    ((w.setCell ⟨g, k * 3, none⟩ (.int .i64 (xkZ z l k : Int))).setCell ⟨g, k * 3 + 1, none⟩ (.int .i64 ((xkZ z l k : Int) + 1))).rowIs g T n (xvH z l hvs (k + 1)) :=
  ((h.set (k * 3) _).set (k * 3 + 1) _).congr (fun j _ => by
    have m := mkX_at z l k hk
    by_cases e1 : j = k * 3 + 1
    · rw [if_pos e1]; subst e1; unfold xvH; rw [if_pos (by omega), xvF1, m]
    rw [if_neg e1]
    by_cases e0 : j = k * 3
    · rw [if_pos e0]; subst e0; unfold xvH; rw [if_pos (by omega), xvF0, m]
    rw [if_neg e0]
    unfold xvH
    by_cases c : j / 3 < k
    · rw [if_pos c, if_pos (by omega)]
    · rw [if_neg c]
      by_cases c2 : j / 3 < k + 1
      · rw [if_pos c2]
        have : j = k * 3 + 2 := by omega
        subst this
        rw [xvF2, xvF2]
      · rw [if_neg c2])

/-- Patches of an answer: a row of its own, each Put in its own memory. -/
def PO (lo hi : Nat) (w : World) (v : Value) (l : List XK) : Prop := ∃ a c, v = .slice a l.length c ∧ (l = [] ∨ ∃ (g : Nat) (hvs : Nat → Value), a = some ⟨g, 0, none⟩ ∧ lo ≤ g ∧ g < hi ∧ w.rowIs g 33 (l.length * 3) (xvF l hvs) ∧ (∀ k, k < l.length → OB w (hvs k) (xkK l k).hd) ∧ (∀ i k, i < l.length → k < l.length → i ≠ k → Ap (hvs i) (hvs k)) ∧ (∀ k, k < l.length → (hvs k).ownBlock ≠ some g) ∧ ∀ k, k < l.length → In lo hi (hvs k))

theorem PO.at {lo hi : Nat} {w : World} {v : Value} {l : List XK} (h : PO lo hi w v l) : ∃ a c, v = .slice a l.length c ∧ XsAt w a l := by
  obtain ⟨a, c, e, h⟩ := h
  refine ⟨a, c, e, ?_⟩
  rcases h with h | ⟨g, hvs, ea, _, _, hr, ho, _, _, _⟩
  · exact .inl h
  · refine .inr ⟨g, 0, ea, hr.lt, fun k hk => ?_⟩
    obtain ⟨pa, pc, ev, hb⟩ := (ho k hk).len
    simp only [Nat.zero_add]
    refine ⟨(hr.cell (by omega)).trans (congrArg some (xvF0 l hvs k)), (hr.cell (by omega)).trans (congrArg some (xvF1 l hvs k)), pa, pc, ?_, hb⟩
    rw [hr.cell (by omega), xvF2, ev]

theorem PO.below {lo hi : Nat} {w w' : World} {v : Value} {l : List XK} (h : PO lo hi w v l) (hb : Below w.heap.size w w') : PO lo hi w' v l := by
  obtain ⟨a, c, e, h⟩ := h
  refine ⟨a, c, e, ?_⟩
  rcases h with h | ⟨g, hvs, ea, h1, h2, hr, ho, hap, hg, hin⟩
  · exact .inl h
  · exact .inr ⟨g, hvs, ea, h1, h2, rowB hr hb, fun k hk => (ho k hk).below hb, hap, hg, hin⟩

theorem PO.kept {lo hi a b : Nat} {w w' : World} {v : Value} {l : List XK} (h : PO lo hi w v l) (hk : KeptIn a b w w') (hd : b ≤ lo ∨ hi ≤ a) : PO lo hi w' v l := by
  obtain ⟨x, c, e, h⟩ := h
  refine ⟨x, c, e, ?_⟩
  rcases h with h | ⟨g, hvs, ea, h1, h2, hr, ho, hap, hg, hin⟩
  · exact .inl h
  · exact .inr ⟨g, hvs, ea, h1, h2, rowK hr hk (by omega), fun k hq => (ho k hq).kept (hin k hq) hk (by omega), hap, hg, hin⟩

end Go.Proofs.Ytmabfeckmklenaa
