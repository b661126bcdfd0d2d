/- Patches that lie in memory; their sizes; they are copied, and told to be the same. -/
import Derived.Test.YtmabfeckmklenaaLtf
import Derived.Test.YtmabfeckmklenaaOwn
namespace Go.Proofs.Ytmabfeckmklenaa
open Go.RowKit
set_option linter.unusedVariables false
set_option linter.unusedSimpArgs false

/-- A patch: its place, how many bytes it cuts, what it puts. -/
structure XK where
  pl : Int
  ct : Int
  hd : List Int

/-- The k-th of patches. -/
def xkK (l : List XK) (k : Nat) : XK := l.getD k ⟨0, 0, []⟩

/-- Patches lie at an address. -/
def XsAt (w : World) (a : Option Addr) (l : List XK) : Prop :=
  l = [] ∨ ∃ b o, a = some ⟨b, o, none⟩ ∧ b < w.heap.size ∧ ∀ k, k < l.length → w.cell? ⟨b, o + k * 3, none⟩ = some (.int .i64 (xkK l k).pl) ∧ w.cell? ⟨b, o + k * 3 + 1, none⟩ = some (.int .i64 (xkK l k).ct) ∧ ∃ p c, w.cell? ⟨b, o + k * 3 + 2, none⟩ = some (.slice p (xkK l k).hd.length c) ∧ BAt w p (xkK l k).hd

theorem XsAt.below {w w' : World} {a : Option Addr} {l : List XK} (h : XsAt w a l) (hb : Below w.heap.size w w') : XsAt w' a l := by
  rcases h with h | ⟨b, o, e, hs, hc⟩
  · exact .inl h
  · refine .inr ⟨b, o, e, Nat.lt_of_lt_of_le hs hb.size, fun k hk => ?_⟩
    obtain ⟨h1, h2, p, c, h3, h4⟩ := hc k hk
    exact ⟨(hb.cell hs).trans h1, (hb.cell hs).trans h2, p, c, (hb.cell hs).trans h3, h4.below hb⟩

/-- The bytes of patches. -/
def xsz : List XK → Nat
  | [] => 0
  | x :: r => x.hd.length + xsz r

theorem xsz_take (l : List XK) : ∀ k, k < l.length → xsz (l.take (k + 1)) = xsz (l.take k) + (xkK l k).hd.length := by
  induction l with
  | nil => intro k h; exact absurd h (Nat.not_lt_zero _)
  | cons x r ih =>
    intro k hk
    cases k with
    | zero => simp [xsz, xkK]
    | succ k =>
      have := ih k (by simpa using hk)
      simp only [List.take_succ_cons, xsz]
      rw [this]
      have e : xkK (x :: r) (k + 1) = xkK r k := by simp [xkK]
      rw [e]; omega

theorem xsz_le (l : List XK) (k : Nat) : xsz (l.take k) ≤ xsz l := by
  induction l generalizing k with
  | nil => simp [xsz]
  | cons x r ih =>
    cases k with
    | zero => simp [xsz]
    | succ k => simp only [List.take_succ_cons, xsz]; have := ih k; omega

/-- Numbers of a machine, and no wider. -/
def WideX (l : List XK) : Prop := ∀ k, k < l.length → ((xkK l k).hd.length : Int) ≤ 9223372036854775807 ∧ -9223372036854775808 ≤ (xkK l k).pl ∧ (xkK l k).pl ≤ 9223372036854775807 ∧ -9223372036854775808 ≤ (xkK l k).ct ∧ (xkK l k).ct ≤ 9223372036854775807

theorem Try.info33 : (Try.prog.info? 33).map (fun i => (i.zero, i.size, i.bytes)) = some (some (.agg #[.int .i64 0, .int .i64 0, .slice none 0 0]), 3, 40) := by kernel_rfl

theorem make_patches {P : Program} (t e : TypeId) (ht : P.underlying t = some (.slice e)) (hinfo : (P.info? e).map (fun i => (i.zero, i.size, i.bytes)) = some (some (.agg #[.int .i64 0, .int .i64 0, .slice none 0 0]), 3, 40))
    (n : Nat) (hn : (n : Int) ≤ 1048576) (w : World) :
    (Instr.makeSlice t (.int .i64 (n : Int)) (.int .i64 (n : Int))).run P w = .ok (.slice (some ⟨w.heap.size, 0, none⟩) n n) (w.alloc (.cells (madeCells #[.int .i64 0, .int .i64 0, .slice none 0 0] (n * 3)) e)) := by
  obtain ⟨i, hi, hzz⟩ := Option.map_eq_some_iff.1 hinfo
  simp only [Prod.mk.injEq] at hzz
  obtain ⟨hz, hs, hb⟩ := hzz
  have hr := run_make (P := P) w t e i _ ht hi hz .i64 .i64 n n (by omega) (Int.le_refl _) (by rw [hb]; omega) (by omega)
  simp only [Int.toNat_natCast, hs] at hr
  exact hr

/-- Patches being copied into a row of one's own: k of them are there; what each holds lies behind what the one ahead does. -/
structure XR (w : World) (l : List XK) (k : Nat) (wr : World) : Prop where
  bl : Below w.heap.size w wr
  row : ∃ (f : Nat → Value) (β : Nat → Nat), wr.rowIs w.heap.size 33 (l.length * 3) f ∧ ∀ j, j < k → f (j * 3) = .int .i64 (xkK l j).pl ∧ f (j * 3 + 1) = .int .i64 (xkK l j).ct ∧ f (j * 3 + 2) = .slice (some ⟨β j, 0, none⟩) (xkK l j).hd.length (xkK l j).hd.length ∧ w.heap.size < β j ∧ wr.rowIs (β j) 5 (xkK l j).hd.length (bv (xkK l j).hd) ∧ ∀ i, i < j → β i < β j

theorem XR.start (w : World) (l : List XK) : XR w l 0 (w.alloc (.cells (madeCells #[.int .i64 0, .int .i64 0, .slice none 0 0] (l.length * 3)) 33)) := by
  refine ⟨(Below.refl _ _).alloc (Nat.le_refl _) _, fun i => r3 (.int .i64 0) (.int .i64 0) (.slice none 0 0) (i % 3), fun _ => 0, ?_, fun j hj => absurd hj (Nat.not_lt_zero _)⟩
  refine ⟨_, Deep.blk_alloc_new _ _, size_madeCells _ _, fun i hi => ?_⟩
  have h : i % 3 = 0 ∨ i % 3 = 1 ∨ i % 3 = 2 := by omega
  rcases h with h | h | h <;> simp [madeCells, hi, h, r3]

theorem XR.below {w wr w1 : World} {l : List XK} {k : Nat} (h : XR w l k wr) (hb : Below wr.heap.size wr w1) : XR w l k w1 := by
  obtain ⟨f, β, hf, hj⟩ := h.row
  refine ⟨h.bl.trans (hb.mono h.bl.size), f, β, rowB hf hb, fun j hk => ?_⟩
  obtain ⟨h1, h2, h3, h4, h5, h6⟩ := hj j hk
  exact ⟨h1, h2, h3, h4, rowB h5 hb, h6⟩

theorem XR.step {w wr w1 : World} {l : List XK} {k b : Nat} (h : XR w l k wr) (hb1 : Below wr.heap.size wr w1) (hb : wr.heap.size ≤ b) (hrow : w1.rowIs b 5 (xkK l k).hd.length (bv (xkK l k).hd)) :
    XR w l (k + 1) (((w1.setCell ⟨w.heap.size, k * 3, none⟩ (.int .i64 (xkK l k).pl)).setCell ⟨w.heap.size, k * 3 + 1, none⟩ (.int .i64 (xkK l k).ct)).setCell ⟨w.heap.size, k * 3 + 2, none⟩ (.slice (some ⟨b, 0, none⟩) (xkK l k).hd.length (xkK l k).hd.length)) := by
  obtain ⟨f, β, hf0, hj⟩ := h.row
  have hwl := hf0.lt
  have hf := rowB hf0 hb1
  have K := (((KeptIn.refl w.heap.size (w.heap.size + 1) w1).setCell (p := ⟨w.heap.size, k * 3, none⟩) (Nat.le_refl _) (Nat.lt_succ_self _) (.int .i64 (xkK l k).pl)).setCell (p := ⟨w.heap.size, k * 3 + 1, none⟩) (Nat.le_refl _) (Nat.lt_succ_self _) (.int .i64 (xkK l k).ct)).setCell (p := ⟨w.heap.size, k * 3 + 2, none⟩) (Nat.le_refl _) (Nat.lt_succ_self _) (.slice (some ⟨b, 0, none⟩) (xkK l k).hd.length (xkK l k).hd.length)
  refine ⟨(h.bl.trans (hb1.mono h.bl.size)).trans (K.below (Nat.le_refl _) (Nat.le_trans h.bl.size hb1.size)), _, fun j => if j = k then b else β j, ((hf.set (k * 3) _).set (k * 3 + 1) _).set (k * 3 + 2) _, fun j hk => ?_⟩
  by_cases e : j = k
  · subst e
    dsimp only
    refine ⟨?_, ?_, ?_, ?_, ?_, fun i hi => ?_⟩
    · rw [if_neg (by omega), if_neg (by omega), if_pos rfl]
    · rw [if_neg (by omega), if_pos rfl]
    · rw [if_pos rfl, if_pos rfl]
    · rw [if_pos rfl]; omega
    · rw [if_pos rfl]; exact rowK hrow K (.inr (by omega))
    · rw [if_pos rfl, if_neg (by omega)]
      have := (hj i hi).2.2.2.2.1.lt
      omega
  · obtain ⟨h1, h2, h3, h4, h5, h6⟩ := hj j (by omega)
    dsimp only
    refine ⟨?_, ?_, ?_, ?_, ?_, fun i hi => ?_⟩
    · rw [if_neg (by omega), if_neg (by omega), if_neg (by omega)]; exact h1
    · rw [if_neg (by omega), if_neg (by omega), if_neg (by omega)]; exact h2
    · rw [if_neg (by omega), if_neg (by omega), if_neg (by omega), if_neg e]; exact h3
    · rw [if_neg e]; exact h4
    · rw [if_neg e]; exact rowK (rowB h5 hb1) K (.inr (by omega))
    · rw [if_neg e, if_neg (by omega)]; exact h6 i hi

theorem XR.at {w wr : World} {l : List XK} (h : XR w l l.length wr) : XsAt wr (some ⟨w.heap.size, 0, none⟩) l := by
  obtain ⟨f, β, hf, hj⟩ := h.row
  refine .inr ⟨_, _, rfl, hf.lt, fun k hk => ?_⟩
  obtain ⟨h1, h2, h3, h4, h5, h6⟩ := hj k hk
  have c := fun i (hi : i < 3) => hf.cell (show k * 3 + i < l.length * 3 by omega)
  refine ⟨by rw [Nat.zero_add]; exact (c 0 (by omega)).trans (by rw [Nat.add_zero, h1]), by rw [Nat.zero_add, c 1 (by omega), h2], _, _, by rw [Nat.zero_add, c 2 (by omega), h3], .of_row h5⟩

end Go.Proofs.Ytmabfeckmklenaa
