/- Bytes spliced: the codes, a copy of as many as there is room for, a row cleared. -/
import Derived.Test.YtbdjppiagjhfmaaWk
import Derived.Test.YtbdjppiagjhfmaaCq
import Derived.Lib.SliceRun
namespace Go.Proofs.Ytbdjppiagjhfmaa
open Go.RowKit
set_option linter.unusedVariables false
set_option linter.unusedSimpArgs false

/-- Bytes that lie at a place, by their cells. -/
def CAt (w : World) (b o : Nat) (l : List Int) : Prop := b < w.heap.size ∧ ∀ k, k < l.length → w.cell? ⟨b, o + k, none⟩ = some (bv l k)

theorem CAt.below {w w' : World} {b o : Nat} {l : List Int} (h : CAt w b o l) (hb : Below w.heap.size w w') : CAt w' b o l :=
  ⟨Nat.lt_of_lt_of_le h.1 hb.size, fun k hk => (hb.cell h.1).trans (h.2 k hk)⟩

theorem CAt.at {w : World} {b o : Nat} {l : List Int} (h : CAt w b o l) : BAt w (some ⟨b, o, none⟩) l := .inr ⟨b, o, rfl, h.1, h.2⟩

theorem CAt.of_row {w : World} {b : Nat} {l : List Int} (h : w.rowIs b 5 l.length (bv l)) : CAt w b 0 l := ⟨h.lt, fun k hk => by rw [Nat.zero_add]; exact h.cell hk⟩

theorem CAt.sub {w : World} {b o f z : Nat} {l : List Int} (h : CAt w b o l) (hz : f + z ≤ l.length) : CAt w b (o + f) ((l.drop f).take z) := by
  refine ⟨h.1, fun k hk => ?_⟩
  rw [List.length_take, List.length_drop] at hk
  have hk' : k < z := by omega
  rw [show o + f + k = o + (f + k) from by omega, h.2 (f + k) (by omega)]
  unfold bv
  congr 2
  simp [hk']

theorem CAt.head {w : World} {b o z : Nat} {l : List Int} (h : CAt w b o l) (hz : z ≤ l.length) : CAt w b o (l.take z) := by
  have := h.sub (f := 0) (z := z) (by omega)
  simpa using this

theorem CAt.tail {w : World} {b o f : Nat} {l : List Int} (h : CAt w b o l) (hz : f ≤ l.length) : CAt w b (o + f) (l.drop f) := by
  have := h.sub (f := f) (z := l.length - f) (by omega)
  rwa [List.take_of_length_le (by rw [List.length_drop]; omega)] at this

/-- What a splice leaves. -/
def spl (l : List Int) (at_ n : Nat) (p : List Int) : List Int := l.take at_ ++ p ++ l.drop (at_ + n)

theorem spl_len {l : List Int} {at_ n : Nat} {p : List Int} (h : at_ + n ≤ l.length) : (spl l at_ n p).length = l.length - n + p.length := by
  simp [spl]; omega

/-- The code of a splice. -/
def spC (size at_ n m : Int) : Int := if at_ < 0 ∨ size < at_ ∨ n < 0 ∨ size - at_ < n then 3 else if 240 < size - n + m then 6 else 0

theorem spC_zero {size at_ n m : Int} (h : spC size at_ n m = 0) : 0 ≤ at_ ∧ 0 ≤ n ∧ at_ + n ≤ size ∧ size - n + m ≤ 240 := by
  unfold spC at h
  split at h
  · omega
  · split at h <;> omega

/-- A copy of bytes into a row of one's own: as many as there is room for. -/
theorem copy_min {P : Program} (dT sT ty : TypeId) (hu : P.underlying dT = some (.slice 5)) (hs : (P.info? 5).map (·.size) = some 1) {w : World} {g cn : Nat} {f : Nat → Value} (o dn dc : Nat) (hr : w.rowIs g 5 cn f) (a : Option Addr) (c : Nat) (l : List Int) (k : Nat)
    (ha : BAt w a l) (hk : Nat.min l.length dn = k) (h2 : o + k ≤ cn) :
    ∃ w', (Builtin.copy_ #[dT, sT] ty #[.slice (some ⟨g, o, none⟩) dn dc, .slice a l.length c]).run P w = .ok (goInt k) w' ∧ w'.rowIs g 5 cn (fun j => if o ≤ j ∧ j < o + k then bv l (j - o) else f j) ∧ KeptIn g (g + 1) w w' := by
  have hkl : k ≤ l.length := by rw [← hk]; exact Nat.min_le_left _ _
  rcases ha.src with h0 | ⟨ad, rfl, hc⟩
  · have : k = 0 := by omega
    subst this
    rw [h0]
    exact ⟨w, run_copy_none w dT sT ty 5 _ a dn dc 0 c hu hs (by simp), hr.congr (fun j _ => by rw [if_neg (by omega)]), KeptIn.refl _ _ _⟩
  · obtain ⟨cur, hg, hn, hf⟩ := hr
    have el : (l.take k).length = k := by rw [List.length_take]; omega
    have hmin : (bcs (l.take k)).length = Nat.min l.length dn := by rw [bcs_len, Nat.mul_one, el]; exact hk.symm
    have hb : ∀ i, i < k → bv (l.take k) i = bv l i := fun i hi => by simp [bv, hi]
    have hc' : ∀ j u, (bcs (l.take k))[j]? = some u → w.cell? (ad.add j) = some u := by
      intro j u hj
      have hlt : j < k := by
        have := (List.getElem?_eq_some_iff.1 hj).1
        rw [bcs_len, el] at this; omega
      rw [bcs_get _ j (by omega), hb j hlt] at hj
      exact hc j u (by rw [bcs_get l j (by omega)]; exact hj)
    have hrun := run_copy_row (P := P) w dT sT ty 5 g o dn dc ad l.length c cur 5 (bcs (l.take k)) hu hs hg hmin hc' (by rw [bcs_len, el]; omega) (bcs_one _)
    rw [bcs_len, Nat.mul_one, el] at hrun
    refine ⟨_, hrun, ⟨_, setRow_heap w g cur _ 5 _ hg, ?_, fun i hi => ?_⟩, ⟨rfl, rfl, rfl, by simp [World.setRow], fun k hk hne => setRow_other w g k _ (by omega)⟩⟩
    · simp only [List.size_toArray, List.length_append, List.length_take, List.length_drop, Array.length_toList, bcs_len]
      omega
    · simp only [List.getElem?_toArray]
      have hlt : (cur.toList.take o).length = o := by rw [List.length_take, Array.length_toList]; omega
      by_cases c1 : i < o
      · rw [if_neg (by omega), List.append_assoc, List.getElem?_append_left (by omega), List.getElem?_take, if_pos c1, Array.getElem?_toList]
        exact hf i hi
      · by_cases c2 : i < o + k
        · rw [if_pos (by omega), List.append_assoc, List.getElem?_append_right (by omega), hlt, List.getElem?_append_left (by rw [bcs_len, el]; omega), bcs_get _ _ (by omega), hb _ (by omega)]
        · rw [if_neg (by omega), List.append_assoc, List.getElem?_append_right (by omega), hlt, List.getElem?_append_right (by rw [bcs_len, el]; omega), bcs_len, el, List.getElem?_drop, Array.getElem?_toList]
          rw [show o + k + (i - o - k * 1) = i from by omega]
          exact hf i hi

theorem setCells_row {g cn : Nat} {t : TypeId} (z : Value) : ∀ (n o : Nat) (w : World) (f : Nat → Value), w.rowIs g t cn f →
    (w.setCells g o (List.replicate n z)).rowIs g t cn (fun j => if o ≤ j ∧ j < o + n then z else f j) ∧ KeptIn g (g + 1) w (w.setCells g o (List.replicate n z)) := by
  intro n
  induction n with
  | zero => intro o w f h; exact ⟨h.congr (fun j _ => by rw [if_neg (by omega)]), KeptIn.refl _ _ _⟩
  | succ n ih =>
    intro o w f h
    obtain ⟨h1, h2⟩ := ih (o + 1) _ _ (h.set o z)
    refine ⟨h1.congr (fun j _ => ?_), ((KeptIn.refl g (g + 1) w).setCell (Nat.le_refl _) (Nat.lt_succ_self _) z).trans h2⟩
    by_cases e : j = o
    · subst e; rw [if_neg (by omega), if_pos rfl, if_pos (by omega)]
    · rw [if_neg (show ¬ j = o from e)]
      by_cases c : o + 1 ≤ j ∧ j < o + 1 + n
      · rw [if_pos c, if_pos (by omega)]
      · rw [if_neg c, if_neg (by omega)]

/-- A row of bytes cleared from a place on. -/
theorem clear_row {P : Program} (t ty : TypeId) (hu : P.underlying t = some (.slice 5)) (hv : ∀ w, (zeroValue 5).run P w = .ok (.int .u8 0) w) {w : World} {g cn : Nat} {f : Nat → Value} (o n c : Nat) (hr : w.rowIs g 5 cn f) (hn : o + n = cn) :
    ∃ w', (Builtin.clear_ #[t] ty #[.slice (some ⟨g, o, none⟩) n c]).run P w = .ok (.tuple #[]) w' ∧ w'.rowIs g 5 cn (fun j => if j < o then f j else .int .u8 0) ∧ KeptIn g (g + 1) w w' := by
  by_cases h0 : n = 0
  · subst h0
    refine ⟨w, ?_, hr.congr (fun j hj => by rw [if_pos (by omega)]), KeptIn.refl _ _ _⟩
    simp [Builtin.clear_, run_underlying hu]
  · have hrun := Go.Lib.run_clear_slice (P := P) w t 5 ty (.int .u8 0) hu hv rfl rfl g o n c (by omega) (fun j hj => by rw [hr.cell (by omega)]; rfl) (fun j hj => hr.frozen _)
    obtain ⟨h1, h2⟩ := setCells_row (.int .u8 0) n o w f hr
    exact ⟨_, hrun, h1.congr (fun j hj => by
      by_cases c : j < o
      · rw [if_neg (by omega), if_pos c]
      · rw [if_pos (by omega), if_neg c]), h2⟩

end Go.Proofs.Ytbdjppiagjhfmaa
