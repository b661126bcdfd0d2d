/- Marks in patches of one's own, whatever they hold. -/
import Derived.Test.YtmabfeckmklenaaXpa
import Derived.Test.YtmabfeckmklenaaWg
namespace Go.Proofs.Ytmabfeckmklenaa
open Go.RowKit
set_option linter.unusedVariables false
set_option linter.unusedSimpArgs false

/-- Patches of one's own at g, whatever they hold, all below hi. -/
def XM (g hi : Nat) (l : List XK) (w : World) : Prop := ∃ (f : Nat → Value) (β : Nat → Nat), w.rowIs g 33 (l.length * 3) f ∧ g < hi ∧ ∀ j, j < l.length → f (j * 3 + 2) = .slice (some ⟨β j, 0, none⟩) (xkK l j).hd.length (xkK l j).hd.length ∧ g < β j ∧ β j < hi ∧ (∃ fb, w.rowIs (β j) 5 (xkK l j).hd.length fb) ∧ ∀ i, i < j → β i < β j

theorem XR.xm {w wr : World} {l : List XK} (h : XR w l l.length wr) : XM w.heap.size wr.heap.size l wr := by
  obtain ⟨f, β, hf, hj⟩ := h.row
  refine ⟨f, β, hf, hf.lt, fun j hl => ?_⟩
  obtain ⟨_, _, h3, h4, h5, h6⟩ := hj j hl
  exact ⟨h3, h4, h5.lt, ⟨_, h5⟩, h6⟩

theorem XM.keep {g hi : Nat} {l : List XK} {w w' : World} (h : XM g hi l w) (hk : ∀ q, g ≤ q → q < hi → w'.heap[q]? = w.heap[q]?) : XM g hi l w' := by
  obtain ⟨f, β, hf, h0, hj⟩ := h
  refine ⟨f, β, hf.of_block (hk _ (Nat.le_refl _) h0), h0, fun j hl => ?_⟩
  obtain ⟨h3, h4, h5, ⟨fb, h6⟩, h7⟩ := hj j hl
  exact ⟨h3, h4, h5, ⟨fb, h6.of_block (hk _ (by omega) h5)⟩, h7⟩

theorem XM.cell {g hi k i : Nat} {l : List XK} {w : World} {v : Value} (h : XM g hi l w) (hi2 : i < 2) : XM g hi l (w.setCell ⟨g, k * 3 + i, none⟩ v) := by
  obtain ⟨f, β, hf, h0, hj⟩ := h
  have K : KeptIn g (g + 1) w (w.setCell ⟨g, k * 3 + i, none⟩ v) := (KeptIn.refl _ _ w).setCell (p := ⟨g, k * 3 + i, none⟩) (Nat.le_refl _) (Nat.lt_succ_self _) _
  refine ⟨_, β, hf.set (k * 3 + i) v, h0, fun j hl => ?_⟩
  obtain ⟨h3, h4, h5, ⟨fb, h6⟩, h7⟩ := hj j hl
  exact ⟨by rw [if_neg (by omega)]; exact h3, h4, h5, ⟨fb, rowK h6 K (.inr (by omega))⟩, h7⟩

theorem XM.held {g hi k : Nat} {l : List XK} {w : World} (h : XM g hi l w) (hk : k < l.length) : ∃ b fb, w.cell? ⟨g, k * 3 + 2, none⟩ = some (.slice (some ⟨b, 0, none⟩) (xkK l k).hd.length (xkK l k).hd.length) ∧ g < b ∧ b < hi ∧ w.rowIs b 5 (xkK l k).hd.length fb ∧ ∀ w' fb', KeptIn b (b + 1) w w' → w'.rowIs b 5 (xkK l k).hd.length fb' → XM g hi l w' := by
  obtain ⟨f, β, hf, h0, hj⟩ := h
  obtain ⟨h3, h4, h5, ⟨fb, h6⟩, h7⟩ := hj k hk
  refine ⟨β k, fb, by rw [hf.cell (by omega), h3], h4, h5, h6, fun w' fb' K hr => ⟨f, β, rowK hf K (.inl (by omega)), h0, fun j hl => ?_⟩⟩
  obtain ⟨e3, e4, e5, ⟨fc, e6⟩, e7⟩ := hj j hl
  refine ⟨e3, e4, e5, ?_, e7⟩
  by_cases c : j = k
  · subst c; exact ⟨fb', hr⟩
  · have : β j ≠ β k := by
      rcases Nat.lt_or_gt_of_ne c with c | c
      · have := h7 j c; omega
      · have := e7 k c; omega
    exact ⟨fc, rowK e6 K (by omega)⟩

end Go.Proofs.Ytmabfeckmklenaa
