/- Walks: marks are laid into a token's attributes. -/
import Derived.Test.YtbdjppiagjhfmaaTk
import Derived.Laws.BytesString
import Derived.Laws.IdiomStrings
namespace Go.Proofs.Ytbdjppiagjhfmaa
open Go.RowKit
set_option linter.unusedVariables false
set_option linter.unusedSimpArgs false

/-- The text that bytes are. -/
def strI (l : List Int) : ByteArray := l.foldl (fun r n => r.push (UInt8.ofNat n.toNat)) ByteArray.empty

theorem conv_bytesT {w : World} {a : Option Addr} {l : List Int} (c : Nat) (h : BAt w a l) : (convert 22 9 (.slice a l.length c)).run Try.prog w = .ok (.string (strI l)) w := by
  rw [run_convert_bytes_string (P := Try.prog) w 22 9 5 a l.length c Try.underlying22 Try.underlying5 Try.underlying9]
  cases a with
  | none =>
    rcases h with h | ⟨b, o, e, _⟩
    · subst h
      simp [Conv.bytesToString, strI, Sem.run_pure]
    · cases e
  | some ad =>
    refine run_bytesToString w ad l.length c l ?_
    have hk := run_loadCells_list (P := Try.prog) w ad (l.map (Value.int .u8)) (fun j v hj => by
      rcases h with h | ⟨b, o, e, _, hc⟩
      · subst h; simp at hj
      · cases e
        have hjl : j < l.length := by
          have := (List.getElem?_eq_some_iff.1 hj).1
          simpa using this
        have := hc j hjl
        rw [List.getElem?_map] at hj
        rw [show (⟨b, o, none⟩ : Addr).add j = ⟨b, o + j, none⟩ from by unfold Addr.add; split; (rename_i h0; rw [h0]; rfl); rfl, this]
        simp [bv, List.getD_eq_getElem?_getD] at hj ⊢
        obtain ⟨x, hx, rfl⟩ := hj
        simp [hx])
    simpa using hk

theorem conv_one (w : World) (x : Int) : (convert 22 9 (.slice (some ⟨w.heap.size, 0, none⟩) 1 1)).run Try.prog (w.alloc (.cells #[.int .u8 x] 5)) = .ok (.string (strI [x])) (w.alloc (.cells #[.int .u8 x] 5)) :=
  conv_bytesT (l := [x]) 1 (.inr ⟨_, _, rfl, by simp, fun k hk => by
    obtain rfl : k = 0 := by simpa using hk
    simp [bv]⟩)
theorem strI_one (x : Int) : (strI [x]).size = 1 := rfl

/-- Rows of attributes of one's own: their blocks, and how many bytes each value has. -/
def MR (g hi : Nat) (l : List AT) (w : World) : Prop := ∃ f, w.rowIs g 159 (l.length * 2) f ∧ g < hi ∧ ∀ j, j < l.length → (∃ s, f (j * 2) = .string s) ∧ ∃ b, f (j * 2 + 1) = .slice (some ⟨b, 0, none⟩) (atK l j).vl.length (atK l j).vl.length ∧ g < b ∧ b < hi ∧ ∃ fb, w.rowIs b 5 (atK l j).vl.length fb

theorem AO.mr {g : Nat} {l : List AT} {w : World} (h : AO g l w) : MR g w.heap.size l w := by
  obtain ⟨f, hf, hj⟩ := h
  refine ⟨f, hf, hf.lt, fun j hk => ?_⟩
  obtain ⟨h1, b, h2, h3, h4⟩ := hj j hk
  exact ⟨⟨_, h1⟩, b, h2, h3, h4.lt, _, h4⟩

theorem MR.below {g hi : Nat} {l : List AT} {w w1 : World} (h : MR g hi l w) (hb : Below w.heap.size w w1) : MR g hi l w1 := by
  obtain ⟨f, hf, hg, hj⟩ := h
  refine ⟨f, rowB hf hb, hg, fun j hk => ?_⟩
  obtain ⟨h1, b, h2, h3, h4, fb, h5⟩ := hj j hk
  exact ⟨h1, b, h2, h3, h4, fb, rowB h5 hb⟩

/-- A name is turned. -/
theorem MR.name {g hi k : Nat} {l : List AT} {w : World} (h : MR g hi l w) (hk : k < l.length) (s : ByteArray) : MR g hi l (w.setCell ⟨g, k * 2, none⟩ (.string s)) := by
  obtain ⟨f, hf, hg, hj⟩ := h
  have K : KeptIn g (g + 1) w (w.setCell ⟨g, k * 2, none⟩ (.string s)) := (KeptIn.refl _ _ w).setCell (p := ⟨g, k * 2, none⟩) (Nat.le_refl _) (Nat.lt_succ_self _) _
  refine ⟨_, hf.set (k * 2) _, hg, fun j hjl => ?_⟩
  obtain ⟨⟨s1, h1⟩, b, h2, h3, h4, fb, h5⟩ := hj j hjl
  refine ⟨?_, b, ?_, h3, h4, fb, rowK h5 K (.inr h3)⟩
  · by_cases e : j = k
    · subst e; exact ⟨s, by rw [if_pos rfl]⟩
    · exact ⟨s1, by rw [if_neg (by omega)]; exact h1⟩
  · rw [if_neg (by omega)]; exact h2

theorem row_len {w : World} {b n m : Nat} {t t' : TypeId} {f f' : Nat → Value} (h : w.rowIs b t n f) (h' : w.rowIs b t' m f') : n = m := by
  obtain ⟨cs, h1, h2, _⟩ := h
  obtain ⟨cs', h1', h2', _⟩ := h'
  have e := h1.symm.trans h1'
  simp at e
  rw [← h2, ← h2', e.1]

/-- The bytes of one value are turned. -/
theorem MR.value {g hi k b : Nat} {l : List AT} {w w1 : World} {fb : Nat → Value} (h : MR g hi l w) (hgb : g < b) (hb : b < hi) (hr : w1.rowIs b 5 (atK l k).vl.length fb) {f0 : Nat → Value} (hrw : w.rowIs b 5 (atK l k).vl.length f0) (hk : KeptIn b (b + 1) w w1) : MR g hi l w1 := by
  obtain ⟨f, hf, hg, hj⟩ := h
  refine ⟨f, rowK hf hk (.inl hgb), hg, fun j hjl => ?_⟩
  obtain ⟨h1, b', h2, h3, h4, fb', h5⟩ := hj j hjl
  by_cases e : b' = b
  · subst e
    have e2 := row_len h5 hrw
    rw [e2] at h2 ⊢
    exact ⟨h1, b', h2, h3, h4, fb, hr⟩
  · exact ⟨h1, b', h2, h3, h4, fb', rowK h5 hk (by omega)⟩

def vsz : List AT → Nat
  | [] => 0
  | x :: r => x.vl.length + vsz r
theorem vsz_take (l : List AT) : ∀ k, k < l.length → vsz (l.take (k + 1)) = vsz (l.take k) + (atK l k).vl.length := by
  induction l with
  | nil => intro k h; exact absurd h (Nat.not_lt_zero _)
  | cons x r ih =>
    intro k hk
    cases k with
    | zero => simp [vsz, atK]
    | succ k =>
      have := ih k (by simpa using hk)
      simp only [List.take_succ_cons, vsz]
      rw [this]
      have e : atK (x :: r) (k + 1) = atK r k := by simp [atK]
      rw [e]; omega
theorem vsz_le (l : List AT) (k : Nat) : vsz (l.take k) ≤ asz l := by
  induction l generalizing k with
  | nil => simp [vsz]
  | cons x r ih =>
    cases k with
    | zero => simp [vsz]
    | succ k => simp only [List.take_succ_cons, vsz, asz]; have := ih k; omega

end Go.Proofs.Ytbdjppiagjhfmaa
