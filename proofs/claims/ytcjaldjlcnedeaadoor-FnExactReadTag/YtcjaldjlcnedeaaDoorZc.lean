/- Attributes in memory of one's own. -/
import Derived.Test.YtcjaldjlcnedeaaDoorZb
namespace Go.Proofs.YtcjaldjlcnedeaaDoor
open Go.RowKit
set_option linter.unusedVariables false
set_option linter.unusedSimpArgs false

/-- The cells of attributes: two each. -/
def acs : List AT → List Value → List Value
  | a :: l, u :: us => .string a.nm :: u :: acs l us
  | _, _ => []
theorem acs_len : ∀ (l : List AT) (us : List Value), us.length = l.length → (acs l us).length = l.length * 2
  | [], us, h => by cases us <;> rfl
  | a :: l, [], h => by simp at h
  | a :: l, u :: us, h => by
    simp only [acs, List.length_cons]
    rw [acs_len l us (by simpa using h)]; omega
theorem acs_snoc : ∀ (l : List AT) (us : List Value) (a : AT) (u : Value), us.length = l.length → acs (l ++ [a]) (us ++ [u]) = acs l us ++ [.string a.nm, u]
  | [], [], a, u, _ => rfl
  | [], u :: us, _, _, h => by simp at h
  | b :: l, [], _, _, h => by simp at h
  | b :: l, v :: us, a, u, h => by
    simp only [List.cons_append, acs]
    rw [acs_snoc l us a u (by simpa using h)]
theorem acs_get : ∀ (l : List AT) (us : List Value) (k : Nat), us.length = l.length → k < l.length → (acs l us)[k * 2]? = some (.string (atK l k).nm) ∧ (acs l us)[k * 2 + 1]? = some (us.getD k undef)
  | [], us, k, h, hk => absurd hk (Nat.not_lt_zero _)
  | a :: l, [], k, h, hk => by simp at h
  | a :: l, u :: us, 0, h, hk => by simp [acs, atK]
  | a :: l, u :: us, k + 1, h, hk => by
    have := acs_get l us k (by simpa using h) (by simpa using hk)
    rw [show (k + 1) * 2 = k * 2 + 1 + 1 from by omega]
    simpa [acs, atK] using this

/-- Attributes of one's own: a row of them, and a row of bytes for each value; no two rows are one. -/
structure OA (lo : Nat) (w : World) (v : Value) (l : List AT) (us : List Value) : Prop where
  len : us.length = l.length
  row : w.ownsRow lo 54 2 v l.length (acs l us)
  val : ∀ j, j < l.length → OB w (us.getD j undef) (atK l j).vl
  vlo : ∀ j, j < l.length → ∀ k, (us.getD j undef).ownBlock = some k → lo ≤ k
  ap : ∀ i j, i < j → j < l.length → Ap (us.getD i undef) (us.getD j undef)
  av : ∀ j, j < l.length → Ap v (us.getD j undef)

theorem OA.nil (lo : Nat) (w : World) : OA lo w (.slice none 0 0) [] [] :=
  ⟨rfl, ⟨rfl, .inl ⟨rfl, rfl⟩⟩, fun j h => absurd h (Nat.not_lt_zero _), fun j h => absurd h (Nat.not_lt_zero _), fun i j _ h => absurd h (Nat.not_lt_zero _), fun j h => absurd h (Nat.not_lt_zero _)⟩

/-- Blocks of one's own that stay. -/
theorem OA.keep {lo lo' : Nat} {w w' : World} {v : Value} {l : List AT} {us : List Value} (h : OA lo w v l us) (hlo : lo' ≤ lo) (hk : ∀ k, lo ≤ k → k < w.heap.size → w'.heap[k]? = w.heap[k]?) : OA lo' w' v l us :=
  ⟨h.len, own_of h.row hlo (fun k e hl => hk k hl (h.row.lt k e).2), fun j hj => (h.val j hj).keep (fun k e hl => hk k (h.vlo j hj k e) hl), fun j hj k e => Nat.le_trans hlo (h.vlo j hj k e), h.ap, h.av⟩
theorem OA.below {lo : Nat} {w w' : World} {v : Value} {l : List AT} {us : List Value} (h : OA lo w v l us) (hb : Below w.heap.size w w') : OA lo w' v l us := h.keep (Nat.le_refl _) (fun k _ hl => hb.block k hl)

theorem own_bat {w : World} {base : Nat} {u : Value} {l : List Int} (h : w.ownsRow base 5 1 u l.length (bcs l)) : ∃ p c, u = .slice p l.length c ∧ BAt w p l := (OB.of_own h).1.len

theorem OA.at {lo : Nat} {w : World} {v : Value} {l : List AT} {us : List Value} (h : OA lo w v l us) : ∃ a c, v = .slice a l.length c ∧ AAt w a l := by
  rcases h.row.2 with ⟨rfl, h0⟩ | ⟨g, cap, cur, rfl, hg, hh, hc, hm, hs, ht⟩
  · exact ⟨none, 0, by rw [h0], .inl (List.eq_nil_of_length_eq_zero h0)⟩
  · refine ⟨_, _, rfl, .inr ⟨g, 0, rfl, ?_, fun k hk => ?_⟩⟩
    · exact Nat.lt_of_not_le fun hn => by rw [Array.getElem?_eq_none hn] at hh; cases hh
    · obtain ⟨h1, h2⟩ := acs_get l us k h.len hk
      obtain ⟨p, c, e, hb⟩ := (h.val k hk).len
      rw [← ht] at h1 h2
      rw [List.getElem?_take_of_lt (by omega)] at h1 h2
      have q : ∀ i, w.cell? ⟨g, i, none⟩ = cur[i]? := fun i => Lib.cell_of_heap hh i
      refine ⟨by rw [q, Nat.zero_add, ← h1]; simp, p, c, ?_, hb⟩
      rw [q, Nat.zero_add, ← e, ← h2]; simp

/-- One more, put behind. -/
theorem OA.app {lo : Nat} {w w1 w2 : World} {v v' u : Value} {l : List AT} {us : List Value} {a : AT} (h : OA lo w v l us) (hw : Below w.heap.size w w1) (hu : OB w1 u a.vl) (hlo : lo ≤ w.heap.size) (hn : ∀ k, u.ownBlock = some k → w.heap.size ≤ k)
    (ho : w2.ownsRow lo 54 2 v' (l.length + 1) (acs l us ++ [.string a.nm, u])) (hg : w1.grownBy w2 v.ownBlock) (hv : v'.ownBlock = v.ownBlock ∨ v'.ownBlock = some w1.heap.size) : OA lo w2 v' (l ++ [a]) (us ++ [u]) := by
  have g1 : ∀ j, j < l.length → (us ++ [u]).getD j undef = us.getD j undef := fun j hj => by simp [List.getD_eq_getElem?_getD, List.getElem?_append_left (h.len.symm ▸ hj)]
  have g2 : (us ++ [u]).getD l.length undef = u := by simp [List.getD_eq_getElem?_getD, ← h.len]
  have a1 : ∀ j, j < l.length → atK (l ++ [a]) j = atK l j := fun j hj => by simp [atK, List.getD_eq_getElem?_getD, List.getElem?_append_left hj]
  have a2 : atK (l ++ [a]) l.length = a := by simp [atK, List.getD_eq_getElem?_getD]
  have old : ∀ j, j < l.length → ∀ k, (us.getD j undef).ownBlock = some k → k < w.heap.size := fun j hj k e => (h.val j hj).lt k e
  have vold : ∀ k, v.ownBlock = some k → k < w.heap.size := fun k e => (h.row.lt k e).2
  have ult : ∀ k, u.ownBlock = some k → k < w1.heap.size := fun k e => hu.lt k e
  have sz := hw.size
  have hvl : ∀ j, j < l.length → OB w2 (us.getD j undef) (atK l j).vl := fun j hj =>
    (h.val j hj).keep (fun k e _ => by
      rw [hg.block k (by have := old j hj k e; omega) (fun e2 => h.av j hj k e2.symm e), hw.block k (old j hj k e)])
  have huv : OB w2 u a.vl :=
    hu.keep (fun k e _ => hg.block k (ult k e) (fun e2 => by have := vold k e2.symm; have := hn k e; omega))
  refine ⟨by simp [h.len], ?_, fun j hj => ?_, fun j hj k e => ?_, fun i j hij hj => ?_, fun j hj => ?_⟩
  · rw [acs_snoc _ _ _ _ h.len, List.length_append]; exact ho
  · rw [List.length_append] at hj
    by_cases e : j = l.length
    · subst e; rw [g2, a2]; exact huv
    · rw [g1 j (by simp at hj; omega), a1 j (by simp at hj; omega)]; exact hvl j (by simp at hj; omega)
  · rw [List.length_append] at hj
    by_cases ej : j = l.length
    · subst ej; rw [g2] at e; have := hn k e; omega
    · rw [g1 j (by simp at hj; omega)] at e; exact h.vlo j (by simp at hj; omega) k e
  · rw [List.length_append] at hj
    rw [g1 i (by simp at hj; omega)]
    by_cases e : j = l.length
    · subst e; rw [g2]; intro k e1 e2; have := old i hij k e1; have := hn k e2; omega
    · rw [g1 j (by simp at hj; omega)]; exact h.ap i j hij (by simp at hj; omega)
  · rw [List.length_append] at hj
    intro k e1 e2
    rcases hv with hv | hv
    · rw [hv] at e1
      by_cases e : j = l.length
      · subst e; rw [g2] at e2; have := vold k e1; have := hn k e2; omega
      · rw [g1 j (by simp at hj; omega)] at e2; exact h.av j (by simp at hj; omega) k e1 e2
    · rw [hv] at e1
      cases e1
      by_cases e : j = l.length
      · subst e; rw [g2] at e2; have := ult _ e2; omega
      · rw [g1 j (by simp at hj; omega)] at e2; have := old j (by simp at hj; omega) _ e2; omega

theorem one_attr (w : World) (t : TypeId) (x y : Value) (g : Nat) (hg : w.heap.size = g) : ∀ j u, ([x, y] : List Value)[j]? = some u → (w.alloc (.cells #[x, y] t)).cell? ((⟨g, 0, none⟩ : Addr).add j) = some u := by
  intro j u h
  subst hg
  match j, h with
  | 0, h => cases h; simp [Addr.add]
  | 1, h => cases h; simp [Addr.add]
  | j + 2, h => simp at h

end Go.Proofs.YtcjaldjlcnedeaaDoor
