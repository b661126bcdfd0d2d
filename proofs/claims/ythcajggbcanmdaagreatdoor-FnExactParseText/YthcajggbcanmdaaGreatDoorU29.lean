/- Nodes in memory of one's own, that grow. Each block that is owned has a label: 0 the row of nodes, 1 what is open, 2 none of these, 2 j + 3 the attributes of the j-th, 2 j + 4 its text. -/
import Derived.Test.YthcajggbcanmdaaGreatDoorU28
set_option linter.unusedVariables false
set_option linter.unusedSimpArgs false
namespace Go.Proofs.YthcajggbcanmdaaGreatDoor
open Go.RowKit

def ncs (l : List ND) (va vt : Nat → Value) : Nat → List Value
  | 0 => []
  | k + 1 => ncs l va vt k ++ [.int .i64 (ndK l k).up, .string (ndK l k).tg, va k, vt k]

theorem ncs_len (l : List ND) (va vt : Nat → Value) : ∀ k, (ncs l va vt k).length = k * 4
  | 0 => rfl
  | k + 1 => by simp [ncs, ncs_len l va vt k]; omega

theorem ncs_get (l : List ND) (va vt : Nat → Value) : ∀ (k j i : Nat), j < k → i < 4 → (ncs l va vt k)[j * 4 + i]? = ([.int .i64 (ndK l j).up, .string (ndK l j).tg, va j, vt j] : List Value)[i]?
  | 0, _, _, h, _ => absurd h (Nat.not_lt_zero _)
  | k + 1, j, i, h, hi => by
    unfold ncs
    by_cases e : j = k
    · subst e
      rw [List.getElem?_append_right (by rw [ncs_len]; omega), ncs_len, show j * 4 + i - j * 4 = i by omega]
    · rw [List.getElem?_append_left (by rw [ncs_len]; omega)]
      exact ncs_get l va vt k j i (by omega) hi

theorem ncs_congr {l l' : List ND} {va va' vt vt' : Nat → Value} : ∀ {k : Nat}, (∀ j, j < k → (ndK l j).up = (ndK l' j).up ∧ (ndK l j).tg = (ndK l' j).tg ∧ va j = va' j ∧ vt j = vt' j) → ncs l va vt k = ncs l' va' vt' k
  | 0, _ => rfl
  | k + 1, h => by
    obtain ⟨h1, h2, h3, h4⟩ := h k (by omega)
    unfold ncs
    rw [ncs_congr (k := k) (fun j hj => h j (by omega)), h1, h2, h3, h4]

theorem ncs_set {l l' : List ND} {va vt vt' : Nat → Value} {n i : Nat} {x : Value} : ∀ {k : Nat}, n < k → i < 4 → (∀ j, j < k → ¬ j = n → (ndK l j).up = (ndK l' j).up ∧ (ndK l j).tg = (ndK l' j).tg ∧ vt j = vt' j) →
    ([.int .i64 (ndK l n).up, .string (ndK l n).tg, va n, vt n] : List Value).set i x = [.int .i64 (ndK l' n).up, .string (ndK l' n).tg, va n, vt' n] → (ncs l va vt k).set (n * 4 + i) x = ncs l' va vt' k
  | 0, h, _, _, _ => absurd h (Nat.not_lt_zero _)
  | k + 1, h, hi, ho, hs => by
    unfold ncs
    by_cases e : n = k
    · subst e
      rw [List.set_append_right _ _ (by rw [ncs_len]; omega), ncs_len, show n * 4 + i - n * 4 = i by omega, hs]
      congr 1
      exact ncs_congr (fun j hj => by obtain ⟨h1, h2, h3⟩ := ho j (by omega) (by omega); exact ⟨h1, h2, rfl, h3⟩)
    · rw [List.set_append_left _ _ (by rw [ncs_len]; omega), ncs_set (k := k) (by omega) hi (fun j hj => ho j (by omega)) hs]
      obtain ⟨h1, h2, h3⟩ := ho k (by omega) (fun e' => e e'.symm)
      rw [h1, h2, h3]

theorem ndK_left {l m : List ND} {j : Nat} (h : j < l.length) : ndK (l ++ m) j = ndK l j := by simp [ndK, List.getD_eq_getElem?_getD, List.getElem?_append_left h]
theorem ndK_end {l : List ND} {t : ND} : ndK (l ++ [t]) l.length = t := by simp [ndK, List.getD_eq_getElem?_getD]
theorem ndK_set {l : List ND} {i j : Nat} {t : ND} (h : i < l.length) : ndK (l.set i t) j = if j = i then t else ndK l j := by
  unfold ndK
  by_cases e : j = i
  · subst e; simp [List.getD_eq_getElem?_getD, h]
  · rw [if_neg e]; simp [List.getD_eq_getElem?_getD, List.getElem?_set, Ne.symm e]

structure Kp (p : Nat → Prop) (w w' : World) : Prop where
  os : w'.os = w.os
  tape : w'.tape = w.tape
  output : w'.output = w.output
  size : w.heap.size ≤ w'.heap.size
  block : ∀ k, k < w.heap.size → p k → w'.heap[k]? = w.heap[k]?

theorem Kp.refl (p : Nat → Prop) (w : World) : Kp p w w := ⟨rfl, rfl, rfl, Nat.le_refl _, fun _ _ _ => rfl⟩
theorem Kp.trans {p : Nat → Prop} {a b c : World} (h : Kp p a b) (k : Kp p b c) : Kp p a c :=
  ⟨k.os.trans h.os, k.tape.trans h.tape, k.output.trans h.output, Nat.le_trans h.size k.size, fun i hi hp => (k.block i (Nat.lt_of_lt_of_le hi h.size) hp).trans (h.block i hi hp)⟩
theorem Kp.mono {p q : Nat → Prop} {a b : World} (h : Kp p a b) (hq : ∀ k, q k → p k) : Kp q a b := ⟨h.os, h.tape, h.output, h.size, fun k hk e => h.block k hk (hq k e)⟩
theorem Kp.of_below {p : Nat → Prop} {a b : World} (h : Below a.heap.size a b) : Kp p a b := ⟨h.os, h.tape, h.output, h.size, fun k hk _ => h.block k hk⟩
theorem Kp.of_kept {p : Nat → Prop} {lo hi : Nat} {a b : World} (h : KeptIn lo hi a b) (hp : ∀ k, p k → k < lo ∨ hi ≤ k) : Kp p a b := ⟨h.os, h.tape, h.output, h.size, fun k hk e => h.block k hk (hp k e)⟩
theorem Kp.of_turned {p : Nat → Prop} {v : Value} {a b : World} (h : Turned v a b) (hp : ∀ k, p k → v.ownBlock ≠ some k) : Kp p a b := ⟨h.os, h.tape, h.output, h.size, fun k hk e => h.block k hk (hp k e)⟩
theorem Kp.of_grown {p : Nat → Prop} {r : Option Nat} {a b : World} (h : a.grownBy b r) (hp : ∀ k, p k → some k ≠ r) : Kp p a b := ⟨h.os, h.tape, h.output, h.size, fun k hk e => h.block k hk (hp k e)⟩
theorem Kp.setCell {p : Nat → Prop} {a w : World} (h : Kp p a w) {q : Addr} (hq : ¬ p q.block) (u : Value) : Kp p a (w.setCell q u) :=
  h.trans ⟨rfl, rfl, rfl, by simp [World.setCell], fun k hk e => Below.heap_setCell _ _ _ _ (fun e' => hq (e' ▸ e))⟩
theorem Kp.keptIn {p : Nat → Prop} {lo hi : Nat} {a b : World} (h : Kp p a b) (hp : ∀ k, k < lo ∨ hi ≤ k → p k) : KeptIn lo hi a b := ⟨h.os, h.tape, h.output, h.size, fun k hk e => h.block k hk (hp k e)⟩

theorem OA.keepOf {lo : Nat} {w w' : World} {v : Value} {l : List AT} {us : List Value} (h : OA lo w v l us) (hv : ∀ k, v.ownBlock = some k → k < w.heap.size → w'.heap[k]? = w.heap[k]?) (hu : ∀ i, i < l.length → ∀ k, (us.getD i undef).ownBlock = some k → k < w.heap.size → w'.heap[k]? = w.heap[k]?) : OA lo w' v l us :=
  ⟨h.len, own_of h.row (Nat.le_refl _) (fun k e _ => hv k e (h.row.lt k e).2), fun j hj => (h.val j hj).keep (fun k e hl => hu j hj k e hl), h.vlo, h.ap, h.av⟩

theorem OA.down {lo lo' : Nat} {w : World} {v : Value} {l : List AT} {us : List Value} (h : OA lo w v l us) (hl : lo' ≤ lo) : OA lo' w v l us := h.keep hl (fun _ _ _ => rfl)

structure NS (τ : Nat → Nat) (lo : Nat) (w : World) (v : Value) (l : List ND) (va vt : Nat → Value) (us : Nat → List Value) : Prop where
  row : w.ownsRow lo 91 4 v l.length (ncs l va vt l.length)
  att : ∀ j, j < l.length → OA lo w (va j) (ndK l j).at_ (us j)
  txt : ∀ j, j < l.length → w.ownsRow lo 5 1 (vt j) (ndK l j).tx.length (bcs (ndK l j).tx)
  rl : ∀ k, v.ownBlock = some k → τ k = 0
  al : ∀ j, j < l.length → ∀ k, (va j).ownBlock = some k → τ k = 2 * j + 3
  ul : ∀ j, j < l.length → ∀ i, i < (ndK l j).at_.length → ∀ k, ((us j).getD i undef).ownBlock = some k → τ k = 2 * j + 3
  tl : ∀ j, j < l.length → ∀ k, (vt j).ownBlock = some k → τ k = 2 * j + 4

theorem NS.keep {τ : Nat → Nat} {lo : Nat} {w w' : World} {v : Value} {l : List ND} {va vt : Nat → Value} {us : Nat → List Value} (h : NS τ lo w v l va vt us) (hk : Kp (fun k => τ k = 0 ∨ 3 ≤ τ k) w w') : NS τ lo w' v l va vt us := by
  refine ⟨own_of h.row (Nat.le_refl _) (fun k e _ => hk.block k (h.row.lt k e).2 (.inl (h.rl k e))), fun j hj => (h.att j hj).keepOf (fun k e hl => hk.block k hl (.inr (by have := h.al j hj k e; omega))) (fun i hi k e hl => hk.block k hl (.inr (by have := h.ul j hj i hi k e; omega))), fun j hj => own_of (h.txt j hj) (Nat.le_refl _) (fun k e _ => hk.block k ((h.txt j hj).lt k e).2 (.inr (by have := h.tl j hj k e; omega))), h.rl, h.al, h.ul, h.tl⟩

theorem NS.below {τ : Nat → Nat} {lo : Nat} {w w' : World} {v : Value} {l : List ND} {va vt : Nat → Value} {us : Nat → List Value} (h : NS τ lo w v l va vt us) (hb : Below w.heap.size w w') : NS τ lo w' v l va vt us := h.keep (Kp.of_below hb)

theorem NS.relabel {τ τ' : Nat → Nat} {lo : Nat} {w : World} {v : Value} {l : List ND} {va vt : Nat → Value} {us : Nat → List Value} (h : NS τ lo w v l va vt us) (ht : ∀ k, lo ≤ k → k < w.heap.size → τ' k = τ k) : NS τ' lo w v l va vt us := by
  refine ⟨h.row, h.att, h.txt, fun k e => ?_, fun j hj k e => ?_, fun j hj i hi k e => ?_, fun j hj k e => ?_⟩
  · have := h.row.lt k e; rw [ht k this.1 this.2]; exact h.rl k e
  · have := (h.att j hj).row.lt k e; rw [ht k this.1 this.2]; exact h.al j hj k e
  · rw [ht k ((h.att j hj).vlo i hi k e) (((h.att j hj).val i hi).lt k e)]; exact h.ul j hj i hi k e
  · have := (h.txt j hj).lt k e; rw [ht k this.1 this.2]; exact h.tl j hj k e

theorem NS.nil (τ : Nat → Nat) (lo : Nat) (w : World) (va vt : Nat → Value) (us : Nat → List Value) : NS τ lo w (.slice none 0 0) [] va vt us :=
  ⟨⟨rfl, .inl ⟨rfl, rfl⟩⟩, fun j h => absurd h (Nat.not_lt_zero _), fun j h => absurd h (Nat.not_lt_zero _), fun k e => by simp [Value.ownBlock] at e, fun j h => absurd h (Nat.not_lt_zero _), fun j h => absurd h (Nat.not_lt_zero _), fun j h => absurd h (Nat.not_lt_zero _)⟩

theorem NS.app {τ : Nat → Nat} {lo lo1 : Nat} {w w1 w2 : World} {v v' : Value} {l : List ND} {va vt : Nat → Value} {us : Nat → List Value} (h : NS τ lo w v l va vt us) (hw : Below w.heap.size w w1) {t : ND} {a x : Value} {u : List Value} (ha : OA lo1 w1 a t.at_ u) (h1 : w.heap.size ≤ lo1) (hx : w1.ownsRow lo1 5 1 x t.tx.length (bcs t.tx))
    (hap : ∀ k, x.ownBlock = some k → a.ownBlock ≠ some k ∧ ∀ i, i < t.at_.length → (u.getD i undef).ownBlock ≠ some k) (hlo : lo ≤ w.heap.size)
    (ho : w2.ownsRow lo 91 4 v' (l.length + 1) (ncs l va vt l.length ++ [.int .i64 t.up, .string t.tg, a, x])) (hg : w1.grownBy w2 v.ownBlock) (hv : v'.ownBlock = v.ownBlock ∨ v'.ownBlock = some w1.heap.size) :
    ∃ τ' va' vt' us', NS τ' lo w2 v' (l ++ [t]) va' vt' us' ∧ ∀ k, k < w.heap.size → τ' k = τ k := by
  classical
  have sz := hw.size
  have vold : ∀ k, v.ownBlock = some k → k < w.heap.size := fun k e => (h.row.lt k e).2
  have nu : ∀ k, w.heap.size ≤ k → some k ≠ v.ownBlock := fun k hk e => by have := vold k e.symm; omega
  have K1 : Kp (fun k => k < w.heap.size ∧ some k ≠ v.ownBlock) w w2 := ((Kp.of_below hw).trans (Kp.of_grown hg (fun k e => e.2)))
  have K2 : Kp (fun k => w.heap.size ≤ k) w1 w2 := Kp.of_grown hg (fun k e => nu k e)
  let τ' : Nat → Nat := fun k => if k < w.heap.size then τ k else if x.ownBlock = some k then 2 * l.length + 4 else if k < w1.heap.size then 2 * l.length + 3 else 0
  have t1 : ∀ k, k < w.heap.size → τ' k = τ k := fun k hk => by show (if _ then _ else _) = _; rw [if_pos hk]
  refine ⟨τ', fun j => if j = l.length then a else va j, fun j => if j = l.length then x else vt j, fun j => if j = l.length then u else us j, ⟨?_, fun j hj => ?_, fun j hj => ?_, fun k e => ?_, fun j hj k e => ?_, fun j hj i hi k e => ?_, fun j hj k e => ?_⟩, t1⟩
  · have e1 : (l ++ [t]).length = l.length + 1 := by simp
    have e2 : ncs (l ++ [t]) (fun j => if j = l.length then a else va j) (fun j => if j = l.length then x else vt j) (l.length + 1) = ncs l va vt l.length ++ [.int .i64 t.up, .string t.tg, a, x] := by
      have e3 : ncs (l ++ [t]) (fun j => if j = l.length then a else va j) (fun j => if j = l.length then x else vt j) l.length = ncs l va vt l.length := ncs_congr (fun j hj => by
        have hne : ¬ j = l.length := by omega
        exact ⟨by rw [ndK_left hj], by rw [ndK_left hj], if_neg hne, if_neg hne⟩)
      show ncs (l ++ [t]) _ _ l.length ++ [.int .i64 (ndK (l ++ [t]) l.length).up, .string (ndK (l ++ [t]) l.length).tg, (if l.length = l.length then a else va l.length), (if l.length = l.length then x else vt l.length)] = _
      rw [e3, ndK_end, if_pos rfl, if_pos rfl]
    rw [e1, e2]; exact ho
  · simp only [List.length_append, List.length_cons, List.length_nil] at hj
    by_cases e : j = l.length
    · subst e
      simp only [if_true]
      rw [ndK_end]
      exact (ha.keepOf (fun k e hl => K2.block k hl (by have := (ha.row.lt k e).1; omega)) (fun i hi k e hl => K2.block k hl (by have := ha.vlo i hi k e; omega))).down (by omega)
    · have hj' : j < l.length := by omega
      simp only [e, if_false]
      rw [ndK_left hj']
      have hh := h.att j hj'
      refine hh.keepOf (fun k e hl => K1.block k hl ⟨hl, fun e2 => ?_⟩) (fun i hi k e hl => K1.block k hl ⟨hl, fun e2 => ?_⟩)
      · have := h.rl k e2.symm; have := h.al j hj' k e; omega
      · have := h.rl k e2.symm; have := h.ul j hj' i hi k e; omega
  · simp only [List.length_append, List.length_cons, List.length_nil] at hj
    by_cases e : j = l.length
    · subst e
      simp only [if_true]
      rw [ndK_end]
      exact own_of hx (by omega) (fun k e hl => K2.block k (hx.lt k e).2 (by omega))
    · have hj' : j < l.length := by omega
      simp only [e, if_false]
      rw [ndK_left hj']
      exact own_of (h.txt j hj') (Nat.le_refl _) (fun k e _ => by
        have hl := ((h.txt j hj').lt k e).2
        exact K1.block k hl ⟨hl, fun e2 => by have := h.rl k e2.symm; have := h.tl j hj' k e; omega⟩)
  · rcases hv with hv | hv
    · rw [hv] at e; rw [t1 k (vold k e)]; exact h.rl k e
    · rw [hv] at e
      cases e
      show (if _ then _ else _) = _
      rw [if_neg (by omega), if_neg (fun e3 => by have := (hx.lt _ e3).2; omega), if_neg (by omega)]
  · simp only [List.length_append, List.length_cons, List.length_nil] at hj
    by_cases ej : j = l.length
    · subst ej
      simp only [if_true] at e
      have := ha.row.lt k e
      show (if _ then _ else _) = _
      rw [if_neg (by omega), if_neg (fun e3 => (hap k e3).1 e), if_pos this.2]
    · have hj' : j < l.length := by omega
      simp only [ej, if_false] at e
      rw [t1 k ((h.att j hj').row.lt k e).2]; exact h.al j hj' k e
  · simp only [List.length_append, List.length_cons, List.length_nil] at hj
    by_cases ej : j = l.length
    · subst ej
      simp only [if_true] at e
      rw [ndK_end] at hi
      have q1 := ha.vlo i hi k e
      have q2 := (ha.val i hi).lt k e
      show (if _ then _ else _) = _
      rw [if_neg (by omega), if_neg (fun e3 => (hap k e3).2 i hi e), if_pos q2]
    · have hj' : j < l.length := by omega
      simp only [ej, if_false] at e
      rw [ndK_left hj'] at hi
      rw [t1 k (((h.att j hj').val i hi).lt k e)]; exact h.ul j hj' i hi k e
  · simp only [List.length_append, List.length_cons, List.length_nil] at hj
    by_cases ej : j = l.length
    · subst ej
      simp only [if_true] at e
      have := hx.lt k e
      show (if _ then _ else _) = _
      rw [if_neg (by omega), if_pos e]
    · have hj' : j < l.length := by omega
      simp only [ej, if_false] at e
      rw [t1 k ((h.txt j hj').lt k e).2]; exact h.tl j hj' k e

theorem own_cellN {w : World} {base g n cap size : Nat} {e : TypeId} {xs : List Value} (h : w.ownsRow base e size (.slice (some ⟨g, 0, none⟩) n cap) n xs) (j : Nat) (hj : j < n * size) (x : Value) : (w.setCell ⟨g, j, none⟩ x).ownsRow base e size (.slice (some ⟨g, 0, none⟩) n cap) n (xs.set j x) := by
  refine ⟨by rw [List.length_set]; exact h.1, .inr ?_⟩
  rcases h.2 with ⟨h0, _⟩ | ⟨g', cap', cur, hv, hg, hh, hc, hm, hs, ht⟩
  · cases h0
  · cases hv
    refine ⟨g, cap, cur.setIfInBounds j x, rfl, hg, ?_, hc, hm, by simpa using hs, ?_⟩
    · simp [World.setCell, Array.getElem?_modify, hh]
    · rw [← ht]
      simp [List.take_set]

def setTx (l : List ND) (n : Nat) (b : Int) : List ND := l.set n ⟨(ndK l n).up, (ndK l n).tg, (ndK l n).at_, (ndK l n).tx ++ [b]⟩

theorem NS.grow {τ : Nat → Nat} {lo g cap n : Nat} {w w1 : World} {x' : Value} {l : List ND} {va vt : Nat → Value} {us : Nat → List Value} (h : NS τ lo w (.slice (some ⟨g, 0, none⟩) l.length cap) l va vt us) (hn : n < l.length) (b : Int) (hlo : lo ≤ w.heap.size)
    (ho : w1.ownsRow lo 5 1 x' ((ndK l n).tx.length + 1) (bcs ((ndK l n).tx ++ [b]))) (hg : w.grownBy w1 (vt n).ownBlock) (hx : x'.ownBlock = (vt n).ownBlock ∨ x'.ownBlock = some w.heap.size) :
    ∃ τ' vt', NS τ' lo (w1.setCell ⟨g, n * 4 + 3, none⟩ x') (.slice (some ⟨g, 0, none⟩) l.length cap) (setTx l n b) va vt' us ∧ ∀ k, k < w.heap.size → τ' k = τ k := by
  have hgl : g < w.heap.size ∧ lo ≤ g := by have := h.row.lt g rfl; omega
  have g0 : τ g = 0 := h.rl g rfl
  have tn : ∀ k, (vt n).ownBlock = some k → τ k = 2 * n + 4 ∧ k < w.heap.size := fun k e => ⟨h.tl n hn k e, ((h.txt n hn).lt k e).2⟩
  have KR : Kp (fun k => ¬ τ k = 2 * n + 4) w w1 := Kp.of_grown hg (fun k e e2 => e (tn k e2.symm).1)
  have KK : Kp (fun k => ¬ τ k = 2 * n + 4 ∧ ¬ τ k = 0) w (w1.setCell ⟨g, n * 4 + 3, none⟩ x') := (KR.mono (fun k e => e.1)).setCell (q := ⟨g, n * 4 + 3, none⟩) (fun e => e.2 g0) x'
  have len : (setTx l n b).length = l.length := by unfold setTx; rw [List.length_set]
  have nd : ∀ j, ndK (setTx l n b) j = if j = n then ⟨(ndK l n).up, (ndK l n).tg, (ndK l n).at_, (ndK l n).tx ++ [b]⟩ else ndK l j := fun j => ndK_set hn
  have natt : ∀ j, (ndK (setTx l n b) j).at_ = (ndK l j).at_ := fun j => by
    rw [nd]; by_cases e : j = n
    · subst e; rw [if_pos rfl]
    · rw [if_neg e]
  have ne : ∀ k, x'.ownBlock = some k → ¬ k = g := fun k e eg => by
    subst eg
    rcases hx with hx | hx
    · rw [hx] at e; have := (tn _ e).1; omega
    · rw [hx] at e; cases e; omega
  refine ⟨fun k => if k < w.heap.size then τ k else 2 * n + 4, fun j => if j = n then x' else vt j, ⟨?_, fun j hj => ?_, fun j hj => ?_, fun k e => ?_, fun j hj k e => ?_, fun j hj i hi k e => ?_, fun j hj k e => ?_⟩, fun k hk => if_pos hk⟩
  · have R1 : w1.ownsRow lo 91 4 (.slice (some ⟨g, 0, none⟩) l.length cap) l.length (ncs l va vt l.length) := own_of h.row (Nat.le_refl _) (fun k e _ => KR.block k (h.row.lt k e).2 (by have := h.rl k e; omega))
    have R2 := own_cellN R1 (n * 4 + 3) (by omega) x'
    rw [ncs_set (l' := setTx l n b) (vt' := fun j => if j = n then x' else vt j) hn (by omega) (fun j hj e => by rw [nd j, if_neg e, if_neg e]; exact ⟨rfl, rfl, rfl⟩) (by rw [nd n, if_pos rfl, if_pos rfl]; rfl)] at R2
    rw [len]; exact R2
  · rw [len] at hj
    rw [natt]
    exact (h.att j hj).keepOf (fun k e hl => KK.block k hl (by have := h.al j hj k e; omega)) (fun i hi k e hl => KK.block k hl (by have := h.ul j hj i hi k e; omega))
  · rw [len] at hj
    rw [nd j]
    by_cases e : j = n
    · subst e
      simp only [if_true]
      rw [List.length_append]
      exact own_of ho (Nat.le_refl _) (fun k e _ => Below.heap_setCell _ _ _ _ (fun e' => ne k e e'))
    · simp only [e, if_false]
      exact own_of (h.txt j hj) (Nat.le_refl _) (fun k e' _ => KK.block k ((h.txt j hj).lt k e').2 (by have := h.tl j hj k e'; omega))
  · have := (h.row.lt k e).2
    show (if _ then _ else _) = _
    rw [if_pos this]; exact h.rl k e
  · rw [len] at hj
    have := ((h.att j hj).row.lt k e).2
    show (if _ then _ else _) = _
    rw [if_pos this]; exact h.al j hj k e
  · rw [len] at hj
    rw [natt] at hi
    have := ((h.att j hj).val i hi).lt k e
    show (if _ then _ else _) = _
    rw [if_pos this]; exact h.ul j hj i hi k e
  · rw [len] at hj
    show (if _ then _ else _) = _
    by_cases ej : j = n
    · subst ej
      simp only [if_true] at e
      rcases hx with hx | hx
      · rw [hx] at e; rw [if_pos (tn k e).2]; exact (tn k e).1
      · rw [hx] at e; cases e; rw [if_neg (by omega)]
    · simp only [ej, if_false] at e
      rw [if_pos ((h.txt j hj).lt k e).2]; exact h.tl j hj k e

end Go.Proofs.YthcajggbcanmdaaGreatDoor

namespace Go.Proofs.YthcajggbcanmdaaGreatDoor
open Go.RowKit

def bigS : BS := ⟨[], [], true⟩

def addX (s : BS) (tg : ByteArray) (at_ : List AT) (tx : List Int) : BS :=
  if 60 ≤ s.nd.length then bigS else ⟨s.nd ++ [⟨aheadI s.op s.op.length, tg, at_, tx⟩], s.op, s.lg⟩

def textB (s : BS) : Bool := decide (0 < s.nd.length) && (((ndK s.nd (s.nd.length - 1)).tg.toList == []) && decide ((ndK s.nd (s.nd.length - 1)).up = aheadI s.op s.op.length))

def byteX (s : BS) (b : Int) : BS :=
  if textB s = true then (if 240 ≤ (ndK s.nd (s.nd.length - 1)).tx.length then bigS else ⟨setTx s.nd (s.nd.length - 1) b, s.op, s.lg⟩) else addX s ⟨#[]⟩ [] [b]

def clK (nd : List ND) (op : List Int) (nm : ByteArray) : Nat → Option Nat
  | 0 => none
  | k + 1 => if ((ndK nd (wv op k).toNat).tg.toList == nm.toList) = true then some k else clK nd op nm k

def closeX (s : BS) (nm : ByteArray) : BS :=
  match clK s.nd s.op nm s.op.length with
  | some k => ⟨s.nd, s.op.take k, s.lg⟩
  | none => s

def pBt (nm : ByteArray) : Bool := nm.toList == [112]

def start0 (s : BS) (nm : ByteArray) : BS := if pBt nm = true then closeX s nm else s

def openX (s : BS) (nm : ByteArray) (sh : Bool) (n : Nat) : BS := if s.lg = false ∧ voidB nm = false ∧ sh = false then ⟨s.nd, s.op ++ [(n : Int)], s.lg⟩ else s

def startX (s : BS) (nm : ByteArray) (at_ : List AT) (sh : Bool) : BS :=
  if 7 ≤ (start0 s nm).op.length then start0 s nm else openX (addX (start0 s nm) nm at_ []) nm sh (start0 s nm).nd.length

def putX (s : BS) (t : TK) : BS :=
  if s.lg = true then s else if t.kd = 1 then byteX s t.by_ else if t.kd = 2 then startX s t.nm t.at_ t.sh else if t.kd = 3 then closeX s t.nm else s

structure GS (s : BS) : Prop where
  n : s.nd.length ≤ 60
  o : s.op.length ≤ 7
  pl : ∀ j, j < s.op.length → 0 ≤ wv s.op j ∧ wv s.op j < (s.nd.length : Int)
  tx : ∀ j, j < s.nd.length → (ndK s.nd j).tx.length ≤ 240
  lg : s.lg = true → s.nd = [] ∧ s.op = []

theorem gs_big : GS bigS := ⟨by simp [bigS], by simp [bigS], fun j h => absurd h (Nat.not_lt_zero _), fun j h => absurd h (Nat.not_lt_zero _), fun _ => ⟨rfl, rfl⟩⟩

theorem gs_of {s : BS} (h : bldF s = 0) : GS s := by
  unfold bldF at h
  by_cases ht : treeF s.nd = 0
  rotate_left
  · rw [if_neg ht] at h; exact absurd h ht
  rw [if_pos ht] at h
  by_cases hb : s.lg = true ∧ (0 < s.nd.length ∨ 0 < s.op.length)
  · rw [if_pos hb] at h; exact absurd h (by decide)
  rw [if_neg hb] at h
  unfold restF at h
  by_cases ho : opensF s.nd s.op = 0
  rotate_left
  · rw [if_neg ho] at h; exact absurd h ho
  rw [if_pos ho] at h
  by_cases h7 : 7 < s.op.length
  · rw [if_pos h7] at h; exact absurd h (by decide)
  refine ⟨treeF_len ht, by omega, fun j hj => ?_, fun j hj => ?_, fun hl => ?_⟩
  · have := firstF_zero _ _ _ ho j hj
    rw [Nat.zero_add] at this
    by_cases hr : 0 ≤ wv s.op j ∧ wv s.op j < (s.nd.length : Int)
    · exact hr
    · rw [openF_out hr] at this; exact absurd this (by decide)
  · have hk := mark_kind (one_mark (treeF_ones ht j hj))
    unfold kindB at hk
    by_cases e : ((ndK s.nd j).tg.toList == []) = true
    · rw [if_pos e] at hk
      simp only [Bool.and_eq_true, decide_eq_true_eq] at hk
      omega
    · rw [if_neg e] at hk
      have := of_decide_eq_true hk
      omega
  · have h1 : ¬ 0 < s.nd.length := fun h => hb ⟨hl, .inl h⟩
    have h2 : ¬ 0 < s.op.length := fun h => hb ⟨hl, .inr h⟩
    exact ⟨List.eq_nil_of_length_eq_zero (by omega), List.eq_nil_of_length_eq_zero (by omega)⟩

theorem gs_add {s : BS} (h : GS s) (hl : s.lg = false) {tg : ByteArray} {at_ : List AT} {tx : List Int} (hx : tx.length ≤ 240) : GS (addX s tg at_ tx) := by
  unfold addX
  by_cases h6 : 60 ≤ s.nd.length
  · rw [if_pos h6]; exact gs_big
  · rw [if_neg h6]
    refine ⟨by simp; omega, h.o, fun j hj => ?_, fun j hj => ?_, fun e => absurd (hl.symm.trans e) (by decide)⟩
    · have := h.pl j hj; simp; omega
    · simp only [List.length_append, List.length_cons, List.length_nil] at hj
      by_cases e : j = s.nd.length
      · subst e; rw [ndK_end]; exact hx
      · rw [ndK_left (by omega)]; exact h.tx j (by omega)

theorem setTx_len (l : List ND) (n : Nat) (b : Int) : (setTx l n b).length = l.length := by unfold setTx; rw [List.length_set]

theorem gs_byte {s : BS} (h : GS s) (hl : s.lg = false) (b : Int) : GS (byteX s b) := by
  unfold byteX
  by_cases ht : textB s = true
  · rw [if_pos ht]
    by_cases h2 : 240 ≤ (ndK s.nd (s.nd.length - 1)).tx.length
    · rw [if_pos h2]; exact gs_big
    · rw [if_neg h2]
      have h0 : 0 < s.nd.length := by
        unfold textB at ht; rw [Bool.and_eq_true] at ht; exact of_decide_eq_true ht.1
      refine ⟨by rw [setTx_len]; exact h.n, h.o, fun j hj => by rw [setTx_len]; exact h.pl j hj, fun j hj => ?_, fun e => absurd (hl.symm.trans e) (by decide)⟩
      rw [setTx_len] at hj
      unfold setTx
      rw [ndK_set (by omega)]
      by_cases e : j = s.nd.length - 1
      · subst e; rw [if_pos rfl]; simp; omega
      · rw [if_neg e]; exact h.tx j hj
  · rw [if_neg ht]; exact gs_add h hl (by simp)

theorem clK_lt {nd : List ND} {op : List Int} {nm : ByteArray} : ∀ {n k : Nat}, clK nd op nm n = some k → k < n
  | 0, _, h => by simp [clK] at h
  | n + 1, k, h => by
    unfold clK at h
    split at h
    · cases h; omega
    · have := clK_lt h; omega

theorem close_cases (s : BS) (nm : ByteArray) : (clK s.nd s.op nm s.op.length = none ∧ closeX s nm = s) ∨ ∃ k, clK s.nd s.op nm s.op.length = some k ∧ k < s.op.length ∧ closeX s nm = ⟨s.nd, s.op.take k, s.lg⟩ := by
  unfold closeX
  cases h : clK s.nd s.op nm s.op.length with
  | none => exact .inl ⟨rfl, rfl⟩
  | some k => exact .inr ⟨k, rfl, clK_lt h, rfl⟩

theorem gs_close {s : BS} (h : GS s) (nm : ByteArray) : GS (closeX s nm) := by
  rcases close_cases s nm with ⟨_, e⟩ | ⟨k, _, hk, e⟩
  · rw [e]; exact h
  · rw [e]
    have ln : (s.op.take k).length = k := by rw [List.length_take]; omega
    refine ⟨h.n, by have := h.o; rw [ln]; omega, fun j hj => ?_, h.tx, fun hl => ?_⟩
    · rw [ln] at hj
      have : wv (s.op.take k) j = wv s.op j := wv_take hj
      rw [this]; exact h.pl j (by omega)
    · obtain ⟨h1, h2⟩ := h.lg hl
      exact ⟨h1, by rw [h2]; simp⟩

theorem close_nd (s : BS) (nm : ByteArray) : (closeX s nm).nd = s.nd ∧ (closeX s nm).lg = s.lg := by
  rcases close_cases s nm with ⟨_, e⟩ | ⟨k, _, _, e⟩ <;> rw [e] <;> exact ⟨rfl, rfl⟩

theorem start0_nd (s : BS) (nm : ByteArray) : (start0 s nm).nd = s.nd ∧ (start0 s nm).lg = s.lg := by
  unfold start0
  by_cases e : pBt nm = true
  · rw [if_pos e]; exact close_nd s nm
  · rw [if_neg e]; exact ⟨rfl, rfl⟩

theorem gs_start0 {s : BS} (h : GS s) (nm : ByteArray) : GS (start0 s nm) := by
  unfold start0
  by_cases e : pBt nm = true
  · rw [if_pos e]; exact gs_close h nm
  · rw [if_neg e]; exact h

theorem gs_start {s : BS} (h : GS s) (hl : s.lg = false) (nm : ByteArray) (at_ : List AT) (sh : Bool) : GS (startX s nm at_ sh) := by
  unfold startX
  have h0 := gs_start0 h nm
  have hl0 : (start0 s nm).lg = false := (start0_nd s nm).2.trans hl
  by_cases h7 : 7 ≤ (start0 s nm).op.length
  · rw [if_pos h7]; exact h0
  · rw [if_neg h7]
    have h1 := gs_add h0 hl0 (tg := nm) (at_ := at_) (tx := []) (by simp)
    unfold openX
    by_cases e : (addX (start0 s nm) nm at_ []).lg = false ∧ voidB nm = false ∧ sh = false
    · rw [if_pos e]
      have ne : ¬ 60 ≤ (start0 s nm).nd.length := fun h6 => by
        have := e.1; unfold addX at this; rw [if_pos h6] at this; exact absurd this (by simp [bigS])
      have ea : addX (start0 s nm) nm at_ [] = ⟨(start0 s nm).nd ++ [⟨aheadI (start0 s nm).op (start0 s nm).op.length, nm, at_, []⟩], (start0 s nm).op, (start0 s nm).lg⟩ := by unfold addX; rw [if_neg ne]
      refine ⟨h1.n, ?_, fun j hj => ?_, h1.tx, fun hl' => absurd (e.1.symm.trans hl') (by decide)⟩
      · rw [ea]; simp; omega
      · rw [ea] at hj ⊢
        simp only [List.length_append, List.length_cons, List.length_nil] at hj ⊢
        by_cases ej : j = (start0 s nm).op.length
        · subst ej; rw [wv_end]; omega
        · rw [wv_left (by omega)]; have := h0.pl j (by omega); omega
    · rw [if_neg e]; exact h1

theorem gs_put {s : BS} (h : GS s) (t : TK) : GS (putX s t) := by
  unfold putX
  by_cases hl : s.lg = true
  · rw [if_pos hl]; exact h
  · rw [if_neg hl]
    have hl' : s.lg = false := by simpa using hl
    by_cases h1 : t.kd = 1
    · rw [if_pos h1]; exact gs_byte h hl' _
    · rw [if_neg h1]
      by_cases h2 : t.kd = 2
      · rw [if_pos h2]; exact gs_start h hl' _ _ _
      · rw [if_neg h2]
        by_cases h3 : t.kd = 3
        · rw [if_pos h3]; exact gs_close h _
        · rw [if_neg h3]; exact h

def nS (s : BS) : Nat := s.nd.length + nssz s.nd
def tS (t : TK) : Nat := t.nm.size + t.at_.length + asz t.at_

theorem nssz_snoc (l : List ND) (t : ND) : nssz (l ++ [t]) = nssz l + nsz t := by
  induction l with
  | nil => simp [nssz]
  | cons x r ih => simp only [List.cons_append, nssz, ih]; omega

theorem nssz_set (l : List ND) : ∀ (n : Nat) (t : ND), n < l.length → nssz (l.set n t) + nsz (ndK l n) = nssz l + nsz t := by
  induction l with
  | nil => intro n t h; exact absurd h (Nat.not_lt_zero _)
  | cons x r ih =>
    intro n t h
    cases n with
    | zero => simp [nssz, ndK]; omega
    | succ n =>
      have := ih n t (by simpa using h)
      have e : ndK (x :: r) (n + 1) = ndK r n := by simp [ndK]
      simp only [List.set_cons_succ, nssz]
      rw [e]; omega

theorem nS_add (s : BS) (tg : ByteArray) (at_ : List AT) (tx : List Int) : nS (addX s tg at_ tx) ≤ nS s + 1 + tg.size + at_.length + asz at_ + tx.length := by
  unfold addX
  by_cases h6 : 60 ≤ s.nd.length
  · rw [if_pos h6]; simp [nS, bigS, nssz]
  · rw [if_neg h6]
    unfold nS
    simp only [List.length_append, List.length_cons, List.length_nil]
    rw [nssz_snoc]
    simp only [nsz]
    omega

theorem nS_byte (s : BS) (b : Int) : nS (byteX s b) ≤ nS s + 2 := by
  unfold byteX
  by_cases ht : textB s = true
  · rw [if_pos ht]
    by_cases h2 : 240 ≤ (ndK s.nd (s.nd.length - 1)).tx.length
    · rw [if_pos h2]; simp [nS, bigS, nssz]
    · rw [if_neg h2]
      have h0 : 0 < s.nd.length := by
        unfold textB at ht; rw [Bool.and_eq_true] at ht; exact of_decide_eq_true ht.1
      have := nssz_set s.nd (s.nd.length - 1) ⟨(ndK s.nd (s.nd.length - 1)).up, (ndK s.nd (s.nd.length - 1)).tg, (ndK s.nd (s.nd.length - 1)).at_, (ndK s.nd (s.nd.length - 1)).tx ++ [b]⟩ (by omega)
      unfold nS
      simp only [setTx_len]
      unfold setTx
      unfold nsz at this
      simp only [List.length_append, List.length_cons, List.length_nil] at this
      omega
  · rw [if_neg ht]
    have := nS_add s ⟨#[]⟩ [] [b]
    have e : (⟨#[]⟩ : ByteArray).size = 0 := rfl
    simp only [asz, List.length_cons, List.length_nil, e] at this
    omega

theorem nS_put (s : BS) (t : TK) : nS (putX s t) ≤ nS s + 2 + tS t := by
  unfold putX
  by_cases hl : s.lg = true
  · rw [if_pos hl]; omega
  · rw [if_neg hl]
    by_cases h1 : t.kd = 1
    · rw [if_pos h1]; have := nS_byte s t.by_; omega
    · rw [if_neg h1]
      by_cases h2 : t.kd = 2
      · rw [if_pos h2]
        unfold startX
        have e0 : nS (start0 s t.nm) = nS s := by unfold nS; rw [(start0_nd s t.nm).1]
        by_cases h7 : 7 ≤ (start0 s t.nm).op.length
        · rw [if_pos h7, e0]; omega
        · rw [if_neg h7]
          have := nS_add (start0 s t.nm) t.nm t.at_ []
          have e1 : nS (openX (addX (start0 s t.nm) t.nm t.at_ []) t.nm t.sh (start0 s t.nm).nd.length) = nS (addX (start0 s t.nm) t.nm t.at_ []) := by
            unfold openX; split <;> rfl
          rw [e1]
          unfold tS
          simp only [List.length_nil] at this
          omega
      · rw [if_neg h2]
        by_cases h3 : t.kd = 3
        · rw [if_pos h3]; unfold nS; rw [(close_nd s t.nm).1]; omega
        · rw [if_neg h3]; omega

end Go.Proofs.YthcajggbcanmdaaGreatDoor

namespace Go.Proofs.YthcajggbcanmdaaGreatDoor
open Go.RowKit

def dgs : Nat → Nat → ByteArray → ByteArray
  | 0, _, s => s
  | f + 1, m, s => if m = 0 then s else dgs f (m / 10) (strI [48 + (m : Int) % 10] ++ s)
theorem dgs_zero (f : Nat) (s : ByteArray) : dgs f 0 s = s := by cases f <;> simp [dgs]
theorem dgs_step (f m : Nat) (s : ByteArray) (h : 0 < m) (hf : m ≤ f) : ∃ f', m / 10 ≤ f' ∧ dgs f m s = dgs f' (m / 10) (strI [48 + (m : Int) % 10] ++ s) := by
  cases f with
  | zero => omega
  | succ f => exact ⟨f, by omega, by simp [dgs]; omega⟩
def mtx (k : Nat) : ByteArray := ⟨#[109]⟩ ++ dgs k k ⟨#[]⟩

set_option maxHeartbeats 1600000 in
theorem markText_is (k : Nat) (w : World) (h0 : 0 < k) (hk : k ≤ 100000000) :
    Calls Tryz.prog 50 #[.int .i64 k] w fun e w' => e = .returned (.string (mtx k)) ∧ Below w.heap.size w w' := by
  have k0 : ¬ (k : Int) ≤ 0 := by omega
  go_enter Tryz.func50, Tryz.ntmps50
  go_wp2
  go_loopw [0, 3] (fun x o wr => ∃ (m f : Nat) (s : ByteArray), x = .int .i64 m ∧ m ≤ 100000000 ∧ o = .string s ∧ s.size + m ≤ 100000001 ∧ m ≤ f ∧ dgs f m s = dgs k k ⟨#[]⟩ ∧ Below w.heap.size w wr) (fun x _ _ => (intOf x).toNat)
  case atStart => exact ⟨k, k, ⟨#[]⟩, rfl, hk, rfl, by have : (⟨#[]⟩ : ByteArray).size = 0 := rfl; omega, Nat.le_refl _, rfl, Below.refl _ _⟩
  case round =>
    obtain ⟨m, f, s, rfl, hm, rfl, hs, hf, hd, hbl⟩ := hrel
    have HB := Hid.mk' hbl
    have HD := Hid.mk' hd
    clear hbl hd
    by_cases hz : 0 < m
    · have ci : (m : Int) > 0 := by omega
      have hcv := conv_one wr
      have hst := strI_one (48 + (m : Int) % 10)
      obtain ⟨f', hf', hd'⟩ := dgs_step f m s hz hf
      have HD' := Hid.mk' hd'
      clear hd'
      go_wp2
      go_roundw
      case rel => exact ⟨m / 10, f', _, by go_num, by omega, rfl, by rw [ByteArray.size_append, hst]; omega, hf', by rw [← HD.out, HD'.out], HB.out.alloc HB.out.size _⟩
      case measure => simp [intOf]; omega
    · have ci : ¬ (m : Int) > 0 := by omega
      have em : m = 0 := by omega
      subst em
      have E : Hid (⟨#[109]⟩ ++ s = mtx k) := Hid.mk' (by unfold mtx; rw [← HD.out, dgs_zero])
      go_wp2
      go_ret
      exact ⟨by rw [← E.out]; rfl, HB.out⟩

def mkA : Nat → List AT → List AT
  | _, [] => []
  | k, a :: l => ⟨mtx k, mb (k + 1) a.vl.length⟩ :: mkA (k + 1 + a.vl.length) l
theorem mkA_len : ∀ (k : Nat) (l : List AT), (mkA k l).length = l.length
  | _, [] => rfl
  | k, a :: l => by simp [mkA, mkA_len]
theorem mkA_snoc : ∀ (k : Nat) (l : List AT) (a : AT), mkA k (l ++ [a]) = mkA k l ++ [⟨mtx (k + l.length + vsz l), mb (k + l.length + vsz l + 1) a.vl.length⟩]
  | k, [], a => by simp [mkA, vsz]
  | k, b :: l, a => by
    simp only [List.cons_append, mkA, mkA_snoc (k + 1 + b.vl.length) l a, List.length_cons, vsz]
    rw [show k + 1 + b.vl.length + l.length + vsz l = k + (l.length + 1) + (b.vl.length + vsz l) from by omega]
theorem mkA_get {k : Nat} {l : List AT} {i : Nat} (h : i < l.length) : atK (mkA k l) i = ⟨mtx (k + i + vsz (l.take i)), mb (k + i + vsz (l.take i) + 1) (atK l i).vl.length⟩ := by
  induction l generalizing k i with
  | nil => exact absurd h (Nat.not_lt_zero _)
  | cons b l ih =>
    cases i with
    | zero => simp [mkA, atK, vsz]
    | succ i =>
      have := ih (k := k + 1 + b.vl.length) (i := i) (by simpa using h)
      have e1 : atK (mkA k (b :: l)) (i + 1) = atK (mkA (k + 1 + b.vl.length) l) i := by simp [mkA, atK]
      have e2 : atK (b :: l) (i + 1) = atK l i := by simp [atK]
      rw [e1, this, e2]
      simp only [List.take_succ_cons, vsz]
      rw [show k + 1 + b.vl.length + i + vsz (l.take i) = k + (i + 1) + (b.vl.length + vsz (l.take i)) from by omega]

theorem acs_set : ∀ (l : List AT) (us : List Value) (i : Nat) (a : AT), us.length = l.length → i < l.length → acs (l.set i a) us = (acs l us).set (i * 2) (.string a.nm)
  | [], us, i, a, _, h => absurd h (Nat.not_lt_zero _)
  | b :: l, [], i, a, h, _ => by simp at h
  | b :: l, u :: us, 0, a, h, _ => by simp [acs]
  | b :: l, u :: us, i + 1, a, h, hi => by
    have := acs_set l us i a (by simpa using h) (by simpa using hi)
    rw [show (i + 1) * 2 = i * 2 + 1 + 1 from by omega]
    simp [acs, this]

theorem own_cell {w : World} {base g n cap : Nat} {e : TypeId} {xs : List Value} (h : w.ownsRow base e 2 (.slice (some ⟨g, 0, none⟩) n cap) n xs) (j : Nat) (hj : j < n * 2) (x : Value) : (w.setCell ⟨g, j, none⟩ x).ownsRow base e 2 (.slice (some ⟨g, 0, none⟩) n cap) n (xs.set j x) := by
  refine ⟨by rw [List.length_set]; exact h.1, .inr ?_⟩
  rcases h.2 with ⟨h0, _⟩ | ⟨g', cap', cur, hv, hg, hh, hc, hm, hs, ht⟩
  · cases h0
  · cases hv
    refine ⟨g, cap, cur.setIfInBounds j x, rfl, hg, ?_, hc, hm, by simpa using hs, ?_⟩
    · simp [World.setCell, Array.getElem?_modify, hh]
    · rw [← ht]
      simp [List.take_set]

theorem set_get (l : List AT) (i j : Nat) (a : AT) (h : i < l.length) : atK (l.set i a) j = if j = i then a else atK l j := by
  unfold atK
  by_cases e : j = i
  · subst e; simp [List.getD_eq_getElem?_getD, h]
  · rw [if_neg e]; simp [List.getD_eq_getElem?_getD, List.getElem?_set, Ne.symm e]

theorem OA.name {lo g cap : Nat} {w : World} {l : List AT} {us : List Value} (h : OA lo w (.slice (some ⟨g, 0, none⟩) l.length cap) l us) (i : Nat) (hi : i < l.length) (s : ByteArray) : OA lo (w.setCell ⟨g, i * 2, none⟩ (.string s)) (.slice (some ⟨g, 0, none⟩) l.length cap) (l.set i ⟨s, (atK l i).vl⟩) us := by
  have hg : ∀ j, j < l.length → ∀ k, (us.getD j undef).ownBlock = some k → k ≠ g := fun j hj k e ek => h.av j hj k (by rw [ek]; rfl) e
  refine ⟨by rw [List.length_set]; exact h.len, ?_, fun j hj => ?_, fun j hj => h.vlo j (by simpa using hj), fun a b hab hb => h.ap a b hab (by simpa using hb), fun j hj => h.av j (by simpa using hj)⟩
  · rw [acs_set l us i _ h.len hi, List.length_set]
    exact own_cell h.row (i * 2) (by omega) _
  · rw [List.length_set] at hj
    rw [set_get l i j _ hi]
    have : OB (w.setCell ⟨g, i * 2, none⟩ (.string s)) (us.getD j undef) (atK l j).vl := (h.val j hj).keep (fun k e _ => Deep.blk_setCell_other _ _ _ _ (hg j hj k e))
    by_cases e : j = i
    · subst e; rw [if_pos rfl]; exact this
    · rw [if_neg e]; exact this

theorem set_same {α : Type} : ∀ (l : List α) (i : Nat) (x : α), l[i]? = some x → l.set i x = l
  | [], i, x, h => by simp at h
  | a :: l, 0, x, h => by simp at h; simp [h]
  | a :: l, i + 1, x, h => by simp at h; simp [set_same l i x h]

theorem OA.value {lo : Nat} {w w' : World} {v : Value} {l : List AT} {us : List Value} (h : OA lo w v l us) (i : Nat) (hi : i < l.length) (m : List Int) (ho : OB w' (us.getD i undef) m) (ht : Turned (us.getD i undef) w w') : OA lo w' v (l.set i ⟨(atK l i).nm, m⟩) us := by
  have hb : ∀ k, k < w.heap.size → (us.getD i undef).ownBlock ≠ some k → w'.heap[k]? = w.heap[k]? := fun k hk hn => ht.block k hk hn
  have nms : acs (l.set i ⟨(atK l i).nm, m⟩) us = acs l us := by
    rw [acs_set l us i _ h.len hi]
    have := (acs_get l us i h.len hi).1
    exact set_same _ _ _ this
  refine ⟨by rw [List.length_set]; exact h.len, ?_, fun j hj => ?_, fun j hj => h.vlo j (by simpa using hj), fun a b hab hb' => h.ap a b hab (by simpa using hb'), fun j hj => h.av j (by simpa using hj)⟩
  · rw [nms, List.length_set]
    exact own_of h.row (Nat.le_refl _) (fun k e _ => hb k (h.row.lt k e).2 (fun e2 => h.av i hi k e e2))
  · rw [List.length_set] at hj
    rw [set_get l i j _ hi]
    by_cases e : j = i
    · subst e; rw [if_pos rfl]; exact ho
    · rw [if_neg e]
      refine (h.val j hj).keep (fun k e1 hl => hb k hl (fun e2 => ?_))
      rcases Nat.lt_or_gt_of_ne e with hlt | hgt
      · exact h.ap j i hlt hi k e1 e2
      · exact h.ap i j hgt hj k e2 e1

theorem OA.spot {lo : Nat} {w : World} {v : Value} {l : List AT} {us : List Value} (h : OA lo w v l us) (hl : 0 < l.length) : ∃ g cap, v = .slice (some ⟨g, 0, none⟩) l.length cap ∧ lo ≤ g ∧ g < w.heap.size ∧ ∀ k, k < l.length → w.cell? ⟨g, k * 2, none⟩ = some (.string (atK l k).nm) ∧ w.cell? ⟨g, k * 2 + 1, none⟩ = some (us.getD k undef) ∧ w.frozen? ⟨g, k * 2, none⟩ = false := by
  rcases h.row.2 with ⟨rfl, h0⟩ | ⟨g, cap, cur, rfl, hg, hh, hc, hm, hs, ht⟩
  · omega
  · refine ⟨g, cap, rfl, hg, ?_, fun k hk => ?_⟩
    · exact Nat.lt_of_not_le fun hn => by rw [Array.getElem?_eq_none hn] at hh; cases hh
    · obtain ⟨h1, h2⟩ := acs_get l us k h.len hk
      rw [← ht] at h1 h2
      rw [List.getElem?_take_of_lt (by omega)] at h1 h2
      have q : ∀ i, w.cell? ⟨g, i, none⟩ = cur[i]? := fun i => Lib.cell_of_heap hh i
      exact ⟨by rw [q, ← h1]; simp, by rw [q, ← h2]; simp, Lib.frozen_of_heap hh _⟩

def half (z : Nat) (l : List AT) (k : Nat) : List AT := mkA z (l.take k) ++ l.drop k
theorem half_len (z : Nat) (l : List AT) (k : Nat) : (half z l k).length = l.length := by simp [half, mkA_len]; omega
theorem half_get (z : Nat) (l : List AT) (k : Nat) (h : k < l.length) : atK (half z l k) k = atK l k := by
  have e : (mkA z (l.take k)).length = k := by rw [mkA_len, List.length_take]; omega
  unfold half atK
  rw [List.getD_eq_getElem?_getD, List.getElem?_append_right (by omega), e, Nat.sub_self, List.getElem?_drop, Nat.add_zero, ← List.getD_eq_getElem?_getD]
theorem half_set (z : Nat) (l : List AT) (k : Nat) (h : k < l.length) : (half z l k).set k ⟨mtx (z + k + vsz (l.take k)), mb (z + k + vsz (l.take k) + 1) (atK l k).vl.length⟩ = half z l (k + 1) := by
  have e : (mkA z (l.take k)).length = k := by rw [mkA_len, List.length_take]; omega
  have e2 : l.take (k + 1) = l.take k ++ [atK l k] := by
    rw [List.take_add_one, List.getElem?_eq_getElem h]
    simp [atK, List.getD_eq_getElem?_getD, List.getElem?_eq_getElem h]
  have e3 : (l.take k).length = k := by rw [List.length_take]; omega
  unfold half
  rw [e2, mkA_snoc, e3, List.set_append_right _ _ (by omega), e, Nat.sub_self, List.drop_eq_getElem_cons h, List.set_cons_zero, List.append_assoc]
  rfl

def AFree (v : Value) (us : List Value) (n j : Nat) : Prop := v.ownBlock ≠ some j ∧ ∀ i, i < n → (us.getD i undef).ownBlock ≠ some j

set_option maxHeartbeats 3200000 in
theorem markAttrS_is (z lo : Nat) (v : Value) (l : List AT) (us : List Value) (w : World) (h : OA lo w v l us) (hlo : lo ≤ w.heap.size) (hz : 0 < z) (hz2 : (z : Int) ≤ 90000000) (hl : (l.length : Int) + asz l ≤ 2000000) :
    Calls Tryz.prog 51 #[v, .int .i64 (z : Int)] w fun e w' => e = .returned (.int .i64 ((z : Int) + (l.length : Int) + (vsz l : Int))) ∧ OA lo w' v (mkA z l) us ∧ Kp (AFree v us l.length) w w' := by
  have HM := Hid.mk' h
  obtain ⟨av, cv, rfl, _⟩ := h.at
  clear h
  go_enter Tryz.func51, Tryz.ntmps51
  go_wp2
  go_loopw [1, 5] (fun x i wr => ∃ k : Nat, k ≤ l.length ∧ i = .int .i64 k ∧ x = .int .i64 ((z + k + vsz (l.take k) : Nat) : Int) ∧ OA lo wr (.slice av l.length cv) (half z l k) us ∧ Kp (AFree (.slice av l.length cv) us l.length) w wr) (fun _ i _ => l.length - (intOf i).toNat)
  case atStart => exact ⟨0, Nat.zero_le _, rfl, by simp [vsz], by simpa [half, mkA] using HM.out, Kp.refl _ _⟩
  case round =>
    obtain ⟨k, hk, rfl, rfl, hoa, hbl⟩ := hrel
    have HR := Hid.mk' hoa
    have HB := Hid.mk' hbl
    have szr := hbl.size
    clear hbl
    by_cases hlt : k < l.length
    · have ci : (k : Int) < (l.length : Int) := by omega
      have st := vsz_take l k hlt
      have sl := vsz_le l (k + 1)
      have hln := half_len z l k
      obtain ⟨g, cap, ev, hg1, hg2, hcell⟩ := hoa.spot (by omega)
      rw [hln] at ev
      cases ev
      obtain ⟨q, hq⟩ : ∃ q : Nat, z + k + vsz (l.take k) = q := ⟨_, rfl⟩
      have hq1 : z + (k + 1) + vsz (l.take (k + 1)) = q + 1 + (atK l k).vl.length := by omega
      have hq2 : q + 1 + (atK l k).vl.length ≤ 100000000 := by omega
      have Q1 := Hid.mk' hq1
      have HS := half_set z l k hlt
      rw [hq] at HS
      have HS := Hid.mk' HS
      have KT := Hid.mk' (markText_is q wr (by omega) (by omega))
      rw [hq]
      clear st sl hq hq1 hoa hcell
      go_wp2_with fail
      refine KT.out.mono ?_
      rintro e w1 ⟨rfl, hb⟩
      have O1 := HR.out.below hb
      obtain ⟨g', cap', ev, hg3, hg4, hcell⟩ := O1.spot (by omega)
      rw [hln] at ev
      cases ev
      obtain ⟨c0, c1, c2⟩ := hcell k (by omega)
      have O2 : OA lo (w1.setCell ⟨g, k * 2, none⟩ (.string (mtx q))) (.slice (some ⟨g, 0, none⟩) l.length cv) ((half z l k).set k ⟨mtx q, (atK l k).vl⟩) us := by
        have := OA.name (cap := cv) (g := g) (by rw [hln]; exact O1) k (by omega) (mtx q)
        rw [half_get z l k hlt, hln] at this
        exact this
      have hl2 : ((half z l k).set k ⟨mtx q, (atK l k).vl⟩).length = l.length := by rw [List.length_set]; exact hln
      have V2 := O2.val k (by omega)
      rw [set_get _ _ _ _ (by omega), if_pos rfl] at V2
      have KB := markByteS_own (q + 1) (us.getD k undef) (atK l k).vl _ V2 (by omega)
      obtain ⟨pu, cu, eu, _⟩ := V2.len
      have B2 := Hid.mk' ((HB.out.trans (Kp.of_below hb)).setCell (q := ⟨g, k * 2, none⟩) (fun e => e.1 rfl) (.string (mtx q)))
      have d1 : (w1.setCell ⟨g, k * 2, none⟩ (.string (mtx q))).cell? ⟨g, k * 2 + 1, none⟩ = some (.slice pu (atK l k).vl.length cu) := by
        obtain ⟨g'', cap'', ev, _, _, hc2⟩ := O2.spot (by omega)
        rw [hl2] at ev
        cases ev
        have := (hc2 k (by omega)).2.1
        rw [this, eu]
      rw [eu] at KB
      have KB := Hid.mk' KB
      have O2 := Hid.mk' O2
      have EU := Hid.mk' eu
      have s2 : (w1.setCell ⟨g, k * 2, none⟩ (.string (mtx q))).heap.size = w1.heap.size := by simp [World.setCell]
      have sb := hb.size
      clear hb O1 KT HR hcell V2 eu c1
      generalize hV : w1.setCell ⟨g, k * 2, none⟩ (.string (mtx q)) = V at *
      go_wp2_with fail
      clear hV
      refine KB.out.mono ?_
      rintro e w2 ⟨rfl, hob, htu⟩
      rw [← EU.out] at hob htu
      have O3 := O2.out.value k (by omega) (mb (q + 1) (atK l k).vl.length) hob htu
      rw [set_get _ _ _ _ (by omega), if_pos rfl, List.set_set, HS.out] at O3
      have O3 := Hid.mk' O3
      have B3 := Hid.mk' (B2.out.trans (Kp.of_turned htu (fun j e => e.2 k hlt)))
      clear hob htu KB
      go_wp2
      go_roundw
      case rel => exact ⟨k + 1, by omega, by go_num, by rw [Q1.out]; simp, O3.out, B3.out⟩
      case measure => simp [intOf]; omega
    · have ci : ¬ (k : Int) < (l.length : Int) := by omega
      have e : k = l.length := by omega
      subst e
      have EH : half z l l.length = mkA z l := by unfold half; rw [List.take_length, List.drop_length, List.append_nil]
      rw [EH] at hoa
      have HO := Hid.mk' hoa
      clear hoa HR
      rw [List.take_length]
      go_wp2
      go_ret
      exact ⟨ret_num (by omega), HO.out, HB.out⟩

set_option maxHeartbeats 3200000 in
theorem heldAttrS_is (z : Nat) (a : Option Addr) (c : Nat) (l : List AT) (w : World) (ha : AAt w a (mkA z l)) (hz : 0 < z) (hz2 : (z : Int) ≤ 90000000) (hl : (l.length : Int) + asz l ≤ 2000000) :
    Calls Tryz.prog 52 #[.slice a l.length c, .int .i64 (z : Int)] w fun e w' => e = .returned (.int .i64 ((z : Int) + (l.length : Int) + (vsz l : Int))) ∧ Below w.heap.size w w' := by
  have HA := Hid.mk' ha
  clear ha
  go_enter Tryz.func52, Tryz.ntmps52
  go_wp2
  go_loopw [1, 5] (fun x i wr => ∃ k : Nat, k ≤ l.length ∧ i = .int .i64 k ∧ x = .int .i64 ((z + k + vsz (l.take k) : Nat) : Int) ∧ Below w.heap.size w wr) (fun _ i _ => l.length - (intOf i).toNat)
  case atStart => exact ⟨0, Nat.zero_le _, rfl, by simp [vsz], Below.refl _ _⟩
  case round =>
    obtain ⟨k, hk, rfl, rfl, hbl⟩ := hrel
    have HB := Hid.mk' hbl
    by_cases hlt : k < l.length
    · have ci : (k : Int) < (l.length : Int) := by omega
      have st := vsz_take l k hlt
      have sl := vsz_le l (k + 1)
      rcases HA.out.below hbl with h0 | ⟨b1, o1, rfl, s1, hc1⟩
      · have := mkA_len z l; rw [h0] at this; simp at this; omega
      obtain ⟨h1, p1, d1, h2, h3⟩ := hc1 k (by rw [mkA_len]; exact hlt)
      rw [mkA_get hlt] at h1 h2 h3
      obtain ⟨q, hq⟩ : ∃ q : Nat, z + k + vsz (l.take k) = q := ⟨_, rfl⟩
      rw [hq] at h1 h2 h3 ⊢
      have hq1 : z + (k + 1) + vsz (l.take (k + 1)) = q + 1 + (atK l k).vl.length := by omega
      have hq2 : q + 1 + (atK l k).vl.length ≤ 100000000 := by omega
      have Q1 := Hid.mk' hq1
      simp only [mb_len] at h1 h2 h3
      have H3 := Hid.mk' h3
      have KT := Hid.mk' (markText_is q wr.drew (by omega) (by omega))
      clear st sl hq hq1 hc1 h3 hbl
      go_wp2_with fail
      go_region_held3 (fun w' => w'.cell? ⟨b1, o1 + k * 2, none⟩ = some (.string (mtx q))) (simp [*])
        ((go_at_call 50; refine KT.out.mono ?_; rintro e w1 ⟨rfl, hb1⟩; replace hb1 := undrew hb1; obtain ⟨hx1, hx2⟩ := bcell hb1))
      have B1 := Hid.mk' (HB.out.trans (hb1.mono HB.out.size))
      have g2 : w1.cell? ⟨b1, o1 + k * 2 + 1, none⟩ = some (.slice p1 (atK l k).vl.length d1) := (hx1 _ _ s1).trans h2
      have KB := Hid.mk' (heldByteS_any p1 d1 (atK l k).vl.length (q + 1) w1 (H3.out.below hb1) (by omega))
      clear hb1 hx1 hx2 KT
      go_wp2_with fail
      refine KB.out.mono ?_
      rintro e w2 ⟨rfl, hb2⟩
      have B2 := Hid.mk' (B1.out.trans (hb2.mono B1.out.size))
      have zz : ¬ (((q + 1 : Nat) : Int) + (atK l k).vl.length < 0) := by omega
      clear hb2 KB
      go_wp2
      go_roundw
      case rel => exact ⟨k + 1, by omega, by go_num, by rw [Q1.out]; simp, B2.out⟩
      case measure => simp [intOf]; omega
    · have ci : ¬ (k : Int) < (l.length : Int) := by omega
      have e : k = l.length := by omega
      subst e
      rw [List.take_length]
      go_wp2
      go_ret
      exact ⟨ret_num (by omega), HB.out⟩

end Go.Proofs.YthcajggbcanmdaaGreatDoor

namespace Go.Proofs.YthcajggbcanmdaaGreatDoor
open Go.RowKit

structure NQ (τ : Nat → Nat) (lo : Nat) (w : World) (v : Value) (l : List ND) (va vt : Nat → Value) (us : Nat → List Value) : Prop where
  row : w.ownsRow lo 91 4 v l.length (ncs l va vt l.length)
  att : ∀ j, j < l.length → OA lo w (va j) (ndK l j).at_ (us j)
  txt : ∀ j, j < l.length → OB w (vt j) (ndK l j).tx
  rl : ∀ k, v.ownBlock = some k → τ k = 0
  al : ∀ j, j < l.length → ∀ k, (va j).ownBlock = some k → τ k = 2 * j + 3
  ul : ∀ j, j < l.length → ∀ i, i < (ndK l j).at_.length → ∀ k, ((us j).getD i undef).ownBlock = some k → τ k = 2 * j + 3
  tl : ∀ j, j < l.length → ∀ k, (vt j).ownBlock = some k → τ k = 2 * j + 4

theorem NS.nq {τ : Nat → Nat} {lo : Nat} {w : World} {v : Value} {l : List ND} {va vt : Nat → Value} {us : Nat → List Value} (h : NS τ lo w v l va vt us) : NQ τ lo w v l va vt us :=
  ⟨h.row, h.att, fun j hj => (OB.of_own (h.txt j hj)).1, h.rl, h.al, h.ul, h.tl⟩

theorem NQ.keep {τ : Nat → Nat} {lo : Nat} {w w' : World} {v : Value} {l : List ND} {va vt : Nat → Value} {us : Nat → List Value} (h : NQ τ lo w v l va vt us) (hk : Kp (fun k => τ k = 0 ∨ 3 ≤ τ k) w w') : NQ τ lo w' v l va vt us := by
  refine ⟨own_of h.row (Nat.le_refl _) (fun k e _ => hk.block k (h.row.lt k e).2 (.inl (h.rl k e))), fun j hj => (h.att j hj).keepOf (fun k e hl => hk.block k hl (.inr (by have := h.al j hj k e; omega))) (fun i hi k e hl => hk.block k hl (.inr (by have := h.ul j hj i hi k e; omega))), fun j hj => (h.txt j hj).keep (fun k e hl => hk.block k hl (.inr (by have := h.tl j hj k e; omega))), h.rl, h.al, h.ul, h.tl⟩

theorem NQ.below {τ : Nat → Nat} {lo : Nat} {w w' : World} {v : Value} {l : List ND} {va vt : Nat → Value} {us : Nat → List Value} (h : NQ τ lo w v l va vt us) (hb : Below w.heap.size w w') : NQ τ lo w' v l va vt us := h.keep (Kp.of_below hb)

theorem NQ.spot {τ : Nat → Nat} {lo : Nat} {w : World} {v : Value} {l : List ND} {va vt : Nat → Value} {us : Nat → List Value} (h : NQ τ lo w v l va vt us) (h0 : 0 < l.length) : ∃ g cap, v = .slice (some ⟨g, 0, none⟩) l.length cap ∧ lo ≤ g ∧ g < w.heap.size ∧ (∀ k i, k < l.length → i < 4 → w.cell? ⟨g, k * 4 + i, none⟩ = ([.int .i64 (ndK l k).up, .string (ndK l k).tg, va k, vt k] : List Value)[i]?) ∧ ∀ i, w.frozen? ⟨g, i, none⟩ = false := by
  rcases h.row.2 with ⟨rfl, h9⟩ | ⟨g, cap, cur, rfl, hg, hh, hc, hm, hs, ht⟩
  · omega
  · refine ⟨g, cap, rfl, hg, ?_, fun k i hk hi => ?_, fun i => Lib.frozen_of_heap hh _⟩
    · exact Nat.lt_of_not_le fun hn => by rw [Array.getElem?_eq_none hn] at hh; cases hh
    · have q : w.cell? ⟨g, k * 4 + i, none⟩ = cur[k * 4 + i]? := Lib.cell_of_heap hh _
      rw [q, ← ncs_get l va vt l.length k i hk hi, ← ht, List.getElem?_take_of_lt (by omega)]
      simp

theorem NQ.at {τ : Nat → Nat} {lo : Nat} {w : World} {v : Value} {l : List ND} {va vt : Nat → Value} {us : Nat → List Value} (h : NQ τ lo w v l va vt us) : ∃ a c, v = .slice a l.length c ∧ NsAt w a l := by
  by_cases h0 : 0 < l.length
  · obtain ⟨g, cap, e, h1, h2, h4, _⟩ := h.spot h0
    refine ⟨_, _, e, .inr ⟨g, 0, rfl, h2, fun k hk => ?_⟩⟩
    have c := fun i (hi : i < 4) => h4 k i hk hi
    obtain ⟨pa, ca, ea, ha⟩ := (h.att k hk).at
    obtain ⟨pt, ct, et, ht⟩ := (h.txt k hk).len
    have hc : (ndK l k).at_.length ≤ ca := by
      obtain ⟨a9, c9, e9, h9⟩ := own_len (h.att k hk).row
      rw [ea] at e9; cases e9; exact h9
    simp only [Nat.zero_add]
    refine ⟨c 0 (by omega), c 1 (by omega), ⟨pa, ca, by rw [c 2 (by omega), ← ea]; rfl, hc, ha⟩, ⟨pt, ct, by rw [c 3 (by omega), ← et]; rfl, ht⟩⟩
  · obtain ⟨a, c, e, _⟩ := own_len h.row
    exact ⟨a, c, e, .inl (List.eq_nil_of_length_eq_zero (by omega))⟩

theorem NQ.modify {τ : Nat → Nat} {lo n : Nat} {w w' : World} {v : Value} {l : List ND} {va vt : Nat → Value} {us : Nat → List Value} {t : ND} (h : NQ τ lo w v l va vt us) (hn : n < l.length) (hl : t.at_.length = (ndK l n).at_.length)
    (hr : w'.ownsRow lo 91 4 v l.length (ncs (l.set n t) va vt l.length)) (ha : OA lo w' (va n) t.at_ (us n)) (ht : OB w' (vt n) t.tx) (hk : Kp (fun j => ¬ τ j = 0 ∧ ¬ τ j = 2 * n + 3 ∧ ¬ τ j = 2 * n + 4) w w') : NQ τ lo w' v (l.set n t) va vt us := by
  have len : (l.set n t).length = l.length := List.length_set
  have nd : ∀ j, ndK (l.set n t) j = if j = n then t else ndK l j := fun j => ndK_set hn
  refine ⟨by rw [len]; exact hr, fun j hj => ?_, fun j hj => ?_, h.rl, fun j hj => h.al j (by omega), fun j hj i hi => h.ul j (by omega) i ?_, fun j hj => h.tl j (by omega)⟩
  · rw [len] at hj
    rw [nd]
    by_cases e : j = n
    · subst e; rw [if_pos rfl]; exact ha
    · rw [if_neg e]
      exact (h.att j hj).keepOf (fun k e' hl' => hk.block k hl' (by have := h.al j hj k e'; omega)) (fun i hi k e' hl' => hk.block k hl' (by have := h.ul j hj i hi k e'; omega))
  · rw [len] at hj
    rw [nd]
    by_cases e : j = n
    · subst e; rw [if_pos rfl]; exact ht
    · rw [if_neg e]
      exact (h.txt j hj).keep (fun k e' hl' => hk.block k hl' (by have := h.tl j hj k e'; omega))
  · rw [nd] at hi
    by_cases e : j = n
    · subst e; rw [if_pos rfl, hl] at hi; exact hi
    · rw [if_neg e] at hi; exact hi

def Oth (τ : Nat → Nat) (k : Nat) : Prop := τ k = 1 ∨ τ k = 2

def cn1 (t : ND) : Nat := 2 + t.at_.length + vsz t.at_ + t.tx.length
def cnN : List ND → Nat
  | [] => 0
  | t :: l => cn1 t + cnN l

def mk1 (z : Nat) (t : ND) : ND := ⟨(z : Int), mtx (z + 1), mkA (z + 1 + 1) t.at_, mb (z + 1 + 1 + t.at_.length + vsz t.at_) t.tx.length⟩
def mkN : Nat → List ND → List ND
  | _, [] => []
  | z, t :: l => mk1 z t :: mkN (z + cn1 t) l

theorem mkN_len : ∀ (z : Nat) (l : List ND), (mkN z l).length = l.length
  | _, [] => rfl
  | z, t :: l => by simp [mkN, mkN_len]
theorem mkN_snoc : ∀ (z : Nat) (l : List ND) (t : ND), mkN z (l ++ [t]) = mkN z l ++ [mk1 (z + cnN l) t]
  | z, [], t => by simp [mkN, cnN]
  | z, x :: l, t => by simp only [List.cons_append, mkN, mkN_snoc (z + cn1 x) l t, cnN]; rw [Nat.add_assoc]
theorem mkN_get {z : Nat} {l : List ND} {i : Nat} (h : i < l.length) : ndK (mkN z l) i = mk1 (z + cnN (l.take i)) (ndK l i) := by
  induction l generalizing z i with
  | nil => exact absurd h (Nat.not_lt_zero _)
  | cons x l ih =>
    cases i with
    | zero => simp [mkN, ndK, cnN]
    | succ i =>
      have := ih (z := z + cn1 x) (i := i) (by simpa using h)
      have e1 : ndK (mkN z (x :: l)) (i + 1) = ndK (mkN (z + cn1 x) l) i := by simp [mkN, ndK]
      have e2 : ndK (x :: l) (i + 1) = ndK l i := by simp [ndK]
      rw [e1, this, e2]
      simp only [List.take_succ_cons, cnN]
      rw [Nat.add_assoc]
theorem cnN_take (l : List ND) : ∀ k, k < l.length → cnN (l.take (k + 1)) = cnN (l.take k) + cn1 (ndK l k) := by
  induction l with
  | nil => intro k h; exact absurd h (Nat.not_lt_zero _)
  | cons x r ih =>
    intro k hk
    cases k with
    | zero => simp [cnN, ndK]
    | succ k =>
      have := ih k (by simpa using hk)
      have e : ndK (x :: r) (k + 1) = ndK r k := by simp [ndK]
      simp only [List.take_succ_cons, cnN]
      rw [this, e]; omega
theorem cnN_le (l : List ND) (k : Nat) : cnN (l.take k) ≤ 2 * l.length + nssz l := by
  induction l generalizing k with
  | nil => simp [cnN]
  | cons x r ih =>
    cases k with
    | zero => simp [cnN]
    | succ k =>
      have := ih k
      have v := vsz_asz x.at_
      simp only [List.take_succ_cons, cnN, nssz, List.length_cons, cn1, nsz]
      omega

def halfN (z : Nat) (l : List ND) (k : Nat) : List ND := mkN z (l.take k) ++ l.drop k
theorem halfN_len (z : Nat) (l : List ND) (k : Nat) : (halfN z l k).length = l.length := by simp [halfN, mkN_len]; omega
theorem halfN_get (z : Nat) (l : List ND) (k : Nat) (h : k < l.length) : ndK (halfN z l k) k = ndK l k := by
  have e : (mkN z (l.take k)).length = k := by rw [mkN_len, List.length_take]; omega
  unfold halfN ndK
  rw [List.getD_eq_getElem?_getD, List.getElem?_append_right (by omega), e, Nat.sub_self, List.getElem?_drop, Nat.add_zero, ← List.getD_eq_getElem?_getD]
theorem halfN_set (z : Nat) (l : List ND) (k : Nat) (h : k < l.length) : (halfN z l k).set k (mk1 (z + cnN (l.take k)) (ndK l k)) = halfN z l (k + 1) := by
  have e : (mkN z (l.take k)).length = k := by rw [mkN_len, List.length_take]; omega
  have e2 : l.take (k + 1) = l.take k ++ [ndK l k] := by
    rw [List.take_add_one, List.getElem?_eq_getElem h]
    simp [ndK, List.getD_eq_getElem?_getD, List.getElem?_eq_getElem h]
  unfold halfN
  rw [e2, mkN_snoc, List.set_append_right _ _ (by omega), e, Nat.sub_self, List.drop_eq_getElem_cons h, List.set_cons_zero, List.append_assoc]
  rfl
theorem halfN_zero (z : Nat) (l : List ND) : halfN z l 0 = l := by simp [halfN, mkN]
theorem halfN_all (z : Nat) (l : List ND) : halfN z l l.length = mkN z l := by simp [halfN]

theorem row_set {lo g cap n i : Nat} {w : World} {l : List ND} {va vt : Nat → Value} {u : ND} {x : Value} (h : w.ownsRow lo 91 4 (.slice (some ⟨g, 0, none⟩) l.length cap) l.length (ncs l va vt l.length)) (hn : n < l.length) (hi : i < 4)
    (hs : ([.int .i64 (ndK l n).up, .string (ndK l n).tg, va n, vt n] : List Value).set i x = [.int .i64 u.up, .string u.tg, va n, vt n]) :
    (w.setCell ⟨g, n * 4 + i, none⟩ x).ownsRow lo 91 4 (.slice (some ⟨g, 0, none⟩) l.length cap) l.length (ncs (l.set n u) va vt l.length) := by
  have R2 := own_cellN h (n * 4 + i) (by omega) x
  rw [ncs_set (l' := l.set n u) (vt' := vt) hn hi (fun j hj e => by rw [ndK_set hn, if_neg e]; exact ⟨rfl, rfl, rfl⟩) (by rw [ndK_set hn, if_pos rfl]; exact hs)] at R2
  exact R2

set_option maxHeartbeats 6400000 in
theorem markNodeS_is (τ : Nat → Nat) (z lo : Nat) (v : Value) (l : List ND) (va vt : Nat → Value) (us : Nat → List Value) (w : World) (h : NQ τ lo w v l va vt us) (hlo : lo ≤ w.heap.size) (hz : 0 < z) (hz2 : (z : Int) ≤ 10000000) (hl : (l.length : Int) + nssz l ≤ 2000000) :
    Calls Tryz.prog 45 #[v, .int .i64 (z : Int)] w fun e w' => e = .returned (.int .i64 ((z + cnN l : Nat) : Int)) ∧ NQ τ lo w' v (mkN z l) va vt us ∧ Kp (Oth τ) w w' := by
  have HM := Hid.mk' h
  obtain ⟨av, cv, rfl, _⟩ := own_len h.row
  clear h
  go_enter Tryz.func45, Tryz.ntmps45
  go_wp2
  go_loopw [1, 5] (fun x i wr => ∃ k : Nat, k ≤ l.length ∧ i = .int .i64 k ∧ x = .int .i64 ((z + cnN (l.take k) : Nat) : Int) ∧ NQ τ lo wr (.slice av l.length cv) (halfN z l k) va vt us ∧ Kp (Oth τ) w wr) (fun _ i _ => l.length - (intOf i).toNat)
  case atStart => exact ⟨0, Nat.zero_le _, rfl, by simp [cnN], by rw [halfN_zero]; exact HM.out, Kp.refl _ _⟩
  case round =>
    obtain ⟨k, hk, rfl, rfl, hnq, hkp⟩ := hrel
    have HK := Hid.mk' hkp
    have szr := hkp.size
    clear hkp
    by_cases hlt : k < l.length
    · have ci : (k : Int) < (l.length : Int) := by omega
      have st := cnN_take l k hlt
      have sl := cnN_le l (k + 1)
      have hln := halfN_len z l k
      have hgt := halfN_get z l k hlt
      have hst := halfN_set z l k hlt
      have vz := vsz_asz (ndK l k).at_
      have sz1 := nssz_at hlt
      unfold nsz at sz1
      unfold cn1 at st
      obtain ⟨q, hq⟩ : ∃ q : Nat, z + cnN (l.take k) = q := ⟨_, rfl⟩
      have hq1 : z + cnN (l.take (k + 1)) = q + 1 + 1 + (ndK l k).at_.length + vsz (ndK l k).at_ + (ndK l k).tx.length := by omega
      have hq2 : q + 1 + 1 + (ndK l k).at_.length + vsz (ndK l k).at_ + (ndK l k).tx.length ≤ 20000000 := by omega
      rw [hq] at hst ⊢
      have HS := Hid.mk' hst
      have Q1 := Hid.mk' hq1
      obtain ⟨g, cap, ev, hg1, hg2, hcell, hfr⟩ := hnq.spot (by omega)
      rw [hln] at ev
      cases ev
      have NQ0 := Hid.mk' hnq
      have at0 := hnq.att k (by omega)
      have tx0 := hnq.txt k (by omega)
      rw [hgt] at at0 tx0
      have g0 : τ g = 0 := hnq.rl g rfl
      have a3 : ∀ j, (va k).ownBlock = some j → τ j = 2 * k + 3 := hnq.al k (by omega)
      have u3 : ∀ i, i < (ndK l k).at_.length → ∀ j, ((us k).getD i undef).ownBlock = some j → τ j = 2 * k + 3 := fun i hi => hnq.ul k (by omega) i (by rw [hgt]; exact hi)
      have t4 : ∀ j, (vt k).ownBlock = some j → τ j = 2 * k + 4 := hnq.tl k (by omega)
      have R0 := hnq.row
      rw [hln] at R0
      have c0 : wr.cell? ⟨g, k * 4, none⟩ = some (.int .i64 (ndK l k).up) := by have := hcell k 0 (by omega) (by omega); rw [hgt] at this; exact this
      have f0 := hfr (k * 4)
      have R1 : (wr.setCell ⟨g, k * 4, none⟩ (.int .i64 (q : Int))).ownsRow lo 91 4 (.slice (some ⟨g, 0, none⟩) l.length cv) l.length (ncs ((halfN z l k).set k ⟨(q : Int), (ndK l k).tg, (ndK l k).at_, (ndK l k).tx⟩) va vt l.length) := by
        have := row_set (n := k) (i := 0) (u := ⟨(q : Int), (ndK l k).tg, (ndK l k).at_, (ndK l k).tx⟩) (x := .int .i64 (q : Int)) (by rw [hln]; exact R0) (by omega) (by omega) (by rw [hgt]; rfl)
        rw [hln] at this
        exact this
      have KS : Kp (fun j => ¬ τ j = 0) wr (wr.setCell ⟨g, k * 4, none⟩ (.int .i64 (q : Int))) := (Kp.refl _ _).setCell (q := ⟨g, k * 4, none⟩) (fun e => e g0) _
      have KT := Hid.mk' (markText_is (q + 1) (wr.setCell ⟨g, k * 4, none⟩ (.int .i64 (q : Int))) (by omega) (by omega))
      have HR := Hid.mk' R1
      have HKS := Hid.mk' KS
      have A0 := Hid.mk' at0
      have T0 := Hid.mk' tx0
      have s1 : (wr.setCell ⟨g, k * 4, none⟩ (.int .i64 (q : Int))).heap.size = wr.heap.size := by simp [World.setCell]
      have S1 := Hid.mk' s1
      clear st sl hq hq1 hnq hcell hfr R0 R1 KS at0 tx0 hst s1
      generalize hV : wr.setCell ⟨g, k * 4, none⟩ (.int .i64 (q : Int)) = V at *
      go_wp2_with fail
      clear hV c0 f0
      refine KT.out.mono ?_
      rintro e w1 ⟨rfl, hb⟩
      have R1 := own_keep HR.out hb
      have K1 : Kp (fun j => ¬ τ j = 0) wr w1 := HKS.out.trans (Kp.of_below hb)
      have hl1 : ((halfN z l k).set k ⟨(q : Int), (ndK l k).tg, (ndK l k).at_, (ndK l k).tx⟩).length = l.length := by rw [List.length_set]; exact hln
      have R2 : (w1.setCell ⟨g, k * 4 + 1, none⟩ (.string (mtx (q + 1)))).ownsRow lo 91 4 (.slice (some ⟨g, 0, none⟩) l.length cv) l.length (ncs ((halfN z l k).set k (mk1 q (ndK l k))) va vt l.length) := by
        have := row_set (n := k) (i := 1) (u := mk1 q (ndK l k)) (x := .string (mtx (q + 1))) (by rw [hl1]; exact R1) (by omega) (by omega) (by rw [ndK_set (by omega), if_pos rfl]; rfl)
        rw [hl1, List.set_set] at this
        exact this
      have K2 : Kp (fun j => ¬ τ j = 0) wr (w1.setCell ⟨g, k * 4 + 1, none⟩ (.string (mtx (q + 1)))) := K1.setCell (q := ⟨g, k * 4 + 1, none⟩) (fun e => e g0) _
      obtain ⟨g', cap', ev, e1_, e2_, e3_, hcl⟩ := own_spot R1 (by omega)
      cases ev
      have c1 : w1.cell? ⟨g, k * 4 + 1, none⟩ = some (.string (ndK l k).tg) := by
        have := (hcl (k * 4 + 1) (by omega)).trans (ncs_get _ va vt l.length k 1 hlt (by omega))
        rw [ndK_set (by omega), if_pos rfl] at this
        exact this
      have f1 : w1.frozen? ⟨g, k * 4 + 1, none⟩ = false := by
        rcases R1.2 with ⟨h0, _⟩ | ⟨g9, cap9, cur, hv9, _, hh, _⟩
        · cases h0
        · cases hv9; exact Lib.frozen_of_heap hh _
      have A2 := A0.out.keepOf (w' := w1.setCell ⟨g, k * 4 + 1, none⟩ (.string (mtx (q + 1)))) (fun j e hl' => K2.block j hl' (by have := a3 j e; omega)) (fun i hi j e hl' => K2.block j hl' (by have := u3 i hi j e; omega))
      have T2 := T0.out.keep (w' := w1.setCell ⟨g, k * 4 + 1, none⟩ (.string (mtx (q + 1)))) (fun j e hl' => K2.block j hl' (by have := t4 j e; omega))
      obtain ⟨pa, ca, ea, _⟩ := A2.at
      obtain ⟨pt, ct, et, _⟩ := T2.len
      obtain ⟨g'', cap'', ev, _, _, _, hc2⟩ := own_spot R2 (by omega)
      cases ev
      have d2 : (w1.setCell ⟨g, k * 4 + 1, none⟩ (.string (mtx (q + 1)))).cell? ⟨g, k * 4 + 2, none⟩ = some (.slice pa (ndK l k).at_.length ca) := by
        have := (hc2 (k * 4 + 2) (by omega)).trans (ncs_get _ va vt l.length k 2 hlt (by omega))
        rw [this, ← ea]; rfl
      have s2 : (w1.setCell ⟨g, k * 4 + 1, none⟩ (.string (mtx (q + 1)))).heap.size = w1.heap.size := by simp [World.setCell]
      have sb := hb.size
      have KA := markAttrS_is (q + 1 + 1) lo (va k) (ndK l k).at_ (us k) _ A2 (by have := S1.out; omega) (by omega) (by omega) (by omega)
      rw [ea] at KA
      have KA := Hid.mk' KA
      have EA := Hid.mk' ea
      have HR := Hid.mk' R2
      have HK2 := Hid.mk' K2
      have T2 := Hid.mk' T2
      have ET := Hid.mk' et
      have SZ : Hid (lo ≤ w1.heap.size) := Hid.mk' (by have := S1.out; omega)
      clear hb KT R1 R2 K1 K2 hcl hc2 ea et A2 HKS sb s2 A0 T0
      generalize hV : w1.setCell ⟨g, k * 4 + 1, none⟩ (.string (mtx (q + 1))) = V2 at *
      go_wp2_with fail
      clear hV c1 f1
      refine KA.out.mono ?_
      rintro e w2 ⟨rfl, hoa, hkk⟩
      rw [← EA.out] at hoa hkk
      have hk3 : Kp (fun j => ¬ τ j = 2 * k + 3) V2 w2 := hkk.mono (fun j e => ⟨fun e2 => e (a3 j e2), fun i hi e2 => e (u3 i hi j e2)⟩)
      have R3 := own_of HR.out (Nat.le_refl _) (fun j e _ => hk3.block j (HR.out.lt j e).2 (by have := NQ0.out.rl j e; omega))
      have T3 := T2.out.keep (w' := w2) (fun j e hl' => hk3.block j hl' (by have := t4 j e; omega))
      have K3 : Kp (fun j => ¬ τ j = 0 ∧ ¬ τ j = 2 * k + 3) wr w2 := (HK2.out.mono (fun j e => e.1)).trans (hk3.mono (fun j e => e.2))
      obtain ⟨g'', cap'', ev, _, _, _, hc2⟩ := own_spot R3 (by omega)
      cases ev
      have d3 : w2.cell? ⟨g, k * 4 + 3, none⟩ = some (.slice pt (ndK l k).tx.length ct) := by
        have := (hc2 (k * 4 + 3) (by omega)).trans (ncs_get _ va vt l.length k 3 hlt (by omega))
        rw [this, ← ET.out]; rfl
      obtain ⟨q2, hq3⟩ : ∃ q2 : Nat, q + 1 + 1 + (ndK l k).at_.length + vsz (ndK l k).at_ = q2 := ⟨_, rfl⟩
      have KB := markByteS_own q2 (vt k) (ndK l k).tx w2 T3 (by omega)
      rw [ET.out] at KB
      have KB := Hid.mk' KB
      have HR := Hid.mk' R3
      have HK3 := Hid.mk' K3
      have HO := Hid.mk' hoa
      have QQ := Hid.mk' hq3
      have ez : ((q + 1 + 1 : Nat) : Int) + ((ndK l k).at_.length : Int) + (vsz (ndK l k).at_ : Int) = (q2 : Int) := by omega
      rw [ez]
      clear hkk hoa hk3 R3 T3 K3 hc2 KA T2 HK2 ez d2
      go_wp2_with fail
      refine KB.out.mono ?_
      rintro e w3 ⟨rfl, hob, htu⟩
      rw [← ET.out] at hob htu
      have hk4 : Kp (fun j => ¬ τ j = 2 * k + 4) w2 w3 := Kp.of_turned htu (fun j e e2 => e (t4 j e2))
      have R4 := own_of HR.out (Nat.le_refl _) (fun j e _ => hk4.block j (HR.out.lt j e).2 (by have := NQ0.out.rl j e; omega))
      have A4 := HO.out.keepOf (w' := w3) (fun j e hl' => hk4.block j hl' (by have := a3 j e; omega)) (fun i hi j e hl' => hk4.block j hl' (by rw [mkA_len] at hi; have := u3 i hi j e; omega))
      have K4 : Kp (fun j => ¬ τ j = 0 ∧ ¬ τ j = 2 * k + 3 ∧ ¬ τ j = 2 * k + 4) wr w3 := (HK3.out.mono (fun j e => ⟨e.1, e.2.1⟩)).trans (hk4.mono (fun j e => e.2.2))
      have N5 : NQ τ lo w3 (.slice (some ⟨g, 0, none⟩) l.length cv) (halfN z l (k + 1)) va vt us := by
        have := NQ0.out.modify (n := k) (t := mk1 q (ndK l k)) (w' := w3) (by omega) (by rw [hgt]; exact mkA_len _ _) (by rw [hln]; exact R4) A4 (by have := hob; rw [← QQ.out] at this; exact this) K4
        rw [HS.out] at this
        exact this
      have N5 := Hid.mk' N5
      have K5 := Hid.mk' (HK.out.trans (K4.mono (fun j e => by unfold Oth at e; omega)))
      have EZ : Hid (((q2 : Nat) : Int) + ((ndK l k).tx.length : Int) = ((z + cnN (l.take (k + 1)) : Nat) : Int)) := Hid.mk' (by rw [Q1.out]; have := QQ.out; omega)
      clear hob htu hk4 R4 A4 K4 KB HR HK3 HO
      go_wp2
      go_roundw
      case rel => exact ⟨k + 1, by omega, by go_num, by rw [← EZ.out], N5.out, K5.out⟩
      case measure => simp [intOf]; omega
    · have ci : ¬ (k : Int) < (l.length : Int) := by omega
      have e : k = l.length := by omega
      subst e
      rw [halfN_all] at hnq
      have HO := Hid.mk' hnq
      clear hnq
      rw [List.take_length]
      go_wp2
      go_ret
      exact ⟨rfl, HO.out, HK.out⟩

end Go.Proofs.YthcajggbcanmdaaGreatDoor

namespace Go.Proofs.YthcajggbcanmdaaGreatDoor
open Go.RowKit

set_option maxHeartbeats 400000 in
theorem eqByteS_big (a b : Option Addr) (c d : Nat) (l : List Int) (w : World) (ha : BAt w a l) (hb : BAt w b l) (hl : (l.length : Int) ≤ 2000000) :
    Calls Tryz.prog 10 #[.slice a l.length c, .slice b l.length d] w fun e w' => e = .returned (.bool true) ∧ Below w.heap.size w w' := by
  go_enter Tryz.func10, Tryz.ntmps10
  go_wp2
  go_loopw [5] (fun i wr => ∃ k : Nat, k ≤ l.length ∧ i = .int .i64 k ∧ Below w.heap.size w wr) (fun i _ => l.length - (intOf i).toNat)
  case atStart => exact ⟨0, Nat.zero_le _, rfl, Below.refl _ _⟩
  case round =>
    obtain ⟨k, hk, rfl, hbl⟩ := hrel
    by_cases hlt : k < l.length
    · rcases ha with ha | ⟨b1, o1, rfl, hbs1, hc1⟩
      · exact absurd hlt (by rw [ha]; exact Nat.not_lt_zero _)
      rcases hb with hb | ⟨b2, o2, rfl, hbs2, hc2⟩
      · exact absurd hlt (by rw [hb]; exact Nat.not_lt_zero _)
      obtain ⟨x, hx⟩ : ∃ x, bv l k = .int .u8 x := ⟨_, rfl⟩
      have h1 : wr.cell? ⟨b1, o1 + k, none⟩ = some (.int .u8 x) := hx ▸ (hbl.cell hbs1).trans (hc1 k hlt)
      have h2 : wr.cell? ⟨b2, o2 + k, none⟩ = some (.int .u8 x) := hx ▸ (hbl.cell hbs2).trans (hc2 k hlt)
      have R2 := Hid.mk' hbl
      clear hbl hc1 hc2 hx
      go_wp2
      go_quiet (fail)
      go_wp2
      go_roundw
      case rel => exact ⟨k + 1, by omega, by go_num, below_drewN R2.out _⟩
      case measure => simp [intOf]; omega
    · go_wp2
      go_ret
      exact ⟨rfl, hbl⟩

set_option maxHeartbeats 400000 in
theorem eqAttr_big (s : ByteArray) (a b : Option Addr) (c d : Nat) (l : List Int) (w : World) (ha : BAt w a l) (hb : BAt w b l) (hl : (l.length : Int) ≤ 2000000) :
    Calls Tryz.prog 89 #[.agg #[.string s, .slice a l.length c], .agg #[.string s, .slice b l.length d]] w fun e w' => e = .returned (.bool true) ∧ Below w.heap.size w w' := by
  have B0 := ((Below.refl w.heap.size w).alloc (Nat.le_refl _) (.cells #[.string s, .slice a l.length c] 82)).alloc (by simp) (.cells #[.string s, .slice b l.length d] 82)
  have KB := Hid.mk' (eqByteS_big a b c d l _ (ha.below B0) (hb.below B0) hl)
  have HB := Hid.mk' B0
  clear ha hb B0
  go_enter Tryz.func89, Tryz.ntmps89
  go_wp2_with fail
  refine KB.out.mono ?_
  rintro e w1 ⟨rfl, hb⟩
  have HB := Hid.mk' (HB.out.trans (hb.mono HB.out.size))
  clear hb KB
  go_wp2
  go_ret
  exact ⟨rfl, HB.out⟩

set_option maxHeartbeats 1600000 in
theorem eqAttrS_big (a b : Option Addr) (c d : Nat) (l : List AT) (w : World) (ha : AAt w a l) (hb : AAt w b l) (hl : (l.length : Int) + asz l ≤ 2000000) :
    Calls Tryz.prog 70 #[.slice a l.length c, .slice b l.length d] w fun e w' => e = .returned (.bool true) ∧ Below w.heap.size w w' := by
  have HA := Hid.mk' ha
  have HB := Hid.mk' hb
  clear ha hb
  go_enter Tryz.func70, Tryz.ntmps70
  go_wp2
  go_loopw [5] (fun i wr => ∃ k : Nat, k ≤ l.length ∧ i = .int .i64 k ∧ Below w.heap.size w wr) (fun i _ => l.length - (intOf i).toNat)
  case atStart => exact ⟨0, Nat.zero_le _, rfl, Below.refl _ _⟩
  case round =>
    obtain ⟨k, hk, rfl, hbl⟩ := hrel
    have R2 := Hid.mk' hbl
    by_cases hlt : k < l.length
    · have ci : (k : Int) < (l.length : Int) := by omega
      rcases HA.out.below hbl with ha | ⟨b1, o1, rfl, s1, hc1⟩
      · exact absurd hlt (by rw [ha]; exact Nat.not_lt_zero _)
      rcases HB.out.below hbl with hb | ⟨b2, o2, rfl, s2, hc2⟩
      · exact absurd hlt (by rw [hb]; exact Nat.not_lt_zero _)
      obtain ⟨h1, p1, d1, h2, h3⟩ := hc1 k hlt
      obtain ⟨h4, p2_, d2, h5, h6⟩ := hc2 k hlt
      have st := asz_take l k hlt
      have sl := asz_le l (k + 1)
      have KE : Hid (Calls Tryz.prog 89 #[.agg #[.string (atK l k).nm, .slice p1 (atK l k).vl.length d1], .agg #[.string (atK l k).nm, .slice p2_ (atK l k).vl.length d2]] wr.drew fun e w' => e = .returned (.bool true) ∧ Below wr.drew.heap.size wr.drew w') := eqAttr_big _ _ _ _ _ _ _ (h3.below (Below.refl _ _).drew) (h6.below (Below.refl _ _).drew) (by omega)
      clear hbl hc1 hc2 h3 h6 st sl
      go_wp2
      go_region_held3 (fun w' => w'.cell? ⟨b1, o1 + k * 2, none⟩ = some (.string (atK l k).nm) ∧ w'.cell? ⟨b1, o1 + k * 2 + 1, none⟩ = some (.slice p1 (atK l k).vl.length d1) ∧ w'.cell? ⟨b2, o2 + k * 2, none⟩ = some (.string (atK l k).nm) ∧ w'.cell? ⟨b2, o2 + k * 2 + 1, none⟩ = some (.slice p2_ (atK l k).vl.length d2)) (simp [*])
        ((go_at_call 89; refine KE.out.mono ?_; rintro e w1 ⟨rfl, hb1⟩; replace hb1 := undrew hb1; obtain ⟨hx1, hx2⟩ := bcell hb1))
      go_wp2
      go_roundw
      case rel => exact ⟨k + 1, by omega, by go_num, R2.out.trans (hb1.mono R2.out.size)⟩
      case measure => simp [intOf]; omega
    · have ci : ¬ (k : Int) < (l.length : Int) := by omega
      go_wp2
      go_ret
      exact ⟨rfl, R2.out⟩

set_option maxHeartbeats 1600000 in
theorem eqNode_big (t : ND) (a b p q : Option Addr) (c d c' d' : Nat) (w : World) (ha : AAt w a t.at_) (hb : AAt w b t.at_) (hp : BAt w p t.tx) (hq : BAt w q t.tx) (hl : (nsz t : Int) ≤ 2000000) :
    Calls Tryz.prog 67 #[.agg #[.int .i64 t.up, .string t.tg, .slice a t.at_.length c, .slice p t.tx.length c'], .agg #[.int .i64 t.up, .string t.tg, .slice b t.at_.length d, .slice q t.tx.length d']] w fun e w' => e = .returned (.bool true) ∧ Below w.heap.size w w' := by
  unfold nsz at hl
  have B0 := ((Below.refl w.heap.size w).alloc (Nat.le_refl _) (.cells #[.int .i64 t.up, .string t.tg, .slice a t.at_.length c, .slice p t.tx.length c'] 91)).alloc (by simp) (.cells #[.int .i64 t.up, .string t.tg, .slice b t.at_.length d, .slice q t.tx.length d'] 91)
  have R1 := (row4 w 91 (.int .i64 t.up) (.string t.tg) (.slice a t.at_.length c) (.slice p t.tx.length c')).alloc (.cells #[.int .i64 t.up, .string t.tg, .slice b t.at_.length d, .slice q t.tx.length d'] 91)
  have R2 := row4 (w.alloc (.cells #[.int .i64 t.up, .string t.tg, .slice a t.at_.length c, .slice p t.tx.length c'] 91)) 91 (.int .i64 t.up) (.string t.tg) (.slice b t.at_.length d) (.slice q t.tx.length d')
  have z1 : (w.alloc (.cells #[.int .i64 t.up, .string t.tg, .slice a t.at_.length c, .slice p t.tx.length c'] 91)).heap.size = w.heap.size + 1 := by simp
  rw [z1] at R2
  have H1 := Hid.mk' R1
  have H2 := Hid.mk' R2
  have KB := Hid.mk' (eqAttrS_big a b c d t.at_ _ (ha.below B0) (hb.below B0) (by omega))
  have HX := Hid.mk' (hp.below B0)
  have HY := Hid.mk' (hq.below B0)
  have HB := Hid.mk' B0
  clear ha hb hp hq B0 R1 R2 z1
  generalize hW : (w.alloc (.cells #[.int .i64 t.up, .string t.tg, .slice a t.at_.length c, .slice p t.tx.length c'] 91)).alloc (.cells #[.int .i64 t.up, .string t.tg, .slice b t.at_.length d, .slice q t.tx.length d'] 91) = W at *
  obtain ⟨p0, p1, p2_, p3, p4⟩ := cells4 H1.out
  obtain ⟨q0, q1, q2, q3, q4⟩ := cells4 H2.out
  go_enter Tryz.func67, Tryz.ntmps67
  go_wp2_with fail
  clear hW p0 p1 p2_ p3 p4 q0 q1 q2 q3 q4
  refine KB.out.mono ?_
  rintro e w1 ⟨rfl, hb⟩
  obtain ⟨p0, p1, p2_, p3, p4⟩ := cells4 (rowB H1.out hb)
  obtain ⟨q0, q1, q2, q3, q4⟩ := cells4 (rowB H2.out hb)
  have KT := Hid.mk' (eqByteS_big p q c' d' t.tx w1 (HX.out.below hb) (HY.out.below hb) (by omega))
  have HB := Hid.mk' (HB.out.trans (hb.mono HB.out.size))
  clear hb KB
  go_wp2_with fail
  refine KT.out.mono ?_
  rintro e w2 ⟨rfl, hb⟩
  have HB := Hid.mk' (HB.out.trans (hb.mono HB.out.size))
  clear hb KT
  go_wp2
  go_ret
  exact ⟨rfl, HB.out⟩

set_option maxHeartbeats 1600000 in
theorem eqNodeS_big (a b : Option Addr) (c d : Nat) (l : List ND) (w : World) (ha : NsAt w a l) (hb : NsAt w b l) (hl : (l.length : Int) + nssz l ≤ 2000000) :
    Calls Tryz.prog 44 #[.slice a l.length c, .slice b l.length d] w fun e w' => e = .returned (.bool true) ∧ Below w.heap.size w w' := by
  have HA := Hid.mk' ha
  have HB := Hid.mk' hb
  clear ha hb
  go_enter Tryz.func44, Tryz.ntmps44
  go_wp2
  go_loopw [5] (fun i wr => ∃ k : Nat, k ≤ l.length ∧ i = .int .i64 k ∧ Below w.heap.size w wr) (fun i _ => l.length - (intOf i).toNat)
  case atStart => exact ⟨0, Nat.zero_le _, rfl, Below.refl _ _⟩
  case round =>
    obtain ⟨k, hk, rfl, hbl⟩ := hrel
    have R2 := Hid.mk' hbl
    by_cases hlt : k < l.length
    · have ci : (k : Int) < (l.length : Int) := by omega
      rcases HA.out.below hbl with ha | ⟨b1, o1, rfl, s1, hc1⟩
      · exact absurd hlt (by rw [ha]; exact Nat.not_lt_zero _)
      rcases HB.out.below hbl with hb | ⟨b2, o2, rfl, s2, hc2⟩
      · exact absurd hlt (by rw [hb]; exact Nat.not_lt_zero _)
      obtain ⟨x1, x2, ⟨p1, d1, x3, _, x4⟩, ⟨p3, d3, x5, x6⟩⟩ := hc1 k hlt
      obtain ⟨y1, y2, ⟨p2_, d2, y3, _, y4⟩, ⟨p4, d4, y5, y6⟩⟩ := hc2 k hlt
      have st := nssz_at hlt
      have KE := Hid.mk' (eqNode_big (ndK l k) p1 p2_ p3 p4 d1 d2 d3 d4 wr.drew (x4.below (Below.refl _ _).drew) (y4.below (Below.refl _ _).drew) (x6.below (Below.refl _ _).drew) (y6.below (Below.refl _ _).drew) (by omega))
      clear hbl hc1 hc2 x4 y4 x6 y6 st
      go_wp2
      go_region_held3 (fun w' => w'.cell? ⟨b1, o1 + k * 4, none⟩ = some (.int .i64 (ndK l k).up) ∧ w'.cell? ⟨b1, o1 + k * 4 + 1, none⟩ = some (.string (ndK l k).tg) ∧ w'.cell? ⟨b1, o1 + k * 4 + 2, none⟩ = some (.slice p1 (ndK l k).at_.length d1) ∧ w'.cell? ⟨b1, o1 + k * 4 + 3, none⟩ = some (.slice p3 (ndK l k).tx.length d3) ∧ w'.cell? ⟨b2, o2 + k * 4, none⟩ = some (.int .i64 (ndK l k).up) ∧ w'.cell? ⟨b2, o2 + k * 4 + 1, none⟩ = some (.string (ndK l k).tg) ∧ w'.cell? ⟨b2, o2 + k * 4 + 2, none⟩ = some (.slice p2_ (ndK l k).at_.length d2) ∧ w'.cell? ⟨b2, o2 + k * 4 + 3, none⟩ = some (.slice p4 (ndK l k).tx.length d4)) (simp [*])
        ((go_at_call 67; refine KE.out.mono ?_; rintro e w1 ⟨rfl, hb1⟩; replace hb1 := undrew hb1; obtain ⟨hx1, hx2⟩ := bcell hb1))
      go_wp2
      go_roundw
      case rel => exact ⟨k + 1, by omega, by go_num, R2.out.trans (hb1.mono R2.out.size)⟩
      case measure => simp [intOf]; omega
    · have ci : ¬ (k : Int) < (l.length : Int) := by omega
      go_wp2
      go_ret
      exact ⟨rfl, R2.out⟩

end Go.Proofs.YthcajggbcanmdaaGreatDoor

namespace Go.Proofs.YthcajggbcanmdaaGreatDoor
open Go.RowKit

set_option maxHeartbeats 6400000 in
theorem heldNodeS_is (z : Nat) (a : Option Addr) (c : Nat) (l : List ND) (w : World) (ha : NsAt w a (mkN z l)) (hz : 0 < z) (hz2 : (z : Int) ≤ 10000000) (hl : (l.length : Int) + nssz l ≤ 2000000) :
    Calls Tryz.prog 46 #[.slice a l.length c, .int .i64 (z : Int)] w fun e w' => e = .returned (.int .i64 ((z + cnN l : Nat) : Int)) ∧ Below w.heap.size w w' := by
  have HA := Hid.mk' ha
  clear ha
  go_enter Tryz.func46, Tryz.ntmps46
  go_wp2
  go_loopw [1, 5] (fun x i wr => ∃ k : Nat, k ≤ l.length ∧ i = .int .i64 k ∧ x = .int .i64 ((z + cnN (l.take k) : Nat) : Int) ∧ Below w.heap.size w wr) (fun _ i _ => l.length - (intOf i).toNat)
  case atStart => exact ⟨0, Nat.zero_le _, rfl, by simp [cnN], Below.refl _ _⟩
  case round =>
    obtain ⟨k, hk, rfl, rfl, hbl⟩ := hrel
    have HB := Hid.mk' hbl
    by_cases hlt : k < l.length
    · have ci : (k : Int) < (l.length : Int) := by omega
      have st := cnN_take l k hlt
      have sl := cnN_le l (k + 1)
      have vz := vsz_asz (ndK l k).at_
      have sz1 := nssz_at hlt
      unfold nsz at sz1
      unfold cn1 at st
      rcases HA.out.below hbl with h0 | ⟨b1, o1, rfl, s1, hc1⟩
      · have := mkN_len z l; rw [h0] at this; simp at this; omega
      obtain ⟨h1, h2, ⟨p1, d1, h3, _, h4⟩, ⟨p2, d2, h5, h6⟩⟩ := hc1 k (by rw [mkN_len]; exact hlt)
      rw [mkN_get hlt] at h1 h2 h3 h4 h5 h6
      obtain ⟨q, hq⟩ : ∃ q : Nat, z + cnN (l.take k) = q := ⟨_, rfl⟩
      rw [hq] at h1 h2 h3 h4 h5 h6 ⊢
      simp only [mk1, mkA_len, mb_len] at h1 h2 h3 h4 h5 h6
      obtain ⟨q2, hq3⟩ : ∃ q2 : Nat, q + 1 + 1 + (ndK l k).at_.length + vsz (ndK l k).at_ = q2 := ⟨_, rfl⟩
      rw [hq3] at h6
      have hq1 : z + cnN (l.take (k + 1)) = q2 + (ndK l k).tx.length := by omega
      have hq2 : q2 + (ndK l k).tx.length ≤ 20000000 := by omega
      have Q1 := Hid.mk' hq1
      have H4 := Hid.mk' h4
      have H6 := Hid.mk' h6
      have KT := Hid.mk' (markText_is (q + 1) wr.drew (by omega) (by omega))
      clear st sl hq hq1 hc1 h4 h6 hbl
      go_wp2_with fail
      go_region_held3 (fun w' => w'.cell? ⟨b1, o1 + k * 4 + 1, none⟩ = some (.string (mtx (q + 1)))) (simp [*])
        ((go_at_call 50; refine KT.out.mono ?_; rintro e w1 ⟨rfl, hb1⟩; replace hb1 := undrew hb1; obtain ⟨hx1, hx2⟩ := bcell hb1))
      have B1 := Hid.mk' (HB.out.trans (hb1.mono HB.out.size))
      have g3 : w1.cell? ⟨b1, o1 + k * 4 + 2, none⟩ = some (.slice p1 (ndK l k).at_.length d1) := (hx1 _ _ s1).trans h3
      have g5 : w1.cell? ⟨b1, o1 + k * 4 + 3, none⟩ = some (.slice p2 (ndK l k).tx.length d2) := (hx1 _ _ s1).trans h5
      have s2 : b1 < w1.heap.size := Nat.lt_of_lt_of_le s1 hb1.size
      have KA := Hid.mk' (heldAttrS_is (q + 1 + 1) p1 d1 (ndK l k).at_ w1 (H4.out.below hb1) (by omega) (by omega) (by omega))
      have H6 := Hid.mk' (H6.out.below hb1)
      clear hb1 hx1 hx2 KT h1 h2 h3 h5
      go_wp2_with fail
      refine KA.out.mono ?_
      rintro e w2 ⟨rfl, hb2⟩
      have B2 := Hid.mk' (B1.out.trans (hb2.mono B1.out.size))
      have g6 : w2.cell? ⟨b1, o1 + k * 4 + 3, none⟩ = some (.slice p2 (ndK l k).tx.length d2) := (hb2.cell s2).trans g5
      have KB := Hid.mk' (heldByteS_any p2 d2 (ndK l k).tx.length q2 w2 (H6.out.below hb2) (by omega))
      have ez : ((q + 1 + 1 : Nat) : Int) + ((ndK l k).at_.length : Int) + (vsz (ndK l k).at_ : Int) = (q2 : Int) := by omega
      have zz : ¬ ((q2 : Int) < 0) := by omega
      rw [ez]
      clear hb2 KA g3 g5 ez
      go_wp2_with fail
      refine KB.out.mono ?_
      rintro e w3 ⟨rfl, hb3⟩
      have B3 := Hid.mk' (B2.out.trans (hb3.mono B2.out.size))
      have z2 : ¬ ((q2 : Int) + (ndK l k).tx.length < 0) := by omega
      clear hb3 KB g6
      go_wp2
      go_roundw
      case rel => exact ⟨k + 1, by omega, by go_num, by rw [Q1.out]; simp, B3.out⟩
      case measure => simp [intOf]; omega
    · have ci : ¬ (k : Int) < (l.length : Int) := by omega
      have e : k = l.length := by omega
      subst e
      rw [List.take_length]
      go_wp2
      go_ret
      exact ⟨rfl, HB.out⟩

structure SQ (τ : Nat → Nat) (lo : Nat) (w : World) (vn vo : Value) (s : BS) (va vt : Nat → Value) (us : Nat → List Value) : Prop where
  ns : NQ τ lo w vn s.nd va vt us
  op : OI w vo s.op
  ol : ∀ k, vo.ownBlock = some k → lo ≤ k ∧ τ k = 1

theorem SQ.at {τ : Nat → Nat} {lo : Nat} {w : World} {vn vo : Value} {s : BS} {va vt : Nat → Value} {us : Nat → List Value} (h : SQ τ lo w vn vo s va vt us) : ∃ a c p d, vn = .slice a s.nd.length c ∧ vo = .slice p s.op.length d ∧ SAt w a p s := by
  obtain ⟨a, c, e1, h1⟩ := h.ns.at
  obtain ⟨p, d, e2, h2⟩ := h.op.len
  exact ⟨a, c, p, d, e1, e2, h1, h2⟩

end Go.Proofs.YthcajggbcanmdaaGreatDoor
