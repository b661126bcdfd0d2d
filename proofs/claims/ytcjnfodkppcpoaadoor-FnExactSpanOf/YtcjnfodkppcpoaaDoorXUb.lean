/- The nodes of a tree, told in their order, each twice: where it begins and where it ends. -/
import Derived.Test.YtcjnfodkppcpoaaDoorXGu
import Derived.Test.YtcjnfodkppcpoaaDoorXGq
namespace Go.Proofs.YtcjnfodkppcpoaaDoor
set_option linter.unusedVariables false

/-- What is told from one place up to another. -/
def evs (E : Nat → Nat) (i j : Nat) : List (Nat × Bool) :=
  if h : i < j ∧ i < E i ∧ E i ≤ j then (i, false) :: (evs E (i + 1) (E i) ++ (i, true) :: evs E (E i) j) else []
termination_by j - i
decreasing_by all_goals omega

theorem evs_cons {E : Nat → Nat} {i j : Nat} (h1 : i < j) (h2 : i < E i) (h3 : E i ≤ j) : evs E i j = (i, false) :: (evs E (i + 1) (E i) ++ (i, true) :: evs E (E i) j) := by
  rw [evs, dif_pos ⟨h1, h2, h3⟩]
theorem evs_nil {E : Nat → Nat} {i j : Nat} (h : ¬ i < j) : evs E i j = [] := by
  rw [evs, dif_neg (fun x => h x.1)]

theorem endU_spec (d : Nat → Nat) (a : Nat) : ∀ (m e : Nat), e ≤ endU d a m e ∧ endU d a m e ≤ e + m ∧ (∀ j, e ≤ j → j < endU d a m e → d a < d j) ∧ (endU d a m e < e + m → ¬ d a < d (endU d a m e))
  | 0, e => ⟨Nat.le_refl _, Nat.le_refl _, fun j h1 h2 => absurd h2 (by show ¬ j < e; omega), fun h => absurd h (by show ¬ e < e + 0; omega)⟩
  | m + 1, e => by
    by_cases h : d a < d e
    · have e1 : endU d a (m + 1) e = endU d a m (e + 1) := by show (if d a < d e then endU d a m (e + 1) else e) = _; rw [if_pos h]
      obtain ⟨q1, q2, q3, q4⟩ := endU_spec d a m (e + 1)
      rw [e1]
      refine ⟨by omega, by omega, fun j hj hk => ?_, fun hk => q4 (by omega)⟩
      by_cases c : j = e
      · rw [c]; exact h
      · exact q3 j (by omega) hk
    · have e1 : endU d a (m + 1) e = e := by show (if d a < d e then endU d a m (e + 1) else e) = _; rw [if_neg h]
      rw [e1]
      exact ⟨Nat.le_refl _, by omega, fun j h1 h2 => absurd h2 (by omega), fun _ => h⟩

/-- The depth of a place. -/
abbrev dp (l : List ND) (k : Nat) : Nat := depU (upF l) k

theorem end_spec (l : List ND) {k : Nat} (h : k < l.length) : k < endN l k ∧ endN l k ≤ l.length ∧ (∀ j, k < j → j < endN l k → dp l k < dp l j) ∧ (endN l k < l.length → ¬ dp l k < dp l (endN l k)) := by
  obtain ⟨q1, q2, q3, q4⟩ := endU_spec (depU (upF l)) k (l.length - (k + 1)) (k + 1)
  unfold endN
  exact ⟨by omega, by omega, fun j h1 h2 => q3 j (by omega) h2, fun h1 => q4 (by omega)⟩

/-- Nodes side by side, with all that is in them. -/
structure Seg (l : List ND) (c i j : Nat) : Prop where
  le : i ≤ j
  lt : j ≤ l.length
  in_ : ∀ k, i ≤ k → k < j → c ≤ dp l k
  out : j = l.length ∨ (j < l.length ∧ dp l j ≤ c)
  hd : i < j → dp l i = c

theorem Seg.fst {l : List ND} {c i j : Nat} (h : Seg l c i j) (hij : i < j) : i < endN l i ∧ endN l i ≤ j := by
  obtain ⟨q1, q2, q3, q4⟩ := end_spec l (show i < l.length by have := h.lt; omega)
  refine ⟨q1, Nat.le_of_not_lt fun hc => ?_⟩
  rcases h.out with e | ⟨e1, e2⟩
  · omega
  · have := q3 j hij hc
    have := h.hd hij
    omega

theorem dp_step {l : List ND} (hw : Ways l l.length) {k : Nat} (h : k + 1 < l.length) : dp l (k + 1) ≤ dp l k + 1 := by
  have h1 := hw (k + 1) h
  obtain ⟨L, _, _⟩ := way_succ (upF l) k (hw k (by omega))
  show depU (upF l) (k + 1) ≤ depU (upF l) k + 1
  omega

theorem Seg.sub {l : List ND} (hw : Ways l l.length) {c i j : Nat} (h : Seg l c i j) (hij : i < j) : Seg l (c + 1) (i + 1) (endN l i) := by
  have hi : i < l.length := by have := h.lt; omega
  obtain ⟨q1, q2, q3, q4⟩ := end_spec l hi
  have hc := h.hd hij
  refine ⟨by omega, q2, fun k h1 h2 => by have := q3 k (by omega) h2; omega, ?_, fun h1 => ?_⟩
  · by_cases e : endN l i = l.length
    · exact .inl e
    · have := q4 (by omega)
      exact .inr ⟨by omega, by omega⟩
  · have h2 := q3 (i + 1) (by omega) h1
    have h3 := dp_step hw (k := i) (by omega)
    omega

theorem Seg.next {l : List ND} {c i j : Nat} (h : Seg l c i j) (hij : i < j) : Seg l c (endN l i) j := by
  have hi : i < l.length := by have := h.lt; omega
  obtain ⟨q1, q2, q3, q4⟩ := end_spec l hi
  obtain ⟨f1, f2⟩ := h.fst hij
  refine ⟨f2, h.lt, fun k h1 h2 => h.in_ k (by omega) h2, h.out, fun h1 => ?_⟩
  have h2 := q4 (by have := h.lt; omega)
  have h3 := h.in_ (endN l i) (by omega) h1
  have := h.hd hij
  omega

theorem Seg.top {l : List ND} (hw : Ways l l.length) : Seg l 0 0 l.length :=
  ⟨Nat.zero_le _, Nat.le_refl _, fun k _ _ => Nat.zero_le _, .inl rfl, fun h => by
    have := hw 0 h
    simp [wayU] at this
    exact this⟩

theorem Seg.one {l : List ND} (hw : Ways l l.length) {k : Nat} (h : k < l.length) : Seg l (dp l k) k (endN l k) := by
  obtain ⟨q1, q2, q3, q4⟩ := end_spec l h
  refine ⟨by omega, q2, fun j h1 h2 => ?_, ?_, fun _ => rfl⟩
  · by_cases e : j = k
    · rw [e]; exact Nat.le_refl _
    · exact Nat.le_of_lt (q3 j (by omega) h2)
  · by_cases e : endN l k = l.length
    · exact .inl e
    · have := q4 (by omega)
      exact .inr ⟨by omega, by omega⟩

theorem Seg.kids {l : List ND} (hw : Ways l l.length) {k : Nat} (h : k < l.length) : Seg l (dp l k + 1) (k + 1) (endN l k) := by
  obtain ⟨q1, q2, q3, q4⟩ := end_spec l h
  refine ⟨by omega, q2, fun j h1 h2 => by have := q3 j (by omega) h2; omega, ?_, fun h1 => ?_⟩
  · by_cases e : endN l k = l.length
    · exact .inl e
    · have := q4 (by omega)
      exact .inr ⟨by omega, by omega⟩
  · have h2 := q3 (k + 1) (by omega) h1
    have h3 := dp_step hw (k := k) (by omega)
    omega
/-- The m-th is on the way to all up to where it ends. -/
theorem onWay_upto {l : List ND} (hw : Ways l l.length) {m : Nat} (hm : m < l.length) : ∀ e, m < e → e ≤ endN l m → onWay l m e := by
  obtain ⟨q1, q2, q3, q4⟩ := end_spec l hm
  intro e
  induction e with
  | zero => intro h; omega
  | succ e ih =>
    intro h1 h2
    by_cases c : e = m
    · subst c; exact onWay_start hw hm
    · exact (in_iff (upF l) l.length hw (show m < e by omega) (by omega) (ih (by omega) (by omega))).1 (q3 e (by omega) (by omega))

/-- And on no way behind. -/
theorem onWay_not {l : List ND} (hw : Ways l l.length) {m : Nat} (hm : m < l.length) : ∀ e, endN l m < e → e ≤ l.length → ∀ i, i < (wayU (upF l) e).length → ¬ wv (wayU (upF l) e) i = m := by
  obtain ⟨q1, q2, q3, q4⟩ := end_spec l hm
  intro e
  induction e with
  | zero => intro h; omega
  | succ e ih =>
    intro h1 h2 i hi
    by_cases c : e = endN l m
    · subst c
      exact (in_iff (upF l) l.length hw q1 (by omega) (onWay_upto hw hm _ q1 (Nat.le_refl _))).2 (q4 (by omega)) i hi
    · obtain ⟨L, lo, en⟩ := way_succ (upF l) e (hw e (by omega))
      by_cases c1 : i = depU (upF l) e + 1
      · rw [c1, en]; omega
      · rw [lo i (by omega)]
        exact ih (by omega) (by omega) i (by have := hw e (by omega); omega)

theorem up_at {l : List ND} (hw : Ways l l.length) {k : Nat} (hk : k < l.length) : wv (wayU (upF l) k) (dp l k) = upF l k := ixF_at (hw k hk)

theorem kid_iff {l : List ND} (hw : Ways l l.length) {m k : Nat} (hm : m < l.length) (hk : k < l.length) : upF l k = (m : Int) ↔ (m < k ∧ k < endN l m ∧ dp l k = dp l m + 1) := by
  have hu := up_at hw hk
  have G := good_way (upF l) k (fun j hj => hw j (by omega))
  obtain ⟨q1, q2, q3, q4⟩ := end_spec l hm
  constructor
  · intro h
    rw [h] at hu
    have hd := hw k hk
    have h1 := G.hi hd
    rw [show depU (upF l) k = dp l k from rfl, hu] at h1
    have hmk : m < k := by omega
    have hke : k ≤ endN l m := Nat.le_of_not_lt fun hc => onWay_not hw hm k hc (by omega) _ hd hu
    have ho := onWay_upto hw hm k hmk hke
    have e : dp l k = dp l m + 1 := G.one hd ho.2 (hu.trans ho.1.symm)
    refine ⟨hmk, Nat.lt_of_le_of_ne hke fun c => ?_, e⟩
    have := q4 (by omega)
    rw [← c] at this
    omega
  · rintro ⟨h1, h2, h3⟩
    have ho := onWay_upto hw hm k h1 (by omega)
    rw [← hu, h3]
    exact ho.1

theorem top_iff {l : List ND} (hw : Ways l l.length) {k : Nat} (hk : k < l.length) : upF l k = -1 ↔ dp l k = 0 := by
  have hu := up_at hw hk
  have G := good_way (upF l) k (fun j hj => hw j (by omega))
  have hd := hw k hk
  constructor
  · intro h
    rw [h] at hu
    exact G.one hd G.ne (hu.trans G.hd.symm)
  · intro h
    rw [← hu, h, G.hd]

/-- Those of a row's places that are so. -/
def pick (p : Nat → Bool) (i : Nat) : Nat → List Nat
  | 0 => []
  | m + 1 => if p i then i :: pick p (i + 1) m else pick p (i + 1) m

theorem pick_congr {p q : Nat → Bool} : ∀ (m i : Nat), (∀ k, i ≤ k → k < i + m → p k = q k) → pick p i m = pick q i m
  | 0, _, _ => rfl
  | m + 1, i, h => by
    unfold pick
    rw [h i (Nat.le_refl _) (by omega), pick_congr m (i + 1) (fun k h1 h2 => h k (by omega) (by omega))]

theorem pick_none {p : Nat → Bool} : ∀ (m i : Nat), (∀ k, i ≤ k → k < i + m → p k = false) → pick p i m = []
  | 0, _, _ => rfl
  | m + 1, i, h => by
    unfold pick
    rw [h i (Nat.le_refl _) (by omega), pick_none m (i + 1) (fun k h1 h2 => h k (by omega) (by omega))]
    rfl

theorem pick_app {p : Nat → Bool} : ∀ (m i n : Nat), pick p i (m + n) = pick p i m ++ pick p (i + m) n
  | 0, i, n => by simp [pick]
  | m + 1, i, n => by
    rw [show m + 1 + n = (m + n) + 1 by omega]
    have e1 : pick p i (m + n + 1) = if p i then i :: pick p (i + 1) (m + n) else pick p (i + 1) (m + n) := rfl
    have e2 : pick p i (m + 1) = if p i then i :: pick p (i + 1) m else pick p (i + 1) m := rfl
    rw [e1, e2, pick_app m (i + 1) n, show i + 1 + m = i + (m + 1) by omega]
    split <;> simp

theorem kidsU_pick (u : Nat → Int) (x : Int) : ∀ k, kidsU u x k = (pick (fun j => decide (u j = x)) 0 k).map (fun (j : Nat) => (j : Int))
  | 0 => rfl
  | k + 1 => by
    rw [show kidsU u x (k + 1) = kidsU u x k ++ (if u k = x then [(k : Int)] else []) from rfl, kidsU_pick u x k, pick_app k 0 1, List.map_append, Nat.zero_add]
    congr 1
    unfold pick
    by_cases h : u k = x <;> simp [h, pick]

/-- Nodes side by side. -/
theorem Seg.pick {l : List ND} {c i j : Nat} (h : Seg l c i j) (hij : i < j) : pick (fun k => decide (dp l k = c)) i (j - i) = i :: Go.Proofs.YtcjnfodkppcpoaaDoor.pick (fun k => decide (dp l k = c)) (endN l i) (j - endN l i) := by
  obtain ⟨f1, f2⟩ := h.fst hij
  obtain ⟨q1, q2, q3, q4⟩ := end_spec l (show i < l.length by have := h.lt; omega)
  rw [show j - i = 1 + ((endN l i - (i + 1)) + (j - endN l i)) by omega, pick_app 1 i, pick_app _ (i + 1)]
  rw [pick_none (endN l i - (i + 1)) (i + 1) (fun k h1 h2 => by
    have := q3 k (by omega) (by omega)
    have := h.hd hij
    simp; omega)]
  rw [show i + 1 + (endN l i - (i + 1)) = endN l i by omega]
  have : Go.Proofs.YtcjnfodkppcpoaaDoor.pick (fun k => decide (dp l k = c)) i 1 = [i] := by
    unfold Go.Proofs.YtcjnfodkppcpoaaDoor.pick
    simp [h.hd hij, Go.Proofs.YtcjnfodkppcpoaaDoor.pick]
  rw [this]
  rfl

/-- The text of nodes, edge by edge. -/
def tx {β : Type} (eg : Nat × Bool → List β) (E : Nat → Nat) (i j : Nat) : List β := (evs E i j).flatMap eg

theorem tx_one {β : Type} {eg : Nat × Bool → List β} {E : Nat → Nat} {i : Nat} (h : i < E i) : tx eg E i (E i) = eg (i, false) ++ (tx eg E (i + 1) (E i) ++ eg (i, true)) := by
  unfold tx
  rw [evs_cons h h (Nat.le_refl _), evs_nil (show ¬ E i < E i by omega)]
  simp

theorem tx_cons {β : Type} {eg : Nat × Bool → List β} {E : Nat → Nat} {i j : Nat} (h1 : i < j) (h2 : i < E i) (h3 : E i ≤ j) : tx eg E i j = tx eg E i (E i) ++ tx eg E (E i) j := by
  rw [tx_one h2]
  unfold tx
  rw [evs_cons h1 h2 h3]
  simp

theorem Seg.flat {β : Type} (eg : Nat × Bool → List β) {l : List ND} : ∀ (m c i j : Nat), j - i ≤ m → Seg l c i j → tx eg (endN l) i j = (Go.Proofs.YtcjnfodkppcpoaaDoor.pick (fun k => decide (dp l k = c)) i (j - i)).flatMap (fun k => tx eg (endN l) k (endN l k))
  | 0, c, i, j, hm, h => by
    have e : ¬ i < j := by omega
    rw [show j - i = 0 by omega]
    unfold tx
    rw [evs_nil e]
    rfl
  | m + 1, c, i, j, hm, h => by
    by_cases hij : i < j
    · obtain ⟨f1, f2⟩ := h.fst hij
      rw [tx_cons hij f1 f2, h.pick hij, List.flatMap_cons, Seg.flat eg m c (endN l i) j (by omega) (h.next hij)]
    · unfold tx
      rw [evs_nil hij, show j - i = 0 by omega]
      rfl

theorem pick_mem {p : Nat → Bool} {x : Nat} : ∀ (m i : Nat), x ∈ pick p i m → i ≤ x ∧ x < i + m
  | 0, _, h => by simp [pick] at h
  | m + 1, i, h => by
    unfold pick at h
    split at h
    · rcases List.mem_cons.1 h with e | e
      · omega
      · have := pick_mem m (i + 1) e; omega
    · have := pick_mem m (i + 1) h; omega

theorem pick_mid {p : Nat → Bool} {n i j : Nat} (hij : i ≤ j) (hj : j ≤ n) (h1 : ∀ k, k < i → p k = false) (h2 : ∀ k, j ≤ k → k < n → p k = false) : pick p 0 n = pick p i (j - i) := by
  rw [show n = i + ((j - i) + (n - j)) by omega, pick_app i 0, pick_app (j - i) (0 + i), pick_none i 0 (fun k _ h => h1 k (by omega)), Nat.zero_add]
  rw [pick_none (n - j) (i + (j - i)) (fun k ha hb => h2 k (by omega) (by omega))]
  simp

/-- The kids of a node, and those of none. -/
theorem kids_of {l : List ND} (hw : Ways l l.length) {m : Nat} (hm : m < l.length) : kidsU (upF l) (m : Int) l.length = (pick (fun k => decide (dp l k = dp l m + 1)) (m + 1) (endN l m - (m + 1))).map (fun (j : Nat) => (j : Int)) := by
  obtain ⟨q1, q2, q3, q4⟩ := end_spec l hm
  rw [kidsU_pick]
  congr 1
  rw [pick_mid (p := fun j => decide (upF l j = (m : Int))) (i := m + 1) (j := endN l m) (by omega) q2 (fun k hk => by
      simp only [decide_eq_false_iff_not]
      intro h
      have := (kid_iff hw hm (show k < l.length by omega)).1 h; omega) (fun k hk hkn => by
      simp only [decide_eq_false_iff_not]
      intro h
      have := (kid_iff hw hm hkn).1 h; omega)]
  refine pick_congr _ _ (fun k h1 h2 => ?_)
  have := kid_iff hw hm (show k < l.length by omega)
  by_cases c : dp l k = dp l m + 1
  · rw [decide_eq_true c, decide_eq_true (this.2 ⟨by omega, by omega, c⟩)]
  · rw [decide_eq_false c, decide_eq_false (fun h => c (this.1 h).2.2)]

theorem kids_top {l : List ND} (hw : Ways l l.length) : kidsU (upF l) (-1) l.length = (pick (fun k => decide (dp l k = 0)) 0 (l.length - 0)).map (fun (j : Nat) => (j : Int)) := by
  rw [kidsU_pick]
  congr 1
  refine pick_congr _ _ (fun k h1 h2 => ?_)
  have := top_iff hw (show k < l.length by omega)
  by_cases c : dp l k = 0
  · rw [decide_eq_true c, decide_eq_true (this.2 c)]
  · rw [decide_eq_false c, decide_eq_false (fun h => c (this.1 h))]

end Go.Proofs.YtcjnfodkppcpoaaDoor
