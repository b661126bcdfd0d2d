/- Where the text of a node begins: the mathematics. -/
import Derived.Test.YtcjnfodkppcpoaaDoorXV6
namespace Go.Proofs.YtcjnfodkppcpoaaDoor
set_option linter.unusedVariables false

/-- How many bytes stand ahead of the place at, from i on. -/
def ahead (f : Nat × Bool → List UInt8) (E : Nat → Nat) (i j at_ : Nat) : Nat :=
  if h : i < j ∧ i < E i ∧ E i ≤ j then
    (if at_ = i then 0 else if at_ < E i then (f (i, false)).length + ahead f E (i + 1) (E i) at_ else (tx f E i (E i)).length + ahead f E (E i) j at_)
  else 0
termination_by j - i
decreasing_by all_goals omega

theorem ahead_cons {f : Nat × Bool → List UInt8} {E : Nat → Nat} {i j at_ : Nat} (h1 : i < j) (h2 : i < E i) (h3 : E i ≤ j) :
    ahead f E i j at_ = if at_ = i then 0 else if at_ < E i then (f (i, false)).length + ahead f E (i + 1) (E i) at_ else (tx f E i (E i)).length + ahead f E (E i) j at_ := by
  rw [ahead, dif_pos ⟨h1, h2, h3⟩]

theorem Seg.end_le {l : List ND} {c i j p : Nat} (h : Seg l c i j) (h1 : i ≤ p) (h2 : p < j) : endN l p ≤ j := by
  obtain ⟨q1, q2, q3, q4⟩ := end_spec l (show p < l.length by have := h.lt; omega)
  refine Nat.le_of_not_lt fun hc => ?_
  rcases h.out with e | ⟨e1, e2⟩
  · omega
  · have := q3 j h2 hc
    have := h.in_ p h1 h2
    omega

/-- The nodes that are told ahead of a place. -/
theorem Seg.told {l : List ND} (hw : Ways l l.length) (f : Nat × Bool → List UInt8) : ∀ (m c i j at_ : Nat), j - i ≤ m → Seg l c i j → i ≤ at_ → at_ < j →
    ∃ P R, evs (endN l) i j = P ++ (at_, false) :: R ∧ (∀ x ∈ P, ¬ x.1 = at_) ∧ (P.flatMap f).length = ahead f (endN l) i j at_
  | 0, c, i, j, at_, hm, h, h1, h2 => by omega
  | m + 1, c, i, j, at_, hm, h, h1, h2 => by
    have hij : i < j := by omega
    obtain ⟨f1, f2⟩ := h.fst hij
    rw [evs_cons hij f1 f2, ahead_cons hij f1 f2]
    by_cases e : at_ = i
    · subst e
      rw [if_pos rfl]
      exact ⟨[], _, rfl, (fun x hx => by cases hx), rfl⟩
    · rw [if_neg e]
      by_cases c1 : at_ < endN l i
      · rw [if_pos c1]
        obtain ⟨P, R, q1, q2, q3⟩ := Seg.told hw f m (c + 1) (i + 1) (endN l i) at_ (by omega) (h.sub hw hij) (by omega) c1
        refine ⟨(i, false) :: P, R ++ (i, true) :: evs (endN l) (endN l i) j, by rw [q1]; simp, fun x hx => ?_, ?_⟩
        · rcases List.mem_cons.1 hx with e1 | e1
          · rw [e1]; exact fun e2 => e e2.symm
          · exact q2 x e1
        · rw [List.flatMap_cons, List.length_append, q3]
      · rw [if_neg c1]
        obtain ⟨P, R, q1, q2, q3⟩ := Seg.told hw f m c (endN l i) j at_ (by omega) (h.next hij) (by omega) h2
        refine ⟨(i, false) :: (evs (endN l) (i + 1) (endN l i) ++ (i, true) :: P), R, by rw [q1]; simp, fun x hx => ?_, ?_⟩
        · rcases List.mem_cons.1 hx with e1 | hx
          · rw [e1]; exact fun e2 => e e2.symm
          · rcases List.mem_append.1 hx with e1 | hx
            · have := evs_mem (endN l i - (i + 1)) (c + 1) (i + 1) (endN l i) x (Nat.le_refl _) (h.sub hw hij) hw e1
              omega
            · rcases List.mem_cons.1 hx with e1 | e1
              · rw [e1]; exact fun e2 => e e2.symm
              · exact q2 x e1
        · rw [tx_one f1]
          unfold tx
          simp only [List.flatMap_cons, List.flatMap_append, List.length_append]
          rw [q3]
          omega

/-- A place in another one. -/
theorem Seg.nest {l : List ND} (hw : Ways l l.length) (f : Nat × Bool → List UInt8) : ∀ (m c i j p at_ : Nat), j - i ≤ m → Seg l c i j → i ≤ p → p < j → p < at_ → at_ < endN l p →
    ahead f (endN l) i j at_ = ahead f (endN l) i j p + (f (p, false)).length + ahead f (endN l) (p + 1) (endN l p) at_
  | 0, c, i, j, p, at_, hm, h, h1, h2, h3, h4 => by omega
  | m + 1, c, i, j, p, at_, hm, h, h1, h2, h3, h4 => by
    have hij : i < j := by omega
    obtain ⟨f1, f2⟩ := h.fst hij
    rw [ahead_cons hij f1 f2, ahead_cons hij f1 f2, if_neg (by omega)]
    by_cases e : p = i
    · subst e
      rw [if_pos rfl, if_pos h4]
      omega
    · rw [if_neg e]
      by_cases c1 : p < endN l i
      · have h5 := (h.sub hw hij).end_le (p := p) (by omega) c1
        rw [if_pos c1, if_pos (by omega), Seg.nest hw f m (c + 1) (i + 1) (endN l i) p at_ (by omega) (h.sub hw hij) (by omega) c1 h3 h4]
        omega
      · rw [if_neg c1, if_neg (by omega), Seg.nest hw f m c (endN l i) j p at_ (by omega) (h.next hij) (by omega) h2 h3 h4]
        omega

/-- One of the nodes side by side. -/
theorem Seg.side {l : List ND} (hw : Ways l l.length) (f : Nat × Bool → List UInt8) : ∀ (m c i j at_ : Nat), j - i ≤ m → Seg l c i j → i ≤ at_ → at_ < j → dp l at_ = c →
    ∃ A B, Go.Proofs.YtcjnfodkppcpoaaDoor.pick (fun k => decide (dp l k = c)) i (j - i) = A ++ at_ :: B ∧ (∀ k ∈ A, k < at_) ∧ (A.flatMap (fun k => tx f (endN l) k (endN l k))).length = ahead f (endN l) i j at_
  | 0, c, i, j, at_, hm, h, h1, h2, hd => by omega
  | m + 1, c, i, j, at_, hm, h, h1, h2, hd => by
    have hij : i < j := by omega
    obtain ⟨f1, f2⟩ := h.fst hij
    obtain ⟨q1, q2, q3, q4⟩ := end_spec l (show i < l.length by have := h.lt; omega)
    rw [h.pick hij, ahead_cons hij f1 f2]
    by_cases e : at_ = i
    · subst e
      rw [if_pos rfl]
      exact ⟨[], _, rfl, (fun k hk => by cases hk), rfl⟩
    · have hge : ¬ at_ < endN l i := fun hc => by
        have := q3 at_ (by omega) hc
        have := h.hd hij
        omega
      rw [if_neg e, if_neg hge]
      obtain ⟨A, B, r1, r2, r3⟩ := Seg.side hw f m c (endN l i) j at_ (by omega) (h.next hij) (by omega) h2 hd
      refine ⟨i :: A, B, by rw [r1]; rfl, fun k hk => ?_, ?_⟩
      · rcases List.mem_cons.1 hk with e1 | e1
        · omega
        · exact r2 k e1
      · rw [List.flatMap_cons, List.length_append, r3]

/-- Where the text of a place begins. -/
abbrev frm (l : List ND) (k : Nat) : Nat := ahead (egE l) (endN l) 0 l.length k

theorem frm_top {l : List ND} (hw : Ways l l.length) {k : Nat} (hk : k < l.length) (hu : upF l k = -1) :
    ∃ A B, kidsU (upF l) (-1) l.length = (A ++ k :: B).map (fun (j : Nat) => (j : Int)) ∧ (∀ y ∈ A, y < k) ∧ (A.flatMap (fun y => nT l y)).length = frm l k := by
  obtain ⟨A, B, r1, r2, r3⟩ := Seg.side hw (egE l) (l.length - 0) 0 0 l.length k (Nat.le_refl _) (Seg.top hw) (Nat.zero_le _) hk ((top_iff hw hk).1 hu)
  exact ⟨A, B, by rw [kids_top hw, r1], r2, r3⟩

theorem frm_in {l : List ND} (hw : Ways l l.length) {p k : Nat} (hp : p < l.length) (hk : k < l.length) (hu : upF l k = (p : Int)) :
    p < k ∧ ∃ A B, kidsU (upF l) (p : Int) l.length = (A ++ k :: B).map (fun (j : Nat) => (j : Int)) ∧ (∀ y ∈ A, y < k) ∧ frm l k = frm l p + (egE l (p, false)).length + (A.flatMap (fun y => nT l y)).length := by
  obtain ⟨h1, h2, h3⟩ := (kid_iff hw hp hk).1 hu
  obtain ⟨A, B, r1, r2, r3⟩ := Seg.side hw (egE l) (endN l p - (p + 1)) (dp l p + 1) (p + 1) (endN l p) k (Nat.le_refl _) (Seg.kids hw hp) (by omega) h2 h3
  refine ⟨h1, A, B, by rw [kids_of hw hp, r1], r2, ?_⟩
  have := Seg.nest hw (egE l) (l.length - 0) 0 0 l.length p k (Nat.le_refl _) (Seg.top hw) (Nat.zero_le _) hp h1 h2
  show ahead (egE l) (endN l) 0 l.length k = _
  rw [this]
  rw [r3]

theorem Good.frm_le {l : List ND} (G : Good l) {k : Nat} (hk : k < l.length) : frm l k ≤ 172800 := by
  have hw := treeF_ways G.tree
  obtain ⟨P, R, q1, q2, q3⟩ := Seg.told hw (egE l) (l.length - 0) 0 0 l.length k (Nat.le_refl _) (Seg.top hw) (Nat.zero_le _) hk
  have h1 := G.len (Seg.top hw)
  unfold tx at h1
  rw [q1, List.flatMap_append, List.length_append, q3] at h1
  show ahead (egE l) (endN l) 0 l.length k ≤ 172800
  omega
end Go.Proofs.YtcjnfodkppcpoaaDoor
