/- The model's lexer: many bytes fed. -/
import Derived.Test.YtkiinnmindmnbaaGreatDoorC23
set_option linter.unusedVariables false
set_option linter.unusedSimpArgs false
namespace Go.Proofs.YtkiinnmindmnbaaGreatDoor
open Go.RowKit

theorem TokIn.grown {base : Nat} {w w' : World} {g g' : Option Nat} {t : TK} {u : Value} (h : TokIn base w g t u) (hg : w.grownBy w' g) (hs : w.heap.size ≤ w'.heap.size) (e : g' = g ∨ g' = some w.heap.size) : TokIn base w' g' t u := by
  rcases h with h | ⟨lo, w9, rs, h1, h2, h3, h4, h5⟩
  · exact .inl h
  · refine .inr ⟨lo, w9, rs, h1, h2, Nat.le_trans h3 hs, fun k a b => (hg.block k (by omega) (fun e => ?_)).trans (h4 k a b), fun k hk => ?_⟩
    · have := h5 k e.symm; omega
    · rcases e with e | e
      · exact h5 k (e.symm.trans hk)
      · rw [e] at hk; injection hk with hk; omega

structure TokS (base : Nat) (w : World) (v : Value) (ts : List TK) (us : List Value) : Prop where
  len : us.length = ts.length
  row : w.ownsRow base 101 5 v ts.length (tcs ts us)
  one : ∀ u ∈ us, u.oneCell' = true
  all : ∀ (i : Nat) t u, ts[i]? = some t → us[i]? = some u → TokIn base w v.ownBlock t u

theorem nils_get {n i : Nat} {u : Value} (h : (nils n)[i]? = some u) : u = .slice none 0 0 := by
  unfold nils at h
  rw [List.getElem?_replicate] at h
  split at h
  · injection h with h; exact h.symm
  · cases h

theorem FeedX.toks {r : List TK × List Int} {w w' : World} {e : Ending} (h : FeedX r w e w') : ∃ v u us, e = .returned (.tuple #[v, u]) ∧ TokS w.heap.size w' v r.1 us ∧ (∀ g, (∀ k, g = some k → k < w.heap.size) → ∀ (i : Nat) t u, r.1[i]? = some t → us[i]? = some u → TokIn w.heap.size w' g t u) ∧ w'.ownsRow w.heap.size 5 1 u r.2.length (bcs r.2) ∧ Below w.heap.size w w' := by
  rcases h with ⟨bs, e1, v, u, rfl, o1, o2, ap, hb⟩ | ⟨t, rfl, v, u, va, us, w9, rfl, o1, oa, b9, lv, lu, o2, ap, hb⟩
  · have A : ∀ g (i : Nat) t u, r.1[i]? = some t → (nils bs.length)[i]? = some u → TokIn w.heap.size w' g t u := by
      intro g i t u ht hu
      refine .inl ⟨?_, nils_get hu⟩
      rw [e1] at ht
      unfold bytesT at ht
      rw [List.getElem?_map] at ht
      cases h : bs[i]? with
      | none => rw [h] at ht; cases ht
      | some x => rw [h] at ht; injection ht with ht; rw [← ht]; rfl
    refine ⟨v, u, nils bs.length, rfl, ⟨by rw [nils_len, e1, bytesT_len], by rw [e1, bytesT_len]; exact o1, nils_one _, fun i t u => A _ i t u⟩, fun g _ => A g, o2, hb⟩
  · have A : ∀ g, (∀ k, g = some k → k < w.heap.size ∨ w9.heap.size ≤ k) → ∀ (i : Nat) t' u, [t][i]? = some t' → [va][i]? = some u → TokIn w.heap.size w' g t' u := by
      intro g hg i t' u ht hu
      cases i with
      | succ i => simp at ht
      | zero =>
        simp at ht hu
        subst ht hu
        exact .inr ⟨w.heap.size, w9, us, Nat.le_refl _, oa, b9.size, fun k _ hk => b9.block k hk, hg⟩
    have o1' : va.oneCell' = true := by
      obtain ⟨a, c, rfl, _⟩ := oa.at
      rfl
    refine ⟨v, u, [va], rfl, ⟨rfl, o1, fun u hu => ?_, A _ (fun k e => .inr (lv k e))⟩, fun g hg => A g (fun k e => .inl (hg k e)), o2, hb.trans (b9.mono hb.size)⟩
    rw [List.mem_singleton] at hu
    rw [hu]; exact o1'

end Go.Proofs.YtkiinnmindmnbaaGreatDoor

namespace Go.Proofs.YtkiinnmindmnbaaGreatDoor
open Go.RowKit

theorem TokIn.down {base base' : Nat} {w : World} {g : Option Nat} {t : TK} {u : Value} (h : TokIn base w g t u) (hb : base' ≤ base) : TokIn base' w g t u := by
  rcases h with h | ⟨lo, w9, rs, h1, h2⟩
  · exact .inl h
  · exact .inr ⟨lo, w9, rs, Nat.le_trans hb h1, h2⟩

theorem own_cap {w : World} {base : Nat} {e : TypeId} {size : Nat} {v : Value} {n : Nat} {xs : List Value} (h : w.ownsRow base e size v n xs) : ∃ a c, v = .slice a n c ∧ n ≤ c := by
  rcases h.2 with ⟨rfl, h0⟩ | ⟨g, cap, cur, rfl, _, _, h, _⟩
  · subst h0; exact ⟨none, 0, rfl, Nat.le_refl _⟩
  · exact ⟨_, _, rfl, h⟩

theorem TokS.app {base : Nat} {w w1 w2 : World} {v v' : Value} {ts ts1 : List TK} {us us1 : List Value} (h : TokS base w v ts us) (hw : Below w.heap.size w w1) (hb : base ≤ w.heap.size)
    (hA : ∀ (i : Nat) t u, ts1[i]? = some t → us1[i]? = some u → TokIn w.heap.size w1 v.ownBlock t u) (hl : us1.length = ts1.length) (h1 : ∀ u ∈ us1, u.oneCell' = true)
    (o : w2.ownsRow base 101 5 v' (ts.length + ts1.length) (tcs ts us ++ tcs ts1 us1)) (hg : w1.grownBy w2 v.ownBlock) (e : v'.ownBlock = v.ownBlock ∨ v'.ownBlock = some w1.heap.size) : TokS base w2 v' (ts ++ ts1) (us ++ us1) := by
  refine ⟨by rw [List.length_append, List.length_append, h.len, hl], by rw [tcs_app _ _ _ _ h.len, List.length_append]; exact o, fun u hu => ?_, fun i t u ht hu => ?_⟩
  · rcases List.mem_append.1 hu with hu | hu
    · exact h.one u hu
    · exact h1 u hu
  · by_cases hi : i < ts.length
    · rw [List.getElem?_append_left hi] at ht
      rw [List.getElem?_append_left (by rw [h.len]; exact hi)] at hu
      exact ((h.all i t u ht hu).below hw).grown hg hg.size e
    · rw [List.getElem?_append_right (by omega)] at ht
      rw [List.getElem?_append_right (by rw [h.len]; omega), h.len] at hu
      exact ((hA _ t u ht hu).down hb).grown hg hg.size e

end Go.Proofs.YtkiinnmindmnbaaGreatDoor

namespace Go.Proofs.YtkiinnmindmnbaaGreatDoor
open Go.RowKit

end Go.Proofs.YtkiinnmindmnbaaGreatDoor
