/- Patches that are drawn. -/
import Derived.Test.YtmabfeckmklenaaXqe
import Derived.Test.YtmabfeckmklenaaXpa
namespace Go.Proofs.Ytmabfeckmklenaa
open Go.RowKit
set_option linter.unusedVariables false
set_option linter.unusedSimpArgs false

/-- The cells of patches, their Puts at values hvs. -/
def xcs : List XK → List Value → List Value
  | x :: r, u :: s => [.int .i64 x.pl, .int .i64 x.ct, u] ++ xcs r s
  | _, _ => []

theorem xcs_len : ∀ (L : List XK) (us : List Value), us.length = L.length → (xcs L us).length = L.length * 3
  | [], us, h => by simp [xcs]
  | x :: r, [], h => by simp at h
  | x :: r, u :: s, h => by
    have := xcs_len r s (by simpa using h)
    simp only [xcs, List.length_append, List.length_cons, List.length_nil, this]
    omega

theorem xcs_snoc : ∀ (L : List XK) (us : List Value) (x : XK) (u : Value), us.length = L.length → xcs (L ++ [x]) (us ++ [u]) = xcs L us ++ [.int .i64 x.pl, .int .i64 x.ct, u]
  | [], [], x, u, h => by simp [xcs]
  | [], v :: s, x, u, h => by simp at h
  | y :: r, [], x, u, h => by simp at h
  | y :: r, v :: s, x, u, h => by
    have := xcs_snoc r s x u (by simpa using h)
    simp only [List.cons_append, xcs, this, List.append_assoc]

theorem xcs_at : ∀ (L : List XK) (us : List Value) (j : Nat), us.length = L.length → j < L.length → (xcs L us)[j * 3]? = some (.int .i64 (xkK L j).pl) ∧ (xcs L us)[j * 3 + 1]? = some (.int .i64 (xkK L j).ct) ∧ (xcs L us)[j * 3 + 2]? = some (us.getD j undef)
  | [], us, j, h, hj => absurd hj (Nat.not_lt_zero _)
  | x :: r, [], j, h, hj => by simp at h
  | x :: r, u :: s, 0, h, hj => by simp [xcs, xkK]
  | x :: r, u :: s, j + 1, h, hj => by
    have := xcs_at r s j (by simpa using h) (by simpa using hj)
    simp only [xcs]
    rw [List.getElem?_append_right (by simp; omega), List.getElem?_append_right (by simp; omega), List.getElem?_append_right (by simp; omega)]
    simp only [List.length_cons, List.length_nil]
    rw [show (j + 1) * 3 - (0 + 1 + 1 + 1) = j * 3 by omega, show (j + 1) * 3 + 1 - (0 + 1 + 1 + 1) = j * 3 + 1 by omega, show (j + 1) * 3 + 2 - (0 + 1 + 1 + 1) = j * 3 + 2 by omega]
    simpa [xkK] using this

/-- Patches of one's own, drawn: a row of them, each Put bytes of its own in another block. -/
structure PD (w : World) (b : Nat) (l : List Int) (k : Nat) (v : Value) (L : List XK) (us : List Value) (wr : World) : Prop where
  len : us.length = L.length
  own : wr.ownsRow w.heap.size 33 3 v L.length (xcs L us)
  put : ∀ j, j < L.length → (∃ p c, us.getD j undef = .slice p (xkK L j).hd.length c) ∧ OB wr (us.getD j undef) (xkK L j).hd ∧ (∀ q, (us.getD j undef).ownBlock = some q → b < q ∧ v.ownBlock ≠ some q)
  src : Src b l k wr
  kept : KeptIn b (b + 1) w wr

theorem PD.turn {w : World} {b k k' : Nat} {l : List Int} {v : Value} {L : List XK} {us : List Value} {wi wj : World} (h : PD w b l k v L us wi) (hs : Src b l k' wj) (hk : KeptIn b (b + 1) wi wj) (hb : b < w.heap.size) : PD w b l k' v L us wj :=
  ⟨h.len, own_kept h.own hk (by omega), fun j hj => by
    obtain ⟨h1, h2, h3⟩ := h.put j hj
    exact ⟨h1, h2.keep (fun q e hq => hk.block q hq (.inr (by have := (h3 q e).1; omega))), h3⟩, hs, h.kept.trans hk⟩

theorem PD.below {w : World} {b k : Nat} {l : List Int} {v : Value} {L : List XK} {us : List Value} {wi wj : World} (h : PD w b l k v L us wi) (hb : Below wi.heap.size wi wj) : PD w b l k v L us wj :=
  ⟨h.len, own_keep h.own hb, fun j hj => by
    obtain ⟨h1, h2, h3⟩ := h.put j hj
    exact ⟨h1, h2.below hb, h3⟩, h.src.below hb, h.kept.trans (KeptIn.of_below hb)⟩

theorem xkK_left {L : List XK} {x : XK} {j : Nat} (hj : j < L.length) : xkK (L ++ [x]) j = xkK L j := by
  unfold xkK
  rw [List.getD_eq_getElem?_getD, List.getD_eq_getElem?_getD, List.getElem?_append_left hj]
theorem xkK_last {L : List XK} {x : XK} : xkK (L ++ [x]) L.length = x := by simp [xkK]
theorem us_left {us : List Value} {u : Value} {j : Nat} (hj : j < us.length) : (us ++ [u]).getD j undef = us.getD j undef := by
  rw [List.getD_eq_getElem?_getD, List.getD_eq_getElem?_getD, List.getElem?_append_left hj]
theorem us_last {us : List Value} {u : Value} : (us ++ [u]).getD us.length undef = u := by simp

theorem PD.app {w : World} {b k : Nat} {l : List Int} {v v' : Value} {L : List XK} {us : List Value} {x : XK} {u : Value} {wi wj : World} (h : PD w b l k v L us wi) (hbw : b < w.heap.size) (hf : ∃ p c, u = .slice p x.hd.length c) (hu : OB wi u x.hd) (hq : ∀ q, u.ownBlock = some q → b < q ∧ v.ownBlock ≠ some q) (ho : wj.ownsRow w.heap.size 33 3 v' (L.length + 1) (xcs L us ++ [.int .i64 x.pl, .int .i64 x.ct, u])) (hg : wi.grownBy wj v.ownBlock) (hat : v'.ownBlock = v.ownBlock ∨ v'.ownBlock = some wi.heap.size) : PD w b l k v' (L ++ [x]) (us ++ [u]) wj := by
  have hlo := own_lo h.own
  have keep : ∀ (t : Value) (d : List Int), OB wi t d → (∀ q, t.ownBlock = some q → v.ownBlock ≠ some q) → OB wj t d := fun t d ht hn => ht.keep (fun q e hq => hg.block q hq (fun e' => hn q e e'.symm))
  have away : ∀ (t : Value) (d : List Int), OB wi t d → (∀ q, t.ownBlock = some q → v.ownBlock ≠ some q) → ∀ q, t.ownBlock = some q → v'.ownBlock ≠ some q := fun t d ht hn q e => by
    rcases hat with hat | hat
    · rw [hat]; exact hn q e
    · rw [hat]
      intro e'
      have := ht.lt q e
      have := Option.some.inj e'
      omega
  have K : KeptIn w.heap.size wi.heap.size wi wj := ⟨hg.os, hg.tape, hg.output, hg.size, fun j hj hc => hg.block j hj (fun e => by have := hlo j e.symm; omega)⟩
  refine ⟨by simp [h.len], ?_, fun j hj => ?_, h.src.kept K hbw, h.kept.grown hg hlo⟩
  · rw [xcs_snoc L us x u h.len, List.length_append]
    exact ho
  · rw [List.length_append, List.length_singleton] at hj
    by_cases c : j = L.length
    · subst c
      rw [xkK_last, ← h.len, us_last]
      exact ⟨hf, keep u _ hu (fun q e => (hq q e).2), fun q e => ⟨(hq q e).1, away u _ hu (fun q e => (hq q e).2) q e⟩⟩
    · have hj' : j < L.length := by omega
      obtain ⟨h1, h2, h3⟩ := h.put j hj'
      rw [xkK_left hj', us_left (by rw [h.len]; exact hj')]
      exact ⟨h1, keep _ _ h2 (fun q e => (h3 q e).2), fun q e => ⟨(h3 q e).1, away _ _ h2 (fun q e => (h3 q e).2) q e⟩⟩

theorem PD.at {w : World} {b k : Nat} {l : List Int} {v : Value} {L : List XK} {us : List Value} {wi : World} (h : PD w b l k v L us wi) : ∃ a c, v = .slice a L.length c ∧ XsAt wi a L := by
  obtain ⟨a, c, ev⟩ := own_form h.own
  subst ev
  refine ⟨a, c, rfl, ?_⟩
  by_cases h0 : L.length = 0
  · exact .inl (List.eq_nil_of_length_eq_zero h0)
  have ho := h.own
  obtain ⟨_, ⟨hv, _⟩ | ⟨g, cap, cur, hv, hg, h1, h2, h3, h4, h5⟩⟩ := ho
  · injection hv with e1 e2 e3
    omega
  · injection hv with e1 e2 e3
    subst e1
    have hr : wi.rowIs g 33 (cap * 3) (fun i => cur[i]?.getD undef) := ⟨cur, h1, h4, fun i hi => by
      have : i < cur.size := by omega
      simp [this]⟩
    have e : ∀ i x, i < L.length * 3 → (xcs L us)[i]? = some x → wi.cell? ⟨g, i, none⟩ = some x := fun i x hi hx => by
      rw [hr.cell (by omega)]
      rw [← h5, List.getElem?_take, if_pos hi, Array.getElem?_toList] at hx
      rw [hx]
      rfl
    refine .inr ⟨g, 0, rfl, hr.lt, fun j hj => ?_⟩
    obtain ⟨x0, x1, x2⟩ := xcs_at L us j h.len hj
    obtain ⟨⟨p, c, ep⟩, ho, _⟩ := h.put j hj
    rw [ep] at x2 ho
    obtain ⟨p', c', ev', hb⟩ := ho.len
    injection ev' with q1 q2 q3
    subst q1
    rw [Nat.zero_add]
    exact ⟨e _ _ (by omega) x0, e _ _ (by omega) x1, p, c, e _ _ (by omega) x2, hb⟩

end Go.Proofs.Ytmabfeckmklenaa
