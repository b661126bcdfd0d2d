/- Plain mathematics of tables: what is a fault, how many bytes the pieces have. -/
import Derived.Test.YtaihlcfpkabonaaDoorLem
namespace Go.Proofs.YtaihlcfpkabonaaDoor
open Go.RowKit
set_option linter.unusedVariables false

/-- How many bytes the store of a piece has. -/
def room (t : TB) (p : PC) : Int := if p.ad then t.more.length else t.base.length

/-- A piece lies in its store. -/
def lies (t : TB) (p : PC) : Bool := decide (0 ≤ p.fr) && decide (1 ≤ p.sz) && decide (p.sz ≤ room t p - p.fr)

def total : List PC → Int
  | [] => 0
  | p :: r => p.sz + total r

theorem total_append (a b : List PC) : total (a ++ b) = total a + total b := by
  induction a with
  | nil => simp [total]
  | cons p r ih => simp only [List.cons_append, total, ih]; omega

theorem take_snoc {α : Type} (l : List α) (k : Nat) (h : k < l.length) : l.take (k + 1) = l.take k ++ [l[k]] := List.take_succ_eq_append_getElem h

theorem pc_get (l : List PC) (k : Nat) (h : k < l.length) : pc l k = l[k] := by
  unfold pc; simp [h]

theorem total_take (l : List PC) (k : Nat) (h : k < l.length) : total (l.take (k + 1)) = total (l.take k) + (pc l k).sz := by
  rw [take_snoc l k h, total_append, pc_get l k h]; simp [total]

/-- The code of a table. -/
def fault (t : TB) : Int :=
  if 2000 < t.base.length ∨ 2000 < t.more.length ∨ 40 < t.pcs.length then 2
  else if t.pcs.all (lies t) then (if 240 < total t.pcs then 6 else 0) else 3

/-- Sizes that add up to little. -/
def Small (l : List PC) : Prop := l.length ≤ 40 ∧ ∀ k, k < l.length → 0 ≤ (pc l k).sz ∧ (pc l k).sz ≤ 2000

theorem Small.total_le {l : List PC} (h : Small l) : ∀ k, k ≤ l.length → 0 ≤ total (l.take k) ∧ total (l.take k) ≤ 2000 * k := by
  intro k
  induction k with
  | zero => intro _; simp [total]
  | succ k ih =>
    intro hk
    have h1 := ih (by omega)
    have h2 := h.2 k (by omega)
    rw [total_take l k (by omega)]
    omega

theorem lies_bounds {t : TB} {p : PC} (h : lies t p = true) : 0 ≤ p.fr ∧ 1 ≤ p.sz ∧ p.sz ≤ room t p - p.fr := by
  unfold lies at h
  simp at h
  omega

theorem small_of {t : TB} (h1 : ¬ 2000 < t.base.length) (h2 : ¬ 2000 < t.more.length) (h3 : ¬ 40 < t.pcs.length) (h : t.pcs.all (lies t) = true) : Small t.pcs := by
  refine ⟨by omega, fun k hk => ?_⟩
  rw [pc_get _ _ hk]
  have hl := lies_bounds (List.all_eq_true.1 h _ (List.getElem_mem hk))
  unfold room at hl
  split at hl <;> omega

/-- The pieces up to k lie right. -/
def upto (t : TB) (k : Nat) : Prop := ∀ j, j < k → lies t (pc t.pcs j) = true

theorem all_of_upto {t : TB} {k : Nat} (h : upto t k) (hk : t.pcs.length ≤ k) : t.pcs.all (lies t) = true := by
  rw [List.all_eq_true]
  intro p hp
  obtain ⟨j, hj, rfl⟩ := List.getElem_of_mem hp
  rw [← pc_get _ _ hj]
  exact h j (by omega)

theorem not_all {t : TB} {k : Nat} (hk : k < t.pcs.length) (h : lies t (pc t.pcs k) = false) : t.pcs.all (lies t) = false := by
  rw [List.all_eq_false]
  refine ⟨_, List.getElem_mem hk, ?_⟩
  rw [← pc_get _ _ hk, h]; simp

theorem upto_step {t : TB} {k : Nat} (h : upto t k) (hk : lies t (pc t.pcs k) = true) : upto t (k + 1) := by
  intro j hj
  by_cases e : j = k
  · subst e; exact hk
  · exact h j (by omega)

theorem fault_many {t : TB} (h : 2000 < t.base.length ∨ 2000 < t.more.length ∨ 40 < t.pcs.length) : fault t = 2 := by unfold fault; rw [if_pos h]
theorem fault_range {t : TB} (h1 : ¬ 2000 < t.base.length) (h2 : ¬ 2000 < t.more.length) (h3 : ¬ 40 < t.pcs.length) (h : t.pcs.all (lies t) = false) : fault t = 3 := by
  unfold fault; rw [if_neg (by omega), h]; rfl
theorem fault_large {t : TB} (h1 : ¬ 2000 < t.base.length) (h2 : ¬ 2000 < t.more.length) (h3 : ¬ 40 < t.pcs.length) (h : t.pcs.all (lies t) = true) (h4 : 240 < total t.pcs) : fault t = 6 := by
  unfold fault; rw [if_neg (by omega), h, if_pos h4]; rfl
theorem fault_ok {t : TB} (h1 : ¬ 2000 < t.base.length) (h2 : ¬ 2000 < t.more.length) (h3 : ¬ 40 < t.pcs.length) (h : t.pcs.all (lies t) = true) (h4 : ¬ 240 < total t.pcs) : fault t = 0 := by
  unfold fault; rw [if_neg (by omega), h, if_neg h4]; rfl

/-- What a table without a fault is. -/
theorem fault_zero {t : TB} (h : fault t = 0) : ¬ 2000 < t.base.length ∧ ¬ 2000 < t.more.length ∧ ¬ 40 < t.pcs.length ∧ t.pcs.all (lies t) = true ∧ total t.pcs ≤ 240 := by
  unfold fault at h
  split at h
  · simp at h
  · rename_i hn
    split at h
    · rename_i ha
      split at h
      · simp at h
      · exact ⟨by omega, by omega, by omega, ha, by omega⟩
    · simp at h

theorem fault_small {t : TB} (h : fault t = 0) : Small t.pcs := by
  obtain ⟨h1, h2, h3, h4, _⟩ := fault_zero h
  exact small_of h1 h2 h3 h4

/-- The size that is told beside the code. -/
def sizeVal (t : TB) : Int := if fault t = 0 then total t.pcs else 0

end Go.Proofs.YtaihlcfpkabonaaDoor
