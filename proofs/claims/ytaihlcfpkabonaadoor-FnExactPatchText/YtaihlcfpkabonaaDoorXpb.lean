/- Patches: how many bytes they put, and what they lack, as functions of the patches alone. -/
import Derived.Test.YtaihlcfpkabonaaDoorXpa
namespace Go.Proofs.YtaihlcfpkabonaaDoor
open Go.RowKit
set_option linter.unusedVariables false
set_option linter.unusedSimpArgs false

/-- The code of PatchSize. -/
def psC (l : List XK) : Int := if l.length ≤ 20 ∧ l.all (fun x => decide (x.hd.length ≤ 240)) = true then 0 else 2

/-- The value of PatchSize. -/
def psV (l : List XK) : Int := if l.length ≤ 20 ∧ l.all (fun x => decide (x.hd.length ≤ 240)) = true then (xsz l : Int) else 0

theorem all_put (l : List XK) : l.all (fun x => decide (x.hd.length ≤ 240)) = true ↔ ∀ j, j < l.length → (xkK l j).hd.length ≤ 240 := by
  rw [List.all_eq_true]
  refine ⟨fun h j hj => ?_, fun h x hx => ?_⟩
  · have := h l[j] (List.getElem_mem hj)
    simpa [xkK, hj] using this
  · obtain ⟨j, hj, rfl⟩ := List.getElem_of_mem hx
    have := h j hj
    simpa [xkK, hj] using this

theorem ps_many {l : List XK} (h : 20 < l.length) : psC l = 2 ∧ psV l = 0 := by
  unfold psC psV
  rw [if_neg (by omega), if_neg (by omega)]
  exact ⟨rfl, rfl⟩

theorem ps_hit {l : List XK} {k : Nat} (hk : k < l.length) (h : 240 < (xkK l k).hd.length) : psC l = 2 ∧ psV l = 0 := by
  have e : ¬ (l.length ≤ 20 ∧ l.all (fun x => decide (x.hd.length ≤ 240)) = true) := by
    rintro ⟨_, h2⟩
    have := (all_put l).1 h2 k hk
    omega
  unfold psC psV
  rw [if_neg e, if_neg e]
  exact ⟨rfl, rfl⟩

theorem ps_none {l : List XK} (h : ¬ 20 < l.length) (h2 : ∀ j, j < l.length → (xkK l j).hd.length ≤ 240) : psC l = 0 ∧ psV l = xsz l := by
  have e : l.length ≤ 20 ∧ l.all (fun x => decide (x.hd.length ≤ 240)) = true := ⟨by omega, (all_put l).2 h2⟩
  unfold psC psV
  rw [if_pos e, if_pos e]
  exact ⟨rfl, rfl⟩

theorem ps_le (l : List XK) : 0 ≤ psV l ∧ psV l ≤ 1048576 ∨ (1048576 : Int) < xsz l := by
  unfold psV
  split <;> omega

/-- The fault of one patch, for a text of s bytes, behind the place e. -/
def pone (x : XK) (s e : Int) : Int :=
  if 240 < x.hd.length then 2 else if ¬ (0 ≤ x.pl ∧ 0 ≤ x.ct ∧ x.ct ≤ s - x.pl) then 3 else if x.pl < e then 1 else 0

/-- The first fault of patches, behind the place e. -/
def pallX : List XK → Int → Int → Int
  | [], _, _ => 0
  | x :: r, s, e => if pone x s e = 0 then pallX r s (x.pl + x.ct) else pone x s e

/-- The fault of patches. -/
def patF (l : List XK) (s : Int) : Int := if s < 0 ∨ 2000 < s then 3 else if 20 < l.length then 2 else pallX l s 0

theorem drop_xk {l : List XK} {k : Nat} (hk : k < l.length) : l.drop k = xkK l k :: l.drop (k + 1) := by
  rw [List.drop_eq_getElem_cons hk]
  simp [xkK, hk]

theorem pall_step {l : List XK} {k : Nat} {s e A : Int} (hk : k < l.length) (h : pallX (l.drop k) s e = A) : (pone (xkK l k) s e = 0 ∧ pallX (l.drop (k + 1)) s ((xkK l k).pl + (xkK l k).ct) = A) ∨ (pone (xkK l k) s e ≠ 0 ∧ pone (xkK l k) s e = A) := by
  rw [drop_xk hk] at h
  unfold pallX at h
  by_cases g : pone (xkK l k) s e = 0
  · rw [if_pos g] at h
    exact .inl ⟨g, h⟩
  · rw [if_neg g] at h
    exact .inr ⟨g, h⟩

theorem pall_end {l : List XK} {s e A : Int} (h : pallX (l.drop l.length) s e = A) : A = 0 := by
  rw [List.drop_length] at h
  exact h.symm

end Go.Proofs.YtaihlcfpkabonaaDoor
