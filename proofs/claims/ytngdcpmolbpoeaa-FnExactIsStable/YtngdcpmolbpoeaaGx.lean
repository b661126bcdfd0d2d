/- The code of a tree, as one function. -/
import Derived.Test.YtngdcpmolbpoeaaGd
namespace Go.Proofs.Ytngdcpmolbpoeaa
open Go.RowKit
set_option linter.unusedVariables false
set_option linter.unusedSimpArgs false

/-- What is wrong with a node by itself. -/
def markF (t : ND) : Int := if kindB t = true then (if (t.tg.toList == []) = true then 0 else if nmB t.tg = true then afault t.at_ else 5) else 1

/-- May others be in it? -/
def holdB (t : ND) : Bool := !(t.tg.toList == []) && !voidB t.tg

/-- A text right behind a text. -/
def sideB (l : List ND) (k : Nat) : Bool := decide (0 < k) && ((ndK l k).tg.toList == []) && ((ndK l (k - 1)).tg.toList == []) && decide ((ndK l (k - 1)).up = (ndK l k).up)

/-- What is wrong with its place. -/
def placeF (l : List ND) (k : Nat) : Int :=
  if depU (upF l) k < (wayU (upF l) k).length then
    (if 0 ≤ (ndK l k).up ∧ holdB (ndK l (ndK l k).up.toNat) = false then 1
     else if sideB l k = true then 1 else if 8 ≤ depU (upF l) k then 2 else 0)
  else 3

/-- The code of the k-th. -/
def oneF (l : List ND) (k : Nat) : Int := if markF (ndK l k) = 0 then placeF l k else markF (ndK l k)

/-- The code of a tree. -/
def treeF (l : List ND) : Int := if 60 < l.length then 2 else firstF (oneF l) l.length 0

theorem inW_iff (l : List ND) (k : Nat) : inW (wayU (upF l) k) (ndK l k).up = decide (depU (upF l) k < (wayU (upF l) k).length) := rfl

theorem oneF_dep {l : List ND} {k : Nat} (h : oneF l k = 0) : depU (upF l) k < (wayU (upF l) k).length := by
  unfold oneF at h
  split at h
  · unfold placeF at h
    split at h
    · assumption
    · exact absurd h (by decide)
  · contradiction

theorem ways_of {l : List ND} {k : Nat} (h : ∀ j, j < k → oneF l j = 0) : Ways l k := fun j hj => oneF_dep (h j hj)

theorem oneF_mark {l : List ND} {k : Nat} {c : Int} (h : markF (ndK l k) = c) (hc : ¬ c = 0) : oneF l k = c := by
  unfold oneF; rw [h, if_neg hc]

theorem oneF_place {l : List ND} {k : Nat} (h : markF (ndK l k) = 0) : oneF l k = placeF l k := by
  unfold oneF; rw [if_pos h]

theorem treeF_len {l : List ND} (h : treeF l = 0) : l.length ≤ 60 := by
  unfold treeF at h
  split at h
  · exact absurd h (by decide)
  · omega

theorem firstF_zero (f : Nat → Int) : ∀ (n i : Nat), firstF f n i = 0 → ∀ j, j < n → f (i + j) = 0
  | 0, _, _, j, hj => absurd hj (Nat.not_lt_zero _)
  | n + 1, i, h, j, hj => by
    unfold firstF at h
    split at h
    · rename_i h0
      cases j with
      | zero => exact h0
      | succ j => rw [show i + (j + 1) = i + 1 + j by omega]; exact firstF_zero f n (i + 1) h j (by omega)
    · contradiction

theorem treeF_ones {l : List ND} (h : treeF l = 0) : ∀ j, j < l.length → oneF l j = 0 := by
  have hl := treeF_len h
  unfold treeF at h
  rw [if_neg (by omega)] at h
  intro j hj
  have := firstF_zero _ _ _ h j hj
  rwa [Nat.zero_add] at this

theorem treeF_ways {l : List ND} (h : treeF l = 0) : Ways l l.length := ways_of (treeF_ones h)

theorem treeF_hit {l : List ND} {k : Nat} {c : Int} (hl : ¬ 60 < l.length) (hk : k < l.length) (hz : ∀ j, j < k → oneF l j = 0) (hc : oneF l k = c) (h0 : ¬ c = 0) : treeF l = c := by
  unfold treeF
  rw [if_neg hl, firstF_hit (oneF l) l.length 0 k hk (fun j hj => by rw [Nat.zero_add]; exact hz j hj) (by rw [Nat.zero_add, hc]; exact h0), Nat.zero_add, hc]

theorem treeF_none {l : List ND} (hl : ¬ 60 < l.length) (hz : ∀ j, j < l.length → oneF l j = 0) : treeF l = 0 := by
  unfold treeF
  rw [if_neg hl, firstF_none _ _ _ (fun j hj => by rw [Nat.zero_add]; exact hz j hj)]

/-- What is asked of a place of a tree. -/
def askF (l : List ND) (x : Int) : Int := if treeF l = 0 then (if 0 ≤ x ∧ x < (l.length : Int) then 0 else 3) else treeF l

/-- Where all ends that is deeper than the a-th. -/
def endU (d : Nat → Nat) (a : Nat) : Nat → Nat → Nat
  | 0, e => e
  | n + 1, e => if d a < d e then endU d a n (e + 1) else e

theorem endU_step {d : Nat → Nat} {a n e : Nat} (h : e < n) (hd : d a < d e) : endU d a (n - e) e = endU d a (n - (e + 1)) (e + 1) := by
  obtain ⟨m, hm⟩ : ∃ m, n - e = m + 1 := ⟨n - e - 1, by omega⟩
  rw [hm, show n - (e + 1) = m by omega]
  show (if d a < d e then endU d a m (e + 1) else e) = _
  rw [if_pos hd]

theorem endU_stop {d : Nat → Nat} {a n e : Nat} (hd : ¬ d a < d e) : endU d a n e = e := by
  cases n with
  | zero => rfl
  | succ n => show (if d a < d e then endU d a n (e + 1) else e) = _; rw [if_neg hd]

theorem endU_all {d : Nat → Nat} {a n e : Nat} (h : n ≤ e) : endU d a (n - e) e = e := by
  rw [show n - e = 0 by omega]; rfl

/-- The place behind all that is in the a-th. -/
def endN (l : List ND) (a : Nat) : Nat := endU (depU (upF l)) a (l.length - (a + 1)) (a + 1)

end Go.Proofs.Ytngdcpmolbpoeaa
