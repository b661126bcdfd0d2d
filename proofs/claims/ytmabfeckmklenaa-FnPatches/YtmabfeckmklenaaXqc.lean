/- The mathematics of a difference. -/
import Derived.Test.YtmabfeckmklenaaXps
import Derived.Test.YtmabfeckmklenaaXpj
namespace Go.Proofs.Ytmabfeckmklenaa
open Go.RowKit
set_option linter.unusedVariables false
set_option linter.unusedSimpArgs false

theorem cpl_take : ∀ (a b : List Int), a.take (cpl a b) = b.take (cpl a b)
  | [], b => by simp [cpl]
  | x :: r, [] => by simp [cpl]
  | x :: r, y :: s => by
    unfold cpl
    by_cases h : x = y
    · rw [if_pos h, List.take_succ_cons, List.take_succ_cons, cpl_take r s, h]
    · rw [if_neg h]; rfl

theorem cpl_max : ∀ (a b : List Int), cpl a b < a.length → cpl a b < b.length → a.getD (cpl a b) 0 ≠ b.getD (cpl a b) 0
  | [], b => fun h => absurd h (Nat.not_lt_zero _)
  | x :: r, [] => fun _ h => absurd h (Nat.not_lt_zero _)
  | x :: r, y :: s => by
    unfold cpl
    by_cases h : x = y
    · rw [if_pos h]
      intro h1 h2
      have := cpl_max r s (by simpa using h1) (by simpa using h2)
      simpa using this
    · rw [if_neg h]
      intro _ _
      simpa using h

/-- What two texts have alike at their ends. -/
theorem dfE_drop (l m : List Int) : l.drop (l.length - dfE l m) = m.drop (m.length - dfE l m) := by
  have LE := dfE_le l m
  have h := cpl_take (l.drop (cpl l m)).reverse (m.drop (cpl l m)).reverse
  have e : cpl (l.drop (cpl l m)).reverse (m.drop (cpl l m)).reverse = dfE l m := rfl
  rw [e] at h
  generalize dfE l m = en at *
  generalize cpl l m = n at *
  rw [List.take_reverse, List.take_reverse, List.reverse_inj, List.drop_drop, List.drop_drop, List.length_drop, List.length_drop] at h
  rw [show n + (l.length - n - en) = l.length - en by omega, show n + (m.length - n - en) = m.length - en by omega] at h
  exact h

theorem apl_diff (l m : List Int) : apl l [dfX l m] 0 = m := by
  have LE := dfE_le l m
  have h1 := cpl_take l m
  have h2 := dfE_drop l m
  simp only [apl, dfX, Int.toNat_natCast, List.drop_zero, Nat.sub_zero]
  generalize dfE l m = en at *
  generalize cpl l m = n at *
  rw [show n + (l.length - n - en) = l.length - en by omega, h2, h1, List.append_assoc]
  have h3 : (m.drop n).take (m.length - n - en) ++ m.drop (m.length - en) = m.drop n := by
    have := List.take_append_drop (m.length - n - en) (m.drop n)
    rw [List.drop_drop, show n + (m.length - n - en) = m.length - en by omega] at this
    exact this
  rw [h3, List.take_append_drop]

theorem apl_none (l : List Int) : apl l [] 0 = l := by simp [apl]

theorem pat_diff (l m : List Int) (hl : l.length ≤ 240) (hm : m.length ≤ 240) : patF (dfL l m) l.length = 0 := by
  have LE := dfE_le l m
  unfold patF
  rw [if_neg (by omega)]
  unfold dfL
  split
  · simp [pallX]
  · rw [if_neg (by simp)]
    simp only [pallX]
    have : pone (dfX l m) (l.length : Int) 0 = 0 := by
      unfold pone
      rw [if_neg (by simp only [dfX, List.length_take, List.length_drop]; omega), if_neg (by simp only [dfX]; omega), if_neg (by simp only [dfX]; omega)]
    rw [this]
    rfl

theorem beqB_refl (l : List Int) : beqB l l = true := by unfold beqB; simp

theorem sameXs_refl (l : List XK) : sameXs l l = true := by
  unfold sameXs
  rw [decide_eq_true rfl, allK_true (fun k _ => by unfold xeq; rw [beqB_refl]; simp)]
  rfl

/-- What is cut and what is put begin with other bytes. -/
theorem df_first (l m : List Int) (h1 : 0 < l.length - cpl l m - dfE l m) (h2 : 0 < m.length - cpl l m - dfE l m) : l.getD (cpl l m) 0 ≠ ((m.drop (cpl l m)).take (m.length - cpl l m - dfE l m)).getD 0 0 := by
  have h := cpl_max l m (by omega) (by omega)
  have e : ((m.drop (cpl l m)).take (m.length - cpl l m - dfE l m)).getD 0 0 = m.getD (cpl l m) 0 := by
    rw [List.getD_eq_getElem?_getD, List.getElem?_take, if_pos h2, List.getElem?_drop, Nat.add_zero, List.getD_eq_getElem?_getD]
  rw [e]
  exact h

/-- And they end with other ones. -/
theorem df_last (l m : List Int) (h1 : 0 < l.length - cpl l m - dfE l m) (h2 : 0 < m.length - cpl l m - dfE l m) : l.getD (l.length - 1 - dfE l m) 0 ≠ ((m.drop (cpl l m)).take (m.length - cpl l m - dfE l m)).getD (m.length - cpl l m - dfE l m - 1) 0 := by
  have h := cpl_max (l.drop (cpl l m)).reverse (m.drop (cpl l m)).reverse
  have e0 : cpl (l.drop (cpl l m)).reverse (m.drop (cpl l m)).reverse = dfE l m := rfl
  rw [e0] at h
  simp only [List.length_reverse, List.length_drop] at h
  have h' := h (by omega) (by omega)
  rw [rev_drop (by omega), rev_drop (by omega)] at h'
  have e : ((m.drop (cpl l m)).take (m.length - cpl l m - dfE l m)).getD (m.length - cpl l m - dfE l m - 1) 0 = m.getD (m.length - 1 - dfE l m) 0 := by
    have q : m.length - cpl l m - dfE l m - 1 < m.length - cpl l m - dfE l m := by omega
    have q2 : cpl l m + (m.length - cpl l m - dfE l m - 1) = m.length - 1 - dfE l m := by omega
    rw [List.getD_eq_getElem?_getD, List.getElem?_take, if_pos q, List.getElem?_drop, q2, List.getD_eq_getElem?_getD]
  rw [e]
  exact h'

theorem ap_diff (l m : List Int) (hl : l.length ≤ 240) (hm : m.length ≤ 240) : apC l (dfL l m) = 0 ∧ beqB (apB l (dfL l m)) m = true := by
  have hp := pat_diff l m hl hm
  have hv : ∃ r : List Int, apl l (dfL l m) 0 = r ∧ r.length ≤ 240 ∧ beqB r m = true := by
    unfold dfL
    by_cases h : beqB l m = true
    · rw [if_pos h]
      exact ⟨l, apl_none l, hl, h⟩
    · rw [if_neg h]
      exact ⟨m, apl_diff l m, hm, beqB_refl m⟩
  obtain ⟨r, hr, hrl, hb⟩ := hv
  have hc : apC l (dfL l m) = 0 := by
    unfold apC
    rw [if_pos hp, hr, if_neg (by omega)]
  refine ⟨hc, ?_⟩
  unfold apB
  rw [if_pos hc, hr]
  exact hb

theorem dfL_cases (l m : List Int) : (beqB l m = true ∧ dfL l m = []) ∨ (beqB l m = false ∧ dfL l m = [dfX l m]) := by
  unfold dfL
  cases h : beqB l m with
  | true => exact .inl ⟨rfl, by rw [if_pos rfl]⟩
  | false => exact .inr ⟨rfl, by rw [if_neg Bool.false_ne_true]⟩

end Go.Proofs.Ytmabfeckmklenaa
