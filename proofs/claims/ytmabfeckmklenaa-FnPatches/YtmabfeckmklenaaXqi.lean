/- The mathematics of FnPatches: how long it is what patches leave. -/
import Derived.Test.YtmabfeckmklenaaXqh
import Derived.Test.YtmabfeckmklenaaXqd
namespace Go.Proofs.Ytmabfeckmklenaa
open Go.RowKit
set_option linter.unusedVariables false
set_option linter.unusedSimpArgs false

/-- What patches cut. -/
def xct : List XK → Int
  | [] => 0
  | x :: r => x.ct + xct r

theorem xct_take (l : List XK) : ∀ k, k < l.length → xct (l.take (k + 1)) = xct (l.take k) + (xkK l k).ct := by
  induction l with
  | nil => intro k h; exact absurd h (Nat.not_lt_zero _)
  | cons x r ih =>
    intro k hk
    cases k with
    | zero => simp [xct, xkK]
    | succ k =>
      have := ih k (by simpa using hk)
      simp only [List.take_succ_cons, xct]
      rw [this]
      have e : xkK (x :: r) (k + 1) = xkK r k := by simp [xkK]
      rw [e]; omega

theorem pone_zeroI {x : XK} {s e : Int} (h : pone x s e = 0) : x.hd.length ≤ 240 ∧ 0 ≤ x.pl ∧ 0 ≤ x.ct ∧ x.ct ≤ s - x.pl ∧ e ≤ x.pl := by
  unfold pone at h
  split at h
  · exact absurd h (by decide)
  · split at h
    · exact absurd h (by decide)
    · split at h
      · exact absurd h (by decide)
      · omega

theorem pall_consI {x : XK} {r : List XK} {s e : Int} (h : pallX (x :: r) s e = 0) : pone x s e = 0 ∧ pallX r s (x.pl + x.ct) = 0 := by
  unfold pallX at h
  split at h
  · exact ⟨by assumption, h⟩
  · exact absurd h (by assumption)

theorem apl_len (d : List Int) : ∀ (l : List XK) (e : Int), 0 ≤ e → e ≤ d.length → pallX l d.length e = 0 → ((apl d l e.toNat).length : Int) + xct l + e = d.length + xsz l
  | [], e, h0, h1, _ => by simp only [apl, xct, xsz, List.length_drop]; omega
  | x :: r, e, h0, h1, h => by
    obtain ⟨hp, hr⟩ := pall_consI h
    obtain ⟨p1, p2, p3, p4, p5⟩ := pone_zeroI hp
    have ih := apl_len d r (x.pl + x.ct) (by omega) (by omega) hr
    have e1 : (x.pl + x.ct).toNat = x.pl.toNat + x.ct.toNat := by omega
    rw [e1] at ih
    simp only [apl, xct, xsz, List.length_append, List.length_take, List.length_drop]
    omega

theorem pall_cut (s : Int) : ∀ (l : List XK) (e : Int), 0 ≤ e → e ≤ s → pallX l s e = 0 → ∀ k, 0 ≤ xct (l.take k) ∧ xct (l.take k) ≤ s - e
  | [], e, h0, h1, _, k => by simp only [List.take_nil, xct]; omega
  | x :: r, e, h0, h1, h, k => by
    obtain ⟨hp, hr⟩ := pall_consI h
    obtain ⟨p1, p2, p3, p4, p5⟩ := pone_zeroI hp
    cases k with
    | zero => simp only [List.take_zero, xct]; omega
    | succ k =>
      have ih := pall_cut s r (x.pl + x.ct) (by omega) (by omega) hr k
      simp only [List.take_succ_cons, xct]
      omega

theorem pall_put (s : Int) : ∀ (l : List XK) (e : Int), pallX l s e = 0 → l.all (fun x => decide (x.hd.length ≤ 240)) = true
  | [], e, _ => rfl
  | x :: r, e, h => by
    obtain ⟨hp, hr⟩ := pall_consI h
    obtain ⟨p1, _⟩ := pone_zeroI hp
    rw [List.all_cons, decide_eq_true p1, pall_put s r _ hr]
    rfl

/-- Where the answer's code is 0. -/
theorem ap_zero {d : List Int} {l : List XK} (h : apC d l = 0) : patF l d.length = 0 ∧ apB d l = apl d l 0 ∧ (apB d l).length ≤ 2000 := by
  have hb : apB d l = apl d l 0 := by unfold apB; rw [if_pos h]
  unfold apC at h
  split at h
  · split at h
    · exact absurd h (by decide)
    · exact ⟨by assumption, hb, by rw [hb]; omega⟩
  · exact absurd h (by assumption)

theorem ap_sum {d : List Int} {l : List XK} (h : apC d l = 0) : ((apB d l).length : Int) = d.length - xct l + psV l ∧ (∀ k, 0 ≤ xct (l.take k) ∧ xct (l.take k) ≤ 2000) ∧ psC l = 0 ∧ 0 ≤ psV l ∧ psV l ≤ 4800 ∧ (d.length : Int) ≤ 2000 := by
  obtain ⟨h1, h2, h3⟩ := ap_zero h
  obtain ⟨q1, q2, q3⟩ := pat_zero h1
  have a1 := pall_put _ l 0 q3
  have v : psV l = (xsz l : Int) := by unfold psV; rw [if_pos ⟨q2, a1⟩]
  have a2 := apl_len d l 0 (Int.le_refl _) (by omega) q3
  have a3 := pall_cut _ l 0 (Int.le_refl _) (by omega) q3
  have a4 := (a3 l.length)
  rw [List.take_length] at a4
  refine ⟨by rw [h2, v]; simp only [Int.toNat_zero] at a2; omega, fun k => ?_, by unfold psC; rw [if_pos ⟨q2, a1⟩], by omega, ?_, q1⟩
  · have := a3 k; omega
  · rw [v]
    simp only [Int.toNat_zero] at a2
    rw [h2] at h3
    omega

end Go.Proofs.Ytmabfeckmklenaa
