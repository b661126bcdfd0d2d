/- A whole number over ten, a hundred or a thousand: it is rounded to quarters only where it is quarters. -/
import Derived.Test.YthhdfbgjdfoalaaGreatDoorFl
namespace Go.Proofs.YthhdfbgjdfoalaaGreatDoor
open Go.RowKit
open Ieee
set_option linter.unusedVariables false
set_option linter.unusedSimpArgs false

theorem cut_near (n d : Nat) (h : d ≤ n.log2 + 2) : n / 2 ^ d ≤ Toward.even.cut false n d ∧ Toward.even.cut false n d ≤ n / 2 ^ d + 1 := by
  unfold Toward.cut
  simp only [Nat.min_eq_left h, shl, Nat.one_mul]
  generalize (decide (2 ^ d < 2 * (n % 2 ^ d)) || (2 ^ d == 2 * (n % 2 ^ d) && n / 2 ^ d % 2 == 1)) = b
  cases b <;> simp

theorem nearest_near (mag d : Nat) (place : Int) (hl : mag.log2 = 52 + d) (h0 : mag ≠ 0) (h3 : -1074 ≤ place + d) (h4 : (place + d + 1074).toNat ≤ 2000) :
    ∃ kept, double.nearest false mag place = (place + d + 1074).toNat * 4503599627370496 + kept ∧ mag / 2 ^ d ≤ kept ∧ kept ≤ mag / 2 ^ d + 1 := by
  obtain ⟨c1, c2⟩ := cut_near mag d (by omega)
  have hlt : mag < 2 ^ (52 + d + 1) := by rw [← hl]; exact Nat.lt_log2_self
  have hk : mag / 2 ^ d < 9007199254740992 := by
    rw [Nat.div_lt_iff_lt_mul (Nat.two_pow_pos d), show (9007199254740992 : Nat) = 2 ^ 53 by decide, ← Nat.pow_add, show 53 + d = 52 + d + 1 by omega]
    exact hlt
  refine ⟨Toward.even.cut false mag d, ?_, c1, c2⟩
  unfold Format.nearest
  rw [if_neg h0, hl]
  simp only [d_binade, d_inf, d_least, d_frac]
  rw [show max (place + ((52 + d : Nat) : Int) - ((52 : Nat) : Int)) (-1074) = place + d from by omega,
    show (place - (place + (d : Int))).toNat = 0 from by omega, show (place + (d : Int) - place).toNat = d from by omega,
    show (place + (d : Int) - -1074).toNat = (place + d + 1074).toNat from by omega, Nat.shiftLeft_zero]
  rw [Nat.min_eq_left (by omega)]
  rfl

/-- A whole number of at most 24 binary digits as a float64. -/
theorem read_wide (x L : Nat) (g1 : 2 ^ L ≤ x) (g2 : x < 2 ^ (L + 1)) (hL : L ≤ 40) : double.read (double.nearest false x 0) = .number false (x * 2 ^ (52 - L)) ((L : Int) - 52) := by
  have hr := mul_two_pow_range g1 g2 (by omega)
  rw [nearest_short x L 0 g1 g2 (by omega) (by omega) (by omega), read_norm _ (by omega) (by omega)]
  generalize x * 2 ^ (52 - L) = m at *
  congr 1 <;> omega

theorem div_as (m D L LD : Nat) (g1 : 2 ^ L ≤ m) (g2 : m < 2 ^ (L + 1)) (hL : L ≤ 23) (d1 : 2 ^ LD ≤ D) (d2 : D < 2 ^ (LD + 1)) (hD : LD ≤ 9) :
    ∃ st : Nat, st ≤ 1 ∧ (m * 2 ^ (54 - L + LD) % D = 0 → st = 0) ∧ double.div (double.nearest false m 0) (double.nearest false D 0) = some (double.nearest false (2 * (m * 2 ^ (54 - L + LD) / D) + st) (-2 - ((53 - L + LD : Nat) : Int))) := by
  have hm := mul_two_pow_range g1 g2 (by omega)
  have hd := mul_two_pow_range d1 d2 (by omega)
  have l1 : (m * 2 ^ (52 - L)).log2 = 52 := log2_le_of (by omega) (by omega)
  have l2 : (D * 2 ^ (52 - LD)).log2 = 52 := log2_le_of (by omega) (by omega)
  have e1 : m * 2 ^ (52 - L) * 2 ^ 54 = m * 2 ^ (54 - L + LD) * 2 ^ (52 - LD) := by
    rw [Nat.mul_assoc, Nat.mul_assoc, ← Nat.pow_add, ← Nat.pow_add]
    congr 2
    omega
  have hp := Nat.two_pow_pos (52 - LD)
  refine ⟨(m * 2 ^ (52 - L) * 2 ^ 54 % (D * 2 ^ (52 - LD)) != 0).toNat, by cases (m * 2 ^ (52 - L) * 2 ^ 54 % (D * 2 ^ (52 - LD)) != 0) <;> simp, fun h => ?_, ?_⟩
  · rw [e1, Nat.mul_mod_mul_right, h, Nat.zero_mul]
    rfl
  · unfold Format.div
    rw [read_wide m L g1 g2 (by omega), read_wide D LD d1 d2 (by omega)]
    unfold Datum.quotient
    simp only []
    rw [if_neg (by omega), l1, l2]
    simp only [Option.map_some, d_frac, shl]
    rw [show 52 + 2 + 52 - 52 = 54 by omega]
    show some (double.nearest _ _ _) = _
    rw [show ((L : Int) - 52 - ((LD : Int) - 52) - ((54 : Nat) : Int) - 1) = -2 - ((53 - L + LD : Nat) : Int) by omega]
    have e2 : m * 2 ^ (52 - L) * 2 ^ 54 / (D * 2 ^ (52 - LD)) = m * 2 ^ (54 - L + LD) / D := by
      rw [e1, Nat.mul_div_mul_right _ _ hp]
    rw [e2]
    rfl

theorem near_eq (E kept k j : Nat) (k15 : k ≤ 15) (g1 : 2 ^ k ≤ j) (g2 : j < 2 ^ (k + 1)) (c1 : 4503599627370496 ≤ kept) (c2 : kept ≤ 9007199254740992) (h : E * 4503599627370496 + kept = wq j k) :
    (E = 1020 + k ∧ kept = j * 2 ^ (52 - k)) ∨ (E + 1 = 1020 + k ∧ kept = 9007199254740992 ∧ j * 2 ^ (52 - k) = 4503599627370496) := by
  have hr := mul_two_pow_range g1 g2 (by omega)
  unfold wq at h
  generalize j * 2 ^ (52 - k) = a at *
  omega

/-- What is rounded to quarters is quarters. -/
theorem round_only (m D L LD s d Q kept j k : Nat) (hs : s = 53 - L + LD) (hL : L ≤ 23) (hD : LD ≤ 9) (hD2 : D ≤ 1000) (hD3 : 0 < D) (hd : d ≤ 3) (hds : d ≤ s)
    (q1 : 2 * (m * 2 ^ (s + 1) / D) ≤ Q) (q2 : Q ≤ 2 * (m * 2 ^ (s + 1) / D) + 1) (c1 : Q / 2 ^ d ≤ kept) (c2 : kept ≤ Q / 2 ^ d + 1) (hj : kept * 2 ^ d = j * 2 ^ s) : j * D = 4 * m := by
  have hp := Nat.two_pow_pos d
  have h8 : 2 ^ d ≤ 8 := by
    have : 2 ^ d ≤ 2 ^ 3 := Nat.pow_le_pow_right (by decide) hd
    simpa using this
  have hs33 : 1073741824 ≤ 2 ^ s := by
    have : 2 ^ 30 ≤ 2 ^ s := Nat.pow_le_pow_right (by decide) (by omega)
    simpa using this
  have a1 : kept * 2 ^ d ≤ Q + 2 ^ d := by
    have := Nat.mul_le_mul_right (2 ^ d) c2
    have e := Nat.div_mul_le_self Q (2 ^ d)
    rw [Nat.add_mul] at this
    omega
  have a2 : Q < kept * 2 ^ d + 2 ^ d := by
    have := Nat.mul_le_mul_right (2 ^ d) c1
    have e := Nat.div_add_mod Q (2 ^ d)
    have f := Nat.mod_lt Q hp
    rw [Nat.mul_comm] at e
    omega
  rw [hj] at a1 a2
  have e3 : m * 2 ^ (s + 1) * 2 = 4 * m * 2 ^ s := by
    rw [Nat.pow_succ]
    generalize 2 ^ s = z
    rw [← Nat.mul_assoc, Nat.mul_right_comm 4 m z, Nat.mul_assoc, Nat.mul_comm (m * z), Nat.mul_comm m z, ← Nat.mul_assoc]
  generalize hf : m * 2 ^ (s + 1) / D = f at *
  have b1 : f * D ≤ m * 2 ^ (s + 1) := by rw [← hf]; exact Nat.div_mul_le_self _ _
  have b2 : m * 2 ^ (s + 1) < (f + 1) * D := by
    have e := Nat.div_add_mod (m * 2 ^ (s + 1)) D
    have g := Nat.mod_lt (m * 2 ^ (s + 1)) hD3
    rw [hf, Nat.mul_comm] at e
    rw [Nat.add_mul]
    omega
  -- all times D
  have u1 : j * 2 ^ s * D ≤ (2 * f + 9) * D := Nat.mul_le_mul_right D (by omega)
  have u2 : 2 * f * D ≤ (j * 2 ^ s + 8) * D := Nat.mul_le_mul_right D (by omega)
  have e4 : j * 2 ^ s * D = j * D * 2 ^ s := Nat.mul_right_comm _ _ _
  rw [Nat.add_mul] at u1 u2 b2
  rw [Nat.mul_assoc 2 f D] at u1 u2
  rw [e4] at u1 u2
  generalize m * 2 ^ (s + 1) = A at *
  generalize f * D = B at *
  generalize 2 ^ s = z at *
  rcases Nat.lt_trichotomy (j * D) (4 * m) with hlt | heq | hgt
  · exfalso
    have := Nat.mul_le_mul_right z (show j * D + 1 ≤ 4 * m from hlt)
    rw [Nat.add_mul] at this
    omega
  · exact heq
  · exfalso
    have := Nat.mul_le_mul_right z (show 4 * m + 1 ≤ j * D from hgt)
    rw [Nat.add_mul] at this
    omega

theorem if_m1 (a b : Prop) [Decidable a] [Decidable b] (x : Nat) (h : (if a then (if b then (x : Int) else -1) else -1) < 0) : (if a then (if b then (x : Int) else -1) else -1) = -1 := by
  by_cases ha : a
  · by_cases hb : b
    · rw [if_pos ha, if_pos hb] at h; omega
    · rw [if_pos ha, if_neg hb]
  · rw [if_neg ha]
theorem quarters_m1 (n : Nat) (h : quarters n < 0) : quarters n = -1 := by
  by_cases h0 : n = 0
  · rw [quarters, if_pos h0] at h; omega
  · rw [quarters, if_neg h0] at h ⊢
    exact if_m1 _ _ _ h

theorem quarters_wq (q k : Nat) (k15 : k ≤ 15) (g1 : 2 ^ k ≤ q) (g2 : q < 2 ^ (k + 1)) (hq : q ≤ 39999) : quarters (wq q k) = q := by
  obtain ⟨f1, f2, f3, f4⟩ := wq_facts q k k15 g1 g2
  have hp := Nat.two_pow_pos (52 - k)
  unfold quarters
  rw [if_neg (by omega), f1, if_pos ⟨by omega, by omega⟩, f2, show 1021 + k - 1021 = k by omega, Nat.mul_mod_left, Nat.mul_div_cancel _ hp, if_pos ⟨rfl, hq⟩]

/-- A whole number over ten, a hundred or a thousand, as float64. -/
theorem div_quarters (m D L LD : Nat) (g1 : 2 ^ L ≤ m) (g2 : m < 2 ^ (L + 1)) (hL : L ≤ 23) (d1 : 2 ^ LD ≤ D) (d2 : D < 2 ^ (LD + 1)) (hD : LD ≤ 9) (hD2 : D ≤ 1000) (hm : m < 10000 * D) :
    ∃ word, double.div (double.nearest false m 0) (double.nearest false D 0) = some word ∧ word < 9218868437227405312 ∧ word ≠ 0 ∧ quarters word = if 4 * m % D = 0 then ((4 * m / D : Nat) : Int) else -1 := by
  obtain ⟨st, s1, s2, e⟩ := div_as m D L LD g1 g2 hL d1 d2 hD
  have hD3 : 0 < D := by have := Nat.two_pow_pos LD; omega
  obtain ⟨s, hs⟩ : ∃ s, s = 53 - L + LD := ⟨_, rfl⟩
  rw [show 54 - L + LD = s + 1 by omega] at s2 e
  rw [← hs] at e
  have f1 : 9007199254740992 ≤ m * 2 ^ (s + 1) / D := by
    rw [Nat.le_div_iff_mul_le hD3]
    have a := Nat.mul_le_mul_right (2 ^ (s + 1)) g1
    rw [← Nat.pow_add, show L + (s + 1) = 53 + (LD + 1) by omega, Nat.pow_add] at a
    have b := Nat.mul_le_mul_left 9007199254740992 (Nat.le_of_lt d2)
    exact Nat.le_trans b a
  have f2 : m * 2 ^ (s + 1) / D < 36028797018963968 := by
    rw [Nat.div_lt_iff_lt_mul hD3]
    have a := Nat.mul_lt_mul_of_pos_right g2 (Nat.two_pow_pos (s + 1))
    rw [← Nat.pow_add, show L + 1 + (s + 1) = 55 + LD by omega, Nat.pow_add 2 55 LD] at a
    have b := Nat.mul_le_mul_left 36028797018963968 d1
    exact Nat.lt_of_lt_of_le a b
  refine ⟨_, e, ?_⟩
  generalize hf : m * 2 ^ (s + 1) / D = f at *
  obtain ⟨d, hd, hl⟩ : ∃ d, (d = 2 ∨ d = 3) ∧ (2 * f + st).log2 = 52 + d := by
    by_cases c : 2 * f + st < 36028797018963968
    · exact ⟨2, .inl rfl, log2_le_of (by omega) (by omega)⟩
    · exact ⟨3, .inr rfl, log2_le_of (by omega) (by omega)⟩
  obtain ⟨kept, ek, c1, c2⟩ := nearest_near (2 * f + st) d (-2 - (s : Int)) hl (by omega) (by omega) (by omega)
  have lo : 2 ^ (52 + d) ≤ 2 * f + st := by rw [← hl]; exact Nat.log2_self_le (by omega)
  have hi : 2 * f + st < 2 ^ (52 + d + 1) := by rw [← hl]; exact Nat.lt_log2_self
  have hp := Nat.two_pow_pos d
  have k1 : 4503599627370496 ≤ (2 * f + st) / 2 ^ d := by
    rw [Nat.le_div_iff_mul_le hp]
    rw [Nat.pow_add] at lo
    exact lo
  have k2 : (2 * f + st) / 2 ^ d < 9007199254740992 := by
    rw [Nat.div_lt_iff_lt_mul hp]
    rw [show 52 + d + 1 = 53 + d by omega, Nat.pow_add] at hi
    exact hi
  rw [ek]
  obtain ⟨E, hE⟩ : ∃ E, E = (-2 - (s : Int) + d + 1074).toNat := ⟨_, rfl⟩
  rw [← hE] at ek ⊢
  have hE2 : E + s = 1072 + d := by omega
  refine ⟨by omega, by omega, ?_⟩
  by_cases hz : 4 * m % D = 0
  · rw [if_pos hz]
    have q1 : 4 * m = 4 * m / D * D := by
      have := Nat.div_add_mod (4 * m) D
      rw [hz, Nat.mul_comm] at this
      omega
    obtain ⟨q, hq⟩ : ∃ q, q = 4 * m / D := ⟨_, rfl⟩
    rw [← hq] at q1 ⊢
    have q9 : q ≤ 39999 := by
      rw [hq]
      have : 4 * m / D < 40000 := by rw [Nat.div_lt_iff_lt_mul hD3]; omega
      omega
    obtain ⟨s', rfl⟩ : ∃ s', s = s' + 1 := ⟨s - 1, by omega⟩
    have eA : m * 2 ^ (s' + 1 + 1) = q * 2 ^ s' * D := by
      rw [Nat.pow_succ, Nat.pow_succ, Nat.mul_right_comm q, ← q1]
      generalize 2 ^ s' = z
      rw [Nat.mul_assoc z 2 2, Nat.mul_comm z, ← Nat.mul_assoc, Nat.mul_comm m]
    have ef : f = q * 2 ^ s' := by rw [← hf, eA, Nat.mul_div_cancel _ hD3]
    have es : st = 0 := s2 (by rw [eA]; exact Nat.mul_mod_left _ _)
    have eQ : 2 * f + st = q * 2 ^ (s' + 1) := by rw [ef, es, Nat.pow_succ, Nat.add_zero, Nat.mul_comm 2, Nat.mul_assoc]
    have q0 : q ≠ 0 := by
      intro h
      rw [h, Nat.zero_mul] at ef
      omega
    have l1 := Nat.log2_self_le q0
    have l2 : q < 2 ^ (q.log2 + 1) := Nat.lt_log2_self
    have l3 : q.log2 ≤ 15 := by
      have : q.log2 < 16 := (Nat.log2_lt q0).2 (by omega)
      omega
    have l4 : 52 ≤ q.log2 + (s' + 1) := by
      have h1 : 2 ^ 54 < 2 ^ (q.log2 + 1 + (s' + 1)) := by
        rw [Nat.pow_add]
        have := Nat.mul_lt_mul_of_pos_right l2 (Nat.two_pow_pos (s' + 1))
        rw [← eQ] at this
        refine Nat.lt_of_le_of_lt ?_ this
        omega
      have := (Nat.pow_lt_pow_iff_right (by decide : 1 < 2)).1 h1
      omega
    rw [← ek, eQ, nearest_q q q.log2 (s' + 1) l1 l2 l3 l4 (by omega)]
    exact quarters_wq q q.log2 l3 l1 l2 q9
  · rw [if_neg hz]
    refine quarters_m1 _ ?_
    refine Int.not_le.1 fun hge => hz ?_
    obtain ⟨j, k, ej, k15, j1, j2, _, en⟩ := quarters_pos _ hge (by omega)
    have hj : kept * 2 ^ d = j * 2 ^ s := by
      rcases near_eq E kept k j k15 j1 j2 (by omega) (by omega) en with ⟨h1, h2⟩ | ⟨h1, h2, h3⟩
      · rw [h2, Nat.mul_assoc, ← Nat.pow_add]
        congr 2
        omega
      · rw [show s = 52 - k + (1 + d) by omega, Nat.pow_add, ← Nat.mul_assoc, h3, h2, Nat.pow_add, ← Nat.mul_assoc]
    have := round_only m D L LD s d (2 * f + st) kept j k hs hL hD hD2 hD3 (by omega) (by omega) (by rw [hf]; omega) (by rw [hf]; omega) c1 c2 hj
    rw [← this]
    exact Nat.mul_mod_left _ _

end Go.Proofs.YthhdfbgjdfoalaaGreatDoor
