/- Plain mathematics of float64 words: what they stand for, four times one, its whole part. -/
import Derived.Laws.FloatArith
namespace Go.Proofs.YthhdfbgjdfoalaaGreatDoor
set_option linter.unusedVariables false
open Ieee

theorem d_binade : double.binade = 4503599627370496 := by decide
theorem d_inf : double.infRung = 9218868437227405312 := by decide
theorem d_sign : double.signWeight = 9223372036854775808 := by decide
theorem d_least : double.leastPlace = -1074 := by decide
theorem d_frac : double.fractionBits = 52 := rfl

theorem read_sub (n : Nat) (h : n < 4503599627370496) : double.read n = .number false n (-1074) := by
  unfold Format.read
  simp only [d_binade, d_inf, d_sign, d_least]
  have e1 : n / 9223372036854775808 % 2 = 0 := by omega
  have e2 : n % 9223372036854775808 = n := by omega
  rw [e1, e2, if_pos h]; rfl

theorem read_norm (n : Nat) (h1 : 4503599627370496 ≤ n) (h2 : n < 9218868437227405312) : double.read n = .number false (4503599627370496 + n % 4503599627370496) (-1074 + ((n / 4503599627370496 - 1 : Nat) : Int)) := by
  unfold Format.read
  simp only [d_binade, d_inf, d_sign, d_least]
  have e1 : n / 9223372036854775808 % 2 = 0 := by omega
  have e2 : n % 9223372036854775808 = n := by omega
  rw [e1, e2, if_neg (by omega), if_pos h2]; rfl

theorem read_inf : double.read 9218868437227405312 = .infinity false := by decide

theorem read_nan (n : Nat) (h1 : 9218868437227405312 < n) (h2 : n < 9223372036854775808) : double.read n = .nan false (n - 9218868437227405312) := by
  unfold Format.read
  simp only [d_binade, d_inf, d_sign, d_least]
  have e1 : n / 9223372036854775808 % 2 = 0 := by omega
  have e2 : n % 9223372036854775808 = n := by omega
  rw [e1, e2, if_neg (by omega), if_neg (by omega), if_neg (by omega)]; rfl

/-- The sign bit turns the sign. -/
theorem read_minus (n : Nat) (h : n < 9223372036854775808) : double.read (9223372036854775808 + n) = (double.read n).opposite := by
  unfold Format.read
  simp only [d_binade, d_inf, d_sign, d_least]
  have e1 : n / 9223372036854775808 % 2 = 0 := by omega
  have e2 : n % 9223372036854775808 = n := by omega
  have e3 : (9223372036854775808 + n) / 9223372036854775808 % 2 = 1 := by omega
  have e4 : (9223372036854775808 + n) % 9223372036854775808 = n := by omega
  rw [e1, e2, e3, e4]
  split
  · rfl
  · split
    · rfl
    · split <;> rfl

theorem shl (a n : Nat) : a <<< n = a * 2 ^ n := Nat.shiftLeft_eq a n

theorem pow_ge (a b : Nat) (h : a ≤ b) : 2 ^ a ≤ 2 ^ b := Nat.pow_le_pow_right (by decide) h

theorem log2_le_of {m L : Nat} (h1 : 2 ^ L ≤ m) (h2 : m < 2 ^ (L + 1)) : m.log2 = L := by
  have h0 : m ≠ 0 := by have := Nat.two_pow_pos L; omega
  exact (Nat.log2_eq_iff h0).2 ⟨h1, h2⟩

theorem cut_mul (neg : Bool) (q d : Nat) (hq : 0 < q) : Toward.even.cut neg (q * 2 ^ d) d = q := by
  have hp := Nat.two_pow_pos d
  have h0 : q * 2 ^ d ≠ 0 := by have := Nat.mul_pos hq hp; omega
  have hl : d ≤ (q * 2 ^ d).log2 := (Nat.le_log2 h0).2 (Nat.le_mul_of_pos_left _ hq)
  unfold Toward.cut
  simp only [Nat.min_eq_left (show d ≤ (q * 2 ^ d).log2 + 2 from by omega), shl, Nat.one_mul, Nat.mul_div_cancel _ hp, Nat.mul_mod_left]
  simp

theorem cut_zero (neg : Bool) (n d : Nat) : Toward.zero.cut neg n d = n / 2 ^ d := by
  unfold Toward.cut
  simp only [shl, Nat.one_mul]
  simp
  by_cases h : d ≤ n.log2 + 2
  · rw [Nat.min_eq_left h]
  · rw [Nat.min_eq_right (by omega)]
    have h1 : n < 2 ^ (n.log2 + 1) := Nat.lt_log2_self
    have h2 : 2 ^ (n.log2 + 1) ≤ 2 ^ (n.log2 + 2) := Nat.pow_le_pow_right (by decide) (by omega)
    have h3 : 2 ^ (n.log2 + 2) ≤ 2 ^ d := Nat.pow_le_pow_right (by decide) (by omega)
    rw [Nat.div_eq_of_lt (by omega), Nat.div_eq_of_lt (by omega)]

theorem word_pos (r : Nat) : double.word false r = r := rfl

/-- A number with too many digits, those too many noughts. -/
theorem nearest_long (m d : Nat) (place : Int) (h1 : 4503599627370496 ≤ m) (h2 : m < 9007199254740992) (h3 : -1074 ≤ place + d) (h4 : (place + d + 1074).toNat * 4503599627370496 + m ≤ 9218868437227405312) :
    double.nearest false (m * 2 ^ d) place = (place + d + 1074).toNat * 4503599627370496 + m := by
  have hp := Nat.two_pow_pos d
  have h0 : ¬ m * 2 ^ d = 0 := by have := Nat.mul_pos (show 0 < m from by omega) hp; omega
  have hl : (m * 2 ^ d).log2 = 52 + d := log2_le_of
    (by rw [Nat.pow_add]; exact Nat.mul_le_mul_right _ (show 2 ^ 52 ≤ m from by omega))
    (by rw [show 52 + d + 1 = 53 + d from by omega, Nat.pow_add]; exact Nat.mul_lt_mul_of_pos_right (show m < 2 ^ 53 from by omega) hp)
  unfold Format.nearest
  rw [if_neg h0, hl]
  simp only [d_binade, d_inf, d_least, d_frac]
  rw [show max (place + ((52 + d : Nat) : Int) - ((52 : Nat) : Int)) (-1074) = place + d from by omega,
    show (place - (place + (d : Int))).toNat = 0 from by omega, show (place + (d : Int) - place).toNat = d from by omega,
    show (place + (d : Int) - -1074).toNat = (place + d + 1074).toNat from by omega, Nat.shiftLeft_zero, cut_mul false m d (by omega), Nat.min_eq_left h4]
  rfl

/-- A number with few digits. -/
theorem nearest_short (q L : Nat) (place : Int) (h1 : 2 ^ L ≤ q) (h2 : q < 2 ^ (L + 1)) (hL : L ≤ 52) (h3 : -1074 ≤ place + L - 52) (h4 : (place + L + 1022).toNat * 4503599627370496 + q * 2 ^ (52 - L) ≤ 9218868437227405312) :
    double.nearest false q place = (place + L + 1022).toNat * 4503599627370496 + q * 2 ^ (52 - L) := by
  have h0 : ¬ q = 0 := by have := Nat.two_pow_pos L; omega
  unfold Format.nearest
  rw [if_neg h0, log2_le_of h1 h2]
  simp only [d_binade, d_inf, d_least, d_frac]
  rw [show max (place + (L : Int) - ((52 : Nat) : Int)) (-1074) = place + L - 52 from by omega,
    show (place - (place + (L : Int) - 52)).toNat = 52 - L from by omega, show (place + (L : Int) - 52 - place).toNat = 0 from by omega,
    show (place + (L : Int) - 52 - -1074).toNat = (place + L + 1022).toNat from by omega, shl]
  have e := cut_mul false (q * 2 ^ (52 - L)) 0 (Nat.mul_pos (by omega) (Nat.two_pow_pos _))
  rw [Nat.pow_zero, Nat.mul_one] at e
  rw [e, Nat.min_eq_left h4]
  rfl

theorem mul_two_pow_range {q L : Nat} (h1 : 2 ^ L ≤ q) (h2 : q < 2 ^ (L + 1)) (hL : L ≤ 52) : 4503599627370496 ≤ q * 2 ^ (52 - L) ∧ q * 2 ^ (52 - L) < 9007199254740992 := by
  have hp := Nat.two_pow_pos (52 - L)
  constructor
  · have := Nat.mul_le_mul_right (2 ^ (52 - L)) h1
    rw [← Nat.pow_add, show L + (52 - L) = 52 from by omega] at this
    omega
  · have := Nat.mul_lt_mul_of_pos_right h2 hp
    rw [← Nat.pow_add, show L + 1 + (52 - L) = 53 from by omega] at this
    omega

/-- Four times a word of a number that is not too small. -/
theorem mul4_norm (n : Nat) (h1 : 4503599627370496 ≤ n) (h2 : n < 9007199254740992000) : double.mul n 4616189618054758400 = some (n + 9007199254740992) := by
  unfold Format.mul
  rw [read_norm n h1 (by omega), show double.read 4616189618054758400 = .number false 4503599627370496 (-50) from by decide]
  simp only [Datum.product, Option.map_some, Format.write, Bool.xor_false, Option.some.injEq]
  have e := nearest_long (4503599627370496 + n % 4503599627370496) 52 (-1074 + ((n / 4503599627370496 - 1 : Nat) : Int) + -50) (by omega) (by omega) (by omega) (by omega)
  rw [show (2 : Nat) ^ 52 = 4503599627370496 from by decide] at e
  rw [e]
  omega

theorem mul4_zero : double.mul 0 4616189618054758400 = some 0 := by decide

/-- Four times a word of a small number. -/
theorem mul4_sub (n : Nat) (h0 : 0 < n) (h1 : n < 4503599627370496) : ∃ r, double.mul n 4616189618054758400 = some r ∧ 0 < r ∧ r < 13510798882111488 := by
  unfold Format.mul
  rw [read_sub n h1, show double.read 4616189618054758400 = .number false 4503599627370496 (-50) from by decide]
  simp only [Datum.product, Option.map_some, Format.write, Bool.xor_false]
  refine ⟨_, rfl, ?_⟩
  have hne : ¬ n = 0 := by omega
  have g1 : 2 ^ n.log2 ≤ n := Nat.log2_self_le hne
  have g2 : n < 2 ^ (n.log2 + 1) := Nat.lt_log2_self
  have hL : n.log2 < 52 := (Nat.log2_lt hne).2 (by omega)
  generalize n.log2 = L at *
  have hl : (n * 4503599627370496).log2 = L + 52 := by
    refine log2_le_of ?_ ?_
    · rw [Nat.pow_add]; exact Nat.mul_le_mul_right _ g1
    · rw [show L + 52 + 1 = L + 1 + 52 from by omega, Nat.pow_add]; exact Nat.mul_lt_mul_of_pos_right g2 (by decide)
  unfold Format.nearest
  rw [if_neg (by omega), hl]
  simp only [d_binade, d_inf, d_least, d_frac]
  by_cases c : L ≤ 50
  · have hb : 2 ^ (L + 1) ≤ 2 ^ 51 := Nat.pow_le_pow_right (by decide) (by omega)
    rw [show max (-1074 + -50 + ((L + 52 : Nat) : Int) - ((52 : Nat) : Int)) (-1074) = -1074 from by omega]
    have e := cut_mul false (n * 4) 50 (by omega)
    rw [show n * 4 * 2 ^ 50 = n * 4503599627370496 from by omega] at e
    rw [show ((-1074 : Int) + -50 - -1074).toNat = 0 from by decide, show ((-1074 : Int) - (-1074 + -50)).toNat = 50 from by decide, Nat.shiftLeft_zero, e, word_pos]
    omega
  · rw [show max (-1074 + -50 + ((L + 52 : Nat) : Int) - ((52 : Nat) : Int)) (-1074) = -1073 from by omega]
    have e := cut_mul false (n * 2) 51 (by omega)
    rw [show n * 2 * 2 ^ 51 = n * 4503599627370496 from by omega] at e
    rw [show ((-1074 : Int) + -50 - -1073).toNat = 0 from by decide, show ((-1073 : Int) - (-1074 + -50)).toNat = 51 from by decide, Nat.shiftLeft_zero, e, word_pos]
    omega

/-- The word of the whole part. -/
def tr (r : Nat) : Nat := double.write ((double.read r).integral .zero)

theorem tr_small (r : Nat) (h : r < 4607182418800017408) : tr r = 0 := by
  unfold tr
  by_cases c : r < 4503599627370496
  · rw [read_sub r c]
    simp only [Datum.integral, cut_zero]
    rw [show ((-1074 : Int)).toNat = 0 from by decide, show (-(-1074 : Int)).toNat = 1074 from by decide, Nat.shiftLeft_zero, Nat.div_eq_of_lt]
    · rfl
    · exact Nat.lt_of_lt_of_le c (pow_ge 52 1074 (by decide))
  · rw [read_norm r (by omega) (by omega)]
    simp only [Datum.integral, cut_zero]
    rw [show ((-1074 : Int) + ((r / 4503599627370496 - 1 : Nat) : Int)).toNat = 0 from by omega, Nat.shiftLeft_zero, Nat.div_eq_of_lt]
    · rfl
    · have h53 : (2:Nat) ^ 53 ≤ 2 ^ (-((-1074 : Int) + ((r / 4503599627370496 - 1 : Nat) : Int))).toNat := Nat.pow_le_pow_right (by decide) (by omega)
      omega

theorem order_small (r : Nat) (h0 : 0 < r) (h : r < 4607182418800017408) : double.order r (tr r) = some .gt := by
  rw [tr_small r h]
  unfold Format.order
  rw [show double.read 0 = .number false 0 (-1074) from by decide]
  have key : ∀ (m : Nat) (i : Int), 0 < m → Datum.order (.number false m i) (.number false 0 (-1074)) = some .gt := by
    intro m i hm
    simp only [Datum.order, signed, shl, Nat.zero_mul]
    have := Nat.mul_pos hm (Nat.two_pow_pos (i - min i (-1074)).toNat)
    simp only [Bool.false_eq_true, if_false, Option.some.injEq]
    exact (Int.compare_eq_gt).2 (by omega)
  by_cases c : r < 4503599627370496
  · rw [read_sub r c]; exact key _ _ h0
  · rw [read_norm r (by omega) (by omega)]; exact key _ _ (by omega)

/-- The whole part of a number from 1 on, of which k binary digits stand ahead of the point (less one). -/
theorem tr_big (r k : Nat) (hk : k ≤ 52) (h : r / 4503599627370496 = 1023 + k) : tr r = (1022 + k) * 4503599627370496 + (4503599627370496 + r % 4503599627370496) / 2 ^ (52 - k) * 2 ^ (52 - k) ∧ 2 ^ k ≤ (4503599627370496 + r % 4503599627370496) / 2 ^ (52 - k) ∧ (4503599627370496 + r % 4503599627370496) / 2 ^ (52 - k) < 2 ^ (k + 1) := by
  have hp := Nat.two_pow_pos (52 - k)
  have g1 : 2 ^ k ≤ (4503599627370496 + r % 4503599627370496) / 2 ^ (52 - k) := by
    rw [Nat.le_div_iff_mul_le hp, ← Nat.pow_add, show k + (52 - k) = 52 from by omega]; omega
  have g2 : (4503599627370496 + r % 4503599627370496) / 2 ^ (52 - k) < 2 ^ (k + 1) := by
    rw [Nat.div_lt_iff_lt_mul hp, ← Nat.pow_add, show k + 1 + (52 - k) = 53 from by omega]; omega
  refine ⟨?_, g1, g2⟩
  unfold tr
  rw [read_norm r (by omega) (by omega)]
  simp only [Datum.integral, cut_zero]
  rw [show ((-1074 : Int) + ((r / 4503599627370496 - 1 : Nat) : Int)).toNat = 0 from by omega, Nat.shiftLeft_zero, show (-((-1074 : Int) + ((r / 4503599627370496 - 1 : Nat) : Int))).toNat = 52 - k from by omega]
  show double.nearest false _ 0 = _
  have hr := mul_two_pow_range g1 g2 hk
  rw [nearest_short _ k 0 g1 g2 hk (by omega) (by omega)]
  rw [show ((0 : Int) + (k : Int) + 1022).toNat = 1022 + k from by omega]

theorem order_big (r k : Nat) (hk : k ≤ 52) (h : r / 4503599627370496 = 1023 + k) : (double.order r (tr r) = some .eq ↔ (4503599627370496 + r % 4503599627370496) % 2 ^ (52 - k) = 0) := by
  obtain ⟨e, g1, g2⟩ := tr_big r k hk h
  have hr := mul_two_pow_range g1 g2 hk
  rw [e]
  unfold Format.order
  rw [read_norm r (by omega) (by omega)]
  generalize hq : (4503599627370496 + r % 4503599627370496) / 2 ^ (52 - k) = q at *
  rw [read_norm _ (by omega) (by omega)]
  have em : 4503599627370496 + ((1022 + k) * 4503599627370496 + q * 2 ^ (52 - k)) % 4503599627370496 = q * 2 ^ (52 - k) := by omega
  have ed : ((1022 + k) * 4503599627370496 + q * 2 ^ (52 - k)) / 4503599627370496 = 1023 + k := by omega
  rw [em, ed, h]
  simp only [Datum.order, signed, Int.min_self, Int.sub_self, shl, Int.toNat_zero, Nat.pow_zero, Nat.mul_one, Bool.false_eq_true, if_false, Option.some.injEq]
  rw [Int.compare_eq_eq]
  have hdm := Nat.div_add_mod (4503599627370496 + r % 4503599627370496) (2 ^ (52 - k))
  rw [hq, Nat.mul_comm] at hdm
  omega

theorem ord_sub (n : Nat) (c0 : n < 4503599627370496) : Datum.order (.number false n (-1074)) (.number false 5497558138880000 (-39)) = some .lt := by
  simp only [Datum.order, signed, shl, Bool.false_eq_true, if_false]
  rw [show min (-1074 : Int) (-39) = -1074 from by decide, show ((-1074 : Int) - -1074).toNat = 0 from by decide, show ((-39 : Int) - -1074).toNat = 1035 from by decide, Nat.pow_zero, Nat.mul_one]
  have h1 := pow_ge 1 1035 (by decide)
  generalize (2 : Nat) ^ 1035 = p at h1 ⊢
  rw [Int.compare_eq_lt.2 (by omega)]

theorem ord_low (m E : Nat) (h : m < 9007199254740992) (hE : 1 ≤ E) (c2 : E < 1036) : Datum.order (.number false m (-1074 + ((E - 1 : Nat) : Int))) (.number false 5497558138880000 (-39)) = some .lt := by
  simp only [Datum.order, signed, shl, Bool.false_eq_true, if_false]
  rw [show min (-1074 + ((E - 1 : Nat) : Int)) (-39) = -1074 + ((E - 1 : Nat) : Int) from by omega, Int.sub_self, Int.toNat_zero, Nat.pow_zero, Nat.mul_one]
  have h1 := pow_ge 1 ((-39 : Int) - (-1074 + ((E - 1 : Nat) : Int))).toNat (by omega)
  generalize (2 : Nat) ^ ((-39 : Int) - (-1074 + ((E - 1 : Nat) : Int))).toNat = p at h1 ⊢
  rw [Int.compare_eq_lt.2 (by omega)]

theorem ord_mid (m : Nat) : Datum.order (.number false m (-39)) (.number false 5497558138880000 (-39)) = some (compare (m : Int) (5497558138880000 : Int)) := by
  simp only [Datum.order, signed, shl, Bool.false_eq_true, if_false, Int.min_self, Int.sub_self, Int.toNat_zero, Nat.pow_zero, Nat.mul_one]
  rfl

theorem ord_high (m E : Nat) (h : 4503599627370496 ≤ m) (c2 : 1036 < E) : Datum.order (.number false m (-1074 + ((E - 1 : Nat) : Int))) (.number false 5497558138880000 (-39)) = some .gt := by
  simp only [Datum.order, signed, shl, Bool.false_eq_true, if_false]
  rw [show min (-1074 + ((E - 1 : Nat) : Int)) (-39) = -39 from by omega, Int.sub_self, Int.toNat_zero, Nat.pow_zero, Nat.mul_one]
  have h1 := pow_ge 1 ((-1074 : Int) + ((E - 1 : Nat) : Int) - -39).toNat (by omega)
  have h2 := Nat.mul_le_mul_left m h1
  generalize m * (2 : Nat) ^ ((-1074 : Int) + ((E - 1 : Nat) : Int) - -39).toNat = p at h2 ⊢
  rw [Int.compare_eq_gt.2 (by omega)]

/-- Below 10000. -/
theorem lt_tenK (n : Nat) (h : n < 9223372036854775808) : (double.order n 4666723172467343360 == some .lt) = decide (n < 4666723172467343360) := by
  unfold Format.order
  rw [show double.read 4666723172467343360 = .number false 5497558138880000 (-39) from by decide]
  by_cases c0 : n < 4503599627370496
  · rw [read_sub n c0, ord_sub n c0, decide_eq_true (by omega)]; rfl
  by_cases c1 : n < 9218868437227405312
  · rw [read_norm n (by omega) c1]
    by_cases c2 : n / 4503599627370496 < 1036
    · rw [ord_low _ _ (by omega) (by omega) c2, decide_eq_true (by omega)]; rfl
    by_cases c3 : n / 4503599627370496 = 1036
    · rw [c3, show (-1074 : Int) + ((1036 - 1 : Nat) : Int) = -39 from by decide, ord_mid]
      by_cases c4 : n < 4666723172467343360
      · rw [Int.compare_eq_lt.2 (by omega), decide_eq_true c4]; rfl
      · rw [decide_eq_false c4]
        have : compare ((4503599627370496 + n % 4503599627370496 : Nat) : Int) (5497558138880000 : Int) ≠ .lt := by
          rw [Ne, Int.compare_eq_lt]; omega
        cases hc : compare ((4503599627370496 + n % 4503599627370496 : Nat) : Int) (5497558138880000 : Int) with
        | lt => exact absurd hc this
        | eq => rfl
        | gt => rfl
    · rw [ord_high _ _ (by omega) (by omega), decide_eq_false (by omega)]; rfl
  by_cases c2 : n = 9218868437227405312
  · subst c2
    rw [read_inf]
    decide
  · rw [read_nan n (by omega) h, decide_eq_false (by omega)]; rfl

/-- The quarters that a word without a sign is; -1: it is no number of quarters. -/
def quarters (n : Nat) : Int :=
  if n = 0 then 0 else if 1021 ≤ n / 4503599627370496 ∧ n / 4503599627370496 ≤ 1037 then
    (if (4503599627370496 + n % 4503599627370496) % 2 ^ (52 - (n / 4503599627370496 - 1021)) = 0 ∧ (4503599627370496 + n % 4503599627370496) / 2 ^ (52 - (n / 4503599627370496 - 1021)) ≤ 39999 then (((4503599627370496 + n % 4503599627370496) / 2 ^ (52 - (n / 4503599627370496 - 1021)) : Nat) : Int) else -1)
  else -1

/-- What the program says of a word without a sign. -/
def implQ (n : Nat) : Bool := (double.order n 4666723172467343360 == some .lt) && (match double.mul n 4616189618054758400 with | some r => double.order r (tr r) == some .eq | none => false)

theorem le15 {k : Nat} (h : k ≤ 15) : k = 0 ∨ k = 1 ∨ k = 2 ∨ k = 3 ∨ k = 4 ∨ k = 5 ∨ k = 6 ∨ k = 7 ∨ k = 8 ∨ k = 9 ∨ k = 10 ∨ k = 11 ∨ k = 12 ∨ k = 13 ∨ k = 14 ∨ k = 15 := by omega

theorem quarters_high (n : Nat) (h : 4666723172467343360 ≤ n) : quarters n = -1 := by
  unfold quarters
  rw [if_neg (by omega)]
  split
  · rename_i c
    rw [if_neg]
    rintro ⟨_, h2⟩
    have hE : n / 4503599627370496 = 1036 ∨ n / 4503599627370496 = 1037 := by omega
    rcases hE with hE | hE
    · rw [hE] at h2
      simp only [Nat.reduceSub, Nat.reducePow] at h2
      omega
    · rw [hE] at h2
      simp only [Nat.reduceSub, Nat.reducePow] at h2
      omega
  · rfl

theorem implQ_eq (n : Nat) (h : n < 9223372036854775808) : implQ n = decide (0 ≤ quarters n) := by
  unfold implQ
  rw [lt_tenK n h]
  by_cases c : n < 4666723172467343360
  · rw [decide_eq_true c, Bool.true_and]
    by_cases c0 : n = 0
    · subst c0; rw [mul4_zero]; decide
    by_cases c1 : n < 4503599627370496
    · obtain ⟨r, hr, r1, r2⟩ := mul4_sub n (by omega) c1
      rw [hr]
      simp only [order_small r r1 (by omega)]
      unfold quarters
      rw [if_neg c0, if_neg (by omega)]
      rfl
    rw [mul4_norm n (by omega) (by omega)]
    simp only
    by_cases c2 : n / 4503599627370496 < 1021
    · rw [order_small _ (by omega) (by omega)]
      unfold quarters
      rw [if_neg c0, if_neg (by omega)]
      rfl
    obtain ⟨k, hk⟩ : ∃ k, n / 4503599627370496 = 1021 + k := ⟨n / 4503599627370496 - 1021, by omega⟩
    have k15 : k ≤ 15 := by omega
    have o := order_big (n + 9007199254740992) k (by omega) (by omega)
    rw [show (n + 9007199254740992) % 4503599627370496 = n % 4503599627370496 from by omega] at o
    unfold quarters
    rw [if_neg c0, hk, if_pos (by omega), show 1021 + k - 1021 = k from by omega]
    by_cases d : (4503599627370496 + n % 4503599627370496) % 2 ^ (52 - k) = 0
    · have hle : (4503599627370496 + n % 4503599627370496) / 2 ^ (52 - k) ≤ 39999 := by
        clear o d
        rcases le15 k15 with e | e | e | e | e | e | e | e | e | e | e | e | e | e | e | e <;> (subst e; simp only [Nat.reduceSub, Nat.reducePow]; omega)
      rw [o.2 d, if_pos ⟨d, hle⟩]
      have : (0 : Int) ≤ (((4503599627370496 + n % 4503599627370496) / 2 ^ (52 - k) : Nat) : Int) := Int.natCast_nonneg _
      rw [decide_eq_true this]; rfl
    · rw [if_neg (fun x => d x.1)]
      have hne : double.order (n + 9007199254740992) (tr (n + 9007199254740992)) ≠ some .eq := fun x => d (o.1 x)
      rw [decide_eq_false (by decide)]
      exact beq_eq_false_iff_ne.2 hne
  · rw [decide_eq_false c, quarters_high n (by omega)]
    rfl

/-- The word of so many quarters, of which L + 1 binary digits are. -/
def wq (q L : Nat) : Nat := (1020 + L) * 4503599627370496 + q * 2 ^ (52 - L)

theorem quarters_pos (n : Nat) (h : 0 ≤ quarters n) (h0 : n ≠ 0) : ∃ q k : Nat, quarters n = q ∧ k ≤ 15 ∧ 2 ^ k ≤ q ∧ q < 2 ^ (k + 1) ∧ q ≤ 39999 ∧ n = wq q k := by
  unfold quarters at h ⊢
  rw [if_neg h0] at h ⊢
  split at h
  · rename_i c
    rw [if_pos c]
    split at h
    · rename_i d
      rw [if_pos d]
      obtain ⟨k, hk⟩ : ∃ k, n / 4503599627370496 = 1021 + k := ⟨n / 4503599627370496 - 1021, by omega⟩
      rw [hk, show 1021 + k - 1021 = k from by omega] at d ⊢
      have hp := Nat.two_pow_pos (52 - k)
      have g1 : 2 ^ k ≤ (4503599627370496 + n % 4503599627370496) / 2 ^ (52 - k) := by
        rw [Nat.le_div_iff_mul_le hp, ← Nat.pow_add, show k + (52 - k) = 52 from by omega]; omega
      have g2 : (4503599627370496 + n % 4503599627370496) / 2 ^ (52 - k) < 2 ^ (k + 1) := by
        rw [Nat.div_lt_iff_lt_mul hp, ← Nat.pow_add, show k + 1 + (52 - k) = 53 from by omega]; omega
      have k15 : k ≤ 15 := by
        have a : k ≤ 16 := by omega
        rcases Nat.lt_or_ge k 16 with b | b
        · omega
        · have e : k = 16 := by omega
          subst e
          have := d.2
          simp only [Nat.reduceSub, Nat.reducePow] at this
          omega
      refine ⟨_, k, rfl, k15, g1, g2, d.2, ?_⟩
      unfold wq
      have hdm := Nat.div_add_mod (4503599627370496 + n % 4503599627370496) (2 ^ (52 - k))
      rw [d.1, Nat.mul_comm] at hdm
      omega
    · exact absurd h (by decide)
  · exact absurd h (by decide)

theorem wq_facts (q k : Nat) (k15 : k ≤ 15) (g1 : 2 ^ k ≤ q) (g2 : q < 2 ^ (k + 1)) : wq q k / 4503599627370496 = 1021 + k ∧ 4503599627370496 + wq q k % 4503599627370496 = q * 2 ^ (52 - k) ∧ 4503599627370496 ≤ wq q k ∧ wq q k < 4674736413210574848 := by
  have hr := mul_two_pow_range g1 g2 (by omega)
  unfold wq
  omega

theorem read_wq (q k : Nat) (k15 : k ≤ 15) (g1 : 2 ^ k ≤ q) (g2 : q < 2 ^ (k + 1)) : double.read (wq q k) = .number false (q * 2 ^ (52 - k)) ((k : Int) - 54) := by
  obtain ⟨e1, e2, e3, e4⟩ := wq_facts q k k15 g1 g2
  rw [read_norm _ e3 (by omega), e1, e2]
  congr 1
  omega

/-- The words of none to three quarters. -/
def wj (j : Nat) : Nat := if j = 0 then 0 else if j = 1 then 4598175219545276416 else if j = 2 then 4602678819172646912 else 4604930618986332160

theorem small_k (q k : Nat) (hq : q < 4) (g1 : 2 ^ k ≤ q) (g2 : q < 2 ^ (k + 1)) : (q = 1 ∧ k = 0) ∨ (q = 2 ∧ k = 1) ∨ (q = 3 ∧ k = 1) := by
  have hk : k < 2 := by
    rcases Nat.lt_or_ge k 2 with c | c
    · exact c
    · have := pow_ge 2 k c; omega
  have : k = 0 ∨ k = 1 := by omega
  rcases this with rfl | rfl <;> simp at g1 g2 <;> omega

theorem big_k (q k : Nat) (hq : 4 ≤ q) (g2 : q < 2 ^ (k + 1)) : 2 ≤ k := by
  rcases Nat.lt_or_ge k 2 with c | c
  · have := pow_ge (k + 1) 2 (by omega); omega
  · exact c

/-- The whole part of so many quarters. -/
theorem tr_wq (q k : Nat) (hq : 4 ≤ q) (k15 : k ≤ 15) (g1 : 2 ^ k ≤ q) (g2 : q < 2 ^ (k + 1)) : tr (wq q k) = (1020 + k) * 4503599627370496 + q / 4 * 2 ^ (54 - k) ∧ double.read (tr (wq q k)) = .number false (q / 4 * 2 ^ (54 - k)) ((k : Int) - 54) := by
  obtain ⟨e1, e2, e3, e4⟩ := wq_facts q k k15 g1 g2
  have k2 := big_k q k hq g2
  obtain ⟨t1, t2, t3⟩ := tr_big (wq q k) (k - 2) (by omega) (by omega)
  rw [e2, show 52 - (k - 2) = 54 - k from by omega] at t1 t2 t3
  have hd : q * 2 ^ (52 - k) / 2 ^ (54 - k) = q / 4 := by
    rw [show 54 - k = 52 - k + 2 from by omega, Nat.pow_add, Nat.mul_comm (2 ^ (52 - k)) (2 ^ 2), Nat.mul_div_mul_right _ _ (Nat.two_pow_pos _)]
  rw [hd] at t1 t2 t3
  have hr := mul_two_pow_range t2 t3 (by omega)
  rw [show 52 - (k - 2) = 54 - k from by omega] at hr
  have t4 : tr (wq q k) = (1020 + k) * 4503599627370496 + q / 4 * 2 ^ (54 - k) := by rw [t1]; omega
  refine ⟨t4, ?_⟩
  rw [t4, read_norm _ (by omega) (by omega)]
  generalize q / 4 * 2 ^ (54 - k) = m at *
  congr 1 <;> omega

theorem int_zero : floatToIntVal .f64 0 .i64 = some 0 := by decide +kernel

theorem tr_wq_small (q k : Nat) (hq : q < 4) (g1 : 2 ^ k ≤ q) (g2 : q < 2 ^ (k + 1)) : tr (wq q k) = 0 := by
  rcases small_k q k hq g1 g2 with ⟨rfl, rfl⟩ | ⟨rfl, rfl⟩ | ⟨rfl, rfl⟩
  · exact tr_small (wq 1 0) (by decide)
  · exact tr_small (wq 2 1) (by decide)
  · exact tr_small (wq 3 1) (by decide)

theorem i64min : IntKind.i64.min = -9223372036854775808 := by decide
theorem i64max : IntKind.i64.max = 9223372036854775807 := by decide

theorem toInt_at (m d : Nat) (i : Int) (hi : i = -(d : Int)) : (Datum.number false (m * 2 ^ d) i).toInt .zero = some (m : Int) := by
  subst hi
  simp only [Datum.toInt, Datum.integral, cut_zero]
  rw [show (-(d : Int)).toNat = 0 from by omega, Nat.shiftLeft_zero, show (- -(d : Int)).toNat = d from by omega, Nat.mul_div_cancel _ (Nat.two_pow_pos _)]
  simp only [signed, Nat.shiftLeft_zero, Bool.false_eq_true, if_false]

theorem int_of {b : Nat} {m : Nat} (h : (double.read b).toInt .zero = some (m : Int)) (hm : m < 65536) : floatToIntVal .f64 b .i64 = some (m : Int) := by
  unfold floatToIntVal FloatKind.decode FloatKind.format
  simp only [h]
  rw [i64min, i64max, if_pos (by omega)]

theorem int_tr_wq (q k : Nat) (k15 : k ≤ 15) (g1 : 2 ^ k ≤ q) (g2 : q < 2 ^ (k + 1)) : floatToIntVal .f64 (tr (wq q k)) .i64 = some ((q / 4 : Nat) : Int) := by
  by_cases hq : q < 4
  · rw [tr_wq_small q k hq g1 g2, show q / 4 = 0 from by omega]
    exact int_zero
  · have k2 := big_k q k (by omega) g2
    have hq2 : q < 65536 := by have := pow_ge (k + 1) 16 (by omega); omega
    refine int_of ?_ (by omega)
    rw [(tr_wq q k (by omega) k15 g1 g2).2]
    exact toInt_at (q / 4) (54 - k) _ (by omega)

theorem le15' {k : Nat} (h1 : 2 ≤ k) (h : k ≤ 15) : k = 2 ∨ k = 3 ∨ k = 4 ∨ k = 5 ∨ k = 6 ∨ k = 7 ∨ k = 8 ∨ k = 9 ∨ k = 10 ∨ k = 11 ∨ k = 12 ∨ k = 13 ∨ k = 14 ∨ k = 15 := by omega

/-- What is left of so many quarters behind the point. -/
theorem sub_wq (q k : Nat) (k15 : k ≤ 15) (g1 : 2 ^ k ≤ q) (g2 : q < 2 ^ (k + 1)) : double.sub (wq q k) (tr (wq q k)) = some (wj (q % 4)) := by
  by_cases hq : q < 4
  · rcases small_k q k hq g1 g2 with ⟨rfl, rfl⟩ | ⟨rfl, rfl⟩ | ⟨rfl, rfl⟩ <;> (rw [tr_wq_small _ _ hq g1 g2]; decide +kernel)
  · have k2 := big_k q k (by omega) g2
    have hr := (tr_wq q k (by omega) k15 g1 g2).2
    unfold Format.sub
    rw [hr, read_wq q k k15 g1 g2]
    simp only [Datum.opposite, Datum.sum, Int.min_self, Int.sub_self, Int.toNat_zero, signed, Nat.shiftLeft_zero, Bool.not_false, if_true, Bool.false_eq_true, if_false, Bool.false_and, Option.map_some, Format.write]
    have e : ((q * 2 ^ (52 - k) : Nat) : Int) + -((q / 4 * 2 ^ (54 - k) : Nat) : Int) = ((q % 4 * 2 ^ (52 - k) : Nat) : Int) := by
      rw [show 54 - k = 52 - k + 2 from by omega, Nat.pow_add]
      have hdm := Nat.div_add_mod q 4
      have : q * 2 ^ (52 - k) = q / 4 * (2 ^ (52 - k) * 2 ^ 2) + q % 4 * 2 ^ (52 - k) := by
        conv => lhs; rw [← hdm, Nat.add_mul]
        rw [Nat.mul_comm 4 (q / 4), Nat.mul_assoc, Nat.mul_comm 4]
      omega
    rw [e]
    have hneg : (if ((q % 4 * 2 ^ (52 - k) : Nat) : Int) = 0 then false else decide (((q % 4 * 2 ^ (52 - k) : Nat) : Int) < 0)) = false := by
      split
      · rfl
      · exact decide_eq_false (by omega)
    rw [hneg, Int.natAbs_natCast]
    have hj : q % 4 = 0 ∨ q % 4 = 1 ∨ q % 4 = 2 ∨ q % 4 = 3 := by omega
    clear e hneg hr g1 g2 hq
    rcases hj with e | e | e | e <;> rw [e] <;> clear e <;> rcases le15' k2 k15 with e | e | e | e | e | e | e | e | e | e | e | e | e | e <;> (subst e; decide +kernel)

theorem wj_mul (j : Nat) (h : j < 4) : double.mul (wj j) 4616189618054758400 = some (FloatKind.f64.nearest (j : Int)) ∧ floatToIntVal .f64 (FloatKind.f64.nearest (j : Int)) .i64 = some (j : Int) ∧ wj j < 9223372036854775808 := by
  have : j = 0 ∨ j = 1 ∨ j = 2 ∨ j = 3 := by omega
  rcases this with rfl | rfl | rfl | rfl <;> decide

/-- A whole number as a float64. -/
theorem read_whole (x L : Nat) (g1 : 2 ^ L ≤ x) (g2 : x < 2 ^ (L + 1)) (hL : L ≤ 13) : double.read (double.nearest false x 0) = .number false (x * 2 ^ (52 - L)) ((L : Int) - 52) := by
  have hr := mul_two_pow_range g1 g2 (by omega)
  rw [nearest_short x L 0 g1 g2 (by omega) (by omega) (by omega), read_norm _ (by omega) (by omega)]
  generalize x * 2 ^ (52 - L) = m at *
  congr 1 <;> omega

/-- So many quarters, written. -/
theorem nearest_q (q L s : Nat) (g1 : 2 ^ L ≤ q) (g2 : q < 2 ^ (L + 1)) (hL : L ≤ 15) (hs : 52 ≤ L + s) (hs2 : s ≤ 1072) : double.nearest false (q * 2 ^ s) (-2 - (s : Int)) = wq q L := by
  have hr := mul_two_pow_range g1 g2 (by omega)
  have e := nearest_long (q * 2 ^ (52 - L)) (L + s - 52) (-2 - (s : Int)) hr.1 hr.2 (by omega) (by omega)
  rw [Nat.mul_assoc, ← Nat.pow_add, show 52 - L + (L + s - 52) = s from by omega] at e
  rw [e]
  unfold wq
  omega

/-- A whole number and none to three quarters, added up. -/
theorem add_q (x L j : Nat) (g1 : 2 ^ L ≤ x) (g2 : x < 2 ^ (L + 1)) (hL : L ≤ 13) (hj : j < 4) : double.add (double.nearest false x 0) (wj j) = some (wq (4 * x + j) (L + 2)) := by
  have hq1 : 2 ^ (L + 2) ≤ 4 * x + j := by rw [Nat.pow_add]; omega
  have hq2 : 4 * x + j < 2 ^ (L + 2 + 1) := by rw [show L + 2 + 1 = L + 1 + 2 from by omega, Nat.pow_add]; omega
  unfold Format.add
  rw [read_whole x L g1 g2 hL]
  have xp : 0 < x := by have := Nat.two_pow_pos L; omega
  have key : ∀ (n t : Nat), 50 ≤ t → double.read (wj j) = .number false n (-2 - (t : Int)) → x * 2 ^ (t + 2) + n = (4 * x + j) * 2 ^ t → t ≤ 1072 → ((Datum.number false (x * 2 ^ (52 - L)) ((L : Int) - 52)).sum (double.read (wj j))).map double.write = some (wq (4 * x + j) (L + 2)) := by
    intro n t h1 h2 h3 h4
    rw [h2]
    simp only [Datum.sum, Option.map_some, Option.some.injEq]
    rw [show min ((L : Int) - 52) (-2 - (t : Int)) = -2 - (t : Int) from by omega, show ((L : Int) - 52 - (-2 - (t : Int))).toNat = L + t - 50 from by omega, show (-2 - (t : Int) - (-2 - (t : Int))).toNat = 0 from by omega]
    simp only [signed, Nat.shiftLeft_zero, Bool.false_eq_true, if_false, Bool.and_self]
    rw [shl, Nat.mul_assoc, ← Nat.pow_add, show 52 - L + (L + t - 50) = t + 2 from by omega]
    rw [show ((x * 2 ^ (t + 2) : Nat) : Int) + (n : Int) = (((4 * x + j) * 2 ^ t : Nat) : Int) from by rw [← h3]; omega]
    have hpos : 0 < (4 * x + j) * 2 ^ t := Nat.mul_pos (by omega) (Nat.two_pow_pos _)
    rw [if_neg (by omega), decide_eq_false (by omega), Int.natAbs_natCast]
    exact nearest_q (4 * x + j) (L + 2) t hq1 hq2 (by omega) (by omega) (by omega)
  have : j = 0 ∨ j = 1 ∨ j = 2 ∨ j = 3 := by omega
  rcases this with rfl | rfl | rfl | rfl
  · have e : ∀ t : Nat, x * 2 ^ (t + 2) + 0 = (4 * x + 0) * 2 ^ t := fun t => by
      rw [Nat.pow_add, show (2 : Nat) ^ 2 = 4 from rfl, Nat.mul_comm (2 ^ t) 4, ← Nat.mul_assoc, Nat.mul_comm x 4]
      rfl
    exact key 0 1072 (by decide) (by decide) (e 1072) (by decide)
  · exact key 4503599627370496 52 (by decide) (by decide) (by omega) (by decide)
  · exact key 4503599627370496 51 (by decide) (by decide) (by omega) (by decide)
  · exact key 6755399441055744 51 (by decide) (by decide) (by omega) (by decide)

end Go.Proofs.YthhdfbgjdfoalaaGreatDoor
