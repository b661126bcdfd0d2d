/- Numbers of quarters as texts: the mathematics of the shortest decimal (a number times a power of ten, cut; each of the 39,999 is held by the kernel). -/
import Derived.Test.YthhdfbgjdfoalaaGreatDoorMe
namespace Go.Proofs.YthhdfbgjdfoalaaGreatDoor
set_option linter.unusedVariables false

/-- A number times hi, cut: two places and a mark for what was cut off (the table's second part is 0 here). -/
def usc (x hi s : Nat) : Nat :=
  if x * hi / 18446744073709551616 / 2 ^ s * 2 ^ s = x * hi / 18446744073709551616 then (x * hi / 18446744073709551616 / 2 ^ s) ||| (if 1 < x * hi % 18446744073709551616 then 1 else 0)
  else (x * hi / 18446744073709551616 / 2 ^ s) ||| 1

/-- The table's rows that are met: ten to the p, its highest bit in front. -/
def tabHi (p : Nat) : Nat := if p = 12 then 16777216000000000000 else if p = 13 then 10485760000000000000 else if p = 14 then 13107200000000000000 else if p = 15 then 16384000000000000000 else if p = 16 then 10240000000000000000 else 12800000000000000000

/-- The power of ten, of a number at the foot of its binade or another one. -/
def pP (k : Nat) (foot : Bool) : Nat := if foot then (if k ≤ 1 then 17 else if k ≤ 4 then 16 else if k ≤ 7 then 15 else if k ≤ 11 then 14 else if k ≤ 14 then 13 else 12) else (if k ≤ 4 then 16 else if k ≤ 7 then 15 else if k ≤ 10 then 14 else if k ≤ 14 then 13 else 12)

def lpP (p : Nat) : Nat := if p = 12 then 39 else if p = 13 then 43 else if p = 14 then 46 else if p = 15 then 49 else if p = 16 then 53 else 56

def sP (k p : Nat) : Nat := 62 - k - lpP p

def dmin (q k p : Nat) (foot : Bool) : Nat := (usc (q * 2 ^ (63 - k) - (if foot then 512 else 1024)) (tabHi p) (sP k p) + 3) / 4
def dmax (q k p : Nat) : Nat := usc (q * 2 ^ (63 - k) + 1024) (tabHi p) (sP k p) / 4

/-- What is asked of one number. -/
def shortOk (q : Nat) : Bool :=
  let k := q.log2
  let foot := q * 2 ^ (63 - k) == 9223372036854775808
  let p := pP k foot
  (dmax q k p / 10 == q * 25 * 10 ^ (p - 3)) && decide (dmin q k p foot ≤ q * 250 * 10 ^ (p - 3)) && decide (dmax q k p < 18446744073709551616)

/-- All numbers from lo on, 2^d of them. -/
def allFrom (f : Nat → Bool) : Nat → Nat → Bool
  | 0, lo => f lo
  | d + 1, lo => allFrom f d lo && allFrom f d (lo + 2 ^ d)

theorem allFrom_at {f : Nat → Bool} : ∀ (d lo : Nat), allFrom f d lo = true → ∀ n, lo ≤ n → n < lo + 2 ^ d → f n = true
  | 0, lo, h, n, h1, h2 => by
    have : n = lo := by simp at h2; omega
    subst this; exact h
  | d + 1, lo, h, n, h1, h2 => by
    unfold allFrom at h
    rw [Bool.and_eq_true] at h
    have e : (2 : Nat) ^ (d + 1) = 2 ^ d + 2 ^ d := by rw [Nat.pow_succ]; omega
    by_cases hn : n < lo + 2 ^ d
    · exact allFrom_at d lo h.1 n h1 hn
    · exact allFrom_at d (lo + 2 ^ d) h.2 n (by omega) (by omega)

def shortQ (q : Nat) : Bool := if 1 ≤ q ∧ q ≤ 39999 then shortOk q else true

set_option maxRecDepth 100000 in
theorem short_all : allFrom shortQ 16 0 = true := by decide +kernel

theorem short_at (q : Nat) (h1 : 1 ≤ q) (h2 : q ≤ 39999) : shortOk q = true := by
  have h := allFrom_at 16 0 short_all q (Nat.zero_le _) (by simp; omega)
  unfold shortQ at h
  rw [if_pos ⟨h1, h2⟩] at h
  exact h

end Go.Proofs.YthhdfbgjdfoalaaGreatDoor
