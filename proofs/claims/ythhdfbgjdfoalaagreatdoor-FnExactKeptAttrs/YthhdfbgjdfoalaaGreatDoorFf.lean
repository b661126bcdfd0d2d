/- The text of so many quarters: what is laid out is the digits of the whole ones and one of four ends. -/
import Derived.Test.YthhdfbgjdfoalaaGreatDoorFe
namespace Go.Proofs.YthhdfbgjdfoalaaGreatDoor
open Go.RowKit
set_option linter.unusedVariables false
set_option linter.unusedSimpArgs false

def digF : Nat → Nat → List Int
  | 0, _ => []
  | f + 1, n => if n < 10 then [((48 + n : Nat) : Int)] else digF f (n / 10) ++ [((48 + n % 10 : Nat) : Int)]
def digL (n : Nat) : List Int := digF 5 n
def fracL (j : Nat) : List Int := if j = 0 then [] else if j = 1 then [46, 50, 53] else if j = 2 then [46, 53] else [46, 55, 53]
def ndF : Nat → Nat → Nat
  | 0, _ => 0
  | f + 1, u => if u < 10 then 1 else ndF f (u / 10) + 1
theorem ndF_is : ∀ (f u : Nat), u < 10 ^ (f + 1) → ndF (f + 1) u = Lib.nDigits u
  | 0, u, h => by
    have h : u < 10 := by simpa using h
    unfold ndF
    rw [if_pos h, Lib.nDigits_small h]
  | f + 1, u, h => by
    by_cases c : u < 10
    · rw [ndF, if_pos c, Lib.nDigits_small c]
    · rw [ndF, if_neg c, Lib.nDigits_big c, ndF_is f (u / 10) (by rw [Nat.pow_succ] at h; omega)]

/-- Digits of the shortest decimal, how many they are, where the point stands. -/
def ndQ (q : Nat) : Nat := Lib.nDigits (dQ q)
def dpQ (q : Nat) : Nat := ndQ q + 1 - pQ q
def nQ (q : Nat) : Nat := stripN (dQ q) (ndQ q) (ndQ q)

def fmtOkAt (q d nd p : Nat) : Bool :=
  decide (d < 100000000000000000000) && decide (d < 18446744073709551616) && decide (1 ≤ d) && decide (p ≤ nd + 1) && decide (nd + 1 - p ≤ 30) && decide (nd ≤ 30) && decide (1 ≤ stripN d nd nd) && (fmtL false (nd + 1 - p) (stripN d nd nd) (dAt d nd) == digL (q / 4) ++ fracL (q % 4))
def fmtOk (q : Nat) : Bool := fmtOkAt q (dQ q) (ndF 20 (dQ q)) (pQ q)
def fmtQ (q : Nat) : Bool := if 1 ≤ q ∧ q ≤ 39999 then fmtOk q else true

set_option maxRecDepth 100000 in
theorem fmt_p0 : allFrom fmtQ 11 0 = true := by decide +kernel
set_option maxRecDepth 100000 in
theorem fmt_p1 : allFrom fmtQ 11 2048 = true := by decide +kernel
set_option maxRecDepth 100000 in
theorem fmt_p2 : allFrom fmtQ 11 4096 = true := by decide +kernel
set_option maxRecDepth 100000 in
theorem fmt_p3 : allFrom fmtQ 11 6144 = true := by decide +kernel
set_option maxRecDepth 100000 in
theorem fmt_p4 : allFrom fmtQ 11 8192 = true := by decide +kernel
set_option maxRecDepth 100000 in
theorem fmt_p5 : allFrom fmtQ 11 10240 = true := by decide +kernel
set_option maxRecDepth 100000 in
theorem fmt_p6 : allFrom fmtQ 11 12288 = true := by decide +kernel
set_option maxRecDepth 100000 in
theorem fmt_p7 : allFrom fmtQ 11 14336 = true := by decide +kernel
set_option maxRecDepth 100000 in
theorem fmt_p8 : allFrom fmtQ 11 16384 = true := by decide +kernel
set_option maxRecDepth 100000 in
theorem fmt_p9 : allFrom fmtQ 11 18432 = true := by decide +kernel
set_option maxRecDepth 100000 in
theorem fmt_p10 : allFrom fmtQ 11 20480 = true := by decide +kernel
set_option maxRecDepth 100000 in
theorem fmt_p11 : allFrom fmtQ 11 22528 = true := by decide +kernel
set_option maxRecDepth 100000 in
theorem fmt_p12 : allFrom fmtQ 11 24576 = true := by decide +kernel
set_option maxRecDepth 100000 in
theorem fmt_p13 : allFrom fmtQ 11 26624 = true := by decide +kernel
set_option maxRecDepth 100000 in
theorem fmt_p14 : allFrom fmtQ 11 28672 = true := by decide +kernel
set_option maxRecDepth 100000 in
theorem fmt_p15 : allFrom fmtQ 11 30720 = true := by decide +kernel
set_option maxRecDepth 100000 in
theorem fmt_p16 : allFrom fmtQ 11 32768 = true := by decide +kernel
set_option maxRecDepth 100000 in
theorem fmt_p17 : allFrom fmtQ 11 34816 = true := by decide +kernel
set_option maxRecDepth 100000 in
theorem fmt_p18 : allFrom fmtQ 11 36864 = true := by decide +kernel
set_option maxRecDepth 100000 in
theorem fmt_p19 : allFrom fmtQ 11 38912 = true := by decide +kernel

theorem fmt_all (q : Nat) (h : q < 40960) : fmtQ q = true := by
  by_cases c0 : q < 2048
  · exact allFrom_at 11 0 fmt_p0 q (by omega) (by omega)
  by_cases c1 : q < 4096
  · exact allFrom_at 11 2048 fmt_p1 q (by omega) (by omega)
  by_cases c2 : q < 6144
  · exact allFrom_at 11 4096 fmt_p2 q (by omega) (by omega)
  by_cases c3 : q < 8192
  · exact allFrom_at 11 6144 fmt_p3 q (by omega) (by omega)
  by_cases c4 : q < 10240
  · exact allFrom_at 11 8192 fmt_p4 q (by omega) (by omega)
  by_cases c5 : q < 12288
  · exact allFrom_at 11 10240 fmt_p5 q (by omega) (by omega)
  by_cases c6 : q < 14336
  · exact allFrom_at 11 12288 fmt_p6 q (by omega) (by omega)
  by_cases c7 : q < 16384
  · exact allFrom_at 11 14336 fmt_p7 q (by omega) (by omega)
  by_cases c8 : q < 18432
  · exact allFrom_at 11 16384 fmt_p8 q (by omega) (by omega)
  by_cases c9 : q < 20480
  · exact allFrom_at 11 18432 fmt_p9 q (by omega) (by omega)
  by_cases c10 : q < 22528
  · exact allFrom_at 11 20480 fmt_p10 q (by omega) (by omega)
  by_cases c11 : q < 24576
  · exact allFrom_at 11 22528 fmt_p11 q (by omega) (by omega)
  by_cases c12 : q < 26624
  · exact allFrom_at 11 24576 fmt_p12 q (by omega) (by omega)
  by_cases c13 : q < 28672
  · exact allFrom_at 11 26624 fmt_p13 q (by omega) (by omega)
  by_cases c14 : q < 30720
  · exact allFrom_at 11 28672 fmt_p14 q (by omega) (by omega)
  by_cases c15 : q < 32768
  · exact allFrom_at 11 30720 fmt_p15 q (by omega) (by omega)
  by_cases c16 : q < 34816
  · exact allFrom_at 11 32768 fmt_p16 q (by omega) (by omega)
  by_cases c17 : q < 36864
  · exact allFrom_at 11 34816 fmt_p17 q (by omega) (by omega)
  by_cases c18 : q < 38912
  · exact allFrom_at 11 36864 fmt_p18 q (by omega) (by omega)
  by_cases c19 : q < 40960
  · exact allFrom_at 11 38912 fmt_p19 q (by omega) (by omega)
  omega

theorem fmt_at (q : Nat) (h1 : 1 ≤ q) (h2 : q ≤ 39999) : dQ q < 18446744073709551616 ∧ 1 ≤ dQ q ∧ pQ q ≤ ndQ q + 1 ∧ dpQ q ≤ 30 ∧ ndQ q ≤ 30 ∧ 1 ≤ nQ q ∧ fmtL false (dpQ q) (nQ q) (dAt (dQ q) (ndQ q)) = digL (q / 4) ++ fracL (q % 4) := by
  have h := fmt_all q (by omega)
  unfold fmtQ at h
  rw [if_pos ⟨h1, h2⟩] at h
  unfold fmtOk fmtOkAt at h
  simp only [Bool.and_eq_true, decide_eq_true_eq, beq_iff_eq] at h
  obtain ⟨⟨⟨⟨⟨⟨⟨a0, a1⟩, a2⟩, a3⟩, a4⟩, a5⟩, a6⟩, a7⟩ := h
  have e : ndF 20 (dQ q) = ndQ q := ndF_is 19 (dQ q) a0
  rw [e] at a3 a4 a5 a6 a7
  exact ⟨a1, a2, a3, a4, a5, a6, a7⟩

end Go.Proofs.YthhdfbgjdfoalaaGreatDoor
