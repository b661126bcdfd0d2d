/- The law on WordsOf. -/
import Derived.Test.YtaihlcfpkabonaaWsc
import Derived.Test.YtaihlcfpkabonaaCm
namespace Go.Proofs.Ytaihlcfpkabonaa
open Go.RowKit
set_option linter.unusedVariables false
set_option linter.unusedSimpArgs false

theorem eqWords_any (z : Int) (l : List ByteArray) (a b : Option Addr) (c d : Nat) (w : World) (ha : StAt w a l) (hb : StAt w b l) (hl : (l.length : Int) ≤ 1048576) :
    Calls Try.prog 6 #[.agg #[.int .i64 z, .slice a l.length c], .agg #[.int .i64 z, .slice b l.length d]] w fun e w' => e = .returned (.bool true) ∧ Below w.heap.size w w' := by
  have B0 := ((Below.refl w.heap.size w).alloc (Nat.le_refl _) (.cells #[.int .i64 z, .slice a l.length c] 24)).alloc (by simp) (.cells #[.int .i64 z, .slice b l.length d] 24)
  have K := Hid.mk' (eqStringS_any a b c d l _ (ha.below B0) (hb.below B0) hl)
  have HB := Hid.mk' B0
  clear ha hb B0
  go_enter Try.func6, Try.ntmps6
  go_wp2_with fail
  refine K.out.mono ?_
  rintro e w1 ⟨rfl, hb⟩
  have HB := Hid.mk' (HB.out.trans (hb.mono HB.out.size))
  clear hb K
  go_wp2
  go_ret
  exact ⟨rfl, HB.out⟩

theorem markWords_is (z : Int) (g cn k : Nat) (l : List ByteArray) (f : Nat → Value) (cap : Nat) (w : World) (hr : w.rowIs g 9 cn f) (hle : l.length ≤ cn) (h0 : 0 < k) (hk : k + l.length ≤ 100000000) :
    Calls Try.prog 7 #[.agg #[.int .i64 z, .slice (some ⟨g, 0, none⟩) l.length cap], .int .i64 k] w fun e w' => e = .returned (.int .i64 ((k + l.length : Nat) : Int)) ∧ w'.rowIs g 9 cn (fun j => if j < l.length then .string (mtS (k + j)) else f j) ∧ KeptIn g (g + 1) w w' := by
  have B0 := below_new w (.cells #[.int .i64 z, .slice (some ⟨g, 0, none⟩) l.length cap] 24)
  have K := Hid.mk' (markStringS_is g cn k l f cap _ (rowB hr B0) hle h0 hk)
  have HB := Hid.mk' (KeptIn.of_below (lo := g) (hi := g + 1) B0)
  clear hr B0
  go_enter Try.func7, Try.ntmps7
  go_wp2_with fail
  refine K.out.mono ?_
  rintro e w1 ⟨rfl, hr, hk⟩
  have R := Hid.mk' hr
  have HK := Hid.mk' (HB.out.trans hk)
  clear hr hk K
  go_wp2
  go_ret
  exact ⟨rfl, R.out, HK.out⟩

theorem heldWords_is (z : Int) (a : Option Addr) (k n cap : Nat) (w : World) (ha : StAt w a (mkS_ k n)) (h0 : 0 < k) (hk : k + n ≤ 100000000) :
    Calls Try.prog 8 #[.agg #[.int .i64 z, .slice a n cap], .int .i64 k] w fun e w' => e = .returned (.int .i64 ((k + n : Nat) : Int)) ∧ Below w.heap.size w w' := by
  have B0 := below_new w (.cells #[.int .i64 z, .slice a n cap] 24)
  have K := Hid.mk' (heldStringS_is a k n cap _ (ha.below B0) h0 hk)
  have HB := Hid.mk' B0
  clear ha B0
  go_enter Try.func8, Try.ntmps8
  go_wp2_with fail
  refine K.out.mono ?_
  rintro e w1 ⟨rfl, hb⟩
  have HB := Hid.mk' (HB.out.trans (hb.mono HB.out.size))
  clear hb K
  go_wp2
  go_ret
  exact ⟨rfl, HB.out⟩

theorem mk_at {w : World} {g k n : Nat} {f : Nat → Value} (h : w.rowIs g 9 n (fun j => if j < n then .string (mtS (k + j)) else f j)) : StAt w (some ⟨g, 0, none⟩) (mkS_ k n) := by
  refine .inr ⟨g, 0, rfl, h.lt, fun i hi => ?_⟩
  rw [mkS_len] at hi
  rw [Nat.zero_add, h.cell hi, mkS_get hi, if_pos hi]

theorem stK2 {w0 w w' : World} {a : Option Addr} {l : List ByteArray} {lo hi : Nat} (h0 : StAt w0 a l) (h : StAt w a l) (hk : KeptIn lo hi w w') (hd : w0.heap.size ≤ lo) : StAt w' a l := by
  rcases h0 with h0 | ⟨b, o, e, hs, _⟩
  · exact .inl h0
  · exact stK h hk (fun b' o' e' => by rw [e] at e'; cases e'; left; omega)
theorem mk_of (n : Nat) {w : World} {g k : Nat} {f : Nat → Value} (h : w.rowIs g 9 n (fun j => if j < n then .string (mtS (k + j)) else f j)) : StAt w (some ⟨g, 0, none⟩) (mkS_ k n) := mk_at h

set_option maxHeartbeats 1600000 in
/-- The law on WordsOf. -/
theorem lawWO_any (s : ByteArray) (w : World) (hm : (s.size : Int) ≤ 9223372036854775807) :
    Calls Try.prog 3 #[.string s] w fun e w' => e = .returned (.bool true) ∧ Below w.heap.size w w' := by
  by_cases hbig : (s.size : Int) > 1048576
  · go_enter Try.func3, Try.ntmps3
    go_wp2
    go_ret
    exact ⟨rfl, Below.refl _ _⟩
  have hs : s.size ≤ 1048576 := by omega
  have hn : ¬ (s.size : Int) > 1048576 := hbig
  have hlen := wordsL_len s
  generalize hN : (wordsL s).length = N at *
  have eN : wordsL s = wordsL s := rfl
  go_enter Try.func3, Try.ntmps3
  go_wp2_with fail
  refine (specWO_any s w hs).mono ?_
  rintro e w1 ⟨a1, c1, rfl, st1, hb1⟩
  rw [hN]
  have N1 := below_new w1 (.cells #[.int .i64 0, .slice a1 N c1] 24)
  have B := Hid.mk' (hb1.trans (N1.mono hb1.size))
  have R1 := Hid.mk' (st1.below N1)
  have X1 := Hid.mk' (rowQ2 w1 24 (.int .i64 0) (.slice a1 N c1))
  have S1 := Hid.mk' st1
  have LG : Hid (w1.heap.size < (w1.alloc (.cells #[.int .i64 0, .slice a1 N c1] 24)).heap.size ∧ w.heap.size ≤ w1.heap.size) := Hid.mk' ⟨by simp, hb1.size⟩
  clear st1 hb1 N1
  generalize hW : w1.alloc (.cells #[.int .i64 0, .slice a1 N c1] 24) = W1 at *
  go_wp2_with fail
  clear hW
  refine (implWO_any s W1 hs).mono ?_
  rintro e w2 ⟨g2, rfl, l2, r2, hb2⟩
  rw [hN] at r2
  rw [hN]
  have N2 := below_new w2 (.cells #[.int .i64 0, .slice (some ⟨g2, 0, none⟩) N N] 24)
  have M2 := hb2.trans (N2.mono hb2.size)
  have B := Hid.mk' (B.out.trans (M2.mono B.out.size))
  have R1 := Hid.mk' (R1.out.below M2)
  have X1 := Hid.mk' (rowB X1.out M2)
  have R2 := Hid.mk' (rowB r2 N2)
  have X2 := Hid.mk' (rowQ2 w2 24 (.int .i64 0) (.slice (some ⟨g2, 0, none⟩) N N))
  have L2 : Hid (W1.heap.size ≤ g2 ∧ g2 < w2.heap.size) := Hid.mk' ⟨l2, r2.lt⟩
  clear r2 hb2 N2 M2 l2
  generalize hW : w2.alloc (.cells #[.int .i64 0, .slice (some ⟨g2, 0, none⟩) N N] 24) = W2 at *
  obtain ⟨x0, x1, x2⟩ := cellsQ2 X1.out
  obtain ⟨y0, y1, y2⟩ := cellsQ2 X2.out
  go_wp2_with fail
  clear hW
  have EQ := Hid.mk' (eqWords_any 0 (wordsL s) (some ⟨g2, 0, none⟩) a1 N c1 W2 (.of_row (by rw [hN]; exact R2.out)) R1.out (by omega))
  rw [hN] at EQ
  refine EQ.out.mono ?_
  rintro e w3 ⟨rfl, hb⟩
  have B := Hid.mk' (B.out.trans (hb.mono B.out.size))
  have R1 := Hid.mk' (R1.out.below hb)
  have X1 := Hid.mk' (rowB X1.out hb)
  have R2 := Hid.mk' (rowB R2.out hb)
  have X2 := Hid.mk' (rowB X2.out hb)
  clear hb x0 x1 x2 y0 y1 y2 EQ
  obtain ⟨y0, y1, y2⟩ := cellsQ2 X2.out
  go_wp2_with fail
  have MK := Hid.mk' (markWords_is 0 g2 N 1 (wordsL s) (sv (wordsL s)) N w3 R2.out (by omega) (by decide) (by omega))
  rw [hN] at MK
  refine MK.out.mono ?_
  rintro e w4 ⟨rfl, r4, hk⟩
  have l2 := L2.out
  have lg := LG.out
  have B := Hid.mk' (B.out.trans (hk.below (by omega) B.out.size))
  have R1 := Hid.mk' (stK2 S1.out R1.out hk (by omega))
  have X1 := Hid.mk' (rowK X1.out hk (.inl (by omega)))
  have X2 := Hid.mk' (rowK X2.out hk (.inr (by omega)))
  have AT := Hid.mk' (mk_of N (k := 1) r4)
  clear hk r4 y0 y1 y2 l2 lg MK
  obtain ⟨y0, y1, y2⟩ := cellsQ2 X2.out
  go_wp2_with fail
  refine (heldWords_is 0 _ 1 N N w4 AT.out (by decide) (by omega)).mono ?_
  rintro e w5 ⟨rfl, hb⟩
  have B := Hid.mk' (B.out.trans (hb.mono B.out.size))
  have R1 := Hid.mk' (R1.out.below hb)
  have X1 := Hid.mk' (rowB X1.out hb)
  have X2 := Hid.mk' (rowB X2.out hb)
  have AT := Hid.mk' (AT.out.below hb)
  clear hb y0 y1 y2
  have nq : ¬ ((1 + N : Nat) : Int) < 0 := by omega
  go_wp2_with fail
  refine (implWO_any s w5 hs).mono ?_
  rintro e w6 ⟨g3, rfl, l3, r3, hb3⟩
  rw [hN] at r3
  rw [hN]
  have N3 := below_new w6 (.cells #[.int .i64 0, .slice (some ⟨g3, 0, none⟩) N N] 24)
  have M3 := hb3.trans (N3.mono hb3.size)
  have B := Hid.mk' (B.out.trans (M3.mono B.out.size))
  have R1 := Hid.mk' (R1.out.below M3)
  have X1 := Hid.mk' (rowB X1.out M3)
  have X2 := Hid.mk' (rowB X2.out M3)
  have AT := Hid.mk' (AT.out.below M3)
  have R3 := Hid.mk' (rowB r3 N3)
  have X3 := Hid.mk' (rowQ2 w6 24 (.int .i64 0) (.slice (some ⟨g3, 0, none⟩) N N))
  clear r3 hb3 N3 M3 l3
  generalize hW : w6.alloc (.cells #[.int .i64 0, .slice (some ⟨g3, 0, none⟩) N N] 24) = W3 at *
  obtain ⟨x0, x1, x2⟩ := cellsQ2 X1.out
  obtain ⟨y0, y1, y2⟩ := cellsQ2 X3.out
  go_wp2_with fail
  clear hW
  have EQ := Hid.mk' (eqWords_any 0 (wordsL s) (some ⟨g3, 0, none⟩) a1 N c1 W3 (.of_row (by rw [hN]; exact R3.out)) R1.out (by omega))
  rw [hN] at EQ
  refine EQ.out.mono ?_
  rintro e w7 ⟨rfl, hb⟩
  have B := Hid.mk' (B.out.trans (hb.mono B.out.size))
  have X2 := Hid.mk' (rowB X2.out hb)
  have AT := Hid.mk' (AT.out.below hb)
  clear hb x0 x1 x2 y0 y1 y2 EQ
  obtain ⟨y0, y1, y2⟩ := cellsQ2 X2.out
  go_wp2_with fail
  refine (heldWords_is 0 _ 1 N N w7 AT.out (by decide) (by omega)).mono ?_
  rintro e w8 ⟨rfl, hb⟩
  have B := Hid.mk' (B.out.trans (hb.mono B.out.size))
  clear hb y0 y1 y2
  go_wp2
  go_ret
  exact ⟨rfl, B.out⟩

end Go.Proofs.Ytaihlcfpkabonaa
