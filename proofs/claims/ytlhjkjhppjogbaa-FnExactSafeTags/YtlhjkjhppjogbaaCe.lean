/- SafeTags: both sides, and the law. -/
import Derived.Test.YtlhjkjhppjogbaaCd
import Derived.Test.YtlhjkjhppjogbaaCm
namespace Go.Proofs.Ytlhjkjhppjogbaa
open Go.RowKit
set_option linter.unusedVariables false
set_option linter.unusedSimpArgs false

/-- The i-th of two cells. -/
def q2 (x y : Value) (i : Nat) : Value := if i = 0 then x else y

/-- A box of two cells. -/
theorem rowQ2 (w : World) (t : TypeId) (x y : Value) : (w.alloc (.cells #[x, y] t)).rowIs w.heap.size t 2 (q2 x y) :=
  World.rowIs_alloc w #[x, y] t _ (fun i hi => by
    have h : i = 0 ∨ i = 1 := by simp at hi; omega
    rcases h with rfl | rfl <;> simp [q2])

theorem cellsQ2 {w : World} {g : Nat} {ty : TypeId} {x y : Value} (h : w.rowIs g ty 2 (q2 x y)) : w.cell? ⟨g, 0, none⟩ = some x ∧ w.cell? ⟨g, 1, none⟩ = some y ∧ g < w.heap.size :=
  ⟨h.cell (by omega), h.cell (by omega), h.lt⟩

theorem frzQ2 {w : World} {g : Nat} {T : TypeId} {f : Nat → Value} (h : w.rowIs g T 2 f) : w.frozen? ⟨g, 0, none⟩ = false ∧ w.frozen? ⟨g, 1, none⟩ = false := ⟨h.frozen 0, h.frozen 1⟩

theorem specST_any (w : World) : Calls Try.prog 12 #[] w fun e w' => ∃ g, e = .returned (.agg #[.int .i64 0, .slice (some ⟨g, 0, none⟩) 6 6]) ∧ w.heap.size ≤ g ∧ w'.rowIs g 9 6 (sv tagsL) ∧ Below w.heap.size w w' := by
  have HB := Hid.mk' (below_new w (.cells #[.int .i64 0, .slice none 0 0] 32))
  have HR := Hid.mk' (rowQ2 w 32 (.int .i64 0) (.slice none 0 0))
  generalize hW : w.alloc (.cells #[.int .i64 0, .slice none 0 0] 32) = W at *
  go_enter Try.func12, Try.ntmps12
  go_wp2_with fail
  clear hW
  refine (l8Tags_any W).mono ?_
  rintro e w1 ⟨rfl, hr, hb⟩
  obtain ⟨x0, x1, x2⟩ := cellsQ2 (rowB HR.out hb)
  obtain ⟨f0, f1⟩ := frzQ2 (rowB HR.out hb)
  have hz : w.heap.size < W.heap.size := HR.out.lt
  have RW := Hid.mk' hr
  have HB := Hid.mk' (HB.out.trans (hb.mono HB.out.size))
  have HZ := Hid.mk' hz
  clear hr hb hz
  go_wp2
  refine bodyPost_ret (v := .agg #[.int .i64 0, .slice (some ⟨W.heap.size, 0, none⟩) 6 6]) (by simp [results, Try.results12, go_sem, *]) rfl ?_
  have KK := ((KeptIn.refl w.heap.size (w.heap.size + 1) w1).setCell (p := ⟨w.heap.size, 0, none⟩) (by simp) (by simp) (.int .i64 0)).setCell (p := ⟨w.heap.size, 1, none⟩) (by simp) (by simp) (.slice (some ⟨W.heap.size, 0, none⟩) 6 6)
  exact ⟨_, rfl, by have := HZ.out; omega, rowK RW.out KK (.inr (by have := HZ.out; omega)), HB.out.trans (KK.below (Nat.le_refl _) HB.out.size)⟩

theorem implST_any (w : World) : Calls Try.prog 13 #[] w fun e w' => ∃ g, e = .returned (.agg #[.int .i64 0, .slice (some ⟨g, 0, none⟩) 6 6]) ∧ w.heap.size ≤ g ∧ w'.rowIs g 9 6 (sv tagsL) ∧ Below w.heap.size w w' := by
  have HB := Hid.mk' (below_new w (.cells #[.int .i64 0, .slice none 0 0] 32))
  have HR := Hid.mk' (rowQ2 w 32 (.int .i64 0) (.slice none 0 0))
  generalize hW : w.alloc (.cells #[.int .i64 0, .slice none 0 0] 32) = W at *
  go_enter Try.func13, Try.ntmps13
  go_wp2_with fail
  clear hW
  refine (safeTags_any W).mono ?_
  rintro e w1 ⟨rfl, hr, hb⟩
  obtain ⟨x0, x1, x2⟩ := cellsQ2 (rowB HR.out hb)
  obtain ⟨f0, f1⟩ := frzQ2 (rowB HR.out hb)
  have hz : w.heap.size < W.heap.size := HR.out.lt
  have RW := Hid.mk' hr
  have HB := Hid.mk' (HB.out.trans (hb.mono HB.out.size))
  have HZ := Hid.mk' hz
  clear hr hb hz
  go_wp2
  refine bodyPost_ret (v := .agg #[.int .i64 0, .slice (some ⟨W.heap.size, 0, none⟩) 6 6]) (by simp [results, Try.results13, go_sem, *]) rfl ?_
  have KK := ((KeptIn.refl w.heap.size (w.heap.size + 1) w1).setCell (p := ⟨w.heap.size, 0, none⟩) (by simp) (by simp) (.int .i64 0)).setCell (p := ⟨w.heap.size, 1, none⟩) (by simp) (by simp) (.slice (some ⟨W.heap.size, 0, none⟩) 6 6)
  exact ⟨_, rfl, by have := HZ.out; omega, rowK RW.out KK (.inr (by have := HZ.out; omega)), HB.out.trans (KK.below (Nat.le_refl _) HB.out.size)⟩

theorem eqWords_any (z : Int) (l : List ByteArray) (a b : Option Addr) (c d : Nat) (w : World) (ha : StAt w a l) (hb : StAt w b l) (hl : (l.length : Int) ≤ 1048576) :
    Calls Try.prog 14 #[.agg #[.int .i64 z, .slice a l.length c], .agg #[.int .i64 z, .slice b l.length d]] w fun e w' => e = .returned (.bool true) ∧ Below w.heap.size w w' := by
  have B0 := ((Below.refl w.heap.size w).alloc (Nat.le_refl _) (.cells #[.int .i64 z, .slice a l.length c] 32)).alloc (by simp) (.cells #[.int .i64 z, .slice b l.length d] 32)
  have K := Hid.mk' (eqStringS_any a b c d l _ (ha.below B0) (hb.below B0) hl)
  have HB := Hid.mk' B0
  clear ha hb B0
  go_enter Try.func14, Try.ntmps14
  go_wp2_with fail
  refine K.out.mono ?_
  rintro e w1 ⟨rfl, hb⟩
  have HB := Hid.mk' (HB.out.trans (hb.mono HB.out.size))
  clear hb K
  go_wp2
  go_ret
  exact ⟨rfl, HB.out⟩

theorem markWords_is (z : Int) (g cn k : Nat) (l : List ByteArray) (f : Nat → Value) (cap : Nat) (w : World) (hr : w.rowIs g 9 cn f) (hle : l.length ≤ cn) (h0 : 0 < k) (hk : k + l.length ≤ 100000000) :
    Calls Try.prog 15 #[.agg #[.int .i64 z, .slice (some ⟨g, 0, none⟩) l.length cap], .int .i64 k] w fun e w' => e = .returned (.int .i64 ((k + l.length : Nat) : Int)) ∧ w'.rowIs g 9 cn (fun j => if j < l.length then .string (mtS (k + j)) else f j) ∧ KeptIn g (g + 1) w w' := by
  have B0 := below_new w (.cells #[.int .i64 z, .slice (some ⟨g, 0, none⟩) l.length cap] 32)
  have K := Hid.mk' (markStringS_is g cn k l f cap _ (rowB hr B0) hle h0 hk)
  have HB := Hid.mk' (KeptIn.of_below (lo := g) (hi := g + 1) B0)
  clear hr B0
  go_enter Try.func15, Try.ntmps15
  go_wp2_with fail
  refine K.out.mono ?_
  rintro e w1 ⟨rfl, hr, hk⟩
  have R := Hid.mk' hr
  have HK := Hid.mk' (HB.out.trans hk)
  clear hr hk K
  go_wp2
  go_ret
  exact ⟨rfl, R.out, HK.out⟩

theorem heldWords_is (z : Int) (a : Option Addr) (k n cap : Nat) (w : World) (ha : StAt w a (mkS_ k n)) (h0 : 0 < k) (hk : k + n ≤ 100000000) :
    Calls Try.prog 16 #[.agg #[.int .i64 z, .slice a n cap], .int .i64 k] w fun e w' => e = .returned (.int .i64 ((k + n : Nat) : Int)) ∧ Below w.heap.size w w' := by
  have B0 := below_new w (.cells #[.int .i64 z, .slice a n cap] 32)
  have K := Hid.mk' (heldStringS_is a k n cap _ (ha.below B0) h0 hk)
  have HB := Hid.mk' B0
  clear ha B0
  go_enter Try.func16, Try.ntmps16
  go_wp2_with fail
  refine K.out.mono ?_
  rintro e w1 ⟨rfl, hb⟩
  have HB := Hid.mk' (HB.out.trans (hb.mono HB.out.size))
  clear hb K
  go_wp2
  go_ret
  exact ⟨rfl, HB.out⟩

theorem mk_at {w : World} {g k n : Nat} {f : Nat → Value} (h : w.rowIs g 9 n (fun j => if j < n then .string (mtS (k + j)) else f j)) : StAt w (some ⟨g, 0, none⟩) (mkS_ k n) := by
  refine .inr ⟨g, 0, rfl, h.lt, fun i hi => ?_⟩
  rw [mkS_len] at hi
  rw [Nat.zero_add, h.cell hi, mkS_get hi, if_pos hi]

set_option maxHeartbeats 1600000 in
/-- The law on SafeTags. -/
theorem lawST_any (w : World) :
    Calls Try.prog 4 #[] w fun e w' => e = .returned (.bool true) ∧ Below w.heap.size w w' := by
  go_enter Try.func4, Try.ntmps4
  go_wp2_with fail
  refine (specST_any w).mono ?_
  rintro e w1 ⟨g1, rfl, l1, r1, hb1⟩
  have N1 := below_new w1 (.cells #[.int .i64 0, .slice (some ⟨g1, 0, none⟩) 6 6] 32)
  have B := Hid.mk' (hb1.trans (N1.mono hb1.size))
  have R1 := Hid.mk' (rowB r1 N1)
  have X1 := Hid.mk' (rowQ2 w1 32 (.int .i64 0) (.slice (some ⟨g1, 0, none⟩) 6 6))
  have LG : Hid (g1 < w1.heap.size ∧ w1.heap.size < (w1.alloc (.cells #[.int .i64 0, .slice (some ⟨g1, 0, none⟩) 6 6] 32)).heap.size ∧ w.heap.size ≤ w1.heap.size) := Hid.mk' ⟨r1.lt, by simp, hb1.size⟩
  clear r1 hb1 N1 l1
  generalize hW : w1.alloc (.cells #[.int .i64 0, .slice (some ⟨g1, 0, none⟩) 6 6] 32) = W1 at *
  go_wp2_with fail
  clear hW
  refine (implST_any W1).mono ?_
  rintro e w2 ⟨g2, rfl, l2, r2, hb2⟩
  have N2 := below_new w2 (.cells #[.int .i64 0, .slice (some ⟨g2, 0, none⟩) 6 6] 32)
  have M2 := hb2.trans (N2.mono hb2.size)
  have B := Hid.mk' (B.out.trans (M2.mono B.out.size))
  have R1 := Hid.mk' (rowB R1.out M2)
  have X1 := Hid.mk' (rowB X1.out M2)
  have R2 := Hid.mk' (rowB r2 N2)
  have X2 := Hid.mk' (rowQ2 w2 32 (.int .i64 0) (.slice (some ⟨g2, 0, none⟩) 6 6))
  have L2 : Hid (W1.heap.size ≤ g2 ∧ g2 < w2.heap.size) := Hid.mk' ⟨l2, r2.lt⟩
  clear r2 hb2 N2 M2 l2
  generalize hW : w2.alloc (.cells #[.int .i64 0, .slice (some ⟨g2, 0, none⟩) 6 6] 32) = W2 at *
  obtain ⟨x0, x1, x2⟩ := cellsQ2 X1.out
  obtain ⟨y0, y1, y2⟩ := cellsQ2 X2.out
  go_wp2_with fail
  clear hW
  refine (eqWords_any 0 tagsL _ _ _ _ W2 (.of_row R2.out) (.of_row R1.out) (by decide)).mono ?_
  rintro e w3 ⟨rfl, hb⟩
  have B := Hid.mk' (B.out.trans (hb.mono B.out.size))
  have R1 := Hid.mk' (rowB R1.out hb)
  have X1 := Hid.mk' (rowB X1.out hb)
  have R2 := Hid.mk' (rowB R2.out hb)
  have X2 := Hid.mk' (rowB X2.out hb)
  clear hb x0 x1 x2 y0 y1 y2
  obtain ⟨y0, y1, y2⟩ := cellsQ2 X2.out
  go_wp2_with fail
  refine (markWords_is 0 g2 6 1 tagsL (sv tagsL) 6 w3 R2.out (by decide) (by decide) (by decide)).mono ?_
  rintro e w4 ⟨rfl, r4, hk⟩
  have l2 := L2.out
  have lg := LG.out
  have B := Hid.mk' (B.out.trans (hk.below (by omega) B.out.size))
  have R1 := Hid.mk' (rowK R1.out hk (.inl (by omega)))
  have X1 := Hid.mk' (rowK X1.out hk (.inl (by omega)))
  have X2 := Hid.mk' (rowK X2.out hk (.inr (by omega)))
  have AT := Hid.mk' (mk_at (k := 1) (n := 6) r4)
  clear hk r4 y0 y1 y2 l2 lg
  obtain ⟨y0, y1, y2⟩ := cellsQ2 X2.out
  have e7 : ((1 + tagsL.length : Nat) : Int) = 7 := by decide
  rw [e7]
  clear e7
  go_wp2_with fail
  refine (heldWords_is 0 _ 1 6 6 w4 AT.out (by decide) (by decide)).mono ?_
  rintro e w5 ⟨rfl, hb⟩
  have B := Hid.mk' (B.out.trans (hb.mono B.out.size))
  have R1 := Hid.mk' (rowB R1.out hb)
  have X1 := Hid.mk' (rowB X1.out hb)
  have X2 := Hid.mk' (rowB X2.out hb)
  have AT := Hid.mk' (AT.out.below hb)
  clear hb y0 y1 y2
  rw [show ((1 + 6 : Nat) : Int) = 7 by decide]
  go_wp2_with fail
  refine (implST_any w5).mono ?_
  rintro e w6 ⟨g3, rfl, l3, r3, hb3⟩
  have N3 := below_new w6 (.cells #[.int .i64 0, .slice (some ⟨g3, 0, none⟩) 6 6] 32)
  have M3 := hb3.trans (N3.mono hb3.size)
  have B := Hid.mk' (B.out.trans (M3.mono B.out.size))
  have R1 := Hid.mk' (rowB R1.out M3)
  have X1 := Hid.mk' (rowB X1.out M3)
  have X2 := Hid.mk' (rowB X2.out M3)
  have AT := Hid.mk' (AT.out.below M3)
  have R3 := Hid.mk' (rowB r3 N3)
  have X3 := Hid.mk' (rowQ2 w6 32 (.int .i64 0) (.slice (some ⟨g3, 0, none⟩) 6 6))
  clear r3 hb3 N3 M3 l3
  generalize hW : w6.alloc (.cells #[.int .i64 0, .slice (some ⟨g3, 0, none⟩) 6 6] 32) = W3 at *
  obtain ⟨x0, x1, x2⟩ := cellsQ2 X1.out
  obtain ⟨y0, y1, y2⟩ := cellsQ2 X3.out
  go_wp2_with fail
  clear hW
  refine (eqWords_any 0 tagsL _ _ _ _ W3 (.of_row R3.out) (.of_row R1.out) (by decide)).mono ?_
  rintro e w7 ⟨rfl, hb⟩
  have B := Hid.mk' (B.out.trans (hb.mono B.out.size))
  have X2 := Hid.mk' (rowB X2.out hb)
  have AT := Hid.mk' (AT.out.below hb)
  clear hb x0 x1 x2 y0 y1 y2
  obtain ⟨y0, y1, y2⟩ := cellsQ2 X2.out
  go_wp2_with fail
  refine (heldWords_is 0 _ 1 6 6 w7 AT.out (by decide) (by decide)).mono ?_
  rintro e w8 ⟨rfl, hb⟩
  have B := Hid.mk' (B.out.trans (hb.mono B.out.size))
  clear hb y0 y1 y2
  rw [show ((1 + 6 : Nat) : Int) = 7 by decide]
  go_wp2
  go_ret
  exact ⟨rfl, B.out⟩

end Go.Proofs.Ytlhjkjhppjogbaa
