/- Walks: DeleteText, both sides. -/
import Derived.Test.YtahkneghmgmnbaaWq
import Derived.Test.YtahkneghmgmnbaaWp
namespace Go.Proofs.Ytahkneghmgmnbaa
open Go.RowKit
set_option linter.unusedVariables false

/-- The pieces that stay when n are taken out from a place on. -/
def delPcs (l : List PC) (x n : Int) : List PC := partA l x ++ partB (partB l x) n
/-- Is there so much to take out? -/
def delIn (t : TB) (x n : Int) : Bool := decide (0 ≤ x) && decide (x ≤ total t.pcs) && decide (0 ≤ n) && decide (n ≤ total t.pcs - x)
def delCode (t : TB) (x n : Int) : Int := if fault t = 0 then (if delIn t x n = true then (if n = 0 then 0 else if 40 < (delPcs t.pcs x n).length then 2 else 0) else 3) else fault t
def delT (t : TB) (x n : Int) : TB := if fault t = 0 then (if delIn t x n = true then (if n = 0 then t else if 40 < (delPcs t.pcs x n).length then ⟨[], [], []⟩ else ⟨t.base, t.more, delPcs t.pcs x n⟩) else ⟨[], [], []⟩) else ⟨[], [], []⟩

theorem delPcs_len (l : List PC) (x n : Int) : (delPcs l x n).length ≤ 2 * l.length := by
  unfold delPcs
  have h1 := partA_len l x
  have h2 := partB_len l x
  have h3 := partB_len (partB l x) n
  rw [List.length_append]; omega

theorem delT_len (t : TB) (x n : Int) (hl : (t.base.length : Int) + t.more.length + t.pcs.length ≤ 1048576) : ((delT t x n).base.length : Int) + (delT t x n).more.length + (delT t x n).pcs.length ≤ 1048576 ∧ (cnt (delT t x n) : Int) ≤ 10000000 := by
  unfold delT
  split
  · rename_i h
    obtain ⟨h1, h2, h3, _, _⟩ := fault_zero h
    split
    · split
      · unfold cnt; omega
      · split
        · simp [cnt]
        · have := delPcs_len t.pcs x n
          unfold cnt; simp only; omega
    · simp [cnt]
  · simp [cnt]

set_option maxHeartbeats 400000 in
theorem specDel_bad (v : Value) (t : TB) (x n : Int) (w : World) (ht : TAt w v t) (b1 : -9223372036854775808 ≤ x) (b2 : x ≤ 9223372036854775807) (b3 : -9223372036854775808 ≤ n) (b4 : n ≤ 9223372036854775807) (hl : (t.base.length : Int) + t.more.length + t.pcs.length ≤ 1048576) (hz : ¬ fault t = 0) :
    Calls Try.prog 23 #[v, .int .i64 x, .int .i64 n] w fun e w' => e = .returned (.agg #[.int .i64 (fault t), .slice none 0 0, .slice none 0 0, .slice none 0 0]) ∧ Below w.heap.size w w' := by
  obtain ⟨a1, a2, a3, c1, c2, c3, rfl, h1, h2, h3⟩ := ht
  have B0 := ((Below.refl w.heap.size w).alloc (Nat.le_refl _) (.cells #[.slice a1 t.base.length c1, .slice a2 t.more.length c2, .slice a3 t.pcs.length c3] 26)).alloc (by simp) (.cells #[.int .i64 0, .slice none 0 0, .slice none 0 0, .slice none 0 0] 30)
  have R0 := (row3 w 26 (.slice a1 t.base.length c1) (.slice a2 t.more.length c2) (.slice a3 t.pcs.length c3)).alloc (.cells #[.int .i64 0, .slice none 0 0, .slice none 0 0, .slice none 0 0] 30)
  have K := l1Fault_any w.heap.size a1 a2 a3 c1 c2 c3 t _ (R0.cell (by omega)) (R0.cell (by omega)) (R0.cell (by omega)) R0.lt (h3.below B0) hl
  have hb : (fault t != 0) = true := by rw [bne_iff_ne]; exact hz
  have KK := Hid.mk' K
  have BB := Hid.mk' B0
  clear K hz h1 h2 h3 B0 R0
  go_enter Try.func23, Try.ntmps23
  go_wp2_with fail
  refine KK.out.mono ?_
  rintro e w1 ⟨rfl, hb1⟩
  have B1 := Hid.mk' (BB.out.trans (hb1.mono BB.out.size))
  obtain ⟨hc1, hf1⟩ := bcell hb1
  simp at hc1 hf1
  have y := hb1.size
  simp at y
  have y' : w.heap.size + 1 < w1.heap.size := by omega
  clear KK BB hb1
  go_wp2_with fail
  refine (l1Bad_any (fault t) w1).mono ?_
  rintro e w2 ⟨rfl, hb2⟩
  have B2 := Hid.mk' (B1.out.trans (hb2.mono B1.out.size))
  obtain ⟨hc2, hf2⟩ := bcell hb2
  have y2 := hb2.size
  clear hb2 B1
  go_wp2
  refine bodyPost_ret (v := .agg #[.int .i64 (fault t), .slice none 0 0, .slice none 0 0, .slice none 0 0]) (by simp [results, Try.results23, go_sem, *]) rfl ?_
  have hk := kept4 w2 (w.heap.size + 1) 0 1 2 3 (.int .i64 (fault t)) (.slice none 0 0) (.slice none 0 0) (.slice none 0 0)
  exact ⟨rfl, B2.out.trans (hk.below (by omega) (by omega))⟩

set_option maxHeartbeats 800000 in
theorem specDel_range (v : Value) (t : TB) (x n : Int) (w : World) (ht : TAt w v t) (b1 : -9223372036854775808 ≤ x) (b2 : x ≤ 9223372036854775807) (b3 : -9223372036854775808 ≤ n) (b4 : n ≤ 9223372036854775807) (hl : (t.base.length : Int) + t.more.length + t.pcs.length ≤ 1048576) (hz : fault t = 0) (hr : delIn t x n = false) :
    Calls Try.prog 23 #[v, .int .i64 x, .int .i64 n] w fun e w' => e = .returned (.agg #[.int .i64 3, .slice none 0 0, .slice none 0 0, .slice none 0 0]) ∧ Below w.heap.size w w' := by
  obtain ⟨a1, a2, a3, c1, c2, c3, rfl, h1, h2, h3⟩ := ht
  have B0 := ((Below.refl w.heap.size w).alloc (Nat.le_refl _) (.cells #[.slice a1 t.base.length c1, .slice a2 t.more.length c2, .slice a3 t.pcs.length c3] 26)).alloc (by simp) (.cells #[.int .i64 0, .slice none 0 0, .slice none 0 0, .slice none 0 0] 30)
  have R0 := (row3 w 26 (.slice a1 t.base.length c1) (.slice a2 t.more.length c2) (.slice a3 t.pcs.length c3)).alloc (.cells #[.int .i64 0, .slice none 0 0, .slice none 0 0, .slice none 0 0] 30)
  have K := l1Fault_any w.heap.size a1 a2 a3 c1 c2 c3 t _ (R0.cell (by omega)) (R0.cell (by omega)) (R0.cell (by omega)) R0.lt (h3.below B0) hl
  have H3 := Hid.mk' (h3.below B0)
  have S := Hid.mk' (fault_small hz)
  have tt := S.out.total_le t.pcs.length (Nat.le_refl _)
  rw [List.take_length] at tt
  have tl : total t.pcs ≤ 240 := (fault_zero hz).2.2.2.2
  rw [hz] at K
  have KK := Hid.mk' K
  have BB := Hid.mk' B0
  have RR := Hid.mk' R0
  clear K hz h1 h2 h3 B0 R0
  go_enter Try.func23, Try.ntmps23
  go_wp2_with fail
  refine KK.out.mono ?_
  rintro e w1 ⟨rfl, hb1⟩
  have R1 := RR.out.of_block (hb1.block _ RR.out.lt)
  have K2 := l1Size_any w.heap.size a3 c3 t.pcs w1 (R1.cell (by omega)) (H3.out.below hb1) S.out
  have B1 := Hid.mk' (BB.out.trans (hb1.mono BB.out.size))
  obtain ⟨hc1, hf1⟩ := bcell hb1
  simp at hc1 hf1
  have KK2 := Hid.mk' K2
  have y := hb1.size
  simp at y
  have y' : w.heap.size + 1 < w1.heap.size := by omega
  clear KK BB RR R1 K2 hb1 H3 S
  go_wp2_with fail
  refine KK2.out.mono ?_
  rintro e w2 ⟨rfl, rfl⟩
  clear KK2
  have hfin : ∀ W : World, W = w2 → Calls Try.prog 49 #[.int .i64 3] W fun e w' => e = .returned (.agg #[.int .i64 3, .slice none 0 0, .slice none 0 0, .slice none 0 0]) ∧ Below w2.heap.size w2 w' := fun W e => by subst e; exact l1Bad_any 3 _
  by_cases d1 : 0 ≤ x ∧ x ≤ total t.pcs
  · have d2 : ¬ (0 ≤ n ∧ n ≤ total t.pcs - x) := by
      intro h; simp [delIn, d1, h] at hr
    have e1 : (decide (0 ≤ x) && decide (x ≤ total t.pcs)) = true := by simp [d1]
    have e2 : (decide (0 ≤ n) && decide (n ≤ total t.pcs - x)) = false := by
      cases h : (decide (0 ≤ n) && decide (n ≤ total t.pcs - x)) with
      | false => rfl
      | true => exact absurd (by simpa using h) d2
    obtain ⟨d3, d4⟩ := d1
    have F1 := Hid.mk' (l1In_any x 0 (total t.pcs) w2)
    have F2 := Hid.mk' (l1In_any n 0 (total t.pcs - x) w2)
    rw [e1] at F1
    rw [e2] at F2
    clear hr d2 e1 e2
    go_wp2_with fail
    refine F1.out.mono ?_
    rintro e w3 ⟨rfl, rfl⟩
    go_wp2_with fail
    refine F2.out.mono ?_
    rintro e w4 ⟨rfl, rfl⟩
    clear F1 F2
    go_wp2_with fail
    refine (hfin _ rfl).mono ?_
    rintro e w2' ⟨rfl, hb2⟩
    have B2 := Hid.mk' (B1.out.trans (hb2.mono B1.out.size))
    obtain ⟨hc2, hf2⟩ := bcell hb2
    have y2 := hb2.size
    clear hb2 B1 hfin
    go_wp2
    refine bodyPost_ret (v := .agg #[.int .i64 3, .slice none 0 0, .slice none 0 0, .slice none 0 0]) (by simp [results, Try.results23, go_sem, *]) rfl ?_
    have hk := kept4 w2' (w.heap.size + 1) 0 1 2 3 (.int .i64 3) (.slice none 0 0) (.slice none 0 0) (.slice none 0 0)
    exact ⟨rfl, B2.out.trans (hk.below (by omega) (by omega))⟩
  · have e1 : (decide (0 ≤ x) && decide (x ≤ total t.pcs)) = false := by
      cases h : (decide (0 ≤ x) && decide (x ≤ total t.pcs)) with
      | false => rfl
      | true => exact absurd (by simpa using h) d1
    have F1 := Hid.mk' (l1In_any x 0 (total t.pcs) w2)
    rw [e1] at F1
    clear hr d1 e1
    go_wp2_with fail
    refine F1.out.mono ?_
    rintro e w3 ⟨rfl, rfl⟩
    clear F1
    go_wp2_with fail
    refine (hfin _ rfl).mono ?_
    rintro e w2' ⟨rfl, hb2⟩
    have B2 := Hid.mk' (B1.out.trans (hb2.mono B1.out.size))
    obtain ⟨hc2, hf2⟩ := bcell hb2
    have y2 := hb2.size
    clear hb2 B1 hfin
    go_wp2
    refine bodyPost_ret (v := .agg #[.int .i64 3, .slice none 0 0, .slice none 0 0, .slice none 0 0]) (by simp [results, Try.results23, go_sem, *]) rfl ?_
    have hk := kept4 w2' (w.heap.size + 1) 0 1 2 3 (.int .i64 3) (.slice none 0 0) (.slice none 0 0) (.slice none 0 0)
    exact ⟨rfl, B2.out.trans (hk.below (by omega) (by omega))⟩

set_option maxHeartbeats 800000 in
theorem specDel_copy (v : Value) (t : TB) (x n : Int) (w : World) (ht : TAt w v t) (b1 : -9223372036854775808 ≤ x) (b2 : x ≤ 9223372036854775807) (b3 : -9223372036854775808 ≤ n) (b4 : n ≤ 9223372036854775807) (hl : (t.base.length : Int) + t.more.length + t.pcs.length ≤ 1048576) (hz : fault t = 0) (hr : delIn t x n = true) (hn : n = 0) :
    Calls Try.prog 23 #[v, .int .i64 x, .int .i64 n] w fun e w' => ∃ s1 s2 s3, e = .returned (.agg #[.int .i64 0, s1, s2, s3]) ∧ OT w.heap.size w'.heap.size w' s1 s2 s3 t ∧ Below w.heap.size w w' := by
  subst hn
  obtain ⟨a1, a2, a3, c1, c2, c3, rfl, h1, h2, h3⟩ := ht
  have B0 := ((Below.refl w.heap.size w).alloc (Nat.le_refl _) (.cells #[.slice a1 t.base.length c1, .slice a2 t.more.length c2, .slice a3 t.pcs.length c3] 26)).alloc (by simp) (.cells #[.int .i64 0, .slice none 0 0, .slice none 0 0, .slice none 0 0] 30)
  have R0 := (row3 w 26 (.slice a1 t.base.length c1) (.slice a2 t.more.length c2) (.slice a3 t.pcs.length c3)).alloc (.cells #[.int .i64 0, .slice none 0 0, .slice none 0 0, .slice none 0 0] 30)
  have K := l1Fault_any w.heap.size a1 a2 a3 c1 c2 c3 t _ (R0.cell (by omega)) (R0.cell (by omega)) (R0.cell (by omega)) R0.lt (h3.below B0) hl
  have H3 := Hid.mk' (h3.below B0)
  have H1 := Hid.mk' (h1.below B0)
  have H2 := Hid.mk' (h2.below B0)
  have S := Hid.mk' (fault_small hz)
  have tt := S.out.total_le t.pcs.length (Nat.le_refl _)
  rw [List.take_length] at tt
  have tl : total t.pcs ≤ 240 := (fault_zero hz).2.2.2.2
  rw [hz] at K
  have KK := Hid.mk' K
  have BB := Hid.mk' B0
  have RR := Hid.mk' R0
  clear K hz h1 h2 h3 B0 R0
  go_enter Try.func23, Try.ntmps23
  go_wp2_with fail
  refine KK.out.mono ?_
  rintro e w1 ⟨rfl, hb1⟩
  have R1 := RR.out.of_block (hb1.block _ RR.out.lt)
  have K2 := l1Size_any w.heap.size a3 c3 t.pcs w1 (R1.cell (by omega)) (H3.out.below hb1) S.out
  have RR1 := Hid.mk' R1
  have T1 : Hid (TAt w1 (.agg #[.slice a1 t.base.length c1, .slice a2 t.more.length c2, .slice a3 t.pcs.length c3]) t) := ⟨_, _, _, _, _, _, rfl, H1.out.below hb1, H2.out.below hb1, H3.out.below hb1⟩
  have B1 := Hid.mk' (BB.out.trans (hb1.mono BB.out.size))
  obtain ⟨hc1, hf1⟩ := bcell hb1
  simp at hc1 hf1
  have KK2 := Hid.mk' K2
  have y := hb1.size
  simp at y
  have y' : w.heap.size + 1 < w1.heap.size := by omega
  clear KK BB RR R1 K2 hb1 H1 H2 H3 S
  go_wp2_with fail
  refine KK2.out.mono ?_
  rintro e w2 ⟨rfl, rfl⟩
  clear KK2
  have d : (0 ≤ x ∧ x ≤ total t.pcs) ∧ ((0 : Int) ≤ 0 ∧ 0 ≤ total t.pcs - x) := by
    unfold delIn at hr; simp at hr; omega
  obtain ⟨⟨d1, d2⟩, d3, d4⟩ := d
  have F1 := Hid.mk' (l1In_any x 0 (total t.pcs) w2)
  have F2 := Hid.mk' (l1In_any 0 0 (total t.pcs - x) w2)
  rw [show (decide (0 ≤ x) && decide (x ≤ total t.pcs)) = true from by simp [d1, d2]] at F1
  rw [show (decide ((0 : Int) ≤ 0) && decide (0 ≤ total t.pcs - x)) = true from by simp; omega] at F2
  obtain ⟨x0, x1, x2, x3⟩ := cells3 RR1.out
  clear hr
  go_wp2_with fail
  refine F1.out.mono ?_
  rintro e w3 ⟨rfl, rfl⟩
  go_wp2_with fail
  refine F2.out.mono ?_
  rintro e w4 ⟨rfl, rfl⟩
  clear F1 F2
  go_wp2_with fail
  refine (specCopy_any _ t _ T1.out hl).mono ?_
  rintro e w5 ⟨s1, s2, s3, rfl, ot5, hb5⟩
  have O5 := Hid.mk' ot5
  obtain ⟨p1, q1, p2, q2, p3, q3, rfl, rfl, rfl⟩ := ot5.forms
  have B5 := Hid.mk' (B1.out.trans (hb5.mono B1.out.size))
  obtain ⟨hc5, hf5⟩ := bcell hb5
  have y5 := hb5.size
  have y5' : w.heap.size + 1 < w5.heap.size := by omega
  clear hb5 ot5 B1 T1 RR1
  go_wp2
  refine bodyPost_ret (v := .agg #[.int .i64 0, .slice p1 t.base.length q1, .slice p2 t.more.length q2, .slice p3 t.pcs.length q3]) (by simp [results, Try.results23, go_sem, *]) rfl ?_
  have hk := (kept4 w5 (w.heap.size + 1) 0 1 2 3 (.int .i64 0) (.slice p1 t.base.length q1) (.slice p2 t.more.length q2) (.slice p3 t.pcs.length q3)).alloc (.cells #[.slice p1 t.base.length q1, .slice p2 t.more.length q2, .slice p3 t.pcs.length q3] 26)
  exact ⟨_, _, _, rfl, (O5.out.kept hk (.inr (by omega))).mono (by omega) hk.size, B5.out.trans (hk.below (by omega) (by omega))⟩

set_option maxHeartbeats 800000 in
theorem specDel_cut (v : Value) (t : TB) (x n : Int) (w : World) (ht : TAt w v t) (b1 : -9223372036854775808 ≤ x) (b2 : x ≤ 9223372036854775807) (b3 : -9223372036854775808 ≤ n) (b4 : n ≤ 9223372036854775807) (hl : (t.base.length : Int) + t.more.length + t.pcs.length ≤ 1048576) (hz : fault t = 0) (hr : delIn t x n = true) (hn : ¬ n = 0) :
    Calls Try.prog 23 #[v, .int .i64 x, .int .i64 n] w fun e w' => ∃ s1 s2 s3, e = .returned (.agg #[.int .i64 (if 40 < (delPcs t.pcs x n).length then 2 else 0), s1, s2, s3]) ∧ OT w.heap.size w'.heap.size w' s1 s2 s3 (if 40 < (delPcs t.pcs x n).length then ⟨[], [], []⟩ else ⟨t.base, t.more, delPcs t.pcs x n⟩) ∧ Below w.heap.size w w' := by
  obtain ⟨a1, a2, a3, c1, c2, c3, rfl, h1, h2, h3⟩ := ht
  have B0 := ((Below.refl w.heap.size w).alloc (Nat.le_refl _) (.cells #[.slice a1 t.base.length c1, .slice a2 t.more.length c2, .slice a3 t.pcs.length c3] 26)).alloc (by simp) (.cells #[.int .i64 0, .slice none 0 0, .slice none 0 0, .slice none 0 0] 30)
  have R0 := (row3 w 26 (.slice a1 t.base.length c1) (.slice a2 t.more.length c2) (.slice a3 t.pcs.length c3)).alloc (.cells #[.int .i64 0, .slice none 0 0, .slice none 0 0, .slice none 0 0] 30)
  have K := l1Fault_any w.heap.size a1 a2 a3 c1 c2 c3 t _ (R0.cell (by omega)) (R0.cell (by omega)) (R0.cell (by omega)) R0.lt (h3.below B0) hl
  have H3 := Hid.mk' (h3.below B0)
  have H1 := Hid.mk' (h1.below B0)
  have H2 := Hid.mk' (h2.below B0)
  have S := Hid.mk' (fault_small hz)
  have TM := Hid.mk' (tame_of_fault hz)
  have TM2 := Hid.mk' (tame_partB hz x)
  have tt := S.out.total_le t.pcs.length (Nat.le_refl _)
  rw [List.take_length] at tt
  have tl : total t.pcs ≤ 240 := (fault_zero hz).2.2.2.2
  rw [hz] at K
  have KK := Hid.mk' K
  have BB := Hid.mk' B0
  have RR := Hid.mk' R0
  clear K hz h1 h2 h3 B0 R0
  go_enter Try.func23, Try.ntmps23
  go_wp2_with fail
  refine KK.out.mono ?_
  rintro e w1 ⟨rfl, hb1⟩
  have R1 := RR.out.of_block (hb1.block _ RR.out.lt)
  have K2 := l1Size_any w.heap.size a3 c3 t.pcs w1 (R1.cell (by omega)) (H3.out.below hb1) S.out
  have RR1 := Hid.mk' R1
  have H3' := Hid.mk' (H3.out.below hb1)
  have T1 : Hid (TAt w1 (.agg #[.slice a1 t.base.length c1, .slice a2 t.more.length c2, .slice a3 t.pcs.length c3]) t) := ⟨_, _, _, _, _, _, rfl, H1.out.below hb1, H2.out.below hb1, H3.out.below hb1⟩
  have B1 := Hid.mk' (BB.out.trans (hb1.mono BB.out.size))
  obtain ⟨hc1, hf1⟩ := bcell hb1
  simp at hc1 hf1
  have KK2 := Hid.mk' K2
  have y := hb1.size
  simp at y
  have y' : w.heap.size + 1 < w1.heap.size := by omega
  clear KK BB RR R1 K2 hb1 H1 H2 H3 S
  go_wp2_with fail
  refine KK2.out.mono ?_
  rintro e w2 ⟨rfl, rfl⟩
  clear KK2
  have d : (0 ≤ x ∧ x ≤ total t.pcs) ∧ (0 ≤ n ∧ n ≤ total t.pcs - x) := by
    unfold delIn at hr; simp at hr; omega
  obtain ⟨⟨d1, d2⟩, d3, d4⟩ := d
  have F1 := Hid.mk' (l1In_any x 0 (total t.pcs) w2)
  have F2 := Hid.mk' (l1In_any n 0 (total t.pcs - x) w2)
  rw [show (decide (0 ≤ x) && decide (x ≤ total t.pcs)) = true from by simp [d1, d2]] at F1
  rw [show (decide (0 ≤ n) && decide (n ≤ total t.pcs - x)) = true from by simp [d3, d4]] at F2
  obtain ⟨x0, x1, x2, x3⟩ := cells3 RR1.out
  clear hr
  go_wp2_with fail
  refine F1.out.mono ?_
  rintro e w3 ⟨rfl, rfl⟩
  go_wp2_with fail
  refine F2.out.mono ?_
  rintro e w4 ⟨rfl, rfl⟩
  clear F1 F2
  go_wp2_with fail
  refine (specCopy_any _ t _ T1.out hl).mono ?_
  rintro e w5 ⟨s1, s2, s3, rfl, ot5, hb5⟩
  obtain ⟨p1, q1, p2, q2, p3, q3, rfl, rfl, rfl⟩ := ot5.forms
  have N5 := below_new w5 (.cells #[.slice p1 t.base.length q1, .slice p2 t.more.length q2, .slice p3 t.pcs.length q3] 26)
  have O5 := Hid.mk' (ot5.below N5)
  have X5 := Hid.mk' (row3 w5 26 (.slice p1 t.base.length q1) (.slice p2 t.more.length q2) (.slice p3 t.pcs.length q3))
  have B5 := Hid.mk' ((B1.out.trans (hb5.mono B1.out.size)).trans (N5.mono (by have := B1.out.size; have := hb5.size; omega)))
  have R5 := Hid.mk' (rowB (rowB RR1.out hb5) N5)
  have y5 := hb5.size
  have P5 : Hid (PAt (w5.alloc (.cells #[.slice p1 t.base.length q1, .slice p2 t.more.length q2, .slice p3 t.pcs.length q3] 26)) a3 t.pcs) := (H3'.out.below hb5).below N5
  have z4 : w.heap.size + 1 < w5.heap.size := by omega
  obtain ⟨hc5, hf5⟩ := bcell (hb5.trans (N5.mono hb5.size))
  obtain ⟨z0, z1, z2, z3⟩ := cells3 R5.out
  generalize hwa : w5.alloc (.cells #[.slice p1 t.base.length q1, .slice p2 t.more.length q2, .slice p3 t.pcs.length q3] 26) = wa at *
  obtain ⟨g0, g1, g2, g3⟩ := cells3 X5.out
  have k0 := X5.out.frozen 0
  have k1 := X5.out.frozen 1
  have k2 := X5.out.frozen 2
  have l1 := partA_len t.pcs x
  have l2 := partB_len t.pcs x
  have l3 := partB_len (partB t.pcs x) n
  clear hb5 ot5 B1 T1 RR1 N5 x0 x1 x2 z0 z1
  go_wp2_with fail
  clear hwa
  refine (l1Parts_any a3 c3 t.pcs x _ P5.out TM.out (by omega) (by omega)).mono ?_
  rintro e w6 ⟨va, vb, rfl, two6⟩
  obtain ⟨pb, qb, rfl, hpb⟩ := (OP.of_own two6.ob).1.len
  obtain ⟨pa, qa, rfl, hpa⟩ := (OP.of_own two6.oa).1.len
  have hb6 := two6.bl
  obtain ⟨hc6, hf6⟩ := bcell hb6
  have y6 := hb6.size
  have U6 := Hid.mk' two6
  have HP6 := Hid.mk' hpb
  clear two6 hpb hpa hb6
  go_wp2_with fail
  refine (l1Parts_any pb qb (partB t.pcs x) n _ HP6.out TM2.out (by omega) (by omega)).mono ?_
  rintro e w7 ⟨vc, vd, rfl, two7⟩
  obtain ⟨pd, qd, rfl, hpd⟩ := (OP.of_own two7.ob).1.len
  obtain ⟨pc_, qc, rfl, hpc⟩ := (OP.of_own two7.oa).1.len
  have hb7 := two7.bl
  have own7 := Hid.mk' (own_keep U6.out.oa hb7)
  obtain ⟨hc7, hf7⟩ := bcell hb7
  have y7 := hb7.size
  have HD := Hid.mk' hpd
  have HB7 := Hid.mk' hb7
  clear two7 hpd hpc hb7
  have sz7 : wa.heap.size ≤ w7.heap.size := by omega
  have j1 : w.heap.size + 1 < w6.heap.size := by omega
  have j2 : w5.heap.size < w6.heap.size := by omega
  have j3 : w.heap.size + 1 < wa.heap.size := by omega
  have j5 : ¬ w.heap.size + 1 = w5.heap.size := by omega
  by_cases c40 : 40 < (delPcs t.pcs x n).length
  · go_wp2_with (at_builtin; refine wpList_append_at _ rfl (.tmp 52) (.tmp 53) 24 rfl wa.heap.size 72 (.agg #[.bool false, .int .i64 0, .int .i64 0]) 3 24 Try.underlying24 Try.info72 rfl (by decide) _ _ _ rfl own7.out _ _ _ (pcs (partB (partB t.pcs x) n)) rfl (pcs_len _) HD.out.src (pcs_one _) (by unfold maxLen; omega) (by omega) sz7 ?_; intro v8 w8 ho8 hg8 hat8; have hx8 := grown_cells (B := wa.heap.size) hg8 (own_lo own7.out) sz7; have hy8 := grown_frozen (B := wa.heap.size) hg8 (own_lo own7.out) sz7; rw [← pcs_append, ← List.length_append] at ho8; rw [show partA t.pcs x ++ partB (partB t.pcs x) n = delPcs t.pcs x n from rfl] at ho8; obtain ⟨p8, q8, rfl, bx8⟩ := (OP.of_own ho8).1.len; clear bx8; have HO8 := Hid.mk' ho8; have HG8 := Hid.mk' hg8; have y8 := hg8.size; have j8 : w.heap.size + 1 < w8.heap.size := (by omega); have j9 : w5.heap.size < w8.heap.size := (by omega); clear ho8 hg8 hat8)
    have B8 : Hid (Below w.heap.size w w8) := B5.out.trans (((U6.out.bl.trans (HB7.out.mono U6.out.sz)).grown HG8.out sz7 (own_lo own7.out)).mono (by omega))
    have hkA : KeptIn w5.heap.size (w5.heap.size + 1) w8 (w8.setCell ⟨w5.heap.size, 2, none⟩ (.slice p8 (delPcs t.pcs x n).length q8)) := (KeptIn.refl _ _ _).setCell (p := ⟨w5.heap.size, 2, none⟩) (Nat.le_refl _) (Nat.lt_succ_self _) _
    have B8' := Hid.mk' (B8.out.trans (hkA.below (B := w.heap.size) (by omega) (by omega)))
    refine (l1Bad_any 2 _).mono ?_
    rintro e w9 ⟨rfl, hb9⟩
    have B9 := Hid.mk' (B8'.out.trans (hb9.mono B8'.out.size))
    obtain ⟨hc9, hf9⟩ := bcell hb9
    simp at hc9 hf9
    have y9 := hb9.size
    have ya := hkA.size
    simp at y9
    clear hb9 B8' B8
    go_wp2
    refine bodyPost_ret (v := .agg #[.int .i64 2, .slice none 0 0, .slice none 0 0, .slice none 0 0]) (by simp [results, Try.results23, go_sem, *]) rfl ?_
    have hk := kept4 w9 (w.heap.size + 1) 0 1 2 3 (.int .i64 2) (.slice none 0 0) (.slice none 0 0) (.slice none 0 0)
    try rw [if_pos c40, if_pos c40]
    exact ⟨_, _, _, rfl, OT.empty _ _ _, B9.out.trans (hk.below (by omega) (by omega))⟩
  · go_wp2_with (at_builtin; refine wpList_append_at _ rfl (.tmp 52) (.tmp 53) 24 rfl wa.heap.size 72 (.agg #[.bool false, .int .i64 0, .int .i64 0]) 3 24 Try.underlying24 Try.info72 rfl (by decide) _ _ _ rfl own7.out _ _ _ (pcs (partB (partB t.pcs x) n)) rfl (pcs_len _) HD.out.src (pcs_one _) (by unfold maxLen; omega) (by omega) sz7 ?_; intro v8 w8 ho8 hg8 hat8; have hx8 := grown_cells (B := wa.heap.size) hg8 (own_lo own7.out) sz7; have hy8 := grown_frozen (B := wa.heap.size) hg8 (own_lo own7.out) sz7; rw [← pcs_append, ← List.length_append] at ho8; rw [show partA t.pcs x ++ partB (partB t.pcs x) n = delPcs t.pcs x n from rfl] at ho8; obtain ⟨p8, q8, rfl, bx8⟩ := (OP.of_own ho8).1.len; clear bx8; have HO8 := Hid.mk' ho8; have HG8 := Hid.mk' hg8; have y8 := hg8.size; have j8 : w.heap.size + 1 < w8.heap.size := (by omega); have j9 : w5.heap.size < w8.heap.size := (by omega); clear ho8 hg8 hat8)
    refine bodyPost_ret (v := .agg #[.int .i64 0, .slice p1 t.base.length q1, .slice p2 t.more.length q2, (.slice p8 (delPcs t.pcs x n).length q8)]) (by simp [results, Try.results23, go_sem, *]) rfl ?_
    try rw [if_neg c40, if_neg c40]
    have C8 := (U6.out.bl.trans (HB7.out.mono U6.out.sz)).grown HG8.out sz7 (own_lo own7.out)
    have hkA : KeptIn w5.heap.size (w5.heap.size + 1) w8 (w8.setCell ⟨w5.heap.size, 2, none⟩ (.slice p8 (delPcs t.pcs x n).length q8)) := (KeptIn.refl _ _ _).setCell (p := ⟨w5.heap.size, 2, none⟩) (Nat.le_refl _) (Nat.lt_succ_self _) _
    have hkB := kept4 (w8.setCell ⟨w5.heap.size, 2, none⟩ (.slice p8 (delPcs t.pcs x n).length q8)) (w.heap.size + 1) 0 1 2 3 (.int .i64 0) (.slice p1 t.base.length q1) (.slice p2 t.more.length q2) (.slice p8 (delPcs t.pcs x n).length q8)
    have O8 := O5.out.below C8
    have I8 : In wa.heap.size w8.heap.size (.slice p8 (delPcs t.pcs x n).length q8) := fun k e => ⟨own_lo HO8.out k e, (HO8.out.lt k e).2⟩
    have sa := hkA.size
    have sb := hkB.size
    refine ⟨_, _, _, rfl, ⟨(O8.o1.kept O8.i1 hkA (.inl (Nat.le_refl _))).kept O8.i1 hkB (.inr (by omega)), (O8.o2.kept O8.i2 hkA (.inl (Nat.le_refl _))).kept O8.i2 hkB (.inr (by omega)), ((OP.of_own HO8.out).1.kept I8 hkA (.inr (by omega))).kept I8 hkB (.inr (by omega)), O8.i1.mono (by omega) (by omega), O8.i2.mono (by omega) (by omega), I8.mono (by omega) (by omega), O8.a12, Ap.of_in O8.i1 (I8.mono (by omega) (Nat.le_refl _)), Ap.of_in O8.i2 (I8.mono (by omega) (Nat.le_refl _))⟩, ?_⟩
    exact (B5.out.trans (C8.mono (by omega))).trans ((hkA.below (B := w.heap.size) (by omega) (by omega)).trans (hkB.below (B := w.heap.size) (by omega) (by omega)))

theorem specDel_any (v : Value) (t : TB) (x n : Int) (w : World) (ht : TAtC w v t) (b1 : -9223372036854775808 ≤ x) (b2 : x ≤ 9223372036854775807) (b3 : -9223372036854775808 ≤ n) (b4 : n ≤ 9223372036854775807) (hl : (t.base.length : Int) + t.more.length + t.pcs.length ≤ 1048576) :
    Calls Try.prog 23 #[v, .int .i64 x, .int .i64 n] w fun e w' => ∃ s1 s2 s3, e = .returned (.agg #[.int .i64 (delCode t x n), s1, s2, s3]) ∧ OT w.heap.size w'.heap.size w' s1 s2 s3 (delT t x n) ∧ Below w.heap.size w w' := by
  unfold delCode delT
  by_cases hz : fault t = 0
  · rw [if_pos hz, if_pos hz]
    cases hr : delIn t x n with
    | false =>
      rw [if_neg (by decide), if_neg (by decide)]
      refine (specDel_range v t x n w ht.at b1 b2 b3 b4 hl hz hr).mono ?_
      rintro e w' ⟨rfl, hb⟩
      exact ⟨_, _, _, rfl, OT.empty _ _ _, hb⟩
    | true =>
      rw [if_pos rfl, if_pos rfl]
      by_cases hn : n = 0
      · rw [if_pos hn, if_pos hn]
        exact specDel_copy v t x n w ht.at b1 b2 b3 b4 hl hz hr hn
      · rw [if_neg hn, if_neg hn]
        exact specDel_cut v t x n w ht.at b1 b2 b3 b4 hl hz hr hn
  · rw [if_neg hz, if_neg hz]
    refine (specDel_bad v t x n w ht.at b1 b2 b3 b4 hl hz).mono ?_
    rintro e w' ⟨rfl, hb⟩
    exact ⟨_, _, _, rfl, OT.empty _ _ _, hb⟩

end Go.Proofs.Ytahkneghmgmnbaa
