/- Walks: InsertText, the model's side. -/
import Derived.Test.YtahkneghmgmnbaaWq
import Derived.Test.YtahkneghmgmnbaaWp
namespace Go.Proofs.Ytahkneghmgmnbaa
open Go.RowKit
set_option linter.unusedVariables false

/-- The pieces when bytes are put in at a place. -/
def insPcs (t : TB) (x : Int) (d : List Int) : List PC := (partA t.pcs x ++ [⟨true, t.more.length, d.length⟩]) ++ partB t.pcs x
/-- What is wrong with that, if anything is. -/
def insFault (t : TB) (x : Int) (d : List Int) : Int := if fault t = 0 then (if 0 ≤ x ∧ x ≤ total t.pcs then (if 240 < total t.pcs + d.length then 6 else if d.length ≠ 0 ∧ 2000 < t.more.length + d.length then 2 else 0) else 3) else fault t
def insCode (t : TB) (x : Int) (d : List Int) : Int := if insFault t x d = 0 then (if d.length = 0 then 0 else if 40 < (insPcs t x d).length then 2 else 0) else insFault t x d
def insT (t : TB) (x : Int) (d : List Int) : TB := if insFault t x d = 0 then (if d.length = 0 then t else if 40 < (insPcs t x d).length then ⟨[], [], []⟩ else ⟨t.base, t.more ++ d, insPcs t x d⟩) else ⟨[], [], []⟩

theorem insPcs_len (t : TB) (x : Int) (d : List Int) : (insPcs t x d).length ≤ 2 * t.pcs.length + 1 := by
  unfold insPcs
  have h1 := partA_len t.pcs x
  have h2 := partB_len t.pcs x
  rw [List.length_append, List.length_append]; simp only [List.length_cons, List.length_nil]; omega

theorem insFault_zero {t : TB} {x : Int} {d : List Int} (h : insFault t x d = 0) : fault t = 0 ∧ 0 ≤ x ∧ x ≤ total t.pcs ∧ total t.pcs + d.length ≤ 240 ∧ (d.length = 0 ∨ t.more.length + d.length ≤ 2000) := by
  unfold insFault at h
  split at h
  · rename_i hz
    split at h
    · rename_i hr
      split at h
      · exact absurd h (by decide)
      · split at h
        · exact absurd h (by decide)
        · exact ⟨hz, hr.1, hr.2, by omega, by omega⟩
    · exact absurd h (by decide)
  · rename_i hz; exact absurd h hz

theorem insT_len (t : TB) (x : Int) (d : List Int) (hl : (t.base.length : Int) + t.more.length + t.pcs.length ≤ 1048576) : ((insT t x d).base.length : Int) + (insT t x d).more.length + (insT t x d).pcs.length ≤ 1048576 ∧ (cnt (insT t x d) : Int) ≤ 10000000 := by
  unfold insT
  split
  · rename_i h
    obtain ⟨hz, _, _, h4, h5⟩ := insFault_zero h
    obtain ⟨h1, h2, h3, _, _⟩ := fault_zero hz
    split
    · unfold cnt; omega
    · split
      · simp [cnt]
      · have := insPcs_len t x d
        unfold cnt; simp only [List.length_append]; omega
  · simp [cnt]


set_option maxHeartbeats 400000 in
theorem specIns_bad (v : Value) (t : TB) (x : Int) (ad : Option Addr) (cd : Nat) (d : List Int) (w : World) (ht : TAt w v t) (b1 : -9223372036854775808 ≤ x) (b2 : x ≤ 9223372036854775807) (hd : BAt w ad d) (hl : (t.base.length : Int) + t.more.length + t.pcs.length ≤ 1048576) (hld : (d.length : Int) ≤ 1048576) (hz : ¬ fault t = 0) :
    Calls Try.prog 16 #[v, .int .i64 x, .slice ad d.length cd] w fun e w' => e = .returned (.agg #[.int .i64 (fault t), .slice none 0 0, .slice none 0 0, .slice none 0 0]) ∧ Below w.heap.size w w' := by
  obtain ⟨a1, a2, a3, c1, c2, c3, rfl, h1, h2, h3⟩ := ht
  have B0 := ((Below.refl w.heap.size w).alloc (Nat.le_refl _) (.cells #[.slice a1 t.base.length c1, .slice a2 t.more.length c2, .slice a3 t.pcs.length c3] 26)).alloc (by simp) (.cells #[.int .i64 0, .slice none 0 0, .slice none 0 0, .slice none 0 0] 30)
  have R0 := (row3 w 26 (.slice a1 t.base.length c1) (.slice a2 t.more.length c2) (.slice a3 t.pcs.length c3)).alloc (.cells #[.int .i64 0, .slice none 0 0, .slice none 0 0, .slice none 0 0] 30)
  have K := l1Fault_any w.heap.size a1 a2 a3 c1 c2 c3 t _ (R0.cell (by omega)) (R0.cell (by omega)) (R0.cell (by omega)) R0.lt (h3.below B0) hl
  have hb : (fault t != 0) = true := by rw [bne_iff_ne]; exact hz
  have KK := Hid.mk' K
  have BB := Hid.mk' B0
  clear K hz h1 h2 h3 B0 R0
  go_enter Try.func16, Try.ntmps16
  go_wp2_with fail
  refine KK.out.mono ?_
  rintro e w1 ⟨rfl, hb1⟩
  have B1 := Hid.mk' (BB.out.trans (hb1.mono BB.out.size))
  obtain ⟨hc1, hf1⟩ := bcell hb1
  simp at hc1 hf1
  have y := hb1.size
  simp at y
  have y' : w.heap.size + 1 < w1.heap.size := by omega
  clear KK BB hb1
  go_wp2_with fail
  refine (l1Bad_any (fault t) w1).mono ?_
  rintro e w2 ⟨rfl, hb2⟩
  have B2 := Hid.mk' (B1.out.trans (hb2.mono B1.out.size))
  obtain ⟨hc2, hf2⟩ := bcell hb2
  have y2 := hb2.size
  clear hb2 B1
  go_wp2
  refine bodyPost_ret (v := .agg #[.int .i64 (fault t), .slice none 0 0, .slice none 0 0, .slice none 0 0]) (by simp [results, Try.results16, go_sem, *]) rfl ?_
  have hk := kept4 w2 (w.heap.size + 1) 0 1 2 3 (.int .i64 (fault t)) (.slice none 0 0) (.slice none 0 0) (.slice none 0 0)
  exact ⟨rfl, B2.out.trans (hk.below (by omega) (by omega))⟩

set_option maxHeartbeats 800000 in
theorem specIns_range (v : Value) (t : TB) (x : Int) (ad : Option Addr) (cd : Nat) (d : List Int) (w : World) (ht : TAt w v t) (b1 : -9223372036854775808 ≤ x) (b2 : x ≤ 9223372036854775807) (hd : BAt w ad d) (hl : (t.base.length : Int) + t.more.length + t.pcs.length ≤ 1048576) (hld : (d.length : Int) ≤ 1048576) (hz : fault t = 0) (hr : ¬ (0 ≤ x ∧ x ≤ total t.pcs)) :
    Calls Try.prog 16 #[v, .int .i64 x, .slice ad d.length cd] w fun e w' => e = .returned (.agg #[.int .i64 3, .slice none 0 0, .slice none 0 0, .slice none 0 0]) ∧ Below w.heap.size w w' := by
  obtain ⟨a1, a2, a3, c1, c2, c3, rfl, h1, h2, h3⟩ := ht
  have B0 := ((Below.refl w.heap.size w).alloc (Nat.le_refl _) (.cells #[.slice a1 t.base.length c1, .slice a2 t.more.length c2, .slice a3 t.pcs.length c3] 26)).alloc (by simp) (.cells #[.int .i64 0, .slice none 0 0, .slice none 0 0, .slice none 0 0] 30)
  have R0 := (row3 w 26 (.slice a1 t.base.length c1) (.slice a2 t.more.length c2) (.slice a3 t.pcs.length c3)).alloc (.cells #[.int .i64 0, .slice none 0 0, .slice none 0 0, .slice none 0 0] 30)
  have K := l1Fault_any w.heap.size a1 a2 a3 c1 c2 c3 t _ (R0.cell (by omega)) (R0.cell (by omega)) (R0.cell (by omega)) R0.lt (h3.below B0) hl
  have H3 := Hid.mk' (h3.below B0)
  have S := Hid.mk' (fault_small hz)
  have tt := S.out.total_le t.pcs.length (Nat.le_refl _)
  rw [List.take_length] at tt
  have tl : total t.pcs ≤ 240 := (fault_zero hz).2.2.2.2
  rw [hz] at K
  have KK := Hid.mk' K
  have BB := Hid.mk' B0
  have RR := Hid.mk' R0
  clear K hz h1 h2 h3 B0 R0 hd
  go_enter Try.func16, Try.ntmps16
  go_wp2_with fail
  refine KK.out.mono ?_
  rintro e w1 ⟨rfl, hb1⟩
  have R1 := RR.out.of_block (hb1.block _ RR.out.lt)
  have K2 := l1Size_any w.heap.size a3 c3 t.pcs w1 (R1.cell (by omega)) (H3.out.below hb1) S.out
  have RR1 := Hid.mk' R1
  have B1 := Hid.mk' (BB.out.trans (hb1.mono BB.out.size))
  obtain ⟨hc1, hf1⟩ := bcell hb1
  simp at hc1 hf1
  have KK2 := Hid.mk' K2
  have y := hb1.size
  simp at y
  have y' : w.heap.size + 1 < w1.heap.size := by omega
  clear KK BB RR R1 K2 hb1 H3 S
  go_wp2_with fail
  refine KK2.out.mono ?_
  rintro e w2 ⟨rfl, rfl⟩
  clear KK2
  have hfin : ∀ W : World, W = w2 → Calls Try.prog 49 #[.int .i64 3] W fun e w' => e = .returned (.agg #[.int .i64 3, .slice none 0 0, .slice none 0 0, .slice none 0 0]) ∧ Below w2.heap.size w2 w' := fun W e => by subst e; exact l1Bad_any 3 _
  have e1 : (decide (0 ≤ x) && decide (x ≤ total t.pcs)) = false := by
    cases h : (decide (0 ≤ x) && decide (x ≤ total t.pcs)) with
    | false => rfl
    | true => exact absurd (by simpa using h) hr
  have F1 := Hid.mk' (l1In_any x 0 (total t.pcs) w2)
  rw [e1] at F1
  clear hr e1
  go_wp2_with fail
  refine F1.out.mono ?_
  rintro e w3 ⟨rfl, rfl⟩
  clear F1
  go_wp2_with fail
  refine (hfin _ rfl).mono ?_
  rintro e w2' ⟨rfl, hb2⟩
  have B2 := Hid.mk' (B1.out.trans (hb2.mono B1.out.size))
  obtain ⟨hc2, hf2⟩ := bcell hb2
  have y2 := hb2.size
  clear hb2 B1 hfin
  go_wp2
  refine bodyPost_ret (v := .agg #[.int .i64 3, .slice none 0 0, .slice none 0 0, .slice none 0 0]) (by simp [results, Try.results16, go_sem, *]) rfl ?_
  have hk := kept4 w2' (w.heap.size + 1) 0 1 2 3 (.int .i64 3) (.slice none 0 0) (.slice none 0 0) (.slice none 0 0)
  exact ⟨rfl, B2.out.trans (hk.below (by omega) (by omega))⟩

set_option maxHeartbeats 800000 in
theorem specIns_large (v : Value) (t : TB) (x : Int) (ad : Option Addr) (cd : Nat) (d : List Int) (w : World) (ht : TAt w v t) (b1 : -9223372036854775808 ≤ x) (b2 : x ≤ 9223372036854775807) (hd : BAt w ad d) (hl : (t.base.length : Int) + t.more.length + t.pcs.length ≤ 1048576) (hld : (d.length : Int) ≤ 1048576) (hz : fault t = 0) (hr : 0 ≤ x ∧ x ≤ total t.pcs) (hg : 240 < total t.pcs + d.length) :
    Calls Try.prog 16 #[v, .int .i64 x, .slice ad d.length cd] w fun e w' => e = .returned (.agg #[.int .i64 6, .slice none 0 0, .slice none 0 0, .slice none 0 0]) ∧ Below w.heap.size w w' := by
  obtain ⟨a1, a2, a3, c1, c2, c3, rfl, h1, h2, h3⟩ := ht
  have B0 := ((Below.refl w.heap.size w).alloc (Nat.le_refl _) (.cells #[.slice a1 t.base.length c1, .slice a2 t.more.length c2, .slice a3 t.pcs.length c3] 26)).alloc (by simp) (.cells #[.int .i64 0, .slice none 0 0, .slice none 0 0, .slice none 0 0] 30)
  have R0 := (row3 w 26 (.slice a1 t.base.length c1) (.slice a2 t.more.length c2) (.slice a3 t.pcs.length c3)).alloc (.cells #[.int .i64 0, .slice none 0 0, .slice none 0 0, .slice none 0 0] 30)
  have K := l1Fault_any w.heap.size a1 a2 a3 c1 c2 c3 t _ (R0.cell (by omega)) (R0.cell (by omega)) (R0.cell (by omega)) R0.lt (h3.below B0) hl
  have H3 := Hid.mk' (h3.below B0)
  have S := Hid.mk' (fault_small hz)
  have tt := S.out.total_le t.pcs.length (Nat.le_refl _)
  rw [List.take_length] at tt
  have tl : total t.pcs ≤ 240 := (fault_zero hz).2.2.2.2
  rw [hz] at K
  have KK := Hid.mk' K
  have BB := Hid.mk' B0
  have RR := Hid.mk' R0
  clear K hz h1 h2 h3 B0 R0 hd
  go_enter Try.func16, Try.ntmps16
  go_wp2_with fail
  refine KK.out.mono ?_
  rintro e w1 ⟨rfl, hb1⟩
  have R1 := RR.out.of_block (hb1.block _ RR.out.lt)
  have K2 := l1Size_any w.heap.size a3 c3 t.pcs w1 (R1.cell (by omega)) (H3.out.below hb1) S.out
  have RR1 := Hid.mk' R1
  have B1 := Hid.mk' (BB.out.trans (hb1.mono BB.out.size))
  obtain ⟨hc1, hf1⟩ := bcell hb1
  simp at hc1 hf1
  have KK2 := Hid.mk' K2
  have y := hb1.size
  simp at y
  have y' : w.heap.size + 1 < w1.heap.size := by omega
  clear KK BB RR R1 K2 hb1 H3 S
  go_wp2_with fail
  refine KK2.out.mono ?_
  rintro e w2 ⟨rfl, rfl⟩
  clear KK2
  have hfin : ∀ W : World, W = w2 → Calls Try.prog 49 #[.int .i64 6] W fun e w' => e = .returned (.agg #[.int .i64 6, .slice none 0 0, .slice none 0 0, .slice none 0 0]) ∧ Below w2.heap.size w2 w' := fun W e => by subst e; exact l1Bad_any 6 _
  obtain ⟨d1, d2⟩ := hr
  have F1 := Hid.mk' (l1In_any x 0 (total t.pcs) w2)
  rw [show (decide (0 ≤ x) && decide (x ≤ total t.pcs)) = true from by simp [d1, d2]] at F1
  go_wp2_with fail
  refine F1.out.mono ?_
  rintro e w3 ⟨rfl, rfl⟩
  clear F1
  go_wp2_with fail
  refine (hfin _ rfl).mono ?_
  rintro e w2' ⟨rfl, hb2⟩
  have B2 := Hid.mk' (B1.out.trans (hb2.mono B1.out.size))
  obtain ⟨hc2, hf2⟩ := bcell hb2
  have y2 := hb2.size
  clear hb2 B1 hfin
  go_wp2
  refine bodyPost_ret (v := .agg #[.int .i64 6, .slice none 0 0, .slice none 0 0, .slice none 0 0]) (by simp [results, Try.results16, go_sem, *]) rfl ?_
  have hk := kept4 w2' (w.heap.size + 1) 0 1 2 3 (.int .i64 6) (.slice none 0 0) (.slice none 0 0) (.slice none 0 0)
  exact ⟨rfl, B2.out.trans (hk.below (by omega) (by omega))⟩

set_option maxHeartbeats 800000 in
theorem specIns_copy (v : Value) (t : TB) (x : Int) (ad : Option Addr) (cd : Nat) (d : List Int) (w : World) (ht : TAt w v t) (b1 : -9223372036854775808 ≤ x) (b2 : x ≤ 9223372036854775807) (hd : BAt w ad d) (hl : (t.base.length : Int) + t.more.length + t.pcs.length ≤ 1048576) (hld : (d.length : Int) ≤ 1048576) (hz : fault t = 0) (hr : 0 ≤ x ∧ x ≤ total t.pcs) (hg : ¬ 240 < total t.pcs + d.length) (hn : d.length = 0) :
    Calls Try.prog 16 #[v, .int .i64 x, .slice ad d.length cd] w fun e w' => ∃ s1 s2 s3, e = .returned (.agg #[.int .i64 0, s1, s2, s3]) ∧ OT w.heap.size w'.heap.size w' s1 s2 s3 t ∧ Below w.heap.size w w' := by
  have hd0 := List.eq_nil_of_length_eq_zero hn
  subst hd0
  obtain ⟨a1, a2, a3, c1, c2, c3, rfl, h1, h2, h3⟩ := ht
  have B0 := ((Below.refl w.heap.size w).alloc (Nat.le_refl _) (.cells #[.slice a1 t.base.length c1, .slice a2 t.more.length c2, .slice a3 t.pcs.length c3] 26)).alloc (by simp) (.cells #[.int .i64 0, .slice none 0 0, .slice none 0 0, .slice none 0 0] 30)
  have R0 := (row3 w 26 (.slice a1 t.base.length c1) (.slice a2 t.more.length c2) (.slice a3 t.pcs.length c3)).alloc (.cells #[.int .i64 0, .slice none 0 0, .slice none 0 0, .slice none 0 0] 30)
  have K := l1Fault_any w.heap.size a1 a2 a3 c1 c2 c3 t _ (R0.cell (by omega)) (R0.cell (by omega)) (R0.cell (by omega)) R0.lt (h3.below B0) hl
  have H3 := Hid.mk' (h3.below B0)
  have S := Hid.mk' (fault_small hz)
  have H1 := Hid.mk' (h1.below B0)
  have H2 := Hid.mk' (h2.below B0)
  have HD0 := Hid.mk' (hd.below B0)
  have tt := S.out.total_le t.pcs.length (Nat.le_refl _)
  rw [List.take_length] at tt
  have tl : total t.pcs ≤ 240 := (fault_zero hz).2.2.2.2
  rw [hz] at K
  have KK := Hid.mk' K
  have BB := Hid.mk' B0
  have RR := Hid.mk' R0
  clear K hz h1 h2 h3 B0 R0 hd
  go_enter Try.func16, Try.ntmps16
  go_wp2_with fail
  refine KK.out.mono ?_
  rintro e w1 ⟨rfl, hb1⟩
  have R1 := RR.out.of_block (hb1.block _ RR.out.lt)
  have K2 := l1Size_any w.heap.size a3 c3 t.pcs w1 (R1.cell (by omega)) (H3.out.below hb1) S.out
  have RR1 := Hid.mk' R1
  have T1 : Hid (TAt w1 (.agg #[.slice a1 t.base.length c1, .slice a2 t.more.length c2, .slice a3 t.pcs.length c3]) t) := ⟨_, _, _, _, _, _, rfl, H1.out.below hb1, H2.out.below hb1, H3.out.below hb1⟩
  have HD1 := Hid.mk' (HD0.out.below hb1)
  have B1 := Hid.mk' (BB.out.trans (hb1.mono BB.out.size))
  obtain ⟨hc1, hf1⟩ := bcell hb1
  simp at hc1 hf1
  have KK2 := Hid.mk' K2
  have y := hb1.size
  simp at y
  have y' : w.heap.size + 1 < w1.heap.size := by omega
  clear KK BB RR R1 K2 hb1 H3 S H1 H2 HD0
  go_wp2_with fail
  refine KK2.out.mono ?_
  rintro e w2 ⟨rfl, rfl⟩
  clear KK2
  obtain ⟨d1, d2⟩ := hr
  have F1 := Hid.mk' (l1In_any x 0 (total t.pcs) w2)
  rw [show (decide (0 ≤ x) && decide (x ≤ total t.pcs)) = true from by simp [d1, d2]] at F1
  go_wp2_with fail
  refine F1.out.mono ?_
  rintro e w3 ⟨rfl, rfl⟩
  clear F1
  obtain ⟨x0, x1, x2, x3⟩ := cells3 RR1.out
  go_wp2_with fail
  refine (specCopy_own _ t _ T1.out hl).mono ?_
  rintro e w5 ⟨s1, s2, s3, rfl, ⟨ot5, ow5⟩, hb5⟩
  have O5 := Hid.mk' ot5
  obtain ⟨p1, q1, p2, q2, p3, q3, rfl, rfl, rfl⟩ := ot5.forms
  have B5 := Hid.mk' (B1.out.trans (hb5.mono B1.out.size))
  obtain ⟨hc5, hf5⟩ := bcell hb5
  have y5 := hb5.size
  have y5' : w.heap.size + 1 < w5.heap.size := by omega
  clear hb5 ot5 ow5 B1 T1 RR1
  go_wp2
  refine bodyPost_ret (v := .agg #[.int .i64 0, .slice p1 t.base.length q1, .slice p2 t.more.length q2, .slice p3 t.pcs.length q3]) (by simp [results, Try.results16, go_sem, *]) rfl ?_
  have hk := (kept4 w5 (w.heap.size + 1) 0 1 2 3 (.int .i64 0) (.slice p1 t.base.length q1) (.slice p2 t.more.length q2) (.slice p3 t.pcs.length q3)).alloc (.cells #[.slice p1 t.base.length q1, .slice p2 t.more.length q2, .slice p3 t.pcs.length q3] 26)
  exact ⟨_, _, _, rfl, (O5.out.kept hk (.inr (by omega))).mono (by omega) hk.size, B5.out.trans (hk.below (by omega) (by omega))⟩

set_option maxHeartbeats 800000 in
theorem specIns_many (v : Value) (t : TB) (x : Int) (ad : Option Addr) (cd : Nat) (d : List Int) (w : World) (ht : TAt w v t) (b1 : -9223372036854775808 ≤ x) (b2 : x ≤ 9223372036854775807) (hd : BAt w ad d) (hl : (t.base.length : Int) + t.more.length + t.pcs.length ≤ 1048576) (hld : (d.length : Int) ≤ 1048576) (hz : fault t = 0) (hr : 0 ≤ x ∧ x ≤ total t.pcs) (hg : ¬ 240 < total t.pcs + d.length) (hn : ¬ d.length = 0) (hm : 2000 < t.more.length + d.length) :
    Calls Try.prog 16 #[v, .int .i64 x, .slice ad d.length cd] w fun e w' => e = .returned (.agg #[.int .i64 2, .slice none 0 0, .slice none 0 0, .slice none 0 0]) ∧ Below w.heap.size w w' := by
  obtain ⟨a1, a2, a3, c1, c2, c3, rfl, h1, h2, h3⟩ := ht
  have B0 := ((Below.refl w.heap.size w).alloc (Nat.le_refl _) (.cells #[.slice a1 t.base.length c1, .slice a2 t.more.length c2, .slice a3 t.pcs.length c3] 26)).alloc (by simp) (.cells #[.int .i64 0, .slice none 0 0, .slice none 0 0, .slice none 0 0] 30)
  have R0 := (row3 w 26 (.slice a1 t.base.length c1) (.slice a2 t.more.length c2) (.slice a3 t.pcs.length c3)).alloc (.cells #[.int .i64 0, .slice none 0 0, .slice none 0 0, .slice none 0 0] 30)
  have K := l1Fault_any w.heap.size a1 a2 a3 c1 c2 c3 t _ (R0.cell (by omega)) (R0.cell (by omega)) (R0.cell (by omega)) R0.lt (h3.below B0) hl
  have H3 := Hid.mk' (h3.below B0)
  have S := Hid.mk' (fault_small hz)
  have H1 := Hid.mk' (h1.below B0)
  have H2 := Hid.mk' (h2.below B0)
  have HD0 := Hid.mk' (hd.below B0)
  have tt := S.out.total_le t.pcs.length (Nat.le_refl _)
  rw [List.take_length] at tt
  have tl : total t.pcs ≤ 240 := (fault_zero hz).2.2.2.2
  rw [hz] at K
  have KK := Hid.mk' K
  have BB := Hid.mk' B0
  have RR := Hid.mk' R0
  clear K hz h1 h2 h3 B0 R0 hd
  go_enter Try.func16, Try.ntmps16
  go_wp2_with fail
  refine KK.out.mono ?_
  rintro e w1 ⟨rfl, hb1⟩
  have R1 := RR.out.of_block (hb1.block _ RR.out.lt)
  have K2 := l1Size_any w.heap.size a3 c3 t.pcs w1 (R1.cell (by omega)) (H3.out.below hb1) S.out
  have RR1 := Hid.mk' R1
  have T1 : Hid (TAt w1 (.agg #[.slice a1 t.base.length c1, .slice a2 t.more.length c2, .slice a3 t.pcs.length c3]) t) := ⟨_, _, _, _, _, _, rfl, H1.out.below hb1, H2.out.below hb1, H3.out.below hb1⟩
  have HD1 := Hid.mk' (HD0.out.below hb1)
  have B1 := Hid.mk' (BB.out.trans (hb1.mono BB.out.size))
  obtain ⟨hc1, hf1⟩ := bcell hb1
  simp at hc1 hf1
  have KK2 := Hid.mk' K2
  have y := hb1.size
  simp at y
  have y' : w.heap.size + 1 < w1.heap.size := by omega
  clear KK BB RR R1 K2 hb1 H3 S H1 H2 HD0
  go_wp2_with fail
  refine KK2.out.mono ?_
  rintro e w2 ⟨rfl, rfl⟩
  clear KK2
  obtain ⟨d1, d2⟩ := hr
  have F1 := Hid.mk' (l1In_any x 0 (total t.pcs) w2)
  rw [show (decide (0 ≤ x) && decide (x ≤ total t.pcs)) = true from by simp [d1, d2]] at F1
  go_wp2_with fail
  refine F1.out.mono ?_
  rintro e w3 ⟨rfl, rfl⟩
  clear F1
  obtain ⟨x0, x1, x2, x3⟩ := cells3 RR1.out
  go_wp2_with fail
  refine (specCopy_own _ t _ T1.out hl).mono ?_
  rintro e w5 ⟨s1, s2, s3, rfl, ⟨ot5, ow5⟩, hb5⟩
  obtain ⟨p1, q1, p2, q2, p3, q3, rfl, rfl, rfl⟩ := ot5.forms
  have B5 := Hid.mk' (B1.out.trans (hb5.mono B1.out.size))
  obtain ⟨hc5, hf5⟩ := bcell hb5
  have y5 := hb5.size
  have y5' : w.heap.size + 1 < w5.heap.size := by omega
  obtain ⟨g0, g1, g2, g3⟩ := cells3 ((rowB (rowB RR1.out hb5) (below_new w5 (.cells #[.slice p1 t.base.length q1, .slice p2 t.more.length q2, .slice p3 t.pcs.length q3] 26))))
  have hn0 : ((d.length : Int) == 0) = false := by rw [beq_eq_false_iff_ne]; omega
  have hm0 : (2000 : Int) < (t.more.length : Int) + (d.length : Int) := by omega
  have j5 : ¬ w.heap.size + 1 = w5.heap.size := by omega
  have j6 : w.heap.size + 1 < w5.heap.size + 1 := by omega
  clear hb5 ot5 ow5 B1 T1 RR1
  go_wp2_with fail
  refine (l1Bad_any 2 _).mono ?_
  rintro e w6 ⟨rfl, hb6⟩
  obtain ⟨hc6, hf6⟩ := bcell hb6
  simp at hc6 hf6
  have y6 := hb6.size
  simp at y6
  have B6 := Hid.mk' ((B5.out.alloc (by omega) (.cells #[.slice p1 t.base.length q1, .slice p2 t.more.length q2, .slice p3 t.pcs.length q3] 26)).trans (hb6.mono (by simp; omega)))
  clear hb6 B5
  go_wp2
  refine bodyPost_ret (v := .agg #[.int .i64 2, .slice none 0 0, .slice none 0 0, .slice none 0 0]) (by simp [results, Try.results16, go_sem, *]) rfl ?_
  have hk := kept4 w6 (w.heap.size + 1) 0 1 2 3 (.int .i64 2) (.slice none 0 0) (.slice none 0 0) (.slice none 0 0)
  exact ⟨rfl, B6.out.trans (hk.below (by omega) (by omega))⟩
theorem own_form {w : World} {base : Nat} {e : TypeId} {size : Nat} {v : Value} {n : Nat} {xs : List Value} (h : w.ownsRow base e size v n xs) : ∃ a c, v = .slice a n c := by
  obtain ⟨_, ⟨rfl, rfl⟩ | ⟨g, cap, cur, rfl, _⟩⟩ := h
  · exact ⟨_, _, rfl⟩
  · exact ⟨_, _, rfl⟩

theorem own_at {w : World} {base : Nat} {a : Option Addr} {c : Nat} {l : List PC} (h : w.ownsRow base 72 3 (.slice a l.length c) l.length (pcs l)) : PAt w a l := by
  obtain ⟨a', c', e, hp⟩ := (OP.of_own h).1.len
  cases e
  exact hp

theorem grown_at {w w1 : World} {row : Option Nat} {b : Nat} (hg : w.grownBy w1 row) (hb : b < w.heap.size) (hne : ∀ k, row = some k → k ≠ b) : ∀ o, w1.cell? ⟨b, o, none⟩ = w.cell? ⟨b, o, none⟩ ∧ w1.frozen? ⟨b, o, none⟩ = w.frozen? ⟨b, o, none⟩ := by
  intro o
  have h := hg.block b hb (fun e => hne b e.symm rfl)
  exact ⟨World.cell?_of_block h, World.frozen?_of_block h⟩

set_option maxRecDepth 100000 in
set_option maxHeartbeats 4000000 in
theorem specIns_cut (v : Value) (t : TB) (x : Int) (ad : Option Addr) (cd : Nat) (d : List Int) (w : World) (ht : TAt w v t) (b1 : -9223372036854775808 ≤ x) (b2 : x ≤ 9223372036854775807) (hd : BAt w ad d) (hl : (t.base.length : Int) + t.more.length + t.pcs.length ≤ 1048576) (hld : (d.length : Int) ≤ 1048576) (hz : fault t = 0) (hr : 0 ≤ x ∧ x ≤ total t.pcs) (hg : ¬ 240 < total t.pcs + d.length) (hn : ¬ d.length = 0) (hm : ¬ 2000 < t.more.length + d.length) :
    Calls Try.prog 16 #[v, .int .i64 x, .slice ad d.length cd] w fun e w' => ∃ s1 s2 s3, e = .returned (.agg #[.int .i64 (if 40 < (insPcs t x d).length then 2 else 0), s1, s2, s3]) ∧ OT w.heap.size w'.heap.size w' s1 s2 s3 (if 40 < (insPcs t x d).length then ⟨[], [], []⟩ else ⟨t.base, t.more ++ d, insPcs t x d⟩) ∧ Below w.heap.size w w' := by
  obtain ⟨a1, a2, a3, c1, c2, c3, rfl, h1, h2, h3⟩ := ht
  have B0 := ((Below.refl w.heap.size w).alloc (Nat.le_refl _) (.cells #[.slice a1 t.base.length c1, .slice a2 t.more.length c2, .slice a3 t.pcs.length c3] 26)).alloc (by simp) (.cells #[.int .i64 0, .slice none 0 0, .slice none 0 0, .slice none 0 0] 30)
  have R0 := (row3 w 26 (.slice a1 t.base.length c1) (.slice a2 t.more.length c2) (.slice a3 t.pcs.length c3)).alloc (.cells #[.int .i64 0, .slice none 0 0, .slice none 0 0, .slice none 0 0] 30)
  have K := l1Fault_any w.heap.size a1 a2 a3 c1 c2 c3 t _ (R0.cell (by omega)) (R0.cell (by omega)) (R0.cell (by omega)) R0.lt (h3.below B0) hl
  have H3 := Hid.mk' (h3.below B0)
  have S := Hid.mk' (fault_small hz)
  have H1 := Hid.mk' (h1.below B0)
  have H2 := Hid.mk' (h2.below B0)
  have HD0 := Hid.mk' (hd.below B0)
  have TM := Hid.mk' (tame_of_fault hz)
  have l0 : t.pcs.length ≤ 40 := Nat.le_of_not_lt (fault_zero hz).2.2.1
  have tt := S.out.total_le t.pcs.length (Nat.le_refl _)
  rw [List.take_length] at tt
  have tl : total t.pcs ≤ 240 := (fault_zero hz).2.2.2.2
  rw [hz] at K
  have KK := Hid.mk' K
  have BB := Hid.mk' B0
  have RR := Hid.mk' R0
  clear K hz h1 h2 h3 B0 R0 hd
  go_enter Try.func16, Try.ntmps16
  go_wp2_with fail
  refine KK.out.mono ?_
  rintro e w1 ⟨rfl, hb1⟩
  have R1 := RR.out.of_block (hb1.block _ RR.out.lt)
  have K2 := l1Size_any w.heap.size a3 c3 t.pcs w1 (R1.cell (by omega)) (H3.out.below hb1) S.out
  have RR1 := Hid.mk' R1
  have T1 : Hid (TAt w1 (.agg #[.slice a1 t.base.length c1, .slice a2 t.more.length c2, .slice a3 t.pcs.length c3]) t) := ⟨_, _, _, _, _, _, rfl, H1.out.below hb1, H2.out.below hb1, H3.out.below hb1⟩
  have HD1 := Hid.mk' (HD0.out.below hb1)
  have H3' := Hid.mk' (H3.out.below hb1)
  have B1 := Hid.mk' (BB.out.trans (hb1.mono BB.out.size))
  obtain ⟨hc1, hf1⟩ := bcell hb1
  simp at hc1 hf1
  have KK2 := Hid.mk' K2
  have y := hb1.size
  simp at y
  have y' : w.heap.size + 1 < w1.heap.size := by omega
  clear KK BB RR R1 K2 hb1 H3 S H1 H2 HD0
  go_wp2_with fail
  refine KK2.out.mono ?_
  rintro e w2 ⟨rfl, rfl⟩
  clear KK2
  obtain ⟨d1, d2⟩ := hr
  have F1 := Hid.mk' (l1In_any x 0 (total t.pcs) w2)
  rw [show (decide (0 ≤ x) && decide (x ≤ total t.pcs)) = true from by simp [d1, d2]] at F1
  go_wp2_with fail
  refine F1.out.mono ?_
  rintro e w3 ⟨rfl, rfl⟩
  clear F1
  obtain ⟨x0, x1, x2, x3⟩ := cells3 RR1.out
  go_wp2_with fail
  refine (specCopy_own _ t _ T1.out hl).mono ?_
  rintro e w5 ⟨s1, s2, s3, rfl, ⟨ot5, ow5⟩, hb5⟩
  obtain ⟨p1, q1, p2, q2, p3, q3, rfl, rfl, rfl⟩ := ot5.forms
  have N5 := below_new w5 (.cells #[.slice p1 t.base.length q1, .slice p2 t.more.length q2, .slice p3 t.pcs.length q3] 26)
  have O5 := Hid.mk' (ot5.below N5)
  have W5 := Hid.mk' (own_base (base' := w.heap.size) (own_keep ow5 N5) (by omega))
  have X5 := Hid.mk' (row3 w5 26 (.slice p1 t.base.length q1) (.slice p2 t.more.length q2) (.slice p3 t.pcs.length q3))
  have B5 := Hid.mk' ((B1.out.trans (hb5.mono B1.out.size)).trans (N5.mono (by have := B1.out.size; have := hb5.size; omega)))
  have R5 := Hid.mk' (rowB (rowB RR1.out hb5) N5)
  have y5 := hb5.size
  have P5 : Hid (PAt (w5.alloc (.cells #[.slice p1 t.base.length q1, .slice p2 t.more.length q2, .slice p3 t.pcs.length q3] 26)) a3 t.pcs) := (H3'.out.below hb5).below N5
  have D5 : Hid (BAt (w5.alloc (.cells #[.slice p1 t.base.length q1, .slice p2 t.more.length q2, .slice p3 t.pcs.length q3] 26)) ad d) := (HD1.out.below hb5).below N5
  have z4 : w.heap.size + 1 < w5.heap.size := by omega
  obtain ⟨hc5, hf5⟩ := bcell (hb5.trans (N5.mono hb5.size))
  obtain ⟨z0, z1, z2, z3⟩ := cells3 R5.out
  generalize hwa : w5.alloc (.cells #[.slice p1 t.base.length q1, .slice p2 t.more.length q2, .slice p3 t.pcs.length q3] 26) = wa at *
  obtain ⟨g0, g1, g2, g3⟩ := cells3 X5.out
  have k0 := X5.out.frozen 0
  have k1 := X5.out.frozen 1
  have k2 := X5.out.frozen 2
  have l1 := partA_len t.pcs x
  have l2 := partB_len t.pcs x
  have hn0 : ((d.length : Int) == 0) = false := by rw [beq_eq_false_iff_ne]; omega
  have hm0 : ¬ (2000 : Int) < (t.more.length : Int) + (d.length : Int) := by omega
  clear hb5 ot5 ow5 B1 T1 RR1 N5 x0 x1 x2 x3 HD1 H3'
  go_wp2_with fail
  clear hwa
  refine (l1Parts_any a3 c3 t.pcs x _ P5.out TM.out (by omega) (by omega)).mono ?_
  rintro e w6 ⟨va, vb, rfl, two6⟩
  obtain ⟨pb, qb, rfl, hpb⟩ := (OP.of_own two6.ob).1.len
  obtain ⟨pa, qa, rfl, hpa⟩ := (OP.of_own two6.oa).1.len
  have hb6 := two6.bl
  obtain ⟨hc6, hf6⟩ := bcell hb6
  have y6 := hb6.size
  have U6 := Hid.mk' (two6.alloc (.cells #[.bool true, .int .i64 t.more.length, .int .i64 d.length] 72))
  have V6 := Hid.mk' two6
  clear two6 hpb hpa hb6 P5
  have j2 : w5.heap.size < w6.heap.size := by omega
  have j3 : w.heap.size + 1 < wa.heap.size := by omega
  have j4 : w.heap.size + 1 < w6.heap.size := by omega
  have j5 : ¬ w.heap.size + 1 = w5.heap.size := by omega
  have lc : (partA t.pcs x).length + 1 ≤ 100 := by omega
  have il := insPcs_len t x d
  by_cases c40 : 40 < (insPcs t x d).length
  · go_wp2_with (first
      | (at_builtin; refine wpList_append_at _ rfl (.tmp 51) (.tmp 58) 24 rfl wa.heap.size 72 (.agg #[.bool false, .int .i64 0, .int .i64 0]) 3 24 Try.underlying24 Try.info72 rfl (by decide) (.slice pa (partA t.pcs x).length qa) _ _ rfl U6.out.oa _ 1 _ (pcs [(⟨true, t.more.length, d.length⟩ : PC)]) rfl (bcs3 _) (.inr ⟨_, rfl, one_piece' w6 72 (⟨true, t.more.length, d.length⟩ : PC) _ rfl⟩) (pcs_one _) (by unfold maxLen; omega) (by omega) U6.out.sz ?_; intro v7 w7 ho7 hg7 hat7; have T7 := Hid.mk' (U6.out.appA (C := [⟨true, t.more.length, d.length⟩]) ho7 hg7 hat7); obtain ⟨hc7, hf7⟩ := bcell T7.out.bl; have y7 := T7.out.bl.size; have y7' := hg7.size; simp at y7'; clear ho7 hg7 hat7; obtain ⟨p7, q7, rfl, bx7⟩ := (OP.of_own T7.out.oa).1.len; clear bx7; have l7 : (partA t.pcs x ++ [(⟨true, t.more.length, d.length⟩ : PC)]).length = (partA t.pcs x).length + 1 := (by simp); have W7 := Hid.mk' (own_keep W5.out T7.out.bl); have D7 := Hid.mk' (D5.out.below T7.out.bl))
      | (at_builtin; refine wpList_append_at _ rfl (.tmp 61) (.tmp 62) 22 rfl w.heap.size 5 (.int .u8 0) 1 1 Try.underlying22 Try.info5 rfl (by decide) (.slice p2 t.more.length q2) _ _ rfl W7.out _ _ _ (bcs d) rfl (bcs_len d) D7.out.src (bcs_one d) (by unfold maxLen; omega) (by omega) (by omega) ?_; intro v8 w8 ho8 hg8 hat8; have G8 := Hid.mk' hg8; have A8 := Hid.mk' hat8; have O8 := Hid.mk' ho8; obtain ⟨p8, q8, rfl⟩ := own_form ho8; have i8 := O5.out.i2; have c8 := grown_at (b := w5.heap.size) hg8 (by omega) (fun k e => by have := i8 k e; omega); have r8 := grown_at (b := w.heap.size + 1) hg8 (by omega) (fun k e => by have := i8 k e; omega); have c80 := (c8 0).1; have c81 := (c8 1).1; have c82 := (c8 2).1; have f80 := (c8 0).2; have f81 := (c8 1).2; have f82 := (c8 2).2; have y8 := hg8.size; clear ho8 hg8 hat8 i8 c8; have S8 := O5.out.i2; have own8 : Hid ((w8.setCell ⟨w5.heap.size, 1, none⟩ (.slice p8 (t.more.length + d.length) q8)).ownsRow wa.heap.size 72 3 (.slice p7 ((partA t.pcs x).length + 1) q7) ((partA t.pcs x).length + 1) (pcs (partA t.pcs x ++ [(⟨true, t.more.length, d.length⟩ : PC)]))) := (by show World.ownsRow _ _ _ _ _ _ _; rw [← l7]; exact own_blocks (own_blocks T7.out.oa (fun k e hl => G8.out.block k hl (fun e' => by have h1 := own_lo T7.out.oa k e; have h2 := S8 k e'.symm; omega))) (fun k e hl => Below.heap_setCell _ _ _ _ (by have h1 := own_lo T7.out.oa k e; show k ≠ w5.heap.size; omega))); have own9 : Hid (PAt (w8.setCell ⟨w5.heap.size, 1, none⟩ (.slice p8 (t.more.length + d.length) q8)) pb (partB t.pcs x)) := own_at (own_blocks (own_blocks T7.out.ob (fun k e hl => G8.out.block k hl (fun e' => by have h1 := own_lo T7.out.ob k e; have h2 := S8 k e'.symm; omega))) (fun k e hl => Below.heap_setCell _ _ _ _ (by have h1 := own_lo T7.out.ob k e; show k ≠ w5.heap.size; omega))); have lt7 := T7.out.oa.lt; rw [l7] at lt7; have HS8 := Hid.mk' S8; have HL7 := Hid.mk' lt7; clear S8 lt7; have hkA : KeptIn w5.heap.size (w5.heap.size + 1) w8 (w8.setCell ⟨w5.heap.size, 1, none⟩ (.slice p8 (t.more.length + d.length) q8)) := (KeptIn.refl _ _ _).setCell (p := ⟨w5.heap.size, 1, none⟩) (Nat.le_refl _) (Nat.lt_succ_self _) _; have HKA := Hid.mk' hkA; have BA : Hid (Below w.heap.size w (w8.setCell ⟨w5.heap.size, 1, none⟩ (.slice p8 (t.more.length + d.length) q8))) := ((B5.out.trans (T7.out.bl.mono (by omega))).grown G8.out (by omega) (fun k e => by have := HS8.out k e; omega)).trans (hkA.below (by omega) (by omega)); have j8 : w.heap.size + 1 < w8.heap.size := (by omega); have j9 : w5.heap.size < w8.heap.size := (by omega); have j10 : w5.heap.size < w7.heap.size := (by omega); have j11 : w.heap.size + 1 < w7.heap.size := (by omega); have r80 := (r8 0).1; have r81 := (r8 1).1; have r82 := (r8 2).1; have r83 := (r8 3).1; have s80 := (r8 0).2; have s81 := (r8 1).2; have s82 := (r8 2).2; have s83 := (r8 3).2; clear r8 hkA)
      | (at_builtin; refine wpList_append_at _ rfl (.tmp 65) (.tmp 66) 24 rfl wa.heap.size 72 (.agg #[.bool false, .int .i64 0, .int .i64 0]) 3 24 Try.underlying24 Try.info72 rfl (by decide) (.slice p7 ((partA t.pcs x).length + 1) q7) _ _ rfl own8.out _ _ _ (pcs (partB t.pcs x)) rfl (pcs_len _) own9.out.src (pcs_one _) (by unfold maxLen; omega) (by omega) (by simp; omega) ?_; intro v9 w9 ho9 hg9 hat9; have hx9 := grown_cells (B := wa.heap.size) hg9 (own_lo own8.out) (by simp; omega); have hy9 := grown_frozen (B := wa.heap.size) hg9 (own_lo own8.out) (by simp; omega); rw [← l7, ← pcs_append, ← List.length_append] at ho9; rw [show (partA t.pcs x ++ [(⟨true, t.more.length, d.length⟩ : PC)]) ++ partB t.pcs x = insPcs t x d from rfl] at ho9; obtain ⟨p9, q9, rfl, bx9⟩ := (OP.of_own ho9).1.len; clear bx9; have O9 := Hid.mk' ho9; have G9 := Hid.mk' hg9; have A9 := Hid.mk' hat9; have y9 := hg9.size; simp at y9; have j12 : w.heap.size + 1 < w9.heap.size := (by omega); have j13 : w5.heap.size < w9.heap.size := (by omega); clear ho9 hg9 hat9))
    have hkB : KeptIn w5.heap.size (w5.heap.size + 1) w9 (w9.setCell ⟨w5.heap.size, 2, none⟩ (.slice p9 (insPcs t x d).length q9)) := (KeptIn.refl _ _ _).setCell (p := ⟨w5.heap.size, 2, none⟩) (Nat.le_refl _) (Nat.lt_succ_self _) _
    have BC := Hid.mk' ((BA.out.grown G9.out (by simp; omega) (fun k e => by have := own_lo own8.out k e; omega)).trans (hkB.below (B := w.heap.size) (by omega) (by omega)))
    refine (l1Bad_any 2 _).mono ?_
    rintro e w10 ⟨rfl, hb10⟩
    have B10 := Hid.mk' (BC.out.trans (hb10.mono BC.out.size))
    obtain ⟨hc10, hf10⟩ := bcell hb10
    simp at hc10 hf10
    have y10 := hb10.size
    simp at y10
    clear hb10 BC hkB
    go_wp2
    refine bodyPost_ret (v := .agg #[.int .i64 2, .slice none 0 0, .slice none 0 0, .slice none 0 0]) (by simp [results, Try.results16, go_sem, *]) rfl ?_
    have hk := kept4 w10 (w.heap.size + 1) 0 1 2 3 (.int .i64 2) (.slice none 0 0) (.slice none 0 0) (.slice none 0 0)
    try rw [if_pos c40, if_pos c40]
    exact ⟨_, _, _, rfl, OT.empty _ _ _, B10.out.trans (hk.below (by omega) (by omega))⟩
  · go_wp2_with (first
      | (at_builtin; refine wpList_append_at _ rfl (.tmp 51) (.tmp 58) 24 rfl wa.heap.size 72 (.agg #[.bool false, .int .i64 0, .int .i64 0]) 3 24 Try.underlying24 Try.info72 rfl (by decide) (.slice pa (partA t.pcs x).length qa) _ _ rfl U6.out.oa _ 1 _ (pcs [(⟨true, t.more.length, d.length⟩ : PC)]) rfl (bcs3 _) (.inr ⟨_, rfl, one_piece' w6 72 (⟨true, t.more.length, d.length⟩ : PC) _ rfl⟩) (pcs_one _) (by unfold maxLen; omega) (by omega) U6.out.sz ?_; intro v7 w7 ho7 hg7 hat7; have T7 := Hid.mk' (U6.out.appA (C := [⟨true, t.more.length, d.length⟩]) ho7 hg7 hat7); obtain ⟨hc7, hf7⟩ := bcell T7.out.bl; have y7 := T7.out.bl.size; have y7' := hg7.size; simp at y7'; clear ho7 hg7 hat7; obtain ⟨p7, q7, rfl, bx7⟩ := (OP.of_own T7.out.oa).1.len; clear bx7; have l7 : (partA t.pcs x ++ [(⟨true, t.more.length, d.length⟩ : PC)]).length = (partA t.pcs x).length + 1 := (by simp); have W7 := Hid.mk' (own_keep W5.out T7.out.bl); have D7 := Hid.mk' (D5.out.below T7.out.bl))
      | (at_builtin; refine wpList_append_at _ rfl (.tmp 61) (.tmp 62) 22 rfl w.heap.size 5 (.int .u8 0) 1 1 Try.underlying22 Try.info5 rfl (by decide) (.slice p2 t.more.length q2) _ _ rfl W7.out _ _ _ (bcs d) rfl (bcs_len d) D7.out.src (bcs_one d) (by unfold maxLen; omega) (by omega) (by omega) ?_; intro v8 w8 ho8 hg8 hat8; have G8 := Hid.mk' hg8; have A8 := Hid.mk' hat8; have O8 := Hid.mk' ho8; obtain ⟨p8, q8, rfl⟩ := own_form ho8; have i8 := O5.out.i2; have c8 := grown_at (b := w5.heap.size) hg8 (by omega) (fun k e => by have := i8 k e; omega); have r8 := grown_at (b := w.heap.size + 1) hg8 (by omega) (fun k e => by have := i8 k e; omega); have c80 := (c8 0).1; have c81 := (c8 1).1; have c82 := (c8 2).1; have f80 := (c8 0).2; have f81 := (c8 1).2; have f82 := (c8 2).2; have y8 := hg8.size; clear ho8 hg8 hat8 i8 c8; have S8 := O5.out.i2; have own8 : Hid ((w8.setCell ⟨w5.heap.size, 1, none⟩ (.slice p8 (t.more.length + d.length) q8)).ownsRow wa.heap.size 72 3 (.slice p7 ((partA t.pcs x).length + 1) q7) ((partA t.pcs x).length + 1) (pcs (partA t.pcs x ++ [(⟨true, t.more.length, d.length⟩ : PC)]))) := (by show World.ownsRow _ _ _ _ _ _ _; rw [← l7]; exact own_blocks (own_blocks T7.out.oa (fun k e hl => G8.out.block k hl (fun e' => by have h1 := own_lo T7.out.oa k e; have h2 := S8 k e'.symm; omega))) (fun k e hl => Below.heap_setCell _ _ _ _ (by have h1 := own_lo T7.out.oa k e; show k ≠ w5.heap.size; omega))); have own9 : Hid (PAt (w8.setCell ⟨w5.heap.size, 1, none⟩ (.slice p8 (t.more.length + d.length) q8)) pb (partB t.pcs x)) := own_at (own_blocks (own_blocks T7.out.ob (fun k e hl => G8.out.block k hl (fun e' => by have h1 := own_lo T7.out.ob k e; have h2 := S8 k e'.symm; omega))) (fun k e hl => Below.heap_setCell _ _ _ _ (by have h1 := own_lo T7.out.ob k e; show k ≠ w5.heap.size; omega))); have lt7 := T7.out.oa.lt; rw [l7] at lt7; have HS8 := Hid.mk' S8; have HL7 := Hid.mk' lt7; clear S8 lt7; have hkA : KeptIn w5.heap.size (w5.heap.size + 1) w8 (w8.setCell ⟨w5.heap.size, 1, none⟩ (.slice p8 (t.more.length + d.length) q8)) := (KeptIn.refl _ _ _).setCell (p := ⟨w5.heap.size, 1, none⟩) (Nat.le_refl _) (Nat.lt_succ_self _) _; have HKA := Hid.mk' hkA; have BA : Hid (Below w.heap.size w (w8.setCell ⟨w5.heap.size, 1, none⟩ (.slice p8 (t.more.length + d.length) q8))) := ((B5.out.trans (T7.out.bl.mono (by omega))).grown G8.out (by omega) (fun k e => by have := HS8.out k e; omega)).trans (hkA.below (by omega) (by omega)); have j8 : w.heap.size + 1 < w8.heap.size := (by omega); have j9 : w5.heap.size < w8.heap.size := (by omega); have j10 : w5.heap.size < w7.heap.size := (by omega); have j11 : w.heap.size + 1 < w7.heap.size := (by omega); have r80 := (r8 0).1; have r81 := (r8 1).1; have r82 := (r8 2).1; have r83 := (r8 3).1; have s80 := (r8 0).2; have s81 := (r8 1).2; have s82 := (r8 2).2; have s83 := (r8 3).2; clear r8 hkA)
      | (at_builtin; refine wpList_append_at _ rfl (.tmp 65) (.tmp 66) 24 rfl wa.heap.size 72 (.agg #[.bool false, .int .i64 0, .int .i64 0]) 3 24 Try.underlying24 Try.info72 rfl (by decide) (.slice p7 ((partA t.pcs x).length + 1) q7) _ _ rfl own8.out _ _ _ (pcs (partB t.pcs x)) rfl (pcs_len _) own9.out.src (pcs_one _) (by unfold maxLen; omega) (by omega) (by simp; omega) ?_; intro v9 w9 ho9 hg9 hat9; have hx9 := grown_cells (B := wa.heap.size) hg9 (own_lo own8.out) (by simp; omega); have hy9 := grown_frozen (B := wa.heap.size) hg9 (own_lo own8.out) (by simp; omega); rw [← l7, ← pcs_append, ← List.length_append] at ho9; rw [show (partA t.pcs x ++ [(⟨true, t.more.length, d.length⟩ : PC)]) ++ partB t.pcs x = insPcs t x d from rfl] at ho9; obtain ⟨p9, q9, rfl, bx9⟩ := (OP.of_own ho9).1.len; clear bx9; have O9 := Hid.mk' ho9; have G9 := Hid.mk' hg9; have A9 := Hid.mk' hat9; have y9 := hg9.size; simp at y9; have j12 : w.heap.size + 1 < w9.heap.size := (by omega); have j13 : w5.heap.size < w9.heap.size := (by omega); clear ho9 hg9 hat9))
    refine bodyPost_ret (v := .agg #[.int .i64 0, .slice p1 t.base.length q1, .slice p8 (t.more.length + d.length) q8, .slice p9 (insPcs t x d).length q9]) (by simp [results, Try.results16, go_sem, *]) rfl ?_
    try rw [if_neg c40, if_neg c40]
    have hkB : KeptIn w5.heap.size (w5.heap.size + 1) w9 (w9.setCell ⟨w5.heap.size, 2, none⟩ (.slice p9 (insPcs t x d).length q9)) := (KeptIn.refl _ _ _).setCell (p := ⟨w5.heap.size, 2, none⟩) (Nat.le_refl _) (Nat.lt_succ_self _) _
    have hkC := kept4 (w9.setCell ⟨w5.heap.size, 2, none⟩ (.slice p9 (insPcs t x d).length q9)) (w.heap.size + 1) 0 1 2 3 (.int .i64 0) (.slice p1 t.base.length q1) (.slice p8 (t.more.length + d.length) q8) (.slice p9 (insPcs t x d).length q9)
    have sa := HKA.out.size
    have sb := hkB.size
    have sc := hkC.size
    have O7 := O5.out.below T7.out.bl
    have in8 : ∀ k, (Value.ownBlock (.slice p8 (t.more.length + d.length) q8)) = some k → (w3.heap.size ≤ k ∧ k < w5.heap.size) ∨ k = w7.heap.size := by
      intro k e
      rcases A8.out with h | h
      · exact .inl (HS8.out k (h.symm.trans e))
      · rw [h] at e; cases e; exact .inr rfl
    have in9 : ∀ k, (Value.ownBlock (.slice p9 (insPcs t x d).length q9)) = some k → (wa.heap.size ≤ k ∧ k < w7.heap.size) ∨ k = w8.heap.size := by
      intro k e
      rcases A9.out with h | h
      · exact .inl (HL7.out k (h.symm.trans e))
      · rw [h] at e
        right
        have := Option.some.inj e
        rw [← this]
        exact World.heap_size_setCell' _ _ _
    have row9 : ∀ k, some k = (Value.ownBlock (.slice p7 ((partA t.pcs x).length + 1) q7)) → wa.heap.size ≤ k ∧ k < w7.heap.size := fun k e => HL7.out k e.symm
    have q1_ : OB w8 (.slice p1 t.base.length q1) t.base := O7.o1.keep fun k e hl => G8.out.block k hl (fun e' => O7.a12 k e e'.symm)
    have q2_ := (q1_.kept O7.i1 HKA.out (.inl (Nat.le_refl _))).keep (w' := w9) fun k e hl => G9.out.block k hl (fun e' => by have h1 := row9 k e'; have h2 := O7.i1 k e; omega)
    have q3_ := (q2_.kept O7.i1 hkB (.inl (Nat.le_refl _))).kept O7.i1 hkC (.inr (by omega))
    have e8 : OB w8 (.slice p8 (t.more.length + d.length) q8) (t.more ++ d) := (OB.of_own (by rw [List.length_append, bcs_append]; exact O8.out)).1
    have m1_ := e8.keep (w' := w8.setCell ⟨w5.heap.size, 1, none⟩ (.slice p8 (t.more.length + d.length) q8)) fun k e hl => HKA.out.block k hl (by have := in8 k e; omega)
    have m2_ := m1_.keep (w' := w9) fun k e hl => G9.out.block k hl (fun e' => by have h1 := row9 k e'; have h2 := in8 k e; omega)
    have m3_ := m2_.keep (w' := w9.setCell ⟨w5.heap.size, 2, none⟩ (.slice p9 (insPcs t x d).length q9)) fun k e hl => hkB.block k hl (by have := in8 k e; omega)
    have m4_ := m3_.keep fun k e hl => hkC.block k hl (by have := in8 k e; omega)
    have e9 := (OP.of_own O9.out).1
    have n1_ := e9.keep (w' := w9.setCell ⟨w5.heap.size, 2, none⟩ (.slice p9 (insPcs t x d).length q9)) fun k e hl => hkB.block k hl (by have := in9 k e; omega)
    have n2_ := n1_.keep fun k e hl => hkC.block k hl (by have := in9 k e; omega)
    have l8 := e8.lt
    have l9 := e9.lt
    refine ⟨_, _, _, rfl, ⟨q3_, m4_, n2_, O7.i1.mono (by omega) (by omega), fun k e => ?_, fun k e => ?_, fun k e e' => ?_, fun k e e' => ?_, fun k e e' => ?_⟩, ?_⟩
    · have h1 := in8 k e; have h2 := l8 k e; omega
    · have h1 := in9 k e; have h2 := l9 k e; omega
    · have h1 := in8 k e'; have h2 := O7.i1 k e
      rcases A8.out with h | h
      · exact O7.a12 k e (h.symm.trans e')
      · rw [h] at e'
        have h3 := Option.some.inj e'
        omega
    · have h1 := in9 k e'; have h2 := O7.i1 k e; omega
    · have h1 := in8 k e; have h2 := in9 k e'; have h3 := l8 k e; omega
    · exact ((BA.out.grown G9.out (by simp; omega) (fun k e => by have := own_lo own8.out k e; omega)).trans (hkB.below (B := w.heap.size) (by omega) (by omega))).trans (hkC.below (B := w.heap.size) (by omega) (by omega))

theorem specIns_any (v : Value) (t : TB) (x : Int) (ad : Option Addr) (cd : Nat) (d : List Int) (w : World) (ht : TAtC w v t) (b1 : -9223372036854775808 ≤ x) (b2 : x ≤ 9223372036854775807) (hd : BAt w ad d) (hl : (t.base.length : Int) + t.more.length + t.pcs.length ≤ 1048576) (hld : (d.length : Int) ≤ 1048576) :
    Calls Try.prog 16 #[v, .int .i64 x, .slice ad d.length cd] w fun e w' => ∃ s1 s2 s3, e = .returned (.agg #[.int .i64 (insCode t x d), s1, s2, s3]) ∧ OT w.heap.size w'.heap.size w' s1 s2 s3 (insT t x d) ∧ Below w.heap.size w w' := by
  have bad : ∀ c : Int, ¬ c = 0 → insFault t x d = c → Calls Try.prog 16 #[v, .int .i64 x, .slice ad d.length cd] w (fun e w' => e = .returned (.agg #[.int .i64 c, .slice none 0 0, .slice none 0 0, .slice none 0 0]) ∧ Below w.heap.size w w') → Calls Try.prog 16 #[v, .int .i64 x, .slice ad d.length cd] w fun e w' => ∃ s1 s2 s3, e = .returned (.agg #[.int .i64 (insCode t x d), s1, s2, s3]) ∧ OT w.heap.size w'.heap.size w' s1 s2 s3 (insT t x d) ∧ Below w.heap.size w w' := by
    intro c hc hf h
    unfold insCode insT
    rw [hf, if_neg hc, if_neg hc]
    refine h.mono ?_
    rintro e w' ⟨rfl, hb⟩
    exact ⟨_, _, _, rfl, OT.empty _ _ _, hb⟩
  by_cases hz : fault t = 0
  rotate_left
  · exact bad _ hz (by unfold insFault; rw [if_neg hz]) (specIns_bad v t x ad cd d w ht.at b1 b2 hd hl hld hz)
  by_cases hr : 0 ≤ x ∧ x ≤ total t.pcs
  rotate_left
  · exact bad 3 (by decide) (by unfold insFault; rw [if_pos hz, if_neg hr]) (specIns_range v t x ad cd d w ht.at b1 b2 hd hl hld hz hr)
  by_cases hg : 240 < total t.pcs + d.length
  · exact bad 6 (by decide) (by unfold insFault; rw [if_pos hz, if_pos hr, if_pos hg]) (specIns_large v t x ad cd d w ht.at b1 b2 hd hl hld hz hr hg)
  by_cases hn : d.length = 0
  · have hf : insFault t x d = 0 := by unfold insFault; rw [if_pos hz, if_pos hr, if_neg hg, if_neg (fun h => h.1 hn)]
    unfold insCode insT
    rw [if_pos hf, if_pos hf, if_pos hn, if_pos hn]
    exact specIns_copy v t x ad cd d w ht.at b1 b2 hd hl hld hz hr hg hn
  by_cases hm : 2000 < t.more.length + d.length
  · exact bad 2 (by decide) (by unfold insFault; rw [if_pos hz, if_pos hr, if_neg hg, if_pos ⟨hn, hm⟩]) (specIns_many v t x ad cd d w ht.at b1 b2 hd hl hld hz hr hg hn hm)
  · have hf : insFault t x d = 0 := by unfold insFault; rw [if_pos hz, if_pos hr, if_neg hg, if_neg (fun h => hm h.2)]
    unfold insCode insT
    rw [if_pos hf, if_pos hf, if_neg hn, if_neg hn]
    exact specIns_cut v t x ad cd d w ht.at b1 b2 hd hl hld hz hr hg hn hm

end Go.Proofs.Ytahkneghmgmnbaa
