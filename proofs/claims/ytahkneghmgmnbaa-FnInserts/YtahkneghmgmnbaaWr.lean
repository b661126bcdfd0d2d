/- Walks: DeleteText, the program's side. -/
import Derived.Test.YtahkneghmgmnbaaWo
namespace Go.Proofs.Ytahkneghmgmnbaa
open Go.RowKit
set_option linter.unusedVariables false

def delFault (t : TB) (x n : Int) : Int := if fault t = 0 then (if delIn t x n = true then 0 else 3) else fault t
theorem delIn_iff (t : TB) (x n : Int) (hz : fault t = 0) : delIn t x n = true ↔ 0 ≤ x ∧ 0 ≤ n ∧ n ≤ total t.pcs - x := by
  unfold delIn
  simp only [Bool.and_eq_true, decide_eq_true_eq]
  omega

set_option maxHeartbeats 800000 in
theorem deleteFault_any (v : Value) (t : TB) (x n : Int) (w : World) (ht : TAt w v t) (hwf : WFT t) (b1 : -9223372036854775808 ≤ x) (b2 : x ≤ 9223372036854775807) (b3 : -9223372036854775808 ≤ n) (b4 : n ≤ 9223372036854775807) (hl : (t.base.length : Int) + t.more.length + t.pcs.length ≤ 1048576) :
    Calls Try.prog 55 #[v, .int .i64 x, .int .i64 n] w fun e w' => e = .returned (.int .i64 (delFault t x n)) ∧ Below w.heap.size w w' := by
  obtain ⟨a1, a2, a3, c1, c2, c3, rfl, h1, h2, h3⟩ := id ht
  have B0 := (Below.refl w.heap.size w).alloc (Nat.le_refl _) (.cells #[.slice a1 t.base.length c1, .slice a2 t.more.length c2, .slice a3 t.pcs.length c3] 26)
  have R0 := row3 w 26 (.slice a1 t.base.length c1) (.slice a2 t.more.length c2) (.slice a3 t.pcs.length c3)
  have K := tableFault_any _ t _ (ht.below B0) hwf hl
  have BB := Hid.mk' B0
  have P0 := Hid.mk' (h3.below B0)
  have RR := Hid.mk' R0
  clear h1 h2 h3 ht hwf
  unfold delFault
  by_cases hz : fault t = 0
  · rw [if_pos hz]
    rw [hz] at K
    have KK := Hid.mk' K
    have S := Hid.mk' (fault_small hz)
    have tt := S.out.total_le t.pcs.length (Nat.le_refl _)
    rw [List.take_length] at tt
    have tl : total t.pcs ≤ 240 := (fault_zero hz).2.2.2.2
    have DI := Hid.mk' (delIn_iff t x n hz)
    have kl : (t.pcs.length : Int) ≤ 1048576 := by omega
    clear K hz B0 R0
    go_enter Try.func55, Try.ntmps55
    go_wp2_with fail
    refine KK.out.mono ?_
    rintro e w1 ⟨rfl, hb1⟩
    have B1 := Hid.mk' (BB.out.trans (hb1.mono BB.out.size))
    have P1 := Hid.mk' (P0.out.below hb1)
    obtain ⟨x0, x1, x2, x3⟩ := cells3 (rowB RR.out hb1)
    clear KK hb1 BB P0 RR
    by_cases d1 : x < 0
    · have Z := Hid.mk' (show ¬ delIn t x n = true by rw [DI.out]; omega)
      go_wp2_with fail
      go_ret
      try rw [if_neg Z.out]
      exact ⟨rfl, B1.out⟩
    by_cases d2 : n < 0
    · have Z := Hid.mk' (show ¬ delIn t x n = true by rw [DI.out]; omega)
      go_wp2_with fail
      go_ret
      try rw [if_neg Z.out]
      exact ⟨rfl, B1.out⟩
    go_wp2_with fail
    refine (chainOf_any a3 c3 t.pcs _ P1.out kl).mono ?_
    rintro e w2 ⟨b, rfl, g2, r2, hb2⟩
    have B2 := Hid.mk' (B1.out.trans (hb2.mono B1.out.size))
    have R2 := Hid.mk' r2
    clear hb2 r2 B1 P1 x0 x1 x2 x3
    go_wp2_with fail
    refine (size_any _ _ t.pcs _ (.of_row R2.out) S.out).mono ?_
    rintro e w3 ⟨rfl, hb3⟩
    have B3 := Hid.mk' (B2.out.trans (hb3.mono B2.out.size))
    clear hb3 R2 B2 S
    by_cases d3 : n ≤ total t.pcs - x
    · have Z := Hid.mk' (show delIn t x n = true by rw [DI.out]; omega)
      generalize total t.pcs = tot at *
      go_wp2
      go_ret
      try rw [if_pos Z.out]
      exact ⟨rfl, B3.out⟩
    · have Z := Hid.mk' (show ¬ delIn t x n = true by rw [DI.out]; omega)
      generalize total t.pcs = tot at *
      go_wp2
      go_ret
      try rw [if_neg Z.out]
      exact ⟨rfl, B3.out⟩
  · rw [if_neg hz]
    have KK := Hid.mk' K
    have hb : (fault t != 0) = true := by rw [bne_iff_ne]; exact hz
    clear K hz B0 R0 RR P0
    go_enter Try.func55, Try.ntmps55
    go_wp2_with fail
    refine KK.out.mono ?_
    rintro e w1 ⟨rfl, hb1⟩
    have B1 := Hid.mk' (BB.out.trans (hb1.mono BB.out.size))
    clear KK hb1 BB
    go_wp2
    go_ret
    exact ⟨rfl, B1.out⟩

set_option maxHeartbeats 800000 in
theorem implDel_bad (v : Value) (t : TB) (x n : Int) (w : World) (ht : TAt w v t) (hwf : WFT t) (b1 : -9223372036854775808 ≤ x) (b2 : x ≤ 9223372036854775807) (b3 : -9223372036854775808 ≤ n) (b4 : n ≤ 9223372036854775807) (hl : (t.base.length : Int) + t.more.length + t.pcs.length ≤ 1048576) (hz : ¬ delFault t x n = 0) :
    Calls Try.prog 19 #[v, .int .i64 x, .int .i64 n] w fun e w' => e = .returned (.agg #[.int .i64 (delFault t x n), .slice none 0 0, .slice none 0 0, .slice none 0 0]) ∧ Below w.heap.size w w' := by
  obtain ⟨a1, a2, a3, c1, c2, c3, rfl, h1, h2, h3⟩ := id ht
  have B0 := ((Below.refl w.heap.size w).alloc (Nat.le_refl _) (.cells #[.slice a1 t.base.length c1, .slice a2 t.more.length c2, .slice a3 t.pcs.length c3] 26)).alloc (by simp) (.cells #[.int .i64 0, .slice none 0 0, .slice none 0 0, .slice none 0 0] 30)
  have R0 := (row3 w 26 (.slice a1 t.base.length c1) (.slice a2 t.more.length c2) (.slice a3 t.pcs.length c3)).alloc (.cells #[.int .i64 0, .slice none 0 0, .slice none 0 0, .slice none 0 0] 30)
  have K := deleteFault_any _ t x n _ (ht.below B0) hwf b1 b2 b3 b4 hl
  have KK := Hid.mk' K
  have BB := Hid.mk' B0
  have hb : (delFault t x n != 0) = true := by rw [bne_iff_ne]; exact hz
  clear K B0 R0 h1 h2 h3 ht hwf hz
  generalize delFault t x n = cd at *
  go_enter Try.func19, Try.ntmps19
  go_wp2_with fail
  refine KK.out.mono ?_
  rintro e w1 ⟨rfl, hb1⟩
  have B1 := Hid.mk' (BB.out.trans (hb1.mono BB.out.size))
  obtain ⟨hc1, hf1⟩ := bcell hb1
  simp at hc1 hf1
  have y := hb1.size
  simp at y
  have y' : w.heap.size + 1 < w1.heap.size := by omega
  clear KK BB hb1
  go_wp2
  refine bodyPost_ret (v := .agg #[.int .i64 cd, .slice none 0 0, .slice none 0 0, .slice none 0 0]) (by simp [results, Try.results19, go_sem, *]) rfl ?_
  have hk := kept4 w1 (w.heap.size + 1) 0 1 2 3 (.int .i64 cd) (.slice none 0 0) (.slice none 0 0) (.slice none 0 0)
  exact ⟨rfl, B1.out.trans (hk.below (by omega) (by omega))⟩

set_option maxHeartbeats 800000 in
theorem implDel_copy (v : Value) (t : TB) (x n : Int) (w : World) (ht : TAt w v t) (hwf : WFT t) (b1 : -9223372036854775808 ≤ x) (b2 : x ≤ 9223372036854775807) (b3 : -9223372036854775808 ≤ n) (b4 : n ≤ 9223372036854775807) (hl : (t.base.length : Int) + t.more.length + t.pcs.length ≤ 1048576) (hz : delFault t x n = 0) (hn : n = 0) :
    Calls Try.prog 19 #[v, .int .i64 x, .int .i64 n] w fun e w' => ∃ s1 s2 s3, e = .returned (.agg #[.int .i64 0, s1, s2, s3]) ∧ OT w.heap.size w'.heap.size w' s1 s2 s3 t ∧ Below w.heap.size w w' := by
  subst hn
  obtain ⟨a1, a2, a3, c1, c2, c3, rfl, h1, h2, h3⟩ := id ht
  have B0 := ((Below.refl w.heap.size w).alloc (Nat.le_refl _) (.cells #[.slice a1 t.base.length c1, .slice a2 t.more.length c2, .slice a3 t.pcs.length c3] 26)).alloc (by simp) (.cells #[.int .i64 0, .slice none 0 0, .slice none 0 0, .slice none 0 0] 30)
  have R0 := (row3 w 26 (.slice a1 t.base.length c1) (.slice a2 t.more.length c2) (.slice a3 t.pcs.length c3)).alloc (.cells #[.int .i64 0, .slice none 0 0, .slice none 0 0, .slice none 0 0] 30)
  have K := deleteFault_any _ t x 0 _ (ht.below B0) hwf b1 b2 b3 b4 hl
  rw [hz] at K
  have KK := Hid.mk' K
  have BB := Hid.mk' B0
  have RR := Hid.mk' R0
  have T0 := Hid.mk' (ht.below B0)
  clear K B0 R0 h1 h2 h3 ht hwf hz
  go_enter Try.func19, Try.ntmps19
  go_wp2_with fail
  refine KK.out.mono ?_
  rintro e w1 ⟨rfl, hb1⟩
  have B1 := Hid.mk' (BB.out.trans (hb1.mono BB.out.size))
  have T1 := Hid.mk' (T0.out.below hb1)
  obtain ⟨x0, x1, x2, x3⟩ := cells3 (rowB RR.out hb1)
  obtain ⟨hc1, hf1⟩ := bcell hb1
  simp at hc1 hf1
  have y := hb1.size
  simp at y
  have y' : w.heap.size + 1 < w1.heap.size := by omega
  clear KK BB hb1 T0 RR
  go_wp2_with fail
  refine (implCopy_any _ t _ T1.out hl).mono ?_
  rintro e w5 ⟨s1, s2, s3, rfl, ot5, hb5⟩
  have O5 := Hid.mk' ot5
  obtain ⟨p1, q1, p2, q2, p3, q3, rfl, rfl, rfl⟩ := ot5.forms
  have B5 := Hid.mk' (B1.out.trans (hb5.mono B1.out.size))
  obtain ⟨hc5, hf5⟩ := bcell hb5
  have y5 := hb5.size
  have y5' : w.heap.size + 1 < w5.heap.size := by omega
  clear hb5 ot5 B1 T1
  go_wp2
  refine bodyPost_ret (v := .agg #[.int .i64 0, .slice p1 t.base.length q1, .slice p2 t.more.length q2, .slice p3 t.pcs.length q3]) (by simp [results, Try.results19, go_sem, *]) rfl ?_
  have hk := kept4 w5 (w.heap.size + 1) 0 1 2 3 (.int .i64 0) (.slice p1 t.base.length q1) (.slice p2 t.more.length q2) (.slice p3 t.pcs.length q3)
  exact ⟨_, _, _, rfl, (O5.out.kept hk (.inr (by omega))).mono (by omega) hk.size, B5.out.trans (hk.below (by omega) (by omega))⟩

theorem own_len {w : World} {base : Nat} {e : TypeId} {v : Value} {l : List PC} (h : w.ownsRow base e 3 v l.length (pcs l)) : ∃ a c, v = .slice a l.length c ∧ PAt w a l := by
  obtain ⟨_, h | ⟨g, cap, cur, rfl, hb, hg, hn, hm, hs, ht⟩⟩ := h
  · obtain ⟨rfl, h0⟩ := h
    have := List.eq_nil_of_length_eq_zero h0
    subst this
    exact ⟨none, 0, rfl, .inl rfl⟩
  · have hr : w.rowIs g e (cap * 3) (fun i => cur.toList.getD i undef) := ⟨cur, hg, by omega, fun i hi => by
      have : i < cur.size := by omega
      simp [this]⟩
    have hf : ∀ i, i < l.length * 3 → cur.toList.getD i undef = pv l i := fun i hi => by
      have e := pcs_get l i hi
      rw [← ht, List.getElem?_take, if_pos (by omega)] at e
      simp only [List.getD_eq_getElem?_getD, e, Option.getD_some]
    exact ⟨_, _, rfl, .inr ⟨g, 0, rfl, hr.lt, fun k hk => by
      simp only [Nat.zero_add]
      exact ⟨by rw [hr.cell (by omega), hf _ (by omega), pv0], by rw [hr.cell (by omega), hf _ (by omega), pv1], by rw [hr.cell (by omega), hf _ (by omega), pv2]⟩⟩⟩

set_option maxRecDepth 100000 in
set_option maxHeartbeats 2000000 in
theorem implDel_cut (v : Value) (t : TB) (x n : Int) (w : World) (ht : TAt w v t) (hwf : WFT t) (b1 : -9223372036854775808 ≤ x) (b2 : x ≤ 9223372036854775807) (b3 : -9223372036854775808 ≤ n) (b4 : n ≤ 9223372036854775807) (hl : (t.base.length : Int) + t.more.length + t.pcs.length ≤ 1048576) (hf : delFault t x n = 0) (hz : fault t = 0) (hr : delIn t x n = true) (hn : ¬ n = 0) :
    Calls Try.prog 19 #[v, .int .i64 x, .int .i64 n] w fun e w' => ∃ s1 s2 s3, e = .returned (.agg #[.int .i64 (if 40 < (delPcs t.pcs x n).length then 2 else 0), s1, s2, s3]) ∧ OT w.heap.size w'.heap.size w' s1 s2 s3 (if 40 < (delPcs t.pcs x n).length then ⟨[], [], []⟩ else ⟨t.base, t.more, delPcs t.pcs x n⟩) ∧ Below w.heap.size w w' := by
  obtain ⟨a1, a2, a3, c1, c2, c3, rfl, h1, h2, h3⟩ := id ht
  have B0 := ((Below.refl w.heap.size w).alloc (Nat.le_refl _) (.cells #[.slice a1 t.base.length c1, .slice a2 t.more.length c2, .slice a3 t.pcs.length c3] 26)).alloc (by simp) (.cells #[.int .i64 0, .slice none 0 0, .slice none 0 0, .slice none 0 0] 30)
  have R0 := (row3 w 26 (.slice a1 t.base.length c1) (.slice a2 t.more.length c2) (.slice a3 t.pcs.length c3)).alloc (.cells #[.int .i64 0, .slice none 0 0, .slice none 0 0, .slice none 0 0] 30)
  have K := deleteFault_any _ t x n _ (ht.below B0) hwf b1 b2 b3 b4 hl
  rw [hf] at K
  have KK := Hid.mk' K
  have BB := Hid.mk' B0
  have RR := Hid.mk' R0
  have H1 := Hid.mk' (h1.below B0)
  have H2 := Hid.mk' (h2.below B0)
  have H3 := Hid.mk' (h3.below B0)
  have TM := Hid.mk' (tame_of_fault hz)
  have TM2 := Hid.mk' (tame_partB hz x)
  have tl : total t.pcs ≤ 240 := (fault_zero hz).2.2.2.2
  have d := (delIn_iff t x n hz).1 hr
  obtain ⟨d1, d2, d3⟩ := d
  have fz := fault_zero hz
  have l0 : t.pcs.length ≤ 40 := Nat.le_of_not_lt fz.2.2.1
  have l1 := partA_len t.pcs x
  have l2 := partB_len t.pcs x
  have l3 := partB_len (partB t.pcs x) n
  have nz : (n == 0) = false := by rw [beq_eq_false_iff_ne]; exact hn
  have k1 : (t.base.length : Int) ≤ 1048576 := by omega
  have k2 : (t.more.length : Int) ≤ 1048576 := by omega
  have k3 : (t.pcs.length : Int) ≤ 1048576 := by omega
  clear K B0 R0 h1 h2 h3 ht hwf hz hf hr hn fz
  go_enter Try.func19, Try.ntmps19
  go_wp2_with fail
  refine KK.out.mono ?_
  rintro e w1 ⟨rfl, hb1⟩
  have B1 := Hid.mk' (BB.out.trans (hb1.mono BB.out.size))
  have G1 := Hid.mk' (H1.out.below hb1)
  have G2 := Hid.mk' (H2.out.below hb1)
  have G3 := Hid.mk' (H3.out.below hb1)
  have R1 := Hid.mk' (rowB RR.out hb1)
  obtain ⟨x0, x1, x2, x3⟩ := cells3 R1.out
  obtain ⟨hc1, hf1⟩ := bcell hb1
  simp at hc1 hf1
  have y := hb1.size
  simp at y
  have y' : w.heap.size + 1 < w1.heap.size := by omega
  clear KK BB hb1 H1 H2 H3 RR
  go_wp2_with fail
  refine (chainOf_any a3 c3 t.pcs _ G3.out k3).mono ?_
  rintro e w2 ⟨gb, rfl, g2, r2, hb2⟩
  have E2 := Hid.mk' hb2
  have Q2 := Hid.mk' r2
  obtain ⟨hc2, hf2⟩ := bcell hb2
  have y2 := hb2.size
  clear hb2 r2 G3
  go_wp2_with fail
  refine (split_any _ _ t.pcs x _ (.of_row Q2.out) TM.out (by omega) (by omega)).mono ?_
  rintro e w3 ⟨va, vb, rfl, two3⟩
  obtain ⟨pb, qb, rfl, hpb⟩ := own_len two3.ob
  obtain ⟨pa, qa, rfl, hpa⟩ := own_len two3.oa
  have U3 := Hid.mk' two3
  have HP3 := Hid.mk' hpb
  obtain ⟨hc3, hf3⟩ := bcell two3.bl
  have y3 := two3.bl.size
  clear two3 hpb hpa Q2
  go_wp2_with fail
  refine (split_any pb qb (partB t.pcs x) n _ HP3.out TM2.out (by omega) (by omega)).mono ?_
  rintro e w4 ⟨vc, vd, rfl, two4⟩
  obtain ⟨pd, qd, rfl, hpd⟩ := own_len two4.ob
  obtain ⟨pc_, qc, rfl, hpc⟩ := own_len two4.oa
  have hb4 := two4.bl
  have own4 := Hid.mk' (own_keep U3.out.oa hb4)
  obtain ⟨hc4, hf4⟩ := bcell hb4
  have y4 := hb4.size
  have HD := Hid.mk' hpd
  have HB4 := Hid.mk' hb4
  have sz4 : w2.heap.size ≤ w4.heap.size := by omega
  have j2 : w.heap.size + 1 < w2.heap.size := by omega
  have j3 : w.heap.size + 1 < w3.heap.size := by omega
  have j4 : w.heap.size + 1 < w4.heap.size := by omega
  have C4 := Hid.mk' ((E2.out.trans ((U3.out.bl.trans (HB4.out.mono U3.out.sz)).mono y2)))
  clear two4 hpd hpc hb4 HP3
  by_cases c40 : 40 < (delPcs t.pcs x n).length
  · go_wp2_with (at_builtin; refine wpList_append_at _ rfl (.tmp 39) (.tmp 40) 61 rfl w2.heap.size 66 (.agg #[.bool false, .int .i64 0, .int .i64 0]) 3 24 under_chain Try.info66 rfl (by decide) _ _ _ rfl own4.out _ _ _ (pcs (partB (partB t.pcs x) n)) rfl (pcs_len _) HD.out.src (pcs_one _) (by unfold maxLen; omega) (by omega) sz4 ?_; intro v8 w8 ho8 hg8 hat8; have hx8 := grown_cells (B := w2.heap.size) hg8 (own_lo own4.out) sz4; have hy8 := grown_frozen (B := w2.heap.size) hg8 (own_lo own4.out) sz4; rw [← pcs_append, ← List.length_append] at ho8; rw [show partA t.pcs x ++ partB (partB t.pcs x) n = delPcs t.pcs x n from rfl] at ho8; obtain ⟨p8, q8, rfl, bx8⟩ := own_len ho8; have HP8 := Hid.mk' bx8; clear bx8; have HG8 := Hid.mk' hg8; have y8 := hg8.size; have j8 : w.heap.size + 1 < w8.heap.size := (by omega); clear ho8 hg8 hat8)
    have C8 := (U3.out.bl.trans (HB4.out.mono U3.out.sz)).grown HG8.out sz4 (own_lo own4.out)
    have D8 := Hid.mk' ((B1.out.trans (E2.out.mono (by omega))).trans (C8.mono (by omega)))
    clear C8
    refine bodyPost_ret (v := .agg #[.int .i64 2, .slice none 0 0, .slice none 0 0, .slice none 0 0]) (by simp [results, Try.results19, go_sem, *]) rfl ?_
    have hk := kept4 w8 (w.heap.size + 1) 0 1 2 3 (.int .i64 2) (.slice none 0 0) (.slice none 0 0) (.slice none 0 0)
    try rw [if_pos c40, if_pos c40]
    exact ⟨_, _, _, rfl, OT.empty _ _ _, D8.out.trans (hk.below (by omega) (by omega))⟩
  · go_wp2_with (at_builtin; refine wpList_append_at _ rfl (.tmp 39) (.tmp 40) 61 rfl w2.heap.size 66 (.agg #[.bool false, .int .i64 0, .int .i64 0]) 3 24 under_chain Try.info66 rfl (by decide) _ _ _ rfl own4.out _ _ _ (pcs (partB (partB t.pcs x) n)) rfl (pcs_len _) HD.out.src (pcs_one _) (by unfold maxLen; omega) (by omega) sz4 ?_; intro v8 w8 ho8 hg8 hat8; have hx8 := grown_cells (B := w2.heap.size) hg8 (own_lo own4.out) sz4; have hy8 := grown_frozen (B := w2.heap.size) hg8 (own_lo own4.out) sz4; rw [← pcs_append, ← List.length_append] at ho8; rw [show partA t.pcs x ++ partB (partB t.pcs x) n = delPcs t.pcs x n from rfl] at ho8; obtain ⟨p8, q8, rfl, bx8⟩ := own_len ho8; have HP8 := Hid.mk' bx8; clear bx8; have HG8 := Hid.mk' hg8; have y8 := hg8.size; have j8 : w.heap.size + 1 < w8.heap.size := (by omega); clear ho8 hg8 hat8)
    have C8 := (U3.out.bl.trans (HB4.out.mono U3.out.sz)).grown HG8.out sz4 (own_lo own4.out)
    have F8 := Hid.mk' (E2.out.trans (C8.mono y2))
    have D8 := Hid.mk' (B1.out.trans (F8.out.mono (by omega)))
    have L1 := Hid.mk' (G1.out.below F8.out)
    have L2 := Hid.mk' (G2.out.below F8.out)
    obtain ⟨v0, v1, v2, v3⟩ := cells3 (rowB R1.out F8.out)
    have e0 : w8.cell? ⟨w.heap.size + 1, 0, none⟩ = some (.int .i64 0) := (F8.out.cell (p := ⟨w.heap.size + 1, 0, none⟩) y').trans ((hc1 _ 0 (Nat.lt_succ_self _)).trans (by simp))
    have e1 : w8.cell? ⟨w.heap.size + 1, 1, none⟩ = some (.slice none 0 0) := (F8.out.cell (p := ⟨w.heap.size + 1, 1, none⟩) y').trans ((hc1 _ 1 (Nat.lt_succ_self _)).trans (by simp))
    have e2 : w8.cell? ⟨w.heap.size + 1, 2, none⟩ = some (.slice none 0 0) := (F8.out.cell (p := ⟨w.heap.size + 1, 2, none⟩) y').trans ((hc1 _ 2 (Nat.lt_succ_self _)).trans (by simp))
    have e3 : w8.cell? ⟨w.heap.size + 1, 3, none⟩ = some (.slice none 0 0) := (F8.out.cell (p := ⟨w.heap.size + 1, 3, none⟩) y').trans ((hc1 _ 3 (Nat.lt_succ_self _)).trans (by simp))
    have f0 : w8.frozen? ⟨w.heap.size + 1, 0, none⟩ = false := (F8.out.frozen (p := ⟨w.heap.size + 1, 0, none⟩) y').trans ((hf1 _ 0 (Nat.lt_succ_self _)).trans (by simp))
    have f1 : w8.frozen? ⟨w.heap.size + 1, 1, none⟩ = false := (F8.out.frozen (p := ⟨w.heap.size + 1, 1, none⟩) y').trans ((hf1 _ 1 (Nat.lt_succ_self _)).trans (by simp))
    have f2 : w8.frozen? ⟨w.heap.size + 1, 2, none⟩ = false := (F8.out.frozen (p := ⟨w.heap.size + 1, 2, none⟩) y').trans ((hf1 _ 2 (Nat.lt_succ_self _)).trans (by simp))
    have f3 : w8.frozen? ⟨w.heap.size + 1, 3, none⟩ = false := (F8.out.frozen (p := ⟨w.heap.size + 1, 3, none⟩) y').trans ((hf1 _ 3 (Nat.lt_succ_self _)).trans (by simp))
    have dl := delPcs_len t.pcs x n
    have k8 : ((delPcs t.pcs x n).length : Int) ≤ 1048576 := by omega
    clear C8 hx8 hy8 hc1 hf1 hc2 hf2 hc3 hf3 hc4 hf4 x0 x1 x2 x3 HG8 HB4 own4 U3 C4 R1 E2 G1 G2 F8 HD B1
    go_region_held3 (fun w' => w'.cell? ⟨w.heap.size, 0, none⟩ = some (.slice a1 t.base.length c1) ∧ w'.cell? ⟨w.heap.size, 1, none⟩ = some (.slice a2 t.more.length c2) ∧ w'.cell? ⟨w.heap.size, 2, none⟩ = some (.slice a3 t.pcs.length c3) ∧ w'.frozen? ⟨w.heap.size + 1, 0, none⟩ = false ∧ w'.frozen? ⟨w.heap.size + 1, 1, none⟩ = false ∧ w'.frozen? ⟨w.heap.size + 1, 2, none⟩ = false ∧ w'.frozen? ⟨w.heap.size + 1, 3, none⟩ = false) (simp [*, go_sem])
      (first | (go_at_call_of 39 (Value.slice a1 t.base.length c1); refine (copyBytes_any a1 c1 t.base _ (L1.out.below (Below.refl _ _).drew) k1).mono ?_; rintro e u1 ⟨g1, rfl, m1, r1, hb1⟩; replace hb1 := undrew hb1; obtain ⟨hx1, hy1⟩ := bcell hb1; have z1 := hb1.size; have i1 : w.heap.size + 1 < u1.heap.size := (by omega); have i1' : w.heap.size < u1.heap.size := (by omega)) | (go_at_call_of 39 (Value.slice a2 t.more.length c2); refine (copyBytes_any a2 c2 t.more _ (L2.out.below hb1) k2).mono ?_; rintro e u2 ⟨g2', rfl, m2, r2, hb2⟩; obtain ⟨hx2, hy2⟩ := bcell hb2; have z2 := hb2.size; have i2 : w.heap.size + 1 < u2.heap.size := (by omega); have i2' : w.heap.size < u2.heap.size := (by omega)) | (go_at_call 41; refine (piecesOf_any p8 q8 (delPcs t.pcs x n) _ ((HP8.out.below hb1).below hb2) k8).mono ?_; rintro e u3 ⟨g3, rfl, m3, r3, hb3⟩; obtain ⟨hx3, hy3⟩ := bcell hb3; have z3 := hb3.size))
    have Q1 := Hid.mk' (rowB (rowB r1 hb2) hb3)
    have Q2 := Hid.mk' (rowB r2 hb3)
    have Q3 := Hid.mk' r3
    have GG := Hid.mk' (((D8.out.trans (hb1.mono (by omega))).trans (hb2.mono (by omega))).trans (hb3.mono (by omega)))
    have t1 := r1.lt
    have t2 := r2.lt
    have t3 := r3.lt
    have dz : w8.drew.heap.size = w8.heap.size := rfl
    clear r1 r2 r3 hb1 hb2 hb3 D8 L1 L2 HP8
    go_wp2
    refine bodyPost_ret (v := .agg #[.int .i64 0, .slice (some ⟨g1, 0, none⟩) t.base.length t.base.length, .slice (some ⟨g2', 0, none⟩) t.more.length t.more.length, .slice (some ⟨g3, 0, none⟩) (delPcs t.pcs x n).length (delPcs t.pcs x n).length]) (by simp [results, Try.results19, go_sem, *]) rfl ?_
    try rw [if_neg c40, if_neg c40]
    have hk := kept4 u3 (w.heap.size + 1) 0 1 2 3 (.int .i64 0) (.slice (some ⟨g1, 0, none⟩) t.base.length t.base.length) (.slice (some ⟨g2', 0, none⟩) t.more.length t.more.length) (.slice (some ⟨g3, 0, none⟩) (delPcs t.pcs x n).length (delPcs t.pcs x n).length)
    have A1 := rowK Q1.out hk (by omega)
    have A2 := rowK Q2.out hk (by omega)
    have A3 := rowK Q3.out hk (by omega)
    refine ⟨_, _, _, rfl, ⟨ob_of_row rfl A1, ob_of_row rfl A2, .inr ⟨g3, _, _, _, rfl, Nat.le_refl _, A3, ⟨rfl, by unfold maxLen; omega⟩, fun _ _ => rfl⟩,
        In.at (by omega) A1.lt, In.at (by omega) A2.lt, In.at (by omega) A3.lt,
        fun k e e' => by simp [Value.ownBlock] at e e'; omega, fun k e e' => by simp [Value.ownBlock] at e e'; omega, fun k e e' => by simp [Value.ownBlock] at e e'; omega⟩, ?_⟩
    exact GG.out.trans (hk.below (B := w.heap.size) (by omega) (by omega))

theorem implDel_any (v : Value) (t : TB) (x n : Int) (w : World) (ht : TAtC w v t) (hwf : WFT t) (b1 : -9223372036854775808 ≤ x) (b2 : x ≤ 9223372036854775807) (b3 : -9223372036854775808 ≤ n) (b4 : n ≤ 9223372036854775807) (hl : (t.base.length : Int) + t.more.length + t.pcs.length ≤ 1048576) :
    Calls Try.prog 19 #[v, .int .i64 x, .int .i64 n] w fun e w' => ∃ s1 s2 s3, e = .returned (.agg #[.int .i64 (delCode t x n), s1, s2, s3]) ∧ OT w.heap.size w'.heap.size w' s1 s2 s3 (delT t x n) ∧ Below w.heap.size w w' := by
  unfold delCode delT
  by_cases hz : fault t = 0
  · rw [if_pos hz, if_pos hz]
    cases hr : delIn t x n with
    | false =>
      rw [if_neg (by decide), if_neg (by decide)]
      have hd : delFault t x n = 3 := by unfold delFault; rw [if_pos hz, hr]; rfl
      refine (implDel_bad v t x n w ht.at hwf b1 b2 b3 b4 hl (by rw [hd]; decide)).mono ?_
      rintro e w' ⟨rfl, hb⟩
      rw [hd]
      exact ⟨_, _, _, rfl, OT.empty _ _ _, hb⟩
    | true =>
      rw [if_pos rfl, if_pos rfl]
      have hd : delFault t x n = 0 := by unfold delFault; rw [if_pos hz, hr]; rfl
      by_cases hn : n = 0
      · rw [if_pos hn, if_pos hn]
        exact implDel_copy v t x n w ht.at hwf b1 b2 b3 b4 hl hd hn
      · rw [if_neg hn, if_neg hn]
        exact implDel_cut v t x n w ht.at hwf b1 b2 b3 b4 hl hd hz hr hn
  · rw [if_neg hz, if_neg hz]
    have hd : delFault t x n = fault t := by unfold delFault; rw [if_neg hz]
    refine (implDel_bad v t x n w ht.at hwf b1 b2 b3 b4 hl (by rw [hd]; exact hz)).mono ?_
    rintro e w' ⟨rfl, hb⟩
    rw [hd]
    exact ⟨_, _, _, rfl, OT.empty _ _ _, hb⟩
end Go.Proofs.Ytahkneghmgmnbaa
