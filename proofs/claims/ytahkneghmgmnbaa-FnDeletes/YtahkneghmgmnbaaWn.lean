/- Walks: InsertText, the program's side. -/
import Derived.Test.YtahkneghmgmnbaaWs
import Derived.Test.YtahkneghmgmnbaaWr
namespace Go.Proofs.Ytahkneghmgmnbaa
open Go.RowKit
set_option linter.unusedVariables false

set_option maxHeartbeats 1600000 in
theorem insertFault_any (v : Value) (t : TB) (x : Int) (ad : Option Addr) (cd : Nat) (d : List Int) (w : World) (ht : TAt w v t) (hwf : WFT t) (b1 : -9223372036854775808 ≤ x) (b2 : x ≤ 9223372036854775807) (hd : BAt w ad d) (hl : (t.base.length : Int) + t.more.length + t.pcs.length ≤ 1048576) (hld : (d.length : Int) ≤ 1048576) :
    Calls Try.prog 35 #[v, .int .i64 x, .slice ad d.length cd] w fun e w' => e = .returned (.int .i64 (insFault t x d)) ∧ Below w.heap.size w w' := by
  obtain ⟨a1, a2, a3, c1, c2, c3, rfl, h1, h2, h3⟩ := id ht
  have B0 := (Below.refl w.heap.size w).alloc (Nat.le_refl _) (.cells #[.slice a1 t.base.length c1, .slice a2 t.more.length c2, .slice a3 t.pcs.length c3] 26)
  have R0 := row3 w 26 (.slice a1 t.base.length c1) (.slice a2 t.more.length c2) (.slice a3 t.pcs.length c3)
  have K := tableFault_any _ t _ (ht.below B0) hwf hl
  have BB := Hid.mk' B0
  have P0 := Hid.mk' (h3.below B0)
  have RR := Hid.mk' R0
  clear h1 h2 h3 ht hwf hd
  by_cases hz : fault t = 0
  · rw [hz] at K
    have KK := Hid.mk' K
    have S := Hid.mk' (fault_small hz)
    have tt := S.out.total_le t.pcs.length (Nat.le_refl _)
    rw [List.take_length] at tt
    have tl : total t.pcs ≤ 240 := (fault_zero hz).2.2.2.2
    have ml : ¬ 2000 < t.more.length := (fault_zero hz).2.1
    have HZ := Hid.mk' hz
    have kl : (t.pcs.length : Int) ≤ 1048576 := by omega
    clear K hz B0 R0
    by_cases d1 : 0 ≤ x
    rotate_left
    · have Z := Hid.mk' (show insFault t x d = 3 by unfold insFault; rw [if_pos HZ.out, if_neg (fun h => d1 h.1)])
      rw [Z.out]
      clear Z
      go_enter Try.func35, Try.ntmps35
      go_wp2_with fail
      refine KK.out.mono ?_
      rintro e w1 ⟨rfl, hb1⟩
      have B1 := Hid.mk' (BB.out.trans (hb1.mono BB.out.size))
      have P1 := Hid.mk' (P0.out.below hb1)
      obtain ⟨x0, x1, x2, x3⟩ := cells3 (rowB RR.out hb1)
      clear KK hb1 BB P0 RR
      go_wp2_with fail
      refine (chainOf_any a3 c3 t.pcs _ P1.out kl).mono ?_
      rintro e w2 ⟨b, rfl, g2, r2, hb2⟩
      have B2 := Hid.mk' (B1.out.trans (hb2.mono B1.out.size))
      have R2 := Hid.mk' r2
      clear hb2 r2 B1 P1 x0 x1 x2 x3
      go_wp2_with fail
      refine (size_any _ _ t.pcs _ (.of_row R2.out) S.out).mono ?_
      rintro e w3 ⟨rfl, hb3⟩
      have B3 := Hid.mk' (B2.out.trans (hb3.mono B2.out.size))
      clear hb3 R2 B2 S
      go_wp2
      go_ret
      exact ⟨rfl, B3.out⟩
    suffices H : ∀ c : Int, insFault t x d = c → Calls Try.prog 35 #[.agg #[.slice a1 t.base.length c1, .slice a2 t.more.length c2, .slice a3 t.pcs.length c3], .int .i64 x, .slice ad d.length cd] w fun e w' => e = .returned (.int .i64 c) ∧ Below w.heap.size w w' from H _ rfl
    intro c hc
    unfold insFault at hc
    rw [if_pos HZ.out] at hc
    go_enter Try.func35, Try.ntmps35
    go_wp2_with fail
    refine KK.out.mono ?_
    rintro e w1 ⟨rfl, hb1⟩
    have B1 := Hid.mk' (BB.out.trans (hb1.mono BB.out.size))
    have P1 := Hid.mk' (P0.out.below hb1)
    have R1 := Hid.mk' (rowB RR.out hb1)
    obtain ⟨x0, x1, x2, x3⟩ := cells3 R1.out
    clear KK hb1 BB P0 RR
    go_wp2_with fail
    refine (chainOf_any a3 c3 t.pcs _ P1.out kl).mono ?_
    rintro e w2 ⟨b, rfl, g2, r2, hb2⟩
    have B2 := Hid.mk' (B1.out.trans (hb2.mono B1.out.size))
    have R2 := Hid.mk' r2
    have Q2 := Hid.mk' (rowB R1.out hb2)
    clear hb2 r2 B1 P1 x0 x1 x2 x3 R1
    go_wp2_with fail
    refine (size_any _ _ t.pcs _ (.of_row R2.out) S.out).mono ?_
    rintro e w3 ⟨rfl, hb3⟩
    have B3 := Hid.mk' (B2.out.trans (hb3.mono B2.out.size))
    obtain ⟨x0, x1, x2, x3⟩ := cells3 (rowB Q2.out hb3)
    clear hb3 R2 B2 S Q2
    have HC := Hid.mk' hc
    clear hc
    generalize htot : total t.pcs = tot at *
    by_cases d2 : x ≤ tot
    rotate_left
    · have E : Hid (c = 3) := by show _ = _; rw [← HC.out, if_neg (fun h => d2 h.2)]
      go_wp2
      go_ret
      exact ⟨by rw [E.out]; rfl, B3.out⟩
    by_cases d3 : 240 < tot + d.length
    · have E : Hid (c = 6) := by show _ = _; rw [← HC.out, if_pos ⟨d1, d2⟩, if_pos d3]
      go_wp2
      go_ret
      exact ⟨by rw [E.out]; rfl, B3.out⟩
    by_cases d4 : d.length = 0
    · have E : Hid (c = 0) := by show _ = _; rw [← HC.out, if_pos ⟨d1, d2⟩, if_neg d3, if_neg (fun h => h.1 d4)]
      have d5 : ¬ (0 : Int) < d.length := by omega
      go_wp2
      go_ret
      exact ⟨by rw [E.out]; rfl, B3.out⟩
    have d5 : (0 : Int) < d.length := by omega
    by_cases d6 : 2000 < t.more.length + d.length
    · have E : Hid (c = 2) := by show _ = _; rw [← HC.out, if_pos ⟨d1, d2⟩, if_neg d3, if_pos ⟨d4, d6⟩]
      go_wp2
      go_ret
      exact ⟨by rw [E.out]; rfl, B3.out⟩
    · have E : Hid (c = 0) := by show _ = _; rw [← HC.out, if_pos ⟨d1, d2⟩, if_neg d3, if_neg (fun h => d6 h.2)]
      go_wp2
      go_ret
      exact ⟨by rw [E.out]; rfl, B3.out⟩
  · rw [show insFault t x d = fault t from by unfold insFault; rw [if_neg hz]]
    have KK := Hid.mk' K
    have hb : (fault t != 0) = true := by rw [bne_iff_ne]; exact hz
    clear K hz B0 R0 RR P0
    go_enter Try.func35, Try.ntmps35
    go_wp2_with fail
    refine KK.out.mono ?_
    rintro e w1 ⟨rfl, hb1⟩
    have B1 := Hid.mk' (BB.out.trans (hb1.mono BB.out.size))
    clear KK hb1 BB
    go_wp2
    go_ret
    exact ⟨rfl, B1.out⟩

set_option maxHeartbeats 800000 in
theorem implIns_bad (v : Value) (t : TB) (x : Int) (ad : Option Addr) (cd : Nat) (d : List Int) (w : World) (ht : TAt w v t) (hwf : WFT t) (b1 : -9223372036854775808 ≤ x) (b2 : x ≤ 9223372036854775807) (hd : BAt w ad d) (hl : (t.base.length : Int) + t.more.length + t.pcs.length ≤ 1048576) (hld : (d.length : Int) ≤ 1048576) (hz : ¬ insFault t x d = 0) :
    Calls Try.prog 8 #[v, .int .i64 x, .slice ad d.length cd] w fun e w' => e = .returned (.agg #[.int .i64 (insFault t x d), .slice none 0 0, .slice none 0 0, .slice none 0 0]) ∧ Below w.heap.size w w' := by
  obtain ⟨a1, a2, a3, c1, c2, c3, rfl, h1, h2, h3⟩ := id ht
  have B0 := ((Below.refl w.heap.size w).alloc (Nat.le_refl _) (.cells #[.slice a1 t.base.length c1, .slice a2 t.more.length c2, .slice a3 t.pcs.length c3] 26)).alloc (by simp) (.cells #[.int .i64 0, .slice none 0 0, .slice none 0 0, .slice none 0 0] 30)
  have R0 := (row3 w 26 (.slice a1 t.base.length c1) (.slice a2 t.more.length c2) (.slice a3 t.pcs.length c3)).alloc (.cells #[.int .i64 0, .slice none 0 0, .slice none 0 0, .slice none 0 0] 30)
  have K := insertFault_any _ t x ad cd d _ (ht.below B0) hwf b1 b2 (hd.below B0) hl hld
  have KK := Hid.mk' K
  have BB := Hid.mk' B0
  have hb : (insFault t x d != 0) = true := by rw [bne_iff_ne]; exact hz
  clear K B0 R0 h1 h2 h3 ht hwf hz hd
  generalize insFault t x d = ci at *
  go_enter Try.func8, Try.ntmps8
  go_wp2_with fail
  refine KK.out.mono ?_
  rintro e w1 ⟨rfl, hb1⟩
  have B1 := Hid.mk' (BB.out.trans (hb1.mono BB.out.size))
  obtain ⟨hc1, hf1⟩ := bcell hb1
  simp at hc1 hf1
  have y := hb1.size
  simp at y
  have y' : w.heap.size + 1 < w1.heap.size := by omega
  clear KK BB hb1
  go_wp2
  refine bodyPost_ret (v := .agg #[.int .i64 ci, .slice none 0 0, .slice none 0 0, .slice none 0 0]) (by simp [results, Try.results8, go_sem, *]) rfl ?_
  have hk := kept4 w1 (w.heap.size + 1) 0 1 2 3 (.int .i64 ci) (.slice none 0 0) (.slice none 0 0) (.slice none 0 0)
  exact ⟨rfl, B1.out.trans (hk.below (by omega) (by omega))⟩

set_option maxHeartbeats 800000 in
theorem implIns_copy (v : Value) (t : TB) (x : Int) (ad : Option Addr) (cd : Nat) (d : List Int) (w : World) (ht : TAt w v t) (hwf : WFT t) (b1 : -9223372036854775808 ≤ x) (b2 : x ≤ 9223372036854775807) (hd : BAt w ad d) (hl : (t.base.length : Int) + t.more.length + t.pcs.length ≤ 1048576) (hld : (d.length : Int) ≤ 1048576) (hz : insFault t x d = 0) (hn : d.length = 0) :
    Calls Try.prog 8 #[v, .int .i64 x, .slice ad d.length cd] w fun e w' => ∃ s1 s2 s3, e = .returned (.agg #[.int .i64 0, s1, s2, s3]) ∧ OT w.heap.size w'.heap.size w' s1 s2 s3 t ∧ Below w.heap.size w w' := by
  have hd0 := List.eq_nil_of_length_eq_zero hn
  subst hd0
  obtain ⟨a1, a2, a3, c1, c2, c3, rfl, h1, h2, h3⟩ := id ht
  have B0 := ((Below.refl w.heap.size w).alloc (Nat.le_refl _) (.cells #[.slice a1 t.base.length c1, .slice a2 t.more.length c2, .slice a3 t.pcs.length c3] 26)).alloc (by simp) (.cells #[.int .i64 0, .slice none 0 0, .slice none 0 0, .slice none 0 0] 30)
  have R0 := (row3 w 26 (.slice a1 t.base.length c1) (.slice a2 t.more.length c2) (.slice a3 t.pcs.length c3)).alloc (.cells #[.int .i64 0, .slice none 0 0, .slice none 0 0, .slice none 0 0] 30)
  have K := insertFault_any _ t x ad cd [] _ (ht.below B0) hwf b1 b2 (hd.below B0) hl hld
  rw [hz] at K
  have KK := Hid.mk' K
  have BB := Hid.mk' B0
  have RR := Hid.mk' R0
  have T0 := Hid.mk' (ht.below B0)
  clear K B0 R0 h1 h2 h3 ht hwf hz hd
  go_enter Try.func8, Try.ntmps8
  go_wp2_with fail
  refine KK.out.mono ?_
  rintro e w1 ⟨rfl, hb1⟩
  have B1 := Hid.mk' (BB.out.trans (hb1.mono BB.out.size))
  have T1 := Hid.mk' (T0.out.below hb1)
  obtain ⟨x0, x1, x2, x3⟩ := cells3 (rowB RR.out hb1)
  obtain ⟨hc1, hf1⟩ := bcell hb1
  simp at hc1 hf1
  have y := hb1.size
  simp at y
  have y' : w.heap.size + 1 < w1.heap.size := by omega
  clear KK BB hb1 T0 RR
  go_wp2_with fail
  refine (implCopy_any _ t _ T1.out hl).mono ?_
  rintro e w5 ⟨s1, s2, s3, rfl, ot5, hb5⟩
  have O5 := Hid.mk' ot5
  obtain ⟨p1, q1, p2, q2, p3, q3, rfl, rfl, rfl⟩ := ot5.forms
  have B5 := Hid.mk' (B1.out.trans (hb5.mono B1.out.size))
  obtain ⟨hc5, hf5⟩ := bcell hb5
  have y5 := hb5.size
  have y5' : w.heap.size + 1 < w5.heap.size := by omega
  clear hb5 ot5 B1 T1
  go_wp2
  refine bodyPost_ret (v := .agg #[.int .i64 0, .slice p1 t.base.length q1, .slice p2 t.more.length q2, .slice p3 t.pcs.length q3]) (by simp [results, Try.results8, go_sem, *]) rfl ?_
  have hk := kept4 w5 (w.heap.size + 1) 0 1 2 3 (.int .i64 0) (.slice p1 t.base.length q1) (.slice p2 t.more.length q2) (.slice p3 t.pcs.length q3)
  exact ⟨_, _, _, rfl, (O5.out.kept hk (.inr (by omega))).mono (by omega) hk.size, B5.out.trans (hk.below (by omega) (by omega))⟩

theorem own_pat {w : World} {base : Nat} {e : TypeId} {a : Option Addr} {c : Nat} {l : List PC} (h : w.ownsRow base e 3 (.slice a l.length c) l.length (pcs l)) : PAt w a l := by
  obtain ⟨a', c', e, hp⟩ := own_len h
  cases e
  exact hp

set_option maxRecDepth 100000 in
set_option maxHeartbeats 4000000 in
theorem implIns_cut (v : Value) (t : TB) (x : Int) (ad : Option Addr) (cd : Nat) (d : List Int) (w : World) (ht : TAt w v t) (hwf : WFT t) (b1 : -9223372036854775808 ≤ x) (b2 : x ≤ 9223372036854775807) (hd : BAt w ad d) (hl : (t.base.length : Int) + t.more.length + t.pcs.length ≤ 1048576) (hld : (d.length : Int) ≤ 1048576) (hf : insFault t x d = 0) (hn : ¬ d.length = 0) :
    Calls Try.prog 8 #[v, .int .i64 x, .slice ad d.length cd] w fun e w' => ∃ s1 s2 s3, e = .returned (.agg #[.int .i64 (if 40 < (insPcs t x d).length then 2 else 0), s1, s2, s3]) ∧ OT w.heap.size w'.heap.size w' s1 s2 s3 (if 40 < (insPcs t x d).length then ⟨[], [], []⟩ else ⟨t.base, t.more ++ d, insPcs t x d⟩) ∧ Below w.heap.size w w' := by
  obtain ⟨hz, d1, d2, d3, d4⟩ := insFault_zero hf
  obtain ⟨a1, a2, a3, c1, c2, c3, rfl, h1, h2, h3⟩ := id ht
  have B0 := ((Below.refl w.heap.size w).alloc (Nat.le_refl _) (.cells #[.slice a1 t.base.length c1, .slice a2 t.more.length c2, .slice a3 t.pcs.length c3] 26)).alloc (by simp) (.cells #[.int .i64 0, .slice none 0 0, .slice none 0 0, .slice none 0 0] 30)
  have R0 := (row3 w 26 (.slice a1 t.base.length c1) (.slice a2 t.more.length c2) (.slice a3 t.pcs.length c3)).alloc (.cells #[.int .i64 0, .slice none 0 0, .slice none 0 0, .slice none 0 0] 30)
  have K := insertFault_any _ t x ad cd d _ (ht.below B0) hwf b1 b2 (hd.below B0) hl hld
  rw [hf] at K
  have KK := Hid.mk' K
  have BB := Hid.mk' B0
  have RR := Hid.mk' R0
  have H1 := Hid.mk' (h1.below B0)
  have H2 := Hid.mk' (h2.below B0)
  have H3 := Hid.mk' (h3.below B0)
  have H4 := Hid.mk' (hd.below B0)
  have TM := Hid.mk' (tame_of_fault hz)
  have tl : total t.pcs ≤ 240 := (fault_zero hz).2.2.2.2
  have fz := fault_zero hz
  have l0 : t.pcs.length ≤ 40 := Nat.le_of_not_lt fz.2.2.1
  have l1 := partA_len t.pcs x
  have l2 := partB_len t.pcs x
  have nz : ((d.length : Int) == 0) = false := by rw [beq_eq_false_iff_ne]; omega
  have k1 : (t.base.length : Int) ≤ 1048576 := by omega
  have k3 : (t.pcs.length : Int) ≤ 1048576 := by omega
  have dpos : 0 < d.length := by omega
  have ksum : (t.more.length : Int) + d.length ≤ 2097152 := by omega
  have lc : (partA t.pcs x).length + 1 ≤ 100 := by omega
  clear K B0 R0 h1 h2 h3 ht hwf hz hf fz hd
  go_enter Try.func8, Try.ntmps8
  go_wp2_with fail
  refine KK.out.mono ?_
  rintro e w1 ⟨rfl, hb1⟩
  have B1 := Hid.mk' (BB.out.trans (hb1.mono BB.out.size))
  have G1 := Hid.mk' (H1.out.below hb1)
  have G2 := Hid.mk' (H2.out.below hb1)
  have G3 := Hid.mk' (H3.out.below hb1)
  have G4 := Hid.mk' (H4.out.below hb1)
  have R1 := Hid.mk' (rowB RR.out hb1)
  obtain ⟨x0, x1, x2, x3⟩ := cells3 R1.out
  obtain ⟨hc1, hf1⟩ := bcell hb1
  simp at hc1 hf1
  have y := hb1.size
  simp at y
  have y' : w.heap.size + 1 < w1.heap.size := by omega
  clear KK BB hb1 H1 H2 H3 H4 RR
  go_wp2_with fail
  refine (chainOf_any a3 c3 t.pcs _ G3.out k3).mono ?_
  rintro e w2 ⟨gb, rfl, g2, r2, hb2⟩
  have E2 := Hid.mk' hb2
  have Q2 := Hid.mk' r2
  obtain ⟨hc2, hf2⟩ := bcell hb2
  have y2 := hb2.size
  clear hb2 r2 G3
  go_wp2_with fail
  refine (split_any _ _ t.pcs x _ (.of_row Q2.out) TM.out (by omega) (by omega)).mono ?_
  rintro e w3 ⟨va, vb, rfl, two3⟩
  obtain ⟨pb, qb, rfl, hpb⟩ := own_len two3.ob
  obtain ⟨pa, qa, rfl, hpa⟩ := own_len two3.oa
  have U3 := Hid.mk' (two3.alloc (.cells #[.bool true, .int .i64 t.more.length, .int .i64 d.length] 66))
  obtain ⟨hc3, hf3⟩ := bcell two3.bl
  obtain ⟨n0, n1, n2, n3⟩ := cells3 (rowB (rowB R1.out E2.out) two3.bl)
  have y3 := two3.bl.size
  clear two3 hpb hpa Q2
  have j2 : w.heap.size + 1 < w2.heap.size := by omega
  have j3 : w.heap.size + 1 < w3.heap.size := by omega
  by_cases c40 : 40 < (insPcs t x d).length
  · go_wp2_with (first | (at_builtin; refine wpList_append_at _ rfl (.tmp 32) (.tmp 39) 61 rfl w2.heap.size 66 (.agg #[.bool false, .int .i64 0, .int .i64 0]) 3 24 under_chain Try.info66 rfl (by decide) (.slice pa (partA t.pcs x).length qa) _ _ rfl U3.out.oa _ 1 _ (pcs [(⟨true, t.more.length, d.length⟩ : PC)]) rfl (bcs3 _) (.inr ⟨_, rfl, one_piece' w3 66 (⟨true, t.more.length, d.length⟩ : PC) _ rfl⟩) (pcs_one _) (by unfold maxLen; omega) (by omega) U3.out.sz ?_; intro v4 w4 ho4 hg4 hat4; have T4 := Hid.mk' (U3.out.appA (C := [⟨true, t.more.length, d.length⟩]) ho4 hg4 hat4); obtain ⟨hc4, hf4⟩ := bcell T4.out.bl; have y4 := T4.out.bl.size; clear ho4 hg4 hat4; obtain ⟨p4, q4, rfl, bx4⟩ := own_len T4.out.oa; clear bx4; have l4 : (partA t.pcs x ++ [(⟨true, t.more.length, d.length⟩ : PC)]).length = (partA t.pcs x).length + 1 := (by simp); have own4 : Hid (w4.ownsRow w2.heap.size 66 3 (.slice p4 ((partA t.pcs x).length + 1) q4) ((partA t.pcs x).length + 1) (pcs (partA t.pcs x ++ [(⟨true, t.more.length, d.length⟩ : PC)]))) := (by show World.ownsRow _ _ _ _ _ _ _; rw [← l4]; exact T4.out.oa); have HD := Hid.mk' (own_pat T4.out.ob); have j4 : w.heap.size + 1 < w4.heap.size := (by omega)) | (at_builtin; refine wpList_append_at _ rfl (.tmp 41) (.tmp 42) 61 rfl w2.heap.size 66 (.agg #[.bool false, .int .i64 0, .int .i64 0]) 3 24 under_chain Try.info66 rfl (by decide) (.slice p4 ((partA t.pcs x).length + 1) q4) _ _ rfl own4.out _ _ _ (pcs (partB t.pcs x)) rfl (pcs_len _) HD.out.src (pcs_one _) (by unfold maxLen; omega) (by omega) (by omega) ?_; intro v8 w8 ho8 hg8 hat8; have hx8 := grown_cells (B := w2.heap.size) hg8 (own_lo own4.out) (by omega); have hy8 := grown_frozen (B := w2.heap.size) hg8 (own_lo own4.out) (by omega); rw [← l4, ← pcs_append, ← List.length_append] at ho8; rw [show (partA t.pcs x ++ [(⟨true, t.more.length, d.length⟩ : PC)]) ++ partB t.pcs x = insPcs t x d from rfl] at ho8; obtain ⟨p8, q8, rfl, bx8⟩ := own_len ho8; have HP8 := Hid.mk' bx8; clear bx8; have HG8 := Hid.mk' hg8; have y8 := hg8.size; have j8 : w.heap.size + 1 < w8.heap.size := (by omega); clear ho8 hg8 hat8))
    have C8 := T4.out.bl.grown HG8.out (by omega) (own_lo own4.out)
    have D8 := Hid.mk' ((B1.out.trans (E2.out.mono (by omega))).trans (C8.mono (by omega)))
    clear C8
    refine bodyPost_ret (v := .agg #[.int .i64 2, .slice none 0 0, .slice none 0 0, .slice none 0 0]) (by simp [results, Try.results8, go_sem, *]) rfl ?_
    have hk := kept4 w8 (w.heap.size + 1) 0 1 2 3 (.int .i64 2) (.slice none 0 0) (.slice none 0 0) (.slice none 0 0)
    try rw [if_pos c40, if_pos c40]
    exact ⟨_, _, _, rfl, OT.empty _ _ _, D8.out.trans (hk.below (by omega) (by omega))⟩
  · go_wp2_with (first | (at_builtin; refine wpList_append_at _ rfl (.tmp 32) (.tmp 39) 61 rfl w2.heap.size 66 (.agg #[.bool false, .int .i64 0, .int .i64 0]) 3 24 under_chain Try.info66 rfl (by decide) (.slice pa (partA t.pcs x).length qa) _ _ rfl U3.out.oa _ 1 _ (pcs [(⟨true, t.more.length, d.length⟩ : PC)]) rfl (bcs3 _) (.inr ⟨_, rfl, one_piece' w3 66 (⟨true, t.more.length, d.length⟩ : PC) _ rfl⟩) (pcs_one _) (by unfold maxLen; omega) (by omega) U3.out.sz ?_; intro v4 w4 ho4 hg4 hat4; have T4 := Hid.mk' (U3.out.appA (C := [⟨true, t.more.length, d.length⟩]) ho4 hg4 hat4); obtain ⟨hc4, hf4⟩ := bcell T4.out.bl; have y4 := T4.out.bl.size; clear ho4 hg4 hat4; obtain ⟨p4, q4, rfl, bx4⟩ := own_len T4.out.oa; clear bx4; have l4 : (partA t.pcs x ++ [(⟨true, t.more.length, d.length⟩ : PC)]).length = (partA t.pcs x).length + 1 := (by simp); have own4 : Hid (w4.ownsRow w2.heap.size 66 3 (.slice p4 ((partA t.pcs x).length + 1) q4) ((partA t.pcs x).length + 1) (pcs (partA t.pcs x ++ [(⟨true, t.more.length, d.length⟩ : PC)]))) := (by show World.ownsRow _ _ _ _ _ _ _; rw [← l4]; exact T4.out.oa); have HD := Hid.mk' (own_pat T4.out.ob); have j4 : w.heap.size + 1 < w4.heap.size := (by omega)) | (at_builtin; refine wpList_append_at _ rfl (.tmp 41) (.tmp 42) 61 rfl w2.heap.size 66 (.agg #[.bool false, .int .i64 0, .int .i64 0]) 3 24 under_chain Try.info66 rfl (by decide) (.slice p4 ((partA t.pcs x).length + 1) q4) _ _ rfl own4.out _ _ _ (pcs (partB t.pcs x)) rfl (pcs_len _) HD.out.src (pcs_one _) (by unfold maxLen; omega) (by omega) (by omega) ?_; intro v8 w8 ho8 hg8 hat8; have hx8 := grown_cells (B := w2.heap.size) hg8 (own_lo own4.out) (by omega); have hy8 := grown_frozen (B := w2.heap.size) hg8 (own_lo own4.out) (by omega); rw [← l4, ← pcs_append, ← List.length_append] at ho8; rw [show (partA t.pcs x ++ [(⟨true, t.more.length, d.length⟩ : PC)]) ++ partB t.pcs x = insPcs t x d from rfl] at ho8; obtain ⟨p8, q8, rfl, bx8⟩ := own_len ho8; have HP8 := Hid.mk' bx8; clear bx8; have HG8 := Hid.mk' hg8; have y8 := hg8.size; have j8 : w.heap.size + 1 < w8.heap.size := (by omega); clear ho8 hg8 hat8))
    have C8 := T4.out.bl.grown HG8.out (by omega) (own_lo own4.out)
    have F8 := Hid.mk' (E2.out.trans (C8.mono y2))
    have D8 := Hid.mk' (B1.out.trans (F8.out.mono (by omega)))
    have L1 := Hid.mk' (G1.out.below F8.out)
    have L2 := Hid.mk' (G2.out.below F8.out)
    have L4 := Hid.mk' (G4.out.below F8.out)
    obtain ⟨v0, v1, v2, v3⟩ := cells3 (rowB R1.out F8.out)
    have e0 : w8.cell? ⟨w.heap.size + 1, 0, none⟩ = some (.int .i64 0) := (F8.out.cell (p := ⟨w.heap.size + 1, 0, none⟩) y').trans ((hc1 _ 0 (Nat.lt_succ_self _)).trans (by simp))
    have e1 : w8.cell? ⟨w.heap.size + 1, 1, none⟩ = some (.slice none 0 0) := (F8.out.cell (p := ⟨w.heap.size + 1, 1, none⟩) y').trans ((hc1 _ 1 (Nat.lt_succ_self _)).trans (by simp))
    have e2 : w8.cell? ⟨w.heap.size + 1, 2, none⟩ = some (.slice none 0 0) := (F8.out.cell (p := ⟨w.heap.size + 1, 2, none⟩) y').trans ((hc1 _ 2 (Nat.lt_succ_self _)).trans (by simp))
    have e3 : w8.cell? ⟨w.heap.size + 1, 3, none⟩ = some (.slice none 0 0) := (F8.out.cell (p := ⟨w.heap.size + 1, 3, none⟩) y').trans ((hc1 _ 3 (Nat.lt_succ_self _)).trans (by simp))
    have f0 : w8.frozen? ⟨w.heap.size + 1, 0, none⟩ = false := (F8.out.frozen (p := ⟨w.heap.size + 1, 0, none⟩) y').trans ((hf1 _ 0 (Nat.lt_succ_self _)).trans (by simp))
    have f1 : w8.frozen? ⟨w.heap.size + 1, 1, none⟩ = false := (F8.out.frozen (p := ⟨w.heap.size + 1, 1, none⟩) y').trans ((hf1 _ 1 (Nat.lt_succ_self _)).trans (by simp))
    have f2 : w8.frozen? ⟨w.heap.size + 1, 2, none⟩ = false := (F8.out.frozen (p := ⟨w.heap.size + 1, 2, none⟩) y').trans ((hf1 _ 2 (Nat.lt_succ_self _)).trans (by simp))
    have f3 : w8.frozen? ⟨w.heap.size + 1, 3, none⟩ = false := (F8.out.frozen (p := ⟨w.heap.size + 1, 3, none⟩) y').trans ((hf1 _ 3 (Nat.lt_succ_self _)).trans (by simp))
    have il := insPcs_len t x d
    have k8 : ((insPcs t x d).length : Int) ≤ 1048576 := by omega
    clear C8 hx8 hy8 hc1 hf1 hc2 hf2 hc3 hf3 hc4 hf4 x0 x1 x2 x3 n0 n1 n2 n3 HG8 T4 own4 U3 R1 E2 G1 G2 G4 F8 HD B1
    go_region_held3 (fun w' => w'.cell? ⟨w.heap.size, 0, none⟩ = some (.slice a1 t.base.length c1) ∧ w'.cell? ⟨w.heap.size, 1, none⟩ = some (.slice a2 t.more.length c2) ∧ w'.cell? ⟨w.heap.size, 2, none⟩ = some (.slice a3 t.pcs.length c3) ∧ w'.frozen? ⟨w.heap.size + 1, 0, none⟩ = false ∧ w'.frozen? ⟨w.heap.size + 1, 1, none⟩ = false ∧ w'.frozen? ⟨w.heap.size + 1, 2, none⟩ = false ∧ w'.frozen? ⟨w.heap.size + 1, 3, none⟩ = false) (simp [*, go_sem])
      (first | (go_at_call 39; refine (copyBytes_any a1 c1 t.base _ (L1.out.below (Below.refl _ _).drew) k1).mono ?_; rintro e u1 ⟨g1, rfl, m1, r1, hb1⟩; replace hb1 := undrew hb1; obtain ⟨hx1, hy1⟩ := bcell hb1; have z1 := hb1.size; have i1 : w.heap.size + 1 < u1.heap.size := (by omega); have i1' : w.heap.size < u1.heap.size := (by omega)) | (go_at_call 40; refine (joinBytes_pos a2 ad c2 cd t.more d _ (L2.out.below hb1) (L4.out.below hb1) dpos ksum).mono ?_; rintro e u2 ⟨g2', rfl, m2, r2, hb2⟩; obtain ⟨hx2, hy2⟩ := bcell hb2; have z2 := hb2.size; have i2 : w.heap.size + 1 < u2.heap.size := (by omega); have i2' : w.heap.size < u2.heap.size := (by omega)) | (go_at_call 41; refine (piecesOf_any p8 q8 (insPcs t x d) _ ((HP8.out.below hb1).below hb2) k8).mono ?_; rintro e u3 ⟨g3, rfl, m3, r3, hb3⟩; obtain ⟨hx3, hy3⟩ := bcell hb3; have z3 := hb3.size))
    have Q1 := Hid.mk' (rowB (rowB r1 hb2) hb3)
    have Q2 := Hid.mk' (rowB r2 hb3)
    have Q3 := Hid.mk' r3
    have GG := Hid.mk' (((D8.out.trans (hb1.mono (by omega))).trans (hb2.mono (by omega))).trans (hb3.mono (by omega)))
    have t1 := r1.lt
    have t2 := r2.lt
    have t3 := r3.lt
    have dz : w8.drew.heap.size = w8.heap.size := rfl
    clear r1 r2 r3 hb1 hb2 hb3 D8 L1 L2 L4 HP8
    go_wp2
    refine bodyPost_ret (v := .agg #[.int .i64 0, .slice (some ⟨g1, 0, none⟩) t.base.length t.base.length, .slice (some ⟨g2', 0, none⟩) (t.more.length + d.length) (t.more.length + d.length), .slice (some ⟨g3, 0, none⟩) (insPcs t x d).length (insPcs t x d).length]) (by simp [results, Try.results8, go_sem, *]) rfl ?_
    try rw [if_neg c40, if_neg c40]
    have hk := kept4 u3 (w.heap.size + 1) 0 1 2 3 (.int .i64 0) (.slice (some ⟨g1, 0, none⟩) t.base.length t.base.length) (.slice (some ⟨g2', 0, none⟩) (t.more.length + d.length) (t.more.length + d.length)) (.slice (some ⟨g3, 0, none⟩) (insPcs t x d).length (insPcs t x d).length)
    have A1 := rowK Q1.out hk (by omega)
    have A2 := rowK Q2.out hk (by omega)
    have A3 := rowK Q3.out hk (by omega)
    refine ⟨_, _, _, rfl, ⟨ob_of_row rfl A1, ob_of_row (List.length_append) A2, .inr ⟨g3, _, _, _, rfl, Nat.le_refl _, A3, ⟨rfl, by unfold maxLen; omega⟩, fun _ _ => rfl⟩,
        In.at (by omega) A1.lt, In.at (by omega) A2.lt, In.at (by omega) A3.lt,
        fun k e e' => by simp [Value.ownBlock] at e e'; omega, fun k e e' => by simp [Value.ownBlock] at e e'; omega, fun k e e' => by simp [Value.ownBlock] at e e'; omega⟩, ?_⟩
    exact GG.out.trans (hk.below (B := w.heap.size) (by omega) (by omega))

theorem implIns_any (v : Value) (t : TB) (x : Int) (ad : Option Addr) (cd : Nat) (d : List Int) (w : World) (ht : TAtC w v t) (hwf : WFT t) (b1 : -9223372036854775808 ≤ x) (b2 : x ≤ 9223372036854775807) (hd : BAt w ad d) (hl : (t.base.length : Int) + t.more.length + t.pcs.length ≤ 1048576) (hld : (d.length : Int) ≤ 1048576) :
    Calls Try.prog 8 #[v, .int .i64 x, .slice ad d.length cd] w fun e w' => ∃ s1 s2 s3, e = .returned (.agg #[.int .i64 (insCode t x d), s1, s2, s3]) ∧ OT w.heap.size w'.heap.size w' s1 s2 s3 (insT t x d) ∧ Below w.heap.size w w' := by
  unfold insCode insT
  by_cases hz : insFault t x d = 0
  · rw [if_pos hz, if_pos hz]
    by_cases hn : d.length = 0
    · rw [if_pos hn, if_pos hn]
      exact implIns_copy v t x ad cd d w ht.at hwf b1 b2 hd hl hld hz hn
    · rw [if_neg hn, if_neg hn]
      exact implIns_cut v t x ad cd d w ht.at hwf b1 b2 hd hl hld hz hn
  · rw [if_neg hz, if_neg hz]
    refine (implIns_bad v t x ad cd d w ht.at hwf b1 b2 hd hl hld hz).mono ?_
    rintro e w' ⟨rfl, hb⟩
    exact ⟨_, _, _, rfl, OT.empty _ _ _, hb⟩

end Go.Proofs.Ytahkneghmgmnbaa
