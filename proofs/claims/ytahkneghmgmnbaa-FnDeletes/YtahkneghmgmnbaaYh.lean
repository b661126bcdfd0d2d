/- Walks: what the laws on inserts and deletes are tried at is drawn. -/
import Derived.Test.YtahkneghmgmnbaaYg
import Derived.Test.YtahkneghmgmnbaaYe
namespace Go.Proofs.Ytahkneghmgmnbaa
open Go.RowKit
set_option linter.unusedVariables false

set_option maxRecDepth 100000 in
set_option maxHeartbeats 4000000 in
theorem drawInsertText_any (a : Option Addr) (c : Nat) (l : List Int) (w : World) (ha : BAt w a l) (hu : ∀ i, i < l.length → 0 ≤ l.getD i 0 ∧ l.getD i 0 ≤ 255) (hl : (l.length : Int) ≤ 1048576) :
    Calls Try.prog 7 #[.slice a l.length c] w fun e w' => ∃ (s1 s2 s3 : Value) (t : TB) (x : Int) (D : List Int) (p : Option Addr) (q : Nat), e = .returned (.tuple #[.agg #[s1, s2, s3], .int .i64 x, .slice p D.length q]) ∧ Bent t ∧ TAtC w' (.agg #[s1, s2, s3]) t ∧ -1 ≤ x ∧ x ≤ 302 ∧ BAt w' p D ∧ D.length ≤ 241 ∧ U8 D ∧ Below w.heap.size w w' := by
  have N0 := below_new w (.cells #[.slice none 0 0, .slice none 0 0, .slice none 0 0] 26)
  have R0 := Hid.mk' (row3 w 26 (.slice none 0 0) (.slice none 0 0) (.slice none 0 0))
  have HA := Hid.mk' (ha.below N0)
  have HU := Hid.mk' hu
  have HN := Hid.mk' N0
  have z0 : Hid ((w.alloc (.cells #[.slice none 0 0, .slice none 0 0, .slice none 0 0] 26)).heap.size = w.heap.size + 1) := Hid.mk' (by simp)
  clear ha hu N0
  generalize hW0 : w.alloc (.cells #[.slice none 0 0, .slice none 0 0, .slice none 0 0] 26) = W0 at *
  go_enter Try.func7, Try.ntmps7
  go_wp2_with fail
  clear hW0
  refine (l1Source_any a c l W0 HA.out HU.out).mono ?_
  rintro e w1 ⟨rfl, hS1, hb1⟩
  have HS1 := Hid.mk' hS1
  have HB1 := Hid.mk' hb1
  clear hS1 hb1 HA HU
  go_wp2_with fail
  refine (l1Bent_any _ 0 l w1 HS1.out (by decide) hl).mono ?_
  rintro e w2 ⟨s1, s2, s3, t, k1, rfl, hB, hk1, ot2, hS2, hK2⟩
  obtain ⟨p1, q1, p2, q2, p3, q3, rfl, rfl, rfl⟩ := ot2.forms
  have N2 := below_new w2 (.cells #[.slice p1 t.base.length q1, .slice p2 t.more.length q2, .slice p3 t.pcs.length q3] 26)
  have l1_ := HS1.out.lt
  have y2 := hK2.size
  have D2 : Hid (DI w W0.heap.size w2.heap.size w.heap.size l k1 (.slice p1 t.base.length q1) (.slice p2 t.more.length q2) (.slice p3 t.pcs.length q3) t (w2.alloc (.cells #[.slice p1 t.base.length q1, .slice p2 t.more.length q2, .slice p3 t.pcs.length q3] 26))) :=
    have zz := z0.out
    ⟨Nat.le_refl _, by omega, by omega, row3 w2 _ _ _ _, rowB (rowK (rowB R0.out HB1.out) hK2 (.inl (by omega))) N2, (ot2.below N2).mono (by omega) (by simp), hS2.below N2, ((HN.out.trans (HB1.out.mono (by omega))).trans (hK2.below (by omega) (by omega))).trans (N2.mono (by omega))⟩
  have BT := Hid.mk' hB
  clear hB ot2 hS2 hK2 N2 HS1 HB1 R0 HN
  generalize hW2 : w2.alloc (.cells #[.slice p1 t.base.length q1, .slice p2 t.more.length q2, .slice p3 t.pcs.length q3] 26) = W2 at *
  go_wp2_with fail
  clear hW2
  refine (l1Marked_any _ k1 4 l W2 D2.out.src (by omega) (by decide) (by decide) hl).mono ?_
  rintro e w3 ⟨v, dd, k3, rfl, dl, hk3, hDr⟩
  obtain ⟨pd, qd, rfl⟩ := own_form hDr.own
  have D3 := Hid.mk' (D2.out.next hDr.src hDr.kept)
  have OW := Hid.mk' hDr.own
  have DU := Hid.mk' hDr.u8
  have lw2 := D2.out.src.lt
  clear D2 hDr
  go_wp2_with fail
  refine (l1Chance_any _ k3 l 20 w3 D3.out.src (by omega) (by decide) (by decide) hl).mono ?_
  rintro e w4 ⟨ch, rfl, hS4, hK4⟩
  have D4 := Hid.mk' (D3.out.next hS4 hK4)
  have OW4 := Hid.mk' (own_kept OW.out hK4 (by omega))
  clear D3 OW hS4 hK4
  have hmk : (Instr.makeSlice 22 (.int .i64 241) (.int .i64 241)).run Try.prog w4 = .ok (.slice (some ⟨w4.heap.size, 0, none⟩) 241 241) (w4.alloc (.cells (madeCells #[.int .u8 0] 241) 5)) := run_make_row' (P := Try.prog) 22 5 (.int .u8 0) 1 Try.underlying22 Try.info5 rfl .i64 .i64 241 (by omega) (by omega) w4
  have KS : Hid (∀ (kk : Nat) (W : World), DI w W0.heap.size w2.heap.size w.heap.size l kk (.slice p1 t.base.length q1) (.slice p2 t.more.length q2) (.slice p3 t.pcs.length q3) t W → Calls Try.prog 34 #[.pointer (some ⟨w2.heap.size, 0, none⟩)] W fun e w' => e = .returned (.int .i64 (total t.pcs)) ∧ w' = W) := fun kk W hW => by
    obtain ⟨a', c', e, hb⟩ := hW.ot.o3.len
    cases e
    exact l1Size_bent w2.heap.size p3 q3 t.pcs W (cells3 hW.box).2.2.1 hb BT.out.some
  have tt := BT.out.some.total_le t.pcs.length (Nat.le_refl _)
  rw [List.take_length] at tt
  generalize total t.pcs = tot at *
  obtain ⟨m1, hm1, m1a, m1b⟩ : ∃ m1 : Int, (if (300 : Int) < tot then (300 : Int) else tot) = m1 ∧ 0 ≤ m1 ∧ m1 ≤ 300 := ⟨_, rfl, by split <;> omega, by split <;> omega⟩
  have KI : Hid (∀ W : World, Calls Try.prog 33 #[.int .i64 300, .int .i64 tot] W fun e w' => e = .returned (.int .i64 m1) ∧ w' = W) := fun W => hm1 ▸ l1Min_any 300 tot W
  have KX : Hid (∀ W : World, Calls Try.prog 32 #[.int .i64 0, .int .i64 m1] W fun e w' => e = .returned (.int .i64 m1) ∧ w' = W) := fun W => by
    have h := l1Max_any 0 m1 W
    rw [if_neg (by omega)] at h
    exact h
  have KN : Hid (∀ W : World, Src W0.heap.size l (k3 + 1) W → Calls Try.prog 31 #[.pointer (some ⟨W0.heap.size, 0, none⟩), .int .i64 (IntKind.i64.wrap (m1 + 3))] W fun e w' => ∃ v : Int, e = .returned (.int .i64 v) ∧ 0 ≤ v ∧ v < m1 + 3 ∧ Src W0.heap.size l (k3 + 1 + 1) w' ∧ KeptIn W0.heap.size (W0.heap.size + 1) W w') := fun W hS => by
    have hw : IntKind.i64.wrap (m1 + 3) = m1 + 3 := by rw [IntKind.wrap_i64]; omega
    rw [hw]
    exact l1Next_any _ (k3 + 1) l (m1 + 3) W hS (by omega) (by omega) (by omega) hl
  clear hm1 tt
  cases ch with
  | false =>
    clear hmk
    obtain ⟨a0, a1, a2, a3⟩ := cells3 D4.out.box
    obtain ⟨c0_, c1_, c2_, c3_⟩ := cells3 D4.out.res
    go_wp2_with fail
    have rb := D4.out.rb
    have bg := D4.out.bg
    have ne1 : ¬ w.heap.size = w2.heap.size := by omega
    have ne2 : ¬ w2.heap.size = w.heap.size := by omega
    have D := Hid.mk' (D4.out.below (Below.refl _ _).drew)
    clear D4
    go_region_held3 (fun w' => w'.cell? ⟨w2.heap.size, 0, none⟩ = some (.slice p1 t.base.length q1) ∧ w'.cell? ⟨w2.heap.size, 1, none⟩ = some (.slice p2 t.more.length q2) ∧ w'.cell? ⟨w2.heap.size, 2, none⟩ = some (.slice p3 t.pcs.length q3)) (simp [*, go_sem, World.cell?_setCell_far])
      (first | (go_at_call 34; refine (KS.out _ _ D.out).mono ?_; rintro e u ⟨rfl, rfl⟩) | (go_at_call 33; refine (KI.out _).mono ?_; rintro e u ⟨rfl, rfl⟩) | (go_at_call 32; refine (KX.out _).mono ?_; rintro e u ⟨rfl, rfl⟩) | (go_at_call 31; refine (KN.out _ D.out.src).mono ?_; rintro e u1 ⟨x, rfl, x0, x1, hS, hK⟩; have D := Hid.mk' (D.out.next hS hK); have KK := Hid.mk' hK; obtain ⟨m0_, m1_, m2_, m3_⟩ := cells3 D.out.box; obtain ⟨n0_, n1_, n2_, n3_⟩ := cells3 D.out.res; have f0_ := D.out.res.frozen 0; have f1_ := D.out.res.frozen 1; have f2_ := D.out.res.frozen 2; clear hS hK))
    have hwx : IntKind.i64.wrap (x - 1) = x - 1 := by rw [IntKind.wrap_i64]; omega
    rw [hwx]
    go_wp2
    refine bodyPost_ret (v := .tuple #[.agg #[.slice p1 t.base.length q1, .slice p2 t.more.length q2, .slice p3 t.pcs.length q3], .int .i64 (x - 1), .slice pd dd.length qd]) (by simp [results, Try.results7, go_sem, *]) rfl ?_
    have K3 := keptj3 u1 w.heap.size (.slice p1 t.base.length q1) (.slice p2 t.more.length q2) (.slice p3 t.pcs.length q3)
    have O5 := own_kept (own_kept (own_keep OW4.out (Below.refl _ _).drew) KK.out (by omega)) K3 (by omega)
    refine ⟨_, _, _, t, x - 1, dd, pd, qd, rfl, BT.out, (D.out.ot.set (D.out.ot.off (.inl (by omega))) K3).atC, by omega, by omega, own_bat O5, by omega, DU.out, D.out.bel.trans (K3.below (Nat.le_refl _) D.out.bel.size)⟩
  | true =>
    have ZB := Hid.mk' (zeros_OB w4 241)
    have D5 := Hid.mk' (D4.out.below (below_new w4 (.cells (madeCells #[.int .u8 0] 241) 5)))
    have l4 := D4.out.src.lt
    clear D4 OW4
    generalize hW5 : w4.alloc (.cells (madeCells #[.int .u8 0] 241) 5) = W5 at *
    obtain ⟨a0, a1, a2, a3⟩ := cells3 D5.out.box
    obtain ⟨c0_, c1_, c2_, c3_⟩ := cells3 D5.out.res
    go_wp2_with fail
    have rb := D5.out.rb
    have bg := D5.out.bg
    have ne1 : ¬ w.heap.size = w2.heap.size := by omega
    have ne2 : ¬ w2.heap.size = w.heap.size := by omega
    have D := Hid.mk' (D5.out.below (Below.refl _ _).drew)
    clear D5
    go_region_held3 (fun w' => w'.cell? ⟨w2.heap.size, 0, none⟩ = some (.slice p1 t.base.length q1) ∧ w'.cell? ⟨w2.heap.size, 1, none⟩ = some (.slice p2 t.more.length q2) ∧ w'.cell? ⟨w2.heap.size, 2, none⟩ = some (.slice p3 t.pcs.length q3)) (simp [*, go_sem, World.cell?_setCell_far])
      (first | (go_at_call 34; refine (KS.out _ _ D.out).mono ?_; rintro e u ⟨rfl, rfl⟩) | (go_at_call 33; refine (KI.out _).mono ?_; rintro e u ⟨rfl, rfl⟩) | (go_at_call 32; refine (KX.out _).mono ?_; rintro e u ⟨rfl, rfl⟩) | (go_at_call 31; refine (KN.out _ D.out.src).mono ?_; rintro e u1 ⟨x, rfl, x0, x1, hS, hK⟩; have D := Hid.mk' (D.out.next hS hK); have KK := Hid.mk' hK; obtain ⟨m0_, m1_, m2_, m3_⟩ := cells3 D.out.box; obtain ⟨n0_, n1_, n2_, n3_⟩ := cells3 D.out.res; have f0_ := D.out.res.frozen 0; have f1_ := D.out.res.frozen 1; have f2_ := D.out.res.frozen 2; clear hS hK))
    have hwx : IntKind.i64.wrap (x - 1) = x - 1 := by rw [IntKind.wrap_i64]; omega
    rw [hwx]
    go_wp2
    refine bodyPost_ret (v := .tuple #[.agg #[.slice p1 t.base.length q1, .slice p2 t.more.length q2, .slice p3 t.pcs.length q3], .int .i64 (x - 1), .slice (some ⟨w4.heap.size, 0, none⟩) 241 241]) (by simp [results, Try.results7, go_sem, *]) rfl ?_
    have K3 := keptj3 u1 w.heap.size (.slice p1 t.base.length q1) (.slice p2 t.more.length q2) (.slice p3 t.pcs.length q3)
    have O5 := ((ZB.out.keep (w' := W5.drew) fun k e hl => rfl).keep (fun k e hl => KK.out.block k hl (.inr (by simp [Value.ownBlock] at e; omega)))).keep (fun k e hl => K3.block k hl (.inr (by simp [Value.ownBlock] at e; omega)))
    obtain ⟨a', c', e, hb⟩ := O5.len
    cases e
    refine ⟨_, _, _, t, x - 1, List.replicate 241 0, _, _, by rw [List.length_replicate], BT.out, (D.out.ot.set (D.out.ot.off (.inl (by omega))) K3).atC, by omega, by omega, hb, by simp, U8.zeros 241, D.out.bel.trans (K3.below (Nat.le_refl _) D.out.bel.size)⟩

set_option maxHeartbeats 1000000 in
theorem drawCompactTable_any (a : Option Addr) (c : Nat) (l : List Int) (w : World) (ha : BAt w a l) (hu : ∀ i, i < l.length → 0 ≤ l.getD i 0 ∧ l.getD i 0 ≤ 255) (hl : (l.length : Int) ≤ 1048576) :
    Calls Try.prog 20 #[.slice a l.length c] w fun e w' => ∃ (s1 s2 s3 : Value) (t : TB), e = .returned (.agg #[s1, s2, s3]) ∧ Bent t ∧ TAtC w' (.agg #[s1, s2, s3]) t ∧ Below w.heap.size w w' := by
  have N0 := below_new w (.cells #[.slice none 0 0, .slice none 0 0, .slice none 0 0] 26)
  have R0 := Hid.mk' (row3 w 26 (.slice none 0 0) (.slice none 0 0) (.slice none 0 0))
  have HA := Hid.mk' (ha.below N0)
  have HU := Hid.mk' hu
  have HN := Hid.mk' N0
  have z0 : Hid ((w.alloc (.cells #[.slice none 0 0, .slice none 0 0, .slice none 0 0] 26)).heap.size = w.heap.size + 1) := Hid.mk' (by simp)
  clear ha hu N0
  generalize hW0 : w.alloc (.cells #[.slice none 0 0, .slice none 0 0, .slice none 0 0] 26) = W0 at *
  go_enter Try.func20, Try.ntmps20
  go_wp2_with fail
  clear hW0
  refine (l1Source_any a c l W0 HA.out HU.out).mono ?_
  rintro e w1 ⟨rfl, hS1, hb1⟩
  have HS1 := Hid.mk' hS1
  have HB1 := Hid.mk' hb1
  clear hS1 hb1 HA HU
  go_wp2_with fail
  refine (l1Bent_any _ 0 l w1 HS1.out (by decide) hl).mono ?_
  rintro e w2 ⟨s1, s2, s3, t, k1, rfl, hB, hk1, ot2, hS2, hK2⟩
  obtain ⟨p1, q1, p2, q2, p3, q3, rfl, rfl, rfl⟩ := ot2.forms
  have zz := z0.out
  have l1_ := HS1.out.lt
  have y1 := HB1.out.size
  have RR := Hid.mk' (rowK (rowB R0.out HB1.out) hK2 (.inl (by omega)))
  have OO := Hid.mk' ot2
  have BT := Hid.mk' hB
  have HB2 := Hid.mk' ((HN.out.trans (HB1.out.mono (by omega))).trans (hK2.below (by omega) (by omega)))
  obtain ⟨c0_, c1_, c2_, c3_⟩ := cells3 RR.out
  have f0_ := RR.out.frozen 0
  have f1_ := RR.out.frozen 1
  have f2_ := RR.out.frozen 2
  have lt1 : w.heap.size < w1.heap.size := by omega
  clear hB ot2 hS2 hK2 HS1 HB1 zz
  go_wp2
  refine bodyPost_ret (v := .agg #[.slice p1 t.base.length q1, .slice p2 t.more.length q2, .slice p3 t.pcs.length q3]) (by simp [results, Try.results20, go_sem, *]) rfl ?_
  have K3 := keptj3 w2 w.heap.size (.slice p1 t.base.length q1) (.slice p2 t.more.length q2) (.slice p3 t.pcs.length q3)
  exact ⟨_, _, _, t, rfl, BT.out, (OO.out.set (OO.out.off (.inl (by omega))) K3).atC, HB2.out.trans (K3.below (Nat.le_refl _) HB2.out.size)⟩

theorem DI.ig {w wr : World} {b g r k : Nat} {l : List Int} {s1 s2 s3 : Value} {t : TB} (h : DI w b g r l k s1 s2 s3 t wr) (j : Nat) (hj : wr.heap.size = j) : IG b j [0, 1, 2, 5, -1, 300] (wr.alloc (.cells #[.int .i64 0, .int .i64 1, .int .i64 2, .int .i64 5, .int .i64 (-1), .int .i64 300] 2)) := by
  subst hj; exact ⟨iat_lit wr [0, 1, 2, 5, -1, 300], h.src.lt⟩

set_option maxRecDepth 100000 in
set_option maxHeartbeats 4000000 in
theorem drawDeleteText_any (a : Option Addr) (c : Nat) (l : List Int) (w : World) (ha : BAt w a l) (hu : ∀ i, i < l.length → 0 ≤ l.getD i 0 ∧ l.getD i 0 ≤ 255) (hl : (l.length : Int) ≤ 1048576) :
    Calls Try.prog 18 #[.slice a l.length c] w fun e w' => ∃ (s1 s2 s3 : Value) (t : TB) (x n : Int), e = .returned (.tuple #[.agg #[s1, s2, s3], .int .i64 x, .int .i64 n]) ∧ Bent t ∧ TAtC w' (.agg #[s1, s2, s3]) t ∧ -1 ≤ x ∧ x ≤ 302 ∧ -1 ≤ n ∧ n ≤ 300 ∧ Below w.heap.size w w' := by
  have N0 := below_new w (.cells #[.slice none 0 0, .slice none 0 0, .slice none 0 0] 26)
  have R0 := Hid.mk' (row3 w 26 (.slice none 0 0) (.slice none 0 0) (.slice none 0 0))
  have HA := Hid.mk' (ha.below N0)
  have HU := Hid.mk' hu
  have HN := Hid.mk' N0
  have z0 : Hid ((w.alloc (.cells #[.slice none 0 0, .slice none 0 0, .slice none 0 0] 26)).heap.size = w.heap.size + 1) := Hid.mk' (by simp)
  clear ha hu N0
  generalize hW0 : w.alloc (.cells #[.slice none 0 0, .slice none 0 0, .slice none 0 0] 26) = W0 at *
  go_enter Try.func18, Try.ntmps18
  go_wp2_with fail
  clear hW0
  refine (l1Source_any a c l W0 HA.out HU.out).mono ?_
  rintro e w1 ⟨rfl, hS1, hb1⟩
  have HS1 := Hid.mk' hS1
  have HB1 := Hid.mk' hb1
  clear hS1 hb1 HA HU
  go_wp2_with fail
  refine (l1Bent_any _ 0 l w1 HS1.out (by decide) hl).mono ?_
  rintro e w2 ⟨s1, s2, s3, t, k1, rfl, hB, hk1, ot2, hS2, hK2⟩
  obtain ⟨p1, q1, p2, q2, p3, q3, rfl, rfl, rfl⟩ := ot2.forms
  have N2 := below_new w2 (.cells #[.slice p1 t.base.length q1, .slice p2 t.more.length q2, .slice p3 t.pcs.length q3] 26)
  have l1_ := HS1.out.lt
  have y2 := hK2.size
  have D2 : Hid (DI w W0.heap.size w2.heap.size w.heap.size l k1 (.slice p1 t.base.length q1) (.slice p2 t.more.length q2) (.slice p3 t.pcs.length q3) t (w2.alloc (.cells #[.slice p1 t.base.length q1, .slice p2 t.more.length q2, .slice p3 t.pcs.length q3] 26))) :=
    have zz := z0.out
    ⟨Nat.le_refl _, by omega, by omega, row3 w2 _ _ _ _, rowB (rowK (rowB R0.out HB1.out) hK2 (.inl (by omega))) N2, (ot2.below N2).mono (by omega) (by simp), hS2.below N2, ((HN.out.trans (HB1.out.mono (by omega))).trans (hK2.below (by omega) (by omega))).trans (N2.mono (by omega))⟩
  have BT := Hid.mk' hB
  clear hB ot2 hS2 hK2 N2 HS1 HB1 R0 HN
  generalize hW2 : w2.alloc (.cells #[.slice p1 t.base.length q1, .slice p2 t.more.length q2, .slice p3 t.pcs.length q3] 26) = W2 at *
  have KS : Hid (∀ (kk : Nat) (W : World), DI w W0.heap.size w2.heap.size w.heap.size l kk (.slice p1 t.base.length q1) (.slice p2 t.more.length q2) (.slice p3 t.pcs.length q3) t W → Calls Try.prog 34 #[.pointer (some ⟨w2.heap.size, 0, none⟩)] W fun e w' => e = .returned (.int .i64 (total t.pcs)) ∧ w' = W) := fun kk W hW => by
    obtain ⟨a', c', e, hb⟩ := hW.ot.o3.len
    cases e
    exact l1Size_bent w2.heap.size p3 q3 t.pcs W (cells3 hW.box).2.2.1 hb BT.out.some
  have tt := BT.out.some.total_le t.pcs.length (Nat.le_refl _)
  rw [List.take_length] at tt
  generalize total t.pcs = tot at *
  obtain ⟨m1, hm1, m1a, m1b⟩ : ∃ m1 : Int, (if (300 : Int) < tot then (300 : Int) else tot) = m1 ∧ 0 ≤ m1 ∧ m1 ≤ 300 := ⟨_, rfl, by split <;> omega, by split <;> omega⟩
  have KI : Hid (∀ W : World, Calls Try.prog 33 #[.int .i64 300, .int .i64 tot] W fun e w' => e = .returned (.int .i64 m1) ∧ w' = W) := fun W => hm1 ▸ l1Min_any 300 tot W
  have KX : Hid (∀ W : World, Calls Try.prog 32 #[.int .i64 0, .int .i64 m1] W fun e w' => e = .returned (.int .i64 m1) ∧ w' = W) := fun W => by
    have h := l1Max_any 0 m1 W
    rw [if_neg (by omega)] at h
    exact h
  have KN : Hid (∀ W : World, Src W0.heap.size l k1 W → Calls Try.prog 31 #[.pointer (some ⟨W0.heap.size, 0, none⟩), .int .i64 (IntKind.i64.wrap (m1 + 3))] W fun e w' => ∃ v : Int, e = .returned (.int .i64 v) ∧ 0 ≤ v ∧ v < m1 + 3 ∧ Src W0.heap.size l (k1 + 1) w' ∧ KeptIn W0.heap.size (W0.heap.size + 1) W w') := fun W hS => by
    have hw : IntKind.i64.wrap (m1 + 3) = m1 + 3 := by rw [IntKind.wrap_i64]; omega
    rw [hw]
    exact l1Next_any _ k1 l (m1 + 3) W hS (by omega) (by omega) (by omega) hl
  clear hm1 tt
  have KP : Hid (∀ (W : World) (g : Nat), Src W0.heap.size l (k1 + 1) W → IG W0.heap.size g [0, 1, 2, 5, -1, 300] W → Calls Try.prog 43 #[.pointer (some ⟨W0.heap.size, 0, none⟩), .slice (some ⟨g, 0, none⟩) 6 6] W fun e w' => ∃ x : Int, e = .returned (.int .i64 x) ∧ -1 ≤ x ∧ x ≤ 300 ∧ Src W0.heap.size l (k1 + 1 + 1) w' ∧ KeptIn W0.heap.size (W0.heap.size + 1) W w') := fun W g hS hI => by
    refine (l1Pick_any _ (k1 + 1) g 6 l [0, 1, 2, 5, -1, 300] W hS hI.at_ (by have := hI.bg; omega) (by omega) (by decide) (by decide) hl).mono ?_
    rintro e w' ⟨i, hi, rfl, h1, h2⟩
    have h : i = 0 ∨ i = 1 ∨ i = 2 ∨ i = 3 ∨ i = 4 ∨ i = 5 := by simp at hi; omega
    refine ⟨_, rfl, ?_, ?_, h1, h2⟩ <;> (rcases h with rfl | rfl | rfl | rfl | rfl | rfl <;> simp)
  obtain ⟨a0, a1, a2, a3⟩ := cells3 D2.out.box
  obtain ⟨c0_, c1_, c2_, c3_⟩ := cells3 D2.out.res
  go_wp2_with fail
  clear hW2
  have rb := D2.out.rb
  have bg := D2.out.bg
  have ne1 : ¬ w.heap.size = w2.heap.size := by omega
  have ne2 : ¬ w2.heap.size = w.heap.size := by omega
  have D := Hid.mk' (D2.out.below (Below.refl _ _).drew)
  go_region_held3 (fun w' => w'.cell? ⟨w2.heap.size, 0, none⟩ = some (.slice p1 t.base.length q1) ∧ w'.cell? ⟨w2.heap.size, 1, none⟩ = some (.slice p2 t.more.length q2) ∧ w'.cell? ⟨w2.heap.size, 2, none⟩ = some (.slice p3 t.pcs.length q3)) (simp [*, go_sem, World.cell?_alloc_some, World.cell?_setCell_far])
    (first | (go_at_call 34; with_reducible refine (KS.out _ _ D.out).mono ?_; rintro e u ⟨rfl, rfl⟩) | (go_at_call 34; have I := Hid.mk' (D2.out.ig W2.heap.size rfl); have D := Hid.mk' (D2.out.below (below_new _ (.cells #[.int .i64 0, .int .i64 1, .int .i64 2, .int .i64 5, .int .i64 (-1), .int .i64 300] 2))); have I := Hid.mk' (I.out.below (Below.refl _ _).drew); have D := Hid.mk' (D.out.below (Below.refl _ _).drew); with_reducible refine (KS.out _ _ D.out).mono ?_; rintro e u ⟨rfl, rfl⟩) | (go_at_call 33; refine (KI.out _).mono ?_; rintro e u ⟨rfl, rfl⟩) | (go_at_call 32; refine (KX.out _).mono ?_; rintro e u ⟨rfl, rfl⟩) | (go_at_call 31; with_reducible refine (KN.out _ D.out.src).mono ?_; rintro e u1 ⟨x, rfl, x0, x1, hS, hK⟩; have D := Hid.mk' (D.out.next hS hK); (first | have I := Hid.mk' (I.out.next hK) | skip); obtain ⟨m0_, m1_, m2_, m3_⟩ := cells3 D.out.box; obtain ⟨n0_, n1_, n2_, n3_⟩ := cells3 D.out.res; have f0_ := D.out.res.frozen 0; have f1_ := D.out.res.frozen 1; have f2_ := D.out.res.frozen 2; clear hS hK) | (go_at_call 31; have I := Hid.mk' (D2.out.ig W2.heap.size rfl); have D := Hid.mk' (D2.out.below (below_new _ (.cells #[.int .i64 0, .int .i64 1, .int .i64 2, .int .i64 5, .int .i64 (-1), .int .i64 300] 2))); have I := Hid.mk' (I.out.below (Below.refl _ _).drew); have D := Hid.mk' (D.out.below (Below.refl _ _).drew); with_reducible refine (KN.out _ D.out.src).mono ?_; rintro e u1 ⟨x, rfl, x0, x1, hS, hK⟩; have D := Hid.mk' (D.out.next hS hK); (first | have I := Hid.mk' (I.out.next hK) | skip); obtain ⟨m0_, m1_, m2_, m3_⟩ := cells3 D.out.box; obtain ⟨n0_, n1_, n2_, n3_⟩ := cells3 D.out.res; have f0_ := D.out.res.frozen 0; have f1_ := D.out.res.frozen 1; have f2_ := D.out.res.frozen 2; clear hS hK) | (go_at_call 43; with_reducible refine (KP.out _ _ D.out.src I.out).mono ?_; rintro e u2 ⟨n, rfl, n0, n1, hS, hK⟩; have D := Hid.mk' (D.out.next hS hK); obtain ⟨m0_, m1_, m2_, m3_⟩ := cells3 D.out.box; obtain ⟨n0_, n1_, n2_, n3_⟩ := cells3 D.out.res; have f0_ := D.out.res.frozen 0; have f1_ := D.out.res.frozen 1; have f2_ := D.out.res.frozen 2; clear hS hK) | (go_at_call 43; have I := Hid.mk' (D.out.ig u1.heap.size rfl); have D := Hid.mk' (D.out.below (below_new _ (.cells #[.int .i64 0, .int .i64 1, .int .i64 2, .int .i64 5, .int .i64 (-1), .int .i64 300] 2))); with_reducible refine (KP.out _ _ D.out.src I.out).mono ?_; rintro e u2 ⟨n, rfl, n0, n1, hS, hK⟩; have D := Hid.mk' (D.out.next hS hK); obtain ⟨m0_, m1_, m2_, m3_⟩ := cells3 D.out.box; obtain ⟨n0_, n1_, n2_, n3_⟩ := cells3 D.out.res; have f0_ := D.out.res.frozen 0; have f1_ := D.out.res.frozen 1; have f2_ := D.out.res.frozen 2; clear hS hK))
  all_goals
    have hwx : IntKind.i64.wrap (x - 1) = x - 1 := by rw [IntKind.wrap_i64]; omega
    rw [hwx]
    go_wp2
    refine bodyPost_ret (v := .tuple #[.agg #[.slice p1 t.base.length q1, .slice p2 t.more.length q2, .slice p3 t.pcs.length q3], .int .i64 (x - 1), .int .i64 n]) (by simp [results, Try.results18, go_sem, *]) rfl ?_
    have K3 := keptj3 u2 w.heap.size (.slice p1 t.base.length q1) (.slice p2 t.more.length q2) (.slice p3 t.pcs.length q3)
    exact ⟨_, _, _, t, x - 1, n, rfl, BT.out, (D.out.ot.set (D.out.ot.off (.inl (by omega))) K3).atC, by omega, by omega, n0, n1, D.out.bel.trans (K3.below (Nat.le_refl _) D.out.bel.size)⟩

end Go.Proofs.Ytahkneghmgmnbaa
