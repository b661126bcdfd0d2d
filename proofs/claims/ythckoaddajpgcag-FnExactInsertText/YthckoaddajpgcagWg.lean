/- Walks: memory of one's own is marked, and the marks are held. -/
import Derived.Test.YthckoaddajpgcagWf
import Derived.Test.YthckoaddajpgcagOwn
namespace Go.Proofs.Ythckoaddajpgcag
open Go.RowKit
set_option linter.unusedVariables false

set_option maxHeartbeats 400000 in
theorem markByteS_row (g cap cn n k : Nat) (f : Nat → Value) (w : World) (hr : w.rowIs g 5 cn f) (hn : n ≤ cn) (hk : (k : Int) + n ≤ 100000000) :
    Calls Try.prog 19 #[.slice (some ⟨g, 0, none⟩) n cap, .int .i64 k] w fun e w' => e = .returned (.int .i64 ((k : Int) + n)) ∧ w'.rowIs g 5 cn (mpart f k n) ∧ KeptIn g (g + 1) w w' := by
  go_enter Try.func19, Try.ntmps19
  go_wp2
  go_loopw [1, 5] (fun s x wr => ∃ i : Nat, i ≤ n ∧ x = .int .i64 i ∧ s = .int .i64 ((k : Int) + i) ∧ wr.rowIs g 5 cn (mpart f k i) ∧ KeptIn g (g + 1) w wr) (fun _ x _ => n - (intOf x).toNat)
  case atStart => exact ⟨0, Nat.zero_le _, rfl, by simp, hr.congr (fun j _ => by simp [mpart]), KeptIn.refl _ _ _⟩
  case round =>
    obtain ⟨i, hi, rfl, rfl, hrow, hkp⟩ := hrel
    by_cases hlt : i < n
    · have f0 := hrow.frozen i
      obtain ⟨v0, g0⟩ : ∃ v, wr.cell? ⟨g, i, none⟩ = some v := ⟨_, hrow.cell (by omega)⟩
      have R1 := Hid.mk' hrow
      have R2 := Hid.mk' hkp
      clear hrow hkp
      go_wp2
      go_roundw
      case rel => exact ⟨i + 1, by omega, by go_num, by go_num, mpart_step R1.out, R2.out.setCell (p := ⟨g, i, none⟩) (Nat.le_refl _) (Nat.lt_succ_self _) _⟩
      case measure => simp [intOf]; omega
    · go_wp2
      go_ret
      have e : i = n := by omega
      subst e
      exact ⟨rfl, hrow, hkp⟩

set_option maxHeartbeats 400000 in
theorem heldByteS_any (a : Option Addr) (c n k : Nat) (w : World) (ha : BAt w a (mb k n)) (hk : (k : Int) + n ≤ 100000000) :
    Calls Try.prog 50 #[.slice a n c, .int .i64 k] w fun e w' => e = .returned (.int .i64 ((k : Int) + n)) ∧ Below w.heap.size w w' := by
  go_enter Try.func50, Try.ntmps50
  go_wp2
  go_loopw [1, 5] (fun s x wr => ∃ i : Nat, i ≤ n ∧ x = .int .i64 i ∧ s = .int .i64 ((k : Int) + i) ∧ Below w.heap.size w wr) (fun _ x _ => n - (intOf x).toNat)
  case atStart => exact ⟨0, Nat.zero_le _, rfl, by simp, Below.refl _ _⟩
  case round =>
    obtain ⟨i, hi, rfl, rfl, hbl⟩ := hrel
    by_cases hlt : i < n
    · rcases ha with ha | ⟨b, o, rfl, hbs, hc⟩
      · have := congrArg List.length ha
        rw [mb_len] at this
        simp at this
        omega
      have h1 : wr.cell? ⟨b, o + i, none⟩ = some (.int .u8 (((k : Int) + i) % 256)) := by rw [hbl.cell hbs, hc i (by rw [mb_len]; exact hlt), bv_mb k n i hlt]
      have R2 := Hid.mk' hbl
      clear hbl hc
      go_wp2
      go_roundw
      case rel => exact ⟨i + 1, by omega, by go_num, by go_num, R2.out⟩
      case measure => simp [intOf]; omega
    · go_wp2
      go_ret
      have e : i = n := by omega
      subst e
      exact ⟨rfl, hbl⟩

set_option maxHeartbeats 400000 in
theorem markPieceS_row (g cap cn n k : Nat) (f : Nat → Value) (w : World) (hr : w.rowIs g 62 cn f) (hn : n * 3 ≤ cn) (hk : (k : Int) + 3 * n ≤ 100000000) :
    Calls Try.prog 49 #[.slice (some ⟨g, 0, none⟩) n cap, .int .i64 k] w fun e w' => e = .returned (.int .i64 ((k : Int) + 3 * n)) ∧ w'.rowIs g 62 cn (mppart f k n n) ∧ KeptIn g (g + 1) w w' := by
  go_enter Try.func49, Try.ntmps49
  go_wp2
  go_loopw [1, 5] (fun s x wr => ∃ i : Nat, i ≤ n ∧ x = .int .i64 i ∧ s = .int .i64 ((k : Int) + 3 * i) ∧ wr.rowIs g 62 cn (mppart f k n i) ∧ KeptIn g (g + 1) w wr) (fun _ x _ => n - (intOf x).toNat)
  case atStart => exact ⟨0, Nat.zero_le _, rfl, by simp, hr.congr (fun j _ => by simp [mppart]), KeptIn.refl _ _ _⟩
  case round =>
    obtain ⟨i, hi, rfl, rfl, hrow, hkp⟩ := hrel
    by_cases hlt : i < n
    · have f0 := hrow.frozen (i * 3)
      have f1 := hrow.frozen (i * 3 + 1)
      have f2 := hrow.frozen (i * 3 + 2)
      obtain ⟨v0, g0⟩ : ∃ v, wr.cell? ⟨g, i * 3, none⟩ = some v := ⟨_, hrow.cell (by omega)⟩
      obtain ⟨v1, g1⟩ : ∃ v, wr.cell? ⟨g, i * 3 + 1, none⟩ = some v := ⟨_, hrow.cell (by omega)⟩
      obtain ⟨v2, g2⟩ : ∃ v, wr.cell? ⟨g, i * 3 + 2, none⟩ = some v := ⟨_, hrow.cell (by omega)⟩
      have R1 := Hid.mk' hrow
      have R2 := Hid.mk' hkp
      clear hrow hkp
      go_wp2
      go_roundw
      case rel => exact ⟨i + 1, by omega, by go_num, by go_num, mppart_step hlt R1.out, ((R2.out.setCell (p := ⟨g, i * 3, none⟩) (Nat.le_refl _) (Nat.lt_succ_self _) _).setCell (p := ⟨g, i * 3 + 1, none⟩) (Nat.le_refl _) (Nat.lt_succ_self _) _).setCell (p := ⟨g, i * 3 + 2, none⟩) (Nat.le_refl _) (Nat.lt_succ_self _) _⟩
      case measure => simp [intOf]; omega
    · go_wp2
      go_ret
      have e : i = n := by omega
      subst e
      exact ⟨rfl, hrow, hkp⟩

set_option maxHeartbeats 400000 in
theorem heldPieceS_any (a : Option Addr) (c n k : Nat) (w : World) (ha : PAt w a (mp k n)) (hk : (k : Int) + 3 * n ≤ 100000000) :
    Calls Try.prog 66 #[.slice a n c, .int .i64 k] w fun e w' => e = .returned (.int .i64 ((k : Int) + 3 * n)) ∧ Below w.heap.size w w' := by
  go_enter Try.func66, Try.ntmps66
  go_wp2
  go_loopw [1, 5] (fun s x wr => ∃ i : Nat, i ≤ n ∧ x = .int .i64 i ∧ s = .int .i64 ((k : Int) + 3 * i) ∧ Below w.heap.size w wr) (fun _ x _ => n - (intOf x).toNat)
  case atStart => exact ⟨0, Nat.zero_le _, rfl, by simp, Below.refl _ _⟩
  case round =>
    obtain ⟨i, hi, rfl, rfl, hbl⟩ := hrel
    by_cases hlt : i < n
    · rcases ha with ha | ⟨b, o, rfl, hbs, hc⟩
      · have := congrArg List.length ha
        rw [mp_len] at this
        simp at this
        omega
      obtain ⟨q1, q2, q3⟩ := hc i (by rw [mp_len]; exact hlt)
      rw [pc_mp k n i hlt] at q1 q2 q3
      have h1 := (hbl.cell hbs).trans q1
      have h2 := (hbl.cell hbs).trans q2
      have h3 := (hbl.cell hbs).trans q3
      have R2 := Hid.mk' hbl
      clear hbl hc q1 q2 q3
      go_wp2
      go_roundw
      case rel => exact ⟨i + 1, by omega, by go_num, by go_num, R2.out⟩
      case measure => simp [intOf]; omega
    · go_wp2
      go_ret
      have e : i = n := by omega
      subst e
      exact ⟨rfl, hbl⟩

set_option maxHeartbeats 400000 in
theorem markByteS_nil (k : Nat) (w : World) (hk : (k : Int) ≤ 100000000) :
    Calls Try.prog 19 #[.slice none 0 0, .int .i64 k] w fun e w' => e = .returned (.int .i64 (k : Int)) ∧ w' = w := by
  go_enter Try.func19, Try.ntmps19
  go_wp2
  go_loop [1, 5] (fun s x => x = .int .i64 0 ∧ s = .int .i64 (k : Int)) (fun _ _ => 0)
  case atStart => exact ⟨rfl, rfl⟩
  case round =>
    obtain ⟨rfl, rfl⟩ := hrel
    go_wp2
    go_ret
    exact ⟨rfl, rfl⟩

set_option maxHeartbeats 400000 in
theorem markPieceS_nil (k : Nat) (w : World) (hk : (k : Int) ≤ 100000000) :
    Calls Try.prog 49 #[.slice none 0 0, .int .i64 k] w fun e w' => e = .returned (.int .i64 (k : Int)) ∧ w' = w := by
  go_enter Try.func49, Try.ntmps49
  go_wp2
  go_loop [1, 5] (fun s x => x = .int .i64 0 ∧ s = .int .i64 (k : Int)) (fun _ _ => 0)
  case atStart => exact ⟨rfl, rfl⟩
  case round =>
    obtain ⟨rfl, rfl⟩ := hrel
    go_wp2
    go_ret
    exact ⟨rfl, rfl⟩

theorem markByteS_own (k : Nat) (v : Value) (l : List Int) (w : World) (h : OB w v l) (hk : (k : Int) + l.length ≤ 100000000) :
    Calls Try.prog 19 #[v, .int .i64 k] w fun e w' => e = .returned (.int .i64 ((k : Int) + l.length)) ∧ OB w' v (mb k l.length) ∧ Turned v w w' := by
  rcases h with ⟨rfl, rfl⟩ | ⟨g, cap, cn, f, rfl, hca, hr, hl, hf⟩
  · refine (markByteS_nil k w (by simpa using hk)).mono ?_
    rintro e w' ⟨rfl, rfl⟩
    exact ⟨by simp, .inl ⟨rfl, rfl⟩, Turned.refl _ _⟩
  · refine (markByteS_row g cap cn l.length k f w hr hl hk).mono ?_
    rintro e w' ⟨rfl, hr', hk'⟩
    exact ⟨rfl, .inr ⟨g, cap, cn, _, by rw [mb_len], by rw [mb_len]; exact hca, hr', by rw [mb_len]; exact hl, fun i hi => by rw [mb_len] at hi; rw [bv_mb _ _ _ hi]; unfold mpart; rw [if_pos hi]⟩, Turned.of_kept hk'⟩

theorem markPieceS_own (k : Nat) (v : Value) (l : List PC) (w : World) (h : OP w v l) (hk : (k : Int) + 3 * l.length ≤ 100000000) :
    Calls Try.prog 49 #[v, .int .i64 k] w fun e w' => e = .returned (.int .i64 ((k : Int) + 3 * l.length)) ∧ OP w' v (mp k l.length) ∧ Turned v w w' := by
  rcases h with ⟨rfl, rfl⟩ | ⟨g, cap, cn, f, rfl, hca, hr, hl, hf⟩
  · refine (markPieceS_nil k w (by simpa using hk)).mono ?_
    rintro e w' ⟨rfl, rfl⟩
    exact ⟨by simp, .inl ⟨rfl, rfl⟩, Turned.refl _ _⟩
  · refine (markPieceS_row g cap cn l.length k f w hr hl hk).mono ?_
    rintro e w' ⟨rfl, hr', hk'⟩
    exact ⟨rfl, .inr ⟨g, cap, cn, _, by rw [mp_len], by rw [mp_len]; exact hca, hr', by rw [mp_len]; exact hl, fun i hi => by rw [mp_len] at hi; unfold mppart; rw [if_pos hi]⟩, Turned.of_kept hk'⟩

theorem ret_num {a b : Int} (h : a = b) : Ending.returned (.int .i64 a) = .returned (.int .i64 b) := by rw [h]

set_option maxHeartbeats 400000 in
theorem markTable_any (lo hi k : Nat) (s1 s2 s3 : Value) (t : TB) (w : World) (h : OT lo hi w s1 s2 s3 t) (hhi : hi ≤ w.heap.size) (hk : (k : Int) + cnt t ≤ 100000000) :
    Calls Try.prog 25 #[.agg #[s1, s2, s3], .int .i64 k] w fun e w' => e = .returned (.int .i64 ((k : Int) + cnt t)) ∧ OT lo hi w' s1 s2 s3 (mt k t) ∧ KeptIn lo hi w w' := by
  unfold cnt at hk ⊢
  have B0 := below_new w (.cells #[s1, s2, s3] 30)
  have H0 := Hid.mk' (h.below B0)
  have R0 := Hid.mk' (row3 w 30 s1 s2 s3)
  have K0 := Hid.mk' (KeptIn.of_below (lo := lo) (hi := hi) B0)
  obtain ⟨a1, b1, a2, b2, a3, b3, rfl, rfl, rfl⟩ : ∃ a1 b1 a2 b2 a3 b3, s1 = .slice a1 t.base.length b1 ∧ s2 = .slice a2 t.more.length b2 ∧ s3 = .slice a3 t.pcs.length b3 := by
    obtain ⟨a1, b1, e1, _⟩ := h.o1.len
    obtain ⟨a2, b2, e2, _⟩ := h.o2.len
    obtain ⟨a3, b3, e3, _⟩ := h.o3.len
    exact ⟨a1, b1, a2, b2, a3, b3, e1, e2, e3⟩
  clear h B0
  go_enter Try.func25, Try.ntmps25
  go_wp2_with fail
  refine (markByteS_own k _ t.base _ H0.out.o1 (by omega)).mono ?_
  rintro e w1 ⟨rfl, m1, u1⟩
  have P1 := u1.kept H0.out.i1
  have K1 := Hid.mk' (K0.out.trans P1)
  have R1 := rowK R0.out P1 (by omega)
  have n2 := Hid.mk' (H0.out.o2.turned u1 H0.out.a12.symm)
  have n3 := Hid.mk' (H0.out.o3.turned u1 H0.out.a13.symm)
  obtain ⟨x0, x1, x2, x3⟩ := cells3 R1
  have R1' := Hid.mk' R1
  have M1 := Hid.mk' m1
  clear u1 P1 K0 R0 R1 m1
  go_wp2_with fail
  have e2 : ((k : Int) + (t.base.length : Int)) = ((k + t.base.length : Nat) : Int) := by omega
  rw [e2]
  clear e2
  refine (markByteS_own (k + t.base.length) _ t.more _ n2.out (by omega)).mono ?_
  rintro e w2 ⟨rfl, m2, u2⟩
  have P2 := u2.kept H0.out.i2
  have K2 := Hid.mk' (K1.out.trans P2)
  have R2 := rowK R1'.out P2 (by omega)
  have M12 := Hid.mk' (M1.out.turned u2 H0.out.a12)
  have n33 := Hid.mk' (n3.out.turned u2 H0.out.a23.symm)
  obtain ⟨y0, y1, y2, y3⟩ := cells3 R2
  have M2 := Hid.mk' m2
  clear u2 P2 K1 R1' R2 m2 n2 n3 M1 x0 x1 x2 x3
  go_wp2_with fail
  have e3 : ((k : Int) + (t.base.length : Int) + (t.more.length : Int)) = ((k + t.base.length + t.more.length : Nat) : Int) := by omega
  rw [e3]
  clear e3
  refine (markPieceS_own (k + t.base.length + t.more.length) _ t.pcs _ n33.out (by omega)).mono ?_
  rintro e w3 ⟨rfl, m3, u3⟩
  have K3 := Hid.mk' (K2.out.trans (u3.kept H0.out.i3))
  have M13 := Hid.mk' (M12.out.turned u3 H0.out.a13)
  have M23 := Hid.mk' (M2.out.turned u3 H0.out.a23)
  have M3 := Hid.mk' m3
  clear u3 K2 m3 n33 M12 M2 y0 y1 y2 y3
  go_wp2
  go_ret
  refine ⟨?_, ⟨M13.out, M23.out, M3.out, H0.out.i1, H0.out.i2, H0.out.i3, H0.out.a12, H0.out.a13, H0.out.a23⟩, K3.out⟩
  exact ret_num (by omega)

set_option maxHeartbeats 400000 in
theorem heldTable_any (k : Nat) (v : Value) (t : TB) (w : World) (h : TAt w v (mt k t)) (hk : (k : Int) + cnt t ≤ 100000000) :
    Calls Try.prog 46 #[v, .int .i64 k] w fun e w' => e = .returned (.int .i64 ((k : Int) + cnt t)) ∧ Below w.heap.size w w' := by
  unfold cnt at hk ⊢
  obtain ⟨a1, a2, a3, c1, c2, c3, rfl, h1, h2, h3⟩ := h
  obtain ⟨l1, l2, l3⟩ := mt_len k t
  rw [l1, l2, l3]
  have B0 := Hid.mk' (below_new w (.cells #[.slice a1 t.base.length c1, .slice a2 t.more.length c2, .slice a3 t.pcs.length c3] 30))
  have R0 := Hid.mk' (row3 w 30 (.slice a1 t.base.length c1) (.slice a2 t.more.length c2) (.slice a3 t.pcs.length c3))
  clear l1 l2 l3
  go_enter Try.func46, Try.ntmps46
  go_wp2_with fail
  refine (heldByteS_any a1 c1 t.base.length k _ (h1.below B0.out) (by omega)).mono ?_
  rintro e w1 ⟨rfl, hb1⟩
  have B1 := Hid.mk' (B0.out.trans (hb1.mono B0.out.size))
  have R1 := Hid.mk' (rowB R0.out hb1)
  obtain ⟨x0, x1, x2, x3⟩ := cells3 R1.out
  clear R0 B0 hb1
  go_wp2_with fail
  rw [show ((k : Int) + (t.base.length : Int)) = ((k + t.base.length : Nat) : Int) from by omega]
  refine (heldByteS_any a2 c2 t.more.length (k + t.base.length) _ (h2.below B1.out) (by omega)).mono ?_
  rintro e w2 ⟨rfl, hb2⟩
  have B2 := Hid.mk' (B1.out.trans (hb2.mono B1.out.size))
  have R2 := Hid.mk' (rowB R1.out hb2)
  obtain ⟨y0, y1, y2, y3⟩ := cells3 R2.out
  clear R1 B1 hb2 x0 x1 x2 x3
  go_wp2_with fail
  rw [show ((k : Int) + (t.base.length : Int) + (t.more.length : Int)) = ((k + t.base.length + t.more.length : Nat) : Int) from by omega]
  refine (heldPieceS_any a3 c3 t.pcs.length (k + t.base.length + t.more.length) _ (h3.below B2.out) (by omega)).mono ?_
  rintro e w3 ⟨rfl, hb3⟩
  have B3 := Hid.mk' (B2.out.trans (hb3.mono B2.out.size))
  clear R2 B2 hb3 y0 y1 y2 y3
  go_wp2
  go_ret
  exact ⟨ret_num (by omega), B3.out⟩

set_option maxHeartbeats 400000 in
theorem markTR_any (lo hi : Nat) (c : Int) (s1 s2 s3 : Value) (t : TB) (w : World) (h : OT lo hi w s1 s2 s3 t) (hhi : hi ≤ w.heap.size) (hk : (cnt t : Int) ≤ 10000000) :
    Calls Try.prog 20 #[.agg #[.int .i64 c, s1, s2, s3], .int .i64 1] w fun e w' => e = .returned (.int .i64 (1 + cnt t)) ∧ OT lo hi w' s1 s2 s3 (mt 1 t) ∧ KeptIn lo hi w w' := by
  have B0 := below_new w (.cells #[.int .i64 c, s1, s2, s3] 35)
  have K := markTable_any lo hi 1 s1 s2 s3 t _ (h.below B0) (by simp; omega) (by omega)
  have KB := Hid.mk' (KeptIn.of_below (lo := lo) (hi := hi) B0)
  obtain ⟨a1, b1, a2, b2, a3, b3, rfl, rfl, rfl⟩ : ∃ a1 b1 a2 b2 a3 b3, s1 = .slice a1 t.base.length b1 ∧ s2 = .slice a2 t.more.length b2 ∧ s3 = .slice a3 t.pcs.length b3 := by
    obtain ⟨a1, b1, e1, _⟩ := h.o1.len
    obtain ⟨a2, b2, e2, _⟩ := h.o2.len
    obtain ⟨a3, b3, e3, _⟩ := h.o3.len
    exact ⟨a1, b1, a2, b2, a3, b3, e1, e2, e3⟩
  have KK := Hid.mk' K
  clear h B0 K
  go_enter Try.func20, Try.ntmps20
  go_wp2_with fail
  refine KK.out.mono ?_
  rintro e w1 ⟨rfl, o1, k1⟩
  have K1 := Hid.mk' (KB.out.trans k1)
  have O1 := Hid.mk' o1
  clear KK KB k1 o1
  go_wp2
  go_ret
  exact ⟨rfl, O1.out, K1.out⟩

set_option maxHeartbeats 400000 in
theorem heldTR_any (c : Int) (s1 s2 s3 : Value) (t : TB) (w : World) (h : TAt w (.agg #[s1, s2, s3]) (mt 1 t)) (hk : (cnt t : Int) ≤ 10000000) :
    Calls Try.prog 21 #[.agg #[.int .i64 c, s1, s2, s3], .int .i64 1] w fun e w' => e = .returned (.int .i64 (1 + cnt t)) ∧ Below w.heap.size w w' := by
  have B0 := below_new w (.cells #[.int .i64 c, s1, s2, s3] 35)
  have K := heldTable_any 1 _ t _ (h.below B0) (by omega)
  obtain ⟨a1, a2, a3, c1, c2, c3, e, h1, h2, h3⟩ := h
  simp at e
  obtain ⟨rfl, rfl, rfl⟩ := e
  have KK := Hid.mk' K
  have BB := Hid.mk' B0
  clear B0 K h1 h2 h3
  go_enter Try.func21, Try.ntmps21
  go_wp2_with fail
  refine KK.out.mono ?_
  rintro e w1 ⟨rfl, hb1⟩
  have B1 := Hid.mk' (BB.out.trans (hb1.mono BB.out.size))
  clear KK BB hb1
  go_wp2
  go_ret
  exact ⟨rfl, B1.out⟩

set_option maxHeartbeats 400000 in
theorem eqTR_any (c : Int) (s1 s2 s3 u1 u2 u3 : Value) (t : TB) (w : World) (h : TAt w (.agg #[s1, s2, s3]) t) (h' : TAt w (.agg #[u1, u2, u3]) t) (hl : (t.base.length : Int) + t.more.length + t.pcs.length ≤ 1048576) :
    Calls Try.prog 17 #[.agg #[.int .i64 c, s1, s2, s3], .agg #[.int .i64 c, u1, u2, u3]] w fun e w' => e = .returned (.bool true) ∧ Below w.heap.size w w' := by
  have B0 := (below_new w (.cells #[.int .i64 c, s1, s2, s3] 35)).alloc (by simp) (.cells #[.int .i64 c, u1, u2, u3] 35)
  have K := eqTable_any _ _ t _ (h.below B0) (h'.below B0) hl
  obtain ⟨a1, a2, a3, c1, c2, c3, e, _, _, _⟩ := h
  simp at e
  obtain ⟨rfl, rfl, rfl⟩ := e
  obtain ⟨a4, a5, a6, c4, c5, c6, e', _, _, _⟩ := h'
  simp at e'
  obtain ⟨rfl, rfl, rfl⟩ := e'
  have KK := Hid.mk' K
  have BB := Hid.mk' B0
  clear B0 K
  go_enter Try.func17, Try.ntmps17
  go_wp2_with fail
  refine KK.out.mono ?_
  rintro e w1 ⟨rfl, hb1⟩
  have B1 := Hid.mk' (BB.out.trans (hb1.mono BB.out.size))
  clear KK BB hb1
  go_wp2
  go_ret
  exact ⟨rfl, B1.out⟩

end Go.Proofs.Ythckoaddajpgcag
