/- The law on SameTables. -/
import Derived.Test.YtbidddmojmcemahSam
namespace Go.Proofs.Ytbidddmojmcemah
open Go.RowKit
set_option linter.unusedVariables false

theorem below_new (w : World) (o : Obj) : Below w.heap.size w (w.alloc o) := (Below.refl _ _).alloc (Nat.le_refl _) o

set_option maxHeartbeats 400000 in
theorem szTable_from (a1 a2 a3 : Option Addr) (n1 n2 n3 c1 c2 c3 : Nat) (l : Int) (w : World) (l0 : 0 ≤ l) (l1 : l ≤ 1048576) (h1 : (n1 : Int) ≤ 9223372036854775807) (h2 : (n2 : Int) ≤ 9223372036854775807) (h3 : (n3 : Int) ≤ 9223372036854775807) :
    Calls Try.prog 5 #[.agg #[.slice a1 n1 c1, .slice a2 n2 c2, .slice a3 n3 c3], .int .i64 l] w fun e w' => e = .returned (.int .i64 (if (n1 : Int) + n2 + n3 ≤ l then l - n1 - n2 - n3 else -1)) ∧ Below w.heap.size w w' := by
  by_cases g1 : l < n1
  · rw [if_neg (by omega)]
    go_enter Try.func5, Try.ntmps5
    go_wp2_with (go_at_call 16; refine (szByteS_any _ _ _ _ _ (by omega) (by omega) (by omega)).mono ?_; rintro e w' ⟨rfl, rfl⟩)
    go_ret
    exact ⟨rfl, (Below.refl _ _).alloc (Nat.le_refl _) _⟩
  by_cases g2 : l - n1 < n2
  · rw [if_neg (by omega)]
    go_enter Try.func5, Try.ntmps5
    go_wp2_with (go_at_call 16; refine (szByteS_any _ _ _ _ _ (by omega) (by omega) (by omega)).mono ?_; rintro e w' ⟨rfl, rfl⟩)
    go_ret
    exact ⟨rfl, (Below.refl _ _).alloc (Nat.le_refl _) _⟩
  by_cases g3 : l - n1 - n2 < n3
  · rw [if_neg (by omega)]
    go_enter Try.func5, Try.ntmps5
    go_wp2_with (first | (go_at_call 16; refine (szByteS_any _ _ _ _ _ (by omega) (by omega) (by omega)).mono ?_; rintro e w' ⟨rfl, rfl⟩) | (go_at_call 17; refine (szPieceS_any _ _ _ _ _ (by omega) (by omega) (by omega)).mono ?_; rintro e w' ⟨rfl, rfl⟩))
    go_ret
    exact ⟨rfl, (Below.refl _ _).alloc (Nat.le_refl _) _⟩
  · rw [if_pos (by omega)]
    go_enter Try.func5, Try.ntmps5
    go_wp2_with (first | (go_at_call 16; refine (szByteS_any _ _ _ _ _ (by omega) (by omega) (by omega)).mono ?_; rintro e w' ⟨rfl, rfl⟩) | (go_at_call 17; refine (szPieceS_any _ _ _ _ _ (by omega) (by omega) (by omega)).mono ?_; rintro e w' ⟨rfl, rfl⟩))
    go_ret
    exact ⟨rfl, (Below.refl _ _).alloc (Nat.le_refl _) _⟩

/-- Both arguments, kept. -/
def Hold2 (w : World) (x y z x' y' z' : Value) (t s : TB) (wi : World) : Prop :=
  Below w.heap.size w wi ∧ wi.rowIs w.heap.size 25 3 (r3 x y z) ∧ wi.rowIs (w.heap.size + 1) 25 3 (r3 x' y' z') ∧ TAt wi (.agg #[x, y, z]) t ∧ TAt wi (.agg #[x', y', z']) s
theorem Hold2.below {w wi wj : World} {x y z x' y' z' : Value} {t s : TB} (h : Hold2 w x y z x' y' z' t s wi) (hb : Below wi.heap.size wi wj) : Hold2 w x y z x' y' z' t s wj :=
  ⟨h.1.trans (hb.mono h.1.size), h.2.1.of_block (hb.block _ h.2.1.lt), h.2.2.1.of_block (hb.block _ h.2.2.1.lt), h.2.2.2.1.below hb, h.2.2.2.2.below hb⟩

set_option maxRecDepth 100000 in
set_option maxHeartbeats 2000000 in
theorem lawSame_any (v : Value) (t : TB) (u : Value) (s : TB) (w : World) (ht : TAt w v t) (_hwt : WFT t) (k1 : (t.base.length : Int) ≤ 9223372036854775807) (k2 : (t.more.length : Int) ≤ 9223372036854775807) (k3 : (t.pcs.length : Int) ≤ 9223372036854775807) (hs : TAt w u s) (_hws : WFT s) (m1 : (s.base.length : Int) ≤ 9223372036854775807) (m2 : (s.more.length : Int) ≤ 9223372036854775807) (m3 : (s.pcs.length : Int) ≤ 9223372036854775807) :
    Calls Try.prog 4 #[v, u] w fun e w' => e = .returned (.bool true) ∧ Below w.heap.size w w' := by
  obtain ⟨a1, a2, a3, c1, c2, c3, rfl, h1, h2, h3⟩ := id ht
  obtain ⟨b1, b2, b3, d1, d2, d3, rfl, n1, n2, n3⟩ := id hs
  have B0 := ((Below.refl w.heap.size w).alloc (Nat.le_refl _) (.cells #[.slice a1 t.base.length c1, .slice a2 t.more.length c2, .slice a3 t.pcs.length c3] 25)).alloc (by simp) (.cells #[.slice b1 s.base.length d1, .slice b2 s.more.length d2, .slice b3 s.pcs.length d3] 25)
  have R1 := (row3 w 25 (.slice a1 t.base.length c1) (.slice a2 t.more.length c2) (.slice a3 t.pcs.length c3)).alloc (.cells #[.slice b1 s.base.length d1, .slice b2 s.more.length d2, .slice b3 s.pcs.length d3] 25)
  have R2 := row3 (w.alloc (.cells #[.slice a1 t.base.length c1, .slice a2 t.more.length c2, .slice a3 t.pcs.length c3] 25)) 25 (.slice b1 s.base.length d1) (.slice b2 s.more.length d2) (.slice b3 s.pcs.length d3)
  rw [show (w.alloc (.cells #[.slice a1 t.base.length c1, .slice a2 t.more.length c2, .slice a3 t.pcs.length c3] 25)).heap.size = w.heap.size + 1 from by simp] at R2
  have H0 : Hold2 w _ _ _ _ _ _ t s ((w.alloc (.cells #[.slice a1 t.base.length c1, .slice a2 t.more.length c2, .slice a3 t.pcs.length c3] 25)).alloc (.cells #[.slice b1 s.base.length d1, .slice b2 s.more.length d2, .slice b3 s.pcs.length d3] 25)) := ⟨B0, R1, R2, ht.below B0, hs.below B0⟩
  have K := szTable_from a1 a2 a3 _ _ _ c1 c2 c3 1048576 ((w.alloc (.cells #[.slice a1 t.base.length c1, .slice a2 t.more.length c2, .slice a3 t.pcs.length c3] 25)).alloc (.cells #[.slice b1 s.base.length d1, .slice b2 s.more.length d2, .slice b3 s.pcs.length d3] 25)) (by decide) (by decide) k1 k2 k3
  clear h1 h2 h3 n1 n2 n3 B0 R1 R2 ht hs
  by_cases hl : (t.base.length : Int) + t.more.length + t.pcs.length ≤ 1048576
  · rw [if_pos hl] at K
    have KK := Hid.mk' K
    have HH := Hid.mk' H0
    clear K H0
    go_enter Try.func4, Try.ntmps4
    go_wp2_with fail
    refine KK.out.mono ?_
    rintro e w1 ⟨rfl, hb1⟩
    have H1 := Hid.mk' (HH.out.below hb1)
    obtain ⟨x0, x1, x2, x3⟩ := cells3 H1.out.2.1
    obtain ⟨y0, y1, y2, y3⟩ := cells3 H1.out.2.2.1
    have K2 := szTable_from b1 b2 b3 _ _ _ d1 d2 d3 (1048576 - t.base.length - t.more.length - t.pcs.length) w1 (by omega) (by omega) m1 m2 m3
    clear KK HH hb1
    by_cases hm : (s.base.length : Int) + s.more.length + s.pcs.length ≤ 1048576 - t.base.length - t.more.length - t.pcs.length
    · rw [if_pos hm] at K2
      have KK := Hid.mk' K2
      have hms : (s.base.length : Int) + s.more.length + s.pcs.length ≤ 1048576 := by omega
      clear K2
      go_wp2_with fail
      refine KK.out.mono ?_
      rintro e w2 ⟨rfl, hb2⟩
      have H2 := Hid.mk' (H1.out.below hb2)
      clear KK hb2 H1 x0 x1 x2 x3 y0 y1 y2 y3
      obtain ⟨x0, x1, x2, x3⟩ := cells3 H2.out.2.1
      obtain ⟨y0, y1, y2, y3⟩ := cells3 H2.out.2.2.1
      go_wp2
      go_region_held3 (fun w' => w'.cell? ⟨w.heap.size, 0, none⟩ = some (.slice a1 t.base.length c1) ∧ w'.cell? ⟨w.heap.size, 1, none⟩ = some (.slice a2 t.more.length c2) ∧ w'.cell? ⟨w.heap.size, 2, none⟩ = some (.slice a3 t.pcs.length c3) ∧ w'.cell? ⟨w.heap.size + 1, 0, none⟩ = some (.slice b1 s.base.length d1) ∧ w'.cell? ⟨w.heap.size + 1, 1, none⟩ = some (.slice b2 s.more.length d2) ∧ w'.cell? ⟨w.heap.size + 1, 2, none⟩ = some (.slice b3 s.pcs.length d3)) (simp [*])
        (first | (go_at_call_of 7 (Value.agg #[.slice a1 t.base.length c1, .slice a2 t.more.length c2, .slice a3 t.pcs.length c3]); refine (toTable_any _ t _ (H2.out.2.2.2.1.below (Below.refl _ _).drew) hl).mono ?_; rintro e w3 ⟨v3, rfl, tr3, hb3⟩; replace hb3 := undrew hb3; obtain ⟨hx1, hx2⟩ := bcell hb3; have z1 := hb3.size; have z2 : w.heap.size < w3.heap.size := (by omega); have z3 : w.heap.size + 1 < w3.heap.size := (by omega)) | (go_at_call_of 7 (Value.agg #[.slice b1 s.base.length d1, .slice b2 s.more.length d2, .slice b3 s.pcs.length d3]); refine (toTable_any _ s _ (H2.out.2.2.2.2.below hb3) hms).mono ?_; rintro e w4 ⟨v4, rfl, tr4, hb4⟩; obtain ⟨hx3, hx4⟩ := bcell hb4; have z4 := hb4.size; have z5 : w.heap.size < w4.heap.size := (by omega); have z6 : w.heap.size + 1 < w4.heap.size := (by omega)) | (go_at_call 14; refine (specSame_any _ _ t s _ (tr3.at.below hb4) tr4.at hl hms).mono ?_; rintro e w5 ⟨rfl, hb5⟩; obtain ⟨hx5, hx6⟩ := bcell hb5))
      have H5 := Hid.mk' (((H2.out.below hb3).below hb4).below hb5)
      clear hx1 hx2 hx3 hx4 hx5 hx6 z1 z2 z3 z4 z5 z6 tr3 tr4 hb3 hb4 hb5 H2 x0 x1 x2 x3 y0 y1 y2 y3
      obtain ⟨x0, x1, x2, x3⟩ := cells3 H5.out.2.1
      obtain ⟨y0, y1, y2, y3⟩ := cells3 H5.out.2.2.1
      go_wp2_with fail
      refine (toTable_any _ t _ H5.out.2.2.2.1 hl).mono ?_
      rintro e w6 ⟨v6, rfl, tr6, hb6⟩
      obtain ⟨e1, e2, e3, rfl, g1, g2, g3, r1, r2, r3⟩ := id tr6
      have N6 := below_new w6 (.cells #[.slice (some ⟨e1, 0, none⟩) t.base.length t.base.length, .slice (some ⟨e2, 0, none⟩) t.more.length t.more.length, .slice (some ⟨e3, 0, none⟩) t.pcs.length t.pcs.length] 29)
      have H6 := Hid.mk' ((H5.out.below hb6).below N6)
      have T6 := Hid.mk' (tr6.below N6)
      have Q6 := Hid.mk' (row3 w6 29 (.slice (some ⟨e1, 0, none⟩) t.base.length t.base.length) (.slice (some ⟨e2, 0, none⟩) t.more.length t.more.length) (.slice (some ⟨e3, 0, none⟩) t.pcs.length t.pcs.length))
      clear H5 hb6 tr6 r1 r2 r3 g1 g2 g3 N6 x0 x1 x2 x3 y0 y1 y2 y3
      obtain ⟨x0, x1, x2, x3⟩ := cells3 H6.out.2.1
      obtain ⟨y0, y1, y2, y3⟩ := cells3 H6.out.2.2.1
      go_wp2_with fail
      refine (toTable_any _ s _ H6.out.2.2.2.2 hms).mono ?_
      rintro e w7 ⟨v7, rfl, tr7, hb7⟩
      obtain ⟨f1, f2, f3, rfl, g1, g2, g3, r1, r2, r3⟩ := id tr7
      have N7 := below_new w7 (.cells #[.slice (some ⟨f1, 0, none⟩) s.base.length s.base.length, .slice (some ⟨f2, 0, none⟩) s.more.length s.more.length, .slice (some ⟨f3, 0, none⟩) s.pcs.length s.pcs.length] 29)
      have H7 := Hid.mk' ((H6.out.below hb7).below N7)
      have T7 := Hid.mk' (tr7.below N7)
      have U7 := Hid.mk' ((T6.out.below hb7).below N7)
      have Q7 := Hid.mk' (row3 w7 29 (.slice (some ⟨f1, 0, none⟩) s.base.length s.base.length) (.slice (some ⟨f2, 0, none⟩) s.more.length s.more.length) (.slice (some ⟨f3, 0, none⟩) s.pcs.length s.pcs.length))
      have P7 := Hid.mk' (((Q6.out.of_block (hb7.block _ Q6.out.lt))).of_block (N7.block _ ((Q6.out.of_block (hb7.block _ Q6.out.lt))).lt))
      clear H6 T6 Q6 hb7 tr7 r1 r2 r3 g1 g2 g3 N7 x0 x1 x2 x3 y0 y1 y2 y3
      obtain ⟨x0, x1, x2, x3⟩ := cells3 P7.out
      obtain ⟨y0, y1, y2, y3⟩ := cells3 Q7.out
      go_wp2_with fail
      refine (implSame_any _ _ t s _ U7.out.at T7.out.at hl hms).mono ?_
      rintro e w8 ⟨rfl, hb8⟩
      have H8 := Hid.mk' (H7.out.below hb8)
      have T8 := Hid.mk' (T7.out.below hb8)
      have U8 := Hid.mk' (U7.out.below hb8)
      have Q8 := Hid.mk' (Q7.out.of_block (hb8.block _ Q7.out.lt))
      have P8 := Hid.mk' (P7.out.of_block (hb8.block _ P7.out.lt))
      clear H7 T7 U7 Q7 P7 hb8 x0 x1 x2 x3 y0 y1 y2 y3
      obtain ⟨x0, x1, x2, x3⟩ := cells3 H8.out.2.1
      obtain ⟨y0, y1, y2, y3⟩ := cells3 H8.out.2.2.1
      obtain ⟨p0, p1, p2, p3⟩ := cells3 P8.out
      obtain ⟨q0, q1, q2, q3⟩ := cells3 Q8.out
      go_wp2
      go_region_held3 (fun w' => w'.cell? ⟨w.heap.size, 0, none⟩ = some (.slice a1 t.base.length c1) ∧ w'.cell? ⟨w.heap.size, 1, none⟩ = some (.slice a2 t.more.length c2) ∧ w'.cell? ⟨w.heap.size, 2, none⟩ = some (.slice a3 t.pcs.length c3) ∧ w'.cell? ⟨w.heap.size + 1, 0, none⟩ = some (.slice b1 s.base.length d1) ∧ w'.cell? ⟨w.heap.size + 1, 1, none⟩ = some (.slice b2 s.more.length d2) ∧ w'.cell? ⟨w.heap.size + 1, 2, none⟩ = some (.slice b3 s.pcs.length d3) ∧ w'.cell? ⟨w6.heap.size, 0, none⟩ = some (.slice (some ⟨e1, 0, none⟩) t.base.length t.base.length) ∧ w'.cell? ⟨w6.heap.size, 1, none⟩ = some (.slice (some ⟨e2, 0, none⟩) t.more.length t.more.length) ∧ w'.cell? ⟨w6.heap.size, 2, none⟩ = some (.slice (some ⟨e3, 0, none⟩) t.pcs.length t.pcs.length) ∧ w'.cell? ⟨w7.heap.size, 0, none⟩ = some (.slice (some ⟨f1, 0, none⟩) s.base.length s.base.length) ∧ w'.cell? ⟨w7.heap.size, 1, none⟩ = some (.slice (some ⟨f2, 0, none⟩) s.more.length s.more.length) ∧ w'.cell? ⟨w7.heap.size, 2, none⟩ = some (.slice (some ⟨f3, 0, none⟩) s.pcs.length s.pcs.length)) (simp [*])
        (first | (go_at_call 7; refine (toTable_any _ t _ (H8.out.2.2.2.1.below (Below.refl _ _).drew) hl).mono ?_; rintro e w9 ⟨v9, rfl, tr9, hb9⟩; replace hb9 := undrew hb9; obtain ⟨hx1, hx2⟩ := bcell hb9; have z1 := hb9.size; have z2 : w.heap.size < w9.heap.size := (by omega); have z3 : w.heap.size + 1 < w9.heap.size := (by omega); have z4 : w6.heap.size < w9.heap.size := (by omega); have z5 : w7.heap.size < w9.heap.size := (by omega)) | (go_at_call 10; refine (eqTable_any _ _ t _ (U8.out.at.below hb9) tr9.at hl).mono ?_; rintro e wA ⟨rfl, hbA⟩; obtain ⟨hx3, hx4⟩ := bcell hbA))
      have HA := Hid.mk' ((H8.out.below hb9).below hbA)
      have TA := Hid.mk' ((T8.out.below hb9).below hbA)
      have PA := Hid.mk' (((P8.out.of_block (hb9.block _ P8.out.lt))).of_block (hbA.block _ ((P8.out.of_block (hb9.block _ P8.out.lt))).lt))
      have QA := Hid.mk' (((Q8.out.of_block (hb9.block _ Q8.out.lt))).of_block (hbA.block _ ((Q8.out.of_block (hb9.block _ Q8.out.lt))).lt))
      clear hx1 hx2 hx3 hx4 z1 z2 z3 z4 z5 hb9 hbA tr9 H8 T8 U8 P8 Q8 x0 x1 x2 x3 y0 y1 y2 y3 p0 p1 p2 p3 q0 q1 q2 q3
      obtain ⟨x0, x1, x2, x3⟩ := cells3 HA.out.2.1
      obtain ⟨y0, y1, y2, y3⟩ := cells3 HA.out.2.2.1
      obtain ⟨p0, p1, p2, p3⟩ := cells3 PA.out
      obtain ⟨q0, q1, q2, q3⟩ := cells3 QA.out
      go_wp2
      go_region_held3 (fun w' => w'.cell? ⟨w.heap.size, 0, none⟩ = some (.slice a1 t.base.length c1) ∧ w'.cell? ⟨w.heap.size, 1, none⟩ = some (.slice a2 t.more.length c2) ∧ w'.cell? ⟨w.heap.size, 2, none⟩ = some (.slice a3 t.pcs.length c3) ∧ w'.cell? ⟨w.heap.size + 1, 0, none⟩ = some (.slice b1 s.base.length d1) ∧ w'.cell? ⟨w.heap.size + 1, 1, none⟩ = some (.slice b2 s.more.length d2) ∧ w'.cell? ⟨w.heap.size + 1, 2, none⟩ = some (.slice b3 s.pcs.length d3) ∧ w'.cell? ⟨w6.heap.size, 0, none⟩ = some (.slice (some ⟨e1, 0, none⟩) t.base.length t.base.length) ∧ w'.cell? ⟨w6.heap.size, 1, none⟩ = some (.slice (some ⟨e2, 0, none⟩) t.more.length t.more.length) ∧ w'.cell? ⟨w6.heap.size, 2, none⟩ = some (.slice (some ⟨e3, 0, none⟩) t.pcs.length t.pcs.length) ∧ w'.cell? ⟨w7.heap.size, 0, none⟩ = some (.slice (some ⟨f1, 0, none⟩) s.base.length s.base.length) ∧ w'.cell? ⟨w7.heap.size, 1, none⟩ = some (.slice (some ⟨f2, 0, none⟩) s.more.length s.more.length) ∧ w'.cell? ⟨w7.heap.size, 2, none⟩ = some (.slice (some ⟨f3, 0, none⟩) s.pcs.length s.pcs.length)) (simp [*])
        (first | (go_at_call 7; refine (toTable_any _ s _ (HA.out.2.2.2.2.below (Below.refl _ _).drew) hms).mono ?_; rintro e w9 ⟨v9, rfl, tr9, hb9⟩; replace hb9 := undrew hb9; obtain ⟨hx1, hx2⟩ := bcell hb9; have z1 := hb9.size; have z2 : w.heap.size < w9.heap.size := (by omega); have z3 : w.heap.size + 1 < w9.heap.size := (by omega); have z4 : w6.heap.size < w9.heap.size := (by omega); have z5 : w7.heap.size < w9.heap.size := (by omega)) | (go_at_call 10; refine (eqTable_any _ _ s _ (TA.out.at.below hb9) tr9.at hms).mono ?_; rintro e wB ⟨rfl, hbB⟩; obtain ⟨hx3, hx4⟩ := bcell hbB))
      have HB := Hid.mk' ((HA.out.below hb9).below hbB)
      clear hx1 hx2 hx3 hx4 z1 z2 z3 z4 z5 hb9 hbB tr9 HA TA PA QA x0 x1 x2 x3 y0 y1 y2 y3 p0 p1 p2 p3 q0 q1 q2 q3
      go_wp2
      go_ret
      exact ⟨rfl, HB.out.1⟩
    · rw [if_neg hm] at K2
      have KK := Hid.mk' K2
      clear K2
      go_wp2_with fail
      refine KK.out.mono ?_
      rintro e w2 ⟨rfl, hb2⟩
      have H2 := Hid.mk' (H1.out.below hb2)
      clear KK hb2 H1 x0 x1 x2 x3 y0 y1 y2 y3
      go_wp2
      go_ret
      exact ⟨rfl, H2.out.1⟩
  · rw [if_neg hl] at K
    have KK := Hid.mk' K
    have HH := Hid.mk' H0
    clear K H0
    go_enter Try.func4, Try.ntmps4
    go_wp2_with fail
    refine KK.out.mono ?_
    rintro e w1 ⟨rfl, hb1⟩
    have H1 := Hid.mk' (HH.out.below hb1)
    clear KK HH hb1
    go_wp2
    go_ret
    exact ⟨rfl, H1.out.1⟩
end Go.Proofs.Ytbidddmojmcemah
