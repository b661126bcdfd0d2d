/- The law on SameStates. -/
import Derived.Test.YtneeenabcdbehaaSa
namespace Go.Proofs.Ytneeenabcdbehaa
open Go.RowKit
set_option linter.unusedVariables false
set_option linter.unusedSimpArgs false

/-- Both arguments, kept. -/
def HoldS (w : World) (x y : Value) (a b : Option Addr) (l m : List Int) (wi : World) : Prop :=
  Below w.heap.size w wi ∧ wi.rowIs w.heap.size 24 1 (s1 x) ∧ wi.rowIs (w.heap.size + 1) 24 1 (s1 y) ∧ BAt wi a l ∧ BAt wi b m
theorem HoldS.below {w wi wj : World} {x y : Value} {a b : Option Addr} {l m : List Int} (h : HoldS w x y a b l m wi) (hb : Below wi.heap.size wi wj) : HoldS w x y a b l m wj :=
  ⟨h.1.trans (hb.mono h.1.size), h.2.1.of_block (hb.block _ h.2.1.lt), h.2.2.1.of_block (hb.block _ h.2.2.1.lt), h.2.2.2.1.below hb, h.2.2.2.2.below hb⟩

set_option maxRecDepth 100000 in
set_option maxHeartbeats 2000000 in
theorem lawSS_any (a : Option Addr) (c : Nat) (l : List Int) (b : Option Addr) (d : Nat) (m : List Int) (w : World) (ha : BAt w a l) (k1 : (l.length : Int) ≤ 9223372036854775807) (hb : BAt w b m) (k2 : (m.length : Int) ≤ 9223372036854775807) :
    Calls Try.prog 3 #[.agg #[.slice a l.length c], .agg #[.slice b m.length d]] w fun e w' => e = .returned (.bool true) ∧ Below w.heap.size w w' := by
  have B0 := ((Below.refl w.heap.size w).alloc (Nat.le_refl _) (.cells #[.slice a l.length c] 24)).alloc (by simp) (.cells #[.slice b m.length d] 24)
  have R1 := (srow w 24 (.slice a l.length c)).alloc (.cells #[.slice b m.length d] 24)
  have R2 := srow (w.alloc (.cells #[.slice a l.length c] 24)) 24 (.slice b m.length d)
  rw [show (w.alloc (.cells #[.slice a l.length c] 24)).heap.size = w.heap.size + 1 from by simp] at R2
  have H0 : HoldS w _ _ a b l m ((w.alloc (.cells #[.slice a l.length c] 24)).alloc (.cells #[.slice b m.length d] 24)) := ⟨B0, R1, R2, ha.below B0, hb.below B0⟩
  have K := szState_any a l.length c 1048576 ((w.alloc (.cells #[.slice a l.length c] 24)).alloc (.cells #[.slice b m.length d] 24)) (by decide) (by decide) k1
  clear B0 R1 R2 ha hb
  by_cases hl : (l.length : Int) ≤ 1048576
  · rw [if_pos hl] at K
    have KK := Hid.mk' K
    have HH := Hid.mk' H0
    clear K H0
    go_enter Try.func3, Try.ntmps3
    go_wp2_with fail
    refine KK.out.mono ?_
    rintro e w1 ⟨rfl, hb1⟩
    have H1 := Hid.mk' (HH.out.below hb1)
    obtain ⟨x0, x3⟩ := scell H1.out.2.1
    obtain ⟨y0, y3⟩ := scell H1.out.2.2.1
    have K2 := szState_any b m.length d (1048576 - l.length) w1 (by omega) (by omega) k2
    clear KK HH hb1
    by_cases hm : (m.length : Int) ≤ 1048576 - l.length
    · rw [if_pos hm] at K2
      have KK := Hid.mk' K2
      have hms : (m.length : Int) ≤ 1048576 := by omega
      clear K2
      go_wp2_with fail
      refine KK.out.mono ?_
      rintro e w2 ⟨rfl, hb2⟩
      have H2 := Hid.mk' (H1.out.below hb2)
      clear KK hb2 H1 x0 x3 y0 y3
      obtain ⟨x0, x3⟩ := scell H2.out.2.1
      obtain ⟨y0, y3⟩ := scell H2.out.2.2.1
      go_wp2
      go_region_held3 (fun w' => w'.cell? ⟨w.heap.size, 0, none⟩ = some (.slice a l.length c) ∧ w'.cell? ⟨w.heap.size + 1, 0, none⟩ = some (.slice b m.length d)) (simp [*])
        (first | (go_at_call_of 6 (Value.agg #[.slice a l.length c]); refine (toState_any _ _ l _ (H2.out.2.2.2.1.below (Below.refl _ _).drew) hl).mono ?_; rintro e w3 ⟨b3, rfl, g3, r3, hb3⟩; replace hb3 := undrew hb3; obtain ⟨hx1, hx2⟩ := bcell hb3; have z1 := hb3.size; have z2 : w.heap.size < w3.heap.size := (by omega); have z3 : w.heap.size + 1 < w3.heap.size := (by omega)) | (go_at_call_of 6 (Value.agg #[.slice b m.length d]); refine (toState_any _ _ m _ (H2.out.2.2.2.2.below hb3) hms).mono ?_; rintro e w4 ⟨b4, rfl, g4, r4, hb4⟩; obtain ⟨hx3, hx4⟩ := bcell hb4; have z4 := hb4.size; have z5 : w.heap.size < w4.heap.size := (by omega); have z6 : w.heap.size + 1 < w4.heap.size := (by omega)) | (go_at_call 5; refine (specSS_any _ _ _ _ l m _ ((BAt.of_row r3).below hb4) (.of_row r4)).mono ?_; rintro e w5 ⟨rfl, hb5⟩; obtain ⟨hx5, hx6⟩ := bcell hb5))
      have H5 := Hid.mk' (((H2.out.below hb3).below hb4).below hb5)
      clear hx1 hx2 hx3 hx4 hx5 hx6 z1 z2 z3 z4 z5 z6 r3 r4 g3 g4 hb3 hb4 hb5 H2 x0 x3 y0 y3
      obtain ⟨x0, x3⟩ := scell H5.out.2.1
      obtain ⟨y0, y3⟩ := scell H5.out.2.2.1
      go_wp2_with fail
      refine (toState_any _ _ l _ H5.out.2.2.2.1 hl).mono ?_
      rintro e w6 ⟨e6, rfl, g6, r6, hb6⟩
      have N6 := below_new w6 (.cells #[.slice (some ⟨e6, 0, none⟩) l.length l.length] 27)
      have H6 := Hid.mk' ((H5.out.below hb6).below N6)
      have T6 := Hid.mk' ((BAt.of_row r6).below N6)
      have Q6 := Hid.mk' (srow w6 27 (.slice (some ⟨e6, 0, none⟩) l.length l.length))
      clear H5 hb6 r6 g6 N6 x0 x3 y0 y3
      obtain ⟨x0, x3⟩ := scell H6.out.2.1
      obtain ⟨y0, y3⟩ := scell H6.out.2.2.1
      go_wp2_with fail
      refine (toState_any _ _ m _ H6.out.2.2.2.2 hms).mono ?_
      rintro e w7 ⟨f7, rfl, g7, r7, hb7⟩
      have N7 := below_new w7 (.cells #[.slice (some ⟨f7, 0, none⟩) m.length m.length] 27)
      have H7 := Hid.mk' ((H6.out.below hb7).below N7)
      have T7 := Hid.mk' ((BAt.of_row r7).below N7)
      have U7 := Hid.mk' ((T6.out.below hb7).below N7)
      have Q7 := Hid.mk' (srow w7 27 (.slice (some ⟨f7, 0, none⟩) m.length m.length))
      have P7 := Hid.mk' (((Q6.out.of_block (hb7.block _ Q6.out.lt))).of_block (N7.block _ ((Q6.out.of_block (hb7.block _ Q6.out.lt))).lt))
      clear H6 T6 Q6 hb7 r7 g7 N7 x0 x3 y0 y3
      obtain ⟨x0, x3⟩ := scell P7.out
      obtain ⟨y0, y3⟩ := scell Q7.out
      go_wp2_with fail
      refine (implSS_any _ _ _ _ l m _ U7.out T7.out).mono ?_
      rintro e w8 ⟨rfl, hb8⟩
      have H8 := Hid.mk' (H7.out.below hb8)
      have T8 := Hid.mk' (T7.out.below hb8)
      have U8 := Hid.mk' (U7.out.below hb8)
      have Q8 := Hid.mk' (Q7.out.of_block (hb8.block _ Q7.out.lt))
      have P8 := Hid.mk' (P7.out.of_block (hb8.block _ P7.out.lt))
      clear H7 T7 U7 Q7 P7 hb8 x0 x3 y0 y3
      obtain ⟨x0, x3⟩ := scell H8.out.2.1
      obtain ⟨y0, y3⟩ := scell H8.out.2.2.1
      obtain ⟨p0, p3⟩ := scell P8.out
      obtain ⟨q0, q3⟩ := scell Q8.out
      go_wp2
      go_region_held3 (fun w' => w'.cell? ⟨w.heap.size, 0, none⟩ = some (.slice a l.length c) ∧ w'.cell? ⟨w.heap.size + 1, 0, none⟩ = some (.slice b m.length d) ∧ w'.cell? ⟨w6.heap.size, 0, none⟩ = some (.slice (some ⟨e6, 0, none⟩) l.length l.length) ∧ w'.cell? ⟨w7.heap.size, 0, none⟩ = some (.slice (some ⟨f7, 0, none⟩) m.length m.length)) (simp [*])
        (first | (go_at_call 6; refine (toState_any _ _ l _ (H8.out.2.2.2.1.below (Below.refl _ _).drew) hl).mono ?_; rintro e w9 ⟨b9, rfl, g9, r9, hb9⟩; replace hb9 := undrew hb9; obtain ⟨hx1, hx2⟩ := bcell hb9; have z1 := hb9.size; have z2 : w.heap.size < w9.heap.size := (by omega); have z3 : w.heap.size + 1 < w9.heap.size := (by omega); have z4 : w6.heap.size < w9.heap.size := (by omega); have z5 : w7.heap.size < w9.heap.size := (by omega)) | (go_at_call 8; refine (eqState_any _ _ _ _ l _ (U8.out.below hb9) (.of_row r9) hl).mono ?_; rintro e wA ⟨rfl, hbA⟩; obtain ⟨hx3, hx4⟩ := bcell hbA))
      have HA := Hid.mk' ((H8.out.below hb9).below hbA)
      have TA := Hid.mk' ((T8.out.below hb9).below hbA)
      have PA := Hid.mk' (((P8.out.of_block (hb9.block _ P8.out.lt))).of_block (hbA.block _ ((P8.out.of_block (hb9.block _ P8.out.lt))).lt))
      have QA := Hid.mk' (((Q8.out.of_block (hb9.block _ Q8.out.lt))).of_block (hbA.block _ ((Q8.out.of_block (hb9.block _ Q8.out.lt))).lt))
      clear hx1 hx2 hx3 hx4 z1 z2 z3 z4 z5 hb9 hbA r9 g9 H8 T8 U8 P8 Q8 x0 x3 y0 y3 p0 p3 q0 q3
      obtain ⟨x0, x3⟩ := scell HA.out.2.1
      obtain ⟨y0, y3⟩ := scell HA.out.2.2.1
      obtain ⟨p0, p3⟩ := scell PA.out
      obtain ⟨q0, q3⟩ := scell QA.out
      go_wp2
      go_region_held3 (fun w' => w'.cell? ⟨w.heap.size, 0, none⟩ = some (.slice a l.length c) ∧ w'.cell? ⟨w.heap.size + 1, 0, none⟩ = some (.slice b m.length d) ∧ w'.cell? ⟨w6.heap.size, 0, none⟩ = some (.slice (some ⟨e6, 0, none⟩) l.length l.length) ∧ w'.cell? ⟨w7.heap.size, 0, none⟩ = some (.slice (some ⟨f7, 0, none⟩) m.length m.length)) (simp [*])
        (first | (go_at_call 6; refine (toState_any _ _ m _ (HA.out.2.2.2.2.below (Below.refl _ _).drew) hms).mono ?_; rintro e w9 ⟨b9, rfl, g9, r9, hb9⟩; replace hb9 := undrew hb9; obtain ⟨hx1, hx2⟩ := bcell hb9; have z1 := hb9.size; have z2 : w.heap.size < w9.heap.size := (by omega); have z3 : w.heap.size + 1 < w9.heap.size := (by omega); have z4 : w6.heap.size < w9.heap.size := (by omega); have z5 : w7.heap.size < w9.heap.size := (by omega)) | (go_at_call 8; refine (eqState_any _ _ _ _ m _ (TA.out.below hb9) (.of_row r9) hms).mono ?_; rintro e wB ⟨rfl, hbB⟩; obtain ⟨hx3, hx4⟩ := bcell hbB))
      have HB := Hid.mk' ((HA.out.below hb9).below hbB)
      clear hx1 hx2 hx3 hx4 z1 z2 z3 z4 z5 hb9 hbB r9 g9 HA TA PA QA x0 x3 y0 y3 p0 p3 q0 q3
      go_wp2
      go_ret
      exact ⟨rfl, HB.out.1⟩
    · rw [if_neg hm] at K2
      have KK := Hid.mk' K2
      clear K2
      go_wp2_with fail
      refine KK.out.mono ?_
      rintro e w2 ⟨rfl, hb2⟩
      have H2 := Hid.mk' (H1.out.below hb2)
      clear KK hb2 H1 x0 x3 y0 y3
      go_wp2
      go_ret
      exact ⟨rfl, H2.out.1⟩
  · rw [if_neg hl] at K
    have KK := Hid.mk' K
    have HH := Hid.mk' H0
    clear K H0
    go_enter Try.func3, Try.ntmps3
    go_wp2_with fail
    refine KK.out.mono ?_
    rintro e w1 ⟨rfl, hb1⟩
    have H1 := Hid.mk' (HH.out.below hb1)
    clear KK HH hb1
    go_wp2
    go_ret
    exact ⟨rfl, H1.out.1⟩
end Go.Proofs.Ytneeenabcdbehaa
