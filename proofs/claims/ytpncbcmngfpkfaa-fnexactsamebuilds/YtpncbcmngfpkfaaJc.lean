/- The law on SameBuilds. -/
import Derived.Test.YtpncbcmngfpkfaaJb
namespace Go.Proofs.Ytpncbcmngfpkfaa
open Go.RowKit
set_option linter.unusedVariables false
set_option linter.unusedSimpArgs false

/-- What the law on SameBuilds holds on to. -/
def HoldB (w : World) (x0 x1 x2 y0 y1 y2 : Value) (a p b q : Option Addr) (s t : BS) (wi : World) : Prop :=
  Below w.heap.size w wi ∧ wi.rowIs w.heap.size 25 3 (r3 x0 x1 x2) ∧ wi.rowIs (w.heap.size + 1) 25 3 (r3 y0 y1 y2) ∧ SAt wi a p s ∧ SAt wi b q t

theorem HoldB.below {w wi wj : World} {x0 x1 x2 y0 y1 y2 : Value} {a p b q : Option Addr} {s t : BS} (h : HoldB w x0 x1 x2 y0 y1 y2 a p b q s t wi) (hb : Below wi.heap.size wi wj) : HoldB w x0 x1 x2 y0 y1 y2 a p b q s t wj :=
  ⟨h.1.trans (hb.mono h.1.size), rowB h.2.1 hb, rowB h.2.2.1 hb, h.2.2.2.1.below hb, h.2.2.2.2.below hb⟩

set_option maxRecDepth 100000 in
set_option maxHeartbeats 8000000 in
theorem lawSB_any (s : BS) (a p : Option Addr) (c c' : Nat) (t : BS) (b q : Option Addr) (d d' : Nat) (w : World) (ha : SAt w a p s) (wa : WideN s.nd) (na : (s.nd.length : Int) ≤ 9223372036854775807) (ma : (s.op.length : Int) ≤ 9223372036854775807) (hb : SAt w b q t) (wb : WideN t.nd) (nb : (t.nd.length : Int) ≤ 9223372036854775807) (mb_ : (t.op.length : Int) ≤ 9223372036854775807) :
    Calls Try.prog 4 #[.agg #[.slice a s.nd.length c, .slice p s.op.length c', .bool s.lg], .agg #[.slice b t.nd.length d, .slice q t.op.length d', .bool t.lg]] w fun e w' => e = .returned (.bool true) ∧ Below w.heap.size w w' := by
  obtain ⟨B0, R1, R2⟩ := two_boxes w 25 (.slice a s.nd.length c) (.slice p s.op.length c') (.bool s.lg) (.slice b t.nd.length d) (.slice q t.op.length d') (.bool t.lg)
  have H0 : HoldB w _ _ _ _ _ _ a p b q s t _ := ⟨B0, R1, R2, ha.below B0, hb.below B0⟩
  have KS := szBuild_any s a p c c' 1048576 _ (ha.below B0).1 wa na ma (by omega) (by omega)
  have HH := Hid.mk' H0
  have WB := Hid.mk' wb
  clear B0 R1 R2 ha hb H0 wa wb
  by_cases g1 : 1048576 < (s.nd.length : Int) + nssz s.nd + s.op.length
  · rw [if_pos g1] at KS
    have KS := Hid.mk' KS
    generalize hW : (w.alloc (.cells #[.slice a s.nd.length c, .slice p s.op.length c', .bool s.lg] 25)).alloc (.cells #[.slice b t.nd.length d, .slice q t.op.length d', .bool t.lg] 25) = W at *
    obtain ⟨x0, x1, x2, x3⟩ := cells3 HH.out.2.1
    go_enter Try.func4, Try.ntmps4
    go_wp2_with fail
    clear hW
    refine KS.out.mono ?_
    rintro e w1 ⟨rfl, hb1⟩
    have HB := Hid.mk' (HH.out.below hb1).1
    clear hb1 KS
    go_wp2
    go_ret
    exact ⟨rfl, HB.out⟩
  rw [if_neg g1] at KS
  have KS := Hid.mk' KS
  have zz : ¬ (1048576 - (s.nd.length : Int) - nssz s.nd - s.op.length < 0) := by omega
  have hl : (s.nd.length : Int) + nssz s.nd + s.op.length ≤ 1048576 := by omega
  clear g1
  generalize hW : (w.alloc (.cells #[.slice a s.nd.length c, .slice p s.op.length c', .bool s.lg] 25)).alloc (.cells #[.slice b t.nd.length d, .slice q t.op.length d', .bool t.lg] 25) = W at *
  obtain ⟨x0, x1, x2, x3⟩ := cells3 HH.out.2.1
  go_enter Try.func4, Try.ntmps4
  go_wp2_with fail
  clear hW
  refine KS.out.mono ?_
  rintro e w1 ⟨rfl, hb1⟩
  have HH := Hid.mk' (HH.out.below hb1)
  clear hb1 KS x0 x1 x2 x3
  have KT := szBuild_any t b q d d' (1048576 - (s.nd.length : Int) - nssz s.nd - s.op.length) w1 HH.out.2.2.2.2.1 WB.out nb mb_ (by omega) (by omega)
  obtain ⟨y0, y1, y2, y3⟩ := cells3 HH.out.2.2.1
  by_cases g2 : 1048576 - (s.nd.length : Int) - nssz s.nd - s.op.length < (t.nd.length : Int) + nssz t.nd + t.op.length
  · rw [if_pos g2] at KT
    have KT := Hid.mk' KT
    go_wp2_with fail
    refine KT.out.mono ?_
    rintro e w2 ⟨rfl, hb2⟩
    have HB := Hid.mk' (HH.out.below hb2).1
    clear hb2 KT
    go_wp2
    go_ret
    exact ⟨rfl, HB.out⟩
  rw [if_neg g2] at KT
  have KT := Hid.mk' KT
  have zy : ¬ (1048576 - (s.nd.length : Int) - nssz s.nd - s.op.length - t.nd.length - nssz t.nd - t.op.length < 0) := by omega
  have hm : (t.nd.length : Int) + nssz t.nd + t.op.length ≤ 1048576 := by omega
  clear g2
  go_wp2_with fail
  refine KT.out.mono ?_
  rintro e w2 ⟨rfl, hb2⟩
  have HH := Hid.mk' (HH.out.below hb2)
  clear hb2 KT y0 y1 y2 y3
  obtain ⟨x0, x1, x2, x3⟩ := cells3 HH.out.2.1
  obtain ⟨y0, y1, y2, y3⟩ := cells3 HH.out.2.2.1
  have AA := Hid.mk' (HH.out.2.2.2.1)
  have AB := Hid.mk' (HH.out.2.2.2.2)
  go_wp2
  clear zz zy
  go_region_held3 (fun w' => w'.cell? ⟨w.heap.size, 0, none⟩ = some (.slice a s.nd.length c) ∧ w'.cell? ⟨w.heap.size, 1, none⟩ = some (.slice p s.op.length c') ∧ w'.cell? ⟨w.heap.size, 2, none⟩ = some (.bool s.lg) ∧ w'.cell? ⟨w.heap.size + 1, 0, none⟩ = some (.slice b t.nd.length d) ∧ w'.cell? ⟨w.heap.size + 1, 1, none⟩ = some (.slice q t.op.length d') ∧ w'.cell? ⟨w.heap.size + 1, 2, none⟩ = some (.bool t.lg)) (simp [*])
    (first | (go_at_call_of 7 (Value.agg #[.slice a s.nd.length c, .slice p s.op.length c', .bool s.lg]); refine (toBuild_at s a p c c' _ (AA.out.below (Below.refl _ _).drew) hl).mono ?_; rintro e w3 ⟨g3, h3, rfl, t3, hb3⟩; replace hb3 := undrew hb3; obtain ⟨hx1, hx2⟩ := bcell hb3; have z1 := hb3.size; have z2 : w.heap.size < w3.heap.size := (by omega); have z3 : w.heap.size + 1 < w3.heap.size := (by omega)) | (go_at_call_of 7 (Value.agg #[.slice b t.nd.length d, .slice q t.op.length d', .bool t.lg]); refine (toBuild_at t b q d d' _ (AB.out.below hb3) hm).mono ?_; rintro e w4 ⟨g4, h4, rfl, t4, hb4⟩; obtain ⟨hx3, hx4⟩ := bcell hb4; have z4 := hb4.size; have z5 : w.heap.size < w4.heap.size := (by omega); have z6 : w.heap.size + 1 < w4.heap.size := (by omega)) | (go_at_call 10; refine (specSB_any s t _ _ _ _ _ _ _ _ _ (t3.below hb4).1 t4.1 (t3.below hb4).2 t4.2 hl hm).mono ?_; rintro e w5 ⟨rfl, hb5⟩; obtain ⟨hx5, hx6⟩ := bcell hb5))
  have H5 := Hid.mk' (((HH.out.below hb3).below hb4).below hb5)
  clear hx1 hx2 hx3 hx4 hx5 hx6 z1 z2 z3 z4 z5 z6 t3 t4 hb3 hb4 hb5 HH x0 x1 x2 x3 y0 y1 y2 y3 AA AB
  obtain ⟨x0, x1, x2, x3⟩ := cells3 H5.out.2.1
  obtain ⟨y0, y1, y2, y3⟩ := cells3 H5.out.2.2.1
  go_wp2_with fail
  refine (toBuild_at s a p c c' _ H5.out.2.2.2.1 hl).mono ?_
  rintro e w6 ⟨g6, h6, rfl, t6, hb6⟩
  have N6 := below_new w6 (.cells #[.slice (some ⟨g6, 0, none⟩) s.nd.length s.nd.length, .slice (some ⟨h6, 0, none⟩) s.op.length s.op.length, .bool s.lg] 30)
  have H6 := Hid.mk' ((H5.out.below hb6).below N6)
  have T6 := Hid.mk' (t6.below N6)
  have Q6 := Hid.mk' (row3 w6 30 (.slice (some ⟨g6, 0, none⟩) s.nd.length s.nd.length) (.slice (some ⟨h6, 0, none⟩) s.op.length s.op.length) (.bool s.lg))
  clear H5 hb6 t6 N6 x0 x1 x2 x3 y0 y1 y2 y3
  generalize hW6 : w6.alloc (.cells #[.slice (some ⟨g6, 0, none⟩) s.nd.length s.nd.length, .slice (some ⟨h6, 0, none⟩) s.op.length s.op.length, .bool s.lg] 30) = W6 at *
  obtain ⟨x0, x1, x2, x3⟩ := cells3 H6.out.2.1
  obtain ⟨y0, y1, y2, y3⟩ := cells3 H6.out.2.2.1
  go_wp2_with fail
  clear hW6
  refine (toBuild_at t b q d d' _ H6.out.2.2.2.2 hm).mono ?_
  rintro e w7 ⟨g7, h7, rfl, t7, hb7⟩
  have N7 := below_new w7 (.cells #[.slice (some ⟨g7, 0, none⟩) t.nd.length t.nd.length, .slice (some ⟨h7, 0, none⟩) t.op.length t.op.length, .bool t.lg] 30)
  have H7 := Hid.mk' ((H6.out.below hb7).below N7)
  have T7 := Hid.mk' (t7.below N7)
  have U7 := Hid.mk' ((T6.out.below hb7).below N7)
  have Q7 := Hid.mk' (row3 w7 30 (.slice (some ⟨g7, 0, none⟩) t.nd.length t.nd.length) (.slice (some ⟨h7, 0, none⟩) t.op.length t.op.length) (.bool t.lg))
  have P7 := Hid.mk' (rowB (rowB Q6.out hb7) N7)
  clear H6 T6 Q6 hb7 t7 N7 x0 x1 x2 x3 y0 y1 y2 y3
  generalize hW7 : w7.alloc (.cells #[.slice (some ⟨g7, 0, none⟩) t.nd.length t.nd.length, .slice (some ⟨h7, 0, none⟩) t.op.length t.op.length, .bool t.lg] 30) = W7 at *
  obtain ⟨x0, x1, x2, x3⟩ := cells3 P7.out
  obtain ⟨y0, y1, y2, y3⟩ := cells3 Q7.out
  go_wp2_with fail
  clear hW7
  refine (implSB_any s t _ _ _ _ _ _ _ _ _ U7.out.1 T7.out.1 U7.out.2 T7.out.2 hl hm).mono ?_
  rintro e w8 ⟨rfl, hb8⟩
  have H8 := Hid.mk' (H7.out.below hb8)
  have T8 := Hid.mk' (T7.out.below hb8)
  have U8 := Hid.mk' (U7.out.below hb8)
  have Q8 := Hid.mk' (rowB Q7.out hb8)
  have P8 := Hid.mk' (rowB P7.out hb8)
  clear H7 T7 U7 Q7 P7 hb8 x0 x1 x2 x3 y0 y1 y2 y3
  generalize sameS s t = sm at *
  obtain ⟨x0, x1, x2, x3⟩ := cells3 H8.out.2.1
  obtain ⟨p0, p1, p2_, p3⟩ := cells3 P8.out
  have AA := Hid.mk' (H8.out.2.2.2.1)
  go_wp2
  go_region_held3 (fun w' => w'.cell? ⟨w.heap.size, 0, none⟩ = some (.slice a s.nd.length c) ∧ w'.cell? ⟨w.heap.size, 1, none⟩ = some (.slice p s.op.length c') ∧ w'.cell? ⟨w.heap.size, 2, none⟩ = some (.bool s.lg) ∧ w'.cell? ⟨w6.heap.size, 0, none⟩ = some (.slice (some ⟨g6, 0, none⟩) s.nd.length s.nd.length) ∧ w'.cell? ⟨w6.heap.size, 1, none⟩ = some (.slice (some ⟨h6, 0, none⟩) s.op.length s.op.length) ∧ w'.cell? ⟨w6.heap.size, 2, none⟩ = some (.bool s.lg)) (simp [*])
    (first | (go_at_call 7; refine (toBuild_at s a p c c' _ (AA.out.below (Below.refl _ _).drew) hl).mono ?_; rintro e w9 ⟨g9, h9, rfl, t9, hb9⟩; replace hb9 := undrew hb9; obtain ⟨hx1, hx2⟩ := bcell hb9; have z1 := hb9.size; have z2 : w.heap.size < w9.heap.size := (by omega); have z3 : w6.heap.size < w9.heap.size := (by omega)) | (go_at_call 9; refine (eqBuild_any s _ _ _ _ _ _ _ _ _ (U8.out.below hb9).1 t9.1 (U8.out.below hb9).2 t9.2 hl).mono ?_; rintro e wA ⟨rfl, hbA⟩; obtain ⟨hx3, hx4⟩ := bcell hbA))
  have HA := Hid.mk' ((H8.out.below hb9).below hbA)
  have TA := Hid.mk' ((T8.out.below hb9).below hbA)
  have QA := Hid.mk' (rowB (rowB Q8.out hb9) hbA)
  clear hx1 hx2 hx3 hx4 z1 z2 z3 hb9 hbA t9 H8 T8 U8 P8 Q8 x0 x1 x2 x3 p0 p1 p2_ p3 AA
  obtain ⟨y0, y1, y2, y3⟩ := cells3 HA.out.2.2.1
  obtain ⟨q0, q1, q2, q3⟩ := cells3 QA.out
  have AB := Hid.mk' (HA.out.2.2.2.2)
  go_wp2
  go_region_held3 (fun w' => w'.cell? ⟨w.heap.size + 1, 0, none⟩ = some (.slice b t.nd.length d) ∧ w'.cell? ⟨w.heap.size + 1, 1, none⟩ = some (.slice q t.op.length d') ∧ w'.cell? ⟨w.heap.size + 1, 2, none⟩ = some (.bool t.lg) ∧ w'.cell? ⟨w7.heap.size, 0, none⟩ = some (.slice (some ⟨g7, 0, none⟩) t.nd.length t.nd.length) ∧ w'.cell? ⟨w7.heap.size, 1, none⟩ = some (.slice (some ⟨h7, 0, none⟩) t.op.length t.op.length) ∧ w'.cell? ⟨w7.heap.size, 2, none⟩ = some (.bool t.lg)) (simp [*])
    (first | (go_at_call 7; refine (toBuild_at t b q d d' _ (AB.out.below (Below.refl _ _).drew) hm).mono ?_; rintro e w9 ⟨g9, h9, rfl, t9, hb9⟩; replace hb9 := undrew hb9; obtain ⟨hx1, hx2⟩ := bcell hb9; have z1 := hb9.size; have z2 : w.heap.size + 1 < w9.heap.size := (by omega); have z3 : w7.heap.size < w9.heap.size := (by omega)) | (go_at_call 9; refine (eqBuild_any t _ _ _ _ _ _ _ _ _ (TA.out.below hb9).1 t9.1 (TA.out.below hb9).2 t9.2 hm).mono ?_; rintro e wB ⟨rfl, hbB⟩; obtain ⟨hx3, hx4⟩ := bcell hbB))
  have HB := Hid.mk' ((HA.out.below hb9).below hbB)
  clear hx1 hx2 hx3 hx4 z1 z2 z3 hb9 hbB t9 HA TA QA y0 y1 y2 y3 q0 q1 q2 q3 AB
  go_wp2
  go_ret
  exact ⟨rfl, HB.out.1⟩

end Go.Proofs.Ytpncbcmngfpkfaa
