/- The law on PutToken. -/
import Derived.Test.YtpncbcmngfpkfaaGreatU13
namespace Go.Proofs.YtpncbcmngfpkfaaGreat
open Go.RowKit
set_option linter.unusedVariables false
set_option linter.unusedSimpArgs false

/-- The arguments of a law on a state and a token, in their boxes. -/
structure HP (b : Nat) (s : BS) (t : TK) (a p : Option Addr) (c d : Nat) (q : Option Addr) (c' : Nat) (wi : World) : Prop where
  bx : wi.rowIs b 25 3 (r3 (.slice a s.nd.length c) (.slice p s.op.length d) (.bool s.lg))
  bt : wi.rowIs (b + 1) 28 5 (r5 (.int .i64 t.kd) (.int .i64 t.by_) (.string t.nm) (.slice q t.at_.length c') (.bool t.sh))
  sx : SAt wi a p s
  st : AAt wi q t.at_

theorem HP.below {b : Nat} {s : BS} {t : TK} {a p : Option Addr} {c d : Nat} {q : Option Addr} {c' : Nat} {wi wj : World} (h : HP b s t a p c d q c' wi) (hb : Below wi.heap.size wi wj) : HP b s t a p c d q c' wj := ⟨rowB h.bx hb, rowB h.bt hb, h.sx.below hb, h.st.below hb⟩

theorem boxes2 (w : World) (x0 x1 x2 y0 y1 y2 y3 y4 : Value) :
    let W := (w.alloc (.cells #[x0, x1, x2] 25)).alloc (.cells #[y0, y1, y2, y3, y4] 28)
    Below w.heap.size w W ∧ W.rowIs w.heap.size 25 3 (r3 x0 x1 x2) ∧ W.rowIs (w.heap.size + 1) 28 5 (r5 y0 y1 y2 y3 y4) := by
  refine ⟨(below_new w _).alloc (by simp) _, (row3 w _ x0 x1 x2).alloc _, ?_⟩
  have := row5 (w.alloc (.cells #[x0, x1, x2] 25)) 28 y0 y1 y2 y3 y4
  rw [show (w.alloc (.cells #[x0, x1, x2] 25)).heap.size = w.heap.size + 1 by simp] at this
  exact this

theorem put4' {wr : World} {j : Nat} {ty : TypeId} {c u1 u2 u3 : Value} (h : wr.rowIs j ty 4 (r4 c u1 u2 u3)) (c' v1 v2 v3 : Value) : ((((wr.setCell ⟨j, 0, none⟩ c').setCell ⟨j, 1, none⟩ v1).setCell ⟨j, 2, none⟩ v2).setCell ⟨j, 3, none⟩ v3).rowIs j ty 4 (r4 c' v1 v2 v3) :=
  ((((h.set 0 c').set 1 v1).set 2 v2).set 3 v3).congr (fun i hi => by
    rcases i with _ | _ | _ | _ | i
    · rfl
    · rfl
    · rfl
    · rfl
    · omega)

/-- An answer in a box that was made before it. -/
theorem fin4 {τ : Nat → Nat} {B lo b : Nat} {w2 w5 : World} {vn vo z0 z1 z2 z3 cc lg : Value} {R : BS} {va vt : Nat → Value} {us : Nat → List Value} {ty : TypeId} (hb : Below B w2 w5) (hB : B ≤ b) (q : SQ τ lo w5 vn vo R va vt us) (hq : τ b = 2) (hr : w5.rowIs b ty 4 (r4 z0 z1 z2 z3)) :
    Below B w2 ((((w5.setCell ⟨b, 0, none⟩ cc).setCell ⟨b, 1, none⟩ vn).setCell ⟨b, 2, none⟩ vo).setCell ⟨b, 3, none⟩ lg) ∧ ((((w5.setCell ⟨b, 0, none⟩ cc).setCell ⟨b, 1, none⟩ vn).setCell ⟨b, 2, none⟩ vo).setCell ⟨b, 3, none⟩ lg).rowIs b ty 4 (r4 cc vn vo lg) ∧ SQ τ lo ((((w5.setCell ⟨b, 0, none⟩ cc).setCell ⟨b, 1, none⟩ vn).setCell ⟨b, 2, none⟩ vo).setCell ⟨b, 3, none⟩ lg) vn vo R va vt us :=
  ⟨set4 hb hB, put4' hr _ _ _ _, q.keep (((((Kp.refl _ _).setCell (q := ⟨b, 0, none⟩) (fun h => h hq) _).setCell (q := ⟨b, 1, none⟩) (fun h => h hq) _).setCell (q := ⟨b, 2, none⟩) (fun h => h hq) _).setCell (q := ⟨b, 3, none⟩) (fun h => h hq) _)⟩

/-- An answer in a box that was made behind it. -/
theorem finA {τ : Nat → Nat} {B lo : Nat} {w2 w5 : World} {vn vo cc lg : Value} {R : BS} {va vt : Nat → Value} {us : Nat → List Value} {ty : TypeId} (hb : Below B w2 w5) (hB : B ≤ w5.heap.size) (q : SQ τ lo w5 vn vo R va vt us) :
    Below B w2 (w5.alloc (.cells #[cc, vn, vo, lg] ty)) ∧ (w5.alloc (.cells #[cc, vn, vo, lg] ty)).rowIs w5.heap.size ty 4 (r4 cc vn vo lg) ∧ SQ τ lo (w5.alloc (.cells #[cc, vn, vo, lg] ty)) vn vo R va vt us :=
  ⟨hb.trans ((below_new _ _).mono hB), row4 w5 ty cc vn vo lg, q.below (below_new _ _)⟩

set_option maxRecDepth 100000 in
set_option maxHeartbeats 12000000 in
theorem lawPT_any (s : BS) (a p : Option Addr) (c d : Nat) (t : TK) (q : Option Addr) (c' : Nat) (w : World) (ha : SAt w a p s) (wa : WideN s.nd) (na : (s.nd.length : Int) ≤ 9223372036854775807) (ma : (s.op.length : Int) ≤ 9223372036854775807) (ht : AAt w q t.at_) (wt : Wide t.at_) (nt : (t.nm.size : Int) ≤ 9223372036854775807) (mt : (t.at_.length : Int) ≤ 9223372036854775807) :
    Calls Tryz.prog 3 #[.agg #[.slice a s.nd.length c, .slice p s.op.length d, .bool s.lg], .agg #[.int .i64 t.kd, .int .i64 t.by_, .string t.nm, .slice q t.at_.length c', .bool t.sh]] w fun e w' => e = .returned (.bool true) ∧ Below w.heap.size w w' := by
  obtain ⟨B0, R1, R2⟩ := boxes2 w (.slice a s.nd.length c) (.slice p s.op.length d) (.bool s.lg) (.int .i64 t.kd) (.int .i64 t.by_) (.string t.nm) (.slice q t.at_.length c') (.bool t.sh)
  have H0 : HP w.heap.size s t a p c d q c' _ := ⟨R1, R2, ha.below B0, ht.below B0⟩
  have KS := szBuild_any s a p c d 1048576 _ (ha.below B0).1 wa na ma (by omega) (by omega)
  have HH := Hid.mk' H0
  have HB := Hid.mk' B0
  have WT := Hid.mk' wt
  clear B0 R1 R2 ha ht H0 wa wt
  by_cases g1 : 1048576 < (s.nd.length : Int) + nssz s.nd + s.op.length
  · rw [if_pos g1] at KS
    have KS := Hid.mk' KS
    generalize hW : (w.alloc (.cells #[.slice a s.nd.length c, .slice p s.op.length d, .bool s.lg] 25)).alloc (.cells #[.int .i64 t.kd, .int .i64 t.by_, .string t.nm, .slice q t.at_.length c', .bool t.sh] 28) = W at *
    obtain ⟨x0, x1, x2, x3⟩ := cells3 HH.out.bx
    go_enter Tryz.func3, Tryz.ntmps3
    go_wp2_with fail
    clear hW
    refine KS.out.mono ?_
    rintro e w1 ⟨rfl, hb1⟩
    have HB := Hid.mk' (HB.out.trans (hb1.mono HB.out.size))
    clear hb1 KS
    go_wp2
    go_ret
    exact ⟨rfl, HB.out⟩
  rw [if_neg g1] at KS
  have KS := Hid.mk' KS
  have zz : ¬ (1048576 - (s.nd.length : Int) - nssz s.nd - s.op.length < 0) := by omega
  have hl : (s.nd.length : Int) + nssz s.nd + s.op.length ≤ 1048576 := by omega
  clear g1
  generalize hW : (w.alloc (.cells #[.slice a s.nd.length c, .slice p s.op.length d, .bool s.lg] 25)).alloc (.cells #[.int .i64 t.kd, .int .i64 t.by_, .string t.nm, .slice q t.at_.length c', .bool t.sh] 28) = W at *
  obtain ⟨x0, x1, x2, x3⟩ := cells3 HH.out.bx
  go_enter Tryz.func3, Tryz.ntmps3
  go_wp2_with fail
  clear hW
  refine KS.out.mono ?_
  rintro e w1 ⟨rfl, hb1⟩
  have HH := Hid.mk' (HH.out.below hb1)
  have HB := Hid.mk' (HB.out.trans (hb1.mono HB.out.size))
  clear hb1 KS x0 x1 x2 x3
  have KT := szToken_gen t q c' (1048576 - (s.nd.length : Int) - nssz s.nd - s.op.length) w1 HH.out.st WT.out nt mt (by omega) (by omega)
  obtain ⟨y0, y1, y2, y3, y4, y5⟩ := cells5 HH.out.bt
  by_cases g2 : 1048576 - (s.nd.length : Int) - nssz s.nd - s.op.length < (tsz t : Int)
  · rw [if_pos g2] at KT
    have KT := Hid.mk' KT
    go_wp2_with fail
    refine KT.out.mono ?_
    rintro e w2 ⟨rfl, hb2⟩
    have HB := Hid.mk' (HB.out.trans (hb2.mono HB.out.size))
    clear hb2 KT
    go_wp2
    go_ret
    exact ⟨rfl, HB.out⟩
  rw [if_neg g2] at KT
  have KT := Hid.mk' KT
  have zy : ¬ (1048576 - (s.nd.length : Int) - nssz s.nd - s.op.length - (tsz t : Int) < 0) := by omega
  have hts : (tsz t : Int) = (t.nm.size : Int) + t.at_.length + asz t.at_ := by unfold tsz; omega
  obtain ⟨nR0, oR0⟩ := putR_le s t hl (by omega)
  have hn : (t.nm.size : Int) ≤ 1048576 := by omega
  have hm : (t.at_.length : Int) + asz t.at_ ≤ 1048576 := by omega
  have n4 := vsz_le t.at_ t.at_.length
  rw [List.take_length] at n4
  have KS0 : Hid (∀ (a' p' q' : Option Addr) (c1 d1 c2 : Nat) (w' : World), SAt w' a' p' s → AAt w' q' t.at_ → t.at_.length ≤ c2 → Calls Tryz.prog 8 #[.agg #[.slice a' s.nd.length c1, .slice p' s.op.length d1, .bool s.lg], .agg #[.int .i64 t.kd, .int .i64 t.by_, .string t.nm, .slice q' t.at_.length c2, .bool t.sh]] w' fun e w'' => PutP (putC s t) (putR s t) w' e w'') := fun a' p' q' c1 d1 c2 w' h1 h2 h3 => specPut_any s t a' p' q' c1 d1 c2 w' h1 h2 h3 hl hn hm
  have KI0 : Hid (∀ (a' p' q' : Option Addr) (c1 d1 c2 : Nat) (w' : World), SAt w' a' p' s → AAt w' q' t.at_ → Calls Tryz.prog 11 #[.agg #[.slice a' s.nd.length c1, .slice p' s.op.length d1, .bool s.lg], .agg #[.int .i64 t.kd, .int .i64 t.by_, .string t.nm, .slice q' t.at_.length c2, .bool t.sh]] w' fun e w'' => PutP (putC s t) (putR s t) w' e w'') := fun a' p' q' c1 d1 c2 w' h1 h2 => implPut_any s t a' p' q' c1 d1 c2 w' h1 h2 hl hn hm
  obtain ⟨C, hC⟩ : ∃ C, putC s t = C := ⟨_, rfl⟩
  obtain ⟨R, hR⟩ : ∃ R, putR s t = R := ⟨_, rfl⟩
  rw [hC, hR] at KS0 KI0
  rw [hR] at nR0 oR0
  clear g2 hC hR hts
  go_wp2_with fail
  refine KT.out.mono ?_
  rintro e w2 ⟨rfl, hb2⟩
  have HH := Hid.mk' (HH.out.below hb2)
  have HB := Hid.mk' (HB.out.trans (hb2.mono HB.out.size))
  clear hb2 KT y0 y1 y2 y3 y4 y5
  obtain ⟨x0, x1, x2, x3⟩ := cells3 HH.out.bx
  obtain ⟨y0, y1, y2, y3, y4, y5⟩ := cells5 HH.out.bt
  have AA := Hid.mk' HH.out.sx
  have AB := Hid.mk' HH.out.st
  go_wp2
  clear zz zy

  have n1 : ¬ w2.heap.size = w.heap.size := by omega
  have n2 : ¬ w2.heap.size = w.heap.size + 1 := by omega
  have n3 : ¬ w.heap.size = w2.heap.size := by omega
  have n5 : ¬ w.heap.size + 1 = w2.heap.size := by omega
  go_region_held3 (fun w' => w'.cell? ⟨w.heap.size, 0, none⟩ = some (.slice a s.nd.length c) ∧ w'.cell? ⟨w.heap.size, 1, none⟩ = some (.slice p s.op.length d) ∧ w'.cell? ⟨w.heap.size, 2, none⟩ = some (.bool s.lg) ∧ w'.cell? ⟨w.heap.size + 1, 0, none⟩ = some (.int .i64 t.kd) ∧ w'.cell? ⟨w.heap.size + 1, 1, none⟩ = some (.int .i64 t.by_) ∧ w'.cell? ⟨w.heap.size + 1, 2, none⟩ = some (.string t.nm) ∧ w'.cell? ⟨w.heap.size + 1, 3, none⟩ = some (.slice q t.at_.length c') ∧ w'.cell? ⟨w.heap.size + 1, 4, none⟩ = some (.bool t.sh)) (go_keep)
    (first | (go_at_call 9; refine (toBuild_at s a p c d _ (by first | exact AA.out.below (Below.refl _ _).drew | exact (AA.out.below (Below.refl _ _).drew).below (below_new _ _)) hl).mono ?_; rintro e v3 ⟨g3, h3, rfl, t3, hb3⟩; have hb3r := hb3; replace hb3 : Below w2.heap.size w2 v3 := (by first | exact undrew hb3 | exact undrew ((below_new _ _).trans (hb3.mono (below_new _ _).size))); obtain ⟨hx1, hx2⟩ := bcell hb3; have z1 := hb3.size; have z2 : w.heap.size < v3.heap.size := (by omega); have z3 : w.heap.size + 1 < v3.heap.size := (by omega); have zz1 : ¬ v3.heap.size = w.heap.size := (by omega); have zz2 : ¬ v3.heap.size = w.heap.size + 1 := (by omega); have zz3 : ¬ w.heap.size = v3.heap.size := (by omega); have zz4 : ¬ w.heap.size + 1 = v3.heap.size := (by omega)) | (go_at_call 10; refine (toToken_any t q c' _ (by first | exact AB.out.below hb3 | exact (AB.out.below hb3).below (below_new _ _)) hm).mono ?_; rintro e v4 ⟨g4, rfl, _, t4, hb4⟩; have hb4r := hb4; replace hb4 : Below v3.heap.size v3 v4 := (by first | exact hb4 | exact (below_new _ _).trans (hb4.mono (below_new _ _).size)); obtain ⟨hx3, hx4⟩ := bcell hb4; have z4 := hb4.size; have z5 : w.heap.size < v4.heap.size := (by omega); have z6 : w.heap.size + 1 < v4.heap.size := (by omega); have zy1 : ¬ v4.heap.size = w.heap.size := (by omega); have zy2 : ¬ v4.heap.size = w.heap.size + 1 := (by omega); have zy3 : ¬ w.heap.size = v4.heap.size := (by omega); have zy4 : ¬ w.heap.size + 1 = v4.heap.size := (by omega)) | (go_at_call 8; refine (KS0.out _ _ _ _ _ _ _ (by first | exact t3.below hb4 | exact (t3.below hb4).below (below_new _ _)) (by first | exact t4.at | exact (t4.below (below_new _ _)).at) (Nat.le_refl _)).mono ?_; rintro e w5 ⟨τ5, vn5, vo5, va5, vt5, us5, rfl, q5, cap5, hb5⟩; have hb5r := hb5; replace hb5 : Below v4.heap.size v4 w5 := (by first | exact hb5 | exact (below_new _ _).trans (hb5.mono (below_new _ _).size)); obtain ⟨a5, c5, p5, d5, rfl, rfl, s5⟩ := q5.at; obtain ⟨hx5, hx6⟩ := bcell hb5; have z7 := hb5.size; have z8 : ¬ w5.heap.size = w.heap.size := (by omega); have z9 : ¬ w5.heap.size = w.heap.size + 1 := (by omega); have zx3 : ¬ w.heap.size = w5.heap.size := (by omega); have zx4 : ¬ w.heap.size + 1 = w5.heap.size := (by omega); try (first | (have RZ : w5.rowIs v4.heap.size 35 4 (r4 (.int .i64 0) (.slice none 0 0) (.slice none 0 0) (.bool false)) := rowB (row4 v4 35 (.int .i64 0) (.slice none 0 0) (.slice none 0 0) (.bool false)) hb5r; obtain ⟨b0, b1, b2, b3, b4⟩ := cells4 RZ; obtain ⟨f0, f1, f2, f3⟩ := frz4 RZ; clear RZ) | (have RZ : w5.rowIs v3.heap.size 35 4 (r4 (.int .i64 0) (.slice none 0 0) (.slice none 0 0) (.bool false)) := rowB (rowB (row4 v3 35 (.int .i64 0) (.slice none 0 0) (.slice none 0 0) (.bool false)) hb4r) hb5; obtain ⟨b0, b1, b2, b3, b4⟩ := cells4 RZ; obtain ⟨f0, f1, f2, f3⟩ := frz4 RZ; clear RZ) | (have RZ : w5.rowIs w2.heap.size 35 4 (r4 (.int .i64 0) (.slice none 0 0) (.slice none 0 0) (.bool false)) := rowB (rowB (rowB (row4 w2.drew 35 (.int .i64 0) (.slice none 0 0) (.slice none 0 0) (.bool false)) hb3r) hb4) hb5; obtain ⟨b0, b1, b2, b3, b4⟩ := cells4 RZ; obtain ⟨f0, f1, f2, f3⟩ := frz4 RZ; clear RZ))))
  all_goals
    have hb35 : Below w2.heap.size w2 w5 := (hb3.trans (hb4.mono hb3.size)).trans (hb5.mono (Nat.le_trans hb3.size hb4.size))
    first
      | (obtain ⟨BX, RX, QX⟩ := finA (ty := 35) (cc := .int .i64 C) (lg := .bool R.lg) hb35 hb35.size q5
         generalize hW5 : w5.alloc (.cells #[.int .i64 C, .slice a5 R.nd.length c5, .slice p5 R.op.length d5, .bool R.lg] 35) = W5 at *
         rw [← hW5]
         rw [hW5])
      | (obtain ⟨BX, RX, QX⟩ := fin4 (b := v4.heap.size) (ty := 35) (cc := .int .i64 C) (lg := .bool R.lg) hb35 (by omega) q5 (cap5 _ (by simp; intro hh; omega)) (rowB (row4 v4 35 (.int .i64 0) (.slice none 0 0) (.slice none 0 0) (.bool false)) hb5r)
         generalize hW5 : ((((w5.setCell ⟨v4.heap.size, 0, none⟩ (.int .i64 C)).setCell ⟨v4.heap.size, 1, none⟩ (.slice a5 R.nd.length c5)).setCell ⟨v4.heap.size, 2, none⟩ (.slice p5 R.op.length d5)).setCell ⟨v4.heap.size, 3, none⟩ (.bool R.lg)) = W5 at *
         rw [← hW5]
         rw [hW5])
      | (obtain ⟨BX, RX, QX⟩ := fin4 (b := v3.heap.size) (ty := 35) (cc := .int .i64 C) (lg := .bool R.lg) hb35 (by omega) q5 (cap5 _ (by have := hb4r.size; simp at this; omega)) (rowB (rowB (row4 v3 35 (.int .i64 0) (.slice none 0 0) (.slice none 0 0) (.bool false)) hb4r) hb5)
         generalize hW5 : ((((w5.setCell ⟨v3.heap.size, 0, none⟩ (.int .i64 C)).setCell ⟨v3.heap.size, 1, none⟩ (.slice a5 R.nd.length c5)).setCell ⟨v3.heap.size, 2, none⟩ (.slice p5 R.op.length d5)).setCell ⟨v3.heap.size, 3, none⟩ (.bool R.lg)) = W5 at *
         rw [← hW5]
         rw [hW5])
      | (obtain ⟨BX, RX, QX⟩ := fin4 (b := w2.heap.size) (ty := 35) (cc := .int .i64 C) (lg := .bool R.lg) hb35 (Nat.le_refl _) q5 (cap5 _ (by have := hb3r.size; simp at this; omega)) (rowB (rowB (rowB (row4 w2.drew 35 (.int .i64 0) (.slice none 0 0) (.slice none 0 0) (.bool false)) hb3r) hb4) hb5)
         generalize hW5 : ((((w5.setCell ⟨w2.heap.size, 0, none⟩ (.int .i64 C)).setCell ⟨w2.heap.size, 1, none⟩ (.slice a5 R.nd.length c5)).setCell ⟨w2.heap.size, 2, none⟩ (.slice p5 R.op.length d5)).setCell ⟨w2.heap.size, 3, none⟩ (.bool R.lg)) = W5 at *
         rw [← hW5]
         rw [hW5])
    clear hx1 hx2 hx3 hx4 hx5 hx6 z1 z2 z3 z4 z5 z6 z7 z8 z9 zx3 zx4 zy1 zy2 zy3 zy4 zz1 zz2 zz3 zz4 n1 n2 n3 n5 t3 t4 hb3 hb4 hb5 hb3r hb4r hb5r x0 x1 x2 x3 y0 y1 y2 y3 y4 y5 AA AB KS0 q5 cap5 s5 hb35
    try clear b0 b1 b2 b3 b4 f0 f1 f2 f3

    have HH := Hid.mk' (HH.out.below BX)
    have HB := Hid.mk' (HB.out.trans (BX.mono HB.out.size))
    have RW := Hid.mk' RX
    have SW := Hid.mk' QX.sat
    clear BX RX QX
    obtain ⟨x0, x1, x2, x3⟩ := cells3 HH.out.bx
    go_wp2_with fail
    clear hW5
    refine (toBuild_any s a p c d W5 HH.out.sx.1 HH.out.sx.2 hl).mono ?_
    rintro e w6 ⟨gn, hi, go, rfl, l1, nx, l2, rg, hb6⟩
    have N6 := below_new w6 (.cells #[.slice (some ⟨gn, 0, none⟩) s.nd.length s.nd.length, .slice (some ⟨go, 0, none⟩) s.op.length s.op.length, .bool s.lg] 33)
    have B5 := Hid.mk' (hb6.trans (N6.mono hb6.size))
    have X0 : Hid (X0P W5.heap.size w6.heap.size gn hi go s _) := Hid.mk' ⟨row3 w6 33 (.slice (some ⟨gn, 0, none⟩) s.nd.length s.nd.length) (.slice (some ⟨go, 0, none⟩) s.op.length s.op.length) (.bool s.lg), nx.below N6, rowB rg N6, l1, l2, rg.lt⟩
    have L6 : Hid (go < w6.heap.size ∧ W5.heap.size ≤ gn) := Hid.mk' ⟨rg.lt, l1⟩
    have Z6 : Hid ((w6.alloc (.cells #[.slice (some ⟨gn, 0, none⟩) s.nd.length s.nd.length, .slice (some ⟨go, 0, none⟩) s.op.length s.op.length, .bool s.lg] 33)).heap.size = w6.heap.size + 1) := Hid.mk' (by simp)
    have L56 := Hid.mk' B5.out.size
    clear l1 nx l2 rg hb6 N6 x0 x1 x2 x3
    generalize hW6 : w6.alloc (.cells #[.slice (some ⟨gn, 0, none⟩) s.nd.length s.nd.length, .slice (some ⟨go, 0, none⟩) s.op.length s.op.length, .bool s.lg] 33) = W6 at *
    obtain ⟨y0, y1, y2, y3, y4, y5⟩ := cells5 (HH.out.below B5.out).bt
    go_wp2_with fail
    clear hW6
    refine (toToken_any t q c' W6 (HH.out.below B5.out).st hm).mono ?_
    rintro e w7 ⟨g7, rfl, l7, o7, hb7⟩
    have N7 := below_new w7 (.cells #[.int .i64 t.kd, .int .i64 t.by_, .string t.nm, .slice (some ⟨g7, 0, none⟩) t.at_.length t.at_.length, .bool t.sh] 40)
    have B5 := Hid.mk' ((B5.out.trans (hb7.mono B5.out.size)).trans (N7.mono (Nat.le_trans B5.out.size hb7.size)))
    have X0 := Hid.mk' ((X0.out.below hb7).below N7)
    have X1 : Hid (X1P W6.heap.size w7.heap.size g7 t _) := Hid.mk' ⟨row5 w7 40 (.int .i64 t.kd) (.int .i64 t.by_) (.string t.nm) (.slice (some ⟨g7, 0, none⟩) t.at_.length t.at_.length) (.bool t.sh), o7.below N7, o7.mr.below N7, l7⟩
    have L7 : Hid (W6.heap.size ≤ g7 ∧ W6.heap.size ≤ w7.heap.size) := Hid.mk' ⟨l7, hb7.size⟩
    have Z7 : Hid ((w7.alloc (.cells #[.int .i64 t.kd, .int .i64 t.by_, .string t.nm, .slice (some ⟨g7, 0, none⟩) t.at_.length t.at_.length, .bool t.sh] 40)).heap.size = w7.heap.size + 1) := Hid.mk' (by simp)
    clear l7 o7 hb7 N7 y0 y1 y2 y3 y4 y5
    generalize hW7 : w7.alloc (.cells #[.int .i64 t.kd, .int .i64 t.by_, .string t.nm, .slice (some ⟨g7, 0, none⟩) t.at_.length t.at_.length, .bool t.sh] 40) = W7 at *
    obtain ⟨x0, x1, x2, x3⟩ := cells3 X0.out.box
    obtain ⟨y0, y1, y2, y3, y4, y5⟩ := cells5 X1.out.box
    go_wp2_with fail
    clear hW7
    refine (KI0.out _ _ _ _ _ _ W7 X0.out.at X1.out.own.at).mono ?_
    rintro e w8 ⟨τ8, vn8, vo8, va8, vt8, us8, rfl, q8, cap8, hb8⟩
    obtain ⟨a8, c8, p8, d8, rfl, rfl, s8⟩ := q8.at
    have N8 := below_new w8 (.cells #[.int .i64 C, .slice a8 R.nd.length c8, .slice p8 R.op.length d8, .bool R.lg] 35)
    have hb := hb8.trans (N8.mono hb8.size)
    have B5 := Hid.mk' (B5.out.trans (hb.mono B5.out.size))
    have X0 := Hid.mk' (X0.out.below hb)
    have X1 := Hid.mk' (X1.out.below hb)
    have G : Hid (GP W7.heap.size w8.heap.size τ8 (.slice a8 R.nd.length c8) (.slice p8 R.op.length d8) va8 vt8 us8 C R.lg R _) := Hid.mk' ⟨row4 w8 35 (.int .i64 C) (.slice a8 R.nd.length c8) (.slice p8 R.op.length d8) (.bool R.lg), q8.below N8, cap8, hb8.size⟩
    clear q8 cap8 hb8 s8 N8 hb x0 x1 x2 x3 y0 y1 y2 y3 y4 y5
    generalize hW8 : w8.alloc (.cells #[.int .i64 C, .slice a8 R.nd.length c8, .slice p8 R.op.length d8, .bool R.lg] 35) = W8 at *
    obtain ⟨e0, e1, e2, e3, e4⟩ := cells4 G.out.box
    obtain ⟨k0, k1, k2, k3, k4⟩ := cells4 (rowB RW.out B5.out)
    go_wp2_with fail
    clear hW8
    refine (eqBRes_is C R a8 p8 a5 p5 c8 d8 c5 d5 W8 G.out.sq.sat (SW.out.below B5.out) nR0 oR0).mono ?_
    rintro e w9 ⟨rfl, hb⟩
    have B5 := Hid.mk' (B5.out.trans (hb.mono B5.out.size))
    have X0 := Hid.mk' (X0.out.below hb)
    have X1 := Hid.mk' (X1.out.below hb)
    have G := Hid.mk' (G.out.below hb)
    clear hb e0 e1 e2 e3 e4 k0 k1 k2 k3 k4
    obtain ⟨x0, x1, x2, x3⟩ := cells3 (HH.out.below B5.out).bx
    obtain ⟨p0, p1, p2_, p3⟩ := cells3 X0.out.box
    have AA := Hid.mk' (HH.out.below B5.out).sx
    go_wp2
    go_region_held3 (fun w' => w'.cell? ⟨w.heap.size, 0, none⟩ = some (.slice a s.nd.length c) ∧ w'.cell? ⟨w.heap.size, 1, none⟩ = some (.slice p s.op.length d) ∧ w'.cell? ⟨w.heap.size, 2, none⟩ = some (.bool s.lg) ∧ w'.cell? ⟨w6.heap.size, 0, none⟩ = some (.slice (some ⟨gn, 0, none⟩) s.nd.length s.nd.length) ∧ w'.cell? ⟨w6.heap.size, 1, none⟩ = some (.slice (some ⟨go, 0, none⟩) s.op.length s.op.length) ∧ w'.cell? ⟨w6.heap.size, 2, none⟩ = some (.bool s.lg)) (simp [*])
      (first | (go_at_call 9; refine (toBuild_at s a p c d _ (AA.out.below (Below.refl _ _).drew) hl).mono ?_; rintro e v9 ⟨g9, h9, rfl, t9, hb9⟩; replace hb9 := undrew hb9; obtain ⟨hx1, hx2⟩ := bcell hb9; have z1 := hb9.size; have z2 : w.heap.size < v9.heap.size := (by omega); have z3 : w6.heap.size < v9.heap.size := (by omega)) | (go_at_call 13; refine (eqBuild_any s _ _ _ _ _ _ _ _ _ (X0.out.at.below hb9).1 t9.1 (X0.out.at.below hb9).2 t9.2 hl).mono ?_; rintro e wA ⟨rfl, hbA⟩; obtain ⟨hx3, hx4⟩ := bcell hbA))
    have hb := hb9.trans (hbA.mono hb9.size)
    have B5 := Hid.mk' (B5.out.trans (hb.mono B5.out.size))
    have X0 := Hid.mk' (X0.out.below hb)
    have X1 := Hid.mk' (X1.out.below hb)
    have G := Hid.mk' (G.out.below hb)
    clear hb hx1 hx2 hx3 hx4 z1 z2 z3 hb9 hbA t9 x0 x1 x2 x3 p0 p1 p2_ p3 AA
    obtain ⟨c0, c1, c2, c3, c4, c5_⟩ := cells5 (HH.out.below B5.out).bt
    obtain ⟨d0, d1, d2, d3, d4, d5_⟩ := cells5 X1.out.box
    have AB := Hid.mk' (HH.out.below B5.out).st
    go_wp2_with fail

    refine wp_region_held_drew (S := (fun w' => w'.cell? ⟨w7.heap.size, 0, none⟩ = some (.int .i64 t.kd) ∧ w'.cell? ⟨w7.heap.size, 1, none⟩ = some (.int .i64 t.by_) ∧ w'.cell? ⟨w7.heap.size, 2, none⟩ = some (.string t.nm) ∧ w'.cell? ⟨w7.heap.size, 3, none⟩ = some (.slice (some ⟨g7, 0, none⟩) t.at_.length t.at_.length) ∧ w'.cell? ⟨w7.heap.size, 4, none⟩ = some (.bool t.sh) ∧ w'.cell? ⟨w.heap.size + 1, 0, none⟩ = some (.int .i64 t.kd) ∧ w'.cell? ⟨w.heap.size + 1, 1, none⟩ = some (.int .i64 t.by_) ∧ w'.cell? ⟨w.heap.size + 1, 2, none⟩ = some (.string t.nm) ∧ w'.cell? ⟨w.heap.size + 1, 3, none⟩ = some (.slice q t.at_.length c') ∧ w'.cell? ⟨w.heap.size + 1, 4, none⟩ = some (.bool t.sh))) (by kernel_rfl) (by simp [*]) (fun hHeld => ?_)
    refine wpAnyH_take (i := 0) (oi := ⟨_, _, _, _, _, _⟩) (v := ?_) rfl (by kernel_rfl) (by kernel_rfl) (by kernel_rfl) (fun _ _ _ h => h) (Or.inl ⟨by rfl, ?_⟩) (by assumption) ?_
    rotate_left
    · (intro w hSw; (try dsimp only at hSw); go_simp; (try with_reducible rfl))
    try simp only [Act.put, List.setIfInBounds_toArray, List.set_cons_zero, List.set_cons_succ]
    refine wpAnyH_take (i := 1) (oi := ⟨_, _, _, _, _, _⟩) (v := ?_) rfl (by kernel_rfl) (by kernel_rfl) (by kernel_rfl) (fun _ _ _ h => h) (Or.inl ⟨by rfl, ?_⟩) (by assumption) ?_
    rotate_left
    · (intro w hSw; (try dsimp only at hSw); go_simp; (try with_reducible rfl))
    try simp only [Act.put, List.setIfInBounds_toArray, List.set_cons_zero, List.set_cons_succ]
    refine wpAnyH_ready (rs := [2]) (by kernel_rfl) (by simp) ?_
    refine AllReadyH.cons (o := ⟨_, _, _, _, _, _⟩) rfl (fun K hK => ?_) AllReadyH.nil
    go_simp
    go_at_call 10
    refine (toToken_any t q c' wA.drew (AB.out.below (Below.refl _ _).drew) hm).mono ?_
    rintro e v9 ⟨g9, rfl, _, t9, hb⟩
    replace hb := undrew hb
    obtain ⟨hx, hy⟩ := bcell hb
    have O9 := Hid.mk' t9
    have B5 := Hid.mk' (B5.out.trans (hb.mono B5.out.size))
    have X0 := Hid.mk' (X0.out.below hb)
    have X1 := Hid.mk' (X1.out.below hb)
    have G := Hid.mk' (G.out.below hb)
    clear hb t9
    refine hK.out _ _ (by obtain ⟨c0, c1, c2, c3, c4, c5_⟩ := cells5 (HH.out.below B5.out).bt; obtain ⟨d0, d1, d2, d3, d4, d5_⟩ := cells5 X1.out.box; exact ⟨d0, d1, d2, d3, d4, c0, c1, c2, c3, c4⟩) (fun hHeld => ?_)
    clear hK K
    try simp only [Act.put, List.setIfInBounds_toArray, List.set_cons_zero, List.set_cons_succ]
    refine wpAnyH_ready (rs := [3]) (by kernel_rfl) (by simp) ?_
    refine AllReadyH.cons (o := ⟨_, _, _, _, _, _⟩) rfl (fun K hK => ?_) AllReadyH.nil
    go_simp
    go_at_call 14
    refine (eqToken_any t (some ⟨g7, 0, none⟩) (some ⟨g9, 0, none⟩) t.at_.length t.at_.length v9 X1.out.own.at O9.out.at hm).mono ?_
    rintro e wB ⟨rfl, hb⟩
    obtain ⟨hx', hy'⟩ := bcell hb
    have B5 := Hid.mk' (B5.out.trans (hb.mono B5.out.size))
    have X0 := Hid.mk' (X0.out.below hb)
    have X1 := Hid.mk' (X1.out.below hb)
    have G := Hid.mk' (G.out.below hb)
    clear hb
    refine hK.out _ _ (by obtain ⟨c0, c1, c2, c3, c4, c5_⟩ := cells5 (HH.out.below B5.out).bt; obtain ⟨d0, d1, d2, d3, d4, d5_⟩ := cells5 X1.out.box; exact ⟨d0, d1, d2, d3, d4, c0, c1, c2, c3, c4⟩) (fun hHeld => ?_)
    clear hK K
    try simp only [Act.put, List.setIfInBounds_toArray, List.set_cons_zero, List.set_cons_succ]
    refine wpAnyH_take (i := 4) (oi := ⟨_, _, _, _, _, _⟩) (v := ?_) rfl (by kernel_rfl) (by kernel_rfl) (by kernel_rfl) (fun _ _ _ h => h) (Or.inl ⟨by rfl, ?_⟩) (by assumption) ?_
    rotate_left
    · (intro w hSw; (try dsimp only at hSw); go_simp; (try with_reducible rfl))
    try simp only [Act.put, List.setIfInBounds_toArray, List.set_cons_zero, List.set_cons_succ]
    refine wpAnyH_done (by kernel_rfl) ?_ _

    clear c0 c1 c2 c3 c4 c5_ d0 d1 d2 d3 d4 d5_ hHeld
    try clear hx hy hx' hy' AB O9
    obtain ⟨p0, p1, p2_, p3⟩ := cells3 X0.out.box
    go_wp2_with fail
    refine (markBS_bd gn hi go s wB X0.out.nx X0.out.rw_ X0.out.l2 hl).mono ?_
    rintro e wC ⟨⟨z, rfl, z0, z1⟩, hk⟩
    have l6 := L6.out
    have z6 := Z6.out
    have l7 := L7.out
    have z7 := Z7.out
    have l56 := L56.out
    have B5 := Hid.mk' (B5.out.trans (hk.below l6.2 B5.out.size))
    have X1b := Hid.mk' (rowK X1.out.box hk (.inr (by omega)))
    have X1m := Hid.mk' (X1.out.mr.keep (w' := wC) (fun k h1 h2 h3 => hk.block k h3 (.inr (by omega))))
    have G := Hid.mk' (G.out.kept hk (by omega))
    have SC : Hid (w7.heap.size ≤ wC.heap.size) := Hid.mk' (by have := X1b.out.lt; omega)
    clear hk X0 X1 p0 p1 p2_ p3
    obtain ⟨d0, d1, d2, d3, d4, d5_⟩ := cells5 X1b.out
    go_wp2_with fail
    refine (markToken_gen t g7 w7.heap.size t.at_.length z wC X1m.out SC.out hm z0 (by omega)).mono ?_
    rintro e wD ⟨rfl, hk⟩
    have B5 := Hid.mk' (B5.out.trans (hk.below (by have := B5.out.size; omega) B5.out.size))
    have G := Hid.mk' (G.out.kept hk (by omega))
    clear hk X1b X1m SC d0 d1 d2 d3 d4 d5_
    obtain ⟨e0, e1, e2, e3, e4⟩ := cells4 G.out.box
    obtain ⟨k0, k1, k2, k3, k4⟩ := cells4 (rowB RW.out B5.out)
    have kz : ¬ ((z : Int) + (t.at_.length : Int) + (vsz t.at_ : Int) < 0) := by omega
    go_wp2_with fail
    refine (eqBRes_is C R a8 p8 a5 p5 c8 d8 c5 d5 wD G.out.sq.sat (SW.out.below B5.out) nR0 oR0).mono ?_
    rintro e wE ⟨rfl, hb⟩
    have B5 := Hid.mk' (B5.out.trans (hb.mono B5.out.size))
    have G := Hid.mk' (G.out.below hb)
    clear hb e0 e1 e2 e3 e4 k0 k1 k2 k3 k4 kz
    obtain ⟨e0, e1, e2, e3, e4⟩ := cells4 G.out.box
    go_wp2_with fail
    refine (markBRes_is C τ8 W7.heap.size (.slice a8 R.nd.length c8) (.slice p8 R.op.length d8) R va8 vt8 us8 wE G.out.sq (fun k hk => G.out.cap k (by have := G.out.box.lt; omega)) (by have := G.out.box.lt; have := G.out.lq; omega) (by omega) oR0).mono ?_
    rintro e wF ⟨rfl, q15, kp⟩
    have hk : KeptIn W7.heap.size w8.heap.size wE wF := kp.keptIn (fun k e => G.out.cap k (by omega))
    have GF : Hid (GP W7.heap.size w8.heap.size τ8 (.slice a8 R.nd.length c8) (.slice p8 R.op.length d8) va8 vt8 us8 C R.lg (mkSt 1 R) wF) := Hid.mk' ⟨rowK G.out.box hk (.inr (Nat.le_refl _)), q15, G.out.cap, G.out.lq⟩
    have B5 := Hid.mk' (B5.out.trans (hk.below (by omega) B5.out.size))
    have zm : ¬ (((1 + cnN R.nd : Nat) : Int) + (R.op.length : Int) < 0) := by omega
    clear q15 kp hk G e0 e1 e2 e3 e4
    obtain ⟨e0, e1, e2, e3, e4⟩ := cells4 GF.out.box
    go_wp2_with fail
    refine (heldBRes_is C R a8 p8 c8 d8 wF GF.out.sq.sat (by omega) oR0).mono ?_
    rintro e wG ⟨rfl, hb⟩
    have B5 := Hid.mk' (B5.out.trans (hb.mono B5.out.size))
    have GF := Hid.mk' (GF.out.below hb)
    clear hb e0 e1 e2 e3 e4
    obtain ⟨x0, x1, x2, x3⟩ := cells3 (HH.out.below B5.out).bx
    obtain ⟨y0, y1, y2, y3, y4, y5⟩ := cells5 (HH.out.below B5.out).bt
    have AA := Hid.mk' (HH.out.below B5.out).sx
    have AB := Hid.mk' (HH.out.below B5.out).st
    go_wp2

    have n1 : ¬ wG.heap.size = w.heap.size := by omega
    have n2 : ¬ wG.heap.size = w.heap.size + 1 := by omega
    have n3 : ¬ w.heap.size = wG.heap.size := by omega
    have n5 : ¬ w.heap.size + 1 = wG.heap.size := by omega
    go_region_held3 (fun w' => w'.cell? ⟨w.heap.size, 0, none⟩ = some (.slice a s.nd.length c) ∧ w'.cell? ⟨w.heap.size, 1, none⟩ = some (.slice p s.op.length d) ∧ w'.cell? ⟨w.heap.size, 2, none⟩ = some (.bool s.lg) ∧ w'.cell? ⟨w.heap.size + 1, 0, none⟩ = some (.int .i64 t.kd) ∧ w'.cell? ⟨w.heap.size + 1, 1, none⟩ = some (.int .i64 t.by_) ∧ w'.cell? ⟨w.heap.size + 1, 2, none⟩ = some (.string t.nm) ∧ w'.cell? ⟨w.heap.size + 1, 3, none⟩ = some (.slice q t.at_.length c') ∧ w'.cell? ⟨w.heap.size + 1, 4, none⟩ = some (.bool t.sh)) (go_keep)
      (first | (go_at_call 9; refine (toBuild_at s a p c d _ (by first | exact AA.out.below (Below.refl _ _).drew | exact (AA.out.below (Below.refl _ _).drew).below (below_new _ _)) hl).mono ?_; rintro e v3 ⟨g3, h3, rfl, t3, hb3⟩; have hb3r := hb3; replace hb3 : Below wG.heap.size wG v3 := (by first | exact undrew hb3 | exact undrew ((below_new _ _).trans (hb3.mono (below_new _ _).size))); obtain ⟨hx1, hx2⟩ := bcell hb3; have z1 := hb3.size; have z2 : w.heap.size < v3.heap.size := (by omega); have z3 : w.heap.size + 1 < v3.heap.size := (by omega); have zz1 : ¬ v3.heap.size = w.heap.size := (by omega); have zz2 : ¬ v3.heap.size = w.heap.size + 1 := (by omega); have zz3 : ¬ w.heap.size = v3.heap.size := (by omega); have zz4 : ¬ w.heap.size + 1 = v3.heap.size := (by omega)) | (go_at_call 10; refine (toToken_any t q c' _ (by first | exact AB.out.below hb3 | exact (AB.out.below hb3).below (below_new _ _)) hm).mono ?_; rintro e v4 ⟨g4, rfl, _, t4, hb4⟩; have hb4r := hb4; replace hb4 : Below v3.heap.size v3 v4 := (by first | exact hb4 | exact (below_new _ _).trans (hb4.mono (below_new _ _).size)); obtain ⟨hx3, hx4⟩ := bcell hb4; have z4 := hb4.size; have z5 : w.heap.size < v4.heap.size := (by omega); have z6 : w.heap.size + 1 < v4.heap.size := (by omega); have zy1 : ¬ v4.heap.size = w.heap.size := (by omega); have zy2 : ¬ v4.heap.size = w.heap.size + 1 := (by omega); have zy3 : ¬ w.heap.size = v4.heap.size := (by omega); have zy4 : ¬ w.heap.size + 1 = v4.heap.size := (by omega)) | (go_at_call 11; refine (KI0.out _ _ _ _ _ _ _ (by first | exact t3.below hb4 | exact (t3.below hb4).below (below_new _ _)) (by first | exact t4.at | exact (t4.below (below_new _ _)).at)).mono ?_; rintro e wH ⟨τH, vnH, voH, vaH, vtH, usH, rfl, qH, capH, hbH⟩; have hbHr := hbH; replace hbH : Below v4.heap.size v4 wH := (by first | exact hbH | exact (below_new _ _).trans (hbH.mono (below_new _ _).size)); obtain ⟨aH, cH, pH, dH, rfl, rfl, sH⟩ := qH.at; obtain ⟨hx5, hx6⟩ := bcell hbH; have z7 := hbH.size; have z8 : ¬ wH.heap.size = w.heap.size := (by omega); have z9 : ¬ wH.heap.size = w.heap.size + 1 := (by omega); have zx3 : ¬ w.heap.size = wH.heap.size := (by omega); have zx4 : ¬ w.heap.size + 1 = wH.heap.size := (by omega); try (first | (have RZ : wH.rowIs v4.heap.size 35 4 (r4 (.int .i64 0) (.slice none 0 0) (.slice none 0 0) (.bool false)) := rowB (row4 v4 35 (.int .i64 0) (.slice none 0 0) (.slice none 0 0) (.bool false)) hbHr; obtain ⟨b0, b1, b2, b3, b4⟩ := cells4 RZ; obtain ⟨f0, f1, f2, f3⟩ := frz4 RZ; clear RZ) | (have RZ : wH.rowIs v3.heap.size 35 4 (r4 (.int .i64 0) (.slice none 0 0) (.slice none 0 0) (.bool false)) := rowB (rowB (row4 v3 35 (.int .i64 0) (.slice none 0 0) (.slice none 0 0) (.bool false)) hb4r) hbH; obtain ⟨b0, b1, b2, b3, b4⟩ := cells4 RZ; obtain ⟨f0, f1, f2, f3⟩ := frz4 RZ; clear RZ) | (have RZ : wH.rowIs wG.heap.size 35 4 (r4 (.int .i64 0) (.slice none 0 0) (.slice none 0 0) (.bool false)) := rowB (rowB (rowB (row4 wG.drew 35 (.int .i64 0) (.slice none 0 0) (.slice none 0 0) (.bool false)) hb3r) hb4) hbH; obtain ⟨b0, b1, b2, b3, b4⟩ := cells4 RZ; obtain ⟨f0, f1, f2, f3⟩ := frz4 RZ; clear RZ))))
    all_goals
      have hb35 : Below wG.heap.size wG wH := (hb3.trans (hb4.mono hb3.size)).trans (hbH.mono (Nat.le_trans hb3.size hb4.size))
      first
        | (obtain ⟨BX, RX, QX⟩ := finA (ty := 35) (cc := .int .i64 C) (lg := .bool R.lg) hb35 hb35.size qH
           generalize hWH : wH.alloc (.cells #[.int .i64 C, .slice aH R.nd.length cH, .slice pH R.op.length dH, .bool R.lg] 35) = WH at *
           rw [← hWH]
           rw [hWH])
        | (obtain ⟨BX, RX, QX⟩ := fin4 (b := v4.heap.size) (ty := 35) (cc := .int .i64 C) (lg := .bool R.lg) hb35 (by omega) qH (capH _ (by simp; intro hh; omega)) (rowB (row4 v4 35 (.int .i64 0) (.slice none 0 0) (.slice none 0 0) (.bool false)) hbHr)
           generalize hWH : ((((wH.setCell ⟨v4.heap.size, 0, none⟩ (.int .i64 C)).setCell ⟨v4.heap.size, 1, none⟩ (.slice aH R.nd.length cH)).setCell ⟨v4.heap.size, 2, none⟩ (.slice pH R.op.length dH)).setCell ⟨v4.heap.size, 3, none⟩ (.bool R.lg)) = WH at *
           rw [← hWH]
           rw [hWH])
        | (obtain ⟨BX, RX, QX⟩ := fin4 (b := v3.heap.size) (ty := 35) (cc := .int .i64 C) (lg := .bool R.lg) hb35 (by omega) qH (capH _ (by have := hb4r.size; simp at this; omega)) (rowB (rowB (row4 v3 35 (.int .i64 0) (.slice none 0 0) (.slice none 0 0) (.bool false)) hb4r) hbH)
           generalize hWH : ((((wH.setCell ⟨v3.heap.size, 0, none⟩ (.int .i64 C)).setCell ⟨v3.heap.size, 1, none⟩ (.slice aH R.nd.length cH)).setCell ⟨v3.heap.size, 2, none⟩ (.slice pH R.op.length dH)).setCell ⟨v3.heap.size, 3, none⟩ (.bool R.lg)) = WH at *
           rw [← hWH]
           rw [hWH])
        | (obtain ⟨BX, RX, QX⟩ := fin4 (b := wG.heap.size) (ty := 35) (cc := .int .i64 C) (lg := .bool R.lg) hb35 (Nat.le_refl _) qH (capH _ (by have := hb3r.size; simp at this; omega)) (rowB (rowB (rowB (row4 wG.drew 35 (.int .i64 0) (.slice none 0 0) (.slice none 0 0) (.bool false)) hb3r) hb4) hbH)
           generalize hWH : ((((wH.setCell ⟨wG.heap.size, 0, none⟩ (.int .i64 C)).setCell ⟨wG.heap.size, 1, none⟩ (.slice aH R.nd.length cH)).setCell ⟨wG.heap.size, 2, none⟩ (.slice pH R.op.length dH)).setCell ⟨wG.heap.size, 3, none⟩ (.bool R.lg)) = WH at *
           rw [← hWH]
           rw [hWH])
      clear hx1 hx2 hx3 hx4 hx5 hx6 z1 z2 z3 z4 z5 z6 z7 z8 z9 zx3 zx4 zy1 zy2 zy3 zy4 zz1 zz2 zz3 zz4 n1 n2 n3 n5 t3 t4 hb3 hb4 hbH hb3r hb4r hbHr x0 x1 x2 x3 y0 y1 y2 y3 y4 y5 AA AB KI0 qH capH sH hb35
      try clear b0 b1 b2 b3 b4 f0 f1 f2 f3

      have B5 := Hid.mk' (B5.out.trans (BX.mono B5.out.size))
      have GF := Hid.mk' (GF.out.below BX)
      have RHh := Hid.mk' RX
      have SH := Hid.mk' QX.sat
      clear BX RX QX
      obtain ⟨e0, e1, e2, e3, e4⟩ := cells4 RHh.out
      obtain ⟨k0, k1, k2, k3, k4⟩ := cells4 (rowB RW.out B5.out)
      go_wp2_with fail
      clear hWH
      refine (eqBRes_is C R aH pH a5 p5 cH dH c5 d5 WH SH.out (SW.out.below B5.out) nR0 oR0).mono ?_
      rintro e wI ⟨rfl, hb⟩
      have B5 := Hid.mk' (B5.out.trans (hb.mono B5.out.size))
      have GF := Hid.mk' (GF.out.below hb)
      clear hb e0 e1 e2 e3 e4 k0 k1 k2 k3 k4
      obtain ⟨e0, e1, e2, e3, e4⟩ := cells4 GF.out.box
      go_wp2_with fail
      refine (heldBRes_is C R a8 p8 c8 d8 wI GF.out.sq.sat (by omega) oR0).mono ?_
      rintro e wJ ⟨rfl, hb⟩
      have B5 := Hid.mk' (B5.out.trans (hb.mono B5.out.size))
      clear hb e0 e1 e2 e3 e4
      go_wp2
      go_ret
      exact ⟨rfl, HB.out.trans (B5.out.mono HB.out.size)⟩

end Go.Proofs.YtpncbcmngfpkfaaGreat
