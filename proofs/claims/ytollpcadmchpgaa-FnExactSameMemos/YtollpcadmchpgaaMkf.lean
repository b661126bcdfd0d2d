/- The law on SameMemos. -/
import Derived.Test.YtollpcadmchpgaaMke
namespace Go.Proofs.Ytollpcadmchpgaa
open Go.RowKit
set_option linter.unusedVariables false
set_option linter.unusedSimpArgs false

/-- What the law on SameMemos holds on to. -/
structure HoldM (w : World) (m n : ME) (a t u c a2 t2 u2 c2 : Option Addr) (ca ct cu cc da dt du dc : Nat) (wi : World) : Prop where
  bl : Below w.heap.size w wi
  r1 : wi.rowIs w.heap.size 26 5 (r5 (.slice a m.dt.length ca) (.int .i64 m.st) (.slice t m.tk.length ct) (.slice u m.hd.length cu) (.slice c m.cs.length cc))
  r2 : wi.rowIs (w.heap.size + 1) 26 5 (r5 (.slice a2 n.dt.length da) (.int .i64 n.st) (.slice t2 n.tk.length dt) (.slice u2 n.hd.length du) (.slice c2 n.cs.length dc))
  m1 : MAt wi a t u c m
  m2 : MAt wi a2 t2 u2 c2 n

theorem HoldM.below {w : World} {m n : ME} {a t u c a2 t2 u2 c2 : Option Addr} {ca ct cu cc da dt du dc : Nat} {wi wj : World} (x : HoldM w m n a t u c a2 t2 u2 c2 ca ct cu cc da dt du dc wi) (hb : Below wi.heap.size wi wj) : HoldM w m n a t u c a2 t2 u2 c2 ca ct cu cc da dt du dc wj :=
  ⟨x.bl.trans (hb.mono x.bl.size), rowB x.r1 hb, rowB x.r2 hb, x.m1.below hb, x.m2.below hb⟩

/-- A memo at four blocks. -/
abbrev M4 (w : World) (g h i j : Nat) (m : ME) : Prop := MAt w (some ⟨g, 0, none⟩) (some ⟨h, 0, none⟩) (some ⟨i, 0, none⟩) (some ⟨j, 0, none⟩) m


set_option maxRecDepth 100000 in
set_option maxHeartbeats 8000000 in
theorem lawSM_any (m : ME) (a t u c : Option Addr) (ca ct cu cc : Nat) (n : ME) (a2 t2 u2 c2 : Option Addr) (da dt du dc : Nat) (w : World) (ha : MAt w a t u c m) (wa : WideM m) (hb : MAt w a2 t2 u2 c2 n) (wb : WideM n) :
    Calls Try.prog 3 #[.agg #[.slice a m.dt.length ca, .int .i64 m.st, .slice t m.tk.length ct, .slice u m.hd.length cu, .slice c m.cs.length cc], .agg #[.slice a2 n.dt.length da, .int .i64 n.st, .slice t2 n.tk.length dt, .slice u2 n.hd.length du, .slice c2 n.cs.length dc]] w fun e w' => e = .returned (.bool true) ∧ Below w.heap.size w w' := by
  obtain ⟨B0, R1, R2⟩ := two5 w 26 (.slice a m.dt.length ca) (.int .i64 m.st) (.slice t m.tk.length ct) (.slice u m.hd.length cu) (.slice c m.cs.length cc) (.slice a2 n.dt.length da) (.int .i64 n.st) (.slice t2 n.tk.length dt) (.slice u2 n.hd.length du) (.slice c2 n.cs.length dc)
  have H0 : HoldM w m n a t u c a2 t2 u2 c2 ca ct cu cc da dt du dc _ := ⟨B0, R1, R2, ha.below B0, hb.below B0⟩
  have KS := szMemo_any m a t u c ca ct cu cc 1048576 _ (ha.below B0) wa (by omega) (by omega)
  have HH := Hid.mk' H0
  have WB := Hid.mk' wb
  clear B0 R1 R2 ha hb H0 wa wb
  by_cases g1 : (1048576 : Int) < msz m
  · rw [if_pos g1] at KS
    have KS := Hid.mk' KS
    generalize hW : (w.alloc (.cells #[.slice a m.dt.length ca, .int .i64 m.st, .slice t m.tk.length ct, .slice u m.hd.length cu, .slice c m.cs.length cc] 26)).alloc (.cells #[.slice a2 n.dt.length da, .int .i64 n.st, .slice t2 n.tk.length dt, .slice u2 n.hd.length du, .slice c2 n.cs.length dc] 26) = W at *
    obtain ⟨x0, x1, x2, x3, x4, x5⟩ := cells5 HH.out.r1
    go_enter Try.func3, Try.ntmps3
    go_wp2_with fail
    clear hW
    refine KS.out.mono ?_
    rintro e w1 ⟨rfl, hb1⟩
    have HB := Hid.mk' (HH.out.below hb1).bl
    clear hb1 KS
    go_wp2
    go_ret
    exact ⟨rfl, HB.out⟩
  rw [if_neg g1] at KS
  have KS := Hid.mk' KS
  have zz : ¬ (1048576 - (msz m : Int) < 0) := by omega
  have hl : (msz m : Int) ≤ 1048576 := by omega
  clear g1
  generalize hW : (w.alloc (.cells #[.slice a m.dt.length ca, .int .i64 m.st, .slice t m.tk.length ct, .slice u m.hd.length cu, .slice c m.cs.length cc] 26)).alloc (.cells #[.slice a2 n.dt.length da, .int .i64 n.st, .slice t2 n.tk.length dt, .slice u2 n.hd.length du, .slice c2 n.cs.length dc] 26) = W at *
  obtain ⟨x0, x1, x2, x3, x4, x5⟩ := cells5 HH.out.r1
  go_enter Try.func3, Try.ntmps3
  go_wp2_with fail
  clear hW
  refine KS.out.mono ?_
  rintro e w1 ⟨rfl, hb1⟩
  have HH := Hid.mk' (HH.out.below hb1)
  clear hb1 KS x0 x1 x2 x3 x4 x5
  have KT := szMemo_any n a2 t2 u2 c2 da dt du dc (1048576 - (msz m : Int)) w1 HH.out.m2 WB.out (by omega) (by omega)
  obtain ⟨y0, y1, y2, y3, y4, y5⟩ := cells5 HH.out.r2
  by_cases g2 : 1048576 - (msz m : Int) < (msz n : Int)
  · rw [if_pos g2] at KT
    have KT := Hid.mk' KT
    go_wp2_with fail
    refine KT.out.mono ?_
    rintro e w2 ⟨rfl, hb2⟩
    have HB := Hid.mk' (HH.out.below hb2).bl
    clear hb2 KT
    go_wp2
    go_ret
    exact ⟨rfl, HB.out⟩
  rw [if_neg g2] at KT
  have KT := Hid.mk' KT
  have zy : ¬ (1048576 - (msz m : Int) - msz n < 0) := by omega
  have hm : (msz n : Int) ≤ 1048576 := by omega
  clear g2
  go_wp2_with fail
  refine KT.out.mono ?_
  rintro e w2 ⟨rfl, hb2⟩
  have HH := Hid.mk' (HH.out.below hb2)
  clear hb2 KT y0 y1 y2 y3 y4 y5
  obtain ⟨x0, x1, x2, x3, x4, x5⟩ := cells5 HH.out.r1
  obtain ⟨y0, y1, y2, y3, y4, y5⟩ := cells5 HH.out.r2
  have AA := Hid.mk' (HH.out.m1)
  have AB := Hid.mk' (HH.out.m2)
  go_wp2
  clear zz zy
  go_region_held3 (fun w' => w'.cell? ⟨w.heap.size, 0, none⟩ = some (.slice a m.dt.length ca) ∧ w'.cell? ⟨w.heap.size, 1, none⟩ = some (.int .i64 m.st) ∧ w'.cell? ⟨w.heap.size, 2, none⟩ = some (.slice t m.tk.length ct) ∧ w'.cell? ⟨w.heap.size, 3, none⟩ = some (.slice u m.hd.length cu) ∧ w'.cell? ⟨w.heap.size, 4, none⟩ = some (.slice c m.cs.length cc) ∧ w'.cell? ⟨w.heap.size + 1, 0, none⟩ = some (.slice a2 n.dt.length da) ∧ w'.cell? ⟨w.heap.size + 1, 1, none⟩ = some (.int .i64 n.st) ∧ w'.cell? ⟨w.heap.size + 1, 2, none⟩ = some (.slice t2 n.tk.length dt) ∧ w'.cell? ⟨w.heap.size + 1, 3, none⟩ = some (.slice u2 n.hd.length du) ∧ w'.cell? ⟨w.heap.size + 1, 4, none⟩ = some (.slice c2 n.cs.length dc)) (simp [*])
    (first | (go_at_call_of 6 (Value.agg #[.slice a m.dt.length ca, .int .i64 m.st, .slice t m.tk.length ct, .slice u m.hd.length cu, .slice c m.cs.length cc]); refine (toMemo_any m a t u c ca ct cu cc _ (AA.out.below (Below.refl _ _).drew) hl).mono ?_; rintro e w3 ⟨g3, h3, i3, j3, rfl, t3, hb3⟩; replace hb3 := undrew hb3; obtain ⟨hx1, hx2⟩ := bcell hb3; have z1 := hb3.size; have z2 : w.heap.size < w3.heap.size := (by omega); have z3 : w.heap.size + 1 < w3.heap.size := (by omega)) | (go_at_call_of 6 (Value.agg #[.slice a2 n.dt.length da, .int .i64 n.st, .slice t2 n.tk.length dt, .slice u2 n.hd.length du, .slice c2 n.cs.length dc]); refine (toMemo_any n a2 t2 u2 c2 da dt du dc _ (AB.out.below hb3) hm).mono ?_; rintro e w4 ⟨g4, h4, i4, j4, rfl, t4, hb4⟩; obtain ⟨hx3, hx4⟩ := bcell hb4; have z4 := hb4.size; have z5 : w.heap.size < w4.heap.size := (by omega); have z6 : w.heap.size + 1 < w4.heap.size := (by omega)) | (go_at_call 5; refine (specSM_any m n _ _ _ _ _ _ _ _ _ _ _ _ _ _ _ _ _ (t3.below hb4) t4 hl hm).mono ?_; rintro e w5 ⟨rfl, hb5⟩; obtain ⟨hx5, hx6⟩ := bcell hb5))
  have H5 := Hid.mk' (((HH.out.below hb3).below hb4).below hb5)
  clear hx1 hx2 hx3 hx4 hx5 hx6 z1 z2 z3 z4 z5 z6 t3 t4 hb3 hb4 hb5 HH x0 x1 x2 x3 x4 x5 y0 y1 y2 y3 y4 y5 AA AB
  obtain ⟨x0, x1, x2, x3, x4, x5⟩ := cells5 H5.out.r1
  obtain ⟨y0, y1, y2, y3, y4, y5⟩ := cells5 H5.out.r2
  go_wp2_with fail
  refine (toMemo_any m a t u c ca ct cu cc _ H5.out.m1 hl).mono ?_
  rintro e w6 ⟨g6, h6, i6, j6, rfl, t6, hb6⟩
  have N6 := below_new w6 (.cells #[.slice (some ⟨g6, 0, none⟩) m.dt.length m.dt.length, .int .i64 m.st, .slice (some ⟨h6, 0, none⟩) m.tk.length m.tk.length, .slice (some ⟨i6, 0, none⟩) m.hd.length m.hd.length, .slice (some ⟨j6, 0, none⟩) m.cs.length m.cs.length] 32)
  have H6 := Hid.mk' ((H5.out.below hb6).below N6)
  have T6 := Hid.mk' (t6.below N6)
  have Q6 := Hid.mk' (row5 w6 32 (.slice (some ⟨g6, 0, none⟩) m.dt.length m.dt.length) (.int .i64 m.st) (.slice (some ⟨h6, 0, none⟩) m.tk.length m.tk.length) (.slice (some ⟨i6, 0, none⟩) m.hd.length m.hd.length) (.slice (some ⟨j6, 0, none⟩) m.cs.length m.cs.length))
  clear H5 hb6 t6 N6 x0 x1 x2 x3 x4 x5 y0 y1 y2 y3 y4 y5
  generalize hW6 : w6.alloc (.cells #[.slice (some ⟨g6, 0, none⟩) m.dt.length m.dt.length, .int .i64 m.st, .slice (some ⟨h6, 0, none⟩) m.tk.length m.tk.length, .slice (some ⟨i6, 0, none⟩) m.hd.length m.hd.length, .slice (some ⟨j6, 0, none⟩) m.cs.length m.cs.length] 32) = W6 at *
  obtain ⟨x0, x1, x2, x3, x4, x5⟩ := cells5 H6.out.r1
  obtain ⟨y0, y1, y2, y3, y4, y5⟩ := cells5 H6.out.r2
  go_wp2_with fail
  clear hW6
  refine (toMemo_any n a2 t2 u2 c2 da dt du dc _ H6.out.m2 hm).mono ?_
  rintro e w7 ⟨g7, h7, i7, j7, rfl, t7, hb7⟩
  have N7 := below_new w7 (.cells #[.slice (some ⟨g7, 0, none⟩) n.dt.length n.dt.length, .int .i64 n.st, .slice (some ⟨h7, 0, none⟩) n.tk.length n.tk.length, .slice (some ⟨i7, 0, none⟩) n.hd.length n.hd.length, .slice (some ⟨j7, 0, none⟩) n.cs.length n.cs.length] 32)
  have H7 := Hid.mk' ((H6.out.below hb7).below N7)
  have T7 := Hid.mk' (t7.below N7)
  have U7 := Hid.mk' ((T6.out.below hb7).below N7)
  have Q7 := Hid.mk' (row5 w7 32 (.slice (some ⟨g7, 0, none⟩) n.dt.length n.dt.length) (.int .i64 n.st) (.slice (some ⟨h7, 0, none⟩) n.tk.length n.tk.length) (.slice (some ⟨i7, 0, none⟩) n.hd.length n.hd.length) (.slice (some ⟨j7, 0, none⟩) n.cs.length n.cs.length))
  have P7 := Hid.mk' (rowB (rowB Q6.out hb7) N7)
  clear H6 T6 Q6 hb7 t7 N7 x0 x1 x2 x3 x4 x5 y0 y1 y2 y3 y4 y5
  generalize hW7 : w7.alloc (.cells #[.slice (some ⟨g7, 0, none⟩) n.dt.length n.dt.length, .int .i64 n.st, .slice (some ⟨h7, 0, none⟩) n.tk.length n.tk.length, .slice (some ⟨i7, 0, none⟩) n.hd.length n.hd.length, .slice (some ⟨j7, 0, none⟩) n.cs.length n.cs.length] 32) = W7 at *
  obtain ⟨x0, x1, x2, x3, x4, x5⟩ := cells5 P7.out
  obtain ⟨y0, y1, y2, y3, y4, y5⟩ := cells5 Q7.out
  go_wp2_with fail
  clear hW7
  refine (implSM_any m n _ _ _ _ _ _ _ _ _ _ _ _ _ _ _ _ _ U7.out T7.out hl hm).mono ?_
  rintro e w8 ⟨rfl, hb8⟩
  have H8 := Hid.mk' (H7.out.below hb8)
  have T8 := Hid.mk' (T7.out.below hb8)
  have U8 := Hid.mk' (U7.out.below hb8)
  have Q8 := Hid.mk' (rowB Q7.out hb8)
  have P8 := Hid.mk' (rowB P7.out hb8)
  clear H7 T7 U7 Q7 P7 hb8 x0 x1 x2 x3 x4 x5 y0 y1 y2 y3 y4 y5
  generalize sameM m n = sm at *
  obtain ⟨x0, x1, x2, x3, x4, x5⟩ := cells5 H8.out.r1
  obtain ⟨y0, y1, y2, y3, y4, y5⟩ := cells5 P8.out
  have AA := Hid.mk' (H8.out.m1)
  go_wp2
  go_region_held3 (fun w' => w'.cell? ⟨w.heap.size, 0, none⟩ = some (.slice a m.dt.length ca) ∧ w'.cell? ⟨w.heap.size, 1, none⟩ = some (.int .i64 m.st) ∧ w'.cell? ⟨w.heap.size, 2, none⟩ = some (.slice t m.tk.length ct) ∧ w'.cell? ⟨w.heap.size, 3, none⟩ = some (.slice u m.hd.length cu) ∧ w'.cell? ⟨w.heap.size, 4, none⟩ = some (.slice c m.cs.length cc) ∧ w'.cell? ⟨w6.heap.size, 0, none⟩ = some (.slice (some ⟨g6, 0, none⟩) m.dt.length m.dt.length) ∧ w'.cell? ⟨w6.heap.size, 1, none⟩ = some (.int .i64 m.st) ∧ w'.cell? ⟨w6.heap.size, 2, none⟩ = some (.slice (some ⟨h6, 0, none⟩) m.tk.length m.tk.length) ∧ w'.cell? ⟨w6.heap.size, 3, none⟩ = some (.slice (some ⟨i6, 0, none⟩) m.hd.length m.hd.length) ∧ w'.cell? ⟨w6.heap.size, 4, none⟩ = some (.slice (some ⟨j6, 0, none⟩) m.cs.length m.cs.length)) (simp [*])
    (first | (go_at_call 6; refine (toMemo_any m a t u c ca ct cu cc _ (AA.out.below (Below.refl _ _).drew) hl).mono ?_; rintro e w9 ⟨g9, h9, i9, j9, rfl, t9, hb9⟩; replace hb9 := undrew hb9; obtain ⟨hx1, hx2⟩ := bcell hb9; have z1 := hb9.size; have z2 : w.heap.size < w9.heap.size := (by omega); have z3 : w6.heap.size < w9.heap.size := (by omega)) | (go_at_call 8; refine (eqMemo_any m _ _ _ _ _ _ _ _ _ _ _ _ _ _ _ _ _ (U8.out.below hb9) t9 hl).mono ?_; rintro e wA ⟨rfl, hbA⟩; obtain ⟨hx3, hx4⟩ := bcell hbA))
  have HA := Hid.mk' ((H8.out.below hb9).below hbA)
  have TA := Hid.mk' ((T8.out.below hb9).below hbA)
  have QA := Hid.mk' (rowB (rowB Q8.out hb9) hbA)
  clear hx1 hx2 hx3 hx4 z1 z2 z3 hb9 hbA t9 H8 T8 U8 P8 Q8 x0 x1 x2 x3 x4 x5 y0 y1 y2 y3 y4 y5 AA
  obtain ⟨x0, x1, x2, x3, x4, x5⟩ := cells5 HA.out.r2
  obtain ⟨y0, y1, y2, y3, y4, y5⟩ := cells5 QA.out
  have AB := Hid.mk' (HA.out.m2)
  go_wp2
  go_region_held3 (fun w' => w'.cell? ⟨w.heap.size + 1, 0, none⟩ = some (.slice a2 n.dt.length da) ∧ w'.cell? ⟨w.heap.size + 1, 1, none⟩ = some (.int .i64 n.st) ∧ w'.cell? ⟨w.heap.size + 1, 2, none⟩ = some (.slice t2 n.tk.length dt) ∧ w'.cell? ⟨w.heap.size + 1, 3, none⟩ = some (.slice u2 n.hd.length du) ∧ w'.cell? ⟨w.heap.size + 1, 4, none⟩ = some (.slice c2 n.cs.length dc) ∧ w'.cell? ⟨w7.heap.size, 0, none⟩ = some (.slice (some ⟨g7, 0, none⟩) n.dt.length n.dt.length) ∧ w'.cell? ⟨w7.heap.size, 1, none⟩ = some (.int .i64 n.st) ∧ w'.cell? ⟨w7.heap.size, 2, none⟩ = some (.slice (some ⟨h7, 0, none⟩) n.tk.length n.tk.length) ∧ w'.cell? ⟨w7.heap.size, 3, none⟩ = some (.slice (some ⟨i7, 0, none⟩) n.hd.length n.hd.length) ∧ w'.cell? ⟨w7.heap.size, 4, none⟩ = some (.slice (some ⟨j7, 0, none⟩) n.cs.length n.cs.length)) (simp [*])
    (first | (go_at_call 6; refine (toMemo_any n a2 t2 u2 c2 da dt du dc _ (AB.out.below (Below.refl _ _).drew) hm).mono ?_; rintro e w9 ⟨g9, h9, i9, j9, rfl, t9, hb9⟩; replace hb9 := undrew hb9; obtain ⟨hx1, hx2⟩ := bcell hb9; have z1 := hb9.size; have z2 : w.heap.size + 1 < w9.heap.size := (by omega); have z3 : w7.heap.size < w9.heap.size := (by omega)) | (go_at_call 8; refine (eqMemo_any n _ _ _ _ _ _ _ _ _ _ _ _ _ _ _ _ _ (TA.out.below hb9) t9 hm).mono ?_; rintro e wB ⟨rfl, hbB⟩; obtain ⟨hx3, hx4⟩ := bcell hbB))
  have HB := Hid.mk' ((HA.out.below hb9).below hbB)
  clear hx1 hx2 hx3 hx4 z1 z2 z3 hb9 hbB t9 HA TA QA x0 x1 x2 x3 x4 x5 y0 y1 y2 y3 y4 y5 AB
  go_wp2
  go_ret
  exact ⟨rfl, HB.out.bl⟩

end Go.Proofs.Ytollpcadmchpgaa
