/- Faults of memos: the program's side. -/
import Derived.Test.YtieeojhdidjnaaaGreatDoorK27
import Derived.Test.YtieeojhdidjnaaaGreatDoorK24
import Derived.Test.YtieeojhdidjnaaaGreatDoorK17
import Derived.Test.YtieeojhdidjnaaaGreatDoorK9
import Derived.Test.YtieeojhdidjnaaaGreatDoorK3
set_option linter.unusedVariables false
set_option linter.unusedSimpArgs false
namespace Go.Proofs.YtieeojhdidjnaaaGreatDoor
open Go.RowKit

theorem takeM_all (d : List Int) (s : Nat) (hs : 1 ≤ s) : d.take ((d.length / s + 1) * s) = d := List.take_of_length_le (by
  have h1 := Nat.div_add_mod d.length s
  have h2 := Nat.mod_lt d.length (show 0 < s by omega)
  rw [Nat.add_mul, Nat.mul_comm (d.length / s)]; omega)

theorem NM.at {base : Nat} {d : List Int} {s : Nat} {gd gc : Nat} {tv : Value} {hvs : Nat → Value} {us : List Value} {rs : Nat → List Value} {bl bh : Nat → Nat} {w : World} (x : NM base d s gd gc tv hvs us rs bl bh w) (hs : 1 ≤ s) : ∃ ta tc ha hc, tv = .slice ta (allX [] [] d).1.length tc ∧ hvs (d.length / s + 1) = .slice ha (allX [] [] d).2.length hc ∧ MAt w (some ⟨gd, 0, none⟩) ta ha (some ⟨gc, 0, none⟩) (memX d s) := by
  obtain ⟨ta, tc, e1, b1⟩ := x.rx.tp.tsAtN
  obtain ⟨ha, hc, e2, b2⟩ := own_bat (x.rx.own (d.length / s + 1) (Nat.le_refl _))
  have et1 : tkN d s (d.length / s + 1) = (allX [] [] d).1 := by show (allX [] [] (d.take _)).1 = _; rw [takeM_all d s hs]
  have et2 : hdN d s (d.length / s + 1) = (allX [] [] d).2 := by show (allX [] [] (d.take _)).2 = _; rw [takeM_all d s hs]
  rw [et1] at e1 b1
  rw [et2] at e2 b2
  refine ⟨ta, tc, ha, hc, e1, e2, .of_row x.dt, b1, b2, ?_⟩
  show CsAt w (some ⟨gc, 0, none⟩) (cksN d s (d.length / s + 1))
  refine .inr ⟨gc, 0, rfl, x.ck.lt, fun k hk => ?_⟩
  rw [cksN_len] at hk
  rw [cksN_at d s _ k hk]
  have v0 := x.ck.cell (i := k * 3) (by omega)
  have v1 := x.ck.cell (i := k * 3 + 1) (by omega)
  have v2 := x.ck.cell (i := k * 3 + 2) (by omega)
  unfold ckV at v0 v1 v2
  rw [show k * 3 / 3 = k by omega, show k * 3 % 3 = 0 by omega, if_pos hk] at v0
  rw [show (k * 3 + 1) / 3 = k by omega, show (k * 3 + 1) % 3 = 1 by omega, if_pos hk] at v1
  rw [show (k * 3 + 2) / 3 = k by omega, show (k * 3 + 2) % 3 = 2 by omega, if_pos hk] at v2
  obtain ⟨p, q, e, b⟩ := own_bat (x.rx.own k (by omega))
  refine ⟨by rw [Nat.zero_add]; exact v0, by rw [Nat.zero_add]; exact v1, p, q, ?_, b⟩
  rw [Nat.zero_add, v2]
  show some (hvs k) = _
  rw [e]; rfl

theorem NM.down {base base' : Nat} {d : List Int} {s : Nat} {gd gc : Nat} {tv : Value} {hvs : Nat → Value} {us : List Value} {rs : Nat → List Value} {bl bh : Nat → Nat} {w : World} (x : NM base d s gd gc tv hvs us rs bl bh w) (h : base' ≤ base) : NM base' d s gd gc tv hvs us rs bl bh w :=
  ⟨by obtain ⟨v, h1, h2⟩ := x.v1; exact ⟨v, h1, h2.down h⟩, x.rx.down h, x.dt, x.ck, by have := x.o1; omega, x.o2⟩

def RmP (m : ME) (w : World) (e : Ending) (w' : World) : Prop :=
  (¬ memF m = 0 ∧ e = .returned (.tuple #[.agg #[.slice none 0 0, .int .i64 0, .slice none 0 0, .slice none 0 0, .slice none 0 0], .int .i64 (memF m)]) ∧ Below w.heap.size w w') ∨
  (memF m = 0 ∧ m.dt.length ≤ 240 ∧ ∃ s : Nat, m.st = (s : Int) ∧ 1 ≤ s ∧ s ≤ 60 ∧ sameR (memX m.dt s) m = true ∧ ∃ gd gc tv hvs us rs bl bh, e = .returned (.tuple #[.agg #[.slice (some ⟨gd, 0, none⟩) m.dt.length m.dt.length, .int .i64 (s : Int), tv, hvs (m.dt.length / s + 1), .slice (some ⟨gc, 0, none⟩) (m.dt.length / s + 1) (m.dt.length / s + 1)], .int .i64 0]) ∧ NM (w.heap.size + 1) m.dt s gd gc tv hvs us rs bl bh w' ∧ Below w.heap.size w w')

theorem askC_large {d : List Int} {st : Int} (h : 240 < d.length) : askC d st = 6 := by unfold askC; rw [if_pos h]
theorem askC_range {d : List Int} {st : Int} (h : d.length ≤ 240) (h2 : st < 1 ∨ 60 < st) : askC d st = 3 := by unfold askC; rw [if_neg (by omega), if_pos h2]
theorem askC_good {d : List Int} {s : Nat} (h : d.length ≤ 240) (h1 : 1 ≤ s) (h2 : s ≤ 60) : askC d (s : Int) = 0 := by unfold askC; rw [if_neg (by omega), if_neg (by omega)]

theorem boxesR (w : World) (x0 x1 x2 x3 x4 : Value) :
    let W := (w.alloc (.cells #[x0, x1, x2, x3, x4] 27)).alloc (.cells #[.slice none 0 0, .int .i64 0, .slice none 0 0, .slice none 0 0, .slice none 0 0] 27)
    Below w.heap.size w W ∧ W.rowIs w.heap.size 27 5 (r5 x0 x1 x2 x3 x4) ∧ W.rowIs (w.heap.size + 1) 27 5 (r5 (.slice none 0 0) (.int .i64 0) (.slice none 0 0) (.slice none 0 0) (.slice none 0 0)) := by
  obtain ⟨B0, R1, R2⟩ := two5 w 27 x0 x1 x2 x3 x4 (.slice none 0 0) (.int .i64 0) (.slice none 0 0) (.slice none 0 0) (.slice none 0 0)
  exact ⟨B0, R1, R2⟩

theorem fiveM {B : Nat} {w w' : World} (h : Below B w w') {c : Nat} {v0 v1 v2 v3 v4 : Value} (hc : B ≤ c) : Below B w (((((w'.setCell ⟨c, 0, none⟩ v0).setCell ⟨c, 1, none⟩ v1).setCell ⟨c, 2, none⟩ v2).setCell ⟨c, 3, none⟩ v3).setCell ⟨c, 4, none⟩ v4) :=
  ((((h.setCell (p := ⟨c, 0, none⟩) hc v0).setCell (p := ⟨c, 1, none⟩) hc v1).setCell (p := ⟨c, 2, none⟩) hc v2).setCell (p := ⟨c, 3, none⟩) hc v3).setCell (p := ⟨c, 4, none⟩) hc v4

theorem kept5 (w' : World) (c : Nat) (v0 v1 v2 v3 v4 : Value) : KeptIn c (c + 1) w' (((((w'.setCell ⟨c, 0, none⟩ v0).setCell ⟨c, 1, none⟩ v1).setCell ⟨c, 2, none⟩ v2).setCell ⟨c, 3, none⟩ v3).setCell ⟨c, 4, none⟩ v4) :=
  (((((KeptIn.refl c (c + 1) w').setCell (p := ⟨c, 0, none⟩) (by simp) (by simp) v0).setCell (p := ⟨c, 1, none⟩) (by simp) (by simp) v1).setCell (p := ⟨c, 2, none⟩) (by simp) (by simp) v2).setCell (p := ⟨c, 3, none⟩) (by simp) (by simp) v3).setCell (p := ⟨c, 4, none⟩) (by simp) (by simp) v4

set_option maxRecDepth 100000 in
set_option maxHeartbeats 6400000 in
theorem rightMemo_any (tp : TypeId) (pv : Value) (m : ME) (a t u c : Option Addr) (ca ct cu cc : Nat) (w : World) (hE : Env w.heap.size tp pv w) (h1 : MAt w a t u c m) (hca : m.dt.length ≤ ca) (hub : Byt m.dt) (hm : (msz m : Int) ≤ 1048576) :
    Calls Tryz.prog 43 #[.agg #[.slice a m.dt.length ca, .int .i64 m.st, .slice t m.tk.length ct, .slice u m.hd.length cu, .slice c m.cs.length cc]] w fun e w' => RmP m w e w' := by
  have MS_ : (msz m : Int) = m.dt.length + m.tk.length + tssz m.tk + m.hd.length + m.cs.length + csz m.cs := by unfold msz; omega
  obtain ⟨B0, R1, R2⟩ := boxesR w (.slice a m.dt.length ca) (.int .i64 m.st) (.slice t m.tk.length ct) (.slice u m.hd.length cu) (.slice c m.cs.length cc)
  have KN := Hid.mk' (implNM_any tp pv m.dt m.st a ca _ ((hE.keep B0).up B0.size (Nat.le_refl _)) (h1.1.below B0) hca hub (by omega))
  have HA := Hid.mk' (h1.below B0)
  have HB := Hid.mk' B0
  have H1 := Hid.mk' R1
  have H2 := Hid.mk' R2
  have HM := Hid.mk' hm
  clear MS_ B0 R1 R2 hE h1 hub hm
  generalize hW : (w.alloc (.cells #[.slice a m.dt.length ca, .int .i64 m.st, .slice t m.tk.length ct, .slice u m.hd.length cu, .slice c m.cs.length cc] 27)).alloc (.cells #[.slice none 0 0, .int .i64 0, .slice none 0 0, .slice none 0 0, .slice none 0 0] 27) = W at *
  obtain ⟨x0, x1, x2, x3, x4, x5⟩ := cells5 H1.out
  go_enter Tryz.func43, Tryz.ntmps43
  go_wp2_with fail
  clear hW x0 x1 x2 x3 x4 x5
  refine KN.out.mono ?_
  rintro e w1 (⟨h6, rfl, hb1⟩ | ⟨h6, h3, rfl, hb1⟩ | ⟨h6, s, hst, hs, hs2, gd, gc, tv, hvs, us, rs, bl, bh, rfl, hx, hb1⟩)
  · have K6 : Hid (askC m.dt m.st = 6) := Hid.mk' (askC_large h6)
    clear h6
    have N1 := below_new w1 (.cells #[.int .i64 6, .int .i64 0, .slice none 0 0, .int .i64 0, .slice none 0 0, .slice none 0 0, .slice none 0 0] 50)
    have M1 := hb1.trans (N1.mono hb1.size)
    have RZ := rowB H2.out M1
    obtain ⟨y0, y1, y2, y3, y4, y5⟩ := cells5 RZ
    have f0 := RZ.frozen 0
    have f1 := RZ.frozen 1
    have f2 := RZ.frozen 2
    have f3 := RZ.frozen 3
    have f4 := RZ.frozen 4
    have Q7 := row7 w1 50 (.int .i64 6) (.int .i64 0) (.slice none 0 0) (.int .i64 0) (.slice none 0 0) (.slice none 0 0) (.slice none 0 0)
    obtain ⟨z0, z1, z2, z3, z4, z5, z6, z7⟩ := cells7 Q7
    have B1 := Hid.mk' (HB.out.trans (M1.mono HB.out.size))
    have hne : w.heap.size + 1 ≠ w1.heap.size := by have := H2.out.lt; have := hb1.size; omega
    have HNE := Hid.mk' hne
    clear N1 M1 RZ Q7 hb1
    go_wp2
    generalize hV : w1.alloc (.cells #[.int .i64 6, .int .i64 0, .slice none 0 0, .int .i64 0, .slice none 0 0, .slice none 0 0, .slice none 0 0] 50) = V at *
    go_region_held3 (fun w' => w'.cell? ⟨w1.heap.size, 0, none⟩ = some (.int .i64 6)) (first | (simp [*]; done) | go_keep) (fail)
    go_wp2
    refine bodyPost_ret (v := .tuple #[.agg #[.slice none 0 0, .int .i64 0, .slice none 0 0, .slice none 0 0, .slice none 0 0], .int .i64 6]) (by simp [results, Tryz.results43, go_sem, *]) rfl ?_
    have e6 : memF m = 6 := by unfold memF; rw [K6.out, if_pos (by simp)]
    exact .inl ⟨by rw [e6]; simp, by rw [e6], (fiveM B1.out (Nat.le_succ _)).drew⟩
  · have K3 : Hid (askC m.dt m.st = 3) := Hid.mk' (askC_range h6 h3)
    clear h6 h3
    have N1 := below_new w1 (.cells #[.int .i64 3, .int .i64 0, .slice none 0 0, .int .i64 0, .slice none 0 0, .slice none 0 0, .slice none 0 0] 50)
    have M1 := hb1.trans (N1.mono hb1.size)
    have RZ := rowB H2.out M1
    obtain ⟨y0, y1, y2, y3, y4, y5⟩ := cells5 RZ
    have f0 := RZ.frozen 0
    have f1 := RZ.frozen 1
    have f2 := RZ.frozen 2
    have f3 := RZ.frozen 3
    have f4 := RZ.frozen 4
    have Q7 := row7 w1 50 (.int .i64 3) (.int .i64 0) (.slice none 0 0) (.int .i64 0) (.slice none 0 0) (.slice none 0 0) (.slice none 0 0)
    obtain ⟨z0, z1, z2, z3, z4, z5, z6, z7⟩ := cells7 Q7
    have B1 := Hid.mk' (HB.out.trans (M1.mono HB.out.size))
    have hne : w.heap.size + 1 ≠ w1.heap.size := by have := H2.out.lt; have := hb1.size; omega
    have HNE := Hid.mk' hne
    clear N1 M1 RZ Q7 hb1
    go_wp2
    generalize hV : w1.alloc (.cells #[.int .i64 3, .int .i64 0, .slice none 0 0, .int .i64 0, .slice none 0 0, .slice none 0 0, .slice none 0 0] 50) = V at *
    go_region_held3 (fun w' => w'.cell? ⟨w1.heap.size, 0, none⟩ = some (.int .i64 3)) (first | (simp [*]; done) | go_keep) (fail)
    go_wp2
    refine bodyPost_ret (v := .tuple #[.agg #[.slice none 0 0, .int .i64 0, .slice none 0 0, .slice none 0 0, .slice none 0 0], .int .i64 3]) (by simp [results, Tryz.results43, go_sem, *]) rfl ?_
    have e6 : memF m = 3 := by unfold memF; rw [K3.out, if_pos (by simp)]
    exact .inl ⟨by rw [e6]; simp, by rw [e6], (fiveM B1.out (Nat.le_succ _)).drew⟩

  · obtain ⟨ta, tc, ha, hc, rfl, eh, mx⟩ := hx.at hs
    rw [eh]
    have N1 := below_new w1 (.cells #[.int .i64 0, .int .i64 (m.dt.length : Int), .slice (some ⟨gd, 0, none⟩) m.dt.length m.dt.length, .int .i64 (s : Int), .slice ta (allX [] [] m.dt).1.length tc, .slice ha (allX [] [] m.dt).2.length hc, .slice (some ⟨gc, 0, none⟩) (m.dt.length / s + 1) (m.dt.length / s + 1)] 50)
    have M1 := hb1.trans (N1.mono hb1.size)
    have KS := sameReading_any (memX m.dt s) m (some ⟨gd, 0, none⟩) ta ha (some ⟨gc, 0, none⟩) a t u c m.dt.length tc hc (m.dt.length / s + 1) ca ct cu cc _ (mx.below N1) (HA.out.below M1) (by have := mem_small m.dt s h6; omega) HM.out
    have ecl : (memX m.dt s).cs.length = m.dt.length / s + 1 := cksN_len _ _ _
    rw [ecl] at KS
    have KS : Calls Tryz.prog 47 #[.agg #[.slice (some ⟨gd, 0, none⟩) m.dt.length m.dt.length, .int .i64 (s : Int), .slice ta (allX [] [] m.dt).1.length tc, .slice ha (allX [] [] m.dt).2.length hc, .slice (some ⟨gc, 0, none⟩) (m.dt.length / s + 1) (m.dt.length / s + 1)], .agg #[.slice a m.dt.length ca, .int .i64 m.st, .slice t m.tk.length ct, .slice u m.hd.length cu, .slice c m.cs.length cc]] _ fun e w' => e = .returned (.bool (sameR (memX m.dt s) m)) ∧ Below _ _ w' := KS
    rw [hst] at KS
    have R1 := rowB H1.out M1
    rw [hst] at R1
    obtain ⟨x0, x1, x2, x3, x4, x5⟩ := cells5 R1
    have K0 : Hid (askC m.dt m.st = 0) := Hid.mk' (by rw [hst]; exact askC_good h6 hs hs2)
    have EF : Hid (memF m = if sameR (memX m.dt s) m then 0 else 1) := Hid.mk' (by
      unfold memF
      rw [if_neg (by rw [K0.out]; simp), hst]; rfl)
    have Q7 := row7 w1 50 (.int .i64 0) (.int .i64 (m.dt.length : Int)) (.slice (some ⟨gd, 0, none⟩) m.dt.length m.dt.length) (.int .i64 (s : Int)) (.slice ta (allX [] [] m.dt).1.length tc) (.slice ha (allX [] [] m.dt).2.length hc) (.slice (some ⟨gc, 0, none⟩) (m.dt.length / s + 1) (m.dt.length / s + 1))
    obtain ⟨z0, z1, z2, z3, z4, z5, z6, z7⟩ := cells7 Q7
    have HQ := Hid.mk' Q7
    have HX := Hid.mk' (hx.below N1)
    have HR1 := Hid.mk' R1
    have RZ := Hid.mk' (rowB H2.out M1)
    have KS := Hid.mk' KS
    have B1 := Hid.mk' (HB.out.trans (M1.mono HB.out.size))
    have hne : w.heap.size + 1 < w1.heap.size := by have := H2.out.lt; have := hb1.size; omega
    have HNE := Hid.mk' hne
    have HS := Hid.mk' (And.intro h6 (And.intro hst (And.intro hs hs2)))
    have EH := Hid.mk' eh
    have L1 := H2.out.lt
    have LW : Hid (w.heap.size + 1 ≤ W.heap.size) := Hid.mk' (by have := H2.out.lt; omega)
    clear N1 M1 hb1 mx hx R1 Q7 ecl hst hs hs2 h6 eh hne L1
    generalize hT : (allX [] [] m.dt).1 = T at *
    generalize hH : (allX [] [] m.dt).2 = H at *
    generalize hJ : m.dt.length / s + 1 = J at *
    have HT := Hid.mk' hT
    have HH := Hid.mk' hH
    have HJ := Hid.mk' hJ
    clear hT hH hJ
    obtain ⟨R, hR⟩ : ∃ R, sameR (memX m.dt s) m = R := ⟨_, rfl⟩
    have HR := Hid.mk' hR
    rw [hR] at KS EF
    clear hR
    generalize hV : w1.alloc (.cells #[.int .i64 0, .int .i64 (m.dt.length : Int), .slice (some ⟨gd, 0, none⟩) m.dt.length m.dt.length, .int .i64 (s : Int), .slice ta T.length tc, .slice ha H.length hc, .slice (some ⟨gc, 0, none⟩) J J] 50) = V at *
    cases R with
    | false =>
      go_wp2_with fail
      clear hV
      refine KS.out.mono ?_
      rintro e w2 ⟨rfl, hb2⟩
      have RZ2 := rowB RZ.out hb2
      obtain ⟨y0, y1, y2, y3, y4, y5⟩ := cells5 RZ2
      have f0 := RZ2.frozen 0
      have f1 := RZ2.frozen 1
      have f2 := RZ2.frozen 2
      have f3 := RZ2.frozen 3
      have f4 := RZ2.frozen 4
      have B2 := Hid.mk' (B1.out.trans (hb2.mono B1.out.size))
      clear RZ2 hb2 x0 x1 x2 x3 x4 x5 z0 z1 z2 z3 z4 z5 z6 z7
      go_wp2
      refine bodyPost_ret (v := .tuple #[.agg #[.slice none 0 0, .int .i64 0, .slice none 0 0, .slice none 0 0, .slice none 0 0], .int .i64 1]) (by simp [results, Tryz.results43, go_sem, *]) rfl ?_
      have e1 : memF m = 1 := by rw [EF.out]; rfl
      exact .inl ⟨by rw [e1]; simp, by rw [e1], fiveM B2.out (Nat.le_succ _)⟩
    | true =>
      go_wp2_with fail
      clear hV
      refine KS.out.mono ?_
      rintro e w2 ⟨rfl, hb2⟩
      have RZ2 := rowB RZ.out hb2
      obtain ⟨y0, y1, y2, y3, y4, y5⟩ := cells5 RZ2
      have f0 := RZ2.frozen 0
      have f1 := RZ2.frozen 1
      have f2 := RZ2.frozen 2
      have f3 := RZ2.frozen 3
      have f4 := RZ2.frozen 4
      have Q2 := rowB HQ.out hb2
      clear x0 x1 x2 x3 x4 x5 z0 z1 z2 z3 z4 z5 z6 z7
      obtain ⟨z0, z1, z2, z3, z4, z5, z6, z7⟩ := cells7 Q2
      have B2 := Hid.mk' (B1.out.trans (hb2.mono B1.out.size))
      have HX2 := Hid.mk' (HX.out.below hb2)
      clear RZ2 Q2 hb2
      go_wp2
      refine bodyPost_ret (v := .tuple #[.agg #[.slice (some ⟨gd, 0, none⟩) m.dt.length m.dt.length, .int .i64 (s : Int), .slice ta T.length tc, .slice ha H.length hc, .slice (some ⟨gc, 0, none⟩) J J], .int .i64 0]) (by simp [results, Tryz.results43, go_sem, *]) rfl ?_
      have e0 : memF m = 0 := by rw [EF.out]; rfl
      obtain ⟨h6, hst, hs, hs2⟩ := HS.out
      have k := kept5 w2 (w.heap.size + 1) (.slice (some ⟨gd, 0, none⟩) m.dt.length m.dt.length) (.int .i64 (s : Int)) (.slice ta T.length tc) (.slice ha H.length hc) (.slice (some ⟨gc, 0, none⟩) J J)
      refine .inr ⟨e0, h6, s, hst, hs, hs2, HR.out, gd, gc, .slice ta T.length tc, hvs, us, rs, bl, bh, ?_, ?_, fiveM B2.out (Nat.le_succ _)⟩
      · rw [HJ.out, EH.out]
      · have lw := LW.out
        exact (HX2.out.keep k.size (fun q h1 h2 => k.block q h2 (by omega))).down (by omega)

end Go.Proofs.YtieeojhdidjnaaaGreatDoor

namespace Go.Proofs.YtieeojhdidjnaaaGreatDoor
open Go.RowKit

theorem strI_data : ∀ (l : List Int) (r : ByteArray), (l.foldl (fun r n => r.push (UInt8.ofNat n.toNat)) r).data.toList = r.data.toList ++ l.map (fun n => UInt8.ofNat n.toNat)
  | [], r => by simp
  | x :: l, r => by
    rw [List.foldl_cons, strI_data l]
    simp [ByteArray.push]

theorem strI_list (l : List Int) : (strI l).toList = l.map (fun n => UInt8.ofNat n.toNat) := by
  rw [toList_data]
  unfold strI
  rw [strI_data]
  have e : ByteArray.empty.data.toList = [] := rfl
  rw [e, List.nil_append]

theorem byte_inj {x y : Int} (hx : 0 ≤ x ∧ x ≤ 255) (hy : 0 ≤ y ∧ y ≤ 255) (h : UInt8.ofNat x.toNat = UInt8.ofNat y.toNat) : x = y := by
  have := congrArg UInt8.toNat h
  simp only [UInt8.toNat_ofNat'] at this
  omega

theorem map_inj : ∀ (l m : List Int), (∀ x ∈ l, 0 ≤ x ∧ x ≤ 255) → (∀ x ∈ m, 0 ≤ x ∧ x ≤ 255) → l.map (fun n => UInt8.ofNat n.toNat) = m.map (fun n => UInt8.ofNat n.toNat) → l = m
  | [], [], _, _, _ => rfl
  | [], y :: m, _, _, h => by simp at h
  | x :: l, [], _, _, h => by simp at h
  | x :: l, y :: m, hl, hm, h => by
    simp only [List.map_cons, List.cons.injEq] at h
    rw [byte_inj (hl x (List.mem_cons_self ..)) (hm y (List.mem_cons_self ..)) h.1, map_inj l m (fun z hz => hl z (List.mem_cons_of_mem _ hz)) (fun z hz => hm z (List.mem_cons_of_mem _ hz)) h.2]

theorem beqB_eq {l m : List Int} (hl : Byt l) (hm : Byt m) (h : beqB l m = true) : l = m := by
  unfold beqB at h
  rw [strI_list, strI_list] at h
  exact map_inj l m hl.mem hm.mem (by simpa using h)

theorem right_checks {d : List Int} {s : Nat} {m : ME} (hd : Byt d) (hc : ∀ k, k < m.cs.length → Byt (ckK m.cs k).hd) (h : sameR (memX d s) m = true) : m.cs.length = d.length / s + 1 ∧ ∀ k, k < d.length / s + 1 → ckK m.cs k = ckAt d s k := by
  unfold sameR at h
  rw [Bool.and_eq_true, Bool.and_eq_true] at h
  have h3 := h.2.2
  unfold sameCs at h3
  rw [Bool.and_eq_true] at h3
  have e1 : (memX d s).cs.length = d.length / s + 1 := cksN_len _ _ _
  have e2 : (memX d s).cs.length = m.cs.length := of_decide_eq_true h3.1
  refine ⟨by omega, fun k hk => ?_⟩
  have h4 := h3.2
  unfold allK at h4
  rw [List.all_eq_true] at h4
  have h5 := h4 k (List.mem_range.2 (by omega))
  have e3 : ckK (memX d s).cs k = ckAt d s k := cksN_at d s _ k hk
  rw [e3] at h5
  unfold ceq at h5
  rw [Bool.and_eq_true, Bool.and_eq_true] at h5
  have p1 : (ckAt d s k).pl = (ckK m.cs k).pl := by simpa using h5.1
  have p2_ : (ckAt d s k).ct = (ckK m.cs k).ct := by simpa using h5.2.1
  have p3 : (ckAt d s k).hd = (ckK m.cs k).hd := beqB_eq (allX_byt _ _ _ (fun x hx => hd.mem x (List.mem_of_mem_take hx)) Byt.nil) (hc k (by omega)) h5.2.2
  cases hq : ckK m.cs k with
  | mk a b c =>
    rw [hq] at p1 p2_ p3
    cases hz : ckAt d s k with
    | mk a' b' c' =>
      rw [hz] at p1 p2_ p3
      simp only at p1 p2_ p3
      rw [p1, p2_, p3]

theorem memF_ok {m : ME} (h : memF m = 0) : m.dt.length ≤ 240 ∧ ∃ s : Nat, m.st = (s : Int) ∧ 1 ≤ s ∧ s ≤ 60 ∧ sameR (memX m.dt s) m = true := by
  unfold memF at h
  by_cases h1 : askC m.dt m.st = 0
  · rw [if_neg (by rw [h1]; simp)] at h
    obtain ⟨h240, s, hst, hs, hs2⟩ := askC_ok h1
    refine ⟨h240, s, hst, hs, hs2, ?_⟩
    rw [hst] at h
    cases hq : sameR (memX m.dt s) m with
    | true => rfl
    | false =>
      have e : sameR (memX m.dt ((s : Int).toNat)) m = false := hq
      rw [e] at h
      simp at h
  · rw [if_pos h1] at h
    exact absurd h h1

def lcC (m : ME) (A : Int) : Int := if memF m ≠ 0 then memF m else if A < 0 ∨ (m.dt.length : Int) < A then 3 else 0

def LcP (m : ME) (A : Int) (w : World) (e : Ending) (w' : World) : Prop :=
  (¬ lcC m A = 0 ∧ e = .returned (.agg #[.int .i64 (lcC m A), .int .i64 0, .int .i64 0, .slice none 0 0]) ∧ Below w.heap.size w w') ∨
  (lcC m A = 0 ∧ ∃ s K : Nat, m.dt.length ≤ 240 ∧ m.st = (s : Int) ∧ 1 ≤ s ∧ s ≤ 60 ∧ K = A.toNat / s ∧ ∃ v, e = .returned (.agg #[.int .i64 0, .int .i64 ((K * s : Nat) : Int), .int .i64 ((tkN m.dt s K).length : Int), v]) ∧ w'.ownsRow (w.heap.size + 2) 5 1 v (hdN m.dt s K).length (bcs (hdN m.dt s K)) ∧ Below w.heap.size w w')

theorem keptQ (w' : World) (c : Nat) (v0 v1 v2 v3 : Value) : KeptIn c (c + 1) w' ((((w'.setCell ⟨c, 0, none⟩ v0).setCell ⟨c, 1, none⟩ v1).setCell ⟨c, 2, none⟩ v2).setCell ⟨c, 3, none⟩ v3) :=
  ((((KeptIn.refl c (c + 1) w').setCell (p := ⟨c, 0, none⟩) (by simp) (by simp) v0).setCell (p := ⟨c, 1, none⟩) (by simp) (by simp) v1).setCell (p := ⟨c, 2, none⟩) (by simp) (by simp) v2).setCell (p := ⟨c, 3, none⟩) (by simp) (by simp) v3

theorem boxesL (w : World) (x0 x1 x2 x3 x4 : Value) :
    let W := (w.alloc (.cells #[x0, x1, x2, x3, x4] 27)).alloc (.cells #[.int .i64 0, .int .i64 0, .int .i64 0, .slice none 0 0] 33)
    Below w.heap.size w W ∧ W.rowIs w.heap.size 27 5 (r5 x0 x1 x2 x3 x4) ∧ W.rowIs (w.heap.size + 1) 33 4 (r4 (.int .i64 0) (.int .i64 0) (.int .i64 0) (.slice none 0 0)) := by
  refine ⟨(below_new w _).alloc (by simp) _, (row5 w 27 x0 x1 x2 x3 x4).alloc _, ?_⟩
  have := row4 (w.alloc (.cells #[x0, x1, x2, x3, x4] 27)) 33 (.int .i64 0) (.int .i64 0) (.int .i64 0) (.slice none 0 0)
  rw [show (w.alloc (.cells #[x0, x1, x2, x3, x4] 27)).heap.size = w.heap.size + 1 by simp] at this
  exact this

set_option maxRecDepth 100000 in
set_option maxHeartbeats 6400000 in
theorem specLC_any (m : ME) (a t u c : Option Addr) (ca ct cu cc : Nat) (A : Int) (w : World) (h1 : MAt w a t u c m) (hub : Byt m.dt) (hcb : ∀ k, k < m.cs.length → Byt (ckK m.cs k).hd) (hm : (msz m : Int) ≤ 1048576) (b1 : -9223372036854775808 ≤ A) (b2 : A ≤ 9223372036854775807) :
    Calls Tryz.prog 14 #[.agg #[.slice a m.dt.length ca, .int .i64 m.st, .slice t m.tk.length ct, .slice u m.hd.length cu, .slice c m.cs.length cc], .int .i64 A] w fun e w' => LcP m A w e w' := by
  have MS_ : (msz m : Int) = m.dt.length + m.tk.length + tssz m.tk + m.hd.length + m.cs.length + csz m.cs := by unfold msz; omega
  obtain ⟨B0, R1, R2⟩ := boxesL w (.slice a m.dt.length ca) (.int .i64 m.st) (.slice t m.tk.length ct) (.slice u m.hd.length cu) (.slice c m.cs.length cc)
  have KF := Hid.mk' (l12Fault_any w.heap.size m a t u c ca ct cu cc _ ⟨R1, h1.below B0⟩ hub hm)
  have HA := Hid.mk' (h1.below B0)
  have HB := Hid.mk' B0
  have H1 := Hid.mk' R1
  have H2 := Hid.mk' R2
  have HU := Hid.mk' hub
  have HC := Hid.mk' hcb
  have hdl : (m.dt.length : Int) ≤ 1048576 := by omega
  have hcl : (m.cs.length : Int) ≤ 1048576 := by omega
  clear MS_ B0 R1 R2 h1 hub hcb hm
  generalize hW : (w.alloc (.cells #[.slice a m.dt.length ca, .int .i64 m.st, .slice t m.tk.length ct, .slice u m.hd.length cu, .slice c m.cs.length cc] 27)).alloc (.cells #[.int .i64 0, .int .i64 0, .int .i64 0, .slice none 0 0] 33) = W at *
  go_enter Tryz.func14, Tryz.ntmps14
  go_wp2_with fail
  clear hW
  refine KF.out.mono ?_
  rintro e w1 ⟨rfl, hb1⟩
  have HZ := Hid.mk' (rowB H2.out hb1)
  have HM := Hid.mk' (rowB H1.out hb1)
  have HA1 := Hid.mk' (HA.out.below hb1)
  have B1 := Hid.mk' (HB.out.trans (hb1.mono HB.out.size))
  clear hb1 KF HA H1 H2
  by_cases hf : memF m = 0
  rotate_left
  · have EC : Hid (lcC m A = memF m) := Hid.mk' (by unfold lcC; rw [if_pos hf])
    obtain ⟨F, hF⟩ : ∃ F, memF m = F := ⟨_, rfl⟩
    rw [hF] at EC hf ⊢
    have HNZ : Hid (¬ F = 0) := Hid.mk' hf
    have hne : (F != 0) = true := by simp [hf]
    clear hF
    have RZ := HZ.out
    obtain ⟨y0, y1, y2, y3, y4⟩ := cells4 RZ
    have f0 := RZ.frozen 0
    have f1 := RZ.frozen 1
    have f2 := RZ.frozen 2
    have f3 := RZ.frozen 3
    clear RZ
    go_wp2
    refine bodyPost_ret (v := .agg #[.int .i64 F, .int .i64 0, .int .i64 0, .slice none 0 0]) (by simp [results, Tryz.results14, go_sem, *]) rfl ?_
    exact .inl ⟨by rw [EC.out]; exact HNZ.out, by rw [EC.out], B1.out.trans ((keptQ _ _ _ _ _ _).below (Nat.le_succ _) B1.out.size)⟩
  rw [hf]
  obtain ⟨x0, x1, x2, x3, x4, x5⟩ := cells5 HM.out
  have KI := l1In_any A 0 (m.dt.length : Int) w1
  by_cases hr : A < 0 ∨ (m.dt.length : Int) < A
  · have EC : Hid (lcC m A = 3) := Hid.mk' (by unfold lcC; rw [if_neg (by rw [hf]; simp), if_pos hr])
    have e1 : (decide ((0 : Int) ≤ A) && decide (A ≤ (m.dt.length : Int))) = false := by
      rcases hr with h | h
      · rw [decide_eq_false (by omega)]; rfl
      · rw [decide_eq_false (p := A ≤ (m.dt.length : Int)) (by omega)]; simp
    rw [e1] at KI
    have KI := Hid.mk' KI
    clear e1 hr
    go_wp2_with fail
    refine KI.out.mono ?_
    rintro e w2 ⟨rfl, hw2⟩
    obtain rfl := hw2.symm
    clear hw2
    have RZ := HZ.out
    obtain ⟨y0, y1, y2, y3, y4⟩ := cells4 RZ
    have f0 := RZ.frozen 0
    have f1 := RZ.frozen 1
    have f2 := RZ.frozen 2
    have f3 := RZ.frozen 3
    clear RZ
    go_wp2
    refine bodyPost_ret (v := .agg #[.int .i64 3, .int .i64 0, .int .i64 0, .slice none 0 0]) (by simp [results, Tryz.results14, go_sem, *]) rfl ?_
    exact .inl ⟨by rw [EC.out]; simp, by rw [EC.out], B1.out.trans ((keptQ _ _ _ _ _ _).below (Nat.le_succ _) B1.out.size)⟩

  have hA0 : 0 ≤ A := by omega
  obtain ⟨n, rfl⟩ : ∃ n : Nat, A = (n : Int) := ⟨A.toNat, by omega⟩
  have hn : n ≤ m.dt.length := by omega
  have EC : Hid (lcC m (n : Int) = 0) := Hid.mk' (by unfold lcC; rw [if_neg (by rw [hf]; simp), if_neg hr])
  obtain ⟨h240, s, hst, hs, hs2, hsame⟩ := memF_ok hf
  obtain ⟨ecl, eck⟩ := right_checks HU.out HC.out hsame
  have hKJ : n / s < m.dt.length / s + 1 := Nat.lt_succ_of_le (Nat.div_le_div_right hn)
  have hq0 : (n : Int) / (s : Int) = ((n / s : Nat) : Int) := by simp
  have hq1 : n / s ≤ n := Nat.div_le_self _ _
  have ek := eck (n / s) hKJ
  rcases HA1.out.2.2.2 with hnil | ⟨b9, o9, rfl, hbs9, hc9⟩
  · rw [hnil] at ecl; simp at ecl
  obtain ⟨p1, p2_, pq, pc, p3, p4⟩ := hc9 (n / s) (by omega)
  rw [ek] at p1 p2_ p3 p4
  have e1 : (decide ((0 : Int) ≤ (n : Int)) && decide ((n : Int) ≤ (m.dt.length : Int))) = true := by
    rw [decide_eq_true (by omega), decide_eq_true (by omega)]; rfl
  rw [e1] at KI
  have KI := Hid.mk' KI
  have HS := Hid.mk' (And.intro h240 (And.intro hst (And.intro hs hs2)))
  rw [hst] at x1
  have ck : ((n / s : Nat) : Int) < (m.cs.length : Int) := by omega
  have lH : (hdN m.dt s (n / s)).length ≤ 159 := (allX_good _ _ _ (.inl rfl)).len
  obtain ⟨K, hK⟩ : ∃ K, n / s = K := ⟨_, rfl⟩
  rw [hK] at hq0 hq1 p1 p2_ p3 p4 ck lH
  have HK := Hid.mk' hK
  have hwK : IntKind.i64.wrap (K : Int) = (K : Int) := by rw [IntKind.wrap_i64]; omega
  have KL : Hid (∀ v, Below w1.heap.size w1 v → Calls Tryz.prog 51 #[.slice pq (hdN m.dt s K).length pc] v fun e w' => ∃ x, e = .returned x ∧ w'.ownsRow v.heap.size 5 1 x (hdN m.dt s K).length (bcs (hdN m.dt s K)) ∧ Below v.heap.size v w') := Hid.mk' (fun v hb => l1Copy_own pq pc (hdN m.dt s K) v (p4.below hb) (by omega))
  have hs0 : ¬ s = 0 := by omega
  have hb9 := hbs9
  clear e1 ecl eck hKJ ek hc9 hst hs hs2 h240 hsame hK hf hr p4
  have c1 : w1.cell? ⟨b9, o9 + K * 3, none⟩ = some (.int .i64 ((K * s : Nat) : Int)) := p1
  have c2 : w1.cell? ⟨b9, o9 + K * 3 + 1, none⟩ = some (.int .i64 ((tkN m.dt s K).length : Int)) := p2_
  have c3 : w1.cell? ⟨b9, o9 + K * 3 + 2, none⟩ = some (.slice pq (hdN m.dt s K).length pc) := p3
  clear p1 p2_ p3
  obtain ⟨Tn, hTn⟩ : ∃ Tn, (tkN m.dt s K).length = Tn := ⟨_, rfl⟩
  obtain ⟨H, hH⟩ : ∃ H, hdN m.dt s K = H := ⟨_, rfl⟩
  obtain ⟨Q, hQ⟩ : ∃ Q, K * s = Q := ⟨_, rfl⟩
  rw [hTn] at c2
  rw [hH] at c3 KL lH
  rw [hQ] at c1
  have HTn := Hid.mk' hTn
  have HH := Hid.mk' hH
  have HQ := Hid.mk' hQ
  clear hTn hH hQ
  go_wp2_with fail
  refine KI.out.mono ?_
  rintro e w2 ⟨rfl, hw2⟩
  obtain rfl := hw2.symm
  clear hw2 KI
  have HCE : Hid (∀ v, Below w1.heap.size w1 v → (fun v => v.cell? ⟨w.heap.size, 4, none⟩ = some (.slice (some ⟨b9, o9, none⟩) m.cs.length cc) ∧ v.cell? ⟨w.heap.size, 1, none⟩ = some (.int .i64 (s : Int)) ∧ v.cell? ⟨b9, o9 + K * 3, none⟩ = some (.int .i64 (Q : Int)) ∧ v.cell? ⟨b9, o9 + K * 3 + 1, none⟩ = some (.int .i64 (Tn : Int)) ∧ v.cell? ⟨b9, o9 + K * 3 + 2, none⟩ = some (.slice pq H.length pc)) v) := Hid.mk' (fun v hb => ⟨(hb.cell x5).trans x4, (hb.cell x5).trans x1, (hb.cell hb9).trans c1, (hb.cell hb9).trans c2, (hb.cell hb9).trans c3⟩)
  go_wp2
  clear x0 x1 x2 x3 x4 x5 c1 c2 c3
  refine wp_region_held_drew (S := (fun v => v.cell? ⟨w.heap.size, 4, none⟩ = some (.slice (some ⟨b9, o9, none⟩) m.cs.length cc) ∧ v.cell? ⟨w.heap.size, 1, none⟩ = some (.int .i64 (s : Int)) ∧ v.cell? ⟨b9, o9 + K * 3, none⟩ = some (.int .i64 (Q : Int)) ∧ v.cell? ⟨b9, o9 + K * 3 + 1, none⟩ = some (.int .i64 (Tn : Int)) ∧ v.cell? ⟨b9, o9 + K * 3 + 2, none⟩ = some (.slice pq H.length pc))) (by kernel_rfl) (HCE.out _ (Below.refl _ _).drew) (fun hHeld => ?_)
  refine tkY 0 ?_
  refine tkY 1 ?_
  refine tkY 2 ?_
  refine tkY 3 ?_
  refine tkY 4 ?_
  refine tkY 5 ?_
  refine tkY 6 ?_
  refine tkY 7 ?_
  refine wpAnyH_ready (rs := [8]) (by kernel_rfl) (by simp) ?_
  refine AllReadyH.cons (o := ⟨_, _, _, _, _, _⟩) rfl (fun K9 hK => ?_) AllReadyH.nil
  go_simp
  refine hK.out _ _ (HCE.out _ (below_new w1 _).drew) (fun hHeld => ?_)
  clear hK K9
  try simp only [Act.put, zA, zB, zC]
  have Z := row3 w1 31 (.int .i64 0) (.int .i64 0) (.slice none 0 0)
  obtain ⟨z0, z1, z2, z3⟩ := cells3 Z
  have y0 := Z.frozen 0
  have y1 := Z.frozen 1
  have y2 := Z.frozen 2
  refine wpAnyH_ready (rs := [9]) (by kernel_rfl) (by simp) ?_
  refine AllReadyH.cons (o := ⟨_, _, _, _, _, _⟩) rfl (fun K9 hK => ?_) AllReadyH.nil
  go_simp
  refine hK.out _ _ (HCE.out _ (below_new w1 _).drew) (fun hHeld => ?_)
  clear hK K9 Z z0 z1 z2 z3 y0 y1 y2
  try simp only [Act.put, zA, zB, zC]
  refine wpAnyH_done (by kernel_rfl) ?_ _
  clear hHeld
  have N1 := below_new w1 (.cells #[.int .i64 (Q : Int), .int .i64 (Tn : Int), .slice pq H.length pc] 31)
  have RX := Hid.mk' (row3 w1 31 (.int .i64 (Q : Int)) (.int .i64 (Tn : Int)) (.slice pq H.length pc))
  have KL2 := Hid.mk' (KL.out _ N1.drew)
  have HN1 := Hid.mk' N1
  clear N1 KL
  obtain ⟨z0, z1, z2, z3⟩ := cells3 RX.out
  generalize hV : w1.alloc (.cells #[.int .i64 (Q : Int), .int .i64 (Tn : Int), .slice pq H.length pc] 31) = V at *
  go_wp2_with fail
  clear hV z0 z1 z2 z3
  refine KL2.out.mono ?_
  rintro e w3 ⟨v, rfl, ov, hb3⟩
  replace hb3 := undrew hb3
  obtain ⟨va, vc, rfl, -⟩ := own_src ov
  have R3 := rowB RX.out hb3
  obtain ⟨z0, z1, z2, z3⟩ := cells3 R3
  have y2 := R3.frozen 2
  have B3 := HN1.out.trans (hb3.mono HN1.out.size)
  have RZ := rowB HZ.out B3
  obtain ⟨k0, k1, k2, k3, k4⟩ := cells4 RZ
  have f0 := RZ.frozen 0
  have f1 := RZ.frozen 1
  have f2 := RZ.frozen 2
  have f3 := RZ.frozen 3
  have lz := HZ.out.lt
  have lx := RX.out.lt
  have hne : w.heap.size + 1 ≠ w1.heap.size := by omega
  have hne2 : w1.heap.size ≠ w.heap.size + 1 := by omega
  have OV := Hid.mk' ov
  have HB3 := Hid.mk' (B1.out.trans (B3.mono B1.out.size))
  have SZ : Hid (w1.heap.size + 1 ≤ V.heap.size) := Hid.mk' (by omega)
  have LZ := Hid.mk' lz
  clear R3 B3 RZ hb3 ov lz lx KL2
  go_wp2
  refine bodyPost_ret (v := .agg #[.int .i64 0, .int .i64 (Q : Int), .int .i64 (Tn : Int), .slice va H.length vc]) (by simp [results, Tryz.results14, go_sem, *]) rfl ?_
  have K1 := (KeptIn.refl w1.heap.size (w1.heap.size + 1) w3).setCell (p := ⟨w1.heap.size, 2, none⟩) (by simp) (by simp) (.slice va H.length vc)
  have K2 := keptQ (w3.setCell ⟨w1.heap.size, 2, none⟩ (.slice va H.length vc)) (w.heap.size + 1) (.int .i64 0) (.int .i64 (Q : Int)) (.int .i64 (Tn : Int)) (.slice va H.length vc)
  obtain ⟨h240, hst, hs, hs2⟩ := HS.out
  have sz := SZ.out
  have lz := LZ.out
  have b3 := HB3.out.size
  refine .inr ⟨EC.out, s, K, h240, hst, hs, hs2, by rw [← HK.out]; rfl, .slice va H.length vc, by rw [HQ.out, HTn.out], ?_, (HB3.out.trans (K1.below (by omega) b3)).trans (K2.below (Nat.le_succ _) (by have := K1.size; omega))⟩
  rw [HH.out]
  refine own_of OV.out (show w.heap.size + 2 ≤ V.heap.size by omega) (fun q eq hq => ?_)
  have l1 := OV.out.lt q eq
  exact (K2.block q (by have := K1.size; omega) (by have : V.drew.heap.size = V.heap.size := rfl; omega)).trans (K1.block q l1.2 (by have : V.drew.heap.size = V.heap.size := rfl; omega))

end Go.Proofs.YtieeojhdidjnaaaGreatDoor

namespace Go.Proofs.YtieeojhdidjnaaaGreatDoor
open Go.RowKit

theorem keptIn_drew {lo hi : Nat} {w w' : World} (h : KeptIn lo hi w w') : KeptIn lo hi w w'.drew := ⟨h.os, h.tape, h.output, h.size, h.block⟩
theorem keptIn_cell {lo hi : Nat} {w w' : World} (h : KeptIn lo hi w w') (b o : Nat) (hb : b < w.heap.size) (hn : b < lo ∨ hi ≤ b) : w'.cell? ⟨b, o, none⟩ = w.cell? ⟨b, o, none⟩ :=
  World.cell?_of_block (a := ⟨b, o, none⟩) (h.block b hb hn)
theorem keptIn_own {lo hi base base' : Nat} {w w' : World} {e : TypeId} {size : Nat} {v : Value} {n : Nat} {xs : List Value} (h : KeptIn lo hi w w') (ho : w.ownsRow base e size v n xs) (h1 : base' ≤ base) (h2 : hi ≤ base) : w'.ownsRow base' e size v n xs := by
  refine ⟨ho.1, ?_⟩
  rcases ho.2 with h0 | ⟨g, cap, cur, rfl, hg, hh, r⟩
  · exact .inl h0
  · exact .inr ⟨g, cap, cur, rfl, Nat.le_trans h1 hg, by rw [h.block g (Array.getElem?_eq_some_iff.1 hh).1 (.inr (Nat.le_trans h2 hg))]; exact hh, r⟩

set_option maxRecDepth 100000 in
set_option maxHeartbeats 6400000 in
theorem implLC_any (tp : TypeId) (pv : Value) (m : ME) (a t u c : Option Addr) (ca ct cu cc : Nat) (A : Int) (w : World) (hE : Env w.heap.size tp pv w) (h1 : MAt w a t u c m) (hca : m.dt.length ≤ ca) (hub : Byt m.dt) (hm : (msz m : Int) ≤ 1048576) (b1 : -9223372036854775808 ≤ A) (b2 : A ≤ 9223372036854775807) :
    Calls Tryz.prog 10 #[.agg #[.slice a m.dt.length ca, .int .i64 m.st, .slice t m.tk.length ct, .slice u m.hd.length cu, .slice c m.cs.length cc], .int .i64 A] w fun e w' => LcP m A w e w' := by
  have MS_ : (msz m : Int) = m.dt.length + m.tk.length + tssz m.tk + m.hd.length + m.cs.length + csz m.cs := by unfold msz; omega
  have hdl : (m.dt.length : Int) ≤ 1048576 := by omega
  obtain ⟨B0, R1, R2⟩ := boxesL w (.slice a m.dt.length ca) (.int .i64 m.st) (.slice t m.tk.length ct) (.slice u m.hd.length cu) (.slice c m.cs.length cc)
  have KR := Hid.mk' (rightMemo_any tp pv m a t u c ca ct cu cc _ ((hE.keep B0).up B0.size (Nat.le_refl _)) (h1.below B0) hca hub hm)
  have HB := Hid.mk' B0
  have H2 := Hid.mk' R2
  obtain ⟨x0, x1, x2, x3, x4, x5⟩ := cells5 R1
  clear MS_ B0 R1 R2 h1 hub hm hE
  generalize hW : (w.alloc (.cells #[.slice a m.dt.length ca, .int .i64 m.st, .slice t m.tk.length ct, .slice u m.hd.length cu, .slice c m.cs.length cc] 27)).alloc (.cells #[.int .i64 0, .int .i64 0, .int .i64 0, .slice none 0 0] 33) = W at *
  go_enter Tryz.func10, Tryz.ntmps10
  go_wp2_with fail
  clear hW x0 x1 x2 x3 x4 x5
  refine KR.out.mono ?_
  rintro e w1 (⟨hf, rfl, hb1⟩ | ⟨hf, h240, s, hst, hs, hs2, hsame, gd, gc, tv, hvs, us, rs, bl, bh, rfl, hx, hb1⟩)
  · have EC : Hid (lcC m A = memF m) := Hid.mk' (by unfold lcC; rw [if_pos hf])
    obtain ⟨F, hF⟩ : ∃ F, memF m = F := ⟨_, rfl⟩
    rw [hF] at EC hf ⊢
    have HNZ : Hid (¬ F = 0) := Hid.mk' hf
    have hne : (F != 0) = true := by simp [hf]
    have N1 := below_new w1 (.cells #[.slice none 0 0, .int .i64 0, .slice none 0 0, .slice none 0 0, .slice none 0 0] 27)
    have M1 := hb1.trans (N1.mono hb1.size)
    have HZ := Hid.mk' (rowB H2.out M1)
    have B1 := Hid.mk' (HB.out.trans (M1.mono HB.out.size))
    clear hF N1 M1 hb1
    obtain ⟨y0, y1, y2, y3, y4⟩ := cells4 HZ.out
    have f0 := HZ.out.frozen 0
    have f1 := HZ.out.frozen 1
    have f2 := HZ.out.frozen 2
    have f3 := HZ.out.frozen 3
    go_wp2
    refine bodyPost_ret (v := .agg #[.int .i64 F, .int .i64 0, .int .i64 0, .slice none 0 0]) (by simp [results, Tryz.results10, go_sem, *]) rfl ?_
    exact .inl ⟨by rw [EC.out]; exact HNZ.out, by rw [EC.out], B1.out.trans ((keptQ _ _ _ _ _ _).below (Nat.le_succ _) B1.out.size)⟩
  obtain ⟨ta, tc, rfl, -⟩ := own_src hx.rx.tp.row
  obtain ⟨ha, hc, eh, -⟩ := own_bat (hx.rx.own (m.dt.length / s + 1) (Nat.le_refl _))
  rw [eh]
  obtain ⟨Tl, hTl⟩ : ∃ Tl, (tkN m.dt s (m.dt.length / s + 1)).length = Tl := ⟨_, rfl⟩
  obtain ⟨Hl, hHl⟩ : ∃ Hl, (hdN m.dt s (m.dt.length / s + 1)).length = Hl := ⟨_, rfl⟩
  rw [hTl, hHl]
  have CKR := Hid.mk' hx.ck
  have HO := Hid.mk' hx.rx.own
  clear hTl hHl eh
  obtain ⟨J, hJ⟩ : ∃ J, m.dt.length / s + 1 = J := ⟨_, rfl⟩
  have HJ := Hid.mk' hJ
  rw [hJ] at CKR HO ⊢
  have N1 := below_new w1 (.cells #[.slice (some ⟨gd, 0, none⟩) m.dt.length m.dt.length, .int .i64 (s : Int), .slice ta Tl tc, .slice ha Hl hc, .slice (some ⟨gc, 0, none⟩) J J] 27)
  have M1 := hb1.trans (N1.mono hb1.size)
  have HZ := Hid.mk' (rowB H2.out M1)
  have B1 := Hid.mk' (HB.out.trans (M1.mono HB.out.size))
  have RX := row5 w1 27 (.slice (some ⟨gd, 0, none⟩) m.dt.length m.dt.length) (.int .i64 (s : Int)) (.slice ta Tl tc) (.slice ha Hl hc) (.slice (some ⟨gc, 0, none⟩) J J)
  obtain ⟨x0, x1, x2, x3, x4, x5⟩ := cells5 RX
  have CK1 := Hid.mk' (rowB CKR.out N1)
  have HO1 : Hid (∀ i, i ≤ J → (w1.alloc (.cells #[.slice (some ⟨gd, 0, none⟩) m.dt.length m.dt.length, .int .i64 (s : Int), .slice ta Tl tc, .slice ha Hl hc, .slice (some ⟨gc, 0, none⟩) J J] 27)).ownsRow (W.heap.size + 1) 5 1 (hvs i) (hdN m.dt s i).length (bcs (hdN m.dt s i))) := Hid.mk' (fun i hi => own_keep (HO.out i hi) N1)
  have LW : Hid (w.heap.size + 2 ≤ W.heap.size) := Hid.mk' (by have := H2.out.lt; omega)
  have NGC : Hid (W.heap.size ≤ gc) := Hid.mk' (by have := hx.o1; have := hx.o2; omega)
  have NX1 : Hid (W.heap.size ≤ w1.heap.size) := Hid.mk' hb1.size
  have NX2 : Hid (w1.heap.size < (w1.alloc (.cells #[.slice (some ⟨gd, 0, none⟩) m.dt.length m.dt.length, .int .i64 (s : Int), .slice ta Tl tc, .slice ha Hl hc, .slice (some ⟨gc, 0, none⟩) J J] 27)).heap.size) := Hid.mk' x5
  clear N1 M1 hb1 RX hx CKR HO
  generalize hV : w1.alloc (.cells #[.slice (some ⟨gd, 0, none⟩) m.dt.length m.dt.length, .int .i64 (s : Int), .slice ta Tl tc, .slice ha Hl hc, .slice (some ⟨gc, 0, none⟩) J J] 27) = V at *
  by_cases hr : A < 0 ∨ (m.dt.length : Int) < A
  · have EC : Hid (lcC m A = 3) := Hid.mk' (by unfold lcC; rw [if_neg (by rw [hf]; simp), if_pos hr])
    by_cases hr1 : A < 0
    · clear hr
      obtain ⟨y0, y1, y2, y3, y4⟩ := cells4 HZ.out
      have f0 := HZ.out.frozen 0
      have f1 := HZ.out.frozen 1
      have f2 := HZ.out.frozen 2
      have f3 := HZ.out.frozen 3
      go_wp2
      refine bodyPost_ret (v := .agg #[.int .i64 3, .int .i64 0, .int .i64 0, .slice none 0 0]) (by simp [results, Tryz.results10, go_sem, *]) rfl ?_
      exact .inl ⟨by rw [EC.out]; simp, by rw [EC.out], B1.out.trans ((keptQ _ _ _ _ _ _).below (Nat.le_succ _) B1.out.size)⟩
    · have hr2 : (m.dt.length : Int) < A := by rcases hr with h | h; exact absurd h hr1; exact h
      clear hr
      obtain ⟨y0, y1, y2, y3, y4⟩ := cells4 HZ.out
      have f0 := HZ.out.frozen 0
      have f1 := HZ.out.frozen 1
      have f2 := HZ.out.frozen 2
      have f3 := HZ.out.frozen 3
      go_wp2
      refine bodyPost_ret (v := .agg #[.int .i64 3, .int .i64 0, .int .i64 0, .slice none 0 0]) (by simp [results, Tryz.results10, go_sem, *]) rfl ?_
      exact .inl ⟨by rw [EC.out]; simp, by rw [EC.out], B1.out.trans ((keptQ _ _ _ _ _ _).below (Nat.le_succ _) B1.out.size)⟩
  obtain ⟨n, rfl⟩ : ∃ n : Nat, A = (n : Int) := ⟨A.toNat, by omega⟩
  have hn : n ≤ m.dt.length := by omega
  have EC : Hid (lcC m (n : Int) = 0) := Hid.mk' (by unfold lcC; rw [if_neg (by rw [hf]; simp), if_neg hr])
  have hKJ : n / s < J := by rw [← hJ]; exact Nat.lt_succ_of_le (Nat.div_le_div_right hn)
  have hq0 : (n : Int) / (s : Int) = ((n / s : Nat) : Int) := by simp
  have hq1 : n / s ≤ n := Nat.div_le_self _ _
  obtain ⟨K, hK⟩ : ∃ K, n / s = K := ⟨_, rfl⟩
  rw [hK] at hq0 hq1 hKJ
  have HK := Hid.mk' hK
  have hwK : IntKind.i64.wrap (K : Int) = (K : Int) := by rw [IntKind.wrap_i64]; omega
  have hs0 : ¬ s = 0 := by omega
  have ck : (K : Int) < (J : Int) := by omega
  have hr1 : ¬ (n : Int) < 0 := by omega
  have hr2 : ¬ (m.dt.length : Int) < (n : Int) := by omega
  have HS := Hid.mk' (And.intro h240 (And.intro hst (And.intro hs hs2)))
  have OK := HO1.out K (by omega)
  obtain ⟨va, vc, ev, -⟩ := own_bat OK
  have c1 : V.cell? ⟨gc, K * 3, none⟩ = some (.int .i64 ((K * s : Nat) : Int)) := by
    rw [CK1.out.cell (i := K * 3) (by omega)]
    unfold ckV
    rw [show K * 3 / 3 = K by omega, show K * 3 % 3 = 0 by omega, if_pos hKJ]; rfl
  have c2 : V.cell? ⟨gc, K * 3 + 1, none⟩ = some (.int .i64 ((tkN m.dt s K).length : Int)) := by
    rw [CK1.out.cell (i := K * 3 + 1) (by omega)]
    unfold ckV
    rw [show (K * 3 + 1) / 3 = K by omega, show (K * 3 + 1) % 3 = 1 by omega, if_pos hKJ]; rfl
  have c3 : V.cell? ⟨gc, K * 3 + 2, none⟩ = some (.slice va (hdN m.dt s K).length vc) := by
    rw [CK1.out.cell (i := K * 3 + 2) (by omega)]
    unfold ckV
    rw [show (K * 3 + 2) / 3 = K by omega, show (K * 3 + 2) % 3 = 2 by omega, if_pos hKJ]
    show some (hvs K) = _
    rw [ev]
  have lg := CK1.out.lt
  rw [ev] at OK
  have HOK := Hid.mk' OK
  clear OK ev hst hs hs2 h240 hsame hK hJ hf hr CK1 HO1
  obtain ⟨Tn, hTn⟩ : ∃ Tn, (tkN m.dt s K).length = Tn := ⟨_, rfl⟩
  obtain ⟨H, hH⟩ : ∃ H, hdN m.dt s K = H := ⟨_, rfl⟩
  obtain ⟨Q, hQ⟩ : ∃ Q, K * s = Q := ⟨_, rfl⟩
  rw [hTn] at c2
  rw [hH] at c3 HOK
  rw [hQ] at c1
  have HTn := Hid.mk' hTn
  have HH := Hid.mk' hH
  have HQ := Hid.mk' hQ
  clear hTn hH hQ
  go_wp2_with (first | go_big_skip)
  clear hV
  have HCE : Hid (∀ v, Below V.heap.size V v → (fun v => v.cell? ⟨w1.heap.size, 4, none⟩ = some (.slice (some ⟨gc, 0, none⟩) J J) ∧ v.cell? ⟨w1.heap.size, 1, none⟩ = some (.int .i64 (s : Int)) ∧ v.cell? ⟨gc, K * 3, none⟩ = some (.int .i64 (Q : Int)) ∧ v.cell? ⟨gc, K * 3 + 1, none⟩ = some (.int .i64 (Tn : Int)) ∧ v.cell? ⟨gc, K * 3 + 2, none⟩ = some (.slice va H.length vc)) v) := Hid.mk' (fun v hb => ⟨(hb.cell x5).trans x4, (hb.cell x5).trans x1, (hb.cell lg).trans c1, (hb.cell lg).trans c2, (hb.cell lg).trans c3⟩)
  clear x0 x1 x2 x3 x4 x5 c1 c2 c3
  refine wp_region_held_drew (S := (fun v => v.cell? ⟨w1.heap.size, 4, none⟩ = some (.slice (some ⟨gc, 0, none⟩) J J) ∧ v.cell? ⟨w1.heap.size, 1, none⟩ = some (.int .i64 (s : Int)) ∧ v.cell? ⟨gc, K * 3, none⟩ = some (.int .i64 (Q : Int)) ∧ v.cell? ⟨gc, K * 3 + 1, none⟩ = some (.int .i64 (Tn : Int)) ∧ v.cell? ⟨gc, K * 3 + 2, none⟩ = some (.slice va H.length vc))) (by kernel_rfl) (HCE.out _ (Below.refl _ _).drew) (fun hHeld => ?_)
  refine tkY 0 ?_
  refine tkY 1 ?_
  refine tkY 2 ?_
  refine tkY 3 ?_
  refine tkY 4 ?_
  refine tkY 5 ?_
  refine tkY 6 ?_
  refine tkY 7 ?_
  refine tkY 8 ?_
  obtain ⟨k0, k1, k2, k3, k4⟩ := cells4 HZ.out
  have f0 := HZ.out.frozen 0
  have f1 := HZ.out.frozen 1
  have f2 := HZ.out.frozen 2
  have f3 := HZ.out.frozen 3
  have lz := HZ.out.lt
  have lw := LW.out
  have lgc : w.heap.size + 1 ≠ gc := by have := NGC.out; omega
  have lx : w.heap.size + 1 ≠ w1.heap.size := by have := NX1.out; omega
  have K2 := keptQ V (w.heap.size + 1) (.int .i64 0) (.int .i64 (Q : Int)) (.int .i64 (Tn : Int)) (.slice va H.length vc)
  have K3 := keptIn_drew K2
  have n1 : w1.heap.size < w.heap.size + 1 ∨ w.heap.size + 1 + 1 ≤ w1.heap.size := by have := NX1.out; omega
  have n2 : gc < w.heap.size + 1 ∨ w.heap.size + 1 + 1 ≤ gc := by have := NGC.out; omega
  refine wpAnyH_ready (rs := [9]) (by kernel_rfl) (by simp) ?_
  refine AllReadyH.cons (o := ⟨_, _, _, _, _, _⟩) rfl (fun K9 hK => ?_) AllReadyH.nil
  go_simp
  refine hK.out _ _ ?_ (fun hHeld => ?_)
  · have h0 := HCE.out V (Below.refl _ _)
    clear hK HCE
    exact ⟨(keptIn_cell K3 _ _ NX2.out n1).trans h0.1, (keptIn_cell K3 _ _ NX2.out n1).trans h0.2.1, (keptIn_cell K3 _ _ lg n2).trans h0.2.2.1, (keptIn_cell K3 _ _ lg n2).trans h0.2.2.2.1, (keptIn_cell K3 _ _ lg n2).trans h0.2.2.2.2⟩
  clear hK K9
  try simp only [Act.put, zA, zB, zC]
  refine wpAnyH_done (by kernel_rfl) ?_ _
  clear hHeld
  go_wp2
  refine bodyPost_ret (v := .agg #[.int .i64 0, .int .i64 (Q : Int), .int .i64 (Tn : Int), .slice va H.length vc]) (by simp [results, Tryz.results10, go_sem, *]) rfl ?_
  obtain ⟨h240, hst, hs, hs2⟩ := HS.out
  refine .inr ⟨EC.out, s, K, h240, hst, hs, hs2, by rw [← HK.out]; rfl, .slice va H.length vc, by rw [HQ.out, HTn.out], ?_, B1.out.trans (K3.below (Nat.le_succ _) B1.out.size)⟩
  rw [HH.out]
  exact keptIn_own K3 HOK.out (by omega) (by omega)

end Go.Proofs.YtieeojhdidjnaaaGreatDoor

namespace Go.Proofs.YtieeojhdidjnaaaGreatDoor
open Go.RowKit

def lcX (m : ME) (A : Int) : Int := if lcC m A = 0 then ((A.toNat / m.st.toNat * m.st.toNat : Nat) : Int) else 0
def lcY (m : ME) (A : Int) : Int := if lcC m A = 0 then ((tkN m.dt m.st.toNat (A.toNat / m.st.toNat)).length : Int) else 0
def lcL (m : ME) (A : Int) : List Int := if lcC m A = 0 then hdN m.dt m.st.toNat (A.toNat / m.st.toNat) else []

def LcQ (C X Y : Int) (L : List Int) (w : World) (e : Ending) (w' : World) : Prop :=
  ∃ v, e = .returned (.agg #[.int .i64 C, .int .i64 X, .int .i64 Y, v]) ∧ OB w' v L ∧ (∀ k, v.ownBlock = some k → w.heap.size ≤ k) ∧ Below w.heap.size w w'

theorem LcP.q {m : ME} {A : Int} {w w' : World} {e : Ending} (h : LcP m A w e w') : LcQ (lcC m A) (lcX m A) (lcY m A) (lcL m A) w e w' := by
  rcases h with ⟨h0, rfl, hb⟩ | ⟨h0, s, K, h240, hst, hs, hs2, hK, v, rfl, ho, hb⟩
  · refine ⟨.slice none 0 0, by unfold lcX lcY; rw [if_neg h0, if_neg h0], ?_, fun k hk => by simp [Value.ownBlock] at hk, hb⟩
    unfold lcL
    rw [if_neg h0]
    exact OB.none _
  · have e1 : m.st.toNat = s := by rw [hst]; simp
    obtain ⟨o1, o2⟩ := OB.of_own ho
    refine ⟨v, ?_, ?_, fun k hk => by have := o2 k hk; omega, hb⟩
    · unfold lcX lcY
      rw [if_pos h0, if_pos h0, e1, ← hK, h0]
    · unfold lcL
      rw [if_pos h0, e1, ← hK]
      exact o1

def ckR (L d : List Int) (Q i : Nat) : List TK × List Int := allX [] L ((d.drop Q).take (i - Q))

theorem ck_math {m : ME} {A : Int} (hub : Byt m.dt) (h : lcC m A = 0) : ∃ i Q s : Nat, A = (i : Int) ∧ lcX m A = (Q : Int) ∧ m.st = (s : Int) ∧ 1 ≤ s ∧ s ≤ 60 ∧ Q ≤ i ∧ i ≤ m.dt.length ∧ m.dt.length ≤ 240 ∧ i - Q < s ∧ Q % s = 0 ∧ GoodH (lcL m A) ∧ Byt (lcL m A) ∧ (allX [] [] (m.dt.take i)).2 = (ckR (lcL m A) m.dt Q i).2 ∧ ∃ y : Nat, lcY m A = (y : Int) ∧ (allX [] [] (m.dt.take i)).1.length = y + (ckR (lcL m A) m.dt Q i).1.length := by
  have hX : lcX m A = ((A.toNat / m.st.toNat * m.st.toNat : Nat) : Int) := by unfold lcX; rw [if_pos h]
  have hY : lcY m A = ((tkN m.dt m.st.toNat (A.toNat / m.st.toNat)).length : Int) := by unfold lcY; rw [if_pos h]
  have hL : lcL m A = hdN m.dt m.st.toNat (A.toNat / m.st.toNat) := by unfold lcL; rw [if_pos h]
  have h0 : memF m = 0 ∧ 0 ≤ A ∧ A ≤ m.dt.length := by
    unfold lcC at h
    by_cases h1 : memF m = 0
    · rw [if_neg (by simp [h1])] at h
      by_cases h2 : A < 0 ∨ (m.dt.length : Int) < A
      · rw [if_pos h2] at h; cases h
      · exact ⟨h1, by omega, by omega⟩
    · rw [if_pos h1] at h; exact absurd h h1
  obtain ⟨hm, a0, a1⟩ := h0
  obtain ⟨h240, s, hst, hs, hs2, -⟩ := memF_ok hm
  obtain ⟨i, rfl⟩ : ∃ i : Nat, A = (i : Int) := ⟨A.toNat, by omega⟩
  rw [hX, hY, hL, hst]
  simp only [Int.toNat_natCast]
  have hq : i / s * s ≤ i := Nat.div_mul_le_self _ _
  have hr : i - i / s * s = i % s := by have := Nat.div_add_mod i s; rw [Nat.mul_comm] at this; omega
  have hmod : i % s < s := Nat.mod_lt _ (by omega)
  have hsp : m.dt.take i = m.dt.take (i / s * s) ++ (m.dt.drop (i / s * s)).take (i - i / s * s) := by
    rw [← List.take_add]
    congr 1
    omega
  have e1 : allX [] [] (m.dt.take i) = (tkN m.dt s (i / s) ++ (ckR (hdN m.dt s (i / s)) m.dt (i / s * s) i).1, (ckR (hdN m.dt s (i / s)) m.dt (i / s * s) i).2) := by
    rw [hsp, allX_append, allX_from]
    rfl
  refine ⟨i, i / s * s, s, rfl, rfl, rfl, hs, hs2, hq, by omega, h240, by omega, Nat.mul_mod_left _ _, allX_good _ _ _ (.inl rfl), allX_byt _ _ _ (fun x hx => hub.mem x (List.mem_of_mem_take hx)) Byt.nil, by rw [e1], _, rfl, by rw [e1, List.length_append]⟩

def FlP (n : Nat) (H : List Int) (w : World) (e : Ending) (w' : World) : Prop :=
  ∃ ta tc ha hc, e = .returned (.agg #[.int .i64 0, .slice ta n tc, .slice ha H.length hc]) ∧ BAt w' ha H ∧ (∀ b o, ha = some ⟨b, o, none⟩ → w.heap.size ≤ b) ∧ Below w.heap.size w w'

theorem FfP.fl {h0 d : List Int} {w : World} {e : Ending} {w' : World} (h : FfP h0 d w e w') : FlP (allX [] h0 d).1.length (allX [] h0 d).2 w e w' := by
  obtain ⟨hv, tv, us, rs, bl, bh, lo, g, rfl, hlo, hx, hb⟩ := h
  obtain ⟨ta, tc, rfl, _⟩ := own_src hx.row
  obtain ⟨o, ho⟩ := OB.of_own hx.held
  obtain ⟨a, c, rfl, hba⟩ := o.len
  exact ⟨ta, tc, a, c, rfl, hba, fun b o e => by subst e; have := ho b rfl; omega, hb⟩

theorem bat_lt {w : World} {a : Option Addr} {l : List Int} {b o : Nat} (h : BAt w a l) (e : a = some ⟨b, o, none⟩) (hl : l ≠ []) : b < w.heap.size := by
  rcases h with h | ⟨b1, o1, e1, hs, -⟩
  · exact absurd h hl
  · rw [e1] at e; injection e with e; injection e with e2 _ _; omega

theorem bat_row {w : World} {a : Option Addr} {l : List Int} {g : Nat} (h : BAt w a l) (hg : ∀ b o, a = some ⟨b, o, none⟩ → l ≠ [] → b ≠ g) (cs : Array Value) : BAt (w.setRow g cs) a l := by
  by_cases hl : l = []
  · exact .inl hl
  rcases h with h | ⟨b, o, e, hs, hc⟩
  · exact .inl h
  · refine .inr ⟨b, o, e, by rw [setRow_size]; exact hs, fun k hk => ?_⟩
    rw [← hc k hk]
    exact World.cell?_of_block (setRow_other w g b cs (hg b o e hl))

end Go.Proofs.YtieeojhdidjnaaaGreatDoor

namespace Go.Proofs.YtieeojhdidjnaaaGreatDoor
open Go.RowKit

structure MD (w : World) (d : List Int) (s k c g : Nat) (dv tv cv hv : Value) (us : List Value) (hs : Nat → Value) (wr : World) : Prop where
  bel : Below w.heap.size w wr
  box : wr.rowIs g 27 5 (r5 dv (.int .i64 (s : Int)) tv (.slice none 0 0) cv)
  r0 : wr.rowIs w.heap.size 27 5 (r5 (.slice none 0 0) (.int .i64 0) (.slice none 0 0) (.slice none 0 0) (.slice none 0 0))
  gl : w.heap.size < g
  gt : tv.ownBlock ≠ some g
  gc : cv.ownBlock ≠ some g
  tr : wr.ownsRow (g + 1) 107 5 tv (allX [] [] (d.take k)).1.length (tcs (allX [] [] (d.take k)).1 us)
  ul : us.length = (allX [] [] (d.take k)).1.length
  uo : ∀ u ∈ us, u.oneCell' = true
  cr : wr.ownsRow (g + 1) 31 3 cv c (cvs d s c hs)
  xa : Ap tv cv
  tc : TC (XB g g tv cv) wr us (allX [] [] (d.take k)).1
  dt : wr.ownsRow (w.heap.size + 1) 5 1 dv d.length (bcs d)
  dg : ∀ q, dv.ownBlock = some q → q < g
  hd : BT (XB g g tv cv) wr hv (allX [] [] (d.take k)).2
  hc : ∀ i, i < c → BT (XB g g tv cv) wr (hs i) (hdN d s i)

theorem MD.keep {w : World} {d : List Int} {s k c g : Nat} {dv tv cv hv : Value} {us : List Value} {hs : Nat → Value} {wr wj : World} (x : MD w d s k c g dv tv cv hv us hs wr) (hb : Below wr.heap.size wr wj) : MD w d s k c g dv tv cv hv us hs wj :=
  ⟨x.bel.trans (hb.mono x.bel.size), rowB x.box hb, rowB x.r0 hb, x.gl, x.gt, x.gc, own_keep x.tr hb, x.ul, x.uo, own_keep x.cr hb, x.xa, x.tc.step (fun k h _ => hb.block k h) hb.size (fun _ h => .inl h), own_keep x.dt hb, x.dg, x.hd.step (fun k h _ => hb.block k h) hb.size (fun _ h => .inl h), fun i hi => (x.hc i hi).step (fun k h _ => hb.block k h) hb.size (fun _ h => .inl h)⟩

theorem MD.check {w : World} {d : List Int} {s k c g : Nat} {dv tv cv hv : Value} {us : List Value} {hs : Nat → Value} {wr w2 w3 : World} (x : MD w d s k c g dv tv cv hv us hs wr) {v cv' : Value} (hb : Below wr.heap.size wr w2) (hv2 : BT (XB g g tv cv) w2 v (hdN d s c))
    (ho : w3.ownsRow (g + 1) 31 3 cv' (c + 1) (cvs d s c hs ++ [.int .i64 ((c * s : Nat) : Int), .int .i64 ((tkN d s c).length : Int), v])) (hg : w2.grownBy w3 cv.ownBlock) (e : cv'.ownBlock = cv.ownBlock ∨ cv'.ownBlock = some w2.heap.size) :
    MD w d s k (c + 1) g dv tv cv' hv us (fun i => if i = c then v else hs i) (w3.setCell ⟨g, 4, none⟩ cv') := by
  have y := x.keep hb
  have s2 := hg.size
  have K := (KeptIn.refl g (g + 1) w3).setCell (p := ⟨g, 4, none⟩) (by simp) (by simp) cv'
  have sK := K.size
  have told : ∀ q, cv.ownBlock = some q → g + 1 ≤ q ∧ q < w2.heap.size := fun q e => y.cr.lt q e
  have tol : ∀ q, tv.ownBlock = some q → g + 1 ≤ q ∧ q < w2.heap.size := fun q e => y.tr.lt q e
  have gl := y.gl
  have gb := y.box.lt
  have kb : ∀ q, q < w2.heap.size → q ≠ g → cv.ownBlock ≠ some q → (w3.setCell ⟨g, 4, none⟩ cv').heap[q]? = w2.heap[q]? := fun q h1 h2 h3 => (K.block q (by omega) (by omega)).trans (hg.block q h1 (fun e => h3 e.symm))
  have kX : ∀ q, q < w2.heap.size → ¬ XB g g tv cv q → (w3.setCell ⟨g, 4, none⟩ cv').heap[q]? = w2.heap[q]? := fun q h1 h2 => kb q h1 (fun e => h2 (.inr (.inl e))) (fun e => h2 (.inr (.inr (.inr e))))
  have hX : ∀ q, XB g g tv cv' q → XB g g tv cv q ∨ w2.heap.size ≤ q := fun q h => by
    rcases h with h | h | h | h
    · exact .inl (.inl h)
    · exact .inl (.inr (.inl h))
    · exact .inl (.inr (.inr (.inl h)))
    · rcases e with e | e
      · exact .inl (.inr (.inr (.inr (e ▸ h))))
      · rw [e] at h; cases h; exact .inr (Nat.le_refl _)
  have sz : w2.heap.size ≤ (w3.setCell ⟨g, 4, none⟩ cv').heap.size := Nat.le_trans s2 sK
  have gc' : cv'.ownBlock ≠ some g := fun h => by
    rcases e with e | e
    · exact y.gc (e ▸ h)
    · rw [e] at h; cases h; omega
  refine ⟨?_, ?_, ?_, gl, y.gt, gc', ?_, y.ul, y.uo, ?_, ?_, y.tc.step kX sz hX, own_of y.dt (Nat.le_refl _) (fun q eq hq => kb q (y.dt.lt q eq).2 (by have := y.dg q eq; omega) (fun e => by have := y.dg q eq; have := told q e; omega)), y.dg, y.hd.step kX sz hX, fun i hi => ?_⟩
  · exact ⟨K.os.trans (hg.os.trans y.bel.os), K.tape.trans (hg.tape.trans y.bel.tape), K.output.trans (hg.output.trans y.bel.output), Nat.le_trans y.bel.size sz, fun q hq => (kb q (by have := y.bel.size; omega) (by omega) (fun e => by have := told q e; omega)).trans (y.bel.block q hq)⟩
  · have r := y.box.of_block (hg.block g gb (fun e => y.gc e.symm))
    refine (r.set 4 cv').congr (fun i hi => ?_)
    have h : i = 0 ∨ i = 1 ∨ i = 2 ∨ i = 3 ∨ i = 4 := by omega
    rcases h with rfl | rfl | rfl | rfl | rfl <;> simp [r5]
  · exact y.r0.of_block (kb _ y.r0.lt (by omega) (fun e => by have := told _ e; omega))
  · exact own_of y.tr (Nat.le_refl _) (fun q eq hq => kb q (tol q eq).2 (fun e => y.gt (e ▸ eq)) (fun e2 => y.xa q eq e2))
  · rw [← cvs_succ]
    exact own_of ho (Nat.le_refl _) (fun q eq hq => K.block q (ho.lt q eq).2 (by have : q ≠ g := fun e2 => gc' (e2 ▸ eq); omega))
  · intro q eq eq2
    rcases e with e | e
    · rw [e] at eq2; exact y.xa q eq eq2
    · rw [e] at eq2; cases eq2; have := tol _ eq; omega
  · by_cases h : i = c
    · subst h
      rw [if_pos rfl]
      exact hv2.step kX sz hX
    · rw [if_neg h]
      exact (y.hc i (by omega)).step kX sz hX

theorem MD.feed {w : World} {d : List Int} {s k c g : Nat} {dv tv cv hv : Value} {us : List Value} {hs : Nat → Value} {wr w2 w3 : World} (x : MD w d s k c g dv tv cv hv us hs wr) {tv' hv' : Value} {R : List TK × List Int} {us1 : List Value} (eX : allX [] [] (d.take (k + 1)) = ((allX [] [] (d.take k)).1 ++ R.1, R.2))
    (hb : Below wr.heap.size wr w2) (hl1 : us1.length = R.1.length) (h1 : ∀ u ∈ us1, u.oneCell' = true) (hA : ∀ (i : Nat) t u, R.1[i]? = some t → us1[i]? = some u → TokIn wr.heap.size w2 none t u) (hh : w2.ownsRow wr.heap.size 5 1 hv' R.2.length (bcs R.2))
    (ho : w3.ownsRow (g + 1) 107 5 tv' ((allX [] [] (d.take k)).1.length + R.1.length) (tcs (allX [] [] (d.take k)).1 us ++ tcs R.1 us1)) (hg : w2.grownBy w3 tv.ownBlock) (e : tv'.ownBlock = tv.ownBlock ∨ tv'.ownBlock = some w2.heap.size) :
    MD w d s (k + 1) c g dv tv' cv hv' (us ++ us1) hs (w3.setCell ⟨g, 2, none⟩ tv') := by
  have y := x.keep hb
  have s1 := hb.size
  have s2 := hg.size
  have K := (KeptIn.refl g (g + 1) w3).setCell (p := ⟨g, 2, none⟩) (by simp) (by simp) tv'
  have sK := K.size
  have told : ∀ q, cv.ownBlock = some q → g + 1 ≤ q ∧ q < wr.heap.size := fun q e => x.cr.lt q e
  have tol : ∀ q, tv.ownBlock = some q → g + 1 ≤ q ∧ q < wr.heap.size := fun q e => x.tr.lt q e
  have gl := y.gl
  have gb := x.box.lt
  have kb : ∀ q, q < w2.heap.size → q ≠ g → tv.ownBlock ≠ some q → (w3.setCell ⟨g, 2, none⟩ tv').heap[q]? = w2.heap[q]? := fun q h1 h2 h3 => (K.block q (by omega) (by omega)).trans (hg.block q h1 (fun e => h3 e.symm))
  have kX : ∀ q, q < w2.heap.size → ¬ XB g g tv cv q → (w3.setCell ⟨g, 2, none⟩ tv').heap[q]? = w2.heap[q]? := fun q h1 h2 => kb q h1 (fun e => h2 (.inr (.inl e))) (fun e => h2 (.inr (.inr (.inl e))))
  have hX : ∀ q, XB g g tv' cv q → XB g g tv cv q ∨ w2.heap.size ≤ q := fun q h => by
    rcases h with h | h | h | h
    · exact .inl (.inl h)
    · exact .inl (.inr (.inl h))
    · rcases e with e | e
      · exact .inl (.inr (.inr (.inl (e ▸ h))))
      · rw [e] at h; cases h; exact .inr (Nat.le_refl _)
    · exact .inl (.inr (.inr (.inr h)))
  have old : ∀ q, XB g g tv cv q → q < wr.heap.size := fun q h => by
    rcases h with h | h | h | h
    · omega
    · omega
    · exact (tol q h).2
    · exact (told q h).2
  have sz : w2.heap.size ≤ (w3.setCell ⟨g, 2, none⟩ tv').heap.size := Nat.le_trans s2 sK
  have gt' : tv'.ownBlock ≠ some g := fun h => by
    rcases e with e | e
    · exact y.gt (e ▸ h)
    · rw [e] at h; cases h; omega
  have e1 : (allX [] [] (d.take (k + 1))).1 = (allX [] [] (d.take k)).1 ++ R.1 := congrArg Prod.fst eX
  have e2 : (allX [] [] (d.take (k + 1))).2 = R.2 := by rw [eX]
  refine ⟨?_, ?_, ?_, gl, gt', y.gc, ?_, ?_, fun u hu => ?_, ?_, ?_, ?_, own_of y.dt (Nat.le_refl _) (fun q eq hq => kb q (y.dt.lt q eq).2 (by have := y.dg q eq; omega) (fun e => by have := y.dg q eq; have := tol q e; omega)), y.dg, ?_, fun i hi => (y.hc i hi).step kX sz hX⟩
  · exact ⟨K.os.trans (hg.os.trans y.bel.os), K.tape.trans (hg.tape.trans y.bel.tape), K.output.trans (hg.output.trans y.bel.output), Nat.le_trans y.bel.size sz, fun q hq => (kb q (by have := y.bel.size; omega) (by omega) (fun e => by have := tol q e; omega)).trans (y.bel.block q hq)⟩
  · have r := y.box.of_block (hg.block g (by omega) (fun e => y.gt e.symm))
    refine (r.set 2 tv').congr (fun i hi => ?_)
    have h : i = 0 ∨ i = 1 ∨ i = 2 ∨ i = 3 ∨ i = 4 := by omega
    rcases h with rfl | rfl | rfl | rfl | rfl <;> simp [r5]
  · exact y.r0.of_block (kb _ y.r0.lt (by omega) (fun e => by have := tol _ e; omega))
  · rw [e1, tcs_app _ _ _ _ x.ul, List.length_append]
    exact own_of ho (Nat.le_refl _) (fun q eq hq => K.block q (ho.lt q eq).2 (by have : q ≠ g := fun e2 => gt' (e2 ▸ eq); omega))
  · rw [e1, List.length_append, List.length_append, x.ul, hl1]
  · rcases List.mem_append.1 hu with hu | hu
    · exact x.uo u hu
    · exact h1 u hu
  · exact own_of y.cr (Nat.le_refl _) (fun q eq hq => kb q (by have := told q eq; omega) (fun e => y.gc (e ▸ eq)) (fun e2 => y.xa q e2 eq))
  · intro q eq eq2
    rcases e with e | e
    · rw [e] at eq; exact y.xa q eq eq2
    · rw [e] at eq; cases eq; have := told _ eq2; omega
  · rw [e1]
    exact (y.tc.app x.ul (TC.of hl1 hA old)).step kX sz hX
  · rw [e2]
    exact (BT.of_own hh (fun q eq hx => by have := (hh.lt q eq).1; have := old q hx; omega)).step kX sz hX
theorem MD.over {w : World} {d : List Int} {s k c g : Nat} {dv tv cv hv : Value} {us : List Value} {hs : Nat → Value} {wr : World} (x : MD w d s k c g dv tv cv hv us hs wr) (h : d.length ≤ k) : MD w d s (k + 1) c g dv tv cv hv us hs wr := by
  have e : d.take (k + 1) = d.take k := by rw [List.take_of_length_le h, List.take_of_length_le (by omega)]
  obtain ⟨a1, a2, a3, a4, a5, a6, a7, a8, a9, b1, b2, b3, b4, c4, b5, b6⟩ := x
  exact ⟨a1, a2, a3, a4, a5, a6, by rw [e]; exact a7, by rw [e]; exact a8, a9, b1, b2, by rw [e]; exact b3, b4, c4, by rw [e]; exact b5, b6⟩

end Go.Proofs.YtieeojhdidjnaaaGreatDoor

namespace Go.Proofs.YtieeojhdidjnaaaGreatDoor
open Go.RowKit

structure Src (b : Nat) (l : List Int) (k : Nat) (w : World) : Prop where
  row : ∃ a c, w.rowIs b 116 2 (q2 (.slice a l.length c) (.int .i64 k)) ∧ (l = [] ∨ ∃ g o, a = some ⟨g, o, none⟩ ∧ g < b ∧ ∀ i, i < l.length → w.cell? ⟨g, o + i, none⟩ = some (bv l i))
  u8 : ∀ i, i < l.length → 0 ≤ l.getD i 0 ∧ l.getD i 0 ≤ 255

theorem KeptIn.cell {lo hi : Nat} {w w' : World} (h : KeptIn lo hi w w') {p : Addr} (hp : p.block < w.heap.size) (hd : p.block < lo ∨ hi ≤ p.block) : w'.cell? p = w.cell? p :=
  World.cell?_of_block (h.block p.block hp hd)

theorem KeptIn.grown {lo hi : Nat} {w wr w1 : World} {row : Option Nat} (h : KeptIn lo hi w wr) (hg : wr.grownBy w1 row) (hr : ∀ k, row = some k → w.heap.size ≤ k) : KeptIn lo hi w w1 :=
  ⟨hg.os.trans h.os, hg.tape.trans h.tape, hg.output.trans h.output, Nat.le_trans h.size hg.size, fun k hk hc => (hg.block k (Nat.lt_of_lt_of_le hk h.size) (fun e => by have := hr k e.symm; omega)).trans (h.block k hk hc)⟩

theorem Src.lt {b k : Nat} {l : List Int} {w : World} (h : Src b l k w) : b < w.heap.size := by
  obtain ⟨a, c, hr, _⟩ := h.row
  exact hr.lt

theorem Src.kept {b k lo hi : Nat} {l : List Int} {w w' : World} (h : Src b l k w) (hk : KeptIn lo hi w w') (hb : b < lo) : Src b l k w' := by
  have hl := h.lt
  obtain ⟨a, c, hr, hc⟩ := h.row
  refine ⟨⟨a, c, rowK hr hk (.inl hb), ?_⟩, h.u8⟩
  rcases hc with hc | ⟨g, o, e, hg, hc⟩
  · exact .inl hc
  · exact .inr ⟨g, o, e, hg, fun i hi' => (hk.cell (p := ⟨g, o + i, none⟩) (show g < _ by omega) (.inl (show g < _ by omega))).trans (hc i hi')⟩

theorem Src.below {b k : Nat} {l : List Int} {w w' : World} (h : Src b l k w) (hb : Below w.heap.size w w') : Src b l k w' :=
  h.kept (lo := w.heap.size) (hi := w.heap.size) (KeptIn.of_below hb) h.lt

theorem Src.step {b k : Nat} {l : List Int} {w : World} (h : Src b l k w) : Src b l (k + 1) (w.setCell ⟨b, 1, none⟩ (.int .i64 (((k + 1 : Nat)) : Int))) := by
  have hl := h.lt
  obtain ⟨a, c, hr, hc⟩ := h.row
  refine ⟨⟨a, c, (hr.set 1 _).congr (fun i hi => ?_), ?_⟩, h.u8⟩
  · have : i = 0 ∨ i = 1 := by omega
    rcases this with rfl | rfl <;> simp [q2]
  · rcases hc with hc | ⟨g, o, e, hg, hc⟩
    · exact .inl hc
    · refine .inr ⟨g, o, e, hg, fun i hi' => ?_⟩
      have hk : KeptIn b (b + 1) w (w.setCell ⟨b, 1, none⟩ (.int .i64 (((k + 1 : Nat)) : Int))) := (KeptIn.refl _ _ _).setCell (p := ⟨b, 1, none⟩) (Nat.le_refl _) (Nat.lt_succ_self _) _
      exact (hk.cell (p := ⟨g, o + i, none⟩) (show g < _ by omega) (.inl hg)).trans (hc i hi')

theorem kept_at (w : World) (b : Nat) (v : Value) : KeptIn b (b + 1) w (w.setCell ⟨b, 1, none⟩ v) := (KeptIn.refl _ _ _).setCell (p := ⟨b, 1, none⟩) (Nat.le_refl _) (Nat.lt_succ_self _) _

theorem l1Source_any (a : Option Addr) (c : Nat) (l : List Int) (w : World) (ha : BAt w a l) (hu : ∀ i, i < l.length → 0 ≤ l.getD i 0 ∧ l.getD i 0 ≤ 255) :
    Calls Tryz.prog 40 #[.slice a l.length c] w fun e w' => e = .returned (.pointer (some ⟨w.heap.size, 0, none⟩)) ∧ Src w.heap.size l 0 w' ∧ Below w.heap.size w w' := by
  have N := below_new w (.cells #[.slice a l.length c, .int .i64 0] 116)
  have R := rowQ2 w 116 (.slice a l.length c) (.int .i64 0)
  have S : Hid (Src w.heap.size l 0 (w.alloc (.cells #[.slice a l.length c, .int .i64 0] 116))) := ⟨⟨a, c, R, by
    rcases ha.below N with h | ⟨g, o, e, hg, hc⟩
    · exact .inl h
    · rcases ha with h | ⟨g', o', e', hg', hc'⟩
      · exact .inl h
      · rw [e'] at e; cases e; exact .inr ⟨_, _, e', hg', hc⟩⟩, hu⟩
  have NN := Hid.mk' N
  clear N R ha
  go_enter Tryz.func40, Tryz.ntmps40
  go_wp2
  go_ret
  exact ⟨rfl, S.out, NN.out⟩

set_option maxRecDepth 100000 in
set_option maxHeartbeats 2000000 in
theorem l1Next_any (b k : Nat) (l : List Int) (n : Int) (w : World) (h : Src b l k w) (hk : k ≤ 1000000) (hn : 1 ≤ n) (hn2 : n ≤ 1000000000) (hl : (l.length : Int) ≤ 1048576) :
    Calls Tryz.prog 42 #[.pointer (some ⟨b, 0, none⟩), .int .i64 n] w fun e w' => ∃ v : Int, e = .returned (.int .i64 v) ∧ 0 ≤ v ∧ v < n ∧ Src b l (k + 1) w' ∧ KeptIn b (b + 1) w w' := by
  have S1 := Hid.mk' h.step
  have HK := Hid.mk' (kept_at w b (.int .i64 (((k + 1 : Nat)) : Int)))
  have hlt := h.lt
  have u8 := h.u8
  obtain ⟨a, c, hr, hc⟩ := h.row
  obtain ⟨x0, x1, x2⟩ := cellsQ2 hr
  have f1 := hr.frozen 1
  have e1 : ¬ n < 1 := by omega
  have ek : ((k + 1 : Nat) : Int) = (k : Int) + 1 := by omega
  have n0 : ¬ n = 0 := by omega
  rw [ek] at S1 HK
  clear ek
  by_cases c0 : l = []
  · subst c0
    clear hc u8 hr h
    have r1 := Int.emod_nonneg ((k : Int) * 7) n0
    have r2 := Int.emod_lt_of_pos ((k : Int) * 7) (show 0 < n by omega)
    have ez : (([] : List Int).length : Int) = 0 := rfl
    go_enter Tryz.func42, Tryz.ntmps42
    go_wp2
    go_ret
    exact ⟨_, rfl, r1, r2, S1.out, HK.out⟩
  · obtain ⟨g, o, rfl, hg, hcell⟩ : ∃ g o, a = some ⟨g, o, none⟩ ∧ g < b ∧ ∀ i, i < l.length → w.cell? ⟨g, o + i, none⟩ = some (bv l i) := by
      rcases hc with hc | hc
      · exact absurd hc c0
      · exact hc
    have lp : 0 < l.length := List.length_pos_iff.2 c0
    obtain ⟨L, hL⟩ : ∃ L, l.length = L := ⟨_, rfl⟩
    rw [hL] at lp hcell x0 hl u8
    obtain ⟨i, hi⟩ : ∃ i, k % L = i := ⟨_, rfl⟩
    obtain ⟨d, hd⟩ : ∃ d, k / L = d := ⟨_, rfl⟩
    obtain ⟨j, hj⟩ : ∃ j, (k + 1) % L = j := ⟨_, rfl⟩
    have il : i < L := by rw [← hi]; exact Nat.mod_lt _ lp
    have jl : j < L := by rw [← hj]; exact Nat.mod_lt _ lp
    have dk : d ≤ k := by rw [← hd]; exact Nat.div_le_self _ _
    have gi := hcell i il
    have gj := hcell j jl
    obtain ⟨xi, hxi⟩ : ∃ x, l.getD i 0 = x := ⟨_, rfl⟩
    obtain ⟨xj, hxj⟩ : ∃ x, l.getD j 0 = x := ⟨_, rfl⟩
    have ui := u8 i il
    have uj := u8 j jl
    unfold bv at gi gj
    rw [hxi] at gi ui
    rw [hxj] at gj uj
    have ei : (k : Int) % (L : Int) = (i : Int) := by rw [← hi]; omega
    have ed : (k : Int) / (L : Int) = (d : Int) := by rw [← hd]; omega
    have ej : ((k : Int) + 1) % (L : Int) = (j : Int) := by subst hj; simp
    have L0 : ¬ (L : Int) = 0 := by omega
    have Lb : ((L : Int) == 0) = false := by rw [beq_eq_false_iff_ne]; exact L0
    have bne : ¬ b = g := by omega
    have gne : ¬ g = b := by omega
    clear hi hd hj hxi hxj hcell hc u8 hr h c0
    by_cases c2 : 200 < n
    · obtain ⟨v, hv⟩ : ∃ v : Int, (xi + (d : Int) * 37) * 251 + xj * 13 + (k : Int) = v := ⟨_, rfl⟩
      have v0 : 0 ≤ v := by omega
      have v1 : v ≤ 100000000000 := by omega
      have r1 := Int.emod_nonneg v n0
      have r2 := Int.emod_lt_of_pos v (show 0 < n by omega)
      go_enter Tryz.func42, Tryz.ntmps42
      go_wp2
      go_region
      go_wp2
      go_region
      go_wp2
      go_ret
      exact ⟨_, rfl, r1, r2, (S1.out.below (Below.refl _ _).drew).below (Below.refl _ _).drew, ⟨HK.out.os, HK.out.tape, HK.out.output, HK.out.size, HK.out.block⟩⟩
    · obtain ⟨v, hv⟩ : ∃ v : Int, xi + (d : Int) * 37 = v := ⟨_, rfl⟩
      have v0 : 0 ≤ v := by omega
      have v1 : v ≤ 100000000000 := by omega
      have r1 := Int.emod_nonneg v n0
      have r2 := Int.emod_lt_of_pos v (show 0 < n by omega)
      go_enter Tryz.func42, Tryz.ntmps42
      go_wp2
      go_region
      go_wp2
      go_ret
      exact ⟨_, rfl, r1, r2, S1.out.below (Below.refl _ _).drew, ⟨HK.out.os, HK.out.tape, HK.out.output, HK.out.size, HK.out.block⟩⟩

theorem l1Chance_any (b k : Nat) (l : List Int) (n : Int) (w : World) (h : Src b l k w) (hk : k ≤ 1000000) (hn : 1 ≤ n) (hn2 : n ≤ 1000000000) (hl : (l.length : Int) ≤ 1048576) :
    Calls Tryz.prog 45 #[.pointer (some ⟨b, 0, none⟩), .int .i64 n] w fun e w' => ∃ v : Bool, e = .returned (.bool v) ∧ Src b l (k + 1) w' ∧ KeptIn b (b + 1) w w' := by
  have K := Hid.mk' (l1Next_any b k l n w h hk hn hn2 hl)
  clear h
  go_enter Tryz.func45, Tryz.ntmps45
  go_wp2_with fail
  refine K.out.mono ?_
  rintro e w1 ⟨v, rfl, _, _, hS, hK⟩
  have HS := Hid.mk' hS
  have HK := Hid.mk' hK
  clear K hS hK
  go_wp2
  go_ret
  exact ⟨_, rfl, HS.out, HK.out⟩

def IAt (w : World) (g : Nat) (l : List Int) : Prop := g < w.heap.size ∧ ∀ i, i < l.length → w.cell? ⟨g, i, none⟩ = some (.int .i64 (l.getD i 0))

set_option maxHeartbeats 400000 in
theorem l1Pick_any (b k g c : Nat) (l xs : List Int) (w : World) (h : Src b l k w) (hx : IAt w g xs) (hg : b ≠ g) (hk : k ≤ 1000000) (hn : 1 ≤ xs.length) (hn2 : xs.length ≤ 1000) (hl : (l.length : Int) ≤ 1048576) :
    Calls Tryz.prog 61 #[.pointer (some ⟨b, 0, none⟩), .slice (some ⟨g, 0, none⟩) xs.length c] w fun e w' => ∃ i, i < xs.length ∧ e = .returned (.int .i64 (xs.getD i 0)) ∧ Src b l (k + 1) w' ∧ KeptIn b (b + 1) w w' := by
  have K := Hid.mk' (l1Next_any b k l xs.length w h hk (by omega) (by omega) hl)
  have HX := Hid.mk' hx
  clear h hx
  obtain ⟨n, hn'⟩ : ∃ n, xs.length = n := ⟨_, rfl⟩
  rw [hn'] at K hn hn2 ⊢
  go_enter Tryz.func61, Tryz.ntmps61
  go_wp2_with fail
  refine K.out.mono ?_
  rintro e w1 ⟨v, rfl, v0, v1, hS, hK⟩
  have HS := Hid.mk' hS
  have HK := Hid.mk' hK
  obtain ⟨i, rfl⟩ : ∃ i : Nat, v = (i : Int) := ⟨v.toNat, by omega⟩
  have il : i < n := by omega
  have hc : w1.cell? ⟨g, i, none⟩ = some (.int .i64 (xs.getD i 0)) := (hK.cell (p := ⟨g, i, none⟩) HX.out.1 (show g < b ∨ b + 1 ≤ g by omega)).trans (HX.out.2 i (by omega))
  generalize hy : xs.getD i 0 = y at hc
  clear K hS hK
  go_wp2
  go_ret
  exact ⟨i, il, by rw [hy]; rfl, HS.out, HK.out⟩

end Go.Proofs.YtieeojhdidjnaaaGreatDoor
