/- Faults of memos: the program's side. -/
import Derived.Test.YtlimgcmhidooaaaGreatDoorL29
set_option linter.unusedVariables false
set_option linter.unusedSimpArgs false
namespace Go.Proofs.YtlimgcmhidooaaaGreatDoor
open Go.RowKit

theorem takeM_all (d : List Int) (s : Nat) (hs : 1 ≤ s) : d.take ((d.length / s + 1) * s) = d := List.take_of_length_le (by
  have h1 := Nat.div_add_mod d.length s
  have h2 := Nat.mod_lt d.length (show 0 < s by omega)
  rw [Nat.add_mul, Nat.mul_comm (d.length / s)]; omega)

theorem NM.at {base : Nat} {d : List Int} {s : Nat} {gd gc : Nat} {tv : Value} {hvs : Nat → Value} {us : List Value} {rs : Nat → List Value} {bl bh : Nat → Nat} {w : World} (x : NM base d s gd gc tv hvs us rs bl bh w) (hs : 1 ≤ s) : ∃ ta tc ha hc, tv = .slice ta (allX [] [] d).1.length tc ∧ hvs (d.length / s + 1) = .slice ha (allX [] [] d).2.length hc ∧ MAt w (some ⟨gd, 0, none⟩) ta ha (some ⟨gc, 0, none⟩) (memX d s) := by
  obtain ⟨ta, tc, e1, b1⟩ := x.rx.tp.tsAtN
  obtain ⟨ha, hc, e2, b2⟩ := own_bat (x.rx.own (d.length / s + 1) (Nat.le_refl _))
  have et1 : tkN d s (d.length / s + 1) = (allX [] [] d).1 := by show (allX [] [] (d.take _)).1 = _; rw [takeM_all d s hs]
  have et2 : hdN d s (d.length / s + 1) = (allX [] [] d).2 := by show (allX [] [] (d.take _)).2 = _; rw [takeM_all d s hs]
  rw [et1] at e1 b1
  rw [et2] at e2 b2
  refine ⟨ta, tc, ha, hc, e1, e2, .of_row x.dt, b1, b2, ?_⟩
  show CsAt w (some ⟨gc, 0, none⟩) (cksN d s (d.length / s + 1))
  refine .inr ⟨gc, 0, rfl, x.ck.lt, fun k hk => ?_⟩
  rw [cksN_len] at hk
  rw [cksN_at d s _ k hk]
  have v0 := x.ck.cell (i := k * 3) (by omega)
  have v1 := x.ck.cell (i := k * 3 + 1) (by omega)
  have v2 := x.ck.cell (i := k * 3 + 2) (by omega)
  unfold ckV at v0 v1 v2
  rw [show k * 3 / 3 = k by omega, show k * 3 % 3 = 0 by omega, if_pos hk] at v0
  rw [show (k * 3 + 1) / 3 = k by omega, show (k * 3 + 1) % 3 = 1 by omega, if_pos hk] at v1
  rw [show (k * 3 + 2) / 3 = k by omega, show (k * 3 + 2) % 3 = 2 by omega, if_pos hk] at v2
  obtain ⟨p, q, e, b⟩ := own_bat (x.rx.own k (by omega))
  refine ⟨by rw [Nat.zero_add]; exact v0, by rw [Nat.zero_add]; exact v1, p, q, ?_, b⟩
  rw [Nat.zero_add, v2]
  show some (hvs k) = _
  rw [e]; rfl

theorem NM.down {base base' : Nat} {d : List Int} {s : Nat} {gd gc : Nat} {tv : Value} {hvs : Nat → Value} {us : List Value} {rs : Nat → List Value} {bl bh : Nat → Nat} {w : World} (x : NM base d s gd gc tv hvs us rs bl bh w) (h : base' ≤ base) : NM base' d s gd gc tv hvs us rs bl bh w :=
  ⟨by obtain ⟨v, h1, h2⟩ := x.v1; exact ⟨v, h1, h2.down h⟩, x.rx.down h, x.dt, x.ck, by have := x.o1; omega, x.o2⟩

def RmP (m : ME) (w : World) (e : Ending) (w' : World) : Prop :=
  (¬ memF m = 0 ∧ e = .returned (.tuple #[.agg #[.slice none 0 0, .int .i64 0, .slice none 0 0, .slice none 0 0, .slice none 0 0], .int .i64 (memF m)]) ∧ Below w.heap.size w w') ∨
  (memF m = 0 ∧ m.dt.length ≤ 240 ∧ ∃ s : Nat, m.st = (s : Int) ∧ 1 ≤ s ∧ s ≤ 60 ∧ sameR (memX m.dt s) m = true ∧ ∃ gd gc tv hvs us rs bl bh, e = .returned (.tuple #[.agg #[.slice (some ⟨gd, 0, none⟩) m.dt.length m.dt.length, .int .i64 (s : Int), tv, hvs (m.dt.length / s + 1), .slice (some ⟨gc, 0, none⟩) (m.dt.length / s + 1) (m.dt.length / s + 1)], .int .i64 0]) ∧ NM (w.heap.size + 1) m.dt s gd gc tv hvs us rs bl bh w' ∧ Below w.heap.size w w')

theorem askC_large {d : List Int} {st : Int} (h : 240 < d.length) : askC d st = 6 := by unfold askC; rw [if_pos h]
theorem askC_range {d : List Int} {st : Int} (h : d.length ≤ 240) (h2 : st < 1 ∨ 60 < st) : askC d st = 3 := by unfold askC; rw [if_neg (by omega), if_pos h2]
theorem askC_good {d : List Int} {s : Nat} (h : d.length ≤ 240) (h1 : 1 ≤ s) (h2 : s ≤ 60) : askC d (s : Int) = 0 := by unfold askC; rw [if_neg (by omega), if_neg (by omega)]

theorem boxesR (w : World) (x0 x1 x2 x3 x4 : Value) :
    let W := (w.alloc (.cells #[x0, x1, x2, x3, x4] 27)).alloc (.cells #[.slice none 0 0, .int .i64 0, .slice none 0 0, .slice none 0 0, .slice none 0 0] 27)
    Below w.heap.size w W ∧ W.rowIs w.heap.size 27 5 (r5 x0 x1 x2 x3 x4) ∧ W.rowIs (w.heap.size + 1) 27 5 (r5 (.slice none 0 0) (.int .i64 0) (.slice none 0 0) (.slice none 0 0) (.slice none 0 0)) := by
  obtain ⟨B0, R1, R2⟩ := two5 w 27 x0 x1 x2 x3 x4 (.slice none 0 0) (.int .i64 0) (.slice none 0 0) (.slice none 0 0) (.slice none 0 0)
  exact ⟨B0, R1, R2⟩

theorem fiveM {B : Nat} {w w' : World} (h : Below B w w') {c : Nat} {v0 v1 v2 v3 v4 : Value} (hc : B ≤ c) : Below B w (((((w'.setCell ⟨c, 0, none⟩ v0).setCell ⟨c, 1, none⟩ v1).setCell ⟨c, 2, none⟩ v2).setCell ⟨c, 3, none⟩ v3).setCell ⟨c, 4, none⟩ v4) :=
  ((((h.setCell (p := ⟨c, 0, none⟩) hc v0).setCell (p := ⟨c, 1, none⟩) hc v1).setCell (p := ⟨c, 2, none⟩) hc v2).setCell (p := ⟨c, 3, none⟩) hc v3).setCell (p := ⟨c, 4, none⟩) hc v4

theorem kept5 (w' : World) (c : Nat) (v0 v1 v2 v3 v4 : Value) : KeptIn c (c + 1) w' (((((w'.setCell ⟨c, 0, none⟩ v0).setCell ⟨c, 1, none⟩ v1).setCell ⟨c, 2, none⟩ v2).setCell ⟨c, 3, none⟩ v3).setCell ⟨c, 4, none⟩ v4) :=
  (((((KeptIn.refl c (c + 1) w').setCell (p := ⟨c, 0, none⟩) (by simp) (by simp) v0).setCell (p := ⟨c, 1, none⟩) (by simp) (by simp) v1).setCell (p := ⟨c, 2, none⟩) (by simp) (by simp) v2).setCell (p := ⟨c, 3, none⟩) (by simp) (by simp) v3).setCell (p := ⟨c, 4, none⟩) (by simp) (by simp) v4

set_option maxRecDepth 100000 in
set_option maxHeartbeats 6400000 in
theorem rightMemo_any (tp : TypeId) (pv : Value) (m : ME) (a t u c : Option Addr) (ca ct cu cc : Nat) (w : World) (hE : Env w.heap.size tp pv w) (h1 : MAt w a t u c m) (hca : m.dt.length ≤ ca) (hub : Byt m.dt) (hm : (msz m : Int) ≤ 1048576) :
    Calls Tryz.prog 43 #[.agg #[.slice a m.dt.length ca, .int .i64 m.st, .slice t m.tk.length ct, .slice u m.hd.length cu, .slice c m.cs.length cc]] w fun e w' => RmP m w e w' := by
  have MS_ : (msz m : Int) = m.dt.length + m.tk.length + tssz m.tk + m.hd.length + m.cs.length + csz m.cs := by unfold msz; omega
  obtain ⟨B0, R1, R2⟩ := boxesR w (.slice a m.dt.length ca) (.int .i64 m.st) (.slice t m.tk.length ct) (.slice u m.hd.length cu) (.slice c m.cs.length cc)
  have KN := Hid.mk' (implNM_any tp pv m.dt m.st a ca _ ((hE.keep B0).up B0.size (Nat.le_refl _)) (h1.1.below B0) hca hub (by omega))
  have HA := Hid.mk' (h1.below B0)
  have HB := Hid.mk' B0
  have H1 := Hid.mk' R1
  have H2 := Hid.mk' R2
  have HM := Hid.mk' hm
  clear MS_ B0 R1 R2 hE h1 hub hm
  generalize hW : (w.alloc (.cells #[.slice a m.dt.length ca, .int .i64 m.st, .slice t m.tk.length ct, .slice u m.hd.length cu, .slice c m.cs.length cc] 27)).alloc (.cells #[.slice none 0 0, .int .i64 0, .slice none 0 0, .slice none 0 0, .slice none 0 0] 27) = W at *
  obtain ⟨x0, x1, x2, x3, x4, x5⟩ := cells5 H1.out
  go_enter Tryz.func43, Tryz.ntmps43
  go_wp2_with fail
  clear hW x0 x1 x2 x3 x4 x5
  refine KN.out.mono ?_
  rintro e w1 (⟨h6, rfl, hb1⟩ | ⟨h6, h3, rfl, hb1⟩ | ⟨h6, s, hst, hs, hs2, gd, gc, tv, hvs, us, rs, bl, bh, rfl, hx, hb1⟩)
  · have K6 : Hid (askC m.dt m.st = 6) := Hid.mk' (askC_large h6)
    clear h6
    have N1 := below_new w1 (.cells #[.int .i64 6, .int .i64 0, .slice none 0 0, .int .i64 0, .slice none 0 0, .slice none 0 0, .slice none 0 0] 50)
    have M1 := hb1.trans (N1.mono hb1.size)
    have RZ := rowB H2.out M1
    obtain ⟨y0, y1, y2, y3, y4, y5⟩ := cells5 RZ
    have f0 := RZ.frozen 0
    have f1 := RZ.frozen 1
    have f2 := RZ.frozen 2
    have f3 := RZ.frozen 3
    have f4 := RZ.frozen 4
    have Q7 := row7 w1 50 (.int .i64 6) (.int .i64 0) (.slice none 0 0) (.int .i64 0) (.slice none 0 0) (.slice none 0 0) (.slice none 0 0)
    obtain ⟨z0, z1, z2, z3, z4, z5, z6, z7⟩ := cells7 Q7
    have B1 := Hid.mk' (HB.out.trans (M1.mono HB.out.size))
    have hne : w.heap.size + 1 ≠ w1.heap.size := by have := H2.out.lt; have := hb1.size; omega
    have HNE := Hid.mk' hne
    clear N1 M1 RZ Q7 hb1
    go_wp2
    generalize hV : w1.alloc (.cells #[.int .i64 6, .int .i64 0, .slice none 0 0, .int .i64 0, .slice none 0 0, .slice none 0 0, .slice none 0 0] 50) = V at *
    go_region_held3 (fun w' => w'.cell? ⟨w1.heap.size, 0, none⟩ = some (.int .i64 6)) (first | (simp [*]; done) | go_keep) (fail)
    go_wp2
    refine bodyPost_ret (v := .tuple #[.agg #[.slice none 0 0, .int .i64 0, .slice none 0 0, .slice none 0 0, .slice none 0 0], .int .i64 6]) (by simp [results, Tryz.results43, go_sem, *]) rfl ?_
    have e6 : memF m = 6 := by unfold memF; rw [K6.out, if_pos (by simp)]
    exact .inl ⟨by rw [e6]; simp, by rw [e6], (fiveM B1.out (Nat.le_succ _)).drew⟩
  · have K3 : Hid (askC m.dt m.st = 3) := Hid.mk' (askC_range h6 h3)
    clear h6 h3
    have N1 := below_new w1 (.cells #[.int .i64 3, .int .i64 0, .slice none 0 0, .int .i64 0, .slice none 0 0, .slice none 0 0, .slice none 0 0] 50)
    have M1 := hb1.trans (N1.mono hb1.size)
    have RZ := rowB H2.out M1
    obtain ⟨y0, y1, y2, y3, y4, y5⟩ := cells5 RZ
    have f0 := RZ.frozen 0
    have f1 := RZ.frozen 1
    have f2 := RZ.frozen 2
    have f3 := RZ.frozen 3
    have f4 := RZ.frozen 4
    have Q7 := row7 w1 50 (.int .i64 3) (.int .i64 0) (.slice none 0 0) (.int .i64 0) (.slice none 0 0) (.slice none 0 0) (.slice none 0 0)
    obtain ⟨z0, z1, z2, z3, z4, z5, z6, z7⟩ := cells7 Q7
    have B1 := Hid.mk' (HB.out.trans (M1.mono HB.out.size))
    have hne : w.heap.size + 1 ≠ w1.heap.size := by have := H2.out.lt; have := hb1.size; omega
    have HNE := Hid.mk' hne
    clear N1 M1 RZ Q7 hb1
    go_wp2
    generalize hV : w1.alloc (.cells #[.int .i64 3, .int .i64 0, .slice none 0 0, .int .i64 0, .slice none 0 0, .slice none 0 0, .slice none 0 0] 50) = V at *
    go_region_held3 (fun w' => w'.cell? ⟨w1.heap.size, 0, none⟩ = some (.int .i64 3)) (first | (simp [*]; done) | go_keep) (fail)
    go_wp2
    refine bodyPost_ret (v := .tuple #[.agg #[.slice none 0 0, .int .i64 0, .slice none 0 0, .slice none 0 0, .slice none 0 0], .int .i64 3]) (by simp [results, Tryz.results43, go_sem, *]) rfl ?_
    have e6 : memF m = 3 := by unfold memF; rw [K3.out, if_pos (by simp)]
    exact .inl ⟨by rw [e6]; simp, by rw [e6], (fiveM B1.out (Nat.le_succ _)).drew⟩

  · obtain ⟨ta, tc, ha, hc, rfl, eh, mx⟩ := hx.at hs
    rw [eh]
    have N1 := below_new w1 (.cells #[.int .i64 0, .int .i64 (m.dt.length : Int), .slice (some ⟨gd, 0, none⟩) m.dt.length m.dt.length, .int .i64 (s : Int), .slice ta (allX [] [] m.dt).1.length tc, .slice ha (allX [] [] m.dt).2.length hc, .slice (some ⟨gc, 0, none⟩) (m.dt.length / s + 1) (m.dt.length / s + 1)] 50)
    have M1 := hb1.trans (N1.mono hb1.size)
    have KS := sameReading_any (memX m.dt s) m (some ⟨gd, 0, none⟩) ta ha (some ⟨gc, 0, none⟩) a t u c m.dt.length tc hc (m.dt.length / s + 1) ca ct cu cc _ (mx.below N1) (HA.out.below M1) (by have := mem_small m.dt s h6; omega) HM.out
    have ecl : (memX m.dt s).cs.length = m.dt.length / s + 1 := cksN_len _ _ _
    rw [ecl] at KS
    have KS : Calls Tryz.prog 47 #[.agg #[.slice (some ⟨gd, 0, none⟩) m.dt.length m.dt.length, .int .i64 (s : Int), .slice ta (allX [] [] m.dt).1.length tc, .slice ha (allX [] [] m.dt).2.length hc, .slice (some ⟨gc, 0, none⟩) (m.dt.length / s + 1) (m.dt.length / s + 1)], .agg #[.slice a m.dt.length ca, .int .i64 m.st, .slice t m.tk.length ct, .slice u m.hd.length cu, .slice c m.cs.length cc]] _ fun e w' => e = .returned (.bool (sameR (memX m.dt s) m)) ∧ Below _ _ w' := KS
    rw [hst] at KS
    have R1 := rowB H1.out M1
    rw [hst] at R1
    obtain ⟨x0, x1, x2, x3, x4, x5⟩ := cells5 R1
    have K0 : Hid (askC m.dt m.st = 0) := Hid.mk' (by rw [hst]; exact askC_good h6 hs hs2)
    have EF : Hid (memF m = if sameR (memX m.dt s) m then 0 else 1) := Hid.mk' (by
      unfold memF
      rw [if_neg (by rw [K0.out]; simp), hst]; rfl)
    have Q7 := row7 w1 50 (.int .i64 0) (.int .i64 (m.dt.length : Int)) (.slice (some ⟨gd, 0, none⟩) m.dt.length m.dt.length) (.int .i64 (s : Int)) (.slice ta (allX [] [] m.dt).1.length tc) (.slice ha (allX [] [] m.dt).2.length hc) (.slice (some ⟨gc, 0, none⟩) (m.dt.length / s + 1) (m.dt.length / s + 1))
    obtain ⟨z0, z1, z2, z3, z4, z5, z6, z7⟩ := cells7 Q7
    have HQ := Hid.mk' Q7
    have HX := Hid.mk' (hx.below N1)
    have HR1 := Hid.mk' R1
    have RZ := Hid.mk' (rowB H2.out M1)
    have KS := Hid.mk' KS
    have B1 := Hid.mk' (HB.out.trans (M1.mono HB.out.size))
    have hne : w.heap.size + 1 < w1.heap.size := by have := H2.out.lt; have := hb1.size; omega
    have HNE := Hid.mk' hne
    have HS := Hid.mk' (And.intro h6 (And.intro hst (And.intro hs hs2)))
    have EH := Hid.mk' eh
    have L1 := H2.out.lt
    have LW : Hid (w.heap.size + 1 ≤ W.heap.size) := Hid.mk' (by have := H2.out.lt; omega)
    clear N1 M1 hb1 mx hx R1 Q7 ecl hst hs hs2 h6 eh hne L1
    generalize hT : (allX [] [] m.dt).1 = T at *
    generalize hH : (allX [] [] m.dt).2 = H at *
    generalize hJ : m.dt.length / s + 1 = J at *
    have HT := Hid.mk' hT
    have HH := Hid.mk' hH
    have HJ := Hid.mk' hJ
    clear hT hH hJ
    obtain ⟨R, hR⟩ : ∃ R, sameR (memX m.dt s) m = R := ⟨_, rfl⟩
    have HR := Hid.mk' hR
    rw [hR] at KS EF
    clear hR
    generalize hV : w1.alloc (.cells #[.int .i64 0, .int .i64 (m.dt.length : Int), .slice (some ⟨gd, 0, none⟩) m.dt.length m.dt.length, .int .i64 (s : Int), .slice ta T.length tc, .slice ha H.length hc, .slice (some ⟨gc, 0, none⟩) J J] 50) = V at *
    cases R with
    | false =>
      go_wp2_with fail
      clear hV
      refine KS.out.mono ?_
      rintro e w2 ⟨rfl, hb2⟩
      have RZ2 := rowB RZ.out hb2
      obtain ⟨y0, y1, y2, y3, y4, y5⟩ := cells5 RZ2
      have f0 := RZ2.frozen 0
      have f1 := RZ2.frozen 1
      have f2 := RZ2.frozen 2
      have f3 := RZ2.frozen 3
      have f4 := RZ2.frozen 4
      have B2 := Hid.mk' (B1.out.trans (hb2.mono B1.out.size))
      clear RZ2 hb2 x0 x1 x2 x3 x4 x5 z0 z1 z2 z3 z4 z5 z6 z7
      go_wp2
      refine bodyPost_ret (v := .tuple #[.agg #[.slice none 0 0, .int .i64 0, .slice none 0 0, .slice none 0 0, .slice none 0 0], .int .i64 1]) (by simp [results, Tryz.results43, go_sem, *]) rfl ?_
      have e1 : memF m = 1 := by rw [EF.out]; rfl
      exact .inl ⟨by rw [e1]; simp, by rw [e1], fiveM B2.out (Nat.le_succ _)⟩
    | true =>
      go_wp2_with fail
      clear hV
      refine KS.out.mono ?_
      rintro e w2 ⟨rfl, hb2⟩
      have RZ2 := rowB RZ.out hb2
      obtain ⟨y0, y1, y2, y3, y4, y5⟩ := cells5 RZ2
      have f0 := RZ2.frozen 0
      have f1 := RZ2.frozen 1
      have f2 := RZ2.frozen 2
      have f3 := RZ2.frozen 3
      have f4 := RZ2.frozen 4
      have Q2 := rowB HQ.out hb2
      clear x0 x1 x2 x3 x4 x5 z0 z1 z2 z3 z4 z5 z6 z7
      obtain ⟨z0, z1, z2, z3, z4, z5, z6, z7⟩ := cells7 Q2
      have B2 := Hid.mk' (B1.out.trans (hb2.mono B1.out.size))
      have HX2 := Hid.mk' (HX.out.below hb2)
      clear RZ2 Q2 hb2
      go_wp2
      refine bodyPost_ret (v := .tuple #[.agg #[.slice (some ⟨gd, 0, none⟩) m.dt.length m.dt.length, .int .i64 (s : Int), .slice ta T.length tc, .slice ha H.length hc, .slice (some ⟨gc, 0, none⟩) J J], .int .i64 0]) (by simp [results, Tryz.results43, go_sem, *]) rfl ?_
      have e0 : memF m = 0 := by rw [EF.out]; rfl
      obtain ⟨h6, hst, hs, hs2⟩ := HS.out
      have k := kept5 w2 (w.heap.size + 1) (.slice (some ⟨gd, 0, none⟩) m.dt.length m.dt.length) (.int .i64 (s : Int)) (.slice ta T.length tc) (.slice ha H.length hc) (.slice (some ⟨gc, 0, none⟩) J J)
      refine .inr ⟨e0, h6, s, hst, hs, hs2, HR.out, gd, gc, .slice ta T.length tc, hvs, us, rs, bl, bh, ?_, ?_, fiveM B2.out (Nat.le_succ _)⟩
      · rw [HJ.out, EH.out]
      · have lw := LW.out
        exact (HX2.out.keep k.size (fun q h1 h2 => k.block q h2 (by omega))).down (by omega)

set_option maxHeartbeats 1600000 in
theorem implMF_any (tp : TypeId) (pv : Value) (m : ME) (a t u c : Option Addr) (ca ct cu cc : Nat) (w : World) (hE : Env w.heap.size tp pv w) (h1 : MAt w a t u c m) (hca : m.dt.length ≤ ca) (hub : Byt m.dt) (hm : (msz m : Int) ≤ 1048576) :
    Calls Tryz.prog 31 #[.agg #[.slice a m.dt.length ca, .int .i64 m.st, .slice t m.tk.length ct, .slice u m.hd.length cu, .slice c m.cs.length cc]] w fun e w' => e = .returned (.int .i64 (memF m)) ∧ Below w.heap.size w w' := by
  have N0 := below_new w (.cells #[.slice a m.dt.length ca, .int .i64 m.st, .slice t m.tk.length ct, .slice u m.hd.length cu, .slice c m.cs.length cc] 27)
  have R0 := row5 w 27 (.slice a m.dt.length ca) (.int .i64 m.st) (.slice t m.tk.length ct) (.slice u m.hd.length cu) (.slice c m.cs.length cc)
  have KR := Hid.mk' (rightMemo_any tp pv m a t u c ca ct cu cc _ ((hE.keep N0).up N0.size (Nat.le_refl _)) (h1.below N0) hca hub hm)
  have HB := Hid.mk' N0
  obtain ⟨x0, x1, x2, x3, x4, x5⟩ := cells5 R0
  clear N0 h1 hE hub R0
  generalize hW : w.alloc (.cells #[.slice a m.dt.length ca, .int .i64 m.st, .slice t m.tk.length ct, .slice u m.hd.length cu, .slice c m.cs.length cc] 27) = W at *
  go_enter Tryz.func31, Tryz.ntmps31
  go_wp2_with fail
  clear hW x0 x1 x2 x3 x4 x5
  refine KR.out.mono ?_
  rintro e w1 (⟨hf, rfl, hb1⟩ | ⟨hf, -, s, -, -, -, -, gd, gc, tv, hvs, us, rs, bl, bh, rfl, hx, hb1⟩)
  · have HB1 := Hid.mk' (HB.out.trans (hb1.mono HB.out.size))
    clear hb1 KR
    obtain ⟨F, hF⟩ : ∃ F, memF m = F := ⟨_, rfl⟩
    have HF := Hid.mk' hF
    rw [hF]
    clear hf hF
    go_wp2
    go_ret
    exact ⟨by rw [HF.out]; rfl, HB1.out.trans ((below_new w1 _).mono HB1.out.size)⟩
  · obtain ⟨ta, tc, rfl, -⟩ := own_src hx.rx.tp.row
    obtain ⟨ha, hc, eh, -⟩ := own_bat (hx.rx.own (m.dt.length / s + 1) (Nat.le_refl _))
    rw [eh]
    have HB1 := Hid.mk' (HB.out.trans (hb1.mono HB.out.size))
    have HF := Hid.mk' hf
    clear hb1 KR hx eh hf
    generalize tkN m.dt s (m.dt.length / s + 1) = T at *
    generalize hdN m.dt s (m.dt.length / s + 1) = H at *
    generalize m.dt.length / s + 1 = J at *
    go_wp2
    go_ret
    exact ⟨by rw [HF.out]; rfl, HB1.out.trans ((below_new w1 _).mono HB1.out.size)⟩

end Go.Proofs.YtlimgcmhidooaaaGreatDoor

namespace Go.Proofs.YtlimgcmhidooaaaGreatDoor
open Go.RowKit

theorem strI_data : ∀ (l : List Int) (r : ByteArray), (l.foldl (fun r n => r.push (UInt8.ofNat n.toNat)) r).data.toList = r.data.toList ++ l.map (fun n => UInt8.ofNat n.toNat)
  | [], r => by simp
  | x :: l, r => by
    rw [List.foldl_cons, strI_data l]
    simp [ByteArray.push]

theorem strI_list (l : List Int) : (strI l).toList = l.map (fun n => UInt8.ofNat n.toNat) := by
  rw [toList_data]
  unfold strI
  rw [strI_data]
  have e : ByteArray.empty.data.toList = [] := rfl
  rw [e, List.nil_append]

theorem byte_inj {x y : Int} (hx : 0 ≤ x ∧ x ≤ 255) (hy : 0 ≤ y ∧ y ≤ 255) (h : UInt8.ofNat x.toNat = UInt8.ofNat y.toNat) : x = y := by
  have := congrArg UInt8.toNat h
  simp only [UInt8.toNat_ofNat'] at this
  omega

theorem map_inj : ∀ (l m : List Int), (∀ x ∈ l, 0 ≤ x ∧ x ≤ 255) → (∀ x ∈ m, 0 ≤ x ∧ x ≤ 255) → l.map (fun n => UInt8.ofNat n.toNat) = m.map (fun n => UInt8.ofNat n.toNat) → l = m
  | [], [], _, _, _ => rfl
  | [], y :: m, _, _, h => by simp at h
  | x :: l, [], _, _, h => by simp at h
  | x :: l, y :: m, hl, hm, h => by
    simp only [List.map_cons, List.cons.injEq] at h
    rw [byte_inj (hl x (List.mem_cons_self ..)) (hm y (List.mem_cons_self ..)) h.1, map_inj l m (fun z hz => hl z (List.mem_cons_of_mem _ hz)) (fun z hz => hm z (List.mem_cons_of_mem _ hz)) h.2]

theorem beqB_eq {l m : List Int} (hl : Byt l) (hm : Byt m) (h : beqB l m = true) : l = m := by
  unfold beqB at h
  rw [strI_list, strI_list] at h
  exact map_inj l m hl.mem hm.mem (by simpa using h)

theorem memF_ok {m : ME} (h : memF m = 0) : m.dt.length ≤ 240 ∧ ∃ s : Nat, m.st = (s : Int) ∧ 1 ≤ s ∧ s ≤ 60 ∧ sameR (memX m.dt s) m = true := by
  unfold memF at h
  by_cases h1 : askC m.dt m.st = 0
  · rw [if_neg (by rw [h1]; simp)] at h
    obtain ⟨h240, s, hst, hs, hs2⟩ := askC_ok h1
    refine ⟨h240, s, hst, hs, hs2, ?_⟩
    rw [hst] at h
    cases hq : sameR (memX m.dt s) m with
    | true => rfl
    | false =>
      have e : sameR (memX m.dt ((s : Int).toNat)) m = false := hq
      rw [e] at h
      simp at h
  · rw [if_pos h1] at h
    exact absurd h h1

end Go.Proofs.YtlimgcmhidooaaaGreatDoor

namespace Go.Proofs.YtlimgcmhidooaaaGreatDoor
open Go.RowKit

theorem keptIn_cell {lo hi : Nat} {w w' : World} (h : KeptIn lo hi w w') (b o : Nat) (hb : b < w.heap.size) (hn : b < lo ∨ hi ≤ b) : w'.cell? ⟨b, o, none⟩ = w.cell? ⟨b, o, none⟩ :=
  World.cell?_of_block (a := ⟨b, o, none⟩) (h.block b hb hn)

end Go.Proofs.YtlimgcmhidooaaaGreatDoor
