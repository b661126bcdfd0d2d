/- The program's NewMemo. -/
import Derived.Test.YtkiinnmindmnbaaGreatDoorC35
set_option linter.unusedVariables false
set_option linter.unusedSimpArgs false
namespace Go.Proofs.YtkiinnmindmnbaaGreatDoor
open Go.RowKit

def r7 (x0 x1 x2 x3 x4 x5 x6 : Value) (i : Nat) : Value := if i = 0 then x0 else if i = 1 then x1 else if i = 2 then x2 else if i = 3 then x3 else if i = 4 then x4 else if i = 5 then x5 else x6

theorem row7 (w : World) (t : TypeId) (x0 x1 x2 x3 x4 x5 x6 : Value) : (w.alloc (.cells #[x0, x1, x2, x3, x4, x5, x6] t)).rowIs w.heap.size t 7 (r7 x0 x1 x2 x3 x4 x5 x6) :=
  ⟨_, Deep.blk_alloc_new _ _, rfl, fun i hi => by
    have : i = 0 ∨ i = 1 ∨ i = 2 ∨ i = 3 ∨ i = 4 ∨ i = 5 ∨ i = 6 := by omega
    rcases this with rfl | rfl | rfl | rfl | rfl | rfl | rfl <;> rfl⟩

theorem cells7 {w : World} {g : Nat} {ty : TypeId} {x0 x1 x2 x3 x4 x5 x6 : Value} (h : w.rowIs g ty 7 (r7 x0 x1 x2 x3 x4 x5 x6)) : w.cell? ⟨g, 0, none⟩ = some x0 ∧ w.cell? ⟨g, 1, none⟩ = some x1 ∧ w.cell? ⟨g, 2, none⟩ = some x2 ∧ w.cell? ⟨g, 3, none⟩ = some x3 ∧ w.cell? ⟨g, 4, none⟩ = some x4 ∧ w.cell? ⟨g, 5, none⟩ = some x5 ∧ w.cell? ⟨g, 6, none⟩ = some x6 ∧ g < w.heap.size :=
  ⟨h.cell (by omega), h.cell (by omega), h.cell (by omega), h.cell (by omega), h.cell (by omega), h.cell (by omega), h.cell (by omega), h.lt⟩

theorem seven {B : Nat} {w w' : World} (h : Below B w w') {c : Nat} {v0 v1 v2 v3 v4 v5 v6 : Value} (hc : B ≤ c) : Below B w (((((((w'.setCell ⟨c, 0, none⟩ v0).setCell ⟨c, 1, none⟩ v1).setCell ⟨c, 2, none⟩ v2).setCell ⟨c, 3, none⟩ v3).setCell ⟨c, 4, none⟩ v4).setCell ⟨c, 5, none⟩ v5).setCell ⟨c, 6, none⟩ v6) :=
  ((((((h.setCell (p := ⟨c, 0, none⟩) hc v0).setCell (p := ⟨c, 1, none⟩) hc v1).setCell (p := ⟨c, 2, none⟩) hc v2).setCell (p := ⟨c, 3, none⟩) hc v3).setCell (p := ⟨c, 4, none⟩) hc v4).setCell (p := ⟨c, 5, none⟩) hc v5).setCell (p := ⟨c, 6, none⟩) hc v6

theorem kept7 (w' : World) (c : Nat) (v0 v1 v2 v3 v4 v5 v6 : Value) : KeptIn c (c + 1) w' (((((((w'.setCell ⟨c, 0, none⟩ v0).setCell ⟨c, 1, none⟩ v1).setCell ⟨c, 2, none⟩ v2).setCell ⟨c, 3, none⟩ v3).setCell ⟨c, 4, none⟩ v4).setCell ⟨c, 5, none⟩ v5).setCell ⟨c, 6, none⟩ v6) :=
  (((((((KeptIn.refl c (c + 1) w').setCell (p := ⟨c, 0, none⟩) (by simp) (by simp) v0).setCell (p := ⟨c, 1, none⟩) (by simp) (by simp) v1).setCell (p := ⟨c, 2, none⟩) (by simp) (by simp) v2).setCell (p := ⟨c, 3, none⟩) (by simp) (by simp) v3).setCell (p := ⟨c, 4, none⟩) (by simp) (by simp) v4).setCell (p := ⟨c, 5, none⟩) (by simp) (by simp) v5).setCell (p := ⟨c, 6, none⟩) (by simp) (by simp) v6

theorem RX.down {base base' : Nat} {d : List Int} {s j : Nat} {tv : Value} {hvs : Nat → Value} {us : List Value} {rs : Nat → List Value} {bl bh : Nat → Nat} {wr : World} (x : RX base d s j tv hvs us rs bl bh wr) (h : base' ≤ base) : RX base' d s j tv hvs us rs bl bh wr :=
  ⟨x.tp.down h, fun i hi => own_down (x.own i hi) h, x.ap, x.at_, x.av⟩

abbrev errM (c : Int) : Value := .agg #[.int .i64 c, .int .i64 0, .slice none 0 0, .int .i64 0, .slice none 0 0, .slice none 0 0, .slice none 0 0]

structure NM (base : Nat) (d : List Int) (s : Nat) (gd gc : Nat) (tv : Value) (hvs : Nat → Value) (us : List Value) (rs : Nat → List Value) (bl bh : Nat → Nat) (w : World) : Prop where
  v1 : ∃ v : World, v.heap.size ≤ gd ∧ RX base d s (d.length / s + 1) tv hvs us rs bl bh v
  rx : RX base d s (d.length / s + 1) tv hvs us rs bl bh w
  dt : w.rowIs gd 5 d.length (bv d)
  ck : w.rowIs gc 46 ((d.length / s + 1) * 3) (ckV d s (d.length / s + 1) hvs)
  o1 : base ≤ gd
  o2 : gd < gc

theorem NM.keep {base : Nat} {d : List Int} {s : Nat} {gd gc : Nat} {tv : Value} {hvs : Nat → Value} {us : List Value} {rs : Nat → List Value} {bl bh : Nat → Nat} {w w' : World} (x : NM base d s gd gc tv hvs us rs bl bh w) (hs : w.heap.size ≤ w'.heap.size) (hk : ∀ q, base ≤ q → q < w.heap.size → w'.heap[q]? = w.heap[q]?) : NM base d s gd gc tv hvs us rs bl bh w' :=
  ⟨x.v1, x.rx.keep hs hk, x.dt.of_block (hk _ x.o1 x.dt.lt), x.ck.of_block (hk _ (by have := x.o1; have := x.o2; omega) x.ck.lt), x.o1, x.o2⟩

theorem NM.below {base : Nat} {d : List Int} {s : Nat} {gd gc : Nat} {tv : Value} {hvs : Nat → Value} {us : List Value} {rs : Nat → List Value} {bl bh : Nat → Nat} {w w' : World} (x : NM base d s gd gc tv hvs us rs bl bh w) (hb : Below w.heap.size w w') : NM base d s gd gc tv hvs us rs bl bh w' := x.keep hb.size (fun q _ h => hb.block q h)

def NmP (d : List Int) (st : Int) (w : World) (e : Ending) (w' : World) : Prop :=
  (240 < d.length ∧ e = .returned (errM 6) ∧ Below w.heap.size w w') ∨
  (d.length ≤ 240 ∧ (st < 1 ∨ 60 < st) ∧ e = .returned (errM 3) ∧ Below w.heap.size w w') ∨
  (d.length ≤ 240 ∧ ∃ s : Nat, st = (s : Int) ∧ 1 ≤ s ∧ s ≤ 60 ∧ ∃ gd gc tv hvs us rs bl bh, e = .returned (.agg #[.int .i64 0, .int .i64 (d.length : Int), .slice (some ⟨gd, 0, none⟩) d.length d.length, .int .i64 (s : Int), tv, hvs (d.length / s + 1), .slice (some ⟨gc, 0, none⟩) (d.length / s + 1) (d.length / s + 1)]) ∧ NM (w.heap.size + 1) d s gd gc tv hvs us rs bl bh w' ∧ Below w.heap.size w w')

set_option maxRecDepth 100000 in
set_option maxHeartbeats 6400000 in
theorem implNM_any (tp : TypeId) (pv : Value) (d : List Int) (st : Int) (ad : Option Addr) (cd : Nat) (w : World) (hE : Env w.heap.size tp pv w) (hd : BAt w ad d) (hcd : d.length ≤ cd) (hu : Byt d) (hl : (d.length : Int) ≤ 9223372036854775807) :
    Calls Tryz.prog 9 #[.slice ad d.length cd, .int .i64 st] w fun e w' => NmP d st w e w' := by
  have N0 := below_new w (.cells #[.int .i64 0, .int .i64 0, .slice none 0 0, .int .i64 0, .slice none 0 0, .slice none 0 0, .slice none 0 0] 28)
  have HR := Hid.mk' (row7 w 28 (.int .i64 0) (.int .i64 0) (.slice none 0 0) (.int .i64 0) (.slice none 0 0) (.slice none 0 0) (.slice none 0 0))
  have HB := Hid.mk' N0
  by_cases h6 : 240 < d.length
  · have c6 : (240 : Int) < d.length := by omega
    have H6 := Hid.mk' h6
    clear h6 hd hu hE
    obtain ⟨y0, y1, y2, y3, y4, y5, y6, y7⟩ := cells7 HR.out
    have f0 := HR.out.frozen 0
    have f1 := HR.out.frozen 1
    have f2 := HR.out.frozen 2
    have f3 := HR.out.frozen 3
    have f4 := HR.out.frozen 4
    have f5 := HR.out.frozen 5
    have f6 := HR.out.frozen 6
    clear N0
    generalize hW : w.alloc (.cells #[.int .i64 0, .int .i64 0, .slice none 0 0, .int .i64 0, .slice none 0 0, .slice none 0 0, .slice none 0 0] 28) = W at *
    go_enter Tryz.func9, Tryz.ntmps9
    go_wp2_with (first | go_big_skip)
    clear hW
    refine bodyPost_ret (v := errM 6) (by simp [errM, results, Tryz.results9, go_sem, *]) rfl ?_
    exact .inl ⟨H6.out, rfl, seven HB.out (Nat.le_refl _)⟩
  have c6 : ¬ (240 : Int) < d.length := by omega
  have h6' : d.length ≤ 240 := by omega
  clear h6
  by_cases h3 : st < 1 ∨ 60 < st
  · have H3 := Hid.mk' h3
    have H6 := Hid.mk' h6'
    clear hd hu hE
    by_cases h3a : st < 1
    · clear h3
      obtain ⟨y0, y1, y2, y3, y4, y5, y6, y7⟩ := cells7 HR.out
      have f0 := HR.out.frozen 0
      have f1 := HR.out.frozen 1
      have f2 := HR.out.frozen 2
      have f3 := HR.out.frozen 3
      have f4 := HR.out.frozen 4
      have f5 := HR.out.frozen 5
      have f6 := HR.out.frozen 6
      clear N0
      generalize hW : w.alloc (.cells #[.int .i64 0, .int .i64 0, .slice none 0 0, .int .i64 0, .slice none 0 0, .slice none 0 0, .slice none 0 0] 28) = W at *
      go_enter Tryz.func9, Tryz.ntmps9
      go_wp2_with (first | go_big_skip)
      clear hW
      refine bodyPost_ret (v := errM 3) (by simp [errM, results, Tryz.results9, go_sem, *]) rfl ?_
      exact .inr (.inl ⟨H6.out, H3.out, rfl, seven HB.out (Nat.le_refl _)⟩)
    · have h3b : 60 < st := by rcases h3 with h | h; exact absurd h h3a; exact h
      clear h3
      obtain ⟨y0, y1, y2, y3, y4, y5, y6, y7⟩ := cells7 HR.out
      have f0 := HR.out.frozen 0
      have f1 := HR.out.frozen 1
      have f2 := HR.out.frozen 2
      have f3 := HR.out.frozen 3
      have f4 := HR.out.frozen 4
      have f5 := HR.out.frozen 5
      have f6 := HR.out.frozen 6
      clear N0
      generalize hW : w.alloc (.cells #[.int .i64 0, .int .i64 0, .slice none 0 0, .int .i64 0, .slice none 0 0, .slice none 0 0, .slice none 0 0] 28) = W at *
      go_enter Tryz.func9, Tryz.ntmps9
      go_wp2_with (first | go_big_skip)
      clear hW
      refine bodyPost_ret (v := errM 3) (by simp [errM, results, Tryz.results9, go_sem, *]) rfl ?_
      exact .inr (.inl ⟨H6.out, H3.out, rfl, seven HB.out (Nat.le_refl _)⟩)
  obtain ⟨s, rfl⟩ : ∃ s : Nat, st = (s : Int) := ⟨st.toNat, by omega⟩
  have hs : 1 ≤ s := by omega
  have hs2 : s ≤ 60 := by omega
  have c1 : ¬ (s : Int) < 1 := by omega
  have c2 : ¬ (60 : Int) < s := by omega
  have KR := Hid.mk' (readInSteps_any tp pv d ad cd s _ ((hE.keep N0).up N0.size (Nat.le_refl _)) (hd.below N0) hcd hu h6' hs hs2)
  have HD := Hid.mk' hd
  clear h3 hE hu N0 hd
  generalize hW : w.alloc (.cells #[.int .i64 0, .int .i64 0, .slice none 0 0, .int .i64 0, .slice none 0 0, .slice none 0 0, .slice none 0 0] 28) = W at *
  go_enter Tryz.func9, Tryz.ntmps9
  go_wp2_with (first | go_big_skip | fail)
  clear hW c1 c2
  refine KR.out.mono ?_
  rintro e w1 ⟨tv, hvs, us, rs, bl, bh, rfl, hx, hb1⟩
  obtain ⟨ta, tc, rfl, -⟩ := own_src hx.tp.row
  obtain ⟨ha, hc, eh, -⟩ := own_bat (hx.own (d.length / s + 1) (Nat.le_refl _))
  rw [eh]
  obtain ⟨A, hA⟩ : ∃ A, arrOf 723 (ckV d s (d.length / s + 1) hvs) = A := ⟨_, rfl⟩
  have hsz : A.size = 723 := by rw [← hA, arrOf_size]
  have hone : ∀ i, (ckV d s (d.length / s + 1) hvs i).oneCell' = true := ckV_one (fun i hi => by obtain ⟨_, _, e, _⟩ := own_bat (hx.own i hi); rw [e]; rfl)
  have h1c : A.all (·.oneCell') = true := by rw [← hA]; exact all_arr hone
  rw [hA]
  have hst := run_storeCells_new (P := Tryz.prog) (w1.alloc (.cells #[.int .i64 0, .slice ta (tkN d s (d.length / s + 1)).length tc, .slice ha (hdN d s (d.length / s + 1)).length hc] 57)) 64 Tryz.zeroCells64 A (by rw [hsz]; exact info_row) (by rw [hsz]; exact Tryz.zeroCells64_size) h1c
  rw [show (w1.alloc (.cells #[.int .i64 0, .slice ta (tkN d s (d.length / s + 1)).length tc, .slice ha (hdN d s (d.length / s + 1)).length hc] 57)).heap.size = w1.heap.size + 1 by simp] at hst
  have hq : (d.length / s + 1) ≤ 241 := by have := Nat.div_le_self d.length s; omega
  have HA := Hid.mk' hA
  have HX := Hid.mk' hx
  have EH := Hid.mk' eh
  have HO := Hid.mk' hone
  have B1 := Hid.mk' hb1
  have KCI : Hid (∀ v, Calls Tryz.prog 36 #[.slice ad d.length cd, .int .i64 (s : Int)] v fun e w' => e = .returned (.int .i64 (((d.length / s + 1) : Nat) : Int)) ∧ w' = v) := Hid.mk' (fun v => checksIn_any ad d.length cd s v (by omega) hs hs2)
  have KFI : Hid (∀ v, Calls Tryz.prog 35 #[.agg A, .int .i64 (((d.length / s + 1) : Nat) : Int)] v fun e w' => ∃ b, e = .returned (.slice (some ⟨b, 0, none⟩) (d.length / s + 1) (d.length / s + 1)) ∧ v.heap.size ≤ b ∧ w'.rowIs b 46 ((d.length / s + 1) * 3) (ckV d s (d.length / s + 1) hvs) ∧ Below v.heap.size v w') := Hid.mk' (fun v => by rw [← hA]; exact first_any _ hone (d.length / s + 1) hq v)
  have HS := Hid.mk' (And.intro hs hs2)
  clear hx eh hA hone h1c hb1 KR hs hs2
  generalize hJ : (d.length / s + 1) = J at *
  generalize hT : tkN d s J = Tk at *
  generalize hH : hdN d s J = Hd at *
  have HJ := Hid.mk' hJ
  have HT := Hid.mk' hT
  have HH := Hid.mk' hH
  clear hJ hT hH
  go_wp2_with fail
  have z1 : (w1.alloc (.cells #[.int .i64 0, .slice ta Tk.length tc, .slice ha Hd.length hc] 57)).heap.size = w1.heap.size + 1 := by simp
  have N1 := below_new w1 (.cells #[.int .i64 0, .slice ta Tk.length tc, .slice ha Hd.length hc] 57)
  have N2 := N1.alloc (by simp) (.cells A 64)
  have RB := (row3 w1 57 (.int .i64 0) (.slice ta Tk.length tc) (.slice ha Hd.length hc)).alloc (.cells A 64)
  have RC : ((w1.alloc (.cells #[.int .i64 0, .slice ta Tk.length tc, .slice ha Hd.length hc] 57)).alloc (.cells A 64)).heap[w1.heap.size + 1]? = some (.cells A 64 (0, 0)) := by
    have := Deep.blk_alloc_new (w1.alloc (.cells #[.int .i64 0, .slice ta Tk.length tc, .slice ha Hd.length hc] 57)) (.cells A 64)
    rw [z1] at this; exact this
  have HRC := Hid.mk' RC
  have HRB := Hid.mk' RB
  have HN2 := Hid.mk' N2
  clear z1 N1 N2 RB RC hst
  generalize hV : (w1.alloc (.cells #[.int .i64 0, .slice ta Tk.length tc, .slice ha Hd.length hc] 57)).alloc (.cells A 64) = V at *
  clear hV
  have HCE : Hid (∀ v, Below V.heap.size V v → v.cell? ⟨w1.heap.size, 1, none⟩ = some (.slice ta Tk.length tc) ∧ v.cell? ⟨w1.heap.size, 2, none⟩ = some (.slice ha Hd.length hc) ∧ Hid (v.heap[w1.heap.size + 1]? = some (.cells A 64 (0, 0)))) := Hid.mk' (fun v hb => by
    obtain ⟨_, c1, c2, c3⟩ := cells3 HRB.out
    exact ⟨(hb.cell c3).trans c1, (hb.cell c3).trans c2, (hb.block _ (Array.getElem?_eq_some_iff.1 HRC.out).1).trans HRC.out⟩)

  have WV : Hid (Below w.heap.size w V) := Hid.mk' ((HB.out.trans (B1.out.mono HB.out.size)).trans (HN2.out.mono (Nat.le_trans HB.out.size B1.out.size)))
  refine wp_region_held_drew (S := (fun v => v.cell? ⟨w1.heap.size, 1, none⟩ = some (.slice ta Tk.length tc) ∧ v.cell? ⟨w1.heap.size, 2, none⟩ = some (.slice ha Hd.length hc) ∧ Hid (v.heap[w1.heap.size + 1]? = some (.cells A 64 (0, 0))))) (by kernel_rfl) (HCE.out _ (Below.refl _ _).drew) (fun hHeld => ?_)
  refine wpAnyH_take (i := 0) (oi := ⟨_, _, _, _, _, _⟩) (v := ?_) rfl (by kernel_rfl) (by kernel_rfl) (by kernel_rfl) (fun _ _ _ h => h) (Or.inl ⟨by rfl, ?_⟩) (by assumption) ?_
  rotate_left
  · (intro w hSw; (try dsimp only at hSw); go_simp; (try with_reducible rfl))
  try simp only [Act.put, zA, zB, zC]
  refine wpAnyH_take (i := 1) (oi := ⟨_, _, _, _, _, _⟩) (v := ?_) rfl (by kernel_rfl) (by kernel_rfl) (by kernel_rfl) (fun _ _ _ h => h) (Or.inl ⟨by rfl, ?_⟩) (by assumption) ?_
  rotate_left
  · (intro w hSw; (try dsimp only at hSw); go_simp; (try with_reducible rfl))
  try simp only [Act.put, zA, zB, zC]
  refine wpAnyH_take (i := 2) (oi := ⟨_, _, _, _, _, _⟩) (v := ?_) rfl (by kernel_rfl) (by kernel_rfl) (by kernel_rfl) (fun _ _ _ h => h) (Or.inl ⟨by rfl, ?_⟩) (by assumption) ?_
  rotate_left
  · (intro w hSw; (try dsimp only at hSw); go_simp; (try with_reducible rfl))
  try simp only [Act.put, zA, zB, zC]
  refine wpAnyH_take (i := 4) (oi := ⟨_, _, _, _, _, _⟩) (v := ?_) rfl (by kernel_rfl) (by kernel_rfl) (by kernel_rfl) (fun _ _ _ h => h) (Or.inl ⟨by rfl, ?_⟩) (by assumption) ?_
  rotate_left
  · (intro w hSw; (try dsimp only at hSw); go_simp; (try with_reducible rfl))
  try simp only [Act.put, zA, zB, zC]
  refine wpAnyH_take (i := 5) (oi := ⟨_, _, _, _, _, _⟩) (v := ?_) rfl (by kernel_rfl) (by kernel_rfl) (by kernel_rfl) (fun _ _ _ h => h) (Or.inl ⟨by rfl, ?_⟩) (by assumption) ?_
  rotate_left
  · (intro w hSw; (try dsimp only at hSw); go_simp; (try with_reducible rfl))
  try simp only [Act.put, zA, zB, zC]
  refine wpAnyH_take (i := 6) (oi := ⟨_, _, _, _, _, _⟩) (v := ?_) rfl (by kernel_rfl) (by kernel_rfl) (by kernel_rfl) (fun _ _ _ h => h) (Or.inl ⟨by rfl, ?_⟩) (by assumption) ?_
  rotate_left
  · (intro w hSw; (try dsimp only at hSw); go_simp; (try with_reducible rfl))
  try simp only [Act.put, zA, zB, zC]
  refine wpAnyH_take (i := 7) (oi := ⟨_, _, _, _, _, _⟩) (v := ?_) rfl (by kernel_rfl) (by kernel_rfl) (by kernel_rfl) (fun _ _ _ h => h) (Or.inl ⟨by rfl, ?_⟩) (by assumption) ?_
  rotate_left
  · (intro w hSw; (try dsimp only at hSw); go_simp; (try with_reducible rfl))
  try simp only [Act.put, zA, zB, zC]
  refine wpAnyH_take (i := 8) (oi := ⟨_, _, _, _, _, _⟩) (v := ?_) rfl (by kernel_rfl) (by kernel_rfl) (by kernel_rfl) (fun _ _ _ h => h) (Or.inl ⟨by rfl, ?_⟩) (by assumption) ?_
  rotate_left
  · (intro w hSw; (try dsimp only at hSw); go_simp; (try with_reducible rfl))
  try simp only [Act.put, zA, zB, zC]
  refine wpAnyH_take (i := 9) (oi := ⟨_, _, _, _, _, _⟩) (v := ?_) rfl (by kernel_rfl) (by kernel_rfl) (by kernel_rfl) (fun _ _ _ h => h) (Or.inl ⟨by rfl, ?_⟩) (by assumption) ?_
  rotate_left
  · (intro w hSw; (try dsimp only at hSw); go_simp; (try with_reducible rfl))
  try simp only [Act.put, zA, zB, zC]
  refine wpAnyH_take (i := 10) (oi := ⟨_, _, _, _, _, _⟩) (v := .agg A) rfl (by kernel_rfl) (by kernel_rfl) (by kernel_rfl) (fun _ _ _ h => h) (Or.inl ⟨by rfl, ?_⟩) (by assumption) ?_
  · (intro w hSw; exact exec_load_row 64 (.tmp 6) rfl _ rfl _ A _ _ hSw.2.2.out Tryz.underlying64 rfl (by rw [hsz]; exact info_row))
  try simp only [Act.put, zA, zB, zC]
  refine wpAnyH_take (i := 11) (oi := ⟨_, _, _, _, _, _⟩) (v := ?_) rfl (by kernel_rfl) (by kernel_rfl) (by kernel_rfl) (fun _ _ _ h => h) (Or.inl ⟨by rfl, ?_⟩) (by assumption) ?_
  rotate_left
  · (intro w hSw; (try dsimp only at hSw); go_simp; (try with_reducible rfl))
  try simp only [Act.put, zA, zB, zC]
  refine wpAnyH_take (i := 12) (oi := ⟨_, _, _, _, _, _⟩) (v := ?_) rfl (by kernel_rfl) (by kernel_rfl) (by kernel_rfl) (fun _ _ _ h => h) (Or.inl ⟨by rfl, ?_⟩) (by assumption) ?_
  rotate_left
  · (intro w hSw; (try dsimp only at hSw); go_simp; (try with_reducible rfl))
  try simp only [Act.put, zA, zB, zC]
  refine wpAnyH_ready (rs := [3]) (by kernel_rfl) (by simp) ?_
  refine AllReadyH.cons (o := ⟨_, _, _, _, _, _⟩) rfl (fun K hK => ?_) AllReadyH.nil
  go_simp
  refine (copyBytes_any ad cd d _ (HD.out.below (WV.out.trans ((Below.refl V.heap.size V).drew.mono WV.out.size))) (by omega)).mono ?_
  rintro e w2 ⟨gd, rfl, hgd, hrd, hb2⟩
  replace hb2 := undrew hb2
  have GD : Hid (V.heap.size ≤ gd) := Hid.mk' hgd
  have RD2 := Hid.mk' hrd
  have B2 := Hid.mk' hb2
  have S2 := Hid.mk' (HCE.out w2 hb2)
  clear hb2 hrd hgd
  refine hK.out _ _ S2.out (fun hHeld => ?_)
  clear hK K
  try simp only [Act.put, zA, zB, zC]
  refine wpAnyH_ready (rs := [13]) (by kernel_rfl) (by simp) ?_
  refine AllReadyH.cons (o := ⟨_, _, _, _, _, _⟩) rfl (fun K hK => ?_) AllReadyH.nil
  go_simp
  refine (KCI.out _).mono ?_
  rintro e w3 ⟨rfl, hw3⟩
  obtain rfl := hw3.symm
  clear hw3
  refine hK.out _ _ S2.out (fun hHeld => ?_)
  clear hK K
  try simp only [Act.put, zA, zB, zC]
  refine wpAnyH_ready (rs := [14]) (by kernel_rfl) (by simp) ?_
  refine AllReadyH.cons (o := ⟨_, _, _, _, _, _⟩) rfl (fun K hK => ?_) AllReadyH.nil
  go_simp
  refine (KFI.out _).mono ?_
  rintro e w4 ⟨gc, rfl, hgc, hrc, hb4⟩
  have B4 := Hid.mk' (B2.out.trans (hb4.mono B2.out.size))
  have RD4 := Hid.mk' (rowB RD2.out hb4)
  have GC : Hid (gd < gc) := Hid.mk' (by have := RD2.out.lt; omega)
  have RC4 := Hid.mk' hrc
  have S4 := Hid.mk' (HCE.out w4 B4.out)
  clear hb4 hrc hgc
  refine hK.out _ _ S4.out (fun hHeld => ?_)
  clear hK K
  try simp only [Act.put, zA, zB, zC]
  refine wpAnyH_take (i := 15) (oi := ⟨_, _, _, _, _, _⟩) (v := ?_) rfl (by kernel_rfl) (by kernel_rfl) (by kernel_rfl) (fun _ _ _ h => h) (Or.inl ⟨by rfl, ?_⟩) (by assumption) ?_
  rotate_left
  · (intro w hSw; (try dsimp only at hSw); go_simp; (try with_reducible rfl))
  try simp only [Act.put, zA, zB, zC]
  refine wpAnyH_take (i := 16) (oi := ⟨_, _, _, _, _, _⟩) (v := ?_) rfl (by kernel_rfl) (by kernel_rfl) (by kernel_rfl) (fun _ _ _ h => h) (Or.inl ⟨by rfl, ?_⟩) (by assumption) ?_
  rotate_left
  · (intro w hSw; (try dsimp only at hSw); go_simp; (try with_reducible rfl))
  try simp only [Act.put, zA, zB, zC]
  have RZ := rowB HR.out ((B1.out.trans (HN2.out.mono B1.out.size)).trans (B4.out.mono (Nat.le_trans B1.out.size HN2.out.size)))
  obtain ⟨y0, y1, y2, y3, y4, y5, y6, y7⟩ := cells7 RZ
  have f0 := RZ.frozen 0
  have f1 := RZ.frozen 1
  have f2 := RZ.frozen 2
  have f3 := RZ.frozen 3
  have f4 := RZ.frozen 4
  have f5 := RZ.frozen 5
  have f6 := RZ.frozen 6
  clear RZ
  refine wpAnyH_ready (rs := [17]) (by kernel_rfl) (by simp) ?_
  refine AllReadyH.cons (o := ⟨_, _, _, _, _, _⟩) rfl (fun K hK => ?_) AllReadyH.nil
  go_simp
  refine hK.out _ _ ?_ (fun hHeld => ?_)
  · have k := kept7 w4 w.heap.size (.int .i64 0) (.int .i64 (d.length : Int)) (.slice (some ⟨gd, 0, none⟩) d.length d.length) (.int .i64 (s : Int)) (.slice ta Tk.length tc) (.slice ha Hd.length hc) (.slice (some ⟨gc, 0, none⟩) J J)
    have l0 := HR.out.lt
    have l1 := B1.out.size
    have l2 := (Array.getElem?_eq_some_iff.1 S4.out.2.2.out).1
    exact ⟨(World.cell?_of_block (a := ⟨w1.heap.size, 1, none⟩) (k.block w1.heap.size (by omega) (by omega))).trans S4.out.1, (World.cell?_of_block (a := ⟨w1.heap.size, 2, none⟩) (k.block w1.heap.size (by omega) (by omega))).trans S4.out.2.1, (k.block _ l2 (by omega)).trans S4.out.2.2.out⟩
  clear hK K
  try simp only [Act.put, zA, zB, zC]
  refine wpAnyH_done (by kernel_rfl) ?_ _
  clear hHeld
  go_wp2
  refine bodyPost_ret (v := .agg #[.int .i64 0, .int .i64 (d.length : Int), .slice (some ⟨gd, 0, none⟩) d.length d.length, .int .i64 (s : Int), .slice ta Tk.length tc, .slice ha Hd.length hc, .slice (some ⟨gc, 0, none⟩) J J]) (by simp [results, Tryz.results9, go_sem, *]) rfl ?_
  have k := kept7 w4 w.heap.size (.int .i64 0) (.int .i64 (d.length : Int)) (.slice (some ⟨gd, 0, none⟩) d.length d.length) (.int .i64 (s : Int)) (.slice ta Tk.length tc) (.slice ha Hd.length hc) (.slice (some ⟨gc, 0, none⟩) J J)
  have l0 := HR.out.lt
  have l1 := B1.out.size
  have l2 := HN2.out.size
  have l3 := GD.out
  have l4 := GC.out
  have BV := WV.out.trans (B4.out.mono WV.out.size)
  have XW := ((HX.out.below (HN2.out.trans (B4.out.mono HN2.out.size))).down (show w.heap.size + 1 ≤ _ by omega)).keep k.size (fun q h1 h2 => k.block q h2 (by omega))
  refine .inr (.inr ⟨h6', s, rfl, HS.out.1, HS.out.2, gd, gc, .slice ta Tk.length tc, hvs, us, rs, bl, bh, ?_, ?_, seven BV (Nat.le_refl _)⟩)
  · rw [HJ.out, EH.out]
  · have e := HJ.out
    exact ⟨⟨w1, by omega, by rw [e]; exact HX.out.down (show w.heap.size + 1 ≤ _ by omega)⟩, by rw [e]; exact XW, rowK RD4.out k (.inr (by omega)), by rw [e]; exact rowK RC4.out k (.inr (by omega)), by omega, by omega⟩

end Go.Proofs.YtkiinnmindmnbaaGreatDoor

namespace Go.Proofs.YtkiinnmindmnbaaGreatDoor
open Go.RowKit

def BT (X : Nat → Prop) (w : World) (v : Value) (l : List Int) : Prop :=
  ∃ B : Nat → Prop, (∀ k, B k → k < w.heap.size ∧ ¬ X k) ∧ ∃ a c, v = .slice a l.length c ∧ l.length ≤ c ∧ ∀ w', (∀ k, B k → w'.heap[k]? = w.heap[k]?) → BAt w' a l

theorem BT.step {X X' : Nat → Prop} {w w' : World} {v : Value} {l : List Int} (h : BT X w v l) (hk : ∀ k, k < w.heap.size → ¬ X k → w'.heap[k]? = w.heap[k]?) (hs : w.heap.size ≤ w'.heap.size) (hX : ∀ k, X' k → X k ∨ w.heap.size ≤ k) : BT X' w' v l := by
  obtain ⟨B, hB, a, c, e, hc, hw⟩ := h
  refine ⟨B, fun k hk' => ⟨Nat.lt_of_lt_of_le (hB k hk').1 hs, fun hx => ?_⟩, a, c, e, hc, fun v hv => hw v (fun k hk' => (hv k hk').trans (hk k (hB k hk').1 (hB k hk').2))⟩
  rcases hX k hx with h | h
  · exact (hB k hk').2 h
  · have := (hB k hk').1; omega

theorem BT.at {X : Nat → Prop} {w : World} {v : Value} {l : List Int} (h : BT X w v l) : ∃ a c, v = .slice a l.length c ∧ l.length ≤ c ∧ BAt w a l := by
  obtain ⟨B, hB, a, c, e, hc, hw⟩ := h
  exact ⟨a, c, e, hc, hw w (fun _ _ => rfl)⟩

theorem BT.of_own {X : Nat → Prop} {w : World} {base : Nat} {v : Value} {l : List Int} (h : w.ownsRow base 5 1 v l.length (bcs l)) (hX : ∀ k, v.ownBlock = some k → ¬ X k) : BT X w v l := by
  obtain ⟨a, c, e, hc⟩ := own_cap h
  refine ⟨fun k => v.ownBlock = some k, fun k hk => ⟨(h.lt k hk).2, hX k hk⟩, a, c, e, hc, fun w' hw => ?_⟩
  obtain ⟨p, c', e', hb⟩ := own_bat (own_of h (Nat.le_refl _) (fun k e _ => hw k e) : w'.ownsRow base 5 1 v l.length (bcs l))
  rw [e] at e'
  injection e' with e1 _ _
  rw [e1]; exact hb

def TC (X : Nat → Prop) (w : World) (us : List Value) (ts : List TK) : Prop :=
  ∀ i, i < ts.length → ∃ B : Nat → Prop, (∀ k, B k → k < w.heap.size ∧ ¬ X k) ∧ ∃ a c, us.getD i undef = .slice a (tkK ts i).at_.length c ∧ ∀ w', (∀ k, B k → w'.heap[k]? = w.heap[k]?) → w.heap.size ≤ w'.heap.size → AAt w' a (tkK ts i).at_

theorem TC.step {X X' : Nat → Prop} {w w' : World} {us : List Value} {ts : List TK} (h : TC X w us ts) (hk : ∀ k, k < w.heap.size → ¬ X k → w'.heap[k]? = w.heap[k]?) (hs : w.heap.size ≤ w'.heap.size) (hX : ∀ k, X' k → X k ∨ w.heap.size ≤ k) : TC X' w' us ts := by
  intro i hi
  obtain ⟨B, hB, a, c, e, hw⟩ := h i hi
  refine ⟨B, fun k hk' => ⟨Nat.lt_of_lt_of_le (hB k hk').1 hs, fun hx => ?_⟩, a, c, e, fun v hv hsz => hw v (fun k hk' => (hv k hk').trans (hk k (hB k hk').1 (hB k hk').2)) (Nat.le_trans hs hsz)⟩
  rcases hX k hx with h | h
  · exact (hB k hk').2 h
  · have := (hB k hk').1; omega

theorem TC.app {X : Nat → Prop} {w : World} {us us1 : List Value} {ts ts1 : List TK} (h : TC X w us ts) (hl : us.length = ts.length) (k : TC X w us1 ts1) : TC X w (us ++ us1) (ts ++ ts1) := by
  intro i hi
  by_cases c : i < ts.length
  · rw [tkK_left c, usK_left (by omega)]; exact h i c
  · rw [tkK_right c, usK_right (by omega), hl]
    exact k _ (by rw [List.length_append] at hi; omega)

theorem TC.nil (X : Nat → Prop) (w : World) : TC X w [] [] := fun i hi => absurd hi (Nat.not_lt_zero _)

theorem TC.of {X : Nat → Prop} {base : Nat} {w : World} {us : List Value} {ts : List TK} (hl : us.length = ts.length) (h : ∀ (i : Nat) t u, ts[i]? = some t → us[i]? = some u → TokIn base w none t u) (hX : ∀ k, X k → k < base) : TC X w us ts := by
  intro i hi
  have h1 : ts[i]? = some (tkK ts i) := by unfold tkK; simp [hi]
  have h2 : us[i]? = some (us.getD i undef) := by simp [show i < us.length by omega]
  rcases h i _ _ h1 h2 with ⟨e1, e2⟩ | ⟨lo, w9, rs, k1, k2, k3, k4, k5⟩
  · refine ⟨fun _ => False, fun k hk => absurd hk id, none, 0, by rw [e2, e1]; rfl, fun w' _ _ => .inl e1⟩
  · obtain ⟨a, c, e, hA⟩ := k2.at
    refine ⟨fun k => lo ≤ k ∧ k < w9.heap.size, fun k hk => ⟨by omega, fun hx => by have := hX k hx; omega⟩, a, c, e, fun w' hw _ => ?_⟩
    obtain ⟨a', c', e', hA'⟩ := (k2.keep (w' := w') (Nat.le_refl _) (fun k h1 h2 => (hw k ⟨h1, h2⟩).trans (k4 k h1 h2))).at
    rw [e] at e'
    injection e' with e1 _ _
    rw [e1]; exact hA'

theorem rowT_cellN {lo g cap : Nat} {w : World} {ts : List TK} {us : List Value} (hl : us.length = ts.length) (h : w.ownsRow lo 101 5 (.slice (some ⟨g, 0, none⟩) ts.length cap) ts.length (tcs ts us)) {n i : Nat} (hn : n < ts.length) (hi : i < 5) : w.cell? ⟨g, n * 5 + i, none⟩ = ([.int .i64 (tkK ts n).kd, .int .i64 (tkK ts n).by_, .string (tkK ts n).nm, us.getD n undef, .bool (tkK ts n).sh] : List Value)[i]? ∧ w.frozen? ⟨g, n * 5 + i, none⟩ = false := by
  rcases h.2 with ⟨h0, _⟩ | ⟨g', cap', cur, hv, hg, hh, hc, hm, hs', ht⟩
  · cases h0
  · cases hv
    refine ⟨?_, Lib.frozen_of_heap hh _⟩
    rw [Lib.cell_of_heap hh, ← tcs_get ts us n i hl hn hi, ← ht, List.getElem?_take_of_lt (by omega)]
    simp

theorem row_tsAtN {w : World} {lo : Nat} {v : Value} {ts : List TK} {us : List Value} (hl : us.length = ts.length) (h : w.ownsRow lo 101 5 v ts.length (tcs ts us)) (ha : ∀ j, j < ts.length → ∃ p c, us.getD j undef = .slice p (tkK ts j).at_.length c ∧ AAt w p (tkK ts j).at_) : ∃ a c, v = .slice a ts.length c ∧ TsAt w a ts := by
  by_cases h0 : ts = []
  · subst h0
    obtain ⟨a, c, e, _⟩ := own_src h
    exact ⟨a, c, e, .inl rfl⟩
  · have hp : 0 < ts.length := List.length_pos_iff.2 h0
    rcases h.2 with ⟨rfl, h9⟩ | ⟨g, cap, cur, rfl, hg, hh, hc, hm, hs, ht⟩
    · omega
    · have glt : g < w.heap.size := Nat.lt_of_not_le fun hn => by rw [Array.getElem?_eq_none hn] at hh; cases hh
      refine ⟨_, _, rfl, .inr ⟨g, 0, rfl, glt, fun k hk => ?_⟩⟩
      have cc := fun i hi => (rowT_cellN hl h hk (i := i) hi).1
      obtain ⟨p, c, e, haa⟩ := ha k hk
      simp only [Nat.zero_add]
      refine ⟨cc 0 (by omega), cc 1 (by omega), cc 2 (by omega), ⟨p, c, ?_, haa⟩, cc 4 (by omega)⟩
      rw [cc 3 (by omega), ← e]; rfl

theorem TP.tsAtN {lo : Nat} {w : World} {tv : Value} {ts : List TK} {us : List Value} {rs : Nat → List Value} {bl bh : Nat → Nat} (h : TP lo w tv ts us rs bl bh) : ∃ a c, tv = .slice a ts.length c ∧ TsAt w a ts :=
  row_tsAtN h.ta.len h.row (fun j hj => (h.ta.att j hj).at)

theorem TC.ts {X : Nat → Prop} {base : Nat} {w : World} {tv : Value} {us : List Value} {ts : List TK} (h : TC X w us ts) (hl : us.length = ts.length) (hr : w.ownsRow base 101 5 tv ts.length (tcs ts us)) : ∃ a c, tv = .slice a ts.length c ∧ TsAt w a ts :=
  row_tsAtN hl hr (fun j hj => by
    obtain ⟨B, _, a, c, e, hw⟩ := h j hj
    exact ⟨a, c, e, hw w (fun _ _ => rfl) (Nat.le_refl _)⟩)

def cvs (d : List Int) (s c : Nat) (hs : Nat → Value) : List Value := (List.range (c * 3)).map (ckV d s c hs)
theorem cvs_len (d : List Int) (s c : Nat) (hs : Nat → Value) : (cvs d s c hs).length = c * 3 := by simp [cvs]
theorem cvs_at (d : List Int) (s c : Nat) (hs : Nat → Value) (i : Nat) (h : i < c * 3) : (cvs d s c hs)[i]? = some (ckV d s c hs i) := by simp [cvs, h]
theorem cvs_succ (d : List Int) (s c : Nat) (hs : Nat → Value) (v : Value) : cvs d s c hs ++ [.int .i64 ((c * s : Nat) : Int), .int .i64 ((tkN d s c).length : Int), v] = cvs d s (c + 1) (fun i => if i = c then v else hs i) := by
  apply List.ext_getElem?
  intro i
  by_cases h : i < c * 3
  · rw [List.getElem?_append_left (by rw [cvs_len]; exact h), cvs_at _ _ _ _ _ h, cvs_at _ _ _ _ _ (by omega)]
    unfold ckV
    rw [if_pos (by omega), if_pos (by omega)]
    dsimp only
    rw [if_neg (by omega)]
  · rw [List.getElem?_append_right (by rw [cvs_len]; omega), cvs_len]
    by_cases h2 : i < (c + 1) * 3
    · rw [cvs_at _ _ _ _ _ h2]
      have e : i = c * 3 ∨ i = c * 3 + 1 ∨ i = c * 3 + 2 := by omega
      unfold ckV
      rcases e with rfl | rfl | rfl
      · rw [show c * 3 - c * 3 = 0 by omega, show c * 3 / 3 = c by omega, show c * 3 % 3 = 0 by omega, if_pos (by omega)]; rfl
      · rw [show c * 3 + 1 - c * 3 = 1 by omega, show (c * 3 + 1) / 3 = c by omega, show (c * 3 + 1) % 3 = 1 by omega, if_pos (by omega)]; rfl
      · rw [show c * 3 + 2 - c * 3 = 2 by omega, show (c * 3 + 2) / 3 = c by omega, show (c * 3 + 2) % 3 = 2 by omega, if_pos (by omega)]
        dsimp only
        rw [if_pos rfl]; rfl
    · rw [List.getElem?_eq_none (by simp; omega), List.getElem?_eq_none (by rw [cvs_len]; omega)]

abbrev XB (b g : Nat) (tv cv : Value) (k : Nat) : Prop := k ≤ b ∨ k = g ∨ tv.ownBlock = some k ∨ cv.ownBlock = some k

structure MS (w : World) (d : List Int) (s k c g : Nat) (dv tv cv hv : Value) (us : List Value) (hs : Nat → Value) (wr : World) : Prop where
  bel : Below w.heap.size w wr
  box : wr.rowIs g 26 5 (r5 dv (.int .i64 (s : Int)) tv (.slice none 0 0) cv)
  r0 : wr.rowIs w.heap.size 26 5 (r5 (.slice none 0 0) (.int .i64 0) (.slice none 0 0) (.slice none 0 0) (.slice none 0 0))
  gl : w.heap.size < g
  gt : tv.ownBlock ≠ some g
  gc : cv.ownBlock ≠ some g
  tr : wr.ownsRow (w.heap.size + 1) 101 5 tv (allX [] [] (d.take k)).1.length (tcs (allX [] [] (d.take k)).1 us)
  ul : us.length = (allX [] [] (d.take k)).1.length
  uo : ∀ u ∈ us, u.oneCell' = true
  cr : wr.ownsRow (w.heap.size + 1) 46 3 cv c (cvs d s c hs)
  xa : Ap tv cv
  tc : TC (XB w.heap.size g tv cv) wr us (allX [] [] (d.take k)).1
  dt : BT (XB w.heap.size g tv cv) wr dv d
  hd : BT (XB w.heap.size g tv cv) wr hv (allX [] [] (d.take k)).2
  hc : ∀ i, i < c → BT (XB w.heap.size g tv cv) wr (hs i) (hdN d s i)

theorem MS.keep {w : World} {d : List Int} {s k c g : Nat} {dv tv cv hv : Value} {us : List Value} {hs : Nat → Value} {wr wj : World} (x : MS w d s k c g dv tv cv hv us hs wr) (hb : Below wr.heap.size wr wj) : MS w d s k c g dv tv cv hv us hs wj :=
  ⟨x.bel.trans (hb.mono x.bel.size), rowB x.box hb, rowB x.r0 hb, x.gl, x.gt, x.gc, own_keep x.tr hb, x.ul, x.uo, own_keep x.cr hb, x.xa, x.tc.step (fun k h _ => hb.block k h) hb.size (fun _ h => .inl h), x.dt.step (fun k h _ => hb.block k h) hb.size (fun _ h => .inl h), x.hd.step (fun k h _ => hb.block k h) hb.size (fun _ h => .inl h), fun i hi => (x.hc i hi).step (fun k h _ => hb.block k h) hb.size (fun _ h => .inl h)⟩

theorem MS.check {w : World} {d : List Int} {s k c g : Nat} {dv tv cv hv : Value} {us : List Value} {hs : Nat → Value} {wr w2 w3 : World} (x : MS w d s k c g dv tv cv hv us hs wr) {v cv' : Value} (hb : Below wr.heap.size wr w2) (hv2 : BT (XB w.heap.size g tv cv) w2 v (hdN d s c))
    (ho : w3.ownsRow (w.heap.size + 1) 46 3 cv' (c + 1) (cvs d s c hs ++ [.int .i64 ((c * s : Nat) : Int), .int .i64 ((tkN d s c).length : Int), v])) (hg : w2.grownBy w3 cv.ownBlock) (e : cv'.ownBlock = cv.ownBlock ∨ cv'.ownBlock = some w2.heap.size) :
    MS w d s k (c + 1) g dv tv cv' hv us (fun i => if i = c then v else hs i) (w3.setCell ⟨g, 4, none⟩ cv') := by
  have y := x.keep hb
  have s2 := hg.size
  have K := (KeptIn.refl g (g + 1) w3).setCell (p := ⟨g, 4, none⟩) (by simp) (by simp) cv'
  have sK := K.size
  have told : ∀ q, cv.ownBlock = some q → w.heap.size + 1 ≤ q ∧ q < w2.heap.size := fun q e => y.cr.lt q e
  have tol : ∀ q, tv.ownBlock = some q → w.heap.size + 1 ≤ q ∧ q < w2.heap.size := fun q e => y.tr.lt q e
  have gl := y.gl
  have gb := y.box.lt
  have kb : ∀ q, q < w2.heap.size → q ≠ g → cv.ownBlock ≠ some q → (w3.setCell ⟨g, 4, none⟩ cv').heap[q]? = w2.heap[q]? := fun q h1 h2 h3 => (K.block q (by omega) (by omega)).trans (hg.block q h1 (fun e => h3 e.symm))
  have kX : ∀ q, q < w2.heap.size → ¬ XB w.heap.size g tv cv q → (w3.setCell ⟨g, 4, none⟩ cv').heap[q]? = w2.heap[q]? := fun q h1 h2 => kb q h1 (fun e => h2 (.inr (.inl e))) (fun e => h2 (.inr (.inr (.inr e))))
  have hX : ∀ q, XB w.heap.size g tv cv' q → XB w.heap.size g tv cv q ∨ w2.heap.size ≤ q := fun q h => by
    rcases h with h | h | h | h
    · exact .inl (.inl h)
    · exact .inl (.inr (.inl h))
    · exact .inl (.inr (.inr (.inl h)))
    · rcases e with e | e
      · exact .inl (.inr (.inr (.inr (e ▸ h))))
      · rw [e] at h; cases h; exact .inr (Nat.le_refl _)
  have sz : w2.heap.size ≤ (w3.setCell ⟨g, 4, none⟩ cv').heap.size := Nat.le_trans s2 sK
  have gc' : cv'.ownBlock ≠ some g := fun h => by
    rcases e with e | e
    · exact y.gc (e ▸ h)
    · rw [e] at h; cases h; omega
  refine ⟨?_, ?_, ?_, gl, y.gt, gc', ?_, y.ul, y.uo, ?_, ?_, y.tc.step kX sz hX, y.dt.step kX sz hX, y.hd.step kX sz hX, fun i hi => ?_⟩
  · exact ⟨K.os.trans (hg.os.trans y.bel.os), K.tape.trans (hg.tape.trans y.bel.tape), K.output.trans (hg.output.trans y.bel.output), Nat.le_trans y.bel.size sz, fun q hq => (kb q (by have := y.bel.size; omega) (by omega) (fun e => by have := told q e; omega)).trans (y.bel.block q hq)⟩
  · have r := y.box.of_block (hg.block g gb (fun e => y.gc e.symm))
    refine (r.set 4 cv').congr (fun i hi => ?_)
    have h : i = 0 ∨ i = 1 ∨ i = 2 ∨ i = 3 ∨ i = 4 := by omega
    rcases h with rfl | rfl | rfl | rfl | rfl <;> simp [r5]
  · exact y.r0.of_block (kb _ y.r0.lt (by omega) (fun e => by have := told _ e; omega))
  · exact own_of y.tr (Nat.le_refl _) (fun q eq hq => kb q (tol q eq).2 (fun e => y.gt (e ▸ eq)) (fun e2 => y.xa q eq e2))
  · rw [← cvs_succ]
    exact own_of ho (Nat.le_refl _) (fun q eq hq => K.block q (ho.lt q eq).2 (by have : q ≠ g := fun e2 => gc' (e2 ▸ eq); omega))
  · intro q eq eq2
    rcases e with e | e
    · rw [e] at eq2; exact y.xa q eq eq2
    · rw [e] at eq2; cases eq2; have := tol _ eq; omega
  · by_cases h : i = c
    · subst h
      rw [if_pos rfl]
      exact hv2.step kX sz hX
    · rw [if_neg h]
      exact (y.hc i (by omega)).step kX sz hX

theorem MS.feed {w : World} {d : List Int} {s k c g : Nat} {dv tv cv hv : Value} {us : List Value} {hs : Nat → Value} {wr w2 w3 : World} (x : MS w d s k c g dv tv cv hv us hs wr) {tv' hv' : Value} {R : List TK × List Int} {us1 : List Value} (eX : allX [] [] (d.take (k + 1)) = ((allX [] [] (d.take k)).1 ++ R.1, R.2))
    (hb : Below wr.heap.size wr w2) (hl1 : us1.length = R.1.length) (h1 : ∀ u ∈ us1, u.oneCell' = true) (hA : ∀ (i : Nat) t u, R.1[i]? = some t → us1[i]? = some u → TokIn wr.heap.size w2 none t u) (hh : w2.ownsRow wr.heap.size 5 1 hv' R.2.length (bcs R.2))
    (ho : w3.ownsRow (w.heap.size + 1) 101 5 tv' ((allX [] [] (d.take k)).1.length + R.1.length) (tcs (allX [] [] (d.take k)).1 us ++ tcs R.1 us1)) (hg : w2.grownBy w3 tv.ownBlock) (e : tv'.ownBlock = tv.ownBlock ∨ tv'.ownBlock = some w2.heap.size) :
    MS w d s (k + 1) c g dv tv' cv hv' (us ++ us1) hs (w3.setCell ⟨g, 2, none⟩ tv') := by
  have y := x.keep hb
  have s1 := hb.size
  have s2 := hg.size
  have K := (KeptIn.refl g (g + 1) w3).setCell (p := ⟨g, 2, none⟩) (by simp) (by simp) tv'
  have sK := K.size
  have told : ∀ q, cv.ownBlock = some q → w.heap.size + 1 ≤ q ∧ q < wr.heap.size := fun q e => x.cr.lt q e
  have tol : ∀ q, tv.ownBlock = some q → w.heap.size + 1 ≤ q ∧ q < wr.heap.size := fun q e => x.tr.lt q e
  have gl := y.gl
  have gb := x.box.lt
  have kb : ∀ q, q < w2.heap.size → q ≠ g → tv.ownBlock ≠ some q → (w3.setCell ⟨g, 2, none⟩ tv').heap[q]? = w2.heap[q]? := fun q h1 h2 h3 => (K.block q (by omega) (by omega)).trans (hg.block q h1 (fun e => h3 e.symm))
  have kX : ∀ q, q < w2.heap.size → ¬ XB w.heap.size g tv cv q → (w3.setCell ⟨g, 2, none⟩ tv').heap[q]? = w2.heap[q]? := fun q h1 h2 => kb q h1 (fun e => h2 (.inr (.inl e))) (fun e => h2 (.inr (.inr (.inl e))))
  have hX : ∀ q, XB w.heap.size g tv' cv q → XB w.heap.size g tv cv q ∨ w2.heap.size ≤ q := fun q h => by
    rcases h with h | h | h | h
    · exact .inl (.inl h)
    · exact .inl (.inr (.inl h))
    · rcases e with e | e
      · exact .inl (.inr (.inr (.inl (e ▸ h))))
      · rw [e] at h; cases h; exact .inr (Nat.le_refl _)
    · exact .inl (.inr (.inr (.inr h)))
  have old : ∀ q, XB w.heap.size g tv cv q → q < wr.heap.size := fun q h => by
    rcases h with h | h | h | h
    · omega
    · omega
    · exact (tol q h).2
    · exact (told q h).2
  have sz : w2.heap.size ≤ (w3.setCell ⟨g, 2, none⟩ tv').heap.size := Nat.le_trans s2 sK
  have gt' : tv'.ownBlock ≠ some g := fun h => by
    rcases e with e | e
    · exact y.gt (e ▸ h)
    · rw [e] at h; cases h; omega
  have e1 : (allX [] [] (d.take (k + 1))).1 = (allX [] [] (d.take k)).1 ++ R.1 := congrArg Prod.fst eX
  have e2 : (allX [] [] (d.take (k + 1))).2 = R.2 := by rw [eX]
  refine ⟨?_, ?_, ?_, gl, gt', y.gc, ?_, ?_, fun u hu => ?_, ?_, ?_, ?_, y.dt.step kX sz hX, ?_, fun i hi => (y.hc i hi).step kX sz hX⟩
  · exact ⟨K.os.trans (hg.os.trans y.bel.os), K.tape.trans (hg.tape.trans y.bel.tape), K.output.trans (hg.output.trans y.bel.output), Nat.le_trans y.bel.size sz, fun q hq => (kb q (by have := y.bel.size; omega) (by omega) (fun e => by have := tol q e; omega)).trans (y.bel.block q hq)⟩
  · have r := y.box.of_block (hg.block g (by omega) (fun e => y.gt e.symm))
    refine (r.set 2 tv').congr (fun i hi => ?_)
    have h : i = 0 ∨ i = 1 ∨ i = 2 ∨ i = 3 ∨ i = 4 := by omega
    rcases h with rfl | rfl | rfl | rfl | rfl <;> simp [r5]
  · exact y.r0.of_block (kb _ y.r0.lt (by omega) (fun e => by have := tol _ e; omega))
  · rw [e1, tcs_app _ _ _ _ x.ul, List.length_append]
    exact own_of ho (Nat.le_refl _) (fun q eq hq => K.block q (ho.lt q eq).2 (by have : q ≠ g := fun e2 => gt' (e2 ▸ eq); omega))
  · rw [e1, List.length_append, List.length_append, x.ul, hl1]
  · rcases List.mem_append.1 hu with hu | hu
    · exact x.uo u hu
    · exact h1 u hu
  · exact own_of y.cr (Nat.le_refl _) (fun q eq hq => kb q (by have := told q eq; omega) (fun e => y.gc (e ▸ eq)) (fun e2 => y.xa q e2 eq))
  · intro q eq eq2
    rcases e with e | e
    · rw [e] at eq; exact y.xa q eq eq2
    · rw [e] at eq; cases eq; have := told _ eq2; omega
  · rw [e1]
    exact (y.tc.app x.ul (TC.of hl1 hA old)).step kX sz hX
  · rw [e2]
    exact (BT.of_own hh (fun q eq hx => by have := (hh.lt q eq).1; have := old q hx; omega)).step kX sz hX

end Go.Proofs.YtkiinnmindmnbaaGreatDoor
