/- An edit, the program's side. -/
import Derived.Test.YtdloogkjnjklcaaGreatDoorE30
import Derived.Laws.ComplexArith
import Derived.Test.YtdloogkjnjklcaaGreatDoorE29
set_option linter.unusedVariables false
set_option linter.unusedSimpArgs false
namespace Go.Proofs.YtdloogkjnjklcaaGreatDoor
open Go.RowKit

theorem setRow_kept (w : World) (g : Nat) (z : Array Value) : KeptIn g (g + 1) w (w.setRow g z) := ⟨rfl, rfl, rfl, by simp [World.setRow], fun k hk hne => setRow_other w g k _ (by omega)⟩

end Go.Proofs.YtdloogkjnjklcaaGreatDoor

namespace Go.Proofs.YtdloogkjnjklcaaGreatDoor
open Go.RowKit

theorem results_cell1 {fn : Func} {p : Tmp} {t1 : TypeId} (h : fn.results = #[.cell p t1]) (tmps : Array Value) (P : Program) (w : World) (g : Addr) (v : Value) (hp : tmps.getD p undef = .pointer (some g)) (hl : (loadVar t1 g).run P w = .ok v w) :
    (results fn tmps).run P w = .ok v w := by
  have e : (results fn tmps).run P w = ((asAddr (tmps.getD p undef)).run P w).andThen fun a w₁ => (loadVar t1 a).run P w₁ := by
    simp only [results, h]
    simp [Sem.run_bind, Result.andThen]
  rw [e, hp]
  simp [asAddr, Result.andThen, hl]

set_option maxRecDepth 100000 in
set_option maxHeartbeats 6400000 in
theorem specNM_any (d : List Int) (st : Int) (ad : Option Addr) (cd : Nat) (w : World) (hd : BAt w ad d) (hu : Byt d) (hl : (d.length : Int) ≤ 9223372036854775807) :
    Calls Tryz.prog 7 #[.slice ad d.length cd, .int .i64 st] w fun e w' => ∃ a t u c ca ct cu cc, e = .returned (.agg #[.int .i64 (askC d st), .int .i64 (rR d st), .slice a (rM d st).dt.length ca, .int .i64 (rM d st).st, .slice t (rM d st).tk.length ct, .slice u (rM d st).hd.length cu, .slice c (rM d st).cs.length cc]) ∧ MAt w' a t u c (rM d st) ∧ Below w.heap.size w w' := by
  have N0 := below_new w (.cells #[.int .i64 0, .int .i64 0, .slice none 0 0, .int .i64 0, .slice none 0 0, .slice none 0 0, .slice none 0 0] 28)
  have R0 := Hid.mk' (row7 w 28 (.int .i64 0) (.int .i64 0) (.slice none 0 0) (.int .i64 0) (.slice none 0 0) (.slice none 0 0) (.slice none 0 0))
  have KA := Hid.mk' (l12Asked_any ad cd d st (w.alloc (.cells #[.int .i64 0, .int .i64 0, .slice none 0 0, .int .i64 0, .slice none 0 0, .slice none 0 0, .slice none 0 0] 28)) hl)
  have B0 := Hid.mk' N0
  have HD := Hid.mk' (hd.below N0)
  clear N0 hd
  by_cases h0 : askC d st = 0
  rotate_left
  · have er : Hid (rM d st = m0) := Hid.mk' (by unfold rM; rw [if_neg h0])
    have ev : Hid (rR d st = 0) := Hid.mk' (by unfold rR; rw [if_neg h0])
    obtain ⟨F, hF⟩ : ∃ F, askC d st = F := ⟨_, rfl⟩
    rw [hF] at h0 KA ⊢
    have hne : (F != 0) = true := by simp [h0]
    have HG := Hid.mk' (Deep.blk_alloc_new w (.cells #[.int .i64 0, .int .i64 0, .slice none 0 0, .int .i64 0, .slice none 0 0, .slice none 0 0, .slice none 0 0] 28))
    clear hF
    go_enter Tryz.func7, Tryz.ntmps7
    go_wp2_with fail
    refine KA.out.mono ?_
    rintro e w1 ⟨rfl, rfl⟩
    go_wp2
    refine bodyPost_ret (v := .agg #[.int .i64 F, .int .i64 0, .slice none 0 0, .int .i64 0, .slice none 0 0, .slice none 0 0, .slice none 0 0]) (by simp [results, Tryz.results7, go_sem, *]) rfl ?_
    rw [er.out, ev.out]
    exact ⟨none, none, none, none, 0, 0, 0, 0, rfl, ⟨.inl rfl, .inl rfl, .inl rfl, .inl rfl⟩, below_new w _⟩
  obtain ⟨h240, s, rfl, hs, hs2⟩ := askC_ok h0
  have er : Hid (rM d (s : Int) = memX d s) := Hid.mk' (by unfold rM; rw [if_pos h0]; rfl)
  have ev : Hid (rR d (s : Int) = d.length) := Hid.mk' (by unfold rR; rw [if_pos h0])
  have KN := Hid.mk' (l12New_any d ad cd s _ HD.out hu h240 hs hs2)
  rw [h0] at KA ⊢
  generalize hW : w.alloc (.cells #[.int .i64 0, .int .i64 0, .slice none 0 0, .int .i64 0, .slice none 0 0, .slice none 0 0, .slice none 0 0] 28) = W at *
  clear HD
  go_enter Tryz.func7, Tryz.ntmps7
  go_wp2_with fail
  refine KA.out.mono ?_
  rintro e w1 ⟨rfl, hw1⟩
  obtain rfl := hw1.symm
  clear hw1 KA
  go_wp2_with fail
  clear hW
  refine KN.out.mono ?_
  rintro e w2 ⟨a, t, u, c, ca, ct, cu, cc, rfl, hM, hb2⟩
  have R2 := rowB R0.out hb2
  have HG := row_arr R2
  obtain ⟨X, hX⟩ : ∃ X : Array Value, X = #[.int .i64 0, .int .i64 (d.length : Int), .slice a d.length ca, .int .i64 (s : Int), .slice t (allX [] [] d).1.length ct, .slice u (allX [] [] d).2.length cu, .slice c (d.length / s + 1) cc] := ⟨_, rfl⟩
  have X1 : X.all (·.oneCell') = true := by rw [hX]; kernel_rfl
  have X2 : X.size = 7 := by rw [hX]; rfl
  have HS := setRow_heap w2 w.heap.size _ X 28 (0, 0) HG
  have HL := run_loadVar_row (P := Tryz.prog) _ w.heap.size 28 28 _ (0, 0) _ HS Tryz.underlying28 rfl (by rw [X2]; kernel_rfl)
  have HK := Hid.mk' (setRow_kept w2 w.heap.size X)
  have B2 := Hid.mk' (B0.out.trans (hb2.mono B0.out.size))
  have HM := Hid.mk' (hM (w2.setRow w.heap.size X) HK.out.size (fun q h1 h2 => HK.out.block q h2 (.inr (by have := R0.out.lt; omega))))
  have HG := Hid.mk' HG
  have HL := Hid.mk' HL
  have HX := Hid.mk' hX
  clear hM hb2 R2 HS KN hX
  go_wp2_with ((with_reducible refine wpList_store_row ?_ 28 (.tmp 4) (.tmp 18) ?_ w.heap.size X ?_ ?_ 28 _ HG.out ?_ ?_ ?_ ?_); rfl; rfl; rfl; (rw [HX.out]; rfl); (rw [X2]; kernel_rfl); (rw [arrOf_size, X2]); exact X1)
  refine bodyPost_ret (v := .agg X) ?_ ?_ ?_
  · exact results_cell1 Tryz.results7 _ _ _ ⟨w.heap.size, 0, none⟩ _ rfl HL.out
  · rfl
  rw [er.out, ev.out]
  exact ⟨a, t, u, c, ca, ct, cu, cc, by rw [HX.out]; simp [memX, cksN_len], HM.out, B2.out.trans (HK.out.below (Nat.le_refl _) B2.out.size)⟩

end Go.Proofs.YtdloogkjnjklcaaGreatDoor

namespace Go.Proofs.YtdloogkjnjklcaaGreatDoor
open Go.RowKit

structure WM (wa : World) (q : Nat) (C R : Int) (m : ME) (a t u c : Option Addr) (ca ct cu cc : Nat) (wi : World) : Prop where
  old : Below wa.heap.size wa wi
  box : wi.rowIs q 28 7 (r7 (.int .i64 C) (.int .i64 R) (.slice a m.dt.length ca) (.int .i64 m.st) (.slice t m.tk.length ct) (.slice u m.hd.length cu) (.slice c m.cs.length cc))
  at_ : MAt wa a t u c m
  qlt : q < wa.heap.size

theorem WM.below {wa : World} {q : Nat} {C R : Int} {m : ME} {a t u c : Option Addr} {ca ct cu cc : Nat} {wi wj : World} (h : WM wa q C R m a t u c ca ct cu cc wi) (hb : Below wi.heap.size wi wj) : WM wa q C R m a t u c ca ct cu cc wj :=
  ⟨h.old.trans (hb.mono h.old.size), rowB h.box hb, h.at_, h.qlt⟩
theorem WM.kept {wa : World} {q lo hi : Nat} {C R : Int} {m : ME} {a t u c : Option Addr} {ca ct cu cc : Nat} {wi wj : World} (h : WM wa q C R m a t u c ca ct cu cc wi) (hk : KeptIn lo hi wi wj) (hlo : wa.heap.size ≤ lo) : WM wa q C R m a t u c ca ct cu cc wj :=
  ⟨h.old.trans (hk.below hlo h.old.size), rowK h.box hk (.inl (Nat.lt_of_lt_of_le h.qlt hlo)), h.at_, h.qlt⟩
theorem WM.now {wa : World} {q : Nat} {C R : Int} {m : ME} {a t u c : Option Addr} {ca ct cu cc : Nat} {wi : World} (h : WM wa q C R m a t u c ca ct cu cc wi) : MAt wi a t u c m := h.at_.below h.old

structure WG (lo hi q : Nat) (C R st : Int) (m : ME) (vd tv hv cv : Value) (us : List Value) (rs : Nat → List Value) (bl bh : Nat → Nat) (hvs : Nat → Value) (wi : World) : Prop where
  box : wi.rowIs q 28 7 (r7 (.int .i64 C) (.int .i64 R) vd (.int .i64 st) tv hv cv)
  own : ∃ tau, GM lo hi tau m vd tv hv cv us rs bl bh hvs wi
  hiq : hi ≤ q

theorem WG.below {lo hi q : Nat} {C R st : Int} {m : ME} {vd tv hv cv : Value} {us : List Value} {rs : Nat → List Value} {bl bh : Nat → Nat} {hvs : Nat → Value} {wi wj : World} (h : WG lo hi q C R st m vd tv hv cv us rs bl bh hvs wi) (hb : Below wi.heap.size wi wj) : WG lo hi q C R st m vd tv hv cv us rs bl bh hvs wj :=
  ⟨rowB h.box hb, by obtain ⟨tau, x⟩ := h.own; exact ⟨tau, x.below hb⟩, h.hiq⟩
theorem WG.kept {lo hi q a b : Nat} {C R st : Int} {m : ME} {vd tv hv cv : Value} {us : List Value} {rs : Nat → List Value} {bl bh : Nat → Nat} {hvs : Nat → Value} {wi wj : World} (h : WG lo hi q C R st m vd tv hv cv us rs bl bh hvs wi) (hk : KeptIn a b wi wj) (hb : b ≤ lo) (hlh : lo ≤ hi) : WG lo hi q C R st m vd tv hv cv us rs bl bh hvs wj :=
  ⟨rowK h.box hk (.inr (by have := h.hiq; omega)), by obtain ⟨tau, x⟩ := h.own; exact ⟨tau, x.kept hk hb⟩, h.hiq⟩

set_option maxRecDepth 100000 in
set_option maxHeartbeats 8000000 in
theorem lawNM_any (a : Option Addr) (c : Nat) (d : List Int) (st : Int) (tp : TypeId) (pv : Value) (w : World) (hE : Env w.heap.size tp pv w) (ha : BAt w a d) (hu : Byt d) (hl0 : (d.length : Int) ≤ 9223372036854775807) (b1 : -9223372036854775808 ≤ st) (b2 : st ≤ 9223372036854775807) :
    Calls Tryz.prog 3 #[.slice a d.length c, .int .i64 st] w fun ev w' => ev = .returned (.bool true) ∧ Below w.heap.size w w' := by
  by_cases hl : (d.length : Int) ≤ 1048576
  rotate_left
  · clear ha
    go_enter Tryz.func3, Tryz.ntmps3
    go_wp2
    go_ret
    exact ⟨rfl, Below.refl _ _⟩
  have hsz := rM_small d st
  have HE := Hid.mk' hE
  have A := Hid.mk' ha
  have HU := Hid.mk' hu
  have KSP : Hid (∀ (V : World) (a' : Option Addr), BAt V a' d → Calls Tryz.prog 7 #[.slice a' d.length d.length, .int .i64 st] V fun e w' => ∃ a t u c ca ct cu cc, e = .returned (.agg #[.int .i64 (askC d st), .int .i64 (rR d st), .slice a (rM d st).dt.length ca, .int .i64 (rM d st).st, .slice t (rM d st).tk.length ct, .slice u (rM d st).hd.length cu, .slice c (rM d st).cs.length cc]) ∧ MAt w' a t u c (rM d st) ∧ Below V.heap.size V w') := Hid.mk' (fun V a' h => specNM_any d st a' _ V h HU.out hl0)
  have KIM : Hid (∀ (V : World) (a' : Option Addr), Env V.heap.size tp pv V → BAt V a' d → Calls Tryz.prog 9 #[.slice a' d.length d.length, .int .i64 st] V fun e w' => ∃ tau vd tv hv cv us rs bl bh hvs, e = .returned (.agg #[.int .i64 (askC d st), .int .i64 (rR d st), vd, .int .i64 (rM d st).st, tv, hv, cv]) ∧ GM V.heap.size w'.heap.size tau (rM d st) vd tv hv cv us rs bl bh hvs w' ∧ Below V.heap.size V w') := Hid.mk' (fun V a' hE' h => implNM_gm tp pv d st a' _ V hE' h (Nat.le_refl _) HU.out hl0)
  generalize askC d st = C at *
  generalize rR d st = R at *
  generalize rM d st = m at *
  have zN : ¬ ((mkN m : Int) < 0) := by omega
  have zD : ¬ (((1 : Nat) : Int) + (d.length : Int) < 0) := by omega
  clear ha hu hE b1 b2
  go_enter Tryz.func3, Tryz.ntmps3
  go_wp2_with fail
  refine (toByteS_any a c d w A.out hl).mono ?_
  rintro e1 w1 ⟨g1, rfl, gl1, r1, hb1⟩
  have B1 := Hid.mk' hb1
  have R1 := Hid.mk' r1
  clear hb1 r1
  go_wp2_with fail
  refine (KSP.out w1 _ (BAt.of_row R1.out)).mono ?_
  rintro e2 w2 ⟨pa, pt, pu, pc, qa, qt, qu, qc, rfl, hM, hb2⟩
  have NW := below_new w2 (.cells #[.int .i64 C, .int .i64 R, .slice pa m.dt.length qa, .int .i64 m.st, .slice pt m.tk.length qt, .slice pu m.hd.length qu, .slice pc m.cs.length qc] 28)
  have B2 := Hid.mk' ((B1.out.trans (hb2.mono B1.out.size)).trans (NW.mono (Nat.le_trans B1.out.size hb2.size)))
  have W2 : Hid (WM _ w2.heap.size C R m pa pt pu pc qa qt qu qc _) := Hid.mk' ⟨Below.refl _ _, row7 w2 28 (.int .i64 C) (.int .i64 R) (.slice pa m.dt.length qa) (.int .i64 m.st) (.slice pt m.tk.length qt) (.slice pu m.hd.length qu) (.slice pc m.cs.length qc), hM.below NW, by simp⟩
  clear B1 R1 hb2 hM NW gl1
  generalize hwa : w2.alloc (.cells #[.int .i64 C, .int .i64 R, .slice pa m.dt.length qa, .int .i64 m.st, .slice pt m.tk.length qt, .slice pu m.hd.length qu, .slice pc m.cs.length qc] 28) = wa at *
  go_wp2_with fail
  clear hwa
  have s3 := B2.out.size
  refine (toByteS_any a c d wa (A.out.below B2.out) hl).mono ?_
  rintro e4 w4 ⟨x0, rfl, lx0, rx0, hb4⟩
  have B4 := Hid.mk' (B2.out.trans (hb4.mono B2.out.size))
  have W4 := Hid.mk' (W2.out.below hb4)
  have X0 := Hid.mk' rx0
  have s4 := hb4.size
  have lx4 := rx0.lt
  clear hb4 rx0 B2 W2
  go_wp2_with fail
  refine (KIM.out w4 _ ((HE.out.keep B4.out).up B4.out.size (Nat.le_refl _)) (BAt.of_row X0.out)).mono ?_
  rintro e6 w6 ⟨tau, vd, tv, hv, cv, us, rs, bl, bh, hvs, rfl, gm, hb6⟩
  obtain ⟨ga, gt, gu, gc, fa, ft, fu, fc, rfl, rfl, rfl, rfl, -⟩ := gm.at
  have NW := below_new w6 (.cells #[.int .i64 C, .int .i64 R, .slice ga m.dt.length fa, .int .i64 m.st, .slice gt m.tk.length ft, .slice gu m.hd.length fu, .slice gc m.cs.length fc] 28)
  have s6 := hb6.size
  have B6 := Hid.mk' ((B4.out.trans (hb6.mono B4.out.size)).trans (NW.mono (Nat.le_trans B4.out.size hb6.size)))
  have W6 := Hid.mk' ((W4.out.below hb6).below NW)
  have X6 := Hid.mk' (rowB (rowB X0.out hb6) NW)
  have G6 : Hid (WG w4.heap.size w6.heap.size w6.heap.size C R m.st m _ _ _ _ us rs bl bh hvs _) := Hid.mk' ⟨row7 w6 28 (.int .i64 C) (.int .i64 R) (.slice ga m.dt.length fa) (.int .i64 m.st) (.slice gt m.tk.length ft) (.slice gu m.hd.length fu) (.slice gc m.cs.length fc), ⟨tau, gm.below NW⟩, Nat.le_refl _⟩
  clear hb6 B4 W4 X0 gm NW
  generalize hwc : w6.alloc (.cells #[.int .i64 C, .int .i64 R, .slice ga m.dt.length fa, .int .i64 m.st, .slice gt m.tk.length ft, .slice gu m.hd.length fu, .slice gc m.cs.length fc] 28) = wc at *
  have GAT : Hid (∀ V (m' : ME), m'.dt.length = m.dt.length → m'.tk.length = m.tk.length → m'.hd.length = m.hd.length → m'.cs.length = m.cs.length → WG w4.heap.size w6.heap.size w6.heap.size C R m.st m' (.slice ga m.dt.length fa) (.slice gt m.tk.length ft) (.slice gu m.hd.length fu) (.slice gc m.cs.length fc) us rs bl bh hvs V → MAt V ga gt gu gc m') := Hid.mk' (fun V m' h1 h2 h3 h4 x => by
    obtain ⟨tau', y⟩ := x.own
    obtain ⟨a1, t1, u1, c1, _, _, _, _, e1, e2, e3, e4, h⟩ := y.at
    simp only [Value.slice.injEq] at e1 e2 e3 e4
    obtain ⟨rfl, -⟩ := e1
    obtain ⟨rfl, -⟩ := e2
    obtain ⟨rfl, -⟩ := e3
    obtain ⟨rfl, -⟩ := e4
    exact h)
  obtain ⟨z0, z1, z2, z3, z4, z5, z6, z7⟩ := cells7 W6.out.box
  obtain ⟨q0, q1, q2, q3, q4, q5, q6, q7⟩ := cells7 G6.out.box
  go_wp2_with fail
  clear hwc
  refine (eqMR_any C R m ga gt gu gc pa pt pu pc _ _ _ _ _ _ _ _ wc (GAT.out _ m rfl rfl rfl rfl G6.out) W6.out.now hsz).mono ?_
  rintro e7 w7 ⟨rfl, hb7⟩
  have B7 := Hid.mk' (B6.out.trans (hb7.mono B6.out.size))
  have W7 := Hid.mk' (W6.out.below hb7)
  have X7 := Hid.mk' (rowB X6.out hb7)
  have G7 := Hid.mk' (G6.out.below hb7)
  clear hb7 B6 W6 X6 G6 z0 z1 z2 z3 z4 z5 z6 z7 q0 q1 q2 q3 q4 q5 q6 q7
  go_wp2_with fail
  refine (toByteS_any a c d w7 (A.out.below B7.out) hl).mono ?_
  rintro e8 w8 ⟨y0, rfl, _, ry0, hb8⟩
  have B8 := Hid.mk' (B7.out.trans (hb8.mono B7.out.size))
  have W8 := Hid.mk' (W7.out.below hb8)
  have X8 := Hid.mk' (rowB X7.out hb8)
  have G8 := Hid.mk' (G7.out.below hb8)
  have Y8 := Hid.mk' ry0
  clear hb8 ry0 B7 W7 X7 G7
  go_wp2_with fail
  refine (eqByteS_any _ _ _ _ d w8 (BAt.of_row X8.out) (BAt.of_row Y8.out) hl).mono ?_
  rintro e9 w9 ⟨rfl, hb9⟩
  have B9 := Hid.mk' (B8.out.trans (hb9.mono B8.out.size))
  have W9 := Hid.mk' (W8.out.below hb9)
  have X9 := Hid.mk' (rowB X8.out hb9)
  have G9 := Hid.mk' (G8.out.below hb9)
  clear hb9 B8 W8 X8 G8 Y8
  go_wp2_with fail
  refine (markByteS_row x0 d.length d.length d.length 1 _ w9 X9.out (Nat.le_refl _) (by omega)).mono ?_
  rintro e10 w10 ⟨rfl, _, hk10⟩
  have sz := B9.out.size
  have B10 := Hid.mk' (B9.out.trans (hk10.below (B := w.heap.size) (by omega) (by omega)))
  have W10 := Hid.mk' (W9.out.kept hk10 (by omega))
  have G10 := Hid.mk' (G9.out.kept hk10 (by omega) s6)
  clear hk10 B9 W9 X9 G9
  obtain ⟨z0, z1, z2, z3, z4, z5, z6, z7⟩ := cells7 W10.out.box
  obtain ⟨q0, q1, q2, q3, q4, q5, q6, q7⟩ := cells7 G10.out.box
  go_wp2_with fail
  refine (eqMR_any C R m ga gt gu gc pa pt pu pc _ _ _ _ _ _ _ _ w10 (GAT.out _ m rfl rfl rfl rfl G10.out) W10.out.now hsz).mono ?_
  rintro e11 w11 ⟨rfl, hb11⟩
  have B11 := Hid.mk' (B10.out.trans (hb11.mono B10.out.size))
  have W11 := Hid.mk' (W10.out.below hb11)
  have G11 := Hid.mk' (G10.out.below hb11)
  clear hb11 B10 W10 G10 z0 z1 z2 z3 z4 z5 z6 z7 q0 q1 q2 q3 q4 q5 q6 q7
  obtain ⟨q0, q1, q2, q3, q4, q5, q6, q7⟩ := cells7 G11.out.box
  obtain ⟨tau2, gm2⟩ := G11.out.own
  have GB := Hid.mk' G11.out.box
  have KM := Hid.mk' (markMR_is C R w4.heap.size w6.heap.size tau2 m _ _ _ _ us rs bl bh hvs w11 gm2 (by omega) (by omega) hsz)
  clear gm2 G11
  go_wp2_with fail
  refine KM.out.mono ?_
  rintro e12 w12 ⟨rfl, gm12, hk12⟩
  have B12 := Hid.mk' (B11.out.trans (hk12.below (B := w.heap.size) (by omega) B11.out.size))
  have W12 := Hid.mk' (W11.out.kept hk12 (by omega))
  have G12 : Hid (WG w4.heap.size w6.heap.size w6.heap.size C R m.st (mkM m) _ _ _ _ us rs bl bh hvs w12) := Hid.mk' ⟨rowK GB.out hk12 (.inr (Nat.le_refl _)), gm12, Nat.le_refl _⟩
  clear KM gm12 hk12 B11 W11 GB q0 q1 q2 q3 q4 q5 q6 q7
  have ML : Hid ((mkM m).dt.length = m.dt.length ∧ (mkM m).tk.length = m.tk.length ∧ (mkM m).hd.length = m.hd.length ∧ (mkM m).cs.length = m.cs.length) := Hid.mk' ⟨mb_len _ _, mkT_len _ _, mb_len _ _, mkC_len _ _⟩
  obtain ⟨q0, q1, q2, q3, q4, q5, q6, q7⟩ := cells7 G12.out.box
  go_wp2_with fail
  refine (heldMR_is C R m ga gt gu gc _ _ _ _ w12 (GAT.out _ (mkM m) ML.out.1 ML.out.2.1 ML.out.2.2.1 ML.out.2.2.2 G12.out) hsz).mono ?_
  rintro e13 w13 ⟨rfl, hb13⟩
  have B13 := Hid.mk' (B12.out.trans (hb13.mono B12.out.size))
  have W13 := Hid.mk' (W12.out.below hb13)
  have G13 := Hid.mk' (G12.out.below hb13)
  clear hb13 B12 W12 G12 q0 q1 q2 q3 q4 q5 q6 q7
  go_wp2_with fail
  refine (toByteS_any a c d w13 (A.out.below B13.out) hl).mono ?_
  rintro e14 w14 ⟨v0, rfl, _, rv0, hb14⟩
  have B14 := Hid.mk' (B13.out.trans (hb14.mono B13.out.size))
  have W14 := Hid.mk' (W13.out.below hb14)
  have G14 := Hid.mk' (G13.out.below hb14)
  have V0 := Hid.mk' rv0
  clear hb14 rv0 B13 W13 G13
  go_wp2_with fail
  refine (KIM.out w14 _ ((HE.out.keep B14.out).up B14.out.size (Nat.le_refl _)) (BAt.of_row V0.out)).mono ?_
  rintro e15 w15 ⟨tau3, vd3, tv3, hv3, cv3, us3, rs3, bl3, bh3, hvs3, rfl, gm3, hb15⟩
  obtain ⟨ka, kt, ku, kc, la, lt, lu, lc, rfl, rfl, rfl, rfl, hM3⟩ := gm3.at
  have NW := below_new w15 (.cells #[.int .i64 C, .int .i64 R, .slice ka m.dt.length la, .int .i64 m.st, .slice kt m.tk.length lt, .slice ku m.hd.length lu, .slice kc m.cs.length lc] 28)
  have B15 := Hid.mk' ((B14.out.trans (hb15.mono B14.out.size)).trans (NW.mono (Nat.le_trans B14.out.size hb15.size)))
  have W15 := Hid.mk' ((W14.out.below hb15).below NW)
  have G15 := Hid.mk' ((G14.out.below hb15).below NW)
  have M15 := Hid.mk' (hM3.below NW)
  have Y15 := Hid.mk' (row7 w15 28 (.int .i64 C) (.int .i64 R) (.slice ka m.dt.length la) (.int .i64 m.st) (.slice kt m.tk.length lt) (.slice ku m.hd.length lu) (.slice kc m.cs.length lc))
  clear hb15 B14 W14 G14 V0 gm3 NW hM3
  generalize hwd : w15.alloc (.cells #[.int .i64 C, .int .i64 R, .slice ka m.dt.length la, .int .i64 m.st, .slice kt m.tk.length lt, .slice ku m.hd.length lu, .slice kc m.cs.length lc] 28) = wd at *
  obtain ⟨z0, z1, z2, z3, z4, z5, z6, z7⟩ := cells7 W15.out.box
  obtain ⟨q0, q1, q2, q3, q4, q5, q6, q7⟩ := cells7 Y15.out
  go_wp2_with fail
  clear hwd
  refine (eqMR_any C R m ka kt ku kc pa pt pu pc _ _ _ _ _ _ _ _ wd M15.out W15.out.now hsz).mono ?_
  rintro e16 w16 ⟨rfl, hb16⟩
  have B16 := Hid.mk' (B15.out.trans (hb16.mono B15.out.size))
  have G16 := Hid.mk' (G15.out.below hb16)
  clear hb16 B15 W15 G15 M15 Y15 z0 z1 z2 z3 z4 z5 z6 z7 q0 q1 q2 q3 q4 q5 q6 q7
  obtain ⟨q0, q1, q2, q3, q4, q5, q6, q7⟩ := cells7 G16.out.box
  go_wp2_with fail
  refine (heldMR_is C R m ga gt gu gc _ _ _ _ w16 (GAT.out _ (mkM m) ML.out.1 ML.out.2.1 ML.out.2.2.1 ML.out.2.2.2 G16.out) hsz).mono ?_
  rintro e17 w17 ⟨rfl, hb17⟩
  have B17 := Hid.mk' (B16.out.trans (hb17.mono B16.out.size))
  clear hb17 B16 G16 q0 q1 q2 q3 q4 q5 q6 q7
  go_wp2
  go_ret
  exact ⟨rfl, B17.out⟩

end Go.Proofs.YtdloogkjnjklcaaGreatDoor
