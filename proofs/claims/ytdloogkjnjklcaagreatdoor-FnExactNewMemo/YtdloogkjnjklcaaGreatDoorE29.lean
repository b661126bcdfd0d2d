/- What was marked is held; results of memos; the model's NewMemo. -/
import Derived.Test.YtdloogkjnjklcaaGreatDoorE28
set_option linter.unusedVariables false
set_option linter.unusedSimpArgs false
namespace Go.Proofs.YtdloogkjnjklcaaGreatDoor
open Go.RowKit

set_option maxRecDepth 100000 in
set_option maxHeartbeats 3200000 in
theorem heldMemo_is (m : ME) (a t u c : Option Addr) (ca ct cu cc : Nat) (w : World) (h : MAt w a t u c (mkM m)) (hm : (msz m : Int) ≤ 1048576) :
    Calls Tryz.prog 32 #[.agg #[.slice a m.dt.length ca, .int .i64 m.st, .slice t m.tk.length ct, .slice u m.hd.length cu, .slice c m.cs.length cc], .int .i64 1] w fun e w' => e = .returned (.int .i64 (mkN m : Int)) ∧ Below w.heap.size w w' := by
  have MS_ : (msz m : Int) = m.dt.length + m.tk.length + tssz m.tk + m.hd.length + m.cs.length + csz m.cs := by unfold msz; omega
  have ctl := ctN_le m.tk m.tk.length
  rw [List.take_length] at ctl
  have N0 := below_new w (.cells #[.slice a m.dt.length ca, .int .i64 m.st, .slice t m.tk.length ct, .slice u m.hd.length cu, .slice c m.cs.length cc] 26)
  have R0 := Hid.mk' (row5 w 26 (.slice a m.dt.length ca) (.int .i64 m.st) (.slice t m.tk.length ct) (.slice u m.hd.length cu) (.slice c m.cs.length cc))
  have X0 := h.below N0
  obtain ⟨h1, h2, h3, h4⟩ := X0
  have B0 := Hid.mk' N0
  obtain ⟨z1, hz1⟩ : ∃ z1 : Nat, z1 = 1 + m.dt.length := ⟨_, rfl⟩
  obtain ⟨z2, hz2⟩ : ∃ z2 : Nat, z2 = 1 + m.dt.length + ctN m.tk := ⟨_, rfl⟩
  obtain ⟨z3, hz3⟩ : ∃ z3 : Nat, z3 = 1 + m.dt.length + ctN m.tk + m.hd.length := ⟨_, rfl⟩
  have s1 : ((1 : Nat) : Int) + (m.dt.length : Int) = (z1 : Int) := by omega
  have s2 : z1 + ctN m.tk = z2 := by omega
  have s3 : (z2 : Int) + (m.hd.length : Int) = (z3 : Int) := by omega
  have s4 : z3 + 2 * m.cs.length + csz m.cs = mkN m := by unfold mkN; omega
  have H1 : Hid (BAt _ a (mb 1 m.dt.length)) := Hid.mk' h1
  have H2 : Hid (TsAt _ t (mkT z1 m.tk)) := Hid.mk' (by rw [hz1]; exact h2)
  have H3 : Hid (BAt _ u (mb z2 m.hd.length)) := Hid.mk' (by rw [hz2]; exact h3)
  have H4 : Hid (CsAt _ c (mkC z3 m.cs)) := Hid.mk' (by rw [hz3]; exact h4)
  have b1 : z1 ≤ 1048577 := by omega
  have b2 : z2 ≤ 6000000 := by omega
  have b3 : z3 ≤ 7100000 := by omega
  have p1 : 0 < z1 := by omega
  have p2_ : 0 < z2 := by omega
  have p3 : 0 < z3 := by omega
  have sB : (m.tk.length : Int) + tssz m.tk ≤ 1048576 := by omega
  have sC : (m.hd.length : Int) ≤ 1048576 := by omega
  have sD : (m.cs.length : Int) + csz m.cs ≤ 1048576 := by omega
  have sN : mkN m ≤ 10300000 := by omega
  have KD := Hid.mk' (heldByteS_any a ca m.dt.length 1 _ H1.out (by omega))
  clear MS_ hm ctl hz1 hz2 hz3 N0 h h1 h2 h3 h4
  generalize hW : w.alloc (.cells #[.slice a m.dt.length ca, .int .i64 m.st, .slice t m.tk.length ct, .slice u m.hd.length cu, .slice c m.cs.length cc] 26) = W at *
  obtain ⟨x0, x1, x2, x3, x4, x5⟩ := cells5 R0.out
  have g1 : ¬ ((z1 : Int) < 0) := by omega
  have g2 : ¬ ((z2 : Int) < 0) := by omega
  have g3 : ¬ ((z3 : Int) < 0) := by omega
  have g4 : ¬ ((mkN m : Int) < 0) := by omega
  go_enter Tryz.func32, Tryz.ntmps32
  go_wp2_with fail
  clear hW x0 x1 x2 x3 x4 x5
  refine KD.out.mono ?_
  rintro e w1 ⟨he, hb1⟩
  rw [s1] at he
  subst he
  have B1 := Hid.mk' (B0.out.trans (hb1.mono B0.out.size))
  have R1 := Hid.mk' (rowB R0.out hb1)
  have KT := heldTokenS_is z1 t ct m.tk w1 (H2.out.below hb1) p1 (by omega) sB
  rw [s2] at KT
  have KT := Hid.mk' KT
  have H31 := Hid.mk' (H3.out.below hb1)
  have H41 := Hid.mk' (H4.out.below hb1)
  clear hb1 KD B0 R0 H1 H2 H3 H4 s1 s2
  obtain ⟨x0, x1, x2, x3, x4, x5⟩ := cells5 R1.out
  go_wp2_with fail
  clear x0 x1 x2 x3 x4 x5
  refine KT.out.mono ?_
  rintro e w2 ⟨rfl, hb2⟩
  have B2 := Hid.mk' (B1.out.trans (hb2.mono B1.out.size))
  have R2 := Hid.mk' (rowB R1.out hb2)
  have KH := heldByteS_any u cu m.hd.length z2 w2 (H31.out.below hb2) (by omega)
  rw [s3] at KH
  have KH := Hid.mk' KH
  have H42 := Hid.mk' (H41.out.below hb2)
  clear hb2 KT B1 R1 H31 H41 s3
  obtain ⟨x0, x1, x2, x3, x4, x5⟩ := cells5 R2.out
  go_wp2_with fail
  clear x0 x1 x2 x3 x4 x5
  refine KH.out.mono ?_
  rintro e w3 ⟨rfl, hb3⟩
  have B3 := Hid.mk' (B2.out.trans (hb3.mono B2.out.size))
  have R3 := Hid.mk' (rowB R2.out hb3)
  have KC := heldCheckS_is z3 c cc m.cs w3 (H42.out.below hb3) p3 (by omega)
  rw [s4] at KC
  have KC := Hid.mk' KC
  clear hb3 KH B2 R2 H42 s4
  obtain ⟨x0, x1, x2, x3, x4, x5⟩ := cells5 R3.out
  go_wp2_with fail
  clear x0 x1 x2 x3 x4 x5
  refine KC.out.mono ?_
  rintro e w4 ⟨rfl, hb4⟩
  have B4 := Hid.mk' (B3.out.trans (hb4.mono B3.out.size))
  clear hb4 KC B3 R3
  go_wp2
  go_ret
  exact ⟨rfl, B4.out⟩

set_option maxRecDepth 100000 in
set_option maxHeartbeats 3200000 in
theorem heldMR_is (C R : Int) (m : ME) (a t u c : Option Addr) (ca ct cu cc : Nat) (w : World) (h : MAt w a t u c (mkM m)) (hm : (msz m : Int) ≤ 1048576) :
    Calls Tryz.prog 14 #[.agg #[.int .i64 C, .int .i64 R, .slice a m.dt.length ca, .int .i64 m.st, .slice t m.tk.length ct, .slice u m.hd.length cu, .slice c m.cs.length cc], .int .i64 1] w fun e w' => e = .returned (.int .i64 (mkN m : Int)) ∧ Below w.heap.size w w' := by
  have N0 := below_new w (.cells #[.int .i64 C, .int .i64 R, .slice a m.dt.length ca, .int .i64 m.st, .slice t m.tk.length ct, .slice u m.hd.length cu, .slice c m.cs.length cc] 28)
  have KM := Hid.mk' (heldMemo_is m a t u c ca ct cu cc _ (h.below N0) hm)
  have B0 := Hid.mk' N0
  obtain ⟨x0, x1, x2, x3, x4, x5, x6, x7⟩ := cells7 (row7 w 28 (.int .i64 C) (.int .i64 R) (.slice a m.dt.length ca) (.int .i64 m.st) (.slice t m.tk.length ct) (.slice u m.hd.length cu) (.slice c m.cs.length cc))
  have g4 : ¬ ((mkN m : Int) < 0) := by omega
  clear N0 h
  generalize hW : w.alloc (.cells #[.int .i64 C, .int .i64 R, .slice a m.dt.length ca, .int .i64 m.st, .slice t m.tk.length ct, .slice u m.hd.length cu, .slice c m.cs.length cc] 28) = W at *
  go_enter Tryz.func14, Tryz.ntmps14
  go_wp2_with fail
  clear hW x0 x1 x2 x3 x4 x5 x6 x7
  refine KM.out.mono ?_
  rintro e w1 ⟨rfl, hb1⟩
  have B1 := Hid.mk' (B0.out.trans (hb1.mono B0.out.size))
  clear hb1 KM B0
  go_wp2
  go_ret
  exact ⟨rfl, B1.out⟩

set_option maxRecDepth 100000 in
set_option maxHeartbeats 3200000 in
theorem markMR_is (C R : Int) (lo hi : Nat) (tau : Nat → Nat) (m : ME) (vd tv hv cv : Value) (us : List Value) (rs : Nat → List Value) (bl bh : Nat → Nat) (hvs : Nat → Value) (w : World) (x : GM lo hi tau m vd tv hv cv us rs bl bh hvs w) (hlo : lo ≤ w.heap.size) (hhi : hi ≤ w.heap.size) (hm : (msz m : Int) ≤ 1048576) :
    Calls Tryz.prog 13 #[.agg #[.int .i64 C, .int .i64 R, vd, .int .i64 m.st, tv, hv, cv], .int .i64 1] w fun e w' => e = .returned (.int .i64 (mkN m : Int)) ∧ (∃ tau', GM lo hi tau' (mkM m) vd tv hv cv us rs bl bh hvs w') ∧ KeptIn lo hi w w' := by
  obtain ⟨a, t, u, c, ca, ct, cu, cc, e1, e2, e3, e4, -⟩ := x.at
  have N0 := below_new w (.cells #[.int .i64 C, .int .i64 R, vd, .int .i64 m.st, tv, hv, cv] 28)
  have KM := markMemo_is lo hi tau m vd tv hv cv us rs bl bh hvs _ (x.below N0) (Nat.le_trans hlo N0.size) (Nat.le_trans hhi N0.size) hm
  have K0 : Hid (KeptIn lo hi w (w.alloc (.cells #[.int .i64 C, .int .i64 R, vd, .int .i64 m.st, tv, hv, cv] 28))) := Hid.mk' (KeptIn.of_below N0)
  obtain ⟨x0, x1, x2, x3, x4, x5, x6, x7⟩ := cells7 (row7 w 28 (.int .i64 C) (.int .i64 R) vd (.int .i64 m.st) tv hv cv)
  clear N0 x
  subst e1 e2 e3 e4
  have KM := Hid.mk' KM
  generalize hW : w.alloc (.cells #[.int .i64 C, .int .i64 R, .slice a m.dt.length ca, .int .i64 m.st, .slice t m.tk.length ct, .slice u m.hd.length cu, .slice c m.cs.length cc] 28) = W at *
  go_enter Tryz.func13, Tryz.ntmps13
  go_wp2_with fail
  clear hW x0 x1 x2 x3 x4 x5 x6 x7
  refine KM.out.mono ?_
  rintro e w1 ⟨rfl, g1, k1⟩
  have G1 := Hid.mk' g1
  have K1 := Hid.mk' (K0.out.trans k1)
  clear g1 k1 KM K0
  go_wp2
  go_ret
  exact ⟨rfl, G1.out, K1.out⟩

set_option maxRecDepth 100000 in
set_option maxHeartbeats 3200000 in
theorem eqMR_any (C R : Int) (m : ME) (a t u c a2 t2 u2 c2 : Option Addr) (ca ct cu cc da dt du dc : Nat) (w : World) (h1 : MAt w a t u c m) (h2 : MAt w a2 t2 u2 c2 m) (hl : (msz m : Int) ≤ 1048576) :
    Calls Tryz.prog 10 #[.agg #[.int .i64 C, .int .i64 R, .slice a m.dt.length ca, .int .i64 m.st, .slice t m.tk.length ct, .slice u m.hd.length cu, .slice c m.cs.length cc], .agg #[.int .i64 C, .int .i64 R, .slice a2 m.dt.length da, .int .i64 m.st, .slice t2 m.tk.length dt, .slice u2 m.hd.length du, .slice c2 m.cs.length dc]] w fun e w' => e = .returned (.bool true) ∧ Below w.heap.size w w' := by
  have N0 := below_new w (.cells #[.int .i64 C, .int .i64 R, .slice a m.dt.length ca, .int .i64 m.st, .slice t m.tk.length ct, .slice u m.hd.length cu, .slice c m.cs.length cc] 28)
  have N1 := N0.alloc (by simp) (.cells #[.int .i64 C, .int .i64 R, .slice a2 m.dt.length da, .int .i64 m.st, .slice t2 m.tk.length dt, .slice u2 m.hd.length du, .slice c2 m.cs.length dc] 28)
  have KM := Hid.mk' (eqMemo_any m a t u c a2 t2 u2 c2 ca ct cu cc da dt du dc _ (h1.below N1) (h2.below N1) hl)
  have B0 := Hid.mk' N1
  obtain ⟨x0, x1, x2, x3, x4, x5, x6, x7⟩ := cells7 ((row7 w 28 (.int .i64 C) (.int .i64 R) (.slice a m.dt.length ca) (.int .i64 m.st) (.slice t m.tk.length ct) (.slice u m.hd.length cu) (.slice c m.cs.length cc)).alloc (.cells #[.int .i64 C, .int .i64 R, .slice a2 m.dt.length da, .int .i64 m.st, .slice t2 m.tk.length dt, .slice u2 m.hd.length du, .slice c2 m.cs.length dc] 28))
  have RY := row7 (w.alloc (.cells #[.int .i64 C, .int .i64 R, .slice a m.dt.length ca, .int .i64 m.st, .slice t m.tk.length ct, .slice u m.hd.length cu, .slice c m.cs.length cc] 28)) 28 (.int .i64 C) (.int .i64 R) (.slice a2 m.dt.length da) (.int .i64 m.st) (.slice t2 m.tk.length dt) (.slice u2 m.hd.length du) (.slice c2 m.cs.length dc)
  rw [show (w.alloc (.cells #[.int .i64 C, .int .i64 R, .slice a m.dt.length ca, .int .i64 m.st, .slice t m.tk.length ct, .slice u m.hd.length cu, .slice c m.cs.length cc] 28)).heap.size = w.heap.size + 1 by simp] at RY
  obtain ⟨y0, y1, y2, y3, y4, y5, y6, y7⟩ := cells7 RY
  clear N0 N1 h1 h2 RY
  generalize hW : (w.alloc (.cells #[.int .i64 C, .int .i64 R, .slice a m.dt.length ca, .int .i64 m.st, .slice t m.tk.length ct, .slice u m.hd.length cu, .slice c m.cs.length cc] 28)).alloc (.cells #[.int .i64 C, .int .i64 R, .slice a2 m.dt.length da, .int .i64 m.st, .slice t2 m.tk.length dt, .slice u2 m.hd.length du, .slice c2 m.cs.length dc] 28) = W at *
  go_enter Tryz.func10, Tryz.ntmps10
  go_wp2_with fail
  clear hW x0 x1 x2 x3 x4 x5 x6 x7 y0 y1 y2 y3 y4 y5 y6 y7
  refine KM.out.mono ?_
  rintro e w1 ⟨rfl, hb1⟩
  have B1 := Hid.mk' (B0.out.trans (hb1.mono B0.out.size))
  clear hb1 KM B0
  go_wp2
  go_ret
  exact ⟨rfl, B1.out⟩

end Go.Proofs.YtdloogkjnjklcaaGreatDoor

namespace Go.Proofs.YtdloogkjnjklcaaGreatDoor
open Go.RowKit

def m0 : ME := ⟨[], 0, [], [], []⟩
def rM (d : List Int) (st : Int) : ME := if askC d st = 0 then memX d st.toNat else m0
def rR (d : List Int) (st : Int) : Int := if askC d st = 0 then (d.length : Int) else 0

theorem rM_small (d : List Int) (st : Int) : (msz (rM d st) : Int) ≤ 1048576 := by
  unfold rM
  split
  · rename_i h
    have := mem_small d st.toNat (askC_ok h).1
    omega
  · decide

theorem GM.none (lo hi : Nat) (w : World) : GM lo hi (fun _ => 0) m0 (.slice none 0 0) (.slice none 0 0) (.slice none 0 0) (.slice none 0 0) [] (fun _ => []) (fun _ => 0) (fun _ => 0) (fun _ => undef) w :=
  ⟨OB.none _, ⟨⟨rfl, .inl ⟨rfl, rfl⟩⟩, TA.nil _ _ _, fun j h => absurd h (Nat.not_lt_zero _)⟩, OB.none _, .inl ⟨rfl, rfl⟩, fun i h => absurd h (Nat.not_lt_zero _),
    fun q h => by simp [Value.ownBlock] at h, fun q h => absurd ⟨by simp [Value.ownBlock], fun j h => absurd h (Nat.not_lt_zero _)⟩ h, fun q h => by simp [Value.ownBlock] at h, fun q h => by simp [Value.ownBlock] at h, fun i h => absurd h (Nat.not_lt_zero _)⟩

open Classical in
noncomputable def tauM (gd gc J : Nat) (hvs : Nat → Value) (q : Nat) : Nat :=
  if q = gd then 0 else if q = gc then 3 else if (hvs J).ownBlock = some q then 2 else if h : ∃ i, i < J ∧ (hvs i).ownBlock = some q then 4 + Classical.choose h else 1

theorem NM.gm {base : Nat} {d : List Int} {s : Nat} {gd gc : Nat} {tv : Value} {hvs : Nat → Value} {us : List Value} {rs : Nat → List Value} {bl bh : Nat → Nat} {w : World} (x : NM base d s gd gc tv hvs us rs bl bh w) (hs : 1 ≤ s) :
    GM base w.heap.size (tauM gd gc (d.length / s + 1) hvs) (memX d s) (.slice (some ⟨gd, 0, none⟩) d.length d.length) tv (hvs (d.length / s + 1)) (.slice (some ⟨gc, 0, none⟩) (d.length / s + 1) (d.length / s + 1)) us rs bl bh hvs w := by
  obtain ⟨v, hv, xv⟩ := x.v1
  have et : tkN d s (d.length / s + 1) = (memX d s).tk := by show (allX [] [] (d.take ((d.length / s + 1) * s))).1 = _; rw [takeM_all d s hs]; rfl
  have eh : hdN d s (d.length / s + 1) = (memX d s).hd := by show (allX [] [] (d.take ((d.length / s + 1) * s))).2 = _; rw [takeM_all d s hs]; rfl
  have ec : (memX d s).cs = cksN d s (d.length / s + 1) := rfl
  have el : (memX d s).cs.length = d.length / s + 1 := by rw [ec, cksN_len]
  have o1 := x.o1
  have o2 := x.o2
  have lc := x.ck.lt
  have hb : ∀ i, i ≤ d.length / s + 1 → ∀ q, (hvs i).ownBlock = some q → base ≤ q ∧ q < gd := fun i hi q e => by
    have := (xv.own i hi).lt q e
    omega
  have tb : ∀ q, ¬ TFree tv (memX d s).tk.length bl bh q → base ≤ q ∧ q < gd ∧ ∀ i, i ≤ d.length / s + 1 → (hvs i).ownBlock ≠ some q := fun q f => by
    by_cases e : tv.ownBlock = some q
    · have := xv.tp.row.lt q e
      exact ⟨this.1, by omega, fun i hi e' => xv.at_ i hi q e' e⟩
    · have : ∃ j, j < (memX d s).tk.length ∧ bl j ≤ q ∧ q < bh j := Classical.byContradiction fun g => f ⟨e, fun j hj h => g ⟨j, hj, h⟩⟩
      obtain ⟨j, hj, h1, h2⟩ := this
      rw [← et] at hj
      have := xv.tp.ta.low j hj
      have := xv.tp.ta.top j hj
      exact ⟨by omega, by omega, fun i hi e' => by have := xv.av i hi j hj q e'; omega⟩
  refine ⟨ob_of_row rfl x.dt, by rw [← et]; exact x.rx.tp, ?_, .inr ⟨gc, by rw [el], ?_⟩, fun i hi => ?_, fun q e => ?_, fun q f => ?_, fun q e => ?_, fun q e => ?_, fun i hi q e => ?_⟩
  · rw [← eh]; exact (OB.of_own (x.rx.own _ (Nat.le_refl _))).1
  · rw [el]
    refine x.ck.congr (fun i hi => ?_)
    unfold ckV cvF
    rw [if_pos (by omega), ec, cksN_at d s _ _ (by omega)]
    by_cases h0 : i % 3 = 0
    · rw [h0]; rfl
    · by_cases h1 : i % 3 = 1
      · rw [h1]; rfl
      · rw [if_neg h0, if_neg h1, show i % 3 = 2 by omega]; rfl
  · rw [el] at hi
    rw [ec, cksN_at d s _ _ hi]
    exact (OB.of_own (x.rx.own i (by omega))).1
  · simp [Value.ownBlock] at e
    subst e
    exact ⟨by unfold tauM; rw [if_pos rfl], o1, x.dt.lt⟩
  · obtain ⟨h1, h2, h3⟩ := tb q f
    refine ⟨?_, h1, by have := x.dt.lt; omega⟩
    unfold tauM
    rw [if_neg (by omega), if_neg (by omega), if_neg (h3 _ (Nat.le_refl _)), dif_neg (fun ⟨i, hi, e⟩ => h3 i (by omega) e)]
  · have := hb _ (Nat.le_refl _) q e
    refine ⟨?_, this.1, by have := x.dt.lt; omega⟩
    unfold tauM
    rw [if_neg (by omega), if_neg (by omega), if_pos e]
  · simp [Value.ownBlock] at e
    subst e
    exact ⟨by unfold tauM; rw [if_neg (by omega), if_pos rfl], by omega, lc⟩
  · rw [el] at hi
    have := hb i (by omega) q e
    refine ⟨?_, this.1, by have := x.dt.lt; omega⟩
    unfold tauM
    have hex : ∃ i, i < d.length / s + 1 ∧ (hvs i).ownBlock = some q := ⟨i, hi, e⟩
    rw [if_neg (by omega), if_neg (by omega), if_neg (fun e' => xv.ap i _ hi (Nat.le_refl _) q e e'), dif_pos hex]
    have hc := Classical.choose_spec hex
    have : Classical.choose hex = i := Classical.byContradiction fun hne => by
      rcases Nat.lt_or_gt_of_ne hne with g | g
      · exact xv.ap _ _ g (by omega) q hc.2 e
      · exact xv.ap _ _ g (by omega) q e hc.2
    rw [this]

theorem implNM_gm (tp : TypeId) (pv : Value) (d : List Int) (st : Int) (ad : Option Addr) (cd : Nat) (w : World) (hE : Env w.heap.size tp pv w) (hd : BAt w ad d) (hcd : d.length ≤ cd) (hu : Byt d) (hl : (d.length : Int) ≤ 9223372036854775807) :
    Calls Tryz.prog 9 #[.slice ad d.length cd, .int .i64 st] w fun e w' => ∃ tau vd tv hv cv us rs bl bh hvs, e = .returned (.agg #[.int .i64 (askC d st), .int .i64 (rR d st), vd, .int .i64 (rM d st).st, tv, hv, cv]) ∧ GM w.heap.size w'.heap.size tau (rM d st) vd tv hv cv us rs bl bh hvs w' ∧ Below w.heap.size w w' := by
  refine (implNM_any tp pv d st ad cd w hE hd hcd hu hl).mono ?_
  rintro e w' (⟨h1, rfl, hb⟩ | ⟨h1, h2, rfl, hb⟩ | ⟨h1, s, rfl, hs, hs2, gd, gc, tv, hvs, us, rs, bl, bh, rfl, hx, hb⟩)
  · have e6 : askC d st = 6 := askC_large h1
    have er : rM d st = m0 := by unfold rM; rw [if_neg (by omega)]
    have ev : rR d st = 0 := by unfold rR; rw [if_neg (by omega)]
    exact ⟨_, _, _, _, _, _, _, _, _, _, by rw [e6, er, ev]; rfl, by rw [er]; exact GM.none _ _ _, hb⟩
  · have e3 : askC d st = 3 := askC_range h1 h2
    have er : rM d st = m0 := by unfold rM; rw [if_neg (by omega)]
    have ev : rR d st = 0 := by unfold rR; rw [if_neg (by omega)]
    exact ⟨_, _, _, _, _, _, _, _, _, _, by rw [e3, er, ev]; rfl, by rw [er]; exact GM.none _ _ _, hb⟩
  · have e0 : askC d (s : Int) = 0 := askC_good h1 hs hs2
    have er : rM d (s : Int) = memX d s := by unfold rM; rw [if_pos e0]; rfl
    have ev : rR d (s : Int) = d.length := by unfold rR; rw [if_pos e0]
    refine ⟨_, _, _, _, _, _, _, _, _, _, by rw [e0, er, ev]; rfl, by rw [er]; exact (hx.down (Nat.le_succ _)).gm hs, hb⟩

end Go.Proofs.YtdloogkjnjklcaaGreatDoor

namespace Go.Proofs.YtdloogkjnjklcaaGreatDoor
open Go.RowKit

end Go.Proofs.YtdloogkjnjklcaaGreatDoor

namespace Go.Proofs.YtdloogkjnjklcaaGreatDoor
open Go.RowKit

end Go.Proofs.YtdloogkjnjklcaaGreatDoor
