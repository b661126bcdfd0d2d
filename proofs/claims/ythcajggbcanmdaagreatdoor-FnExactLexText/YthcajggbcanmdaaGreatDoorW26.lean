/- Walks: lists of tokens that are the same are told so; the model's SameTokens. -/
import Derived.Test.YthcajggbcanmdaaGreatDoorW18
import Derived.BigGuard
import Derived.Laws.BytesString
import Derived.Laws.IdiomStrings
import Derived.Test.YthcajggbcanmdaaGreatDoorW25
set_option linter.unusedVariables false
set_option linter.unusedSimpArgs false
namespace Go.Proofs.YthcajggbcanmdaaGreatDoor
open Go.RowKit

set_option maxHeartbeats 1600000 in
theorem eqTokenS_any (a b : Option Addr) (c d : Nat) (l : List TK) (w : World) (ha : TsAt w a l) (hb : TsAt w b l) (hl : (l.length : Int) + tssz l ≤ 1048576) :
    Calls Tryz.prog 25 #[.slice a l.length c, .slice b l.length d] w fun e w' => e = .returned (.bool true) ∧ Below w.heap.size w w' := by
  have HA := Hid.mk' ha
  have HB := Hid.mk' hb
  clear ha hb
  go_enter Tryz.func25, Tryz.ntmps25
  go_wp2
  go_loopw [5] (fun i wr => ∃ k : Nat, k ≤ l.length ∧ i = .int .i64 k ∧ Below w.heap.size w wr) (fun i _ => l.length - (intOf i).toNat)
  case atStart => exact ⟨0, Nat.zero_le _, rfl, Below.refl _ _⟩
  case round =>
    obtain ⟨k, hk, rfl, hbl⟩ := hrel
    have R2 := Hid.mk' hbl
    by_cases hlt : k < l.length
    · have ci : (k : Int) < (l.length : Int) := by omega
      rcases HA.out.below hbl with ha | ⟨b1, o1, rfl, s1, hc1⟩
      · exact absurd hlt (by rw [ha]; exact Nat.not_lt_zero _)
      rcases HB.out.below hbl with hb | ⟨b2, o2, rfl, s2, hc2⟩
      · exact absurd hlt (by rw [hb]; exact Nat.not_lt_zero _)
      obtain ⟨x1, x2, x3, ⟨p1, d1, x4, x5⟩, x6⟩ := hc1 k hlt
      obtain ⟨y1, y2, y3, ⟨p2_, d2, y4, y5⟩, y6⟩ := hc2 k hlt
      have st := tssz_take l k hlt
      have sl := tssz_le l (k + 1)
      unfold tsz at st
      have KE := Hid.mk' (eqToken_any (tkK l k) p1 p2_ d1 d2 wr.drew (x5.below (Below.refl _ _).drew) (y5.below (Below.refl _ _).drew) (by omega))
      clear hbl hc1 hc2 x5 y5 st sl
      go_wp2
      go_region_held3 (fun w' => w'.cell? ⟨b1, o1 + k * 5, none⟩ = some (.int .i64 (tkK l k).kd) ∧ w'.cell? ⟨b1, o1 + k * 5 + 1, none⟩ = some (.int .i64 (tkK l k).by_) ∧ w'.cell? ⟨b1, o1 + k * 5 + 2, none⟩ = some (.string (tkK l k).nm) ∧ w'.cell? ⟨b1, o1 + k * 5 + 3, none⟩ = some (.slice p1 (tkK l k).at_.length d1) ∧ w'.cell? ⟨b1, o1 + k * 5 + 4, none⟩ = some (.bool (tkK l k).sh) ∧ w'.cell? ⟨b2, o2 + k * 5, none⟩ = some (.int .i64 (tkK l k).kd) ∧ w'.cell? ⟨b2, o2 + k * 5 + 1, none⟩ = some (.int .i64 (tkK l k).by_) ∧ w'.cell? ⟨b2, o2 + k * 5 + 2, none⟩ = some (.string (tkK l k).nm) ∧ w'.cell? ⟨b2, o2 + k * 5 + 3, none⟩ = some (.slice p2_ (tkK l k).at_.length d2) ∧ w'.cell? ⟨b2, o2 + k * 5 + 4, none⟩ = some (.bool (tkK l k).sh)) (simp [*])
        ((go_at_call 49; refine KE.out.mono ?_; rintro e w1 ⟨rfl, hb1⟩; replace hb1 := undrew hb1; obtain ⟨hx1, hx2⟩ := bcell hb1))
      go_wp2
      go_roundw
      case rel => exact ⟨k + 1, by omega, by go_num, R2.out.trans (hb1.mono R2.out.size)⟩
      case measure => simp [intOf]; omega
    · have ci : ¬ (k : Int) < (l.length : Int) := by omega
      go_wp2
      go_ret
      exact ⟨rfl, R2.out⟩

end Go.Proofs.YthcajggbcanmdaaGreatDoor

namespace Go.Proofs.YthcajggbcanmdaaGreatDoor
open Go.RowKit

set_option maxRecDepth 100000 in
set_option maxHeartbeats 6400000 in
theorem heldTokenS_is (z : Nat) (a : Option Addr) (c : Nat) (l : List TK) (w : World) (ha : TsAt w a (mkT z l)) (hz : 0 < z) (hz2 : (z : Int) ≤ 10000000) (hl : (l.length : Int) + tssz l ≤ 1048576) :
    Calls Tryz.prog 29 #[.slice a l.length c, .int .i64 (z : Int)] w fun e w' => e = .returned (.int .i64 ((z + ctN l : Nat) : Int)) ∧ Below w.heap.size w w' := by
  have HA := Hid.mk' ha
  clear ha
  go_enter Tryz.func29, Tryz.ntmps29
  go_wp2
  go_loopw [1, 5] (fun x i wr => ∃ k : Nat, k ≤ l.length ∧ i = .int .i64 k ∧ x = .int .i64 ((z + ctN (l.take k) : Nat) : Int) ∧ Below w.heap.size w wr) (fun _ i _ => l.length - (intOf i).toNat)
  case atStart => exact ⟨0, Nat.zero_le _, rfl, by simp [ctN], Below.refl _ _⟩
  case round =>
    obtain ⟨k, hk, rfl, rfl, hbl⟩ := hrel
    have HB := Hid.mk' hbl
    by_cases hlt : k < l.length
    · have ci : (k : Int) < (l.length : Int) := by omega
      have st := ctN_take l k hlt
      have sl := ctN_le l (k + 1)
      have vz := vsz_asz (tkK l k).at_
      have sz1 := tssz_at' hlt
      unfold tsz at sz1
      unfold ct1 at st
      rcases HA.out.below hbl with h0 | ⟨b1, o1, rfl, s1, hc1⟩
      · have := mkT_len z l; rw [h0] at this; simp at this; omega
      obtain ⟨h1, h2, h3, ⟨p1, d1, h4, h5⟩, h6⟩ := hc1 k (by rw [mkT_len]; exact hlt)
      rw [mkT_get hlt] at h1 h2 h3 h4 h5 h6
      obtain ⟨q, hq⟩ : ∃ q : Nat, z + ctN (l.take k) = q := ⟨_, rfl⟩
      have hq1 : z + ctN (l.take (k + 1)) = q + 1 + 1 + 1 + (tkK l k).at_.length + vsz (tkK l k).at_ + 1 := by omega
      have hq2 : q + 1 + 1 + 1 + (tkK l k).at_.length + vsz (tkK l k).at_ + 1 ≤ 20000000 := by omega
      rw [hq] at h1 h2 h3 h4 h5 h6 ⊢
      replace h1 : wr.cell? ⟨b1, o1 + k * 5, none⟩ = some (.int .i64 (q : Int)) := h1
      replace h2 : wr.cell? ⟨b1, o1 + k * 5 + 1, none⟩ = some (.int .i64 ((q : Int) + 1)) := h2
      replace h3 : wr.cell? ⟨b1, o1 + k * 5 + 2, none⟩ = some (.string (mtx (q + 1 + 1))) := h3
      replace h4 : wr.cell? ⟨b1, o1 + k * 5 + 3, none⟩ = some (.slice p1 (tkK l k).at_.length d1) := by
        have e : (mk1T q (tkK l k)).at_.length = (tkK l k).at_.length := mkA_len _ _
        rw [e] at h4; exact h4
      replace h5 : AAt wr p1 (mkA (q + 1 + 1 + 1) (tkK l k).at_) := h5
      obtain ⟨q2, hq3⟩ : ∃ q2 : Nat, q + 1 + 1 + 1 + (tkK l k).at_.length + vsz (tkK l k).at_ = q2 := ⟨_, rfl⟩
      replace h6 : wr.cell? ⟨b1, o1 + k * 5 + 4, none⟩ = some (.bool ((q2 : Int) % 3 == 0)) := by rw [h6, ← hq3]; rfl
      have Q1 := Hid.mk' hq1
      have H5 := Hid.mk' h5
      have KT := Hid.mk' (fun V => markText_is (q + 1 + 1) V (by omega) (by omega))
      have ez : ((q + 1 + 1 + 1 : Nat) : Int) + ((tkK l k).at_.length : Int) + (vsz (tkK l k).at_ : Int) = (q2 : Int) := by omega
      have EZ : Hid ((q2 : Int) + 1 = ((z + ctN (l.take (k + 1)) : Nat) : Int)) := Hid.mk' (by rw [Q1.out]; omega)
      have EY := Hid.mk' ez
      have q2b : q2 ≤ 20000000 := by omega
      have LB : Hid ((((tkK l k).at_.length : Nat) : Int) + asz (tkK l k).at_ ≤ 2000000) := Hid.mk' (by omega)
      clear st sl hq hq1 hc1 hbl h5 ez hq3 sz1 vz
      go_wp2_with fail
      go_region_held3 (fun w' => w'.cell? ⟨b1, o1 + k * 5 + 2, none⟩ = some (.string (mtx (q + 1 + 1)))) (simp [*])
        ((go_at_call 50; refine (KT.out _).mono ?_; rintro e w1 ⟨rfl, hb1⟩; replace hb1 := undrew hb1; obtain ⟨hx1, hx2⟩ := bcell hb1))
      have B1 := Hid.mk' (HB.out.trans (hb1.mono HB.out.size))
      have g4 : w1.cell? ⟨b1, o1 + k * 5 + 3, none⟩ = some (.slice p1 (tkK l k).at_.length d1) := (hx1 _ _ s1).trans h4
      have g6 : w1.cell? ⟨b1, o1 + k * 5 + 4, none⟩ = some (.bool ((q2 : Int) % 3 == 0)) := (hx1 _ _ s1).trans h6
      have s2 : b1 < w1.heap.size := Nat.lt_of_lt_of_le s1 hb1.size
      have KB := Hid.mk' (heldAttrS_is (q + 1 + 1 + 1) p1 d1 (tkK l k).at_ w1 (H5.out.below hb1) (by omega) (by omega) LB.out)
      clear hb1 hx1 hx2 KT h1 h2 h3 h4 h6
      go_wp2_with fail
      refine KB.out.mono ?_
      rintro e w2 ⟨rfl, hb2⟩
      have B2 := Hid.mk' (B1.out.trans (hb2.mono B1.out.size))
      have k6 : w2.cell? ⟨b1, o1 + k * 5 + 4, none⟩ = some (.bool ((q2 : Int) % 3 == 0)) := (hb2.cell s2).trans g6
      rw [EY.out]
      have zz : ¬ ((q2 : Int) < 0) := by omega
      clear hb2 KB g4 g6
      go_wp2
      go_roundw
      case rel => exact ⟨k + 1, by omega, by go_num, by rw [← EZ.out], B2.out⟩
      case measure => simp [intOf]; omega
    · have ci : ¬ (k : Int) < (l.length : Int) := by omega
      have e : k = l.length := by omega
      subst e
      rw [List.take_length]
      go_wp2
      go_ret
      exact ⟨rfl, HB.out⟩

set_option maxHeartbeats 1600000 in
theorem eqLRes_is (cc : Int) (l : List TK) (a b : Option Addr) (c d : Nat) (w : World) (ha : TsAt w a l) (hb : TsAt w b l) (hl : (l.length : Int) + tssz l ≤ 1048576) :
    Calls Tryz.prog 9 #[.agg #[.int .i64 cc, .slice a l.length c, .slice none 0 0], .agg #[.int .i64 cc, .slice b l.length d, .slice none 0 0]] w fun e w' => e = .returned (.bool true) ∧ Below w.heap.size w w' := by
  have B0 := (below_new w (.cells #[.int .i64 cc, .slice a l.length c, .slice none 0 0] 27)).alloc (by simp) (.cells #[.int .i64 cc, .slice b l.length d, .slice none 0 0] 27)
  have KK := Hid.mk' (eqTokenS_any a b c d l _ (ha.below B0) (hb.below B0) hl)
  have BB := Hid.mk' B0
  have R1 := (row3 w 27 (.int .i64 cc) (.slice a l.length c) (.slice none 0 0)).alloc (.cells #[.int .i64 cc, .slice b l.length d, .slice none 0 0] 27)
  have R2 := row3 (w.alloc (.cells #[.int .i64 cc, .slice a l.length c, .slice none 0 0] 27)) 27 (.int .i64 cc) (.slice b l.length d) (.slice none 0 0)
  rw [show (w.alloc (.cells #[.int .i64 cc, .slice a l.length c, .slice none 0 0] 27)).heap.size = w.heap.size + 1 by simp] at R2
  have HR1 := Hid.mk' R1
  have HR2 := Hid.mk' R2
  have KE : Hid (∀ V : World, Calls Tryz.prog 26 #[.agg #[.slice none 0 0], .agg #[.slice none 0 0]] V fun e w' => e = .returned (.bool true) ∧ Below V.heap.size V w') := Hid.mk' (fun V => by
    have B1 := (below_new V (.cells #[.slice none 0 0] 25)).alloc (by simp) (.cells #[.slice none 0 0] 25)
    have KB : Calls Tryz.prog 10 #[.slice none 0 0, .slice none 0 0] ((V.alloc (.cells #[.slice none 0 0] 25)).alloc (.cells #[.slice none 0 0] 25)) fun e w' => e = .returned (.bool true) ∧ Below _ _ w' := eqByteS_any none none 0 0 [] _ (.inl rfl) (.inl rfl) (by simp)
    have KB := Hid.mk' KB
    have HB1 := Hid.mk' B1
    clear B1
    go_enter Tryz.func26, Tryz.ntmps26
    go_wp2_with fail
    refine KB.out.mono ?_
    rintro e w1 ⟨rfl, hb⟩
    have HB := Hid.mk' (HB1.out.trans (hb.mono HB1.out.size))
    clear hb KB
    go_wp2
    go_ret
    exact ⟨rfl, HB.out⟩)
  obtain ⟨x0, x1, x2, x3⟩ := cells3 R1
  obtain ⟨y0, y1, y2, y3⟩ := cells3 R2
  clear ha hb B0 R1 R2
  generalize hW : (w.alloc (.cells #[.int .i64 cc, .slice a l.length c, .slice none 0 0] 27)).alloc (.cells #[.int .i64 cc, .slice b l.length d, .slice none 0 0] 27) = W at *
  go_enter Tryz.func9, Tryz.ntmps9
  go_wp2_with fail
  clear hW
  refine KK.out.mono ?_
  rintro e w1 ⟨rfl, hb⟩
  have HB := Hid.mk' (BB.out.trans (hb.mono BB.out.size))
  obtain ⟨u0, u1, u2, u3⟩ := cells3 (rowB HR1.out hb)
  obtain ⟨v0, v1, v2, v3⟩ := cells3 (rowB HR2.out hb)
  clear hb KK x0 x1 x2 x3 y0 y1 y2 y3
  go_wp2_with fail
  refine (KE.out _).mono ?_
  rintro e w2 ⟨rfl, hb⟩
  have HB := Hid.mk' (HB.out.trans (hb.mono HB.out.size))
  clear hb u0 u1 u2 u3 v0 v1 v2 v3
  go_wp2
  go_ret
  exact ⟨rfl, HB.out⟩

set_option maxHeartbeats 1600000 in
theorem markLRes_is (cc : Int) (lo : Nat) (v : Value) (l : List TK) (us : List Value) (rs : Nat → List Value) (bl bh : Nat → Nat) (w : World) (h : TP lo w v l us rs bl bh) (hlo : lo ≤ w.heap.size) (hl : (l.length : Int) + tssz l ≤ 1048576) :
    Calls Tryz.prog 12 #[.agg #[.int .i64 cc, v, .slice none 0 0], .int .i64 1] w fun e w' => e = .returned (.int .i64 ((1 + ctN l : Nat) : Int)) ∧ TP lo w' v (mkT 1 l) us rs bl bh ∧ Kp (TFree v l.length bl bh) w w' := by
  have N0 := below_new w (.cells #[.int .i64 cc, v, .slice none 0 0] 27)
  have KN := Hid.mk' (markTokenS_is 1 lo v l us rs bl bh _ (h.below N0) (Nat.le_trans hlo N0.size) (by omega) (by omega) hl)
  have HN := Hid.mk' N0
  have ct := ctN_le l l.length
  rw [List.take_length] at ct
  obtain ⟨a, c, e1, -⟩ := own_src h.row
  subst e1
  have R0 := row3 w 27 (.int .i64 cc) (.slice a l.length c) (.slice none 0 0)
  have HR := Hid.mk' R0
  have KS : Hid (∀ V : World, Calls Tryz.prog 28 #[.agg #[.slice none 0 0], .int .i64 ((1 + ctN l : Nat) : Int)] V fun e w' => e = .returned (.int .i64 ((1 + ctN l : Nat) : Int)) ∧ Below V.heap.size V w') := Hid.mk' (fun V => by
    have B1 := below_new V (.cells #[.slice none 0 0] 25)
    have KB := Hid.mk' (markByteS_nil (1 + ctN l) (V.alloc (.cells #[.slice none 0 0] 25)) (by omega))
    have HB1 := Hid.mk' B1
    clear B1
    generalize 1 + ctN l = q at *
    go_enter Tryz.func28, Tryz.ntmps28
    go_wp2_with fail
    refine KB.out.mono ?_
    rintro e w1 ⟨rfl, hw⟩
    obtain rfl := hw.symm
    clear KB
    go_wp2
    go_ret
    exact ⟨rfl, HB1.out⟩)
  have FB : TFree (.slice a l.length c) l.length bl bh w.heap.size := ⟨fun e => by have := (h.row.lt _ e).2; omega, fun j hj h2 => by have := h.ta.top j hj; omega⟩
  have FBH := Hid.mk' FB
  obtain ⟨x0, x1, x2, x3⟩ := cells3 R0
  clear h N0 R0 FB
  generalize 1 + ctN l = q at *
  generalize hW : w.alloc (.cells #[.int .i64 cc, .slice a l.length c, .slice none 0 0] 27) = W at *
  go_enter Tryz.func12, Tryz.ntmps12
  go_wp2_with fail
  clear hW
  refine KN.out.mono ?_
  rintro e w1 ⟨rfl, h1, k1⟩
  have R1 := HR.out.of_block (k1.block w.heap.size HR.out.lt FBH.out)
  obtain ⟨u0, u1, u2, u3⟩ := cells3 R1
  have H1 := Hid.mk' h1
  have K1 := Hid.mk' ((Kp.of_below HN.out).trans k1)
  clear h1 k1 KN R1 x0 x1 x2 x3
  go_wp2_with fail
  refine (KS.out w1).mono ?_
  rintro e w2 ⟨rfl, hb⟩
  have H2 := Hid.mk' (H1.out.below hb)
  have K2 := Hid.mk' (K1.out.trans (Kp.of_below hb))
  clear hb u0 u1 u2 u3
  go_wp2
  go_ret
  exact ⟨rfl, H2.out, K2.out⟩

set_option maxHeartbeats 1600000 in
theorem heldLRes_is (cc : Int) (l : List TK) (a : Option Addr) (c : Nat) (w : World) (h : TsAt w a (mkT 1 l)) (hl : (l.length : Int) + tssz l ≤ 1048576) :
    Calls Tryz.prog 13 #[.agg #[.int .i64 cc, .slice a l.length c, .slice none 0 0], .int .i64 1] w fun e w' => e = .returned (.int .i64 ((1 + ctN l : Nat) : Int)) ∧ Below w.heap.size w w' := by
  have N0 := below_new w (.cells #[.int .i64 cc, .slice a l.length c, .slice none 0 0] 27)
  have KN := Hid.mk' (heldTokenS_is 1 a c l _ (h.below N0) (by omega) (by omega) hl)
  have HN := Hid.mk' N0
  have ct := ctN_le l l.length
  rw [List.take_length] at ct
  have R0 := row3 w 27 (.int .i64 cc) (.slice a l.length c) (.slice none 0 0)
  have HR := Hid.mk' R0
  have z2 : ¬ (((1 + ctN l : Nat) : Int) < 0) := by omega
  have KS : Hid (∀ V : World, Calls Tryz.prog 30 #[.agg #[.slice none 0 0], .int .i64 ((1 + ctN l : Nat) : Int)] V fun e w' => e = .returned (.int .i64 ((1 + ctN l : Nat) : Int)) ∧ Below V.heap.size V w') := Hid.mk' (fun V => by
    have B1 := below_new V (.cells #[.slice none 0 0] 25)
    have KB : Calls Tryz.prog 53 #[.slice none 0 0, .int .i64 ((1 + ctN l : Nat) : Int)] (V.alloc (.cells #[.slice none 0 0] 25)) fun e w' => e = .returned (.int .i64 (((1 + ctN l : Nat) : Int) + ((0 : Nat) : Int))) ∧ Below _ _ w' := heldByteS_any none 0 0 (1 + ctN l) _ (.inl rfl) (by omega)
    rw [show (((1 + ctN l : Nat) : Int) + ((0 : Nat) : Int)) = ((1 + ctN l : Nat) : Int) by omega] at KB
    have KB := Hid.mk' KB
    have HB1 := Hid.mk' B1
    clear B1
    generalize 1 + ctN l = q at *
    go_enter Tryz.func30, Tryz.ntmps30
    go_wp2_with fail
    refine KB.out.mono ?_
    rintro e w1 ⟨rfl, hb⟩
    have HB := Hid.mk' (HB1.out.trans (hb.mono HB1.out.size))
    clear KB hb
    go_wp2
    go_ret
    exact ⟨rfl, HB.out⟩)
  obtain ⟨x0, x1, x2, x3⟩ := cells3 R0
  clear h N0 R0
  generalize 1 + ctN l = q at *
  generalize hW : w.alloc (.cells #[.int .i64 cc, .slice a l.length c, .slice none 0 0] 27) = W at *
  go_enter Tryz.func13, Tryz.ntmps13
  go_wp2_with fail
  clear hW
  refine KN.out.mono ?_
  rintro e w1 ⟨rfl, hb⟩
  have HB := Hid.mk' (HN.out.trans (hb.mono HN.out.size))
  obtain ⟨u0, u1, u2, u3⟩ := cells3 (rowB HR.out hb)
  clear hb KN x0 x1 x2 x3
  go_wp2_with fail
  refine (KS.out w1).mono ?_
  rintro e w2 ⟨rfl, hb⟩
  have HB := Hid.mk' (HB.out.trans (hb.mono HB.out.size))
  clear hb u0 u1 u2 u3
  go_wp2
  go_ret
  exact ⟨rfl, HB.out⟩

end Go.Proofs.YthcajggbcanmdaaGreatDoor

namespace Go.Proofs.YthcajggbcanmdaaGreatDoor
open Go.RowKit

def ltC (d : List Int) : Int := if 240 < d.length then 6 else 0
def ltR (d : List Int) : List TK := if 240 < d.length then [] else lexX d

theorem lt_le (d : List Int) : ((ltR d).length : Int) + tssz (ltR d) ≤ 1048576 := by
  unfold ltR
  by_cases h : 240 < d.length
  · rw [if_pos h]; simp [tssz]
  · rw [if_neg h]
    have := lex_fits d
    unfold wei at this
    omega

theorem TP.nil (lo : Nat) (w : World) : TP lo w (.slice none 0 0) [] [] (fun _ => []) (fun _ => 0) (fun _ => 0) := ⟨⟨rfl, .inl ⟨rfl, rfl⟩⟩, TA.nil _ _ _, fun j h => absurd h (Nat.not_lt_zero _)⟩

theorem implLU_any (tp : TypeId) (pv : Value) (d : List Int) (ad : Option Addr) (cd : Nat) (w : World) (hE : Env w.heap.size tp pv w) (hd : BAt w ad d) (hu : Byt d) (hl : (d.length : Int) ≤ 9223372036854775807) :
    Calls Tryz.prog 8 #[.slice ad d.length cd] w fun e w' => ∃ tv us rs bl bh, e = .returned (.agg #[.int .i64 (ltC d), tv, .slice none 0 0]) ∧ TP w.heap.size w' tv (ltR d) us rs bl bh ∧ Below w.heap.size w w' :=
  (implLT_any tp pv d ad cd w hE hd hu hl).mono (by
    rintro e w' (⟨h6, rfl, hb⟩ | ⟨h6, tv, us, rs, bl, bh, rfl, ht, hb⟩)
    · have e1 : ltC d = 6 := by unfold ltC; rw [if_pos h6]
      have e2 : ltR d = [] := by unfold ltR; rw [if_pos h6]
      rw [e1, e2]
      exact ⟨_, _, _, _, _, rfl, TP.nil _ _, hb⟩
    · have e1 : ltC d = 0 := by unfold ltC; rw [if_neg h6]
      have e2 : ltR d = lexX d := by unfold ltR; rw [if_neg h6]
      rw [e1, e2]
      exact ⟨_, _, _, _, _, rfl, ht, hb⟩)

theorem specLU_any (d : List Int) (ad : Option Addr) (cd : Nat) (w : World) (hd : BAt w ad d) (hu : Byt d) (hl : (d.length : Int) ≤ 9223372036854775807) :
    Calls Tryz.prog 6 #[.slice ad d.length cd] w fun e w' => ∃ a c, e = .returned (.agg #[.int .i64 (ltC d), .slice a (ltR d).length c, .slice none 0 0]) ∧ TsAt w' a (ltR d) ∧ Below w.heap.size w w' :=
  (specLT_any d ad cd w hd hu hl).mono (by
    rintro e w' (⟨h6, rfl, hb⟩ | ⟨h6, tv, us, rfl, ht, hb⟩)
    · have e1 : ltC d = 6 := by unfold ltC; rw [if_pos h6]
      have e2 : ltR d = [] := by unfold ltR; rw [if_pos h6]
      rw [e1, e2]
      exact ⟨none, 0, rfl, .inl rfl, hb⟩
    · have e1 : ltC d = 0 := by unfold ltC; rw [if_neg h6]
      have e2 : ltR d = lexX d := by unfold ltR; rw [if_neg h6]
      rw [e1, e2]
      obtain ⟨a, c, rfl, hts⟩ := ht.tsAt
      exact ⟨a, c, rfl, hts, hb⟩)

structure GL (lo q : Nat) (v : Value) (us : List Value) (rs : Nat → List Value) (bl bh : Nat → Nat) (C : Int) (R : List TK) (wi : World) : Prop where
  box : wi.rowIs q 27 3 (r3 (.int .i64 C) v (.slice none 0 0))
  tp : TP lo wi v R us rs bl bh
  cap : ∀ k, ¬ (lo ≤ k ∧ k < q) → TFree v R.length bl bh k
  lq : lo ≤ q

theorem GL.below {lo q : Nat} {v : Value} {us : List Value} {rs : Nat → List Value} {bl bh : Nat → Nat} {C : Int} {R : List TK} {wi wj : World} (h : GL lo q v us rs bl bh C R wi) (hb : Below wi.heap.size wi wj) : GL lo q v us rs bl bh C R wj := ⟨rowB h.box hb, h.tp.below hb, h.cap, h.lq⟩

theorem GL.kept {lo q lo' hi' : Nat} {v : Value} {us : List Value} {rs : Nat → List Value} {bl bh : Nat → Nat} {C : Int} {R : List TK} {wi wj : World} (h : GL lo q v us rs bl bh C R wi) (hk : KeptIn lo' hi' wi wj) (hd : hi' ≤ lo) : GL lo q v us rs bl bh C R wj :=
  ⟨rowK h.box hk (.inr (Nat.le_trans hd h.lq)), h.tp.keep hk.size (fun k h1 h2 => hk.block k h2 (.inr (by omega))), h.cap, h.lq⟩

theorem GL.at {lo q : Nat} {a : Option Addr} {n c : Nat} {us : List Value} {rs : Nat → List Value} {bl bh : Nat → Nat} {C : Int} {R : List TK} {wi : World} (h : GL lo q (.slice a n c) us rs bl bh C R wi) : TsAt wi a R := by
  obtain ⟨a', c', e', h'⟩ := h.tp.tsAt
  injection e' with e1 e2 e3
  rw [e1]; exact h'

set_option maxRecDepth 100000 in
set_option maxHeartbeats 12000000 in
theorem lawLT_any (q : Option Addr) (c' : Nat) (d : List Int) (tp : TypeId) (pv : Value) (w : World) (hE : Env w.heap.size tp pv w) (hd : BAt w q d) (hu : Byt d) (hl : (d.length : Int) ≤ 9223372036854775807) :
    Calls Tryz.prog 3 #[.slice q d.length c'] w fun e w' => e = .returned (.bool true) ∧ Below w.heap.size w w' := by
  by_cases g2 : 1048576 < (d.length : Int)
  · go_enter Tryz.func3, Tryz.ntmps3
    go_wp2
    go_ret
    exact ⟨rfl, Below.refl _ _⟩
  have ll : (d.length : Int) ≤ 1048576 := by omega
  have nR0 := lt_le d
  have KS0 : Hid (∀ (q' : Option Addr) (c2 : Nat) (w' : World), BAt w' q' d → Calls Tryz.prog 6 #[.slice q' d.length c2] w' fun e w'' => ∃ a c, e = .returned (.agg #[.int .i64 (ltC d), .slice a (ltR d).length c, .slice none 0 0]) ∧ TsAt w'' a (ltR d) ∧ Below w'.heap.size w' w'') := Hid.mk' (fun q' c2 w' h2 => specLU_any d q' c2 w' h2 hu hl)
  have KI0 : Hid (∀ (q' : Option Addr) (c2 : Nat) (w' : World), Env w'.heap.size tp pv w' → BAt w' q' d → Calls Tryz.prog 8 #[.slice q' d.length c2] w' fun e w'' => ∃ tv us rs bl bh, e = .returned (.agg #[.int .i64 (ltC d), tv, .slice none 0 0]) ∧ TP w'.heap.size w'' tv (ltR d) us rs bl bh ∧ Below w'.heap.size w' w'') := Hid.mk' (fun q' c2 w' hE h2 => implLU_any tp pv d q' c2 w' hE h2 hu hl)
  have HE := Hid.mk' hE
  have HH := Hid.mk' hd
  generalize ltC d = C at *
  generalize ltR d = R at *
  have ct := ctN_le R R.length
  rw [List.take_length] at ct
  clear hE hd hu
  go_enter Tryz.func3, Tryz.ntmps3
  go_wp2_with fail
  refine (toByteS_any q c' d w HH.out ll).mono ?_
  rintro e w2 ⟨b2, rfl, l2, r2, hb2⟩
  have B2 := Hid.mk' hb2
  have T2 := Hid.mk' (BAt.of_row r2)
  clear r2 hb2
  go_wp2_with fail
  refine (KS0.out _ _ _ T2.out).mono ?_
  rintro e w5 ⟨a5, c5, rfl, s5, hb5⟩
  have N5 := below_new w5 (.cells #[.int .i64 C, .slice a5 R.length c5, .slice none 0 0] 27)
  have BX := (B2.out.trans (hb5.mono B2.out.size)).trans (N5.mono (Nat.le_trans B2.out.size hb5.size))
  have HB := Hid.mk' BX
  have RW := Hid.mk' (row3 w5 27 (.int .i64 C) (.slice a5 R.length c5) (.slice none 0 0))
  have SW := Hid.mk' (s5.below N5)
  clear BX N5 hb5 s5 T2 B2 KS0
  go_wp2_with fail
  generalize hW5 : w5.alloc (.cells #[.int .i64 C, .slice a5 R.length c5, .slice none 0 0] 27) = W6 at *
  clear hW5
  refine (toByteS_any q c' d W6 (HH.out.below HB.out) ll).mono ?_
  rintro e w7 ⟨b7, rfl, l7, r7, hb7⟩
  have B5 := Hid.mk' hb7
  have L7 : Hid (W6.heap.size ≤ w7.heap.size) := Hid.mk' hb7.size
  have X1 := Hid.mk' r7
  have LB := Hid.mk' (show W6.heap.size ≤ b7 ∧ b7 + 1 ≤ w7.heap.size from ⟨l7, r7.lt⟩)
  clear hb7 r7 l7
  go_wp2_with fail
  refine (KI0.out _ _ w7 ((HE.out.keep (HB.out.trans (B5.out.mono HB.out.size))).up (Nat.le_trans HB.out.size L7.out) (Nat.le_refl _)) (.of_row X1.out)).mono ?_
  rintro e w8 ⟨v8, us8, rs8, bl8, bh8, rfl, t8, hb8⟩
  obtain ⟨a8, c8, rfl, -⟩ := own_src t8.row
  have N8 := below_new w8 (.cells #[.int .i64 C, .slice a8 R.length c8, .slice none 0 0] 27)
  have hb := hb8.trans (N8.mono hb8.size)
  have B5 := Hid.mk' (B5.out.trans (hb.mono B5.out.size))
  have X1 := Hid.mk' (rowB X1.out hb)
  have G : Hid (GL w7.heap.size w8.heap.size (.slice a8 R.length c8) us8 rs8 bl8 bh8 C R _) := Hid.mk' ⟨row3 w8 27 (.int .i64 C) (.slice a8 R.length c8) (.slice none 0 0), t8.below N8, fun k hk => ⟨fun e => hk (t8.row.lt k e), fun j hj h2 => hk ⟨Nat.le_trans (t8.ta.low j hj) h2.1, Nat.lt_of_lt_of_le h2.2 (t8.ta.top j hj)⟩⟩, hb8.size⟩
  clear t8 hb8 N8 hb
  obtain ⟨e0, e1, e2, e3⟩ := cells3 G.out.box
  obtain ⟨k0, k1, k2, k3⟩ := cells3 (rowB RW.out B5.out)
  go_wp2_with fail
  generalize hW8 : w8.alloc (.cells #[.int .i64 C, .slice a8 R.length c8, .slice none 0 0] 27) = W8 at *
  clear hW8
  refine (eqLRes_is C R a8 a5 c8 c5 W8 G.out.at (SW.out.below B5.out) nR0).mono ?_
  rintro e w9 ⟨rfl, hb⟩
  have B5 := Hid.mk' (B5.out.trans (hb.mono B5.out.size))
  have X1 := Hid.mk' (rowB X1.out hb)
  have G := Hid.mk' (G.out.below hb)
  clear hb e0 e1 e2 e3 k0 k1 k2 k3
  go_wp2_with fail
  refine (toByteS_any q c' d w9 (HH.out.below (HB.out.trans (B5.out.mono HB.out.size))) ll).mono ?_
  rintro e wK ⟨bK, rfl, lK, rK, hb⟩
  have T9 := Hid.mk' rK
  have B5 := Hid.mk' (B5.out.trans (hb.mono B5.out.size))
  have X1 := Hid.mk' (rowB X1.out hb)
  have G := Hid.mk' (G.out.below hb)
  clear hb rK lK
  go_wp2_with fail
  refine (eqByteS_any _ _ _ _ d wK (.of_row X1.out) (.of_row T9.out) ll).mono ?_
  rintro e wB ⟨rfl, hb⟩
  have B5 := Hid.mk' (B5.out.trans (hb.mono B5.out.size))
  have X1 := Hid.mk' (rowB X1.out hb)
  have G := Hid.mk' (G.out.below hb)
  clear hb T9
  go_wp2_with fail
  refine (markByteS_row b7 d.length d.length d.length 1 (bv d) wB X1.out (Nat.le_refl _) (by omega)).mono ?_
  rintro e wD ⟨rfl, _, hk⟩
  have B5 := Hid.mk' (B5.out.trans (hk.below LB.out.1 B5.out.size))
  have G := Hid.mk' (G.out.kept hk LB.out.2)
  clear hk X1
  obtain ⟨e0, e1, e2, e3⟩ := cells3 G.out.box
  obtain ⟨k0, k1, k2, k3⟩ := cells3 (rowB RW.out B5.out)
  have kz : ¬ ((((1 : Nat) : Int) + (d.length : Int)) < 0) := by omega
  have kz' : ¬ ((1 + (d.length : Int)) < 0) := by omega
  go_wp2_with fail
  refine (eqLRes_is C R a8 a5 c8 c5 wD G.out.at (SW.out.below B5.out) nR0).mono ?_
  rintro e wE ⟨rfl, hb⟩
  have B5 := Hid.mk' (B5.out.trans (hb.mono B5.out.size))
  have G := Hid.mk' (G.out.below hb)
  clear hb e0 e1 e2 e3 k0 k1 k2 k3 kz kz'
  obtain ⟨e0, e1, e2, e3⟩ := cells3 G.out.box
  go_wp2_with fail
  refine (markLRes_is C w7.heap.size (.slice a8 R.length c8) R us8 rs8 bl8 bh8 wE G.out.tp (by have := G.out.box.lt; have := G.out.lq; omega) nR0).mono ?_
  rintro e wF ⟨rfl, q15, kp⟩
  have hk : KeptIn w7.heap.size w8.heap.size wE wF := kp.keptIn (fun k e => G.out.cap k (by omega))
  have GF : Hid (GL w7.heap.size w8.heap.size (.slice a8 R.length c8) us8 rs8 bl8 bh8 C (mkT 1 R) wF) := Hid.mk' ⟨rowK G.out.box hk (.inr (Nat.le_refl _)), q15, by rw [mkT_len]; exact G.out.cap, G.out.lq⟩
  have B5 := Hid.mk' (B5.out.trans (hk.below L7.out B5.out.size))
  have zm : ¬ (((1 + ctN R : Nat) : Int) < 0) := by omega
  clear q15 kp hk G e0 e1 e2 e3
  obtain ⟨e0, e1, e2, e3⟩ := cells3 GF.out.box
  go_wp2_with fail
  refine (heldLRes_is C R a8 c8 wF GF.out.at nR0).mono ?_
  rintro e wG ⟨rfl, hb⟩
  have B5 := Hid.mk' (B5.out.trans (hb.mono B5.out.size))
  have GF := Hid.mk' (GF.out.below hb)
  clear hb e0 e1 e2 e3
  go_wp2_with fail
  refine (toByteS_any q c' d wG (HH.out.below (HB.out.trans (B5.out.mono HB.out.size))) ll).mono ?_
  rintro e v4 ⟨b4, rfl, l4, r4, hb4⟩
  have HB4 := Hid.mk' hb4
  have T4t := Hid.mk' (BAt.of_row r4)
  have E4 := Hid.mk' ((HE.out.keep ((HB.out.trans (B5.out.mono HB.out.size)).trans (hb4.mono (Nat.le_trans HB.out.size B5.out.size)))).up (Nat.le_trans (Nat.le_trans HB.out.size B5.out.size) hb4.size) (Nat.le_refl _))
  clear hb4 r4 l4
  go_wp2_with fail
  refine (KI0.out _ _ _ E4.out T4t.out).mono ?_
  rintro e wH ⟨vH, usH, rsH, blH, bhH, rfl, tH, hbH⟩
  obtain ⟨aH, cH, rfl, sH⟩ := tH.tsAt
  have NH := below_new wH (.cells #[.int .i64 C, .slice aH R.length cH, .slice none 0 0] 27)
  have hb35 : Below wG.heap.size wG wH := HB4.out.trans (hbH.mono HB4.out.size)
  have BX := hb35.trans (NH.mono hb35.size)
  have B5 := Hid.mk' (B5.out.trans (BX.mono B5.out.size))
  have GF := Hid.mk' (GF.out.below BX)
  have RHh := Hid.mk' (row3 wH 27 (.int .i64 C) (.slice aH R.length cH) (.slice none 0 0))
  have SH := Hid.mk' (sH.below NH)
  clear BX hb35 NH tH hbH sH T4t HB4 KI0
  obtain ⟨e0, e1, e2, e3⟩ := cells3 RHh.out
  obtain ⟨k0, k1, k2, k3⟩ := cells3 (rowB RW.out B5.out)
  go_wp2_with fail
  generalize hWH : wH.alloc (.cells #[.int .i64 C, .slice aH R.length cH, .slice none 0 0] 27) = WH at *
  clear hWH
  refine (eqLRes_is C R aH a5 cH c5 WH SH.out (SW.out.below B5.out) nR0).mono ?_
  rintro e wI ⟨rfl, hb⟩
  have B5 := Hid.mk' (B5.out.trans (hb.mono B5.out.size))
  have GF := Hid.mk' (GF.out.below hb)
  clear hb e0 e1 e2 e3 k0 k1 k2 k3
  obtain ⟨e0, e1, e2, e3⟩ := cells3 GF.out.box
  go_wp2_with fail
  refine (heldLRes_is C R a8 c8 wI GF.out.at nR0).mono ?_
  rintro e wJ ⟨rfl, hb⟩
  have B5 := Hid.mk' (B5.out.trans (hb.mono B5.out.size))
  clear hb e0 e1 e2 e3 GF
  go_wp2
  go_ret
  exact ⟨rfl, HB.out.trans (B5.out.mono HB.out.size)⟩

end Go.Proofs.YthcajggbcanmdaaGreatDoor
