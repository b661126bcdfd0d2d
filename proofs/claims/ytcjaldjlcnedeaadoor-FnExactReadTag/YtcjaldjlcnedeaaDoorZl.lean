/- That marks are held; results of a reader: marked, held, the same. -/
import Derived.Test.YtcjaldjlcnedeaaDoorZk
namespace Go.Proofs.YtcjaldjlcnedeaaDoor
open Go.RowKit
set_option linter.unusedVariables false
set_option linter.unusedSimpArgs false

set_option maxHeartbeats 3200000 in
theorem heldAttrS_is (a : Option Addr) (c : Nat) (l : List AT) (w : World) (ha : AAt w a (mkA 1 l)) (hl : (l.length : Int) + asz l ≤ 1048576) :
    Calls Tryd.prog 42 #[.slice a l.length c, .int .i64 1] w fun e w' => e = .returned (.int .i64 (1 + (l.length : Int) + (vsz l : Int))) ∧ Below w.heap.size w w' := by
  have HA := Hid.mk' ha
  clear ha
  go_enter Tryd.func42, Tryd.ntmps42
  go_wp2
  go_loopw [1, 5] (fun x i wr => ∃ k : Nat, k ≤ l.length ∧ i = .int .i64 k ∧ x = .int .i64 ((1 + k + vsz (l.take k) : Nat) : Int) ∧ Below w.heap.size w wr) (fun _ i _ => l.length - (intOf i).toNat)
  case atStart => exact ⟨0, Nat.zero_le _, rfl, by simp [vsz], Below.refl _ _⟩
  case round =>
    obtain ⟨k, hk, rfl, rfl, hbl⟩ := hrel
    have HB := Hid.mk' hbl
    by_cases hlt : k < l.length
    · have ci : (k : Int) < (l.length : Int) := by omega
      have st := vsz_take l k hlt
      have sl := vsz_le l (k + 1)
      rcases HA.out.below hbl with h0 | ⟨b1, o1, rfl, s1, hc1⟩
      · have := mkA_len 1 l; rw [h0] at this; simp at this; omega
      obtain ⟨h1, p1, d1, h2, h3⟩ := hc1 k (by rw [mkA_len]; exact hlt)
      rw [mkA_get hlt] at h1 h2 h3
      obtain ⟨q, hq⟩ : ∃ q : Nat, 1 + k + vsz (l.take k) = q := ⟨_, rfl⟩
      rw [hq] at h1 h2 h3 ⊢
      have hq1 : 1 + (k + 1) + vsz (l.take (k + 1)) = q + 1 + (atK l k).vl.length := by omega
      have hq2 : q + 1 + (atK l k).vl.length ≤ 100000000 := by omega
      have Q1 := Hid.mk' hq1
      simp only [mb_len] at h1 h2 h3
      have H3 := Hid.mk' h3
      have KT := Hid.mk' (markText_is q wr.drew (by omega) (by omega))
      clear st sl hq hq1 hc1 h3 hbl
      go_wp2_with fail
      go_region_held3 (fun w' => w'.cell? ⟨b1, o1 + k * 2, none⟩ = some (.string (mtx q))) (simp [*])
        ((go_at_call 71; refine KT.out.mono ?_; rintro e w1 ⟨rfl, hb1⟩; replace hb1 := undrew hb1; obtain ⟨hx1, hx2⟩ := bcell hb1))
      have B1 := Hid.mk' (HB.out.trans (hb1.mono HB.out.size))
      have g2 : w1.cell? ⟨b1, o1 + k * 2 + 1, none⟩ = some (.slice p1 (atK l k).vl.length d1) := (hx1 _ _ s1).trans h2
      have KB := Hid.mk' (heldByteS_any p1 d1 (atK l k).vl.length (q + 1) w1 (H3.out.below hb1) (by omega))
      clear hb1 hx1 hx2 KT
      go_wp2_with fail
      refine KB.out.mono ?_
      rintro e w2 ⟨rfl, hb2⟩
      have B2 := Hid.mk' (B1.out.trans (hb2.mono B1.out.size))
      have z : ¬ (((q + 1 : Nat) : Int) + (atK l k).vl.length < 0) := by omega
      clear hb2 KB
      go_wp2
      go_roundw
      case rel => exact ⟨k + 1, by omega, by go_num, by rw [Q1.out]; simp, B2.out⟩
      case measure => simp [intOf]; omega
    · have ci : ¬ (k : Int) < (l.length : Int) := by omega
      have e : k = l.length := by omega
      subst e
      rw [List.take_length]
      go_wp2
      go_ret
      exact ⟨ret_num (by omega), HB.out⟩

set_option maxHeartbeats 1600000 in
theorem markToken_is (t : TK) (lo hi : Nat) (v : Value) (us : List Value) (w : World) (h : OA lo w v t.at_ us) (hH : Hi hi v t.at_ us) (hlo : lo ≤ w.heap.size) (hl : (t.at_.length : Int) + asz t.at_ ≤ 1048576) :
    Calls Tryd.prog 19 #[.agg #[.int .i64 t.kd, .int .i64 t.by_, .string t.nm, v, .bool t.sh], .int .i64 1] w fun e w' => e = .returned (.int .i64 (1 + (t.at_.length : Int) + (vsz t.at_ : Int))) ∧ OA lo w' v (mkA 1 t.at_) us ∧ KeptIn lo hi w w' := by
  have N0 := below_new w (.cells #[.int .i64 t.kd, .int .i64 t.by_, .string t.nm, v, .bool t.sh] 24)
  have KA := Hid.mk' (markAttrS_is lo hi v t.at_ us _ (h.below N0) hH (Nat.le_trans hlo N0.size) hl)
  have HB : Hid (KeptIn lo hi w _) := Hid.mk' (KeptIn.of_below N0)
  obtain ⟨a, c, rfl, _⟩ := h.at
  clear h N0
  go_enter Tryd.func19, Tryd.ntmps19
  go_wp2_with fail
  refine KA.out.mono ?_
  rintro e w1 ⟨rfl, ho, hb⟩
  have HO := Hid.mk' ho
  have HB := Hid.mk' (HB.out.trans hb)
  clear hb ho KA
  go_wp2
  go_ret
  exact ⟨rfl, HO.out, HB.out⟩

set_option maxHeartbeats 1600000 in
theorem heldToken_is (t : TK) (a : Option Addr) (c : Nat) (w : World) (h : AAt w a (mkA 1 t.at_)) (hl : (t.at_.length : Int) + asz t.at_ ≤ 1048576) :
    Calls Tryd.prog 20 #[.agg #[.int .i64 t.kd, .int .i64 t.by_, .string t.nm, .slice a t.at_.length c, .bool t.sh], .int .i64 1] w fun e w' => e = .returned (.int .i64 (1 + (t.at_.length : Int) + (vsz t.at_ : Int))) ∧ Below w.heap.size w w' := by
  have N0 := below_new w (.cells #[.int .i64 t.kd, .int .i64 t.by_, .string t.nm, .slice a t.at_.length c, .bool t.sh] 24)
  have KA := Hid.mk' (heldAttrS_is a c t.at_ _ (h.below N0) hl)
  have HB := Hid.mk' N0
  have z : ¬ (1 + (t.at_.length : Int) + (vsz t.at_ : Int) < 0) := by omega
  clear h N0
  go_enter Tryd.func20, Tryd.ntmps20
  go_wp2_with fail
  refine KA.out.mono ?_
  rintro e w1 ⟨rfl, hb⟩
  have HB := Hid.mk' (HB.out.trans (hb.mono HB.out.size))
  clear hb KA
  go_wp2
  go_ret
  exact ⟨rfl, HB.out⟩

set_option maxHeartbeats 1600000 in
theorem markTR_is (cc : Int) (t : TK) (lo hi : Nat) (v : Value) (us : List Value) (w : World) (h : OA lo w v t.at_ us) (hH : Hi hi v t.at_ us) (hlo : lo ≤ w.heap.size) (hl : (t.at_.length : Int) + asz t.at_ ≤ 1048576) :
    Calls Tryd.prog 8 #[.agg #[.int .i64 cc, .int .i64 t.kd, .int .i64 t.by_, .string t.nm, v, .bool t.sh], .int .i64 1] w fun e w' => e = .returned (.int .i64 (1 + (t.at_.length : Int) + (vsz t.at_ : Int))) ∧ OA lo w' v (mkA 1 t.at_) us ∧ KeptIn lo hi w w' := by
  have N0 := below_new w (.cells #[.int .i64 cc, .int .i64 t.kd, .int .i64 t.by_, .string t.nm, v, .bool t.sh] 26)
  have KA := Hid.mk' (markToken_is t lo hi v us _ (h.below N0) hH (Nat.le_trans hlo N0.size) hl)
  have HB : Hid (KeptIn lo hi w _) := Hid.mk' (KeptIn.of_below N0)
  obtain ⟨a, c, rfl, _⟩ := h.at
  clear h N0
  go_enter Tryd.func8, Tryd.ntmps8
  go_wp2_with fail
  refine KA.out.mono ?_
  rintro e w1 ⟨rfl, ho, hb⟩
  have HO := Hid.mk' ho
  have HB := Hid.mk' (HB.out.trans hb)
  clear hb ho KA
  go_wp2
  go_ret
  exact ⟨rfl, HO.out, HB.out⟩

set_option maxHeartbeats 1600000 in
theorem heldTR_is (cc : Int) (t : TK) (a : Option Addr) (c : Nat) (w : World) (h : AAt w a (mkA 1 t.at_)) (hl : (t.at_.length : Int) + asz t.at_ ≤ 1048576) :
    Calls Tryd.prog 9 #[.agg #[.int .i64 cc, .int .i64 t.kd, .int .i64 t.by_, .string t.nm, .slice a t.at_.length c, .bool t.sh], .int .i64 1] w fun e w' => e = .returned (.int .i64 (1 + (t.at_.length : Int) + (vsz t.at_ : Int))) ∧ Below w.heap.size w w' := by
  have N0 := below_new w (.cells #[.int .i64 cc, .int .i64 t.kd, .int .i64 t.by_, .string t.nm, .slice a t.at_.length c, .bool t.sh] 26)
  have KA := Hid.mk' (heldToken_is t a c _ (h.below N0) hl)
  have HB := Hid.mk' N0
  have z : ¬ (1 + (t.at_.length : Int) + (vsz t.at_ : Int) < 0) := by omega
  clear h N0
  go_enter Tryd.func9, Tryd.ntmps9
  go_wp2_with fail
  refine KA.out.mono ?_
  rintro e w1 ⟨rfl, hb⟩
  have HB := Hid.mk' (HB.out.trans (hb.mono HB.out.size))
  clear hb KA
  go_wp2
  go_ret
  exact ⟨rfl, HB.out⟩

set_option maxHeartbeats 1600000 in
theorem eqTR_is (cc : Int) (t : TK) (a b : Option Addr) (c d : Nat) (w : World) (ha : AAt w a t.at_) (hb : AAt w b t.at_) (hl : (t.at_.length : Int) + asz t.at_ ≤ 1048576) :
    Calls Tryd.prog 7 #[.agg #[.int .i64 cc, .int .i64 t.kd, .int .i64 t.by_, .string t.nm, .slice a t.at_.length c, .bool t.sh], .agg #[.int .i64 cc, .int .i64 t.kd, .int .i64 t.by_, .string t.nm, .slice b t.at_.length d, .bool t.sh]] w fun e w' => e = .returned (.bool true) ∧ Below w.heap.size w w' := by
  have B0 := (below_new w (.cells #[.int .i64 cc, .int .i64 t.kd, .int .i64 t.by_, .string t.nm, .slice a t.at_.length c, .bool t.sh] 26)).alloc (by simp) (.cells #[.int .i64 cc, .int .i64 t.kd, .int .i64 t.by_, .string t.nm, .slice b t.at_.length d, .bool t.sh] 26)
  have KK := eqToken_any t a b c d _ (ha.below B0) (hb.below B0) hl
  have R1 := (row6 w 26 (.int .i64 cc) (.int .i64 t.kd) (.int .i64 t.by_) (.string t.nm) (.slice a t.at_.length c) (.bool t.sh)).alloc (.cells #[.int .i64 cc, .int .i64 t.kd, .int .i64 t.by_, .string t.nm, .slice b t.at_.length d, .bool t.sh] 26)
  have R2 := row6 (w.alloc (.cells #[.int .i64 cc, .int .i64 t.kd, .int .i64 t.by_, .string t.nm, .slice a t.at_.length c, .bool t.sh] 26)) 26 (.int .i64 cc) (.int .i64 t.kd) (.int .i64 t.by_) (.string t.nm) (.slice b t.at_.length d) (.bool t.sh)
  have z1 : (w.alloc (.cells #[.int .i64 cc, .int .i64 t.kd, .int .i64 t.by_, .string t.nm, .slice a t.at_.length c, .bool t.sh] 26)).heap.size = w.heap.size + 1 := by simp
  rw [z1] at R2
  obtain ⟨x0, x1, x2, x3, x4, x5, x6⟩ := cells6 R1
  obtain ⟨y0, y1, y2, y3, y4, y5, y6⟩ := cells6 R2
  have BB := Hid.mk' B0
  have KK := Hid.mk' KK
  clear B0 R1 R2 ha hb
  go_enter Tryd.func7, Tryd.ntmps7
  go_wp2_with fail
  refine KK.out.mono ?_
  rintro e w1 ⟨rfl, hb1⟩
  have B1 := Hid.mk' (BB.out.trans (hb1.mono BB.out.size))
  clear KK BB hb1
  go_wp2
  go_ret
  exact ⟨rfl, B1.out⟩

end Go.Proofs.YtcjaldjlcnedeaaDoor
