/- Walks: nodes that are the same are told so. -/
import Derived.Test.YtngdcpmolbpoeaaGb
namespace Go.Proofs.Ytngdcpmolbpoeaa
open Go.RowKit
set_option linter.unusedVariables false
set_option linter.unusedSimpArgs false

set_option maxHeartbeats 1600000 in
theorem eqNode_any (t : ND) (a b p q : Option Addr) (c d c' d' : Nat) (w : World) (ha : AAt w a t.at_) (hb : AAt w b t.at_) (hp : BAt w p t.tx) (hq : BAt w q t.tx) (hl : (nsz t : Int) ≤ 1048576) :
    Calls Try.prog 21 #[.agg #[.int .i64 t.up, .string t.tg, .slice a t.at_.length c, .slice p t.tx.length c'], .agg #[.int .i64 t.up, .string t.tg, .slice b t.at_.length d, .slice q t.tx.length d']] w fun e w' => e = .returned (.bool true) ∧ Below w.heap.size w w' := by
  unfold nsz at hl
  have B0 := ((Below.refl w.heap.size w).alloc (Nat.le_refl _) (.cells #[.int .i64 t.up, .string t.tg, .slice a t.at_.length c, .slice p t.tx.length c'] 42)).alloc (by simp) (.cells #[.int .i64 t.up, .string t.tg, .slice b t.at_.length d, .slice q t.tx.length d'] 42)
  have R1 := (row4 w 42 (.int .i64 t.up) (.string t.tg) (.slice a t.at_.length c) (.slice p t.tx.length c')).alloc (.cells #[.int .i64 t.up, .string t.tg, .slice b t.at_.length d, .slice q t.tx.length d'] 42)
  have R2 := row4 (w.alloc (.cells #[.int .i64 t.up, .string t.tg, .slice a t.at_.length c, .slice p t.tx.length c'] 42)) 42 (.int .i64 t.up) (.string t.tg) (.slice b t.at_.length d) (.slice q t.tx.length d')
  have z1 : (w.alloc (.cells #[.int .i64 t.up, .string t.tg, .slice a t.at_.length c, .slice p t.tx.length c'] 42)).heap.size = w.heap.size + 1 := by simp
  rw [z1] at R2
  have H1 := Hid.mk' R1
  have H2 := Hid.mk' R2
  have KB := Hid.mk' (eqAttrS_any a b c d t.at_ _ (ha.below B0) (hb.below B0) (by omega))
  have HX := Hid.mk' (hp.below B0)
  have HY := Hid.mk' (hq.below B0)
  have HB := Hid.mk' B0
  clear ha hb hp hq B0 R1 R2 z1
  generalize hW : (w.alloc (.cells #[.int .i64 t.up, .string t.tg, .slice a t.at_.length c, .slice p t.tx.length c'] 42)).alloc (.cells #[.int .i64 t.up, .string t.tg, .slice b t.at_.length d, .slice q t.tx.length d'] 42) = W at *
  obtain ⟨p0, p1, p2_, p3, p4⟩ := cells4 H1.out
  obtain ⟨q0, q1, q2, q3, q4⟩ := cells4 H2.out
  go_enter Try.func21, Try.ntmps21
  go_wp2_with fail
  clear hW p0 p1 p2_ p3 p4 q0 q1 q2 q3 q4
  refine KB.out.mono ?_
  rintro e w1 ⟨rfl, hb⟩
  obtain ⟨p0, p1, p2_, p3, p4⟩ := cells4 (rowB H1.out hb)
  obtain ⟨q0, q1, q2, q3, q4⟩ := cells4 (rowB H2.out hb)
  have KT := Hid.mk' (eqByteS_any p q c' d' t.tx w1 (HX.out.below hb) (HY.out.below hb) (by omega))
  have HB := Hid.mk' (HB.out.trans (hb.mono HB.out.size))
  clear hb KB
  go_wp2_with fail
  refine KT.out.mono ?_
  rintro e w2 ⟨rfl, hb⟩
  have HB := Hid.mk' (HB.out.trans (hb.mono HB.out.size))
  clear hb KT
  go_wp2
  go_ret
  exact ⟨rfl, HB.out⟩

set_option maxHeartbeats 1600000 in
theorem eqNodeS_any (a b : Option Addr) (c d : Nat) (l : List ND) (w : World) (ha : NsAt w a l) (hb : NsAt w b l) (hl : (l.length : Int) + nssz l ≤ 1048576) :
    Calls Try.prog 9 #[.slice a l.length c, .slice b l.length d] w fun e w' => e = .returned (.bool true) ∧ Below w.heap.size w w' := by
  have HA := Hid.mk' ha
  have HB := Hid.mk' hb
  clear ha hb
  go_enter Try.func9, Try.ntmps9
  go_wp2
  go_loopw [5] (fun i wr => ∃ k : Nat, k ≤ l.length ∧ i = .int .i64 k ∧ Below w.heap.size w wr) (fun i _ => l.length - (intOf i).toNat)
  case atStart => exact ⟨0, Nat.zero_le _, rfl, Below.refl _ _⟩
  case round =>
    obtain ⟨k, hk, rfl, hbl⟩ := hrel
    have R2 := Hid.mk' hbl
    by_cases hlt : k < l.length
    · have ci : (k : Int) < (l.length : Int) := by omega
      rcases HA.out.below hbl with ha | ⟨b1, o1, rfl, s1, hc1⟩
      · exact absurd hlt (by rw [ha]; exact Nat.not_lt_zero _)
      rcases HB.out.below hbl with hb | ⟨b2, o2, rfl, s2, hc2⟩
      · exact absurd hlt (by rw [hb]; exact Nat.not_lt_zero _)
      obtain ⟨x1, x2, ⟨p1, d1, x3, _, x4⟩, ⟨p3, d3, x5, x6⟩⟩ := hc1 k hlt
      obtain ⟨y1, y2, ⟨p2_, d2, y3, _, y4⟩, ⟨p4, d4, y5, y6⟩⟩ := hc2 k hlt
      have st := nssz_at hlt
      have KE := Hid.mk' (eqNode_any (ndK l k) p1 p2_ p3 p4 d1 d2 d3 d4 wr.drew (x4.below (Below.refl _ _).drew) (y4.below (Below.refl _ _).drew) (x6.below (Below.refl _ _).drew) (y6.below (Below.refl _ _).drew) (by omega))
      clear hbl hc1 hc2 x4 y4 x6 y6 st
      go_wp2
      go_region_held3 (fun w' => w'.cell? ⟨b1, o1 + k * 4, none⟩ = some (.int .i64 (ndK l k).up) ∧ w'.cell? ⟨b1, o1 + k * 4 + 1, none⟩ = some (.string (ndK l k).tg) ∧ w'.cell? ⟨b1, o1 + k * 4 + 2, none⟩ = some (.slice p1 (ndK l k).at_.length d1) ∧ w'.cell? ⟨b1, o1 + k * 4 + 3, none⟩ = some (.slice p3 (ndK l k).tx.length d3) ∧ w'.cell? ⟨b2, o2 + k * 4, none⟩ = some (.int .i64 (ndK l k).up) ∧ w'.cell? ⟨b2, o2 + k * 4 + 1, none⟩ = some (.string (ndK l k).tg) ∧ w'.cell? ⟨b2, o2 + k * 4 + 2, none⟩ = some (.slice p2_ (ndK l k).at_.length d2) ∧ w'.cell? ⟨b2, o2 + k * 4 + 3, none⟩ = some (.slice p4 (ndK l k).tx.length d4)) (simp [*])
        ((go_at_call 21; refine KE.out.mono ?_; rintro e w1 ⟨rfl, hb1⟩; replace hb1 := undrew hb1; obtain ⟨hx1, hx2⟩ := bcell hb1))
      go_wp2
      go_roundw
      case rel => exact ⟨k + 1, by omega, by go_num, R2.out.trans (hb1.mono R2.out.size)⟩
      case measure => simp [intOf]; omega
    · have ci : ¬ (k : Int) < (l.length : Int) := by omega
      go_wp2
      go_ret
      exact ⟨rfl, R2.out⟩

end Go.Proofs.Ytngdcpmolbpoeaa
