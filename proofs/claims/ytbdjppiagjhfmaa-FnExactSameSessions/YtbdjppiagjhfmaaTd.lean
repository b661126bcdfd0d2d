/- Walks: attributes and tokens that are the same are told so. -/
import Derived.Test.YtbdjppiagjhfmaaTc
namespace Go.Proofs.Ytbdjppiagjhfmaa
open Go.RowKit
set_option linter.unusedVariables false

set_option maxHeartbeats 1600000 in
theorem eqAttrS_any (a b : Option Addr) (c d : Nat) (l : List AT) (w : World) (ha : AAt w a l) (hb : AAt w b l) (hl : (l.length : Int) + asz l ≤ 1048576) :
    Calls Try.prog 112 #[.slice a l.length c, .slice b l.length d] w fun e w' => e = .returned (.bool true) ∧ Below w.heap.size w w' := by
  have HA := Hid.mk' ha
  have HB := Hid.mk' hb
  clear ha hb
  go_enter Try.func112, Try.ntmps112
  go_wp2
  go_loopw [5] (fun i wr => ∃ k : Nat, k ≤ l.length ∧ i = .int .i64 k ∧ Below w.heap.size w wr) (fun i _ => l.length - (intOf i).toNat)
  case atStart => exact ⟨0, Nat.zero_le _, rfl, Below.refl _ _⟩
  case round =>
    obtain ⟨k, hk, rfl, hbl⟩ := hrel
    have R2 := Hid.mk' hbl
    by_cases hlt : k < l.length
    · have ci : (k : Int) < (l.length : Int) := by omega
      rcases HA.out.below hbl with ha | ⟨b1, o1, rfl, s1, hc1⟩
      · exact absurd hlt (by rw [ha]; exact Nat.not_lt_zero _)
      rcases HB.out.below hbl with hb | ⟨b2, o2, rfl, s2, hc2⟩
      · exact absurd hlt (by rw [hb]; exact Nat.not_lt_zero _)
      obtain ⟨h1, p1, d1, h2, h3⟩ := hc1 k hlt
      obtain ⟨h4, p2_, d2, h5, h6⟩ := hc2 k hlt
      have st := asz_take l k hlt
      have sl := asz_le l (k + 1)
      have KE : Hid (Calls Try.prog 118 #[.agg #[.string (atK l k).nm, .slice p1 (atK l k).vl.length d1], .agg #[.string (atK l k).nm, .slice p2_ (atK l k).vl.length d2]] wr.drew fun e w' => e = .returned (.bool true) ∧ Below wr.drew.heap.size wr.drew w') := eqAttr_any _ _ _ _ _ _ _ (h3.below (Below.refl _ _).drew) (h6.below (Below.refl _ _).drew) (by omega)
      clear hbl hc1 hc2 h3 h6 st sl
      go_wp2
      go_region_held3 (fun w' => w'.cell? ⟨b1, o1 + k * 2, none⟩ = some (.string (atK l k).nm) ∧ w'.cell? ⟨b1, o1 + k * 2 + 1, none⟩ = some (.slice p1 (atK l k).vl.length d1) ∧ w'.cell? ⟨b2, o2 + k * 2, none⟩ = some (.string (atK l k).nm) ∧ w'.cell? ⟨b2, o2 + k * 2 + 1, none⟩ = some (.slice p2_ (atK l k).vl.length d2)) (simp [*])
        ((go_at_call 118; refine KE.out.mono ?_; rintro e w1 ⟨rfl, hb1⟩; replace hb1 := undrew hb1; obtain ⟨hx1, hx2⟩ := bcell hb1))
      go_wp2
      go_roundw
      case rel => exact ⟨k + 1, by omega, by go_num, R2.out.trans (hb1.mono R2.out.size)⟩
      case measure => simp [intOf]; omega
    · have ci : ¬ (k : Int) < (l.length : Int) := by omega
      go_wp2
      go_ret
      exact ⟨rfl, R2.out⟩

set_option maxHeartbeats 1600000 in
theorem eqToken_any (t : TK) (a b : Option Addr) (c d : Nat) (w : World) (ha : AAt w a t.at_) (hb : AAt w b t.at_) (hl : (t.at_.length : Int) + asz t.at_ ≤ 1048576) :
    Calls Try.prog 103 #[.agg #[.int .i64 t.kd, .int .i64 t.by_, .string t.nm, .slice a t.at_.length c, .bool t.sh], .agg #[.int .i64 t.kd, .int .i64 t.by_, .string t.nm, .slice b t.at_.length d, .bool t.sh]] w fun e w' => e = .returned (.bool true) ∧ Below w.heap.size w w' := by
  have B0 := ((Below.refl w.heap.size w).alloc (Nat.le_refl _) (.cells #[.int .i64 t.kd, .int .i64 t.by_, .string t.nm, .slice a t.at_.length c, .bool t.sh] 140)).alloc (by simp) (.cells #[.int .i64 t.kd, .int .i64 t.by_, .string t.nm, .slice b t.at_.length d, .bool t.sh] 140)
  have R1 := (row5 w 140 (.int .i64 t.kd) (.int .i64 t.by_) (.string t.nm) (.slice a t.at_.length c) (.bool t.sh)).alloc (.cells #[.int .i64 t.kd, .int .i64 t.by_, .string t.nm, .slice b t.at_.length d, .bool t.sh] 140)
  have R2 := row5 (w.alloc (.cells #[.int .i64 t.kd, .int .i64 t.by_, .string t.nm, .slice a t.at_.length c, .bool t.sh] 140)) 140 (.int .i64 t.kd) (.int .i64 t.by_) (.string t.nm) (.slice b t.at_.length d) (.bool t.sh)
  have z1 : (w.alloc (.cells #[.int .i64 t.kd, .int .i64 t.by_, .string t.nm, .slice a t.at_.length c, .bool t.sh] 140)).heap.size = w.heap.size + 1 := by simp
  rw [z1] at R2
  have H1 := Hid.mk' R1
  have H2 := Hid.mk' R2
  have KB := Hid.mk' (eqAttrS_any a b c d t.at_ _ (ha.below B0) (hb.below B0) hl)
  have HB := Hid.mk' B0
  clear ha hb B0 R1 R2 z1
  generalize hW : (w.alloc (.cells #[.int .i64 t.kd, .int .i64 t.by_, .string t.nm, .slice a t.at_.length c, .bool t.sh] 140)).alloc (.cells #[.int .i64 t.kd, .int .i64 t.by_, .string t.nm, .slice b t.at_.length d, .bool t.sh] 140) = W at *
  obtain ⟨p0, p1, p2_, p3, p4, p5⟩ := cells5 H1.out
  obtain ⟨q0, q1, q2, q3, q4, q5⟩ := cells5 H2.out
  go_enter Try.func103, Try.ntmps103
  go_wp2_with fail
  clear hW p0 p1 p2_ p3 p4 p5 q0 q1 q2 q3 q4 q5
  refine KB.out.mono ?_
  rintro e w1 ⟨rfl, hb⟩
  obtain ⟨p0, p1, p2_, p3, p4, p5⟩ := cells5 (rowB H1.out hb)
  obtain ⟨q0, q1, q2, q3, q4, q5⟩ := cells5 (rowB H2.out hb)
  have HB := Hid.mk' (HB.out.trans (hb.mono HB.out.size))
  clear hb KB
  go_wp2
  go_ret
  exact ⟨rfl, HB.out⟩

end Go.Proofs.Ytbdjppiagjhfmaa
