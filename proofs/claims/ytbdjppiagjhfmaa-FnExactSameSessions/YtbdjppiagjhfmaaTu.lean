/- The program's SameTokens. -/
import Derived.Test.YtbdjppiagjhfmaaTt
namespace Go.Proofs.Ytbdjppiagjhfmaa
open Go.RowKit
set_option linter.unusedVariables false
set_option linter.unusedSimpArgs false

set_option maxHeartbeats 3200000 in
theorem sameToken_any (x y : TK) (a b : Option Addr) (c d : Nat) (w : World) (ha : AAt w a x.at_) (hb : AAt w b y.at_) (hx : (x.at_.length : Int) ≤ 1048576) (hy : (y.at_.length : Int) ≤ 1048576) :
    Calls Try.prog 111 #[.agg #[.int .i64 x.kd, .int .i64 x.by_, .string x.nm, .slice a x.at_.length c, .bool x.sh], .agg #[.int .i64 y.kd, .int .i64 y.by_, .string y.nm, .slice b y.at_.length d, .bool y.sh]] w fun e w' => e = .returned (.bool (teq x y)) ∧ Below w.heap.size w w' := by
  have B0 := ((Below.refl w.heap.size w).alloc (Nat.le_refl _) (.cells #[.int .i64 x.kd, .int .i64 x.by_, .string x.nm, .slice a x.at_.length c, .bool x.sh] 140)).alloc (by simp) (.cells #[.int .i64 y.kd, .int .i64 y.by_, .string y.nm, .slice b y.at_.length d, .bool y.sh] 140)
  have KA := Hid.mk' (equalAttrs_any a b c d x.at_ y.at_ _ (ha.below B0) (hb.below B0) hx hy)
  have HB := Hid.mk' B0
  clear ha hb B0
  cases e1 : (x.kd == y.kd) with
  | false =>
    have E : Hid (teq x y = false) := Hid.mk' (by unfold teq; rw [e1]; rfl)
    go_enter Try.func111, Try.ntmps111
    go_wp2_with go_big_skip
    go_ret
    exact ⟨by rw [E.out]; rfl, HB.out⟩
  | true =>
  cases e2 : (x.by_ == y.by_) with
  | false =>
    have E : Hid (teq x y = false) := Hid.mk' (by unfold teq; rw [e2]; simp)
    go_enter Try.func111, Try.ntmps111
    go_wp2_with go_big_skip
    go_ret
    exact ⟨by rw [E.out]; rfl, HB.out⟩
  | true =>
  cases e3 : (x.nm.toList == y.nm.toList) with
  | false =>
    have E : Hid (teq x y = false) := Hid.mk' (by unfold teq; rw [e3]; simp)
    go_enter Try.func111, Try.ntmps111
    go_wp2_with go_big_skip
    go_ret
    exact ⟨by rw [E.out]; rfl, HB.out⟩
  | true =>
  cases e4 : (x.sh == y.sh) with
  | false =>
    have E : Hid (teq x y = false) := Hid.mk' (by unfold teq; rw [e4]; simp)
    go_enter Try.func111, Try.ntmps111
    go_wp2_with go_big_skip
    go_ret
    exact ⟨by rw [E.out]; rfl, HB.out⟩
  | true =>
    have E : Hid (teq x y = sameAs x.at_ y.at_) := Hid.mk' (by unfold teq; rw [e1, e2, e3, e4]; simp)
    go_enter Try.func111, Try.ntmps111
    go_wp2_with (first | go_big_skip | (go_at_call 116; refine KA.out.mono ?_; rintro e w1 ⟨rfl, hb⟩; have HB := Hid.mk' (HB.out.trans (hb.mono HB.out.size)); clear hb))
    go_ret
    exact ⟨by rw [E.out]; rfl, HB.out⟩

end Go.Proofs.Ytbdjppiagjhfmaa
