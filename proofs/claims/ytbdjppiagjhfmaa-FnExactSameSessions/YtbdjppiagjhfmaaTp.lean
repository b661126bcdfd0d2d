/- Walks: lists of tokens that are the same are told so; the model's SameTokens. -/
import Derived.Test.YtbdjppiagjhfmaaTo
import Derived.BigGuard
import Derived.Laws.BytesString
import Derived.Laws.IdiomStrings
namespace Go.Proofs.Ytbdjppiagjhfmaa
open Go.RowKit
set_option linter.unusedVariables false
set_option linter.unusedSimpArgs false

set_option maxHeartbeats 1600000 in
theorem eqTokenS_any (a b : Option Addr) (c d : Nat) (l : List TK) (w : World) (ha : TsAt w a l) (hb : TsAt w b l) (hl : (l.length : Int) + tssz l ≤ 1048576) :
    Calls Try.prog 85 #[.slice a l.length c, .slice b l.length d] w fun e w' => e = .returned (.bool true) ∧ Below w.heap.size w w' := by
  have HA := Hid.mk' ha
  have HB := Hid.mk' hb
  clear ha hb
  go_enter Try.func85, Try.ntmps85
  go_wp2
  go_loopw [5] (fun i wr => ∃ k : Nat, k ≤ l.length ∧ i = .int .i64 k ∧ Below w.heap.size w wr) (fun i _ => l.length - (intOf i).toNat)
  case atStart => exact ⟨0, Nat.zero_le _, rfl, Below.refl _ _⟩
  case round =>
    obtain ⟨k, hk, rfl, hbl⟩ := hrel
    have R2 := Hid.mk' hbl
    by_cases hlt : k < l.length
    · have ci : (k : Int) < (l.length : Int) := by omega
      rcases HA.out.below hbl with ha | ⟨b1, o1, rfl, s1, hc1⟩
      · exact absurd hlt (by rw [ha]; exact Nat.not_lt_zero _)
      rcases HB.out.below hbl with hb | ⟨b2, o2, rfl, s2, hc2⟩
      · exact absurd hlt (by rw [hb]; exact Nat.not_lt_zero _)
      obtain ⟨x1, x2, x3, ⟨p1, d1, x4, x5⟩, x6⟩ := hc1 k hlt
      obtain ⟨y1, y2, y3, ⟨p2_, d2, y4, y5⟩, y6⟩ := hc2 k hlt
      have st := tssz_take l k hlt
      have sl := tssz_le l (k + 1)
      unfold tsz at st
      have KE := Hid.mk' (eqToken_any (tkK l k) p1 p2_ d1 d2 wr.drew (x5.below (Below.refl _ _).drew) (y5.below (Below.refl _ _).drew) (by omega))
      clear hbl hc1 hc2 x5 y5 st sl
      go_wp2
      go_region_held3 (fun w' => w'.cell? ⟨b1, o1 + k * 5, none⟩ = some (.int .i64 (tkK l k).kd) ∧ w'.cell? ⟨b1, o1 + k * 5 + 1, none⟩ = some (.int .i64 (tkK l k).by_) ∧ w'.cell? ⟨b1, o1 + k * 5 + 2, none⟩ = some (.string (tkK l k).nm) ∧ w'.cell? ⟨b1, o1 + k * 5 + 3, none⟩ = some (.slice p1 (tkK l k).at_.length d1) ∧ w'.cell? ⟨b1, o1 + k * 5 + 4, none⟩ = some (.bool (tkK l k).sh) ∧ w'.cell? ⟨b2, o2 + k * 5, none⟩ = some (.int .i64 (tkK l k).kd) ∧ w'.cell? ⟨b2, o2 + k * 5 + 1, none⟩ = some (.int .i64 (tkK l k).by_) ∧ w'.cell? ⟨b2, o2 + k * 5 + 2, none⟩ = some (.string (tkK l k).nm) ∧ w'.cell? ⟨b2, o2 + k * 5 + 3, none⟩ = some (.slice p2_ (tkK l k).at_.length d2) ∧ w'.cell? ⟨b2, o2 + k * 5 + 4, none⟩ = some (.bool (tkK l k).sh)) (simp [*])
        ((go_at_call 103; refine KE.out.mono ?_; rintro e w1 ⟨rfl, hb1⟩; replace hb1 := undrew hb1; obtain ⟨hx1, hx2⟩ := bcell hb1))
      go_wp2
      go_roundw
      case rel => exact ⟨k + 1, by omega, by go_num, R2.out.trans (hb1.mono R2.out.size)⟩
      case measure => simp [intOf]; omega
    · have ci : ¬ (k : Int) < (l.length : Int) := by omega
      go_wp2
      go_ret
      exact ⟨rfl, R2.out⟩

end Go.Proofs.Ytbdjppiagjhfmaa
