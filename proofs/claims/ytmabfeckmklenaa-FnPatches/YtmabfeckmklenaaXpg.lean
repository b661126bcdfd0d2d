/- Patches told to be the same: the model, the program. -/
import Derived.Test.YtmabfeckmklenaaXpb
import Derived.Test.YtmabfeckmklenaaLsz
import Derived.BigGuard
import Derived.Deep.SlicePairs
import Derived.Laws.BytesString
import Derived.Laws.IdiomStrings
import Derived.Deep.RegionHeld3
namespace Go.Proofs.Ytmabfeckmklenaa
open Go.RowKit
set_option linter.unusedVariables false
set_option linter.unusedSimpArgs false

/-- Bytes as a text. -/
def strI (l : List Int) : ByteArray := l.foldl (fun r n => r.push (UInt8.ofNat n.toNat)) ByteArray.empty

theorem conv_bytesT {w : World} {a : Option Addr} {l : List Int} (c : Nat) (h : BAt w a l) : (convert 22 9 (.slice a l.length c)).run Try.prog w = .ok (.string (strI l)) w := by
  rw [run_convert_bytes_string (P := Try.prog) w 22 9 5 a l.length c Try.underlying22 Try.underlying5 Try.underlying9]
  cases a with
  | none =>
    rcases h with h | ⟨b, o, e, _⟩
    · subst h
      simp [Conv.bytesToString, strI, Sem.run_pure]
    · cases e
  | some ad =>
    refine run_bytesToString w ad l.length c l ?_
    have hk := run_loadCells_list (P := Try.prog) w ad (l.map (Value.int .u8)) (fun j v hj => by
      rcases h with h | ⟨b, o, e, _, hc⟩
      · subst h; simp at hj
      · cases e
        have hjl : j < l.length := by
          have := (List.getElem?_eq_some_iff.1 hj).1
          simpa using this
        have := hc j hjl
        rw [List.getElem?_map] at hj
        rw [show (⟨b, o, none⟩ : Addr).add j = ⟨b, o + j, none⟩ from by unfold Addr.add; split; (rename_i h0; rw [h0]; rfl); rfl, this]
        simp [bv, List.getD_eq_getElem?_getD] at hj ⊢
        obtain ⟨x, hx, rfl⟩ := hj
        simp [hx])
    simpa using hk

/-- All of the first n. -/
def allK (n : Nat) (p : Nat → Bool) : Bool := (List.range n).all p
theorem allK_true {n : Nat} {p : Nat → Bool} (h : ∀ k, k < n → p k = true) : allK n p = true := by
  unfold allK; rw [List.all_eq_true]; intro k hk; exact h k (List.mem_range.1 hk)
theorem allK_false {n k : Nat} {p : Nat → Bool} (hk : k < n) (h : p k = false) : allK n p = false := by
  rw [Bool.eq_false_iff]; intro e
  unfold allK at e; rw [List.all_eq_true] at e
  rw [e k (List.mem_range.2 hk)] at h; cases h

theorem bytesEqual_any (a b : Option Addr) (c d : Nat) (l m : List Int) (w : World) (h1 : BAt w a l) (h2 : BAt w b m) :
    Calls Try.prog 25 #[.slice a l.length c, .slice b m.length d] w fun e w' => e = .returned (.bool ((strI l).toList == (strI m).toList)) ∧ w' = w := by
  have k1 := conv_bytesT c h1
  have k2 := conv_bytesT d h2
  clear h1 h2
  go_enter Try.func25, Try.ntmps25
  go_wp2
  go_ret
  exact ⟨rfl, rfl⟩

def beqB (l m : List Int) : Bool := (strI l).toList == (strI m).toList
def xeq (x y : XK) : Bool := (x.pl == y.pl) && ((x.ct == y.ct) && beqB x.hd y.hd)
def sameXs (l m : List XK) : Bool := decide (l.length = m.length) && allK l.length (fun k => xeq (xkK l k) (xkK m k))

set_option maxHeartbeats 800000 in
theorem samePatch_any (x y : XK) (a b : Option Addr) (c d : Nat) (w : World) (ha : BAt w a x.hd) (hb : BAt w b y.hd) :
    Calls Try.prog 31 #[.agg #[.int .i64 x.pl, .int .i64 x.ct, .slice a x.hd.length c], .agg #[.int .i64 y.pl, .int .i64 y.ct, .slice b y.hd.length d]] w fun e w' => e = .returned (.bool (xeq x y)) ∧ Below w.heap.size w w' := by
  have B0 := ((Below.refl w.heap.size w).alloc (Nat.le_refl _) (.cells #[.int .i64 x.pl, .int .i64 x.ct, .slice a x.hd.length c] 33)).alloc (by simp) (.cells #[.int .i64 y.pl, .int .i64 y.ct, .slice b y.hd.length d] 33)
  have KB := Hid.mk' (bytesEqual_any a b c d x.hd y.hd _ (ha.below B0) (hb.below B0))
  have HB := Hid.mk' B0
  clear ha hb B0
  cases e1 : (x.pl == y.pl) with
  | false =>
    have E : Hid (xeq x y = false) := Hid.mk' (by unfold xeq; rw [e1]; rfl)
    go_enter Try.func31, Try.ntmps31
    go_wp2_with go_big_skip
    go_ret
    exact ⟨by rw [E.out]; rfl, HB.out⟩
  | true =>
  cases e2 : (x.ct == y.ct) with
  | false =>
    have E : Hid (xeq x y = false) := Hid.mk' (by unfold xeq; rw [e2]; simp)
    go_enter Try.func31, Try.ntmps31
    go_wp2_with go_big_skip
    go_ret
    exact ⟨by rw [E.out]; rfl, HB.out⟩
  | true =>
    have E : Hid (xeq x y = ((strI x.hd).toList == (strI y.hd).toList)) := Hid.mk' (by unfold xeq beqB; rw [e1, e2]; simp)
    go_enter Try.func31, Try.ntmps31
    go_wp2_with (first | go_big_skip | (go_at_call 25; refine KB.out.mono ?_; rintro e w9 ⟨rfl, hw9⟩; obtain rfl := hw9.symm))
    go_ret
    exact ⟨by rw [E.out]; rfl, HB.out⟩

set_option maxHeartbeats 3200000 in
theorem equalPatches_any (a b : Option Addr) (c d : Nat) (l m : List XK) (w : World) (ha : XsAt w a l) (hb : XsAt w b m) (hl : (l.length : Int) ≤ 1048576) (hm : (m.length : Int) ≤ 1048576) :
    Calls Try.prog 30 #[.slice a l.length c, .slice b m.length d, .func (.func 31) #[] #[]] w fun e w' => e = .returned (.bool (sameXs l m)) ∧ Below w.heap.size w w' := by
  have HA := Hid.mk' ha
  have HB := Hid.mk' hb
  clear ha hb
  by_cases hq : l.length = m.length
  rotate_left
  · have E : Hid (sameXs l m = false) := Hid.mk' (by unfold sameXs; rw [decide_eq_false hq]; rfl)
    have hq' : ¬ (l.length : Int) = m.length := by omega
    go_enter Try.func30, Try.ntmps30
    go_wp2
    go_ret
    exact ⟨by rw [E.out]; rfl, Below.refl _ _⟩
  have Q := Hid.mk' hq
  have hq' : (l.length : Int) = m.length := by omega
  clear hq
  go_enter Try.func30, Try.ntmps30
  go_wp2
  go_loopw [17] (fun i wr => ∃ k : Nat, k ≤ l.length ∧ i = .int .i64 k ∧ (∀ j, j < k → xeq (xkK l j) (xkK m j) = true) ∧ Below w.heap.size w wr) (fun i _ => l.length - (intOf i).toNat)
  case atStart => exact ⟨0, Nat.zero_le _, rfl, fun j h => absurd h (Nat.not_lt_zero _), Below.refl _ _⟩
  case round =>
    obtain ⟨k, hk, rfl, hn, hbl⟩ := hrel
    have HN := Hid.mk' hn
    have R2 := Hid.mk' hbl
    by_cases hlt : k < l.length
    · have ci : (k : Int) < (l.length : Int) := by omega
      have ci2 : (k : Int) < (m.length : Int) := by omega
      rcases HA.out.below hbl with ha | ⟨b1, o1, rfl, s1, hc1⟩
      · exact absurd hlt (by rw [ha]; exact Nat.not_lt_zero _)
      rcases HB.out.below hbl with hb | ⟨b2, o2, rfl, s2, hc2⟩
      · exact absurd hlt (by rw [Q.out, hb]; exact Nat.not_lt_zero _)
      obtain ⟨x0, x1, p1, d1, x4, x3⟩ := hc1 k hlt
      obtain ⟨y0, y1, p2_, d2, y4, y3⟩ := hc2 k (by omega)
      have B0 := ((Below.refl wr.heap.size wr).alloc (Nat.le_refl _) (.cells #[.int .i64 (xkK l k).pl, .int .i64 (xkK l k).ct, .slice p1 (xkK l k).hd.length d1] 33)).alloc (by simp) (.cells #[.int .i64 (xkK m k).pl, .int .i64 (xkK m k).ct, .slice p2_ (xkK m k).hd.length d2] 33)
      have KE := Hid.mk' (samePatch_any (xkK l k) (xkK m k) p1 p2_ d1 d2 _ (x3.below B0) (y3.below B0))
      have R3 := Hid.mk' (R2.out.trans (B0.mono R2.out.size))
      clear hbl hc1 hc2 hn x3 y3 B0
      cases e1 : xeq (xkK l k) (xkK m k) with
      | false =>
        rw [e1] at KE
        have E : Hid (sameXs l m = false) := Hid.mk' (by unfold sameXs; rw [decide_eq_true Q.out, allK_false hlt e1]; rfl)
        go_wp2_with fail
        refine KE.out.mono ?_
        rintro e w1 ⟨rfl, hb1⟩
        have R4 := Hid.mk' (R3.out.trans (hb1.mono R3.out.size))
        clear hb1 KE
        go_wp2
        go_ret
        exact ⟨by rw [E.out]; rfl, R4.out⟩
      | true =>
        rw [e1] at KE
        go_wp2_with fail
        refine KE.out.mono ?_
        rintro e w1 ⟨rfl, hb1⟩
        have R4 := Hid.mk' (R3.out.trans (hb1.mono R3.out.size))
        clear hb1 KE
        go_wp2
        go_roundw
        case rel => exact ⟨k + 1, by omega, by go_num, fun j hj => by
          by_cases h : j = k
          · subst h; exact e1
          · exact HN.out j (by omega), R4.out⟩
        case measure => simp [intOf]; omega
    · have ci : ¬ (k : Int) < (l.length : Int) := by omega
      have e : k = l.length := by omega
      subst e
      have E : Hid (sameXs l m = true) := Hid.mk' (by unfold sameXs; rw [decide_eq_true Q.out, allK_true HN.out]; rfl)
      go_wp2
      go_ret
      exact ⟨by rw [E.out]; rfl, R2.out⟩

end Go.Proofs.Ytmabfeckmklenaa
