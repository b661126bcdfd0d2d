/- Attributes and tokens that lie in memory; their sizes. -/
import Derived.Test.YtbdjppiagjhfmaaWb
import Derived.Test.YtbdjppiagjhfmaaOwn
namespace Go.Proofs.Ytbdjppiagjhfmaa
open Go.RowKit
set_option linter.unusedVariables false

/-- An attribute: its name, its value. -/
structure AT where
  nm : ByteArray
  vl : List Int

/-- The k-th of attributes. -/
def atK (l : List AT) (k : Nat) : AT := l.getD k ⟨⟨#[]⟩, []⟩

/-- Attributes lie at an address. -/
def AAt (w : World) (a : Option Addr) (l : List AT) : Prop :=
  l = [] ∨ ∃ b o, a = some ⟨b, o, none⟩ ∧ b < w.heap.size ∧ ∀ k, k < l.length → w.cell? ⟨b, o + k * 2, none⟩ = some (.string (atK l k).nm) ∧ ∃ p c, w.cell? ⟨b, o + k * 2 + 1, none⟩ = some (.slice p (atK l k).vl.length c) ∧ BAt w p (atK l k).vl

theorem AAt.below {w w' : World} {a : Option Addr} {l : List AT} (h : AAt w a l) (hb : Below w.heap.size w w') : AAt w' a l := by
  rcases h with h | ⟨b, o, e, hs, hc⟩
  · exact .inl h
  · refine .inr ⟨b, o, e, Nat.lt_of_lt_of_le hs hb.size, fun k hk => ?_⟩
    obtain ⟨h1, p, c, h2, h3⟩ := hc k hk
    exact ⟨(hb.cell hs).trans h1, p, c, (hb.cell hs).trans h2, h3.below hb⟩

/-- The bytes of attributes, and their number. -/
def asz : List AT → Nat
  | [] => 0
  | x :: r => x.nm.size + x.vl.length + asz r

theorem asz_take (l : List AT) : ∀ k, k < l.length → asz (l.take (k + 1)) = asz (l.take k) + ((atK l k).nm.size + (atK l k).vl.length) := by
  induction l with
  | nil => intro k h; exact absurd h (Nat.not_lt_zero _)
  | cons x r ih =>
    intro k hk
    cases k with
    | zero => simp [asz, atK]
    | succ k =>
      have := ih k (by simpa using hk)
      simp only [List.take_succ_cons, asz]
      rw [this]
      have e : atK (x :: r) (k + 1) = atK r k := by simp [atK]
      rw [e]; omega

theorem asz_le (l : List AT) (k : Nat) : asz (l.take k) ≤ asz l := by
  induction l generalizing k with
  | nil => simp [asz]
  | cons x r ih =>
    cases k with
    | zero => simp [asz]
    | succ k => simp only [List.take_succ_cons, asz]; have := ih k; omega



theorem szAttr_any (s : ByteArray) (a : Option Addr) (n c : Nat) (l : Int) (w : World) (h0 : 0 ≤ l) (h1 : l ≤ 1048576) (hs : (s.size : Int) ≤ 9223372036854775807) (hn : (n : Int) ≤ 9223372036854775807) :
    Calls Try.prog 114 #[.agg #[.string s, .slice a n c], .int .i64 l] w fun e w' => e = .returned (.int .i64 (if l < (s.size : Int) + n then -1 else l - s.size - n)) ∧ Below w.heap.size w w' := by
  by_cases g1 : l < (s.size : Int)
  · rw [if_pos (by omega)]
    go_enter Try.func114, Try.ntmps114
    go_wp2
    go_ret
    exact ⟨rfl, (Below.refl _ _).alloc (Nat.le_refl _) _⟩
  by_cases g2 : l - (s.size : Int) < n
  · rw [if_pos (by omega)]
    go_enter Try.func114, Try.ntmps114
    go_wp2_with (go_at_call 28; refine (szByteS_any _ _ _ _ _ (by omega) (by omega) (by omega)).mono ?_; rintro e w' ⟨rfl, rfl⟩)
    go_ret
    exact ⟨rfl, (Below.refl _ _).alloc (Nat.le_refl _) _⟩
  · rw [if_neg (by omega)]
    go_enter Try.func114, Try.ntmps114
    go_wp2_with (go_at_call 28; refine (szByteS_any _ _ _ _ _ (by omega) (by omega) (by omega)).mono ?_; rintro e w' ⟨rfl, rfl⟩)
    go_ret
    exact ⟨rfl, (Below.refl _ _).alloc (Nat.le_refl _) _⟩

/-- The widest that a value or a name can be. -/
def Wide (l : List AT) : Prop := ∀ k, k < l.length → ((atK l k).nm.size : Int) ≤ 9223372036854775807 ∧ ((atK l k).vl.length : Int) ≤ 9223372036854775807

set_option maxHeartbeats 800000 in
theorem szAttrS_any (a : Option Addr) (c : Nat) (l : List AT) (z : Int) (w : World) (ha : AAt w a l) (hw : Wide l) (h0 : 0 ≤ z) (h1 : z ≤ 1048576) (hl : (l.length : Int) ≤ 9223372036854775807) :
    Calls Try.prog 107 #[.slice a l.length c, .int .i64 z] w fun e w' => e = .returned (.int .i64 (if z < (l.length : Int) + asz l then -1 else z - l.length - asz l)) ∧ Below w.heap.size w w' := by
  by_cases g1 : z < (l.length : Int)
  · rw [if_pos (by omega)]
    go_enter Try.func107, Try.ntmps107
    go_wp2
    go_ret
    exact ⟨rfl, Below.refl _ _⟩
  have HA := Hid.mk' ha
  have HW := Hid.mk' hw
  clear ha hw
  go_enter Try.func107, Try.ntmps107
  go_wp2
  go_loopw [1, 5] (fun x i wr => ∃ k : Nat, k ≤ l.length ∧ i = .int .i64 k ∧ x = .int .i64 (z - (l.length : Int) - (asz (l.take k) : Int)) ∧ (asz (l.take k) : Int) ≤ z - l.length ∧ Below w.heap.size w wr) (fun _ i _ => l.length - (intOf i).toNat)
  case atStart => exact ⟨0, Nat.zero_le _, rfl, by simp [asz], by simp [asz]; omega, Below.refl _ _⟩
  case round =>
    obtain ⟨k, hk, rfl, rfl, hz, hbl⟩ := hrel
    have HB := Hid.mk' hbl
    clear hbl
    by_cases hlt : k < l.length
    · have ci : (k : Int) < (l.length : Int) := by omega
      rcases HA.out.below HB.out with ha | ⟨b, o, rfl, hbs, hc⟩
      · exact absurd hlt (by rw [ha]; exact Nat.not_lt_zero _)
      obtain ⟨q1, p, d, q2, _⟩ := hc k hlt
      obtain ⟨w1, w2⟩ := HW.out k hlt
      have st := asz_take l k hlt
      have KA := Hid.mk' (szAttr_any (atK l k).nm p (atK l k).vl.length d (z - (l.length : Int) - (asz (l.take k) : Int)) wr (by omega) (by omega) w1 w2)
      generalize hn1 : (atK l k).nm = nm at *
      generalize hn2 : (atK l k).vl.length = n at *
      generalize hy : z - (l.length : Int) - (asz (l.take k) : Int) = y at *
      clear hc
      by_cases g2 : y < (nm.size : Int) + n
      · rw [if_pos g2] at KA
        have gz : z < (l.length : Int) + asz l := by have := asz_le l (k + 1); omega
        go_wp2_with fail
        refine KA.out.mono ?_
        rintro e w1 ⟨rfl, hb⟩
        have HB := Hid.mk' (HB.out.trans (hb.mono HB.out.size))
        clear hb KA
        go_wp2
        go_ret
        exact ⟨by first | rfl | (rw [if_pos gz]; rfl), HB.out⟩
      · rw [if_neg g2] at KA
        have gy : ¬ (y - (nm.size : Int) - n < 0) := by omega
        go_wp2_with fail
        refine KA.out.mono ?_
        rintro e w1 ⟨rfl, hb⟩
        have HB := Hid.mk' (HB.out.trans (hb.mono HB.out.size))
        clear hb KA
        go_wp2
        go_roundw
        case rel => exact ⟨k + 1, by omega, by go_num, by congr 1; omega, by omega, HB.out⟩
        case measure => simp [intOf]; omega
    · have ci : ¬ (k : Int) < (l.length : Int) := by omega
      have e : k = l.length := by omega
      subst e
      rw [List.take_length] at hz
      go_wp2
      go_ret
      exact ⟨by first | rfl | (simp; done) | (rw [if_neg (by omega)]; simp), HB.out⟩

/-- A token. -/
structure TK where
  kd : Int
  by_ : Int
  nm : ByteArray
  at_ : List AT
  sh : Bool

/-- A token's value. -/
def tkV (t : TK) (a : Option Addr) (c : Nat) : Value := .agg #[.int .i64 t.kd, .int .i64 t.by_, .string t.nm, .slice a t.at_.length c, .bool t.sh]

set_option maxHeartbeats 800000 in
theorem szToken_any (t : TK) (a : Option Addr) (c : Nat) (w : World) (ha : AAt w a t.at_) (hw : Wide t.at_) (hn : (t.nm.size : Int) ≤ 9223372036854775807) (hl : (t.at_.length : Int) ≤ 9223372036854775807) :
    Calls Try.prog 93 #[.agg #[.int .i64 t.kd, .int .i64 t.by_, .string t.nm, .slice a t.at_.length c, .bool t.sh], .int .i64 1048576] w fun e w' => e = .returned (.int .i64 (if 1048576 < (t.nm.size : Int) + t.at_.length + asz t.at_ then -1 else 1048576 - t.nm.size - t.at_.length - asz t.at_)) ∧ Below w.heap.size w w' := by
  by_cases g1 : 1048576 < (t.nm.size : Int)
  · rw [if_pos (by omega)]
    go_enter Try.func93, Try.ntmps93
    go_wp2
    go_ret
    exact ⟨rfl, (Below.refl _ _).alloc (Nat.le_refl _) _⟩
  have N0 := below_new w (.cells #[.int .i64 t.kd, .int .i64 t.by_, .string t.nm, .slice a t.at_.length c, .bool t.sh] 132)
  have KA := Hid.mk' (szAttrS_any a c t.at_ (1048576 - (t.nm.size : Int)) _ (ha.below N0) hw (by omega) (by omega) hl)
  have HB := Hid.mk' N0
  clear N0 ha hw
  by_cases g2 : 1048576 - (t.nm.size : Int) < (t.at_.length : Int) + asz t.at_
  · rw [if_pos g2] at KA
    rw [if_pos (by omega)]
    go_enter Try.func93, Try.ntmps93
    go_wp2_with fail
    refine KA.out.mono ?_
    rintro e w1 ⟨rfl, hb⟩
    have HB := Hid.mk' (HB.out.trans (hb.mono HB.out.size))
    clear hb KA
    go_wp2
    go_ret
    exact ⟨rfl, HB.out⟩
  · rw [if_neg g2] at KA
    rw [if_neg (by omega)]
    go_enter Try.func93, Try.ntmps93
    go_wp2_with fail
    refine KA.out.mono ?_
    rintro e w1 ⟨rfl, hb⟩
    have HB := Hid.mk' (HB.out.trans (hb.mono HB.out.size))
    clear hb KA
    have gy : ¬ (1048576 - (t.nm.size : Int) - t.at_.length - asz t.at_ < 0) := by omega
    go_wp2
    go_ret
    exact ⟨rfl, HB.out⟩

end Go.Proofs.Ytbdjppiagjhfmaa
