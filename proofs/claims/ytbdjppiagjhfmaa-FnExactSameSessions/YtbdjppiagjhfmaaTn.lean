/- Lists of tokens that lie in memory; their sizes; they are copied, and told to be the same. -/
import Derived.Test.YtbdjppiagjhfmaaV4
namespace Go.Proofs.Ytbdjppiagjhfmaa
open Go.RowKit
set_option linter.unusedVariables false
set_option linter.unusedSimpArgs false

/-- The k-th of tokens. -/
def tkK (l : List TK) (k : Nat) : TK := l.getD k ⟨0, 0, ⟨#[]⟩, [], false⟩

/-- Tokens lie at an address. -/
def TsAt (w : World) (a : Option Addr) (l : List TK) : Prop :=
  l = [] ∨ ∃ b o, a = some ⟨b, o, none⟩ ∧ b < w.heap.size ∧ ∀ k, k < l.length → w.cell? ⟨b, o + k * 5, none⟩ = some (.int .i64 (tkK l k).kd) ∧ w.cell? ⟨b, o + k * 5 + 1, none⟩ = some (.int .i64 (tkK l k).by_) ∧ w.cell? ⟨b, o + k * 5 + 2, none⟩ = some (.string (tkK l k).nm) ∧ (∃ p c, w.cell? ⟨b, o + k * 5 + 3, none⟩ = some (.slice p (tkK l k).at_.length c) ∧ AAt w p (tkK l k).at_) ∧ w.cell? ⟨b, o + k * 5 + 4, none⟩ = some (.bool (tkK l k).sh)

theorem TsAt.below {w w' : World} {a : Option Addr} {l : List TK} (h : TsAt w a l) (hb : Below w.heap.size w w') : TsAt w' a l := by
  rcases h with h | ⟨b, o, e, hs, hc⟩
  · exact .inl h
  · refine .inr ⟨b, o, e, Nat.lt_of_lt_of_le hs hb.size, fun k hk => ?_⟩
    obtain ⟨h1, h2, h3, ⟨p, c, h4, h5⟩, h6⟩ := hc k hk
    exact ⟨(hb.cell hs).trans h1, (hb.cell hs).trans h2, (hb.cell hs).trans h3, ⟨p, c, (hb.cell hs).trans h4, h5.below hb⟩, (hb.cell hs).trans h6⟩

/-- The size of a token, and of tokens. -/
def tsz (t : TK) : Nat := t.nm.size + t.at_.length + asz t.at_
def tssz : List TK → Nat
  | [] => 0
  | x :: r => tsz x + tssz r

theorem tssz_take (l : List TK) : ∀ k, k < l.length → tssz (l.take (k + 1)) = tssz (l.take k) + tsz (tkK l k) := by
  induction l with
  | nil => intro k h; exact absurd h (Nat.not_lt_zero _)
  | cons x r ih =>
    intro k hk
    cases k with
    | zero => simp [tssz, tkK]
    | succ k =>
      have := ih k (by simpa using hk)
      simp only [List.take_succ_cons, tssz]
      rw [this]
      have e : tkK (x :: r) (k + 1) = tkK r k := by simp [tkK]
      rw [e]; omega

theorem tssz_le (l : List TK) (k : Nat) : tssz (l.take k) ≤ tssz l := by
  induction l generalizing k with
  | nil => simp [tssz]
  | cons x r ih =>
    cases k with
    | zero => simp [tssz]
    | succ k => simp only [List.take_succ_cons, tssz]; have := ih k; omega

set_option maxHeartbeats 800000 in
theorem szToken_gen (t : TK) (a : Option Addr) (c : Nat) (z : Int) (w : World) (ha : AAt w a t.at_) (hw : Wide t.at_) (hn : (t.nm.size : Int) ≤ 9223372036854775807) (hl : (t.at_.length : Int) ≤ 9223372036854775807) (h0 : 0 ≤ z) (h1 : z ≤ 1048576) :
    Calls Try.prog 93 #[.agg #[.int .i64 t.kd, .int .i64 t.by_, .string t.nm, .slice a t.at_.length c, .bool t.sh], .int .i64 z] w fun e w' => e = .returned (.int .i64 (if z < (tsz t : Int) then -1 else z - tsz t)) ∧ Below w.heap.size w w' := by
  unfold tsz
  by_cases g1 : z < (t.nm.size : Int)
  · rw [if_pos (by omega)]
    go_enter Try.func93, Try.ntmps93
    go_wp2
    go_ret
    exact ⟨rfl, (Below.refl _ _).alloc (Nat.le_refl _) _⟩
  have N0 := below_new w (.cells #[.int .i64 t.kd, .int .i64 t.by_, .string t.nm, .slice a t.at_.length c, .bool t.sh] 132)
  have KA := Hid.mk' (szAttrS_any a c t.at_ (z - (t.nm.size : Int)) _ (ha.below N0) hw (by omega) (by omega) hl)
  have HB := Hid.mk' N0
  clear N0 ha hw
  by_cases g2 : z - (t.nm.size : Int) < (t.at_.length : Int) + asz t.at_
  · rw [if_pos g2] at KA
    rw [if_pos (by omega)]
    go_enter Try.func93, Try.ntmps93
    go_wp2_with fail
    refine KA.out.mono ?_
    rintro e w1 ⟨rfl, hb⟩
    have HB := Hid.mk' (HB.out.trans (hb.mono HB.out.size))
    clear hb KA
    go_wp2
    go_ret
    exact ⟨rfl, HB.out⟩
  · rw [if_neg g2] at KA
    rw [if_neg (by omega)]
    go_enter Try.func93, Try.ntmps93
    go_wp2_with fail
    refine KA.out.mono ?_
    rintro e w1 ⟨rfl, hb⟩
    have HB := Hid.mk' (HB.out.trans (hb.mono HB.out.size))
    clear hb KA
    have gy : ¬ (z - (t.nm.size : Int) - t.at_.length - asz t.at_ < 0) := by omega
    go_wp2
    go_ret
    exact ⟨by congr 2; simp; omega, HB.out⟩

/-- Nothing in them is wider than a machine's. -/
def WideT (l : List TK) : Prop := ∀ k, k < l.length → Wide (tkK l k).at_ ∧ ((tkK l k).nm.size : Int) ≤ 9223372036854775807 ∧ ((tkK l k).at_.length : Int) ≤ 9223372036854775807

set_option maxHeartbeats 1600000 in
theorem szTokenS_any (a : Option Addr) (c : Nat) (l : List TK) (z : Int) (w : World) (ha : TsAt w a l) (hw : WideT l) (h0 : 0 ≤ z) (h1 : z ≤ 1048576) (hl : (l.length : Int) ≤ 9223372036854775807) :
    Calls Try.prog 72 #[.slice a l.length c, .int .i64 z] w fun e w' => e = .returned (.int .i64 (if z < (l.length : Int) + tssz l then -1 else z - l.length - tssz l)) ∧ Below w.heap.size w w' := by
  by_cases g1 : z < (l.length : Int)
  · rw [if_pos (by omega)]
    go_enter Try.func72, Try.ntmps72
    go_wp2
    go_ret
    exact ⟨rfl, Below.refl _ _⟩
  have HA := Hid.mk' ha
  have HW := Hid.mk' hw
  clear ha hw
  go_enter Try.func72, Try.ntmps72
  go_wp2
  go_loopw [1, 5] (fun x i wr => ∃ k : Nat, k ≤ l.length ∧ i = .int .i64 k ∧ x = .int .i64 (z - (l.length : Int) - (tssz (l.take k) : Int)) ∧ (tssz (l.take k) : Int) ≤ z - l.length ∧ Below w.heap.size w wr) (fun _ i _ => l.length - (intOf i).toNat)
  case atStart => exact ⟨0, Nat.zero_le _, rfl, by simp [tssz], by simp [tssz]; omega, Below.refl _ _⟩
  case round =>
    obtain ⟨k, hk, rfl, rfl, hz, hbl⟩ := hrel
    have HB := Hid.mk' hbl
    clear hbl
    by_cases hlt : k < l.length
    · have ci : (k : Int) < (l.length : Int) := by omega
      rcases HA.out.below HB.out with ha | ⟨b, o, rfl, hbs, hc⟩
      · exact absurd hlt (by rw [ha]; exact Nat.not_lt_zero _)
      obtain ⟨q1, q2, q3, ⟨p, d, q4, q5⟩, q6⟩ := hc k hlt
      obtain ⟨w1, w2, w3⟩ := HW.out k hlt
      have st := tssz_take l k hlt
      have KA := Hid.mk' (szToken_gen (tkK l k) p d (z - (l.length : Int) - (tssz (l.take k) : Int)) wr q5 w1 w2 w3 (by omega) (by omega))
      generalize hy : z - (l.length : Int) - (tssz (l.take k) : Int) = y at *
      clear hc q5
      by_cases g2 : y < (tsz (tkK l k) : Int)
      · rw [if_pos g2] at KA
        have gz : z < (l.length : Int) + tssz l := by have := tssz_le l (k + 1); omega
        go_wp2_with fail
        refine KA.out.mono ?_
        rintro e w1 ⟨rfl, hb⟩
        have HB := Hid.mk' (HB.out.trans (hb.mono HB.out.size))
        clear hb KA
        go_wp2
        go_ret
        exact ⟨by first | rfl | (rw [if_pos gz]; rfl), HB.out⟩
      · rw [if_neg g2] at KA
        have gy : ¬ (y - (tsz (tkK l k) : Int) < 0) := by omega
        go_wp2_with fail
        refine KA.out.mono ?_
        rintro e w1 ⟨rfl, hb⟩
        have HB := Hid.mk' (HB.out.trans (hb.mono HB.out.size))
        clear hb KA
        go_wp2
        go_roundw
        case rel => exact ⟨k + 1, by omega, by go_num, by congr 1; omega, by omega, HB.out⟩
        case measure => simp [intOf]; omega
    · have ci : ¬ (k : Int) < (l.length : Int) := by omega
      have e : k = l.length := by omega
      subst e
      rw [List.take_length] at hz
      go_wp2
      go_ret
      exact ⟨by first | rfl | (simp; done) | (rw [if_neg (by omega)]; simp), HB.out⟩

end Go.Proofs.Ytbdjppiagjhfmaa
