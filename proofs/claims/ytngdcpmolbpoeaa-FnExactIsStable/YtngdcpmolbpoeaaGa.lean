/- Lists of nodes that lie in memory; their sizes. -/
import Derived.Test.YtngdcpmolbpoeaaTi
import Derived.Test.YtngdcpmolbpoeaaGm
import Derived.Test.YtngdcpmolbpoeaaGv
namespace Go.Proofs.Ytngdcpmolbpoeaa
open Go.RowKit
set_option linter.unusedVariables false
set_option linter.unusedSimpArgs false

/-- A node. -/
structure ND where
  up : Int
  tg : ByteArray
  at_ : List AT
  tx : List Int

/-- The k-th of nodes. -/
def ndK (l : List ND) (k : Nat) : ND := l.getD k ⟨0, ⟨#[]⟩, [], []⟩

/-- Nodes lie at an address. -/
def NsAt (w : World) (a : Option Addr) (l : List ND) : Prop :=
  l = [] ∨ ∃ b o, a = some ⟨b, o, none⟩ ∧ b < w.heap.size ∧ ∀ k, k < l.length → w.cell? ⟨b, o + k * 4, none⟩ = some (.int .i64 (ndK l k).up) ∧ w.cell? ⟨b, o + k * 4 + 1, none⟩ = some (.string (ndK l k).tg) ∧ (∃ p c, w.cell? ⟨b, o + k * 4 + 2, none⟩ = some (.slice p (ndK l k).at_.length c) ∧ (ndK l k).at_.length ≤ c ∧ AAt w p (ndK l k).at_) ∧ (∃ p c, w.cell? ⟨b, o + k * 4 + 3, none⟩ = some (.slice p (ndK l k).tx.length c) ∧ BAt w p (ndK l k).tx)

theorem NsAt.below {w w' : World} {a : Option Addr} {l : List ND} (h : NsAt w a l) (hb : Below w.heap.size w w') : NsAt w' a l := by
  rcases h with h | ⟨b, o, e, hs, hc⟩
  · exact .inl h
  · refine .inr ⟨b, o, e, Nat.lt_of_lt_of_le hs hb.size, fun k hk => ?_⟩
    obtain ⟨h1, h2, ⟨p, c, h3, h4, h5⟩, ⟨p', c', h6, h7⟩⟩ := hc k hk
    exact ⟨(hb.cell hs).trans h1, (hb.cell hs).trans h2, ⟨p, c, (hb.cell hs).trans h3, h4, h5.below hb⟩, ⟨p', c', (hb.cell hs).trans h6, h7.below hb⟩⟩

/-- The size of a node, and of nodes. -/
def nsz (t : ND) : Nat := t.tg.size + t.at_.length + asz t.at_ + t.tx.length
def nssz : List ND → Nat
  | [] => 0
  | x :: r => nsz x + nssz r

theorem nssz_take (l : List ND) : ∀ k, k < l.length → nssz (l.take (k + 1)) = nssz (l.take k) + nsz (ndK l k) := by
  induction l with
  | nil => intro k h; exact absurd h (Nat.not_lt_zero _)
  | cons x r ih =>
    intro k hk
    cases k with
    | zero => simp [nssz, ndK]
    | succ k =>
      have := ih k (by simpa using hk)
      simp only [List.take_succ_cons, nssz]
      rw [this]
      have e : ndK (x :: r) (k + 1) = ndK r k := by simp [ndK]
      rw [e]; omega

theorem nssz_le (l : List ND) (k : Nat) : nssz (l.take k) ≤ nssz l := by
  induction l generalizing k with
  | nil => simp [nssz]
  | cons x r ih =>
    cases k with
    | zero => simp [nssz]
    | succ k => simp only [List.take_succ_cons, nssz]; have := ih k; omega

theorem nssz_at {l : List ND} {k : Nat} (h : k < l.length) : nsz (ndK l k) ≤ nssz l := by
  have h1 := nssz_take l k h
  have h2 := nssz_le l (k + 1)
  omega

set_option maxHeartbeats 800000 in
theorem szNode_gen (t : ND) (a p : Option Addr) (c d : Nat) (z : Int) (w : World) (ha : AAt w a t.at_) (hw : Wide t.at_) (hn : (t.tg.size : Int) ≤ 9223372036854775807) (hl : (t.at_.length : Int) ≤ 9223372036854775807) (hx : (t.tx.length : Int) ≤ 9223372036854775807) (h0 : 0 ≤ z) (h1 : z ≤ 1048576) :
    Calls Try.prog 13 #[.agg #[.int .i64 t.up, .string t.tg, .slice a t.at_.length c, .slice p t.tx.length d], .int .i64 z] w fun e w' => e = .returned (.int .i64 (if z < (nsz t : Int) then -1 else z - nsz t)) ∧ Below w.heap.size w w' := by
  unfold nsz
  by_cases g1 : z < (t.tg.size : Int)
  · rw [if_pos (by omega)]
    go_enter Try.func13, Try.ntmps13
    go_wp2
    go_ret
    exact ⟨rfl, (Below.refl _ _).alloc (Nat.le_refl _) _⟩
  have N0 := below_new w (.cells #[.int .i64 t.up, .string t.tg, .slice a t.at_.length c, .slice p t.tx.length d] 38)
  have KA := Hid.mk' (szAttrS_any a c t.at_ (z - (t.tg.size : Int)) _ (ha.below N0) hw (by omega) (by omega) hl)
  have HP := Hid.mk' (row4 w 38 (.int .i64 t.up) (.string t.tg) (.slice a t.at_.length c) (.slice p t.tx.length d))
  have HB := Hid.mk' N0
  clear N0 ha hw
  by_cases g2 : z - (t.tg.size : Int) < (t.at_.length : Int) + asz t.at_
  · rw [if_pos g2] at KA
    rw [if_pos (by omega)]
    go_enter Try.func13, Try.ntmps13
    go_wp2_with fail
    refine KA.out.mono ?_
    rintro e w1 ⟨rfl, hb⟩
    have HB := Hid.mk' (HB.out.trans (hb.mono HB.out.size))
    clear hb KA
    go_wp2
    go_ret
    exact ⟨rfl, HB.out⟩
  · rw [if_neg g2] at KA
    have gy : ¬ (z - (t.tg.size : Int) - t.at_.length - asz t.at_ < 0) := by omega
    by_cases g3 : z - (t.tg.size : Int) - t.at_.length - asz t.at_ < (t.tx.length : Int)
    · rw [if_pos (by omega)]
      go_enter Try.func13, Try.ntmps13
      go_wp2_with fail
      refine KA.out.mono ?_
      rintro e w1 ⟨rfl, hb⟩
      obtain ⟨c0, c1, c2, c3, c4⟩ := cells4 (rowB HP.out hb)
      have HB := Hid.mk' (HB.out.trans (hb.mono HB.out.size))
      clear hb KA
      go_wp2_with (go_at_call 23; refine (szByteS_any _ _ _ _ _ (by omega) (by omega) (by omega)).mono ?_; rintro e w' ⟨rfl, rfl⟩)
      go_ret
      exact ⟨rfl, HB.out⟩
    · rw [if_neg (by omega)]
      go_enter Try.func13, Try.ntmps13
      go_wp2_with fail
      refine KA.out.mono ?_
      rintro e w1 ⟨rfl, hb⟩
      obtain ⟨c0, c1, c2, c3, c4⟩ := cells4 (rowB HP.out hb)
      have HB := Hid.mk' (HB.out.trans (hb.mono HB.out.size))
      clear hb KA
      go_wp2_with (go_at_call 23; refine (szByteS_any _ _ _ _ _ (by omega) (by omega) (by omega)).mono ?_; rintro e w' ⟨rfl, rfl⟩)
      go_ret
      exact ⟨by congr 2; simp; omega, HB.out⟩

/-- Nothing in them is wider than a machine's. -/
def WideN (l : List ND) : Prop := ∀ k, k < l.length → Wide (ndK l k).at_ ∧ ((ndK l k).tg.size : Int) ≤ 9223372036854775807 ∧ ((ndK l k).at_.length : Int) ≤ 9223372036854775807 ∧ ((ndK l k).tx.length : Int) ≤ 9223372036854775807

set_option maxHeartbeats 1600000 in
theorem szNodeS_any (a : Option Addr) (c : Nat) (l : List ND) (z : Int) (w : World) (ha : NsAt w a l) (hw : WideN l) (h0 : 0 ≤ z) (h1 : z ≤ 1048576) (hl : (l.length : Int) ≤ 9223372036854775807) :
    Calls Try.prog 5 #[.slice a l.length c, .int .i64 z] w fun e w' => e = .returned (.int .i64 (if z < (l.length : Int) + nssz l then -1 else z - l.length - nssz l)) ∧ Below w.heap.size w w' := by
  by_cases g1 : z < (l.length : Int)
  · rw [if_pos (by omega)]
    go_enter Try.func5, Try.ntmps5
    go_wp2
    go_ret
    exact ⟨rfl, Below.refl _ _⟩
  have HA := Hid.mk' ha
  have HW := Hid.mk' hw
  clear ha hw
  go_enter Try.func5, Try.ntmps5
  go_wp2
  go_loopw [1, 5] (fun x i wr => ∃ k : Nat, k ≤ l.length ∧ i = .int .i64 k ∧ x = .int .i64 (z - (l.length : Int) - (nssz (l.take k) : Int)) ∧ (nssz (l.take k) : Int) ≤ z - l.length ∧ Below w.heap.size w wr) (fun _ i _ => l.length - (intOf i).toNat)
  case atStart => exact ⟨0, Nat.zero_le _, rfl, by simp [nssz], by simp [nssz]; omega, Below.refl _ _⟩
  case round =>
    obtain ⟨k, hk, rfl, rfl, hz, hbl⟩ := hrel
    have HB := Hid.mk' hbl
    clear hbl
    by_cases hlt : k < l.length
    · have ci : (k : Int) < (l.length : Int) := by omega
      rcases HA.out.below HB.out with ha | ⟨b, o, rfl, hbs, hc⟩
      · exact absurd hlt (by rw [ha]; exact Nat.not_lt_zero _)
      obtain ⟨q1, q2, ⟨p, d, q3, _, q4⟩, ⟨p', d', q5, _⟩⟩ := hc k hlt
      obtain ⟨w1, w2, w3, w4⟩ := HW.out k hlt
      have st := nssz_take l k hlt
      have KA := Hid.mk' (szNode_gen (ndK l k) p p' d d' (z - (l.length : Int) - (nssz (l.take k) : Int)) wr q4 w1 w2 w3 w4 (by omega) (by omega))
      generalize hy : z - (l.length : Int) - (nssz (l.take k) : Int) = y at *
      clear hc q4
      by_cases g2 : y < (nsz (ndK l k) : Int)
      · rw [if_pos g2] at KA
        have gz : z < (l.length : Int) + nssz l := by have := nssz_le l (k + 1); omega
        go_wp2_with fail
        refine KA.out.mono ?_
        rintro e w1 ⟨rfl, hb⟩
        have HB := Hid.mk' (HB.out.trans (hb.mono HB.out.size))
        clear hb KA
        go_wp2
        go_ret
        exact ⟨by first | rfl | (rw [if_pos gz]; rfl), HB.out⟩
      · rw [if_neg g2] at KA
        have gy : ¬ (y - (nsz (ndK l k) : Int) < 0) := by omega
        go_wp2_with fail
        refine KA.out.mono ?_
        rintro e w1 ⟨rfl, hb⟩
        have HB := Hid.mk' (HB.out.trans (hb.mono HB.out.size))
        clear hb KA
        go_wp2
        go_roundw
        case rel => exact ⟨k + 1, by omega, by go_num, by congr 1; omega, by omega, HB.out⟩
        case measure => simp [intOf]; omega
    · have ci : ¬ (k : Int) < (l.length : Int) := by omega
      have e : k = l.length := by omega
      subst e
      rw [List.take_length] at hz
      go_wp2
      go_ret
      exact ⟨by first | rfl | (simp; done) | (rw [if_neg (by omega)]; simp), HB.out⟩

end Go.Proofs.Ytngdcpmolbpoeaa
