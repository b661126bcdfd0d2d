/- How much two texts have alike at their beginnings, and at their ends: the program. -/
import Derived.Test.YtmabfeckmklenaaXpn
namespace Go.Proofs.Ytmabfeckmklenaa
open Go.RowKit
set_option linter.unusedVariables false
set_option linter.unusedSimpArgs false

theorem tip_in {l : List Int} {k : Nat} (hk : k < l.length) : tipV l (k : Int) = .agg #[.bool true, .int .u8 (l.getD k 0)] := by
  unfold tipV; rw [if_pos (by omega), Int.toNat_natCast]

theorem tip_rev {l : List Int} {k : Nat} (hk : k < l.length) : tipV l ((l.length : Int) - 1 - (k : Int)) = .agg #[.bool true, .int .u8 (l.reverse.getD k 0)] := by
  rw [show (l.length : Int) - 1 - (k : Int) = ((l.length - 1 - k : Nat) : Int) by omega, tip_in (by omega), rev_at hk]

theorem tip_out {l : List Int} {i : Int} (hk : ¬ (0 ≤ i ∧ i < l.length)) : tipV l i = .agg #[.bool false, .int .u8 0] := by
  unfold tipV; rw [if_neg hk]

set_option maxHeartbeats 3200000 in
theorem sameAhead_any (a b : Option Addr) (c d : Nat) (l m : List Int) (w : World) (ha : BAt w a l) (hb : BAt w b m) (hl : l.length ≤ 1048576) (hm : m.length ≤ 1048576) :
    Calls Try.prog 39 #[.slice a l.length c, .slice b m.length d] w fun e w' => e = .returned (.int .i64 (cpl l m : Int)) ∧ Below w.heap.size w w' := by
  have HA := Hid.mk' ha
  have HB := Hid.mk' hb
  clear ha hb
  generalize hC : cpl l m = A at *
  have T := Hid.mk' hC
  clear hC
  go_enter Try.func39, Try.ntmps39
  go_wp2
  go_loopw [5] (fun x wr => ∃ k : Nat, k ≤ l.length ∧ x = .int .i64 k ∧ k + cpl (l.drop k) (m.drop k) = A ∧ Below w.heap.size w wr) (fun x _ => l.length - (intOf x).toNat)
  case atStart => exact ⟨0, Nat.zero_le _, rfl, by rw [Nat.zero_add]; exact T.out, Below.refl _ _⟩
  case round =>
    obtain ⟨k, hk, rfl, hz, hbl⟩ := hrel
    have HZ := Hid.mk' hz
    have BB := Hid.mk' hbl
    clear hbl hz T
    by_cases hlt : k < l.length
    · have ci : (k : Int) < (l.length : Int) := by omega
      have K1 : Hid (∀ v, Below w.heap.size w v → Calls Try.prog 42 #[.slice a l.length c, .int .i64 (k : Int)] v fun e w' => e = .returned (.agg #[.bool true, .int .u8 (l.getD k 0)]) ∧ Below v.heap.size v w') := Hid.mk' (fun v hv => by
        have := tipAt_any a c l (k : Int) v (HA.out.below hv)
        rwa [tip_in hlt] at this)
      by_cases hlb : k < m.length
      · have K2 : Hid (∀ v, Below w.heap.size w v → Calls Try.prog 42 #[.slice b m.length d, .int .i64 (k : Int)] v fun e w' => e = .returned (.agg #[.bool true, .int .u8 (m.getD k 0)]) ∧ Below v.heap.size v w') := Hid.mk' (fun v hv => by
          have := tipAt_any b d m (k : Int) v (HB.out.below hv)
          rwa [tip_in hlb] at this)
        by_cases he : l.getD k 0 = m.getD k 0
        · have Z := Hid.mk' (cpl_same HZ.out hlt hlb he)
          have Y := Hid.mk' he
          have YE : (l.getD k 0 == m.getD k 0) = true := by rw [beq_iff_eq]; exact he
          clear he
          generalize hx : l.getD k 0 = x at *
          generalize hy : m.getD k 0 = y at *
          go_wp2_with (first | (go_at_call 42; with_reducible refine (K1.out _ BB.out).mono ?_; rintro e w1 ⟨rfl, hb1⟩; have BB1 := BB.out.trans (hb1.mono BB.out.size)) | (go_at_call 42; with_reducible refine (K2.out _ BB1).mono ?_; rintro e w2 ⟨rfl, hb2⟩; have BB2 := BB1.trans (hb2.mono BB1.size)))
          exact ⟨⟨k + 1, by omega, by go_num, Z.out, BB2⟩, by simp [intOf]; omega⟩
        · have Z := Hid.mk' (cpl_other HZ.out hlt hlb he)
          have YE : (l.getD k 0 == m.getD k 0) = false := by rw [beq_eq_false_iff_ne]; exact he
          clear he
          generalize hx : l.getD k 0 = x at *
          generalize hy : m.getD k 0 = y at *
          go_wp2_with (first | (go_at_call 42; with_reducible refine (K1.out _ BB.out).mono ?_; rintro e w1 ⟨rfl, hb1⟩; have BB1 := BB.out.trans (hb1.mono BB.out.size)) | (go_at_call 42; with_reducible refine (K2.out _ BB1).mono ?_; rintro e w2 ⟨rfl, hb2⟩; have BB2 := BB1.trans (hb2.mono BB1.size)))
          go_ret
          exact ⟨by rw [Z.out]; rfl, BB2⟩
      · have K2 : Hid (∀ v, Below w.heap.size w v → Calls Try.prog 42 #[.slice b m.length d, .int .i64 (k : Int)] v fun e w' => e = .returned (.agg #[.bool false, .int .u8 0]) ∧ Below v.heap.size v w') := Hid.mk' (fun v hv => by
          have := tipAt_any b d m (k : Int) v (HB.out.below hv)
          rwa [tip_out (by omega)] at this)
        have Z := Hid.mk' (cpl_out HZ.out (.inr (hlb)))
        generalize hx : l.getD k 0 = x at *
        go_wp2_with (first | (go_at_call 42; with_reducible refine (K1.out _ BB.out).mono ?_; rintro e w1 ⟨rfl, hb1⟩; have BB1 := BB.out.trans (hb1.mono BB.out.size)) | (go_at_call 42; with_reducible refine (K2.out _ BB1).mono ?_; rintro e w2 ⟨rfl, hb2⟩; have BB2 := BB1.trans (hb2.mono BB1.size)))
        go_ret
        exact ⟨by rw [Z.out]; rfl, BB2⟩
    · have ci : ¬ (k : Int) < (l.length : Int) := by omega
      have Z := Hid.mk' (cpl_out HZ.out (.inl (hlt)))
      go_wp2_with go_big_skip
      go_ret
      exact ⟨by rw [Z.out]; rfl, BB.out⟩

set_option maxHeartbeats 3200000 in
theorem sameBehind_any (a b : Option Addr) (c d : Nat) (l m : List Int) (w : World) (ha : BAt w a l) (hb : BAt w b m) (hl : l.length ≤ 1048576) (hm : m.length ≤ 1048576) :
    Calls Try.prog 40 #[.slice a l.length c, .slice b m.length d] w fun e w' => e = .returned (.int .i64 (cpl l.reverse m.reverse : Int)) ∧ Below w.heap.size w w' := by
  have HA := Hid.mk' ha
  have HB := Hid.mk' hb
  clear ha hb
  generalize hC : cpl l.reverse m.reverse = A at *
  have T := Hid.mk' hC
  clear hC
  go_enter Try.func40, Try.ntmps40
  go_wp2
  go_loopw [5] (fun x wr => ∃ k : Nat, k ≤ l.length ∧ x = .int .i64 k ∧ k + cpl (l.reverse.drop k) (m.reverse.drop k) = A ∧ Below w.heap.size w wr) (fun x _ => l.length - (intOf x).toNat)
  case atStart => exact ⟨0, Nat.zero_le _, rfl, by rw [Nat.zero_add]; exact T.out, Below.refl _ _⟩
  case round =>
    obtain ⟨k, hk, rfl, hz, hbl⟩ := hrel
    have HZ := Hid.mk' hz
    have BB := Hid.mk' hbl
    clear hbl hz T
    by_cases hlt : k < l.length
    · have ci : (k : Int) < (l.length : Int) := by omega
      have w1 : IntKind.i64.wrap ((l.length : Int) - 1) = (l.length : Int) - 1 := by rw [IntKind.wrap_i64]; omega
      have w2 : IntKind.i64.wrap ((l.length : Int) - 1 - (k : Int)) = (l.length : Int) - 1 - (k : Int) := by rw [IntKind.wrap_i64]; omega
      have w3 : IntKind.i64.wrap ((m.length : Int) - 1) = (m.length : Int) - 1 := by rw [IntKind.wrap_i64]; omega
      have w4 : IntKind.i64.wrap ((m.length : Int) - 1 - (k : Int)) = (m.length : Int) - 1 - (k : Int) := by rw [IntKind.wrap_i64]; omega
      have K1 : Hid (∀ v, Below w.heap.size w v → Calls Try.prog 42 #[.slice a l.length c, .int .i64 ((l.length : Int) - 1 - (k : Int))] v fun e w' => e = .returned (.agg #[.bool true, .int .u8 (l.reverse.getD k 0)]) ∧ Below v.heap.size v w') := Hid.mk' (fun v hv => by
        have := tipAt_any a c l ((l.length : Int) - 1 - (k : Int)) v (HA.out.below hv)
        rwa [tip_rev hlt] at this)
      by_cases hlb : k < m.length
      · have K2 : Hid (∀ v, Below w.heap.size w v → Calls Try.prog 42 #[.slice b m.length d, .int .i64 ((m.length : Int) - 1 - (k : Int))] v fun e w' => e = .returned (.agg #[.bool true, .int .u8 (m.reverse.getD k 0)]) ∧ Below v.heap.size v w') := Hid.mk' (fun v hv => by
          have := tipAt_any b d m ((m.length : Int) - 1 - (k : Int)) v (HB.out.below hv)
          rwa [tip_rev hlb] at this)
        by_cases he : l.reverse.getD k 0 = m.reverse.getD k 0
        · have Z := Hid.mk' (cpl_same HZ.out (by rw [List.length_reverse]; exact hlt) (by rw [List.length_reverse]; exact hlb) he)
          have Y := Hid.mk' he
          have YE : (l.reverse.getD k 0 == m.reverse.getD k 0) = true := by rw [beq_iff_eq]; exact he
          clear he
          generalize hx : l.reverse.getD k 0 = x at *
          generalize hy : m.reverse.getD k 0 = y at *
          go_wp2_with (first | (go_at_call 42; with_reducible refine (K1.out _ BB.out).mono ?_; rintro e w1 ⟨rfl, hb1⟩; have BB1 := BB.out.trans (hb1.mono BB.out.size)) | (go_at_call 42; with_reducible refine (K2.out _ BB1).mono ?_; rintro e w2 ⟨rfl, hb2⟩; have BB2 := BB1.trans (hb2.mono BB1.size)))
          exact ⟨⟨k + 1, by omega, by go_num, Z.out, BB2⟩, by simp [intOf]; omega⟩
        · have Z := Hid.mk' (cpl_other HZ.out (by rw [List.length_reverse]; exact hlt) (by rw [List.length_reverse]; exact hlb) he)
          have YE : (l.reverse.getD k 0 == m.reverse.getD k 0) = false := by rw [beq_eq_false_iff_ne]; exact he
          clear he
          generalize hx : l.reverse.getD k 0 = x at *
          generalize hy : m.reverse.getD k 0 = y at *
          go_wp2_with (first | (go_at_call 42; with_reducible refine (K1.out _ BB.out).mono ?_; rintro e w1 ⟨rfl, hb1⟩; have BB1 := BB.out.trans (hb1.mono BB.out.size)) | (go_at_call 42; with_reducible refine (K2.out _ BB1).mono ?_; rintro e w2 ⟨rfl, hb2⟩; have BB2 := BB1.trans (hb2.mono BB1.size)))
          go_ret
          exact ⟨by rw [Z.out]; rfl, BB2⟩
      · have K2 : Hid (∀ v, Below w.heap.size w v → Calls Try.prog 42 #[.slice b m.length d, .int .i64 ((m.length : Int) - 1 - (k : Int))] v fun e w' => e = .returned (.agg #[.bool false, .int .u8 0]) ∧ Below v.heap.size v w') := Hid.mk' (fun v hv => by
          have := tipAt_any b d m ((m.length : Int) - 1 - (k : Int)) v (HB.out.below hv)
          rwa [tip_out (by omega)] at this)
        have Z := Hid.mk' (cpl_out HZ.out (.inr (by rw [List.length_reverse]; exact hlb)))
        generalize hx : l.reverse.getD k 0 = x at *
        go_wp2_with (first | (go_at_call 42; with_reducible refine (K1.out _ BB.out).mono ?_; rintro e w1 ⟨rfl, hb1⟩; have BB1 := BB.out.trans (hb1.mono BB.out.size)) | (go_at_call 42; with_reducible refine (K2.out _ BB1).mono ?_; rintro e w2 ⟨rfl, hb2⟩; have BB2 := BB1.trans (hb2.mono BB1.size)))
        go_ret
        exact ⟨by rw [Z.out]; rfl, BB2⟩
    · have ci : ¬ (k : Int) < (l.length : Int) := by omega
      have Z := Hid.mk' (cpl_out HZ.out (.inl (by rw [List.length_reverse]; exact hlt)))
      go_wp2_with go_big_skip
      go_ret
      exact ⟨by rw [Z.out]; rfl, BB.out⟩

end Go.Proofs.Ytmabfeckmklenaa
