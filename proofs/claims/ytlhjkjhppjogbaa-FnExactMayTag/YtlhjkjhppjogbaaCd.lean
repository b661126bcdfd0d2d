/- Dropped tags; whether a list of texts has one; the lists of words that are safe: both sides. -/
import Derived.Test.YtlhjkjhppjogbaaCa
namespace Go.Proofs.Ytlhjkjhppjogbaa
open Go.RowKit
set_option linter.unusedVariables false
set_option linter.unusedSimpArgs false

/-- script or style. -/
def dropB (s : ByteArray) : Bool := (s.toList == [115, 99, 114, 105, 112, 116]) || (s.toList == [115, 116, 121, 108, 101])

theorem l8Dropped_any (s : ByteArray) (w : World) :
    Calls Try.prog 33 #[.string s] w fun e w' => e = .returned (.bool (dropB s)) ∧ w' = w := by
  cases h1 : (s.toList == [115, 99, 114, 105, 112, 116])
  · cases h2 : (s.toList == [115, 116, 121, 108, 101])
    all_goals go_enter Try.func33, Try.ntmps33
    all_goals go_wp2
    all_goals go_ret
    all_goals exact ⟨by simp [dropB, h1, h2], rfl⟩
  · go_enter Try.func33, Try.ntmps33
    go_wp2
    go_ret
    exact ⟨by simp [dropB, h1], rfl⟩

theorem implDropped_any (s : ByteArray) (w : World) :
    Calls Try.prog 20 #[.string s] w fun e w' => e = .returned (.bool (dropB s)) ∧ w' = w := by
  cases h1 : (s.toList == [115, 99, 114, 105, 112, 116])
  · cases h2 : (s.toList == [115, 116, 121, 108, 101])
    all_goals go_enter Try.func20, Try.ntmps20
    all_goals go_wp2
    all_goals go_ret
    all_goals exact ⟨by simp [dropB, h1, h2], rfl⟩
  · go_enter Try.func20, Try.ntmps20
    go_wp2
    go_ret
    exact ⟨by simp [dropB, h1], rfl⟩

theorem specDropped_any (s : ByteArray) (w : World) :
    Calls Try.prog 19 #[.string s] w fun e w' => e = .returned (.bool (dropB s)) ∧ w' = w := by
  have K := Hid.mk' (l8Dropped_any s w)
  go_enter Try.func19, Try.ntmps19
  go_wp2_with fail
  refine K.out.mono ?_
  rintro e w1 ⟨rfl, rfl⟩
  go_wp2
  go_ret
  exact ⟨rfl, rfl⟩

/-- The law on IsDropped. -/
theorem lawIsDropped_any (s : ByteArray) (w : World) (hm : (s.size : Int) ≤ 9223372036854775807) :
    Calls Try.prog 6 #[.string s] w fun e w' => e = .returned (.bool true) ∧ Below w.heap.size w w' := by
  have KI := Hid.mk' (implDropped_any s w)
  have KS := Hid.mk' (specDropped_any s w)
  go_enter Try.func6, Try.ntmps6
  by_cases hl : (s.size : Int) > 1048576
  · go_wp2
    go_ret
    exact ⟨rfl, Below.refl _ _⟩
  · go_wp2_with fail
    refine KS.out.mono ?_
    rintro e w1 ⟨rfl, rfl⟩
    go_wp2_with fail
    refine KI.out.mono ?_
    rintro e w1 ⟨rfl, rfl⟩
    go_wp2
    go_ret
    exact ⟨by simp, Below.refl _ _⟩

/-- A list of texts has one. -/
def hasL (l : List ByteArray) (s : ByteArray) : Bool := l.any (fun x => x.toList == s.toList)

theorem hasL_take {l : List ByteArray} {s : ByteArray} {k : Nat} (hk : k < l.length) : hasL (l.take (k + 1)) s = (hasL (l.take k) s || ((sK l k).toList == s.toList)) := by
  have e : l.take (k + 1) = l.take k ++ [sK l k] := by
    rw [List.take_succ_eq_append_getElem hk]
    simp [sK, hk]
  unfold hasL
  rw [e, List.any_append]
  simp

theorem hasL_true {l : List ByteArray} {s : ByteArray} {k : Nat} (hk : k < l.length) (h : ((sK l k).toList == s.toList) = true) : hasL l s = true := by
  unfold hasL
  rw [List.any_eq_true]
  exact ⟨l[k], List.getElem_mem hk, by have e : sK l k = l[k] := by simp [sK, hk]
                                       rw [← e]; exact h⟩

set_option maxHeartbeats 800000 in
theorem l8Has_any (a : Option Addr) (c : Nat) (l : List ByteArray) (s : ByteArray) (w : World) (ha : StAt w a l) (hl : (l.length : Int) ≤ 1048576) :
    Calls Try.prog 37 #[.slice a l.length c, .string s] w fun e w' => e = .returned (.bool (hasL l s)) ∧ w' = w := by
  have HA := Hid.mk' ha
  clear ha
  go_enter Try.func37, Try.ntmps37
  go_wp2
  go_loop [5] (fun i => ∃ k : Nat, k ≤ l.length ∧ i = .int .i64 k ∧ hasL (l.take k) s = false) (fun i => l.length - (intOf i).toNat)
  case atStart => exact ⟨0, Nat.zero_le _, rfl, rfl⟩
  case round =>
    obtain ⟨k, hk, rfl, hf⟩ := hrel
    have HF := Hid.mk' hf
    clear hf
    by_cases hlt : k < l.length
    · have ci : (k : Int) < (l.length : Int) := by omega
      rcases HA.out with ha | ⟨b, o, rfl, hbs, hc⟩
      · exact absurd hlt (by rw [ha]; exact Nat.not_lt_zero _)
      have h1 := hc k hlt
      have HT := Hid.mk' (hasL_take (s := s) hlt)
      have HX := Hid.mk' (hasL_true (s := s) hlt)
      clear hc
      generalize sK l k = x at *
      cases he : (x.toList == s.toList) with
      | true =>
        have E := Hid.mk' (HX.out he)
        go_wp2
        go_ret
        exact ⟨by rw [E.out]; rfl, rfl⟩
      | false =>
        have E : Hid (hasL (l.take (k + 1)) s = false) := Hid.mk' (by rw [HT.out, HF.out, he]; rfl)
        go_wp2
        go_round
        case rel => exact ⟨k + 1, by omega, by go_num, E.out⟩
        case measure => simp [intOf]; omega
    · have ci : ¬ (k : Int) < (l.length : Int) := by omega
      have e : k = l.length := by omega
      have E : Hid (hasL l s = false) := Hid.mk' (by have := HF.out; rw [e, List.take_length] at this; exact this)
      go_wp2
      go_ret
      exact ⟨by rw [E.out]; rfl, rfl⟩

set_option maxHeartbeats 800000 in
theorem indexS_any (a : Option Addr) (c : Nat) (l : List ByteArray) (s : ByteArray) (w : World) (ha : StAt w a l) (hl : (l.length : Int) ≤ 1048576) :
    Calls Try.prog 45 #[.slice a l.length c, .string s] w fun e w' => ∃ z : Int, e = .returned (.int .i64 z) ∧ decide (0 ≤ z) = hasL l s ∧ w' = w := by
  have HA := Hid.mk' ha
  clear ha
  go_enter Try.func45, Try.ntmps45
  go_wp2
  go_loop [8] (fun i => ∃ k : Nat, k ≤ l.length ∧ i = .int .i64 k ∧ hasL (l.take k) s = false) (fun i => l.length - (intOf i).toNat)
  case atStart => exact ⟨0, Nat.zero_le _, rfl, rfl⟩
  case round =>
    obtain ⟨k, hk, rfl, hf⟩ := hrel
    have HF := Hid.mk' hf
    clear hf
    by_cases hlt : k < l.length
    · have ci : (k : Int) < (l.length : Int) := by omega
      rcases HA.out with ha | ⟨b, o, rfl, hbs, hc⟩
      · exact absurd hlt (by rw [ha]; exact Nat.not_lt_zero _)
      have h1 := hc k hlt
      have HT := Hid.mk' (hasL_take (s := s) hlt)
      have HX := Hid.mk' (hasL_true (s := s) hlt)
      clear hc
      generalize sK l k = x at *
      cases he : (s.toList == x.toList) with
      | true =>
        have he' : (x.toList == s.toList) = true := by rw [beq_iff_eq] at he ⊢; exact he.symm
        have E := Hid.mk' (HX.out he')
        clear he'
        go_wp2
        go_ret
        exact ⟨k, rfl, by rw [E.out]; simp, rfl⟩
      | false =>
        have he' : (x.toList == s.toList) = false := by
          rw [Bool.eq_false_iff] at he ⊢
          intro h
          exact he (by rw [beq_iff_eq] at h ⊢; exact h.symm)
        have E : Hid (hasL (l.take (k + 1)) s = false) := Hid.mk' (by rw [HT.out, HF.out, he']; rfl)
        clear he'
        go_wp2
        go_round
        case rel => exact ⟨k + 1, by omega, by go_num, E.out⟩
        case measure => simp [intOf]; omega
    · have ci : ¬ (k : Int) < (l.length : Int) := by omega
      have e : k = l.length := by omega
      have E : Hid (hasL l s = false) := Hid.mk' (by have := HF.out; rw [e, List.take_length] at this; exact this)
      go_wp2
      go_ret
      exact ⟨-1, rfl, by rw [E.out]; rfl, rfl⟩

theorem containsS_any (a : Option Addr) (c : Nat) (l : List ByteArray) (s : ByteArray) (w : World) (ha : StAt w a l) (hl : (l.length : Int) ≤ 1048576) :
    Calls Try.prog 43 #[.slice a l.length c, .string s] w fun e w' => e = .returned (.bool (hasL l s)) ∧ w' = w := by
  have K := Hid.mk' (indexS_any a c l s w ha hl)
  clear ha
  go_enter Try.func43, Try.ntmps43
  go_wp2_with fail
  refine K.out.mono ?_
  rintro e w1 ⟨z, rfl, hz, rfl⟩
  have HZ := Hid.mk' hz
  clear hz
  go_wp2
  go_ret
  exact ⟨by rw [← HZ.out]; simp, rfl⟩

def tagsL : List ByteArray := [⟨#[97]⟩, ⟨#[98]⟩, ⟨#[98, 114]⟩, ⟨#[105]⟩, ⟨#[105, 109, 103]⟩, ⟨#[112]⟩]
def attrsL : List ByteArray := [⟨#[104, 114, 101, 102]⟩, ⟨#[115, 114, 99]⟩, ⟨#[116, 105, 116, 108, 101]⟩, ⟨#[119, 105, 100, 116, 104]⟩]
def schemesL : List ByteArray := [⟨#[104, 116, 116, 112]⟩, ⟨#[104, 116, 116, 112, 115]⟩, ⟨#[109, 97, 105, 108, 116, 111]⟩]

theorem lit_row (w : World) (cs : Array Value) (l : List ByteArray) (hc : cs.size = l.length) (h : ∀ i, i < l.length → cs[i]? = some (sv l i)) : (w.alloc (.cells cs 9)).rowIs w.heap.size 9 l.length (sv l) :=
  ⟨cs, Deep.blk_alloc_new _ _, hc, fun i hi => h i hi⟩

theorem l8Tags_any (w : World) : Calls Try.prog 26 #[] w fun e w' => e = .returned (.slice (some ⟨w.heap.size, 0, none⟩) 6 6) ∧ w'.rowIs w.heap.size 9 6 (sv tagsL) ∧ Below w.heap.size w w' := by
  go_enter Try.func26, Try.ntmps26
  go_wp2
  go_ret
  refine ⟨rfl, lit_row w _ tagsL rfl (fun i hi => ?_), below_new _ _⟩
  have : i = 0 ∨ i = 1 ∨ i = 2 ∨ i = 3 ∨ i = 4 ∨ i = 5 := by simp [tagsL] at hi; omega
  rcases this with rfl | rfl | rfl | rfl | rfl | rfl <;> rfl

theorem safeTags_any (w : World) : Calls Try.prog 27 #[] w fun e w' => e = .returned (.slice (some ⟨w.heap.size, 0, none⟩) 6 6) ∧ w'.rowIs w.heap.size 9 6 (sv tagsL) ∧ Below w.heap.size w w' := by
  go_enter Try.func27, Try.ntmps27
  go_wp2
  go_ret
  refine ⟨rfl, lit_row w _ tagsL rfl (fun i hi => ?_), below_new _ _⟩
  have : i = 0 ∨ i = 1 ∨ i = 2 ∨ i = 3 ∨ i = 4 ∨ i = 5 := by simp [tagsL] at hi; omega
  rcases this with rfl | rfl | rfl | rfl | rfl | rfl <;> rfl

theorem safeAttrs_any (w : World) : Calls Try.prog 39 #[] w fun e w' => e = .returned (.slice (some ⟨w.heap.size, 0, none⟩) 4 4) ∧ w'.rowIs w.heap.size 9 4 (sv attrsL) ∧ Below w.heap.size w w' := by
  go_enter Try.func39, Try.ntmps39
  go_wp2
  go_ret
  refine ⟨rfl, lit_row w _ attrsL rfl (fun i hi => ?_), below_new _ _⟩
  have : i = 0 ∨ i = 1 ∨ i = 2 ∨ i = 3 := by simp [attrsL] at hi; omega
  rcases this with rfl | rfl | rfl | rfl <;> rfl

theorem safeSchemes_any (w : World) : Calls Try.prog 40 #[] w fun e w' => e = .returned (.slice (some ⟨w.heap.size, 0, none⟩) 3 3) ∧ w'.rowIs w.heap.size 9 3 (sv schemesL) ∧ Below w.heap.size w w' := by
  go_enter Try.func40, Try.ntmps40
  go_wp2
  go_ret
  refine ⟨rfl, lit_row w _ schemesL rfl (fun i hi => ?_), below_new _ _⟩
  have : i = 0 ∨ i = 1 ∨ i = 2 := by simp [schemesL] at hi; omega
  rcases this with rfl | rfl | rfl <;> rfl

end Go.Proofs.Ytlhjkjhppjogbaa
