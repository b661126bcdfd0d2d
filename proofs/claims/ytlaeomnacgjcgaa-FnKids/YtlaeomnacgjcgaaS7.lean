/- Names: the letters that a text begins with, both sides. -/
import Derived.Test.YtlaeomnacgjcgaaChecked
import Derived.ProofKit
import Derived.OpenShut
import Derived.Test.YtlaeomnacgjcgaaR1
import Derived.Test.YtlaeomnacgjcgaaS6
set_option linter.unusedVariables false
set_option linter.unusedSimpArgs false
namespace Go.Proofs.Ytlaeomnacgjcgaa
open Go.RowKit

def ltr (c : Nat) : Prop := 97 ≤ c ∧ c ≤ 122
def ltrB (c : Nat) : Bool := decide (97 ≤ c) && decide (c ≤ 122)
theorem ltrB_iff (c : Nat) : ltrB c = true ↔ ltr c := by unfold ltrB ltr; rw [Bool.and_eq_true, decide_eq_true_eq, decide_eq_true_eq]
theorem ltrB_true {c : Nat} (h : ltr c) : ltrB c = true := (ltrB_iff c).2 h
theorem ltrB_false {c : Nat} (h : ¬ ltr c) : ltrB c = false := Bool.eq_false_iff.2 fun e => h ((ltrB_iff c).1 e)

def low (s : ByteArray) (k : Nat) : Prop := ∀ i (h : i < s.size), i < k → ltr (s[i]'h).toNat

def isNm (s : ByteArray) : Prop := 1 ≤ s.size ∧ s.size ≤ 8 ∧ low s s.size

def nmB (s : ByteArray) : Bool := decide (1 ≤ s.size) && decide (s.size ≤ 8) && s.data.toList.all (fun b => ltrB b.toNat)

theorem nmB_iff (s : ByteArray) : nmB s = true ↔ isNm s := by
  unfold nmB isNm low
  rw [Bool.and_eq_true, Bool.and_eq_true, decide_eq_true_eq, decide_eq_true_eq, List.all_eq_true]
  constructor
  · rintro ⟨⟨h1, h2⟩, h3⟩
    exact ⟨h1, h2, fun i hi _ => (ltrB_iff _).1 (h3 (s[i]'hi) (Array.mem_toList_iff.2 (Array.getElem_mem hi)))⟩
  · rintro ⟨h1, h2, h3⟩
    refine ⟨⟨h1, h2⟩, fun b hb => ltrB_true ?_⟩
    obtain ⟨i, hi, rfl⟩ := Array.mem_iff_getElem.1 (Array.mem_toList_iff.1 hb)
    exact h3 i hi hi

theorem nmB_true {s : ByteArray} (h : isNm s) : nmB s = true := (nmB_iff s).2 h
theorem nmB_false {s : ByteArray} (h : ¬ isNm s) : nmB s = false := Bool.eq_false_iff.2 fun e => h ((nmB_iff s).1 e)

theorem low_next {s : ByteArray} {k : Nat} (h : low s k) (hk : k < s.size) (hc : ltr (s[k]'hk).toNat) : low s (k + 1) := fun i hi hik => by
  by_cases e : i = k
  · subst e; exact hc
  · exact h i hi (by omega)

theorem letters_any (s : ByteArray) (w : World) (hm : (s.size : Int) ≤ 9223372036854775807) :
    Calls Try.prog 71 #[.string s] w fun e w' => ∃ n : Nat, e = .returned (.int .i64 n) ∧ w' = w ∧ n ≤ s.size ∧ low s n ∧ ∀ h : n < s.size, ¬ ltr (s[n]'h).toNat := by
  go_enter Try.func71, Try.ntmps71
  go_wp2
  go_loop [3] (fun i => ∃ k : Nat, k ≤ s.size ∧ i = .int .i64 k ∧ low s k) (fun i => s.size - (intOf i).toNat)
  case atStart => exact ⟨0, Nat.zero_le _, rfl, fun i _ h => absurd h (Nat.not_lt_zero _)⟩
  case round =>
    obtain ⟨k, hk, rfl, hlow⟩ := hrel
    have HL := Hid.mk' hlow
    clear hlow
    by_cases hlt : k < s.size
    · have ci : (k : Int) < (s.size : Int) := by omega
      obtain ⟨cc, hc⟩ : ∃ c : Nat, (s[k]'hlt).toNat = c := ⟨_, rfl⟩
      by_cases b1 : (cc : Int) < 97
      · go_wp2
        go_ret
        exact ⟨k, rfl, rfl, hk, HL.out, fun h => by unfold ltr; omega⟩
      · by_cases b2 : (cc : Int) > 122
        · go_wp2
          go_ret
          exact ⟨k, rfl, rfl, hk, HL.out, fun h => by unfold ltr; omega⟩
        · go_wp2
          go_round
          case rel => exact ⟨k + 1, by omega, by go_num, low_next HL.out hlt (by unfold ltr; omega)⟩
          case measure => simp [intOf]; omega
    · have ci : ¬ (k : Int) < (s.size : Int) := by omega
      have e : k = s.size := by omega
      go_wp2
      go_ret
      exact ⟨s.size, by simp, rfl, Nat.le_refl _, e ▸ HL.out, fun h => absurd h (Nat.lt_irrefl _)⟩

theorem isName_any (s : ByteArray) (w : World) (hm : (s.size : Int) ≤ 9223372036854775807) :
    Calls Try.prog 64 #[.string s] w fun e w' => e = .returned (.bool (nmB s)) ∧ w' = w := by
  have K := Hid.mk' (letters_any s w hm)
  go_enter Try.func64, Try.ntmps64
  by_cases b1 : (s.size : Int) ≥ 1
  · by_cases b2 : (s.size : Int) ≤ 8
    · go_wp2_with fail
      refine K.out.mono ?_
      rintro e w1 ⟨n, rfl, rfl, hn, hl, hx⟩
      have HL := Hid.mk' hl
      have HX := Hid.mk' hx
      clear hl hx
      by_cases b3 : (n : Int) = s.size
      · go_wp2
        go_ret
        have e : n = s.size := by omega
        rw [nmB_true ⟨by omega, by omega, e ▸ HL.out⟩]
        exact ⟨by simp, rfl⟩
      · go_wp2
        go_ret
        rw [nmB_false fun h => HX.out (by omega) (h.2.2 n (by omega) (by omega))]
        exact ⟨by simp; omega, rfl⟩
    · go_wp2
      go_ret
      exact ⟨by rw [nmB_false fun h => by have := h.1; have := h.2.1; omega]; rfl, rfl⟩
  · go_wp2
    go_ret
    exact ⟨by rw [nmB_false fun h => by have := h.1; have := h.2.1; omega]; rfl, rfl⟩

theorem letter_any (c : Nat) (w : World) :
    Calls Try.prog 61 #[.int .u8 c] w fun e w' => e = .returned (.bool (ltrB c)) ∧ w' = w := by
  go_enter Try.func61, Try.ntmps61
  by_cases b1 : (c : Int) ≥ 97
  · by_cases b2 : (c : Int) ≤ 122
    · go_wp2
      go_ret
      exact ⟨by first | rw [ltrB_true (show ltr c by unfold ltr; omega)]; rfl | rw [ltrB_false (show ¬ ltr c by unfold ltr; omega)]; rfl, rfl⟩
    · go_wp2
      go_ret
      exact ⟨by first | rw [ltrB_true (show ltr c by unfold ltr; omega)]; rfl | rw [ltrB_false (show ¬ ltr c by unfold ltr; omega)]; rfl, rfl⟩
  · go_wp2
    go_ret
    exact ⟨by first | rw [ltrB_true (show ltr c by unfold ltr; omega)]; rfl | rw [ltrB_false (show ¬ ltr c by unfold ltr; omega)]; rfl, rfl⟩

theorem l4Name_any (s : ByteArray) (w : World) (hm : (s.size : Int) ≤ 9223372036854775807) :
    Calls Try.prog 55 #[.string s] w fun e w' => e = .returned (.bool (nmB s)) ∧ w' = w := by
  have K : Hid (∀ c : Nat, Calls Try.prog 61 #[.int .u8 c] w fun e w' => e = .returned (.bool (ltrB c)) ∧ w' = w) := fun c => letter_any c w
  go_enter Try.func55, Try.ntmps55
  go_wp2
  go_loop [3] (fun i => ∃ k : Nat, k ≤ s.size ∧ i = .int .i64 k ∧ low s k) (fun i => s.size - (intOf i).toNat)
  case atStart => exact ⟨0, Nat.zero_le _, rfl, fun i _ h => absurd h (Nat.not_lt_zero _)⟩
  case round =>
    obtain ⟨k, hk, rfl, hlow⟩ := hrel
    have HL := Hid.mk' hlow
    clear hlow
    by_cases hlt : k < s.size
    · have ci : (k : Int) < (s.size : Int) := by omega
      obtain ⟨cc, hc⟩ : ∃ c : Nat, (s[k]'hlt).toNat = c := ⟨_, rfl⟩
      by_cases b : ltr cc
      · have K := Hid.mk' (K.out cc)
        rw [ltrB_true b] at K
        go_wp2_with fail
        refine K.out.mono ?_
        rintro e w1 ⟨rfl, rfl⟩
        go_wp2
        go_round
        case rel => exact ⟨k + 1, by omega, by go_num, low_next HL.out hlt (by rw [hc]; exact b)⟩
        case measure => simp [intOf]; omega
      · have K := Hid.mk' (K.out cc)
        rw [ltrB_false b] at K
        go_wp2_with fail
        refine K.out.mono ?_
        rintro e w1 ⟨rfl, rfl⟩
        go_wp2
        go_ret
        exact ⟨by rw [nmB_false fun h => b (by rw [← hc]; exact h.2.2 k hlt hlt)]; rfl, rfl⟩
    · have ci : ¬ (k : Int) < (s.size : Int) := by omega
      have e : k = s.size := by omega
      by_cases b1 : (s.size : Int) ≥ 1
      · by_cases b2 : (s.size : Int) ≤ 8
        · go_wp2
          go_ret
          exact ⟨by rw [nmB_true ⟨by omega, by omega, e ▸ HL.out⟩]; rfl, rfl⟩
        · go_wp2
          go_ret
          exact ⟨by rw [nmB_false fun h => by have := h.1; have := h.2.1; omega]; rfl, rfl⟩
      · go_wp2
        go_ret
        exact ⟨by rw [nmB_false fun h => by have := h.1; have := h.2.1; omega]; rfl, rfl⟩

end Go.Proofs.Ytlaeomnacgjcgaa

namespace Go.Proofs.Ytlaeomnacgjcgaa
open Go.RowKit

def posFrom : List AT → ByteArray → Nat → Int
  | [], _, _ => -1
  | x :: r, s, n => if (x.nm.toList == s.toList) = true then (n : Int) else posFrom r s (n + 1)
def posK (l : List AT) (s : ByteArray) : Int := posFrom l s 0

theorem posFrom_found : ∀ (l : List AT) (s : ByteArray) (n k : Nat), k < l.length → (∀ j, j < k → ((atK l j).nm.toList == s.toList) = false) → ((atK l k).nm.toList == s.toList) = true → posFrom l s n = ((n + k : Nat) : Int)
  | [], _, _, _, h, _, _ => absurd h (Nat.not_lt_zero _)
  | x :: r, s, n, 0, _, _, e => by
    have : (x.nm.toList == s.toList) = true := e
    unfold posFrom
    rw [if_pos this, Nat.add_zero]
  | x :: r, s, n, k + 1, h, hn, e => by
    have h0 : (x.nm.toList == s.toList) = false := hn 0 (by omega)
    have ih := posFrom_found r s (n + 1) k (by simpa using h) (fun j hj => hn (j + 1) (by omega)) e
    unfold posFrom
    rw [if_neg (by rw [h0]; exact Bool.false_ne_true), ih]
    omega

theorem posFrom_none : ∀ (l : List AT) (s : ByteArray) (n : Nat), (∀ j, j < l.length → ((atK l j).nm.toList == s.toList) = false) → posFrom l s n = -1
  | [], _, _, _ => rfl
  | x :: r, s, n, hn => by
    have h0 : (x.nm.toList == s.toList) = false := hn 0 (by simp)
    unfold posFrom
    rw [if_neg (by rw [h0]; exact Bool.false_ne_true)]
    exact posFrom_none r s (n + 1) (fun j hj => hn (j + 1) (by simp; omega))

set_option maxHeartbeats 800000 in
theorem l4Has_any (a : Option Addr) (c : Nat) (l : List AT) (s : ByteArray) (w : World) (ha : AAt w a l) (hl : (l.length : Int) ≤ 1048576) :
    Calls Try.prog 62 #[.slice a l.length c, .string s] w fun e w' => e = .returned (.int .i64 (posK l s)) ∧ w' = w := by
  go_enter Try.func62, Try.ntmps62
  go_wp2
  go_loop [5] (fun i => ∃ k : Nat, k ≤ l.length ∧ i = .int .i64 k ∧ ∀ j, j < k → ((atK l j).nm.toList == s.toList) = false) (fun i => l.length - (intOf i).toNat)
  case atStart => exact ⟨0, Nat.zero_le _, rfl, fun j h => absurd h (Nat.not_lt_zero _)⟩
  case round =>
    obtain ⟨k, hk, rfl, hn⟩ := hrel
    have HN := Hid.mk' hn
    clear hn
    by_cases hlt : k < l.length
    · have ci : (k : Int) < (l.length : Int) := by omega
      rcases ha with ha | ⟨b, o, rfl, hbs, hc⟩
      · exact absurd hlt (by rw [ha]; exact Nat.not_lt_zero _)
      obtain ⟨h1, p, d, h2, _⟩ := hc k hlt
      clear hc
      cases e : ((atK l k).nm.toList == s.toList) with
      | true =>
        go_wp2
        go_ret
        refine ⟨?_, rfl⟩
        unfold posK
        rw [posFrom_found l s 0 k hlt HN.out e, Nat.zero_add]
        rfl
      | false =>
        go_wp2
        go_round
        case rel => exact ⟨k + 1, by omega, by go_num, fun j hj => by
          by_cases h : j = k
          · subst h; exact e
          · exact HN.out j (by omega)⟩
        case measure => simp [intOf]; omega
    · have ci : ¬ (k : Int) < (l.length : Int) := by omega
      have e : k = l.length := by omega
      subst e
      go_wp2
      go_ret
      refine ⟨?_, rfl⟩
      unfold posK
      rw [posFrom_none l s 0 HN.out]
      rfl

theorem atK_take {l : List AT} {j k : Nat} (h : j < k) (hk : k ≤ l.length) : atK (l.take k) j = atK l j := by
  unfold atK
  rw [List.getD_eq_getElem?_getD, List.getD_eq_getElem?_getD, List.getElem?_take_of_lt h]

theorem AAt.take {w : World} {a : Option Addr} {l : List AT} (h : AAt w a l) (k : Nat) (hk : k ≤ l.length) : AAt w a (l.take k) := by
  rcases h with h | ⟨b, o, e, hs, hc⟩
  · left; rw [h]; simp
  · refine .inr ⟨b, o, e, hs, fun j hj => ?_⟩
    rw [List.length_take] at hj
    rw [atK_take (by omega) hk]
    exact hc j (by omega)

def afR : List AT → List AT → Int
  | _, [] => 0
  | seen, x :: r => if nmB x.nm = true then (if 0 ≤ posK seen x.nm then 1 else afR (seen ++ [x]) r) else 5
def afault (l : List AT) : Int := afR [] l

theorem afR_step {l : List AT} {k : Nat} (hk : k < l.length) : afR (l.take k) (l.drop k) = if nmB (atK l k).nm = true then (if 0 ≤ posK (l.take k) (atK l k).nm then 1 else afR (l.take (k + 1)) (l.drop (k + 1))) else 5 := by
  have e1 : l.drop k = atK l k :: l.drop (k + 1) := by
    rw [List.drop_eq_getElem_cons hk]
    unfold atK
    rw [List.getD_eq_getElem?_getD, List.getElem?_eq_getElem hk]; rfl
  have e2 : l.take (k + 1) = l.take k ++ [atK l k] := by
    rw [List.take_succ_eq_append_getElem hk]
    unfold atK
    rw [List.getD_eq_getElem?_getD, List.getElem?_eq_getElem hk]; rfl
  rw [e1, e2]
  rfl

set_option maxHeartbeats 1600000 in
theorem l4Attrs_any (a : Option Addr) (c : Nat) (l : List AT) (w : World) (ha : AAt w a l) (hc : l.length ≤ c) (hl : (l.length : Int) + asz l ≤ 1048576) :
    Calls Try.prog 56 #[.slice a l.length c] w fun e w' => e = .returned (.int .i64 (afault l)) ∧ Below w.heap.size w w' := by
  have HA := Hid.mk' ha
  clear ha
  go_enter Try.func56, Try.ntmps56
  go_wp2
  go_loopw [3] (fun i wr => ∃ k : Nat, k ≤ l.length ∧ i = .int .i64 k ∧ afault l = afR (l.take k) (l.drop k) ∧ Below w.heap.size w wr) (fun i _ => l.length - (intOf i).toNat)
  case atStart => exact ⟨0, Nat.zero_le _, rfl, rfl, Below.refl _ _⟩
  case round =>
    obtain ⟨k, hk, rfl, hf, hbl⟩ := hrel
    have HF := Hid.mk' hf
    have HB := Hid.mk' hbl
    by_cases hlt : k < l.length
    · have ci : (k : Int) < (l.length : Int) := by omega
      have HS := Hid.mk' (afR_step hlt)
      have hAk := HA.out.below hbl
      have HT := Hid.mk' (hAk.take k hk)
      rcases hAk with ha | ⟨b, o, rfl, hbs, hcl⟩
      · exact absurd hlt (by rw [ha]; exact Nat.not_lt_zero _)
      obtain ⟨h1, p, d, h2, _⟩ := hcl k hlt
      have st := asz_take l k hlt
      have sl := asz_le l (k + 1)
      have KN := Hid.mk' (l4Name_any (atK l k).nm wr (by omega))
      clear hf hbl hcl
      cases hn : nmB (atK l k).nm with
      | false =>
        rw [hn] at KN
        go_wp2_with fail
        refine KN.out.mono ?_
        rintro e w1 ⟨rfl, rfl⟩
        go_wp2
        go_ret
        refine ⟨?_, HB.out⟩
        rw [HF.out, HS.out, hn]
        rfl
      | true =>
        rw [hn] at KN
        go_wp2_with fail
        refine KN.out.mono ?_
        rintro e w1 ⟨rfl, rfl⟩
        have KH := l4Has_any (some ⟨b, o, none⟩) c (l.take k) (atK l k).nm w1.drew (HT.out.below (Below.refl _ _).drew) (by rw [List.length_take]; omega)
        rw [List.length_take, Nat.min_eq_left hk] at KH
        have KH := Hid.mk' KH
        have b1 : (0 : Int) ≤ (k : Int) := by omega
        have b2 : (k : Int) ≤ (c : Int) := by omega
        by_cases hp : 0 ≤ posK (l.take k) (atK l k).nm
        · have HE : Hid (afault l = 1) := Hid.mk' (by rw [HF.out, HS.out, hn, if_pos rfl, if_pos hp])
          generalize posK (l.take k) (atK l k).nm = q at *
          clear HS HT HF KN st sl
          go_wp2
          go_region_held3 (fun w' => w'.cell? ⟨b, o + k * 2, none⟩ = some (.string (atK l k).nm)) (simp [*])
            ((go_at_call 62; refine KH.out.mono ?_; rintro e w2 ⟨rfl, rfl⟩))
          go_wp2
          go_ret
          exact ⟨by rw [HE.out]; rfl, HB.out.drew⟩
        · have HE : Hid (afault l = afR (l.take (k + 1)) (l.drop (k + 1))) := Hid.mk' (by rw [HF.out, HS.out, hn, if_pos rfl, if_neg hp])
          generalize posK (l.take k) (atK l k).nm = q at *
          clear HS HT HF KN st sl
          go_wp2
          go_region_held3 (fun w' => w'.cell? ⟨b, o + k * 2, none⟩ = some (.string (atK l k).nm)) (simp [*])
            ((go_at_call 62; refine KH.out.mono ?_; rintro e w2 ⟨rfl, rfl⟩))
          go_wp2
          go_roundw
          case rel => exact ⟨k + 1, by omega, by go_num, HE.out, HB.out.drew⟩
          case measure => simp [intOf]; omega
    · have ci : ¬ (k : Int) < (l.length : Int) := by omega
      have e : k = l.length := by omega
      subst e
      go_wp2
      go_ret
      refine ⟨?_, HB.out⟩
      have h := HF.out
      rw [List.drop_length, List.take_length] at h
      first | rfl | (rw [h]; rfl)

end Go.Proofs.Ytlaeomnacgjcgaa
