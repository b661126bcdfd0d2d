/- PolicyFault: both sides, and the law. -/
import Derived.Test.YtfdcfajliofbfaaGreatDoorCb
import Derived.BigGuard
import Derived.Test.YtfdcfajliofbfaaGreatDoorCa
import Derived.Maps.OwnSet
import Derived.Deep.RegionHeld3
namespace Go.Proofs.YtfdcfajliofbfaaGreatDoor
open Go.RowKit
set_option linter.unusedVariables false
set_option linter.unusedSimpArgs false

theorem pol_cases (p : PO) : (((p.tg.length : Int) > 10 ∨ (¬ (p.tg.length : Int) > 10 ∧ (p.at_.length : Int) > 10) ∨ (¬ (p.tg.length : Int) > 10 ∧ ¬ (p.at_.length : Int) > 10 ∧ (p.sc.length : Int) > 10)) ∧ polF p = 2) ∨
    ((¬ (p.tg.length : Int) > 10 ∧ ¬ (p.at_.length : Int) > 10 ∧ ¬ (p.sc.length : Int) > 10) ∧ polF p = if ¬ wfault p.tg = 0 then wfault p.tg else if ¬ wfault p.at_ = 0 then wfault p.at_ else wfault p.sc) := by
  by_cases h : 10 < p.tg.length ∨ 10 < p.at_.length ∨ 10 < p.sc.length
  · exact .inl ⟨by omega, by unfold polF; rw [if_pos h]⟩
  · exact .inr ⟨by omega, by unfold polF; rw [if_neg h]⟩

set_option maxHeartbeats 3200000 in
theorem l8Fault_any (p : PO) (g : Nat) (a b c : Option Addr) (n1 n2 n3 : Nat) (w : World) (hr : w.rowIs g 35 3 (r3 (.slice a p.tg.length n1) (.slice b p.at_.length n2) (.slice c p.sc.length n3))) (ha : POAt w a b c p) (hl : (psz p : Int) ≤ 1048576) :
    Calls Tryz.prog 50 #[.pointer (some ⟨g, 0, none⟩)] w fun e w' => e = .returned (.int .i64 (polF p)) ∧ Below w.heap.size w w' := by
  unfold psz at hl
  have HR := Hid.mk' hr
  have HA := Hid.mk' ha
  obtain ⟨x0, x1, x2, x3⟩ := cellsP hr
  clear hr ha
  rcases pol_cases p with ⟨hc, hE⟩ | ⟨⟨h1, h2, h3⟩, hE⟩
  · have E := Hid.mk' hE
    clear hE
    rcases hc with h1 | ⟨h1, h2⟩ | ⟨h1, h2, h3⟩
    all_goals go_enter Tryz.func50, Tryz.ntmps50
    all_goals go_wp2_with (first | go_big_skip)
    all_goals go_ret
    all_goals exact ⟨by rw [E.out]; rfl, Below.refl _ _⟩
  · have E := Hid.mk' hE
    clear hE
    have K1 := Hid.mk' (l8Words_any a n1 p.tg w HA.out.1 (by omega))
    go_enter Tryz.func50, Tryz.ntmps50
    go_wp2_with (first | go_big_skip)
    refine K1.out.mono ?_
    rintro e w1 ⟨rfl, hb⟩
    have HB := Hid.mk' hb
    have HR := Hid.mk' (rowB HR.out hb)
    have HA := Hid.mk' (HA.out.below hb)
    have K2 := Hid.mk' (l8Words_any b n2 p.at_ w1 HA.out.2.1 (by omega))
    clear hb x0 x1 x2 x3 K1
    obtain ⟨x0, x1, x2, x3⟩ := cellsP HR.out
    by_cases e1 : wfault p.tg = 0
    · have E : Hid (polF p = if ¬ wfault p.at_ = 0 then wfault p.at_ else wfault p.sc) := Hid.mk' (by rw [E.out, if_neg (by simp [e1])])
      rw [e1]
      clear e1
      go_wp2_with fail
      refine K2.out.mono ?_
      rintro e w2 ⟨rfl, hb⟩
      have HB := Hid.mk' (HB.out.trans (hb.mono HB.out.size))
      have HR := Hid.mk' (rowB HR.out hb)
      have HA := Hid.mk' (HA.out.below hb)
      have K3 := Hid.mk' (l8Words_any c n3 p.sc w2 HA.out.2.2 (by omega))
      clear hb x0 x1 x2 x3 K2
      obtain ⟨x0, x1, x2, x3⟩ := cellsP HR.out
      by_cases e2 : wfault p.at_ = 0
      · have E : Hid (polF p = wfault p.sc) := Hid.mk' (by rw [E.out, if_neg (by simp [e2])])
        rw [e2]
        clear e2
        go_wp2_with fail
        refine K3.out.mono ?_
        rintro e w3 ⟨rfl, hb⟩
        have HB := Hid.mk' (HB.out.trans (hb.mono HB.out.size))
        clear hb
        go_wp2
        go_ret
        exact ⟨by rw [E.out]; rfl, HB.out⟩
      · have E : Hid (polF p = wfault p.at_) := Hid.mk' (by rw [E.out, if_pos e2])
        generalize wfault p.at_ = f2 at *
        go_wp2
        go_ret
        exact ⟨by rw [E.out]; rfl, HB.out⟩
    · have E : Hid (polF p = wfault p.tg) := Hid.mk' (by rw [E.out, if_pos e1])
      generalize wfault p.tg = f1 at *
      go_wp2
      go_ret
      exact ⟨by rw [E.out]; rfl, HB.out⟩

set_option maxHeartbeats 3200000 in
theorem implPF_any (p : PO) (a b c : Option Addr) (n1 n2 n3 : Nat) (w : World) (ha : POAt w a b c p) (hl : (psz p : Int) ≤ 1048576) :
    Calls Tryz.prog 94 #[.agg #[.slice a p.tg.length n1, .slice b p.at_.length n2, .slice c p.sc.length n3]] w fun e w' => e = .returned (.int .i64 (polF p)) ∧ Below w.heap.size w w' := by
  unfold psz at hl
  have N0 := below_new w (.cells #[.slice a p.tg.length n1, .slice b p.at_.length n2, .slice c p.sc.length n3] 35)
  have HR := Hid.mk' (row3 w 35 (.slice a p.tg.length n1) (.slice b p.at_.length n2) (.slice c p.sc.length n3))
  have HA := Hid.mk' (ha.below N0)
  have HB := Hid.mk' N0
  clear N0 ha
  generalize hW : w.alloc (.cells #[.slice a p.tg.length n1, .slice b p.at_.length n2, .slice c p.sc.length n3] 35) = W at *
  obtain ⟨x0, x1, x2, x3⟩ := cellsP HR.out
  rcases pol_cases p with ⟨hc, hE⟩ | ⟨⟨h1, h2, h3⟩, hE⟩
  · have E := Hid.mk' hE
    clear hE
    rcases hc with h1 | ⟨h1, h2⟩ | ⟨h1, h2, h3⟩
    all_goals go_enter Tryz.func94, Tryz.ntmps94
    all_goals go_wp2_with (first | go_big_skip)
    all_goals go_ret
    all_goals exact ⟨by rw [E.out]; rfl, HB.out⟩
  · have E := Hid.mk' hE
    clear hE
    have K1 := Hid.mk' (wordsFault_any a n1 p.tg W HA.out.1 (by omega))
    go_enter Tryz.func94, Tryz.ntmps94
    go_wp2_with (first | go_big_skip)
    clear hW
    refine K1.out.mono ?_
    rintro e w1 ⟨rfl, hb⟩
    have HB := Hid.mk' (HB.out.trans (hb.mono HB.out.size))
    have HR := Hid.mk' (rowB HR.out hb)
    have HA := Hid.mk' (HA.out.below hb)
    have K2 := Hid.mk' (wordsFault_any b n2 p.at_ w1 HA.out.2.1 (by omega))
    clear hb x0 x1 x2 x3 K1
    obtain ⟨x0, x1, x2, x3⟩ := cellsP HR.out
    by_cases e1 : wfault p.tg = 0
    · have E : Hid (polF p = if ¬ wfault p.at_ = 0 then wfault p.at_ else wfault p.sc) := Hid.mk' (by rw [E.out, if_neg (by simp [e1])])
      rw [e1]
      clear e1
      go_wp2_with fail
      refine K2.out.mono ?_
      rintro e w2 ⟨rfl, hb⟩
      have HB := Hid.mk' (HB.out.trans (hb.mono HB.out.size))
      have HR := Hid.mk' (rowB HR.out hb)
      have HA := Hid.mk' (HA.out.below hb)
      have K3 := Hid.mk' (wordsFault_any c n3 p.sc w2 HA.out.2.2 (by omega))
      clear hb x0 x1 x2 x3 K2
      obtain ⟨x0, x1, x2, x3⟩ := cellsP HR.out
      by_cases e2 : wfault p.at_ = 0
      · have E : Hid (polF p = wfault p.sc) := Hid.mk' (by rw [E.out, if_neg (by simp [e2])])
        rw [e2]
        clear e2
        go_wp2_with fail
        refine K3.out.mono ?_
        rintro e w3 ⟨rfl, hb⟩
        have HB := Hid.mk' (HB.out.trans (hb.mono HB.out.size))
        clear hb
        go_wp2
        go_ret
        exact ⟨by rw [E.out]; rfl, HB.out⟩
      · have E : Hid (polF p = wfault p.at_) := Hid.mk' (by rw [E.out, if_pos e2])
        generalize wfault p.at_ = f2 at *
        go_wp2
        go_ret
        exact ⟨by rw [E.out]; rfl, HB.out⟩
    · have E : Hid (polF p = wfault p.tg) := Hid.mk' (by rw [E.out, if_pos e1])
      generalize wfault p.tg = f1 at *
      go_wp2
      go_ret
      exact ⟨by rw [E.out]; rfl, HB.out⟩

theorem toPolicy_at (p : PO) (a b c : Option Addr) (n1 n2 n3 : Nat) (w : World) (ha : POAt w a b c p) (hl : (psz p : Int) ≤ 1048576) :
    Calls Tryz.prog 13 #[.agg #[.slice a p.tg.length n1, .slice b p.at_.length n2, .slice c p.sc.length n3]] w fun e w' => ∃ g1 g2 g3, e = .returned (.agg #[.slice (some ⟨g1, 0, none⟩) p.tg.length p.tg.length, .slice (some ⟨g2, 0, none⟩) p.at_.length p.at_.length, .slice (some ⟨g3, 0, none⟩) p.sc.length p.sc.length]) ∧ POAt w' (some ⟨g1, 0, none⟩) (some ⟨g2, 0, none⟩) (some ⟨g3, 0, none⟩) p ∧ Below w.heap.size w w' :=
  (toPolicy_any p a b c n1 n2 n3 w ha hl).mono fun e w' ⟨g1, g2, g3, h1, h2, h3⟩ => ⟨g1, g2, g3, h1, h2.at, h3⟩

end Go.Proofs.YtfdcfajliofbfaaGreatDoor

/- Dropped tags; whether a list of texts has one; the lists of words that are safe: both sides. -/
namespace Go.Proofs.YtfdcfajliofbfaaGreatDoor
open Go.RowKit
set_option linter.unusedVariables false
set_option linter.unusedSimpArgs false

/-- script or style. -/
def dropB (s : ByteArray) : Bool := (s.toList == [115, 99, 114, 105, 112, 116]) || (s.toList == [115, 116, 121, 108, 101])

/-- A list of texts has one. -/
def hasL (l : List ByteArray) (s : ByteArray) : Bool := l.any (fun x => x.toList == s.toList)

theorem hasL_take {l : List ByteArray} {s : ByteArray} {k : Nat} (hk : k < l.length) : hasL (l.take (k + 1)) s = (hasL (l.take k) s || ((sK l k).toList == s.toList)) := by
  have e : l.take (k + 1) = l.take k ++ [sK l k] := by
    rw [List.take_succ_eq_append_getElem hk]
    simp [sK, hk]
  unfold hasL
  rw [e, List.any_append]
  simp

theorem hasL_true {l : List ByteArray} {s : ByteArray} {k : Nat} (hk : k < l.length) (h : ((sK l k).toList == s.toList) = true) : hasL l s = true := by
  unfold hasL
  rw [List.any_eq_true]
  exact ⟨l[k], List.getElem_mem hk, by have e : sK l k = l[k] := by simp [sK, hk]
                                       rw [← e]; exact h⟩

set_option maxHeartbeats 800000 in
theorem l8Has_any (a : Option Addr) (c : Nat) (l : List ByteArray) (s : ByteArray) (w : World) (ha : StAt w a l) (hl : (l.length : Int) ≤ 1048576) :
    Calls Tryz.prog 90 #[.slice a l.length c, .string s] w fun e w' => e = .returned (.bool (hasL l s)) ∧ w' = w := by
  have HA := Hid.mk' ha
  clear ha
  go_enter Tryz.func90, Tryz.ntmps90
  go_wp2
  go_loop [5] (fun i => ∃ k : Nat, k ≤ l.length ∧ i = .int .i64 k ∧ hasL (l.take k) s = false) (fun i => l.length - (intOf i).toNat)
  case atStart => exact ⟨0, Nat.zero_le _, rfl, rfl⟩
  case round =>
    obtain ⟨k, hk, rfl, hf⟩ := hrel
    have HF := Hid.mk' hf
    clear hf
    by_cases hlt : k < l.length
    · have ci : (k : Int) < (l.length : Int) := by omega
      rcases HA.out with ha | ⟨b, o, rfl, hbs, hc⟩
      · exact absurd hlt (by rw [ha]; exact Nat.not_lt_zero _)
      have h1 := hc k hlt
      have HT := Hid.mk' (hasL_take (s := s) hlt)
      have HX := Hid.mk' (hasL_true (s := s) hlt)
      clear hc
      generalize sK l k = x at *
      cases he : (x.toList == s.toList) with
      | true =>
        have E := Hid.mk' (HX.out he)
        go_wp2
        go_ret
        exact ⟨by rw [E.out]; rfl, rfl⟩
      | false =>
        have E : Hid (hasL (l.take (k + 1)) s = false) := Hid.mk' (by rw [HT.out, HF.out, he]; rfl)
        go_wp2
        go_round
        case rel => exact ⟨k + 1, by omega, by go_num, E.out⟩
        case measure => simp [intOf]; omega
    · have ci : ¬ (k : Int) < (l.length : Int) := by omega
      have e : k = l.length := by omega
      have E : Hid (hasL l s = false) := Hid.mk' (by have := HF.out; rw [e, List.take_length] at this; exact this)
      go_wp2
      go_ret
      exact ⟨by rw [E.out]; rfl, rfl⟩

set_option maxHeartbeats 800000 in
theorem indexS_any (a : Option Addr) (c : Nat) (l : List ByteArray) (s : ByteArray) (w : World) (ha : StAt w a l) (hl : (l.length : Int) ≤ 1048576) :
    Calls Tryz.prog 163 #[.slice a l.length c, .string s] w fun e w' => ∃ z : Int, e = .returned (.int .i64 z) ∧ decide (0 ≤ z) = hasL l s ∧ w' = w := by
  have HA := Hid.mk' ha
  clear ha
  go_enter Tryz.func163, Tryz.ntmps163
  go_wp2
  go_loop [8] (fun i => ∃ k : Nat, k ≤ l.length ∧ i = .int .i64 k ∧ hasL (l.take k) s = false) (fun i => l.length - (intOf i).toNat)
  case atStart => exact ⟨0, Nat.zero_le _, rfl, rfl⟩
  case round =>
    obtain ⟨k, hk, rfl, hf⟩ := hrel
    have HF := Hid.mk' hf
    clear hf
    by_cases hlt : k < l.length
    · have ci : (k : Int) < (l.length : Int) := by omega
      rcases HA.out with ha | ⟨b, o, rfl, hbs, hc⟩
      · exact absurd hlt (by rw [ha]; exact Nat.not_lt_zero _)
      have h1 := hc k hlt
      have HT := Hid.mk' (hasL_take (s := s) hlt)
      have HX := Hid.mk' (hasL_true (s := s) hlt)
      clear hc
      generalize sK l k = x at *
      cases he : (s.toList == x.toList) with
      | true =>
        have he' : (x.toList == s.toList) = true := by rw [beq_iff_eq] at he ⊢; exact he.symm
        have E := Hid.mk' (HX.out he')
        clear he'
        go_wp2
        go_ret
        exact ⟨k, rfl, by rw [E.out]; simp, rfl⟩
      | false =>
        have he' : (x.toList == s.toList) = false := by
          rw [Bool.eq_false_iff] at he ⊢
          intro h
          exact he (by rw [beq_iff_eq] at h ⊢; exact h.symm)
        have E : Hid (hasL (l.take (k + 1)) s = false) := Hid.mk' (by rw [HT.out, HF.out, he']; rfl)
        clear he'
        go_wp2
        go_round
        case rel => exact ⟨k + 1, by omega, by go_num, E.out⟩
        case measure => simp [intOf]; omega
    · have ci : ¬ (k : Int) < (l.length : Int) := by omega
      have e : k = l.length := by omega
      have E : Hid (hasL l s = false) := Hid.mk' (by have := HF.out; rw [e, List.take_length] at this; exact this)
      go_wp2
      go_ret
      exact ⟨-1, rfl, by rw [E.out]; rfl, rfl⟩

theorem containsS_any (a : Option Addr) (c : Nat) (l : List ByteArray) (s : ByteArray) (w : World) (ha : StAt w a l) (hl : (l.length : Int) ≤ 1048576) :
    Calls Tryz.prog 135 #[.slice a l.length c, .string s] w fun e w' => e = .returned (.bool (hasL l s)) ∧ w' = w := by
  have K := Hid.mk' (indexS_any a c l s w ha hl)
  clear ha
  go_enter Tryz.func135, Tryz.ntmps135
  go_wp2_with fail
  refine K.out.mono ?_
  rintro e w1 ⟨z, rfl, hz, rfl⟩
  have HZ := Hid.mk' hz
  clear hz
  go_wp2
  go_ret
  exact ⟨by rw [← HZ.out]; simp, rfl⟩

def tagsL : List ByteArray := [⟨#[97]⟩, ⟨#[98]⟩, ⟨#[98, 114]⟩, ⟨#[105]⟩, ⟨#[105, 109, 103]⟩, ⟨#[112]⟩]
def attrsL : List ByteArray := [⟨#[104, 114, 101, 102]⟩, ⟨#[115, 114, 99]⟩, ⟨#[116, 105, 116, 108, 101]⟩, ⟨#[119, 105, 100, 116, 104]⟩]
def schemesL : List ByteArray := [⟨#[104, 116, 116, 112]⟩, ⟨#[104, 116, 116, 112, 115]⟩, ⟨#[109, 97, 105, 108, 116, 111]⟩]

theorem lit_row (w : World) (cs : Array Value) (l : List ByteArray) (hc : cs.size = l.length) (h : ∀ i, i < l.length → cs[i]? = some (sv l i)) : (w.alloc (.cells cs 9)).rowIs w.heap.size 9 l.length (sv l) :=
  ⟨cs, Deep.blk_alloc_new _ _, hc, fun i hi => h i hi⟩

theorem l8Tags_any (w : World) : Calls Tryz.prog 148 #[] w fun e w' => e = .returned (.slice (some ⟨w.heap.size, 0, none⟩) 6 6) ∧ w'.rowIs w.heap.size 9 6 (sv tagsL) ∧ Below w.heap.size w w' := by
  go_enter Tryz.func148, Tryz.ntmps148
  go_wp2
  go_ret
  refine ⟨rfl, lit_row w _ tagsL rfl (fun i hi => ?_), below_new _ _⟩
  have : i = 0 ∨ i = 1 ∨ i = 2 ∨ i = 3 ∨ i = 4 ∨ i = 5 := by simp [tagsL] at hi; omega
  rcases this with rfl | rfl | rfl | rfl | rfl | rfl <;> rfl

theorem safeTags_any (w : World) : Calls Tryz.prog 96 #[] w fun e w' => e = .returned (.slice (some ⟨w.heap.size, 0, none⟩) 6 6) ∧ w'.rowIs w.heap.size 9 6 (sv tagsL) ∧ Below w.heap.size w w' := by
  go_enter Tryz.func96, Tryz.ntmps96
  go_wp2
  go_ret
  refine ⟨rfl, lit_row w _ tagsL rfl (fun i hi => ?_), below_new _ _⟩
  have : i = 0 ∨ i = 1 ∨ i = 2 ∨ i = 3 ∨ i = 4 ∨ i = 5 := by simp [tagsL] at hi; omega
  rcases this with rfl | rfl | rfl | rfl | rfl | rfl <;> rfl

theorem safeAttrs_any (w : World) : Calls Tryz.prog 97 #[] w fun e w' => e = .returned (.slice (some ⟨w.heap.size, 0, none⟩) 4 4) ∧ w'.rowIs w.heap.size 9 4 (sv attrsL) ∧ Below w.heap.size w w' := by
  go_enter Tryz.func97, Tryz.ntmps97
  go_wp2
  go_ret
  refine ⟨rfl, lit_row w _ attrsL rfl (fun i hi => ?_), below_new _ _⟩
  have : i = 0 ∨ i = 1 ∨ i = 2 ∨ i = 3 := by simp [attrsL] at hi; omega
  rcases this with rfl | rfl | rfl | rfl <;> rfl

theorem safeSchemes_any (w : World) : Calls Tryz.prog 98 #[] w fun e w' => e = .returned (.slice (some ⟨w.heap.size, 0, none⟩) 3 3) ∧ w'.rowIs w.heap.size 9 3 (sv schemesL) ∧ Below w.heap.size w w' := by
  go_enter Tryz.func98, Tryz.ntmps98
  go_wp2
  go_ret
  refine ⟨rfl, lit_row w _ schemesL rfl (fun i hi => ?_), below_new _ _⟩
  have : i = 0 ∨ i = 1 ∨ i = 2 := by simp [schemesL] at hi; omega
  rcases this with rfl | rfl | rfl <;> rfl

end Go.Proofs.YtfdcfajliofbfaaGreatDoor

/- Words that are let in: a map of them, of which those that are not safe are taken out. -/
namespace Go.Proofs.YtfdcfajliofbfaaGreatDoor
open Go.RowKit Go.Maps
set_option linter.unusedVariables false
set_option linter.unusedSimpArgs false

theorem keyed9 : Keyed Tryz.prog 9 := string_keyed Tryz.underlying9
theorem zeroE (w : World) : (zeroValue 166).run Tryz.prog w = .ok (.agg #[]) w := by kernel_rfl

/-- The map in block b has just the texts that f tells. -/
def WS (w : World) (b : Nat) (f : ByteArray → Bool) : Prop := ∃ n D, w.ownsMap Tryz.prog 9 (unitElem (H := Unit)) b n D ∧ ∀ s : ByteArray, Maps.has D (.string s.data.toList) = f s

theorem WS.block {w w' : World} {b : Nat} {f : ByteArray → Bool} (h : WS w b f) (hb : w'.heap[b]? = w.heap[b]?) : WS w' b f := by
  obtain ⟨n, D, ⟨es, clock, h1, r⟩, h2⟩ := h
  exact ⟨n, D, ⟨es, clock, hb.trans h1, r⟩, h2⟩

theorem WS.lt {w : World} {b : Nat} {f : ByteArray → Bool} (h : WS w b f) : b < w.heap.size := by
  obtain ⟨n, D, h1, _⟩ := h
  exact h1.lt

theorem WS.below {w w' : World} {b : Nat} {f : ByteArray → Bool} (h : WS w b f) (hb : Below w.heap.size w w') : WS w' b f := h.block (hb.block b h.lt)

theorem beq_same {x s : ByteArray} : (x.toList == s.toList) = true ↔ x = s := by
  rw [beq_iff_eq, tlData, tlData]
  constructor
  · intro h
    cases x; cases s
    simp at h
    rw [h]
  · rintro rfl; rfl

theorem lit_ne {x s : ByteArray} (h : ¬ x = s) : (Lit.string s.data.toList) ≠ .string x.data.toList := by
  intro e
  injection e with e
  apply h
  cases x; cases s
  simp at e
  rw [e]

theorem has_put_is {D : DataW Unit} {f : ByteArray → Bool} (hD : IsMap D) (h : ∀ s : ByteArray, Maps.has D (.string s.data.toList) = f s) (x : ByteArray) (d : DataW Unit) (s : ByteArray) :
    Maps.has (D.put (.string x.data.toList) d) (.string s.data.toList) = (f s || (x.toList == s.toList)) := by
  by_cases e : x = s
  · subst e
    rw [has_put_same hD (by trivial), beq_same.2 rfl, Bool.or_true]
  · rw [has_put_other (lit_ne e), h s]
    have : (x.toList == s.toList) = false := Bool.eq_false_iff.2 fun hh => e (beq_same.1 hh)
    rw [this, Bool.or_false]

theorem has_del_is {D : DataW Unit} {f : ByteArray → Bool} (h : ∀ s : ByteArray, Maps.has D (.string s.data.toList) = f s) (x s : ByteArray) :
    Maps.has (D.del (.string x.data.toList)) (.string s.data.toList) = (f s && !(x.toList == s.toList)) := by
  by_cases e : x = s
  · subst e
    rw [has_del_same, beq_same.2 rfl]; simp
  · rw [has_del_other (lit_ne e), h s]
    have : (x.toList == s.toList) = false := Bool.eq_false_iff.2 fun hh => e (beq_same.1 hh)
    rw [this]; simp

/-- What is left of l when its first k words have been held against safe. -/
def leftB (l safe : List ByteArray) (k : Nat) (s : ByteArray) : Bool := hasL l s && !(hasL (l.take k) s && !hasL safe s)

theorem hasL_eq {l : List ByteArray} {x s : ByteArray} (h : (x.toList == s.toList) = true) : hasL l x = hasL l s := by rw [beq_same.1 h]

theorem leftB_keep {l safe : List ByteArray} {k : Nat} (hk : k < l.length) (hs : hasL safe (sK l k) = true) (s : ByteArray) : leftB l safe (k + 1) s = leftB l safe k s := by
  unfold leftB
  rw [hasL_take hk]
  cases he : ((sK l k).toList == s.toList) with
  | false => rw [Bool.or_false]
  | true => rw [← hasL_eq (l := safe) he, hs]; simp

theorem leftB_drop {l safe : List ByteArray} {k : Nat} (hk : k < l.length) (hs : hasL safe (sK l k) = false) (s : ByteArray) : leftB l safe (k + 1) s = (leftB l safe k s && !((sK l k).toList == s.toList)) := by
  unfold leftB
  rw [hasL_take hk]
  cases he : ((sK l k).toList == s.toList) with
  | false => rw [Bool.or_false]; simp
  | true => rw [← hasL_eq (l := safe) he, hs]; simp

theorem leftB_end (l safe : List ByteArray) (s : ByteArray) : leftB l safe l.length s = (hasL l s && hasL safe s) := by
  unfold leftB
  rw [List.take_length]
  cases hasL l s <;> cases hasL safe s <;> rfl

set_option maxRecDepth 100000 in
set_option maxHeartbeats 3200000 in
theorem letIn_any (a b : Option Addr) (c d : Nat) (l safe : List ByteArray) (w : World) (ha : StAt w a l) (hb : StAt w b safe) (hl : (l.length : Int) + ssz l ≤ 1048576) (hm : (safe.length : Int) ≤ 1048576) :
    Calls Tryz.prog 95 #[.slice a l.length c, .slice b safe.length d] w fun e w' => e = .returned (.map (some w.heap.size)) ∧ WS w' w.heap.size (fun s => hasL l s && hasL safe s) ∧ Below w.heap.size w w' := by
  have hmm := @run_makeMap Tryz.prog
  have HA := Hid.mk' ha
  have HS := Hid.mk' hb
  clear ha hb
  go_enter Tryz.func95, Tryz.ntmps95
  go_wp2
  go_loopw [13] (fun i wr => ∃ k : Nat, k ≤ l.length ∧ i = .int .i64 k ∧ (∃ D, wr.ownsMap Tryz.prog 9 (unitElem (H := Unit)) w.heap.size k D ∧ ∀ s : ByteArray, Maps.has D (.string s.data.toList) = hasL (l.take k) s) ∧ Below w.heap.size w wr) (fun i _ => l.length - (intOf i).toNat)
  case atStart => exact ⟨0, Nat.zero_le _, rfl, ⟨_, World.ownsMap_made _ _ _ _, fun s => rfl⟩, (Below.refl _ _).alloc (Nat.le_refl _) _⟩
  case round =>
    obtain ⟨k, hk, rfl, ⟨D, hown, hD⟩, hbl⟩ := hrel
    have HD := Hid.mk' hD
    have HB := Hid.mk' hbl
    have HW := Hid.mk' hown
    clear hmm hD
    by_cases hlt : k < l.length
    · have ci : (k : Int) < (l.length : Int) := by omega
      rcases HA.out with ha | ⟨b1, o1, rfl, hbs, hcl⟩
      · exact absurd hlt (by rw [ha]; exact Nat.not_lt_zero _)
      have h1 : wr.cell? ⟨b1, o1 + k, none⟩ = some (.string (sK l k)) := (hbl.cell hbs).trans (hcl k hlt)
      have hz := sK_le l k hlt
      have HK := Hid.mk' (WideMaps.keyOf_string_mk (P := Tryz.prog) Tryz.underlying9 (s := sK l k) (by unfold maxLen; omega))
      have HT := Hid.mk' (fun s => hasL_take (s := s) hlt)
      clear hbl hcl hown hz
      generalize sK l k = x at *
      go_wp2_with (first | (at_mapUpdate; refine wpList_mapUpdate_own _ rfl _ _ _ 87 rfl 9 166 keyed9 Tryz.underlying87 (unitElem (H := Unit)) w.heap.size k D rfl HW.out (by unfold maxLen; omega) _ _ _ rfl rfl HK.out _ [] unitElem_mk ?_; intro w1 hown1 hgrow1) | go_in)
      go_roundw
      case rel => exact ⟨k + 1, by omega, by go_num, ⟨_, hown1, fun s => by rw [has_put_is HW.out.isMap HD.out, HT.out]⟩, HB.out.grown hgrow1 HB.out.size (fun j hj => by cases hj; exact Nat.le_refl _)⟩
      case measure => simp [intOf]; omega
    · have ci : ¬ (k : Int) < (l.length : Int) := by omega
      have e : k = l.length := by omega
      subst e
      clear hown hbl hlt hk
      go_wp2
      go_loopw [23] (fun i wr => ∃ k : Nat, k ≤ l.length ∧ i = .int .i64 k ∧ (∃ n D, wr.ownsMap Tryz.prog 9 (unitElem (H := Unit)) w.heap.size n D ∧ ∀ s : ByteArray, Maps.has D (.string s.data.toList) = leftB l safe k s) ∧ Below w.heap.size w wr) (fun i _ => l.length - (intOf i).toNat)
      case atStart => exact ⟨0, Nat.zero_le _, rfl, ⟨_, _, HW.out, fun s => by rw [HD.out, List.take_length]; unfold leftB; rw [List.take_zero]; simp [hasL]⟩, HB.out⟩
      case round =>
        obtain ⟨k, hk, rfl, ⟨n, D, hown, hD⟩, hbl⟩ := hrel
        have HD := Hid.mk' hD
        have HB := Hid.mk' hbl
        have HW := Hid.mk' hown
        clear hD
        by_cases hlt : k < l.length
        · have ci : (k : Int) < (l.length : Int) := by omega
          rcases HA.out with ha | ⟨b1, o1, rfl, hbs, hcl⟩
          · exact absurd hlt (by rw [ha]; exact Nat.not_lt_zero _)
          have h1 : wr.cell? ⟨b1, o1 + k, none⟩ = some (.string (sK l k)) := (hbl.cell hbs).trans (hcl k hlt)
          have hz := sK_le l k hlt
          have HK := Hid.mk' (WideMaps.keyOf_string_mk (P := Tryz.prog) Tryz.underlying9 (s := sK l k) (by unfold maxLen; omega))
          have L1 := Hid.mk' (leftB_keep (safe := safe) hlt)
          have L2 := Hid.mk' (leftB_drop (safe := safe) hlt)
          have KC := containsS_any b d safe (sK l k) wr (HS.out.below hbl) hm
          clear hbl hcl hown hz
          generalize sK l k = x at *
          cases hc : hasL safe x with
          | true =>
            rw [hc] at KC
            have KC := Hid.mk' KC
            have L1 := Hid.mk' (L1.out hc)
            go_wp2_with fail
            refine KC.out.mono ?_
            rintro e w1 ⟨rfl, hw1⟩
            obtain rfl := hw1.symm
            go_wp2
            go_roundw
            case rel => exact ⟨k + 1, by omega, by go_num, ⟨n, D, HW.out, fun s => by rw [HD.out, L1.out]⟩, HB.out⟩
            case measure => simp [intOf]; omega
          | false =>
            rw [hc] at KC
            have KC := Hid.mk' KC
            have L2 := Hid.mk' (L2.out hc)
            go_wp2_with fail
            refine KC.out.mono ?_
            rintro e w1 ⟨rfl, hw1⟩
            obtain rfl := hw1.symm
            go_wp2_with (first | (at_delete; refine wpList_delete_own _ rfl _ _ 87 9 rfl 166 keyed9 Tryz.underlying87 _ w.heap.size n D rfl HW.out _ _ rfl HK.out ?_; intro w1 hown1 hturn1) | go_in)
            go_roundw
            case rel => exact ⟨k + 1, by omega, by go_num, ⟨n, _, hown1, fun s => by rw [has_del_is HD.out, L2.out]⟩, HB.out.grown hturn1.grown HB.out.size (fun j hj => by cases hj; exact Nat.le_refl _)⟩
            case measure => simp [intOf]; omega
        · have ci : ¬ (k : Int) < (l.length : Int) := by omega
          have e : k = l.length := by omega
          subst e
          go_wp2
          go_ret
          exact ⟨rfl, ⟨n, D, HW.out, fun s => by rw [HD.out, leftB_end]⟩, HB.out⟩

set_option maxRecDepth 100000 in
theorem hasW_any (b : Nat) (f : ByteArray → Bool) (s : ByteArray) (w : World) (h : WS w b f) (hs : (s.size : Int) ≤ 1048576) :
    Calls Tryz.prog 99 #[.map (some b), .string s] w fun e w' => e = .returned (.bool (f s)) ∧ Below w.heap.size w w' := by
  obtain ⟨n, D, h1, h2⟩ := h
  have HW := Hid.mk' h1
  have HD := Hid.mk' h2
  have HK := Hid.mk' (WideMaps.keyOf_string_mk (P := Tryz.prog) Tryz.underlying9 (s := s) (by unfold maxLen; omega))
  clear h1 h2
  go_enter Tryz.func99, Tryz.ntmps99
  go_wp2_with (first | (at_lookup; refine wpList_lookup_own_unit _ rfl _ _ 87 rfl 9 166 keyed9 Tryz.underlying87 (zeroE _) b n D rfl HW.out _ _ rfl HK.out ?_) | go_in)
  go_ret
  exact ⟨by rw [← HD.out]; rfl, below_new _ _⟩

end Go.Proofs.YtfdcfajliofbfaaGreatDoor

/- What a policy lets in: MayTag, both sides, and the law. -/
namespace Go.Proofs.YtfdcfajliofbfaaGreatDoor
open Go.RowKit Go.Maps
set_option linter.unusedVariables false
set_option linter.unusedSimpArgs false

/-- What a policy lets in, as three maps in blocks of one's own. -/
structure PM (p : PO) (lo b1 b2 b3 : Nat) (w : World) : Prop where
  t : WS w b1 (fun s => hasL p.tg s && hasL tagsL s)
  a : WS w b2 (fun s => hasL p.at_ s && hasL attrsL s)
  s : WS w b3 (fun s => hasL p.sc s && hasL schemesL s)
  l1 : lo ≤ b1
  l2 : lo ≤ b2
  l3 : lo ≤ b3

theorem PM.below {p : PO} {lo b1 b2 b3 : Nat} {w w' : World} (h : PM p lo b1 b2 b3 w) (hb : Below w.heap.size w w') : PM p lo b1 b2 b3 w' := ⟨h.t.below hb, h.a.below hb, h.s.below hb, h.l1, h.l2, h.l3⟩

theorem PM.keep {p : PO} {lo b1 b2 b3 lo' hi' : Nat} {w w' : World} (h : PM p lo b1 b2 b3 w) (hk : KeptIn lo' hi' w w') (hd : hi' ≤ lo) : PM p lo b1 b2 b3 w' :=
  ⟨h.t.block (hk.block _ h.t.lt (.inr (by have := h.l1; omega))), h.a.block (hk.block _ h.a.lt (.inr (by have := h.l2; omega))), h.s.block (hk.block _ h.s.lt (.inr (by have := h.l3; omega))), h.l1, h.l2, h.l3⟩

/-- What permitOf leaves. -/
def PermP (p : PO) (w : World) (e : Ending) (w' : World) : Prop :=
  (¬ polF p = 0 ∧ e = .returned (.tuple #[.agg #[.map none, .map none, .map none], .int .i64 (polF p)]) ∧ Below w.heap.size w w') ∨
  (polF p = 0 ∧ ∃ b1 b2 b3, e = .returned (.tuple #[.agg #[.map (some b1), .map (some b2), .map (some b3)], .int .i64 0]) ∧ PM p w.heap.size b1 b2 b3 w' ∧ Below w.heap.size w w')

/-- The boxes of permitOf. -/
theorem boxesM (w : World) (x0 x1 x2 : Value) :
    let W := (w.alloc (.cells #[x0, x1, x2] 35)).alloc (.cells #[.map none, .map none, .map none] 89)
    Below w.heap.size w W ∧ W.rowIs w.heap.size 35 3 (r3 x0 x1 x2) ∧ W.rowIs (w.heap.size + 1) 89 3 (r3 (.map none) (.map none) (.map none)) := by
  refine ⟨(below_new w _).alloc (by simp) _, (row3 w _ x0 x1 x2).alloc _, ?_⟩
  have := row3 (w.alloc (.cells #[x0, x1, x2] 35)) 89 (.map none) (.map none) (.map none)
  rw [show (w.alloc (.cells #[x0, x1, x2] 35)).heap.size = w.heap.size + 1 by simp] at this
  exact this

theorem safeTags_ex (w : World) : Calls Tryz.prog 96 #[] w fun e w' => ∃ g, e = .returned (.slice (some ⟨g, 0, none⟩) 6 6) ∧ w'.rowIs g 9 6 (sv tagsL) ∧ Below w.heap.size w w' :=
  (safeTags_any w).mono fun e w' ⟨h1, h2, h3⟩ => ⟨_, h1, h2, h3⟩

theorem safeAttrs_ex (w : World) : Calls Tryz.prog 97 #[] w fun e w' => ∃ g, e = .returned (.slice (some ⟨g, 0, none⟩) 4 4) ∧ w'.rowIs g 9 4 (sv attrsL) ∧ Below w.heap.size w w' :=
  (safeAttrs_any w).mono fun e w' ⟨h1, h2, h3⟩ => ⟨_, h1, h2, h3⟩

theorem safeSchemes_ex (w : World) : Calls Tryz.prog 98 #[] w fun e w' => ∃ g, e = .returned (.slice (some ⟨g, 0, none⟩) 3 3) ∧ w'.rowIs g 9 3 (sv schemesL) ∧ Below w.heap.size w w' :=
  (safeSchemes_any w).mono fun e w' ⟨h1, h2, h3⟩ => ⟨_, h1, h2, h3⟩

theorem letIn_ex (a b : Option Addr) (c d : Nat) (l safe : List ByteArray) (w : World) (ha : StAt w a l) (hb : StAt w b safe) (hl : (l.length : Int) + ssz l ≤ 1048576) (hm : (safe.length : Int) ≤ 1048576) :
    Calls Tryz.prog 95 #[.slice a l.length c, .slice b safe.length d] w fun e w' => ∃ m, e = .returned (.map (some m)) ∧ w.heap.size ≤ m ∧ WS w' m (fun s => hasL l s && hasL safe s) ∧ Below w.heap.size w w' :=
  (letIn_any a b c d l safe w ha hb hl hm).mono fun e w' ⟨h1, h2, h3⟩ => ⟨_, h1, Nat.le_refl _, h2, h3⟩

set_option maxRecDepth 100000 in
set_option maxHeartbeats 6400000 in
theorem permitOf_any (p : PO) (a b c : Option Addr) (n1 n2 n3 : Nat) (w : World) (ha : POAt w a b c p) (hl : (psz p : Int) ≤ 1048576) :
    Calls Tryz.prog 53 #[.agg #[.slice a p.tg.length n1, .slice b p.at_.length n2, .slice c p.sc.length n3]] w fun e w' => PermP p w e w' := by
  obtain ⟨N0, RX, RR⟩ := boxesM w (.slice a p.tg.length n1) (.slice b p.at_.length n2) (.slice c p.sc.length n3)
  have KF := Hid.mk' (implPF_any p a b c n1 n2 n3 _ (ha.below N0) hl)
  have HA := Hid.mk' (ha.below N0)
  have HB := Hid.mk' N0
  have HX := Hid.mk' RX
  have HR := Hid.mk' RR
  unfold psz at hl
  clear ha N0 RX RR
  generalize hW : (w.alloc (.cells #[.slice a p.tg.length n1, .slice b p.at_.length n2, .slice c p.sc.length n3] 35)).alloc (.cells #[.map none, .map none, .map none] 89) = W at *
  obtain ⟨x0, x1, x2, x3⟩ := cellsP HX.out
  go_enter Tryz.func53, Tryz.ntmps53
  go_wp2_with fail
  clear hW
  refine KF.out.mono ?_
  rintro e w1 ⟨rfl, hb⟩
  have HX := Hid.mk' (rowB HX.out hb)
  have HR := Hid.mk' (rowB HR.out hb)
  have HA := Hid.mk' (HA.out.below hb)
  have HB := Hid.mk' (HB.out.trans (hb.mono HB.out.size))
  clear hb KF x0 x1 x2 x3
  by_cases hp : polF p = 0
  · have HP := Hid.mk' hp
    rw [hp]
    clear hp
    obtain ⟨x0, x1, x2, x3⟩ := cellsP HX.out
    obtain ⟨y0, y1, y2, y3⟩ := cellsP HR.out
    obtain ⟨f0, f1, f2⟩ := frz3 HR.out
    have hbd : ∀ (m1 m2 m3 : Nat) (w : World), (Instr.build 89 #[(0, .map (some m1)), (1, .map (some m2)), (2, .map (some m3))]).run Tryz.prog w = .ok (.agg #[.map (some m1), .map (some m2), .map (some m3)]) w := fun _ _ _ _ => by go_simp
    go_wp2
    go_region_held3 (fun w' => w'.cell? ⟨w.heap.size, 0, none⟩ = some (.slice a p.tg.length n1) ∧ w'.cell? ⟨w.heap.size, 1, none⟩ = some (.slice b p.at_.length n2) ∧ w'.cell? ⟨w.heap.size, 2, none⟩ = some (.slice c p.sc.length n3) ∧ w'.frozen? ⟨w.heap.size + 1, 0, none⟩ = false ∧ w'.frozen? ⟨w.heap.size + 1, 1, none⟩ = false ∧ w'.frozen? ⟨w.heap.size + 1, 2, none⟩ = false) (simp [*, go_sem])
      (first | (go_at_call 96; refine (safeTags_ex _).mono ?_; rintro e v1 ⟨g1, rfl, rt1, hb1⟩; replace hb1 := undrew hb1; obtain ⟨hx1, hy1⟩ := bcell hb1; have z1 : w.heap.size + 1 < v1.heap.size := (by have := hb1.size; omega); have z1' : w.heap.size < v1.heap.size := (by omega)) | (go_at_call_of 95 (Value.slice (some ⟨g1, 0, none⟩) 6 6); refine (letIn_ex _ _ _ _ p.tg tagsL v1 (HA.out.below hb1).1 (.of_row rt1) (by omega) (by decide)).mono ?_; rintro e v2 ⟨m1, rfl, lm1, wsm1, hc2⟩; obtain ⟨hx2, hy2⟩ := bcell hc2; have hb2 := hb1.trans (hc2.mono hb1.size); have z2 : w.heap.size + 1 < v2.heap.size := (by have := hc2.size; omega); have z2' : w.heap.size < v2.heap.size := (by omega)) | (go_at_call 97; refine (safeAttrs_ex _).mono ?_; rintro e v3 ⟨g3, rfl, rt3, hc3⟩; obtain ⟨hx3, hy3⟩ := bcell hc3; have hb3 := hb2.trans (hc3.mono hb2.size); have z3 : w.heap.size + 1 < v3.heap.size := (by have := hc3.size; omega); have z3' : w.heap.size < v3.heap.size := (by omega)) | (go_at_call_of 95 (Value.slice (some ⟨g3, 0, none⟩) 4 4); refine (letIn_ex _ _ _ _ p.at_ attrsL v3 (HA.out.below hb3).2.1 (.of_row rt3) (by omega) (by decide)).mono ?_; rintro e v4 ⟨m2, rfl, lm2, wsm2, hc4⟩; obtain ⟨hx4, hy4⟩ := bcell hc4; have hb4 := hb3.trans (hc4.mono hb3.size); have z4 : w.heap.size + 1 < v4.heap.size := (by have := hc4.size; omega); have z4' : w.heap.size < v4.heap.size := (by omega)) | (go_at_call 98; refine (safeSchemes_ex _).mono ?_; rintro e v5 ⟨g5, rfl, rt5, hc5⟩; obtain ⟨hx5, hy5⟩ := bcell hc5; have hb5 := hb4.trans (hc5.mono hb4.size); have z5 : w.heap.size + 1 < v5.heap.size := (by have := hc5.size; omega); have z5' : w.heap.size < v5.heap.size := (by omega)) | (go_at_call_of 95 (Value.slice (some ⟨g5, 0, none⟩) 3 3); refine (letIn_ex _ _ _ _ p.sc schemesL v5 (HA.out.below hb5).2.2 (.of_row rt5) (by omega) (by decide)).mono ?_; rintro e v6 ⟨m3, rfl, lm3, wsm3, hc6⟩; obtain ⟨hx6, hy6⟩ := bcell hc6; have hb6 := hb5.trans (hc6.mono hb5.size); have z6 : w.heap.size + 1 < v6.heap.size := (by have := hc6.size; omega); have z6' : w.heap.size < v6.heap.size := (by omega)))
    have HB6 := Hid.mk' (HB.out.trans (hb6.mono HB.out.size))
    have R6 := rowB HR.out hb6
    have W1 := Hid.mk' ((((wsm1.below hc3).below hc4).below hc5).below hc6)
    have W2 := Hid.mk' ((wsm2.below hc5).below hc6)
    have W3 := Hid.mk' wsm3
    have LL : Hid (w.heap.size + 1 + 1 ≤ m1 ∧ w.heap.size + 1 + 1 ≤ m2 ∧ w.heap.size + 1 + 1 ≤ m3) := Hid.mk' (by omega)
    obtain ⟨b0, b1, b2, b3⟩ := cellsP R6
    obtain ⟨e0, e1, e2⟩ := frz3 R6
    clear hx1 hx2 hx3 hx4 hx5 hx6 hy1 hy2 hy3 hy4 hy5 hy6 wsm1 wsm2 wsm3 hb1 hb2 hb3 hb4 hb5 hb6 hc2 hc3 hc4 hc5 hc6 rt1 rt3 rt5 x0 x1 x2 x3 y0 y1 y2 y3 f0 f1 f2 R6 lm1 lm2 lm3 z1 z2 z3 z4 z5 z6 z1' z2' z3' z4' z5' z6'
    go_wp2
    refine bodyPost_ret (v := .tuple #[.agg #[.map (some m1), .map (some m2), .map (some m3)], .int .i64 0]) (by simp [results, Tryz.results53, go_sem, *]) rfl (.inr ⟨HP.out, m1, m2, m3, rfl, ?_, ?_⟩)
    · have KK := (((KeptIn.refl (w.heap.size + 1) (w.heap.size + 1 + 1) v6).setCell (p := ⟨w.heap.size + 1, 0, none⟩) (by simp) (by simp) (.map (some m1))).setCell (p := ⟨w.heap.size + 1, 1, none⟩) (by simp) (by simp) (.map (some m2))).setCell (p := ⟨w.heap.size + 1, 2, none⟩) (by simp) (by simp) (.map (some m3))
      have hL := LL.out
      exact ⟨W1.out.block (KK.block _ W1.out.lt (.inr (by omega))), W2.out.block (KK.block _ W2.out.lt (.inr (by omega))), W3.out.block (KK.block _ W3.out.lt (.inr (by omega))), by omega, by omega, by omega⟩
    · exact ((HB6.out.setCell (p := ⟨w.heap.size + 1, 0, none⟩) (by simp) _).setCell (p := ⟨w.heap.size + 1, 1, none⟩) (by simp) _).setCell (p := ⟨w.heap.size + 1, 2, none⟩) (by simp) _
  · obtain ⟨y0, y1, y2, y3⟩ := cellsP HR.out
    obtain ⟨f0, f1, f2⟩ := frz3 HR.out
    have HP := Hid.mk' hp
    have E : Hid (∀ e w', e = .returned (.tuple #[.agg #[.map none, .map none, .map none], .int .i64 (polF p)]) → Below w.heap.size w w' → PermP p w e w') := Hid.mk' fun e w' h1 h2 => .inl ⟨HP.out, h1, h2⟩
    generalize polF p = pf at *
    go_wp2
    refine bodyPost_ret (v := .tuple #[.agg #[.map none, .map none, .map none], .int .i64 pf]) (by simp [results, Tryz.results53, go_sem, *]) rfl ?_
    exact E.out _ _ rfl (((HB.out.setCell (p := ⟨w.heap.size + 1, 0, none⟩) (by simp) _).setCell (p := ⟨w.heap.size + 1, 1, none⟩) (by simp) _).setCell (p := ⟨w.heap.size + 1, 2, none⟩) (by simp) _)

/-- Whether a tag may be. -/
def mayT (p : PO) (t : ByteArray) : Bool := decide (polF p = 0) && (hasL p.tg t && hasL tagsL t)

theorem mayT_bad {p : PO} {t : ByteArray} (h : ¬ polF p = 0) : mayT p t = false := by simp [mayT, h]
theorem mayT_good {p : PO} {t : ByteArray} (h : polF p = 0) : mayT p t = (hasL p.tg t && hasL tagsL t) := by simp [mayT, h]

set_option maxHeartbeats 1600000 in
theorem l8May_any (p : PO) (g : Nat) (a b c : Option Addr) (n1 n2 n3 : Nat) (t : ByteArray) (w : World) (hr : w.rowIs g 35 3 (r3 (.slice a p.tg.length n1) (.slice b p.at_.length n2) (.slice c p.sc.length n3))) (ha : POAt w a b c p) (hl : (psz p : Int) ≤ 1048576) :
    Calls Tryz.prog 109 #[.pointer (some ⟨g, 0, none⟩), .string t] w fun e w' => e = .returned (.bool (hasL p.tg t && hasL tagsL t)) ∧ Below w.heap.size w w' := by
  unfold psz at hl
  have HR := Hid.mk' hr
  have HA := Hid.mk' ha
  clear hr ha
  go_enter Tryz.func109, Tryz.ntmps109
  go_wp2_with fail
  refine (l8Tags_any w).mono ?_
  rintro e w1 ⟨rfl, rt, hb⟩
  have HB := Hid.mk' hb
  have HR := Hid.mk' (rowB HR.out hb)
  have HA := Hid.mk' (HA.out.below hb)
  have K1 := l8Has_any (some ⟨w.heap.size, 0, none⟩) 6 tagsL t w1 (.of_row rt) (by decide)
  have K2 := Hid.mk' (l8Has_any a n1 p.tg t w1 HA.out.1 (by omega))
  clear hb rt
  obtain ⟨x0, x1, x2, x3⟩ := cellsP HR.out
  cases h1 : hasL tagsL t with
  | true =>
    rw [h1] at K1
    have K1 := Hid.mk' K1
    go_wp2_with fail
    refine K1.out.mono ?_
    rintro e w2 ⟨rfl, hw⟩
    obtain rfl := hw.symm
    go_wp2_with fail
    refine K2.out.mono ?_
    rintro e w2 ⟨rfl, hw⟩
    obtain rfl := hw.symm
    go_wp2
    go_ret
    exact ⟨by simp [h1], HB.out⟩
  | false =>
    rw [h1] at K1
    have K1 := Hid.mk' K1
    go_wp2_with fail
    refine K1.out.mono ?_
    rintro e w2 ⟨rfl, hw⟩
    obtain rfl := hw.symm
    go_wp2
    go_ret
    exact ⟨by simp [h1], HB.out⟩

end Go.Proofs.YtfdcfajliofbfaaGreatDoor
