/- PolicyFault: both sides, and the law. -/
import Derived.Test.YthhdfbgjdfoalaaGreatDoorU5
import Derived.BigGuard
import Derived.Test.YthhdfbgjdfoalaaGreatDoorCa
namespace Go.Proofs.YthhdfbgjdfoalaaGreatDoor
open Go.RowKit
set_option linter.unusedVariables false
set_option linter.unusedSimpArgs false

theorem pol_cases (p : PO) : (((p.tg.length : Int) > 10 ∨ (¬ (p.tg.length : Int) > 10 ∧ (p.at_.length : Int) > 10) ∨ (¬ (p.tg.length : Int) > 10 ∧ ¬ (p.at_.length : Int) > 10 ∧ (p.sc.length : Int) > 10)) ∧ polF p = 2) ∨
    ((¬ (p.tg.length : Int) > 10 ∧ ¬ (p.at_.length : Int) > 10 ∧ ¬ (p.sc.length : Int) > 10) ∧ polF p = if ¬ wfault p.tg = 0 then wfault p.tg else if ¬ wfault p.at_ = 0 then wfault p.at_ else wfault p.sc) := by
  by_cases h : 10 < p.tg.length ∨ 10 < p.at_.length ∨ 10 < p.sc.length
  · exact .inl ⟨by omega, by unfold polF; rw [if_pos h]⟩
  · exact .inr ⟨by omega, by unfold polF; rw [if_neg h]⟩

set_option maxHeartbeats 3200000 in
theorem l8Fault_any (p : PO) (g : Nat) (a b c : Option Addr) (n1 n2 n3 : Nat) (w : World) (hr : w.rowIs g 32 3 (r3 (.slice a p.tg.length n1) (.slice b p.at_.length n2) (.slice c p.sc.length n3))) (ha : POAt w a b c p) (hl : (psz p : Int) ≤ 1048576) :
    Calls Tryz.prog 25 #[.pointer (some ⟨g, 0, none⟩)] w fun e w' => e = .returned (.int .i64 (polF p)) ∧ Below w.heap.size w w' := by
  unfold psz at hl
  have HR := Hid.mk' hr
  have HA := Hid.mk' ha
  obtain ⟨x0, x1, x2, x3⟩ := cellsP hr
  clear hr ha
  rcases pol_cases p with ⟨hc, hE⟩ | ⟨⟨h1, h2, h3⟩, hE⟩
  · have E := Hid.mk' hE
    clear hE
    rcases hc with h1 | ⟨h1, h2⟩ | ⟨h1, h2, h3⟩
    all_goals go_enter Tryz.func25, Tryz.ntmps25
    all_goals go_wp2_with (first | go_big_skip)
    all_goals go_ret
    all_goals exact ⟨by rw [E.out]; rfl, Below.refl _ _⟩
  · have E := Hid.mk' hE
    clear hE
    have K1 := Hid.mk' (l8Words_any a n1 p.tg w HA.out.1 (by omega))
    go_enter Tryz.func25, Tryz.ntmps25
    go_wp2_with (first | go_big_skip)
    refine K1.out.mono ?_
    rintro e w1 ⟨rfl, hb⟩
    have HB := Hid.mk' hb
    have HR := Hid.mk' (rowB HR.out hb)
    have HA := Hid.mk' (HA.out.below hb)
    have K2 := Hid.mk' (l8Words_any b n2 p.at_ w1 HA.out.2.1 (by omega))
    clear hb x0 x1 x2 x3 K1
    obtain ⟨x0, x1, x2, x3⟩ := cellsP HR.out
    by_cases e1 : wfault p.tg = 0
    · have E : Hid (polF p = if ¬ wfault p.at_ = 0 then wfault p.at_ else wfault p.sc) := Hid.mk' (by rw [E.out, if_neg (by simp [e1])])
      rw [e1]
      clear e1
      go_wp2_with fail
      refine K2.out.mono ?_
      rintro e w2 ⟨rfl, hb⟩
      have HB := Hid.mk' (HB.out.trans (hb.mono HB.out.size))
      have HR := Hid.mk' (rowB HR.out hb)
      have HA := Hid.mk' (HA.out.below hb)
      have K3 := Hid.mk' (l8Words_any c n3 p.sc w2 HA.out.2.2 (by omega))
      clear hb x0 x1 x2 x3 K2
      obtain ⟨x0, x1, x2, x3⟩ := cellsP HR.out
      by_cases e2 : wfault p.at_ = 0
      · have E : Hid (polF p = wfault p.sc) := Hid.mk' (by rw [E.out, if_neg (by simp [e2])])
        rw [e2]
        clear e2
        go_wp2_with fail
        refine K3.out.mono ?_
        rintro e w3 ⟨rfl, hb⟩
        have HB := Hid.mk' (HB.out.trans (hb.mono HB.out.size))
        clear hb
        go_wp2
        go_ret
        exact ⟨by rw [E.out]; rfl, HB.out⟩
      · have E : Hid (polF p = wfault p.at_) := Hid.mk' (by rw [E.out, if_pos e2])
        generalize wfault p.at_ = f2 at *
        go_wp2
        go_ret
        exact ⟨by rw [E.out]; rfl, HB.out⟩
    · have E : Hid (polF p = wfault p.tg) := Hid.mk' (by rw [E.out, if_pos e1])
      generalize wfault p.tg = f1 at *
      go_wp2
      go_ret
      exact ⟨by rw [E.out]; rfl, HB.out⟩

set_option maxHeartbeats 3200000 in
theorem implPF_any (p : PO) (a b c : Option Addr) (n1 n2 n3 : Nat) (w : World) (ha : POAt w a b c p) (hl : (psz p : Int) ≤ 1048576) :
    Calls Tryz.prog 51 #[.agg #[.slice a p.tg.length n1, .slice b p.at_.length n2, .slice c p.sc.length n3]] w fun e w' => e = .returned (.int .i64 (polF p)) ∧ Below w.heap.size w w' := by
  unfold psz at hl
  have N0 := below_new w (.cells #[.slice a p.tg.length n1, .slice b p.at_.length n2, .slice c p.sc.length n3] 32)
  have HR := Hid.mk' (row3 w 32 (.slice a p.tg.length n1) (.slice b p.at_.length n2) (.slice c p.sc.length n3))
  have HA := Hid.mk' (ha.below N0)
  have HB := Hid.mk' N0
  clear N0 ha
  generalize hW : w.alloc (.cells #[.slice a p.tg.length n1, .slice b p.at_.length n2, .slice c p.sc.length n3] 32) = W at *
  obtain ⟨x0, x1, x2, x3⟩ := cellsP HR.out
  rcases pol_cases p with ⟨hc, hE⟩ | ⟨⟨h1, h2, h3⟩, hE⟩
  · have E := Hid.mk' hE
    clear hE
    rcases hc with h1 | ⟨h1, h2⟩ | ⟨h1, h2, h3⟩
    all_goals go_enter Tryz.func51, Tryz.ntmps51
    all_goals go_wp2_with (first | go_big_skip)
    all_goals go_ret
    all_goals exact ⟨by rw [E.out]; rfl, HB.out⟩
  · have E := Hid.mk' hE
    clear hE
    have K1 := Hid.mk' (wordsFault_any a n1 p.tg W HA.out.1 (by omega))
    go_enter Tryz.func51, Tryz.ntmps51
    go_wp2_with (first | go_big_skip)
    clear hW
    refine K1.out.mono ?_
    rintro e w1 ⟨rfl, hb⟩
    have HB := Hid.mk' (HB.out.trans (hb.mono HB.out.size))
    have HR := Hid.mk' (rowB HR.out hb)
    have HA := Hid.mk' (HA.out.below hb)
    have K2 := Hid.mk' (wordsFault_any b n2 p.at_ w1 HA.out.2.1 (by omega))
    clear hb x0 x1 x2 x3 K1
    obtain ⟨x0, x1, x2, x3⟩ := cellsP HR.out
    by_cases e1 : wfault p.tg = 0
    · have E : Hid (polF p = if ¬ wfault p.at_ = 0 then wfault p.at_ else wfault p.sc) := Hid.mk' (by rw [E.out, if_neg (by simp [e1])])
      rw [e1]
      clear e1
      go_wp2_with fail
      refine K2.out.mono ?_
      rintro e w2 ⟨rfl, hb⟩
      have HB := Hid.mk' (HB.out.trans (hb.mono HB.out.size))
      have HR := Hid.mk' (rowB HR.out hb)
      have HA := Hid.mk' (HA.out.below hb)
      have K3 := Hid.mk' (wordsFault_any c n3 p.sc w2 HA.out.2.2 (by omega))
      clear hb x0 x1 x2 x3 K2
      obtain ⟨x0, x1, x2, x3⟩ := cellsP HR.out
      by_cases e2 : wfault p.at_ = 0
      · have E : Hid (polF p = wfault p.sc) := Hid.mk' (by rw [E.out, if_neg (by simp [e2])])
        rw [e2]
        clear e2
        go_wp2_with fail
        refine K3.out.mono ?_
        rintro e w3 ⟨rfl, hb⟩
        have HB := Hid.mk' (HB.out.trans (hb.mono HB.out.size))
        clear hb
        go_wp2
        go_ret
        exact ⟨by rw [E.out]; rfl, HB.out⟩
      · have E : Hid (polF p = wfault p.at_) := Hid.mk' (by rw [E.out, if_pos e2])
        generalize wfault p.at_ = f2 at *
        go_wp2
        go_ret
        exact ⟨by rw [E.out]; rfl, HB.out⟩
    · have E : Hid (polF p = wfault p.tg) := Hid.mk' (by rw [E.out, if_pos e1])
      generalize wfault p.tg = f1 at *
      go_wp2
      go_ret
      exact ⟨by rw [E.out]; rfl, HB.out⟩

theorem toPolicy_at (p : PO) (a b c : Option Addr) (n1 n2 n3 : Nat) (w : World) (ha : POAt w a b c p) (hl : (psz p : Int) ≤ 1048576) :
    Calls Tryz.prog 8 #[.agg #[.slice a p.tg.length n1, .slice b p.at_.length n2, .slice c p.sc.length n3]] w fun e w' => ∃ g1 g2 g3, e = .returned (.agg #[.slice (some ⟨g1, 0, none⟩) p.tg.length p.tg.length, .slice (some ⟨g2, 0, none⟩) p.at_.length p.at_.length, .slice (some ⟨g3, 0, none⟩) p.sc.length p.sc.length]) ∧ POAt w' (some ⟨g1, 0, none⟩) (some ⟨g2, 0, none⟩) (some ⟨g3, 0, none⟩) p ∧ Below w.heap.size w w' :=
  (toPolicy_any p a b c n1 n2 n3 w ha hl).mono fun e w' ⟨g1, g2, g3, h1, h2, h3⟩ => ⟨g1, g2, g3, h1, h2.at, h3⟩

end Go.Proofs.YthhdfbgjdfoalaaGreatDoor

/- Dropped tags; whether a list of texts has one; the lists of words that are safe: both sides. -/
namespace Go.Proofs.YthhdfbgjdfoalaaGreatDoor
open Go.RowKit
set_option linter.unusedVariables false
set_option linter.unusedSimpArgs false

/-- script or style. -/
def dropB (s : ByteArray) : Bool := (s.toList == [115, 99, 114, 105, 112, 116]) || (s.toList == [115, 116, 121, 108, 101])

/-- A list of texts has one. -/
def hasL (l : List ByteArray) (s : ByteArray) : Bool := l.any (fun x => x.toList == s.toList)

theorem hasL_take {l : List ByteArray} {s : ByteArray} {k : Nat} (hk : k < l.length) : hasL (l.take (k + 1)) s = (hasL (l.take k) s || ((sK l k).toList == s.toList)) := by
  have e : l.take (k + 1) = l.take k ++ [sK l k] := by
    rw [List.take_succ_eq_append_getElem hk]
    simp [sK, hk]
  unfold hasL
  rw [e, List.any_append]
  simp

theorem hasL_true {l : List ByteArray} {s : ByteArray} {k : Nat} (hk : k < l.length) (h : ((sK l k).toList == s.toList) = true) : hasL l s = true := by
  unfold hasL
  rw [List.any_eq_true]
  exact ⟨l[k], List.getElem_mem hk, by have e : sK l k = l[k] := by simp [sK, hk]
                                       rw [← e]; exact h⟩

set_option maxHeartbeats 800000 in
theorem l8Has_any (a : Option Addr) (c : Nat) (l : List ByteArray) (s : ByteArray) (w : World) (ha : StAt w a l) (hl : (l.length : Int) ≤ 1048576) :
    Calls Tryz.prog 74 #[.slice a l.length c, .string s] w fun e w' => e = .returned (.bool (hasL l s)) ∧ w' = w := by
  have HA := Hid.mk' ha
  clear ha
  go_enter Tryz.func74, Tryz.ntmps74
  go_wp2
  go_loop [5] (fun i => ∃ k : Nat, k ≤ l.length ∧ i = .int .i64 k ∧ hasL (l.take k) s = false) (fun i => l.length - (intOf i).toNat)
  case atStart => exact ⟨0, Nat.zero_le _, rfl, rfl⟩
  case round =>
    obtain ⟨k, hk, rfl, hf⟩ := hrel
    have HF := Hid.mk' hf
    clear hf
    by_cases hlt : k < l.length
    · have ci : (k : Int) < (l.length : Int) := by omega
      rcases HA.out with ha | ⟨b, o, rfl, hbs, hc⟩
      · exact absurd hlt (by rw [ha]; exact Nat.not_lt_zero _)
      have h1 := hc k hlt
      have HT := Hid.mk' (hasL_take (s := s) hlt)
      have HX := Hid.mk' (hasL_true (s := s) hlt)
      clear hc
      generalize sK l k = x at *
      cases he : (x.toList == s.toList) with
      | true =>
        have E := Hid.mk' (HX.out he)
        go_wp2
        go_ret
        exact ⟨by rw [E.out]; rfl, rfl⟩
      | false =>
        have E : Hid (hasL (l.take (k + 1)) s = false) := Hid.mk' (by rw [HT.out, HF.out, he]; rfl)
        go_wp2
        go_round
        case rel => exact ⟨k + 1, by omega, by go_num, E.out⟩
        case measure => simp [intOf]; omega
    · have ci : ¬ (k : Int) < (l.length : Int) := by omega
      have e : k = l.length := by omega
      have E : Hid (hasL l s = false) := Hid.mk' (by have := HF.out; rw [e, List.take_length] at this; exact this)
      go_wp2
      go_ret
      exact ⟨by rw [E.out]; rfl, rfl⟩

set_option maxHeartbeats 800000 in
theorem indexS_any (a : Option Addr) (c : Nat) (l : List ByteArray) (s : ByteArray) (w : World) (ha : StAt w a l) (hl : (l.length : Int) ≤ 1048576) :
    Calls Tryz.prog 105 #[.slice a l.length c, .string s] w fun e w' => ∃ z : Int, e = .returned (.int .i64 z) ∧ decide (0 ≤ z) = hasL l s ∧ w' = w := by
  have HA := Hid.mk' ha
  clear ha
  go_enter Tryz.func105, Tryz.ntmps105
  go_wp2
  go_loop [8] (fun i => ∃ k : Nat, k ≤ l.length ∧ i = .int .i64 k ∧ hasL (l.take k) s = false) (fun i => l.length - (intOf i).toNat)
  case atStart => exact ⟨0, Nat.zero_le _, rfl, rfl⟩
  case round =>
    obtain ⟨k, hk, rfl, hf⟩ := hrel
    have HF := Hid.mk' hf
    clear hf
    by_cases hlt : k < l.length
    · have ci : (k : Int) < (l.length : Int) := by omega
      rcases HA.out with ha | ⟨b, o, rfl, hbs, hc⟩
      · exact absurd hlt (by rw [ha]; exact Nat.not_lt_zero _)
      have h1 := hc k hlt
      have HT := Hid.mk' (hasL_take (s := s) hlt)
      have HX := Hid.mk' (hasL_true (s := s) hlt)
      clear hc
      generalize sK l k = x at *
      cases he : (s.toList == x.toList) with
      | true =>
        have he' : (x.toList == s.toList) = true := by rw [beq_iff_eq] at he ⊢; exact he.symm
        have E := Hid.mk' (HX.out he')
        clear he'
        go_wp2
        go_ret
        exact ⟨k, rfl, by rw [E.out]; simp, rfl⟩
      | false =>
        have he' : (x.toList == s.toList) = false := by
          rw [Bool.eq_false_iff] at he ⊢
          intro h
          exact he (by rw [beq_iff_eq] at h ⊢; exact h.symm)
        have E : Hid (hasL (l.take (k + 1)) s = false) := Hid.mk' (by rw [HT.out, HF.out, he']; rfl)
        clear he'
        go_wp2
        go_round
        case rel => exact ⟨k + 1, by omega, by go_num, E.out⟩
        case measure => simp [intOf]; omega
    · have ci : ¬ (k : Int) < (l.length : Int) := by omega
      have e : k = l.length := by omega
      have E : Hid (hasL l s = false) := Hid.mk' (by have := HF.out; rw [e, List.take_length] at this; exact this)
      go_wp2
      go_ret
      exact ⟨-1, rfl, by rw [E.out]; rfl, rfl⟩

theorem containsS_any (a : Option Addr) (c : Nat) (l : List ByteArray) (s : ByteArray) (w : World) (ha : StAt w a l) (hl : (l.length : Int) ≤ 1048576) :
    Calls Tryz.prog 80 #[.slice a l.length c, .string s] w fun e w' => e = .returned (.bool (hasL l s)) ∧ w' = w := by
  have K := Hid.mk' (indexS_any a c l s w ha hl)
  clear ha
  go_enter Tryz.func80, Tryz.ntmps80
  go_wp2_with fail
  refine K.out.mono ?_
  rintro e w1 ⟨z, rfl, hz, rfl⟩
  have HZ := Hid.mk' hz
  clear hz
  go_wp2
  go_ret
  exact ⟨by rw [← HZ.out]; simp, rfl⟩

def tagsL : List ByteArray := [⟨#[97]⟩, ⟨#[98]⟩, ⟨#[98, 114]⟩, ⟨#[105]⟩, ⟨#[105, 109, 103]⟩, ⟨#[112]⟩]
def attrsL : List ByteArray := [⟨#[104, 114, 101, 102]⟩, ⟨#[115, 114, 99]⟩, ⟨#[116, 105, 116, 108, 101]⟩, ⟨#[119, 105, 100, 116, 104]⟩]
def schemesL : List ByteArray := [⟨#[104, 116, 116, 112]⟩, ⟨#[104, 116, 116, 112, 115]⟩, ⟨#[109, 97, 105, 108, 116, 111]⟩]

theorem lit_row (w : World) (cs : Array Value) (l : List ByteArray) (hc : cs.size = l.length) (h : ∀ i, i < l.length → cs[i]? = some (sv l i)) : (w.alloc (.cells cs 9)).rowIs w.heap.size 9 l.length (sv l) :=
  ⟨cs, Deep.blk_alloc_new _ _, hc, fun i hi => h i hi⟩

theorem l8Tags_any (w : World) : Calls Tryz.prog 92 #[] w fun e w' => e = .returned (.slice (some ⟨w.heap.size, 0, none⟩) 6 6) ∧ w'.rowIs w.heap.size 9 6 (sv tagsL) ∧ Below w.heap.size w w' := by
  go_enter Tryz.func92, Tryz.ntmps92
  go_wp2
  go_ret
  refine ⟨rfl, lit_row w _ tagsL rfl (fun i hi => ?_), below_new _ _⟩
  have : i = 0 ∨ i = 1 ∨ i = 2 ∨ i = 3 ∨ i = 4 ∨ i = 5 := by simp [tagsL] at hi; omega
  rcases this with rfl | rfl | rfl | rfl | rfl | rfl <;> rfl

theorem safeTags_any (w : World) : Calls Tryz.prog 53 #[] w fun e w' => e = .returned (.slice (some ⟨w.heap.size, 0, none⟩) 6 6) ∧ w'.rowIs w.heap.size 9 6 (sv tagsL) ∧ Below w.heap.size w w' := by
  go_enter Tryz.func53, Tryz.ntmps53
  go_wp2
  go_ret
  refine ⟨rfl, lit_row w _ tagsL rfl (fun i hi => ?_), below_new _ _⟩
  have : i = 0 ∨ i = 1 ∨ i = 2 ∨ i = 3 ∨ i = 4 ∨ i = 5 := by simp [tagsL] at hi; omega
  rcases this with rfl | rfl | rfl | rfl | rfl | rfl <;> rfl

theorem safeAttrs_any (w : World) : Calls Tryz.prog 54 #[] w fun e w' => e = .returned (.slice (some ⟨w.heap.size, 0, none⟩) 4 4) ∧ w'.rowIs w.heap.size 9 4 (sv attrsL) ∧ Below w.heap.size w w' := by
  go_enter Tryz.func54, Tryz.ntmps54
  go_wp2
  go_ret
  refine ⟨rfl, lit_row w _ attrsL rfl (fun i hi => ?_), below_new _ _⟩
  have : i = 0 ∨ i = 1 ∨ i = 2 ∨ i = 3 := by simp [attrsL] at hi; omega
  rcases this with rfl | rfl | rfl | rfl <;> rfl

theorem safeSchemes_any (w : World) : Calls Tryz.prog 55 #[] w fun e w' => e = .returned (.slice (some ⟨w.heap.size, 0, none⟩) 3 3) ∧ w'.rowIs w.heap.size 9 3 (sv schemesL) ∧ Below w.heap.size w w' := by
  go_enter Tryz.func55, Tryz.ntmps55
  go_wp2
  go_ret
  refine ⟨rfl, lit_row w _ schemesL rfl (fun i hi => ?_), below_new _ _⟩
  have : i = 0 ∨ i = 1 ∨ i = 2 := by simp [schemesL] at hi; omega
  rcases this with rfl | rfl | rfl <;> rfl

end Go.Proofs.YthhdfbgjdfoalaaGreatDoor
