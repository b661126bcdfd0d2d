/- The difference of two texts: the program. -/
import Derived.Test.YtmabfeckmklenaaXpo
import Derived.Test.YtmabfeckmklenaaXpp
namespace Go.Proofs.Ytmabfeckmklenaa
open Go.RowKit
set_option linter.unusedVariables false
set_option linter.unusedSimpArgs false

theorem own_cast {w : World} {base size n n2 : Nat} {e : TypeId} {v : Value} {xs ys : List Value} (h : w.ownsRow base e size v n xs) (e1 : n = n2) (e2 : xs = ys) : w.ownsRow base e size v n2 ys := by
  subst e1 e2
  exact h

/-- The end of bytes, where a slice from there on says it lies. -/
theorem CAt.restD {w : World} {b o c f : Nat} {l : List Int} (h : CAt w b o l) (hc : l.length ≤ c) (hf : f ≤ l.length) : BAt w (if c = f then some ⟨b, o, none⟩ else some ⟨b, o + f, none⟩) (l.drop f) := by
  by_cases e : c = f
  · exact .inl (List.drop_eq_nil_of_le (by omega))
  · rw [if_neg e]; exact (h.tail hf).at

set_option maxHeartbeats 3200000 in
theorem changeOf_any (b1 o1 c b2 o2 d : Nat) (l m : List Int) (w : World) (ha : CAt w b1 o1 l) (hb : CAt w b2 o2 m) (hc : l.length ≤ c) (hd : m.length ≤ d) (hl : l.length ≤ 240) (hm : m.length ≤ 240) (n en : Nat) (hn : cpl l m = n) (he : cpl (l.drop n).reverse (m.drop n).reverse = en) :
    Calls Try.prog 26 #[.slice (some ⟨b1, o1, none⟩) l.length c, .slice (some ⟨b2, o2, none⟩) m.length d] w fun e w' => ∃ v, e = .returned (.tuple #[.int .i64 (n : Int), .int .i64 ((l.length - n - en : Nat) : Int), v]) ∧ w'.ownsRow w.heap.size 5 1 v ((m.drop n).take (m.length - n - en)).length (bcs ((m.drop n).take (m.length - n - en))) ∧ Below w.heap.size w w' := by
  have K0 := sameAhead_any (some ⟨b1, o1, none⟩) (some ⟨b2, o2, none⟩) c d l m w ha.at hb.at (by omega) (by omega)
  rw [hn] at K0
  have K0 := Hid.mk' K0
  have HA := Hid.mk' ha
  have HB := Hid.mk' hb
  clear ha hb
  have n1 := (cpl_le l m).1
  have n2 := (cpl_le l m).2
  rw [hn] at n1 n2
  have HE := Hid.mk' he
  have LE := cpl_le (l.drop n).reverse (m.drop n).reverse
  rw [he] at LE
  simp only [List.length_reverse, List.length_drop] at LE
  clear hn he
  have t1 : (0 : Int) ≤ (n : Int) := by omega
  have t2 : (n : Int) ≤ (l.length : Int) := by omega
  have t3 : (n : Int) ≤ (m.length : Int) := by omega
  go_enter Try.func26, Try.ntmps26
  go_wp2_with fail
  refine K0.out.mono ?_
  rintro e w1 ⟨rfl, hb1⟩
  have BB := Hid.mk' hb1
  clear K0 hb1
  by_cases hcn : c = n
  · subst hcn
    by_cases hdn : d = c
    · subst hdn
      have e0 : en = 0 := by omega
      subst e0
      have KB : Hid (∀ q1 q2 v, Below w.heap.size w v → Calls Try.prog 40 #[.slice (some ⟨b1, o1, none⟩) 0 q1, .slice (some ⟨b2, o2, none⟩) 0 q2] v fun e w' => e = .returned (.int .i64 0) ∧ Below v.heap.size v w') := Hid.mk' (fun q1 q2 v hv => by
        have r1 := (HA.out.below hv).restD hc n1
        have r2 := (HB.out.below hv).restD hd n2
        rw [if_pos rfl] at r1
        rw [if_pos rfl] at r2
        have := sameBehind_any (some ⟨b1, o1, none⟩) (some ⟨b2, o2, none⟩) q1 q2 (l.drop d) (m.drop d) v r1 r2 (by rw [List.length_drop]; omega) (by rw [List.length_drop]; omega)
        rw [List.length_drop, List.length_drop, HE.out] at this
        rw [show l.length - d = 0 by omega, show m.length - d = 0 by omega] at this
        exact this)
      have z0 : True := trivial
      have PL := Hid.mk' (show ((m.drop d).take (m.length - d - 0)).length = m.length - d by rw [List.length_take, List.length_drop]; omega)
      have PB : Hid (∀ v, Below w.heap.size w v → BAt v (some ⟨b2, o2, none⟩) ((m.drop d).take (m.length - d - 0))) := Hid.mk' (fun v hv => by
        have r2 := ((HB.out.below hv).sub (f := d) (z := m.length - d - 0) (by omega))
        exact .inl (by rw [show m.length - d - 0 = 0 by omega]; simp))
      clear HA HB HE
      go_wp2
      go_region_held3 (fun w' => True) (trivial) (fail)
      go_wp2_with fail
      refine (KB.out _ _ _ BB.out.drew).mono ?_
      rintro e w2 ⟨rfl, hb2⟩
      have B2 := Hid.mk' (BB.out.drew.trans (hb2.mono BB.out.drew.size))
      clear hb2 KB BB
      generalize hP : (m.drop d).take (m.length - d - 0) = P at *
      go_wp2_with (at_builtin; refine wpList_append_any _ rfl (.tmp 21) (.tmp 27) 22 rfl w.heap.size 5 (.int .u8 0) 1 1 Try.underlying22 Try.info5 rfl (by decide) (.slice none 0 0) 0 [] rfl ⟨rfl, .inl ⟨rfl, rfl⟩⟩ (some ⟨b2, o2, none⟩) _ _ (bcs P) rfl (by rw [bcs_len]; have := PL.out; omega) (.inl (by omega)) (bcs_one _) (by unfold maxLen; omega) (by omega) B2.out.size ?_; intro v3 w3 ho3 hg3; have hb3 := B2.out.grown hg3 B2.out.size (fun k hk => by simp [Value.ownBlock] at hk))
      refine bodyPost_ret (v := .tuple #[.int .i64 (d : Int), .int .i64 0, v3]) (by simp [results, Try.results26, go_sem, *]) rfl ?_
      refine ⟨v3, by rw [show l.length - d - 0 = 0 by omega]; rfl, ?_, hb3⟩
      rw [hP]
      exact own_cast ho3 (by have := PL.out; omega) rfl
    · have e0 : en = 0 := by omega
      subst e0
      have KB : Hid (∀ q1 q2 v, Below w.heap.size w v → Calls Try.prog 40 #[.slice (some ⟨b1, o1, none⟩) 0 q1, .slice (some ⟨b2, o2 + c, none⟩) (m.length - c) q2] v fun e w' => e = .returned (.int .i64 0) ∧ Below v.heap.size v w') := Hid.mk' (fun q1 q2 v hv => by
        have r1 := (HA.out.below hv).restD hc n1
        have r2 := (HB.out.below hv).restD hd n2
        rw [if_pos rfl] at r1
        rw [if_neg hdn] at r2
        have := sameBehind_any (some ⟨b1, o1, none⟩) (some ⟨b2, o2 + c, none⟩) q1 q2 (l.drop c) (m.drop c) v r1 r2 (by rw [List.length_drop]; omega) (by rw [List.length_drop]; omega)
        rw [List.length_drop, List.length_drop, HE.out] at this
        rw [show l.length - c = 0 by omega] at this
        exact this)
      have z1 : IntKind.i64.wrap ((m.length - c : Nat) : Int) = ((m.length - c : Nat) : Int) := by rw [IntKind.wrap_i64]; omega
      have z3 : ((m.length - c : Nat) : Int) ≤ ((d - c : Nat) : Int) := by omega
      have PL := Hid.mk' (show ((m.drop c).take (m.length - c - 0)).length = m.length - c by rw [List.length_take, List.length_drop]; omega)
      have PB : Hid (∀ v, Below w.heap.size w v → BAt v (some ⟨b2, o2 + c, none⟩) ((m.drop c).take (m.length - c - 0))) := Hid.mk' (fun v hv => by
        have r2 := ((HB.out.below hv).sub (f := c) (z := m.length - c - 0) (by omega))
        exact r2.at)
      clear HA HB HE
      go_wp2
      go_region_held3 (fun w' => True) (trivial) (fail)
      go_wp2_with fail
      refine (KB.out _ _ _ BB.out.drew).mono ?_
      rintro e w2 ⟨rfl, hb2⟩
      have B2 := Hid.mk' (BB.out.drew.trans (hb2.mono BB.out.drew.size))
      clear hb2 KB BB
      generalize hP : (m.drop c).take (m.length - c - 0) = P at *
      go_wp2_with (at_builtin; refine wpList_append_any _ rfl (.tmp 21) (.tmp 27) 22 rfl w.heap.size 5 (.int .u8 0) 1 1 Try.underlying22 Try.info5 rfl (by decide) (.slice none 0 0) 0 [] rfl ⟨rfl, .inl ⟨rfl, rfl⟩⟩ (some ⟨b2, o2 + c, none⟩) _ _ (bcs P) rfl (by rw [bcs_len]; have := PL.out; omega) (by have := (PB.out w2 B2.out).src; rwa [PL.out] at this) (bcs_one _) (by unfold maxLen; omega) (by omega) B2.out.size ?_; intro v3 w3 ho3 hg3; have hb3 := B2.out.grown hg3 B2.out.size (fun k hk => by simp [Value.ownBlock] at hk))
      refine bodyPost_ret (v := .tuple #[.int .i64 (c : Int), .int .i64 0, v3]) (by simp [results, Try.results26, go_sem, *]) rfl ?_
      refine ⟨v3, by rw [show l.length - c - 0 = 0 by omega]; rfl, ?_, hb3⟩
      rw [hP]
      exact own_cast ho3 (by have := PL.out; omega) rfl
  · by_cases hdn : d = n
    · subst hdn
      have e0 : en = 0 := by omega
      subst e0
      have KB : Hid (∀ q1 q2 v, Below w.heap.size w v → Calls Try.prog 40 #[.slice (some ⟨b1, o1 + d, none⟩) (l.length - d) q1, .slice (some ⟨b2, o2, none⟩) 0 q2] v fun e w' => e = .returned (.int .i64 0) ∧ Below v.heap.size v w') := Hid.mk' (fun q1 q2 v hv => by
        have r1 := (HA.out.below hv).restD hc n1
        have r2 := (HB.out.below hv).restD hd n2
        rw [if_neg hcn] at r1
        rw [if_pos rfl] at r2
        have := sameBehind_any (some ⟨b1, o1 + d, none⟩) (some ⟨b2, o2, none⟩) q1 q2 (l.drop d) (m.drop d) v r1 r2 (by rw [List.length_drop]; omega) (by rw [List.length_drop]; omega)
        rw [List.length_drop, List.length_drop, HE.out] at this
        rw [show m.length - d = 0 by omega] at this
        exact this)
      have z2 : IntKind.i64.wrap ((l.length - d : Nat) : Int) = ((l.length - d : Nat) : Int) := by rw [IntKind.wrap_i64]; omega
      have PL := Hid.mk' (show ((m.drop d).take (m.length - d - 0)).length = m.length - d by rw [List.length_take, List.length_drop]; omega)
      have PB : Hid (∀ v, Below w.heap.size w v → BAt v (some ⟨b2, o2, none⟩) ((m.drop d).take (m.length - d - 0))) := Hid.mk' (fun v hv => by
        have r2 := ((HB.out.below hv).sub (f := d) (z := m.length - d - 0) (by omega))
        exact .inl (by rw [show m.length - d - 0 = 0 by omega]; simp))
      clear HA HB HE
      go_wp2
      go_region_held3 (fun w' => True) (trivial) (fail)
      go_wp2_with fail
      refine (KB.out _ _ _ BB.out.drew).mono ?_
      rintro e w2 ⟨rfl, hb2⟩
      have B2 := Hid.mk' (BB.out.drew.trans (hb2.mono BB.out.drew.size))
      clear hb2 KB BB
      generalize hP : (m.drop d).take (m.length - d - 0) = P at *
      go_wp2_with (at_builtin; refine wpList_append_any _ rfl (.tmp 21) (.tmp 27) 22 rfl w.heap.size 5 (.int .u8 0) 1 1 Try.underlying22 Try.info5 rfl (by decide) (.slice none 0 0) 0 [] rfl ⟨rfl, .inl ⟨rfl, rfl⟩⟩ (some ⟨b2, o2, none⟩) _ _ (bcs P) rfl (by rw [bcs_len]; have := PL.out; omega) (.inl (by omega)) (bcs_one _) (by unfold maxLen; omega) (by omega) B2.out.size ?_; intro v3 w3 ho3 hg3; have hb3 := B2.out.grown hg3 B2.out.size (fun k hk => by simp [Value.ownBlock] at hk))
      refine bodyPost_ret (v := .tuple #[.int .i64 (d : Int), .int .i64 ((l.length - d : Nat) : Int), v3]) (by simp [results, Try.results26, go_sem, *]) rfl ?_
      refine ⟨v3, by rfl, ?_, hb3⟩
      rw [hP]
      exact own_cast ho3 (by have := PL.out; omega) rfl
    · have KB : Hid (∀ q1 q2 v, Below w.heap.size w v → Calls Try.prog 40 #[.slice (some ⟨b1, o1 + n, none⟩) (l.length - n) q1, .slice (some ⟨b2, o2 + n, none⟩) (m.length - n) q2] v fun e w' => e = .returned (.int .i64 (en : Int)) ∧ Below v.heap.size v w') := Hid.mk' (fun q1 q2 v hv => by
        have r1 := (HA.out.below hv).restD hc n1
        have r2 := (HB.out.below hv).restD hd n2
        rw [if_neg hcn] at r1
        rw [if_neg hdn] at r2
        have := sameBehind_any (some ⟨b1, o1 + n, none⟩) (some ⟨b2, o2 + n, none⟩) q1 q2 (l.drop n) (m.drop n) v r1 r2 (by rw [List.length_drop]; omega) (by rw [List.length_drop]; omega)
        rwa [List.length_drop, List.length_drop, HE.out] at this)
      have z1 : IntKind.i64.wrap (((m.length - n : Nat) : Int) - (en : Int)) = ((m.length - n - en : Nat) : Int) := by rw [IntKind.wrap_i64]; omega
      have z2 : IntKind.i64.wrap (((l.length - n : Nat) : Int) - (en : Int)) = ((l.length - n - en : Nat) : Int) := by rw [IntKind.wrap_i64]; omega
      have z3 : ((m.length - n - en : Nat) : Int) ≤ ((d - n : Nat) : Int) := by omega
      have PL := Hid.mk' (show ((m.drop n).take (m.length - n - en)).length = m.length - n - en by rw [List.length_take, List.length_drop]; omega)
      have PB : Hid (∀ v, Below w.heap.size w v → BAt v (some ⟨b2, o2 + n, none⟩) ((m.drop n).take (m.length - n - en))) := Hid.mk' (fun v hv => by
        have r2 := ((HB.out.below hv).sub (f := n) (z := m.length - n - en) (by omega))
        exact r2.at)
      clear HA HB HE
      go_wp2
      go_region_held3 (fun w' => True) (trivial) (fail)
      go_wp2_with fail
      refine (KB.out _ _ _ BB.out.drew).mono ?_
      rintro e w2 ⟨rfl, hb2⟩
      have B2 := Hid.mk' (BB.out.drew.trans (hb2.mono BB.out.drew.size))
      clear hb2 KB BB
      generalize hP : (m.drop n).take (m.length - n - en) = P at *
      go_wp2_with (at_builtin; refine wpList_append_any _ rfl (.tmp 21) (.tmp 27) 22 rfl w.heap.size 5 (.int .u8 0) 1 1 Try.underlying22 Try.info5 rfl (by decide) (.slice none 0 0) 0 [] rfl ⟨rfl, .inl ⟨rfl, rfl⟩⟩ (some ⟨b2, o2 + n, none⟩) (m.length - n - en) (d - n) (bcs P) rfl (by rw [bcs_len]; have := PL.out; omega) (by have := (PB.out w2 B2.out).src; rwa [PL.out] at this) (bcs_one _) (by unfold maxLen; omega) (by omega) B2.out.size ?_; intro v3 w3 ho3 hg3; have hb3 := B2.out.grown hg3 B2.out.size (fun k hk => by simp [Value.ownBlock] at hk))
      refine bodyPost_ret (v := .tuple #[.int .i64 (n : Int), .int .i64 ((l.length - n - en : Nat) : Int), v3]) (by simp [results, Try.results26, go_sem, *]) rfl ?_
      refine ⟨v3, rfl, ?_, hb3⟩
      rw [hP]
      exact own_cast ho3 (by have := PL.out; omega) rfl

end Go.Proofs.Ytmabfeckmklenaa
