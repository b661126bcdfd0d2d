/- Bytes spliced: the codes, a copy of as many as there is room for, a row cleared. -/
import Derived.Test.YtlimgcmhidooaaaGreatDoorM14
import Derived.Test.YtlimgcmhidooaaaGreatDoorM15
import Derived.Lib.SliceRun
set_option maxHeartbeats 6400000
set_option maxRecDepth 100000
set_option linter.unusedVariables false
set_option linter.unusedSimpArgs false
namespace Go.Proofs.YtlimgcmhidooaaaGreatDoor
open Go.RowKit
def CAt (w : World) (b o : Nat) (l : List Int) : Prop := b < w.heap.size ∧ ∀ k, k < l.length → w.cell? ⟨b, o + k, none⟩ = some (bv l k)
theorem CAt.below {w w' : World} {b o : Nat} {l : List Int} (h : CAt w b o l) (hb : Below w.heap.size w w') : CAt w' b o l :=
 ⟨Nat.lt_of_lt_of_le h.1 hb.size, fun k hk => (hb.cell h.1).trans (h.2 k hk)⟩
theorem CAt.at {w : World} {b o : Nat} {l : List Int} (h : CAt w b o l) : BAt w (some ⟨b, o, none⟩) l := .inr ⟨b, o, rfl, h.1, h.2⟩
theorem CAt.of_row {w : World} {b : Nat} {l : List Int} (h : w.rowIs b 5 l.length (bv l)) : CAt w b 0 l := ⟨h.lt, fun k hk => by rw [Nat.zero_add]; exact h.cell hk⟩
theorem CAt.sub {w : World} {b o f z : Nat} {l : List Int} (h : CAt w b o l) (hz : f + z ≤ l.length) : CAt w b (o + f) ((l.drop f).take z) := by
 refine ⟨h.1, fun k hk => ?_⟩
 rw [List.length_take, List.length_drop] at hk
 have hk' : k < z := by omega
 rw [show o + f + k = o + (f + k) from by omega, h.2 (f + k) (by omega)]
 unfold bv
 congr 2
 simp [hk']
theorem CAt.head {w : World} {b o z : Nat} {l : List Int} (h : CAt w b o l) (hz : z ≤ l.length) : CAt w b o (l.take z) := by
 have := h.sub (f := 0) (z := z) (by omega)
 simpa using this
theorem CAt.tail {w : World} {b o f : Nat} {l : List Int} (h : CAt w b o l) (hz : f ≤ l.length) : CAt w b (o + f) (l.drop f) := by
 have := h.sub (f := f) (z := l.length - f) (by omega)
 rwa [List.take_of_length_le (by rw [List.length_drop]; omega)] at this
def spl (l : List Int) (at_ n : Nat) (p : List Int) : List Int := l.take at_ ++ p ++ l.drop (at_ + n)
theorem spl_len {l : List Int} {at_ n : Nat} {p : List Int} (h : at_ + n ≤ l.length) : (spl l at_ n p).length = l.length - n + p.length := by
 simp [spl]; omega
def spC (size at_ n m : Int) : Int := if at_ < 0 ∨ size < at_ ∨ n < 0 ∨ size - at_ < n then 3 else if 240 < size - n + m then 6 else 0
theorem spC_zero {size at_ n m : Int} (h : spC size at_ n m = 0) : 0 ≤ at_ ∧ 0 ≤ n ∧ at_ + n ≤ size ∧ size - n + m ≤ 240 := by
 unfold spC at h
 split at h
 ·omega
 ·split at h <;> omega
theorem copy_min {P : Program} (dT sT ty : TypeId) (hu : P.underlying dT = some (.slice 5)) (hs : (P.info? 5).map (·.size) = some 1) {w : World} {g cn : Nat} {f : Nat → Value} (o dn dc : Nat) (hr : w.rowIs g 5 cn f) (a : Option Addr) (c : Nat) (l : List Int) (k : Nat)
  (ha : BAt w a l) (hk : Nat.min l.length dn = k) (h2 : o + k ≤ cn) :
  ∃ w', (Builtin.copy_ #[dT, sT] ty #[.slice (some ⟨g, o, none⟩) dn dc, .slice a l.length c]).run P w = .ok (goInt k) w' ∧ w'.rowIs g 5 cn (fun j => if o ≤ j ∧ j < o + k then bv l (j - o) else f j) ∧ KeptIn g (g + 1) w w' := by
 have hkl : k ≤ l.length := by rw [← hk]; exact Nat.min_le_left _ _
 rcases ha.src with h0 | ⟨ad, rfl, hc⟩
 ·have : k = 0 := by omega
  subst this
  rw [h0]
  exact ⟨w, run_copy_none w dT sT ty 5 _ a dn dc 0 c hu hs (by simp), hr.congr (fun j _ => by rw [if_neg (by omega)]), KeptIn.refl _ _ _⟩
 ·obtain ⟨cur, hg, hn, hf⟩ := hr
  have el : (l.take k).length = k := by rw [List.length_take]; omega
  have hmin : (bcs (l.take k)).length = Nat.min l.length dn := by rw [bcs_len, Nat.mul_one, el]; exact hk.symm
  have hb : ∀ i, i < k → bv (l.take k) i = bv l i := fun i hi => by simp [bv, hi]
  have hc' : ∀ j u, (bcs (l.take k))[j]? = some u → w.cell? (ad.add j) = some u := by
   intro j u hj
   have hlt : j < k := by
    have := (List.getElem?_eq_some_iff.1 hj).1
    rw [bcs_len, el] at this; omega
   rw [bcs_get _ j (by omega), hb j hlt] at hj
   exact hc j u (by rw [bcs_get l j (by omega)]; exact hj)
  have hrun := run_copy_row (P := P) w dT sT ty 5 g o dn dc ad l.length c cur 5 (bcs (l.take k)) hu hs hg hmin hc' (by rw [bcs_len, el]; omega) (bcs_one _)
  rw [bcs_len, Nat.mul_one, el] at hrun
  refine ⟨_, hrun, ⟨_, setRow_heap w g cur _ 5 _ hg, ?_, fun i hi => ?_⟩, ⟨rfl, rfl, rfl, by simp [World.setRow], fun k hk hne => setRow_other w g k _ (by omega)⟩⟩
  ·simp only [List.size_toArray, List.length_append, List.length_take, List.length_drop, Array.length_toList, bcs_len]
   omega
  ·simp only [List.getElem?_toArray]
   have hlt : (cur.toList.take o).length = o := by rw [List.length_take, Array.length_toList]; omega
   by_cases c1 : i < o
   ·rw [if_neg (by omega), List.append_assoc, List.getElem?_append_left (by omega), List.getElem?_take, if_pos c1, Array.getElem?_toList]
    exact hf i hi
   ·by_cases c2 : i < o + k
    ·rw [if_pos (by omega), List.append_assoc, List.getElem?_append_right (by omega), hlt, List.getElem?_append_left (by rw [bcs_len, el]; omega), bcs_get _ _ (by omega), hb _ (by omega)]
    ·rw [if_neg (by omega), List.append_assoc, List.getElem?_append_right (by omega), hlt, List.getElem?_append_right (by rw [bcs_len, el]; omega), bcs_len, el, List.getElem?_drop, Array.getElem?_toList]
     rw [show o + k + (i - o - k * 1) = i from by omega]
     exact hf i hi
theorem setCells_row {g cn : Nat} {t : TypeId} (z : Value) : ∀ (n o : Nat) (w : World) (f : Nat → Value), w.rowIs g t cn f →
  (w.setCells g o (List.replicate n z)).rowIs g t cn (fun j => if o ≤ j ∧ j < o + n then z else f j) ∧ KeptIn g (g + 1) w (w.setCells g o (List.replicate n z)) := by
 intro n
 induction n with
 | zero => intro o w f h; exact ⟨h.congr (fun j _ => by rw [if_neg (by omega)]), KeptIn.refl _ _ _⟩
 | succ n ih =>
  intro o w f h
  obtain ⟨h1, h2⟩ := ih (o + 1) _ _ (h.set o z)
  refine ⟨h1.congr (fun j _ => ?_), ((KeptIn.refl g (g + 1) w).setCell (Nat.le_refl _) (Nat.lt_succ_self _) z).trans h2⟩
  by_cases e : j = o
  ·subst e; rw [if_neg (by omega), if_pos rfl, if_pos (by omega)]
  ·rw [if_neg (show ¬ j = o from e)]
   by_cases c : o + 1 ≤ j ∧ j < o + 1 + n
   ·rw [if_pos c, if_pos (by omega)]
   ·rw [if_neg c, if_neg (by omega)]
theorem clear_row {P : Program} (t ty : TypeId) (hu : P.underlying t = some (.slice 5)) (hv : ∀ w, (zeroValue 5).run P w = .ok (.int .u8 0) w) {w : World} {g cn : Nat} {f : Nat → Value} (o n c : Nat) (hr : w.rowIs g 5 cn f) (hn : o + n = cn) :
  ∃ w', (Builtin.clear_ #[t] ty #[.slice (some ⟨g, o, none⟩) n c]).run P w = .ok (.tuple #[]) w' ∧ w'.rowIs g 5 cn (fun j => if j < o then f j else .int .u8 0) ∧ KeptIn g (g + 1) w w' := by
 by_cases h0 : n = 0
 ·subst h0
  refine ⟨w, ?_, hr.congr (fun j hj => by rw [if_pos (by omega)]), KeptIn.refl _ _ _⟩
  simp [Builtin.clear_, run_underlying hu]
 ·have hrun := Go.Lib.run_clear_slice (P := P) w t 5 ty (.int .u8 0) hu hv rfl rfl g o n c (by omega) (fun j hj => by rw [hr.cell (by omega)]; rfl) (fun j hj => hr.frozen _)
  obtain ⟨h1, h2⟩ := setCells_row (.int .u8 0) n o w f hr
  exact ⟨_, hrun, h1.congr (fun j hj => by
   by_cases c : j < o
   ·rw [if_neg (by omega), if_pos c]
   ·rw [if_pos (by omega), if_neg c]), h2⟩
theorem l1InS_any (v lo hi : Int) (w : World) : Calls Tryz.prog 50 #[.int .i64 v, .int .i64 lo, .int .i64 hi] w fun e w' => e = .returned (.bool (decide (lo ≤ v) && decide (v ≤ hi))) ∧ w' = w := by
 by_cases h1 : lo ≤ v
 ·by_cases h2 : v ≤ hi
  ·go_enter Tryz.func50, Tryz.ntmps50
   go_wp2
   go_ret
   exact ⟨by simp [h1, h2], rfl⟩
  ·go_enter Tryz.func50, Tryz.ntmps50
   go_wp2
   go_ret
   exact ⟨by simp; omega, rfl⟩
 ·go_enter Tryz.func50, Tryz.ntmps50
  go_wp2
  go_ret
  exact ⟨by simp; omega, rfl⟩
theorem l13Asked_any (s : Nat) (at_ n : Int) (a : Option Addr) (m c : Nat) (w : World) (hs : s ≤ 1048576) (hm : m ≤ 1048576) (a1 : -9223372036854775808 ≤ at_) (a2 : at_ ≤ 9223372036854775807) (n1 : -9223372036854775808 ≤ n) (n2 : n ≤ 9223372036854775807) :
  Calls Tryz.prog 76 #[.int .i64 (s : Int), .int .i64 at_, .int .i64 n, .slice a m c] w fun e w' => e = .returned (.int .i64 (spC s at_ n m)) ∧ w' = w := by
 by_cases h1 : 0 ≤ at_ ∧ at_ ≤ s
 ·have K1 := l1InS_any at_ 0 s w
  have K2 := l1InS_any n 0 ((s : Int) - at_) w
  rw [show (decide (0 ≤ at_) && decide (at_ ≤ (s : Int))) = true by simp [h1]] at K1
  have K1 := Hid.mk' K1
  obtain ⟨h1, h1'⟩ := h1
  by_cases h2 : 0 ≤ n ∧ n ≤ s - at_
  ·rw [show (decide (0 ≤ n) && decide (n ≤ (s : Int) - at_)) = true by simp [h2]] at K2
   have K2 := Hid.mk' K2
   obtain ⟨h2, h2'⟩ := h2
   by_cases h3 : 240 < (s : Int) - n + m
   ·have E : Hid (spC s at_ n m = 6) := by unfold spC; rw [if_neg (by omega), if_pos h3]; exact rfl
    go_enter Tryz.func76, Tryz.ntmps76
    go_wp2_with (first | (go_at_call 50; with_reducible refine K1.out.mono ?_; rintro e w1 ⟨rfl, rfl⟩) | (go_at_call 50; with_reducible refine K2.out.mono ?_; rintro e w1 ⟨rfl, rfl⟩))
    go_ret
    exact ⟨by rw [E.out]; rfl, rfl⟩
   ·have E : Hid (spC s at_ n m = 0) := by unfold spC; rw [if_neg (by omega), if_neg h3]; exact rfl
    go_enter Tryz.func76, Tryz.ntmps76
    go_wp2_with (first | (go_at_call 50; with_reducible refine K1.out.mono ?_; rintro e w1 ⟨rfl, rfl⟩) | (go_at_call 50; with_reducible refine K2.out.mono ?_; rintro e w1 ⟨rfl, rfl⟩))
    go_ret
    exact ⟨by rw [E.out]; rfl, rfl⟩
  ·rw [show (decide (0 ≤ n) && decide (n ≤ (s : Int) - at_)) = false by simp; omega] at K2
   have K2 := Hid.mk' K2
   have E : Hid (spC s at_ n m = 3) := by unfold spC; rw [if_pos (by omega)]; exact rfl
   clear h2
   go_enter Tryz.func76, Tryz.ntmps76
   go_wp2_with (first | (go_at_call 50; with_reducible refine K1.out.mono ?_; rintro e w1 ⟨rfl, rfl⟩) | (go_at_call 50; with_reducible refine K2.out.mono ?_; rintro e w1 ⟨rfl, rfl⟩))
   go_ret
   exact ⟨by rw [E.out]; rfl, rfl⟩
 ·have K1 := l1InS_any at_ 0 s w
  rw [show (decide (0 ≤ at_) && decide (at_ ≤ (s : Int))) = false by simp; omega] at K1
  have K1 := Hid.mk' K1
  have E : Hid (spC s at_ n m = 3) := by unfold spC; rw [if_pos (by omega)]; exact rfl
  clear h1
  go_enter Tryz.func76, Tryz.ntmps76
  go_wp2_with (go_at_call 50; with_reducible refine K1.out.mono ?_; rintro e w1 ⟨rfl, rfl⟩)
  go_ret
  exact ⟨by rw [E.out]; rfl, rfl⟩
theorem spliceFault_any (a b : Option Addr) (s c m d : Nat) (at_ n : Int) (w : World) (hs : s ≤ 1048576) (hm : m ≤ 1048576) (a1 : -9223372036854775808 ≤ at_) (a2 : at_ ≤ 9223372036854775807) (n1 : -9223372036854775808 ≤ n) (n2 : n ≤ 9223372036854775807) :
  Calls Tryz.prog 75 #[.slice a s c, .int .i64 at_, .int .i64 n, .slice b m d] w fun e w' => e = .returned (.int .i64 (spC s at_ n m)) ∧ w' = w := by
 by_cases h1 : at_ < 0
 ·have E : Hid (spC s at_ n m = 3) := by unfold spC; rw [if_pos (by omega)]; exact rfl
  go_enter Tryz.func75, Tryz.ntmps75
  go_wp2
  go_ret
  exact ⟨by rw [E.out]; rfl, rfl⟩
 ·by_cases h2 : n < 0
  ·have E : Hid (spC s at_ n m = 3) := by unfold spC; rw [if_pos (by omega)]; exact rfl
   go_enter Tryz.func75, Tryz.ntmps75
   go_wp2
   go_ret
   exact ⟨by rw [E.out]; rfl, rfl⟩
  ·by_cases h3 : (s : Int) - at_ < n
   ·have E : Hid (spC s at_ n m = 3) := by unfold spC; rw [if_pos (by omega)]; exact rfl
    go_enter Tryz.func75, Tryz.ntmps75
    go_wp2
    go_ret
    exact ⟨by rw [E.out]; rfl, rfl⟩
   ·by_cases h4 : 240 - ((s : Int) - n) < m
    ·have E : Hid (spC s at_ n m = 6) := by unfold spC; rw [if_neg (by omega), if_pos (by omega)]; exact rfl
     go_enter Tryz.func75, Tryz.ntmps75
     go_wp2
     go_ret
     exact ⟨by rw [E.out]; rfl, rfl⟩
    ·have E : Hid (spC s at_ n m = 0) := by unfold spC; rw [if_neg (by omega), if_neg (by omega)]; exact rfl
     go_enter Tryz.func75, Tryz.ntmps75
     go_wp2
     go_ret
     exact ⟨by rw [E.out]; rfl, rfl⟩
theorem CAt.rest {w : World} {b o c f : Nat} {l : List Int} (h : CAt w b o l) (hc : l.length ≤ c) (hf : f ≤ l.length) : BAt w (if c = f then some ⟨b, o, none⟩ else some ⟨b, o + f, none⟩) (l.drop f) := by
 by_cases e : c = f
 ·exact .inl (List.drop_eq_nil_of_le (by omega))
 ·rw [if_neg e]; exact (h.tail hf).at
theorem l13Splice_any (b o c : Nat) (l : List Int) (at_ n : Nat) (e : Option Addr) (d : Nat) (p : List Int) (w : World) (hl : CAt w b o l) (hc : l.length ≤ c) (he : BAt w e p) (hs : l.length ≤ 1048576) (hm : p.length ≤ 1048576) (hat : at_ + n ≤ l.length) :
  Calls Tryz.prog 77 #[.slice (some ⟨b, o, none⟩) l.length c, .int .i64 (at_ : Int), .int .i64 (n : Int), .slice e p.length d] w fun e w' => ∃ v, e = .returned v ∧ w'.ownsRow w.heap.size 5 1 v (spl l at_ n p).length (bcs (spl l at_ n p)) ∧ Below w.heap.size w w' := by
 have e1 : (l.take at_).length = at_ := by rw [List.length_take]; omega
 have e2 : (l.drop (at_ + n)).length = l.length - (at_ + n) := by rw [List.length_drop]
 have K := l1Copy_own (some ⟨b, o, none⟩) c (l.take at_) w (hl.head (by omega)).at (by omega)
 rw [e1] at K
 have K := Hid.mk' K
 have z2 : (bcs (l.drop (at_ + n))).length = (l.length - (at_ + n)) * 1 := by rw [bcs_len, e2]
 have R := Hid.mk' (hl.rest hc hat)
 have E : Hid ((spl l at_ n p).length = at_ + p.length + (l.length - (at_ + n))) := Hid.mk' (by rw [spl_len hat]; omega)
 have HE := Hid.mk' he
 clear hl he e1
 go_enter Tryz.func77, Tryz.ntmps77
 go_wp2_with (first
  | (go_at_call 51; refine K.out.mono ?_; rintro e w1 ⟨v, rfl, ho1, hb1⟩)
  | (at_builtin; refine wpList_append_any _ rfl (.tmp 13) (.tmp 14) 22 rfl w.heap.size 5 (.int .u8 0) 1 1 Tryz.underlying22 Tryz.info5 rfl (by decide) _ at_ _ rfl ho1 e p.length d (bcs p) rfl (bcs_len p) (HE.out.below hb1).src (bcs_one p) (by unfold maxLen; omega) (by omega) hb1.size ?_; intro v2 w2 ho2 hg2; have hb2 := hb1.grown hg2 hb1.size (fun k hk => own_lo ho1 k hk))
  | (at_builtin; refine wpList_append_any _ rfl (.tmp 16) (.tmp 21) 22 rfl w.heap.size 5 (.int .u8 0) 1 1 Tryz.underlying22 Tryz.info5 rfl (by decide) _ (at_ + p.length) _ rfl ho2 (if c = at_ + n then some ⟨b, o, none⟩ else some ⟨b, o + (at_ + n), none⟩) (l.length - (at_ + n)) (c - (at_ + n)) (bcs (l.drop (at_ + n))) rfl z2 (by have := (R.out.below hb2).src; rwa [e2] at this) (bcs_one _) (by unfold maxLen; omega) (by omega) hb2.size ?_; intro v3 w3 ho3 hg3; have hb3 := hb2.grown hg3 hb2.size (fun k hk => own_lo ho2 k hk)))
 all_goals
  go_ret
  rw [← E.out, ← bcs_append, ← bcs_append] at ho3
  exact ⟨_, rfl, ho3, hb3⟩
def spB (l : List Int) (at_ n : Int) (p : List Int) : List Int := if spC l.length at_ n p.length = 0 then spl l at_.toNat n.toNat p else []
theorem specSB_any (b o c : Nat) (l : List Int) (at_ n : Int) (e : Option Addr) (d : Nat) (p : List Int) (w : World) (hl : CAt w b o l) (hc : l.length ≤ c) (he : BAt w e p) (hs : l.length ≤ 1048576) (hm : p.length ≤ 1048576) (a1 : -9223372036854775808 ≤ at_) (a2 : at_ ≤ 9223372036854775807) (n1 : -9223372036854775808 ≤ n) (n2 : n ≤ 9223372036854775807) :
  Calls Tryz.prog 38 #[.slice (some ⟨b, o, none⟩) l.length c, .int .i64 at_, .int .i64 n, .slice e p.length d] w fun e w' => ∃ v, e = .returned (.agg #[.int .i64 (spC l.length at_ n p.length), v]) ∧ OB w' v (spB l at_ n p) ∧ In w.heap.size w'.heap.size v ∧ Below w.heap.size w w' := by
 have B0 := below_new w (.cells #[.int .i64 0, .slice none 0 0] 64)
 have K0 := Hid.mk' (l13Asked_any l.length at_ n e p.length d (w.alloc (.cells #[.int .i64 0, .slice none 0 0] 64)) hs hm a1 a2 n1 n2)
 by_cases h0 : spC l.length at_ n p.length = 0
 ·obtain ⟨h1, h2, h3, h4⟩ := spC_zero h0
  obtain ⟨i, rfl⟩ := Int.eq_ofNat_of_zero_le h1
  obtain ⟨j, rfl⟩ := Int.eq_ofNat_of_zero_le h2
  have K1 := Hid.mk' (l13Splice_any b o c l i j e d p _ (hl.below B0) hc (he.below B0) hs hm (by omega))
  have E : Hid (spB l (i : Int) (j : Int) p = spl l i j p) := by unfold spB; rw [if_pos h0]; exact rfl
  rw [h0] at K0 ⊢
  have BB := Hid.mk' B0
  clear B0 hl he h0 h1 h2 a1 a2 n1 n2
  go_enter Tryz.func38, Tryz.ntmps38
  go_wp2_with fail
  refine K0.out.mono ?_
  rintro e w1 ⟨rfl, rfl⟩
  go_wp2_with fail
  refine K1.out.mono ?_
  rintro e w2 ⟨v2, rfl, ho2, hb2⟩
  obtain ⟨o2, lo2⟩ := OB.of_own ho2
  obtain ⟨va, vc, rfl, _⟩ := o2.len
  have O2 := Hid.mk' o2
  have L2 := Hid.mk' lo2
  have B2 := Hid.mk' (BB.out.trans (hb2.mono BB.out.size))
  obtain ⟨hc2, hf2⟩ := bcell hb2
  simp at hc2 hf2
  have y2 := hb2.size
  simp at y2
  have y3 : w.heap.size < w2.heap.size := by omega
  clear K0 K1 hb2 ho2 o2 lo2
  go_wp2
  refine bodyPost_ret (v := .agg #[.int .i64 0, .slice va (spl l i j p).length vc]) (by simp [results, Tryz.results38, go_sem, *]) rfl ?_
  have hk := kept2 w2 w.heap.size 0 1 (.int .i64 0) (.slice va (spl l i j p).length vc)
  have I2 : In (w.heap.size + 1) w2.heap.size (.slice va (spl l i j p).length vc) := fun k hk => ⟨by have := L2.out k hk; simpa using this, O2.out.lt k hk⟩
  refine ⟨_, rfl, ?_, I2.mono (by omega) hk.size, B2.out.trans (hk.below (by omega) (by omega))⟩
  rw [E.out]
  exact O2.out.kept I2 hk (.inr (by omega))
 ·have E : Hid (spB l at_ n p = []) := by unfold spB; rw [if_neg h0]; exact rfl
  have BB := Hid.mk' B0
  clear B0 hl he
  generalize hz : spC l.length at_ n p.length = z at *
  clear hz
  go_enter Tryz.func38, Tryz.ntmps38
  go_wp2_with fail
  refine K0.out.mono ?_
  rintro e w1 ⟨rfl, rfl⟩
  go_wp2
  refine bodyPost_ret (v := .agg #[.int .i64 z, .slice none 0 0]) (by simp [results, Tryz.results38, go_sem, *]) rfl ?_
  refine ⟨_, rfl, ?_, In.nil _ _, below_new w _⟩
  rw [E.out]
  exact OB.none _
theorem copy_end {P : Program} (dT sT ty : TypeId) (hu : P.underlying dT = some (.slice 5)) (hs : (P.info? 5).map (·.size) = some 1) {w : World} {g cn : Nat} {f : Nat → Value} (q : Nat) (hr : w.rowIs g 5 cn f) (a : Option Addr) (c : Nat) (l : List Int)
  (ha : BAt w a l) (h2 : q + l.length ≤ cn) :
  ∃ w', (Builtin.copy_ #[dT, sT] ty #[.slice (if cn = q then some ⟨g, 0, none⟩ else some ⟨g, q, none⟩) (cn - q) (cn - q), .slice a l.length c]).run P w = .ok (goInt l.length) w' ∧ w'.rowIs g 5 cn (fun j => if q ≤ j ∧ j < q + l.length then bv l (j - q) else f j) ∧ KeptIn g (g + 1) w w' := by
 by_cases e : cn = q
 ·have h0 : l.length = 0 := by omega
  rw [if_pos e]
  rw [h0]
  exact ⟨w, run_copy_none w dT sT ty 5 _ a (cn - q) (cn - q) 0 c hu hs (by simp), hr.congr (fun j _ => by rw [if_neg (by omega)]), KeptIn.refl _ _ _⟩
 ·rw [if_neg e]
  exact copy_min dT sT ty hu hs q (cn - q) (cn - q) hr a c l l.length ha (Nat.min_eq_left (by omega)) h2
theorem clear_end {P : Program} (t ty : TypeId) (hu : P.underlying t = some (.slice 5)) (hv : ∀ w, (zeroValue 5).run P w = .ok (.int .u8 0) w) {w : World} {g cn : Nat} {f : Nat → Value} (q : Nat) (hr : w.rowIs g 5 cn f) (hq : q ≤ cn) :
  ∃ w', (Builtin.clear_ #[t] ty #[.slice (if cn = q then some ⟨g, 0, none⟩ else some ⟨g, q, none⟩) (cn - q) (cn - q)]).run P w = .ok (.tuple #[]) w' ∧ w'.rowIs g 5 cn (fun j => if j < q then f j else .int .u8 0) ∧ KeptIn g (g + 1) w w' := by
 by_cases e : cn = q
 ·rw [if_pos e]
  subst e
  rw [Nat.sub_self]
  refine ⟨w, ?_, hr.congr (fun j hj => by rw [if_pos hj]), KeptIn.refl _ _ _⟩
  simp [Builtin.clear_, run_underlying hu]
 ·rw [if_neg e]
  exact clear_row t ty hu hv q (cn - q) (cn - q) hr (by omega)
theorem step_copy_run {P : Program} {ops : Array Oper} {op : Oper} {a : Act} {w : World} {K : Act → World → Prop} {Q : Exit → Act → World → Prop} {E : Prop} (hgd : op.guard = none) (d s : Operand) (dT sT : TypeId)
  (ho : op.op = .call { callee := .builtin .copy, args := #[d, s], argTypes := #[dT, sT] }) (vd vs v : Value) (hd : a.eval d = vd) (hx : a.eval s = vs) (w' : World) (hrun : (Builtin.copy_ #[dT, sT] op.type #[vd, vs]).run P w = .ok v w')
  (h : K (a.put op.dst v) w') : if Region.wanted op (yielded ops a.tmps) = true then Oper.wp P op a w K Q else E := by
 have hw : Region.wanted op (yielded ops a.tmps) = true := by simp [Region.wanted, hgd]
 rw [if_pos hw]
 unfold Oper.wp
 simp [execOp, ho, resolve, invoke, builtin, hd, hx, hrun, Result.andThen]
 exact h
theorem bat_rest {w : World} {b o c f : Nat} {l : List Int} (h : BAt w (some ⟨b, o, none⟩) l) (hc : l.length ≤ c) (hf : f ≤ l.length) : BAt w (if c = f then some ⟨b, o, none⟩ else some ⟨b, o + f, none⟩) (l.drop f) := by
 rcases h with h | ⟨b1, o1, e, hs, hk⟩
 ·subst h; exact .inl (by simp)
 ·cases e; exact CAt.rest ⟨hs, hk⟩ hc hf
theorem implSBb_any (b o c : Nat) (l : List Int) (at_ n : Int) (e : Option Addr) (d : Nat) (p : List Int) (w : World) (hl : BAt w (some ⟨b, o, none⟩) l) (hc : l.length ≤ c) (he : BAt w e p) (hs : l.length ≤ 1048576) (hm : p.length ≤ 1048576) (a1 : -9223372036854775808 ≤ at_) (a2 : at_ ≤ 9223372036854775807) (n1 : -9223372036854775808 ≤ n) (n2 : n ≤ 9223372036854775807) :
  Calls Tryz.prog 37 #[.slice (some ⟨b, o, none⟩) l.length c, .int .i64 at_, .int .i64 n, .slice e p.length d] w fun e w' => ∃ v, e = .returned (.agg #[.int .i64 (spC l.length at_ n p.length), v]) ∧ OB w' v (spB l at_ n p) ∧ In w.heap.size w'.heap.size v ∧ Below w.heap.size w w' := by
 have B0 := below_new w (.cells #[.int .i64 0, .slice none 0 0] 64)
 have K0 := Hid.mk' (spliceFault_any (some ⟨b, o, none⟩) e l.length c p.length d at_ n (w.alloc (.cells #[.int .i64 0, .slice none 0 0] 64)) hs hm a1 a2 n1 n2)
 by_cases h0 : spC l.length at_ n p.length = 0
 ·obtain ⟨h1, h2, h3, h4⟩ := spC_zero h0
  obtain ⟨i, rfl⟩ := Int.eq_ofNat_of_zero_le h1
  obtain ⟨j, rfl⟩ := Int.eq_ofNat_of_zero_le h2
  have E : Hid (spB l (i : Int) (j : Int) p = spl l i j p) := by unfold spB; rw [if_pos h0]; exact rfl
  rw [h0] at K0 ⊢
  have BB := Hid.mk' B0
  have hmk : (Instr.makeSlice 22 (.int .i64 240) (.int .i64 240)).run Tryz.prog (w.alloc (.cells #[.int .i64 0, .slice none 0 0] 64)) = .ok (.slice (some ⟨w.heap.size + 1, 0, none⟩) 240 240) ((w.alloc (.cells #[.int .i64 0, .slice none 0 0] 64)).alloc (.cells (madeCells #[.int .u8 0] 240) 5)) := by
   have := run_make_row' (P := Tryz.prog) 22 5 (.int .u8 0) 1 Tryz.underlying22 Tryz.info5 rfl .i64 .i64 240 (by omega) (by omega) (w.alloc (.cells #[.int .i64 0, .slice none 0 0] 64))
   simpa using this
  have B1 := B0.alloc (by simp) (.cells (madeCells #[.int .u8 0] 240) 5)
  have R1 := World.rowIs_made (w.alloc (.cells #[.int .i64 0, .slice none 0 0] 64)) (.int .u8 0) 240 5
  have z1 : (w.alloc (.cells #[.int .i64 0, .slice none 0 0] 64)).heap.size = w.heap.size + 1 := by simp
  rw [z1] at R1
  obtain ⟨k1, hm1⟩ : ∃ k, Nat.min l.length 240 = k := ⟨_, rfl⟩
  have km : k1 ≤ 240 := by rw [← hm1]; exact Nat.min_le_right _ _
  have kl : k1 ≤ l.length := by rw [← hm1]; exact Nat.min_le_left _ _
  have ki : i ≤ k1 := by rw [← hm1]; exact Nat.le_min.2 ⟨by omega, by omega⟩
  obtain ⟨w2, hcp1, R2, hk2⟩ := copy_min (P := Tryz.prog) 22 22 3 Tryz.underlying22 (by kernel_rfl) 0 240 240 R1 (some ⟨b, o, none⟩) c l k1 (hl.below B1) hm1 (by omega)
  have B2 := B1.trans (hk2.below (by omega) (by simp; omega))
  obtain ⟨w3, hcp2, R3, hk3⟩ := copy_end (P := Tryz.prog) 22 22 3 Tryz.underlying22 (by kernel_rfl) i R2 e d p (he.below B2) (by omega)
  have B3 := B2.trans (hk3.below (by omega) (by have := R2.lt; omega))
  obtain ⟨w4, hcp3, R4, hk4⟩ := copy_end (P := Tryz.prog) 22 22 3 Tryz.underlying22 (by kernel_rfl) (i + p.length) R3.drew (if c = i + j then some ⟨b, o, none⟩ else some ⟨b, o + (i + j), none⟩) (c - (i + j)) (l.drop (i + j)) ((bat_rest hl hc (by omega)).below B3.drew) (by rw [List.length_drop]; omega)
  have B4 := B3.drew.trans (hk4.below (by omega) (by have := R3.drew.lt; omega))
  rw [List.length_drop] at hcp3 R4
  obtain ⟨w5, hcl, R5, hk5⟩ := clear_end (P := Tryz.prog) 22 0 Tryz.underlying22 (by intro w; rfl) (i + p.length + (l.length - (i + j))) R4 (by omega)
  have B5 := Hid.mk' (B4.trans (hk5.below (by omega) (by have := R4.lt; omega)))
  have R5 := Hid.mk' R5
  have hk4' : KeptIn (w.heap.size + 1) (w.heap.size + 1 + 1) w3 w4 := ⟨hk4.os, hk4.tape, hk4.output, hk4.size, hk4.block⟩
  have hkk := ((hk2.trans hk3).trans hk4').trans hk5
  have Q0 := rowK (rowB (rowQ2 w 64 (.int .i64 0) (.slice none 0 0)) (below_new _ (.cells (madeCells #[.int .u8 0] 240) 5))) hkk (.inl (by omega))
  obtain ⟨q0, q1, qlt⟩ := cellsQ2 Q0
  have qf : ∀ k, w5.frozen? ⟨w.heap.size, k, none⟩ = false := fun k => Q0.frozen k
  have FR : Hid (∀ k, k < i + p.length + (l.length - (i + j)) → (if k < i + p.length + (l.length - (i + j)) then (if i + p.length ≤ k ∧ k < i + p.length + (l.length - (i + j)) then bv (l.drop (i + j)) (k - (i + p.length)) else if i ≤ k ∧ k < i + p.length then bv p (k - i) else if 0 ≤ k ∧ k < 0 + k1 then bv l (k - 0) else .int .u8 0) else .int .u8 0) = bv (spl l i j p) k) := Hid.mk' (fun k hk => by
   have e1 : (l.take i).length = i := by rw [List.length_take]; omega
   rw [if_pos hk]
   unfold spl
   by_cases c1 : i + p.length ≤ k
   ·rw [if_pos ⟨c1, hk⟩, bv_append_right _ _ _ (by rw [List.length_append, e1]; omega), List.length_append, e1]
   ·rw [if_neg (by omega), bv_append_left _ _ _ (by rw [List.length_append, e1]; omega)]
    by_cases c2 : i ≤ k
    ·rw [if_pos ⟨c2, by omega⟩, bv_append_right _ _ _ (by rw [e1]; omega), e1]
    ·rw [if_neg (by omega), if_pos (by omega), bv_append_left _ _ _ (by rw [e1]; omega), Nat.sub_zero]
     simp [bv, show k < i from by omega])
  have SL : Hid ((spl l i j p).length = i + p.length + (l.length - (i + j))) := Hid.mk' (by rw [spl_len (by omega)]; omega)
  have g1 : i + p.length + (l.length - (i + j)) ≤ 240 := by omega
  obtain ⟨q, hq⟩ : ∃ q, q = i + p.length := ⟨_, rfl⟩
  obtain ⟨r, hr⟩ : ∃ r, r = i + j := ⟨_, rfl⟩
  rw [← hq, ← hr] at hcp3 hcl R5 FR SL g1
  obtain ⟨t, ht⟩ : ∃ t, t = q + (l.length - r) := ⟨_, rfl⟩
  rw [← ht] at hcl R5 FR SL g1
  have eq1 : (i : Int) + (p.length : Int) = (q : Int) := by omega
  have eq2 : (i : Int) + (j : Int) = (r : Int) := by omega
  have eq3 : (q : Int) + ((l.length - r : Nat) : Int) = (t : Int) := by omega
  have w1 : IntKind.i64.wrap ((i : Int) + (p.length : Int)) = (q : Int) := by rw [eq1, IntKind.wrap_i64]; omega
  have w2 : IntKind.i64.wrap ((i : Int) + (j : Int)) = (r : Int) := by rw [eq2, IntKind.wrap_i64]; omega
  have w3' : IntKind.i64.wrap ((q : Int) + ((l.length - r : Nat) : Int)) = (t : Int) := by rw [eq3, IntKind.wrap_i64]; omega
  have w4' : IntKind.i64.wrap (q : Int) = (q : Int) := by rw [IntKind.wrap_i64]; omega
  have w5' : IntKind.i64.wrap (r : Int) = (r : Int) := by rw [IntKind.wrap_i64]; omega
  have w6' : IntKind.i64.wrap (t : Int) = (t : Int) := by rw [IntKind.wrap_i64]; omega
  have i1 : (0 : Int) ≤ (q : Int) := by omega
  have i2 : (q : Int) ≤ 240 := by omega
  have i3 : (0 : Int) ≤ (r : Int) := by omega
  have i4 : (r : Int) ≤ (l.length : Int) := by omega
  have i5 : (r : Int) ≤ (c : Int) := by omega
  have i6 : (0 : Int) ≤ (t : Int) := by omega
  have i7 : (t : Int) ≤ 240 := by omega
  have b1 : q ≤ 240 := by omega
  have b2 : r ≤ l.length := by omega
  have b3 : r ≤ c := by omega
  have b4 : i ≤ 240 := by omega
  have F1 := Hid.mk' hq
  have F2 := Hid.mk' hr
  have F3 := Hid.mk' ht
  have R6 : Hid (OB w5 (.slice (some ⟨w.heap.size + 1, 0, none⟩) t 240) (spl l i j p)) := Hid.mk' (by
   rw [← SL.out]
   exact .inr ⟨w.heap.size + 1, 240, 240, _, rfl, by rw [SL.out]; omega, R5.out, by rw [SL.out]; omega, fun k hk => FR.out k (by rw [SL.out] at hk; exact hk)⟩)
  have R7 := R5.out.lt
  have R8 := B5.out.size
  clear hq hr ht h0 h1 h2 h3 h4 a1 a2 n1 n2 B0 B1 B2 B3 B4 R1 R2 R3 R4 hk2 hk3 hk4 hk4' hk5 hl he hkk Q0
  go_enter Tryz.func37, Tryz.ntmps37
  go_wp2_with fail
  refine K0.out.mono ?_
  rintro e w1 ⟨rfl, rfl⟩
  by_cases hi : i = 240
  ·obtain rfl : p = [] := List.eq_nil_of_length_eq_zero (by omega)
   obtain rfl : q = 240 := by simp at eq1; omega
   have lr : l.length - r = 0 := by omega
   obtain rfl : t = 240 := by omega
   subst hi
   have eq2' : (240 : Int) + (j : Int) = (r : Int) := eq2
   have w2' : IntKind.i64.wrap ((240 : Int) + (j : Int)) = (r : Int) := w2
   clear eq1 eq2 w1 w2
   simp at hcp2
   simp [lr] at hcp3 hcl
   by_cases hcj : c = r
   ·subst hcj
    simp at hcp3
    go_wp2
    go_region_held3 (fun _ => True) (simp [*])
     (refine step_copy_run rfl (.tmp 35) (.tmp 40) 22 22 rfl _ _ _ rfl rfl _ hcp3 ?_)
    go_wp2
    refine bodyPost_ret (v := .agg #[.int .i64 0, .slice (some ⟨w.heap.size + 1, 0, none⟩) 240 240]) (by simp [results, Tryz.results37, go_sem, *]) rfl ?_
    have hk := kept2 w5 w.heap.size 0 1 (.int .i64 0) (.slice (some ⟨w.heap.size + 1, 0, none⟩) 240 240)
    refine ⟨_, rfl, ?_, In.at (by omega) (by have := hk.size; omega), B5.out.trans (hk.below (Nat.le_refl _) (by omega))⟩
    rw [E.out]
    exact R6.out.kept (In.at (lo := w.heap.size + 1) (hi := w5.heap.size) (by omega) R7) hk (.inr (by omega))
   ·rw [if_neg hcj] at hcp3
    go_wp2
    go_region_held3 (fun _ => True) (simp [*])
     (refine step_copy_run rfl (.tmp 35) (.tmp 40) 22 22 rfl _ _ _ rfl rfl _ hcp3 ?_)
    go_wp2
    refine bodyPost_ret (v := .agg #[.int .i64 0, .slice (some ⟨w.heap.size + 1, 0, none⟩) 240 240]) (by simp [results, Tryz.results37, go_sem, *]) rfl ?_
    have hk := kept2 w5 w.heap.size 0 1 (.int .i64 0) (.slice (some ⟨w.heap.size + 1, 0, none⟩) 240 240)
    refine ⟨_, rfl, ?_, In.at (by omega) (by have := hk.size; omega), B5.out.trans (hk.below (Nat.le_refl _) (by omega))⟩
    rw [E.out]
    exact R6.out.kept (In.at (lo := w.heap.size + 1) (hi := w5.heap.size) (by omega) R7) hk (.inr (by omega))
  ·rw [if_neg (by omega)] at hcp2
   by_cases hq : q = 240
   ·subst hq
    have lr : l.length - r = 0 := by omega
    obtain rfl : t = 240 := by omega
    simp [lr] at hcp3 hcl
    by_cases hcj : c = r
    ·subst hcj
     simp at hcp3
     go_wp2
     go_region_held3 (fun _ => True) (simp [*])
      (refine step_copy_run rfl (.tmp 35) (.tmp 40) 22 22 rfl _ _ _ rfl rfl _ hcp3 ?_)
     go_wp2
     refine bodyPost_ret (v := .agg #[.int .i64 0, .slice (some ⟨w.heap.size + 1, 0, none⟩) 240 240]) (by simp [results, Tryz.results37, go_sem, *]) rfl ?_
     have hk := kept2 w5 w.heap.size 0 1 (.int .i64 0) (.slice (some ⟨w.heap.size + 1, 0, none⟩) 240 240)
     refine ⟨_, rfl, ?_, In.at (by omega) (by have := hk.size; omega), B5.out.trans (hk.below (Nat.le_refl _) (by omega))⟩
     rw [E.out]
     exact R6.out.kept (In.at (lo := w.heap.size + 1) (hi := w5.heap.size) (by omega) R7) hk (.inr (by omega))
    ·rw [if_neg hcj] at hcp3
     go_wp2
     go_region_held3 (fun _ => True) (simp [*])
      (refine step_copy_run rfl (.tmp 35) (.tmp 40) 22 22 rfl _ _ _ rfl rfl _ hcp3 ?_)
     go_wp2
     refine bodyPost_ret (v := .agg #[.int .i64 0, .slice (some ⟨w.heap.size + 1, 0, none⟩) 240 240]) (by simp [results, Tryz.results37, go_sem, *]) rfl ?_
     have hk := kept2 w5 w.heap.size 0 1 (.int .i64 0) (.slice (some ⟨w.heap.size + 1, 0, none⟩) 240 240)
     refine ⟨_, rfl, ?_, In.at (by omega) (by have := hk.size; omega), B5.out.trans (hk.below (Nat.le_refl _) (by omega))⟩
     rw [E.out]
     exact R6.out.kept (In.at (lo := w.heap.size + 1) (hi := w5.heap.size) (by omega) R7) hk (.inr (by omega))
   ·have hq' : ¬ 240 = q := by omega
    rw [if_neg hq'] at hcp3
    by_cases hcj : c = r
    ·have lr : l.length - r = 0 := by omega
     obtain rfl : t = q := by omega
     subst hcj
     simp [lr] at hcp3
     rw [if_neg hq'] at hcl
     go_wp2
     go_region_held3 (fun _ => True) (simp [*])
      (refine step_copy_run rfl (.tmp 35) (.tmp 40) 22 22 rfl _ _ _ rfl rfl _ hcp3 ?_)
     go_wp2
     refine bodyPost_ret (v := .agg #[.int .i64 0, .slice (some ⟨w.heap.size + 1, 0, none⟩) t 240]) (by simp [results, Tryz.results37, go_sem, *]) rfl ?_
     have hk := kept2 w5 w.heap.size 0 1 (.int .i64 0) (.slice (some ⟨w.heap.size + 1, 0, none⟩) t 240)
     refine ⟨_, rfl, ?_, In.at (by omega) (by have := hk.size; omega), B5.out.trans (hk.below (Nat.le_refl _) (by omega))⟩
     rw [E.out]
     exact R6.out.kept (In.at (lo := w.heap.size + 1) (hi := w5.heap.size) (by omega) R7) hk (.inr (by omega))
    ·rw [if_neg hcj] at hcp3
     by_cases hT : t = 240
     ·subst hT
      simp at hcl
      go_wp2
      go_region_held3 (fun _ => True) (simp [*])
       (refine step_copy_run rfl (.tmp 35) (.tmp 40) 22 22 rfl _ _ _ rfl rfl _ hcp3 ?_)
      go_wp2
      refine bodyPost_ret (v := .agg #[.int .i64 0, .slice (some ⟨w.heap.size + 1, 0, none⟩) 240 240]) (by simp [results, Tryz.results37, go_sem, *]) rfl ?_
      have hk := kept2 w5 w.heap.size 0 1 (.int .i64 0) (.slice (some ⟨w.heap.size + 1, 0, none⟩) 240 240)
      refine ⟨_, rfl, ?_, In.at (by omega) (by have := hk.size; omega), B5.out.trans (hk.below (Nat.le_refl _) (by omega))⟩
      rw [E.out]
      exact R6.out.kept (In.at (lo := w.heap.size + 1) (hi := w5.heap.size) (by omega) R7) hk (.inr (by omega))
     ·have hT' : ¬ 240 = t := by omega
      rw [if_neg hT'] at hcl
      go_wp2
      go_region_held3 (fun _ => True) (simp [*])
       (refine step_copy_run rfl (.tmp 35) (.tmp 40) 22 22 rfl _ _ _ rfl rfl _ hcp3 ?_)
      go_wp2
      refine bodyPost_ret (v := .agg #[.int .i64 0, .slice (some ⟨w.heap.size + 1, 0, none⟩) t 240]) (by simp [results, Tryz.results37, go_sem, *]) rfl ?_
      have hk := kept2 w5 w.heap.size 0 1 (.int .i64 0) (.slice (some ⟨w.heap.size + 1, 0, none⟩) t 240)
      refine ⟨_, rfl, ?_, In.at (by omega) (by have := hk.size; omega), B5.out.trans (hk.below (Nat.le_refl _) (by omega))⟩
      rw [E.out]
      exact R6.out.kept (In.at (lo := w.heap.size + 1) (hi := w5.heap.size) (by omega) R7) hk (.inr (by omega))
 ·have E : Hid (spB l at_ n p = []) := by unfold spB; rw [if_neg h0]; exact rfl
  have BB := Hid.mk' B0
  clear B0 hl he
  generalize hz : spC l.length at_ n p.length = z at *
  clear hz
  go_enter Tryz.func37, Tryz.ntmps37
  go_wp2_with fail
  refine K0.out.mono ?_
  rintro e w1 ⟨rfl, rfl⟩
  go_wp2
  refine bodyPost_ret (v := .agg #[.int .i64 z, .slice none 0 0]) (by simp [results, Tryz.results37, go_sem, *]) rfl ?_
  refine ⟨_, rfl, ?_, In.nil _ _, below_new w _⟩
  rw [E.out]
  exact OB.none _
theorem implSB_any (b o c : Nat) (l : List Int) (at_ n : Int) (e : Option Addr) (d : Nat) (p : List Int) (w : World) (hl : CAt w b o l) (hc : l.length ≤ c) (he : BAt w e p) (hs : l.length ≤ 1048576) (hm : p.length ≤ 1048576) (a1 : -9223372036854775808 ≤ at_) (a2 : at_ ≤ 9223372036854775807) (n1 : -9223372036854775808 ≤ n) (n2 : n ≤ 9223372036854775807) :
  Calls Tryz.prog 37 #[.slice (some ⟨b, o, none⟩) l.length c, .int .i64 at_, .int .i64 n, .slice e p.length d] w fun e w' => ∃ v, e = .returned (.agg #[.int .i64 (spC l.length at_ n p.length), v]) ∧ OB w' v (spB l at_ n p) ∧ In w.heap.size w'.heap.size v ∧ Below w.heap.size w w' := implSBb_any b o c l at_ n e d p w hl.at hc he hs hm a1 a2 n1 n2
def TagP (r : Option TK) (w : World) (e : Ending) (w' : World) : Prop := ∃ (t : TK) (v : Value) (us : List Value) (ok : Bool), e = .returned (.tuple #[.agg #[.int .i64 t.kd, .int .i64 t.by_, .string t.nm, v, .bool t.sh], .bool ok]) ∧ OA w.heap.size w' v t.at_ us ∧ r = (if ok = true then some t else none) ∧ Below w.heap.size w w'
def startA (L : List UInt8) : Option TK :=
 if 1 ≤ spn pL (L.drop 1) ∧ spn pL (L.drop 1) ≤ 8 then
   (match insideA (L.length + 1) (L.drop (1 + spn pL (L.drop 1))) [] with
   | none => none
   | some (l, sh) => some ⟨2, 0, ⟨((L.drop 1).take (spn pL (L.drop 1))).toArray⟩, l, sh⟩)
  else none
theorem inside_end {f : Nat} {L : List UInt8} {k : Nat} {acc : List AT} (hb : pB (L.getD k 0) = false) : insideA (f + 1) (L.drop k) acc = (if (L.getD k 0).toNat = 47 then (if k + 1 + 1 = L.length ∧ (L.getD (k + 1) 0).toNat = 62 then some (acc, true) else none) else (if k + 1 = L.length ∧ (L.getD k 0).toNat = 62 then some (acc, false) else none)) := by
 have hz : spn pB (L.drop k) = 0 := spn_zero_of (by rw [getD_drop, Nat.add_zero]; exact hb)
 unfold insideA
 rw [hz]
 simp only [List.drop_drop, Nat.add_zero, getD_drop, Nat.zero_add, if_true, one_left]
 by_cases h47 : (L.getD k 0).toNat = 47
 ·rw [if_pos h47, if_pos h47]
 ·rw [if_neg h47, if_neg h47]
  by_cases h62 : (L.getD k 0).toNat = 62
  ·rw [if_pos h62]
  ·rw [if_neg h62, if_neg (fun h => h62 h.2)]
theorem inside_attr {f : Nat} {L : List UInt8} {acc : List AT} {b : Nat} (hs : spn pB L = b) (hb : 1 ≤ b) (hc : pL ((L.drop b).getD 0 0) = true) : insideA (f + 1) L acc = (match attrA (L.drop b) with
      | none => none
      | some (a, n) => insideA f (L.drop (b + n)) (addA acc a)) := by
  have h := (ltrB_iff _).1 hc
  unfold ltr at h
  conv => lhs; unfold insideA
  rw [hs, if_neg (by omega), if_neg (by omega), if_neg (by omega)]
  cases attrA (L.drop b) with
  | none => rfl
  | some p => rfl
theorem five_other (w : World) (g k : Nat) (x y z u v : Value) (h : k ≠ g) : (((((w.setCell ⟨g, 0, none⟩ x).setCell ⟨g, 1, none⟩ y).setCell ⟨g, 2, none⟩ z).setCell ⟨g, 3, none⟩ u).setCell ⟨g, 4, none⟩ v).heap[k]? = w.heap[k]? := by
 rw [Deep.blk_setCell_other _ _ _ _ h, Deep.blk_setCell_other _ _ _ _ h, Deep.blk_setCell_other _ _ _ _ h, Deep.blk_setCell_other _ _ _ _ h, Deep.blk_setCell_other _ _ _ _ h]
theorem five_below {B : Nat} {w w' : World} (h : Below B w w') (g : Nat) (x y z u v : Value) (hg : B ≤ g) : Below B w (((((w'.setCell ⟨g, 0, none⟩ x).setCell ⟨g, 1, none⟩ y).setCell ⟨g, 2, none⟩ z).setCell ⟨g, 3, none⟩ u).setCell ⟨g, 4, none⟩ v) :=
 ((((h.setCell (p := ⟨g, 0, none⟩) hg _).setCell (p := ⟨g, 1, none⟩) hg _).setCell (p := ⟨g, 2, none⟩) hg _).setCell (p := ⟨g, 3, none⟩) hg _).setCell (p := ⟨g, 4, none⟩) hg _
theorem drew_heap (w : World) (k : Nat) : w.drew.heap[k]? = w.heap[k]? := rfl
theorem fin_tag {r : Option TK} {w : World} {t : TK} {q : Nat} (W : World) (v : Value) (us : List Value) (ok : Bool) (ho : OA q W v t.at_ us) (hb : Below w.heap.size w W) (hq : w.heap.size < q) (hr : r = (if ok = true then some t else none)) : TagP r w (.returned (.tuple #[.agg #[.int .i64 t.kd, .int .i64 t.by_, .string t.nm, v, .bool t.sh], .bool ok])) (((((W.setCell ⟨w.heap.size, 0, none⟩ (.int .i64 t.kd)).setCell ⟨w.heap.size, 1, none⟩ (.int .i64 t.by_)).setCell ⟨w.heap.size, 2, none⟩ (.string t.nm)).setCell ⟨w.heap.size, 3, none⟩ v).setCell ⟨w.heap.size, 4, none⟩ (.bool t.sh)).drew :=
 ⟨t, v, us, ok, rfl, ho.keep (by omega) (fun k hk _ => (drew_heap _ k).trans (five_other W w.heap.size k _ _ _ _ _ (by omega))), hr, (five_below hb w.heap.size _ _ _ _ _ (Nat.le_refl _)).drew⟩
structure LS (L : List UInt8) (nm : ByteArray) (w : World) (q : Nat) (R : Option (List AT × Bool)) (m : Nat) (wr : World) (f : Nat) (acc : List AT) (v : Value) (us : List Value) : Prop where
 le : m ≤ L.length
 fu : L.length < m + f
 ins : insideA f (L.drop m) acc = R
 few : acc.length ≤ m
 box : wr.rowIs q 107 5 (r5 (.int .i64 2) (.int .i64 0) (.string nm) v (.bool false))
 res : wr.rowIs w.heap.size 107 5 (r5 (.int .i64 0) (.int .i64 0) (.string ⟨#[]⟩) (.slice none 0 0) (.bool false))
 own : OA (q + 1) wr v acc us
 bl : Below w.heap.size w wr
theorem LS.below {L : List UInt8} {nm : ByteArray} {w : World} {q : Nat} {R : Option (List AT × Bool)} {m : Nat} {wr wx : World} {f : Nat} {acc : List AT} {v : Value} {us : List Value} (h : LS L nm w q R m wr f acc v us) (hb : Below wr.heap.size wr wx) : LS L nm w q R m wx f acc v us :=
 ⟨h.le, h.fu, h.ins, h.few, rowB h.box hb, rowB h.res hb, h.own.below hb, h.bl.trans (hb.mono h.bl.size)⟩
theorem l4Start_any (s : ByteArray) (w : World) (hs : s.size ≤ 1000) (h1 : 1 ≤ s.size) :
  Calls Tryz.prog 135 #[.string s] w fun e w' => TagP (startA s.data.toList) w e w' := by
 have hl := len_list s
 generalize hn : spn pL (s.data.toList.drop 1) = n
 have nle : 1 + n ≤ s.size := by
  have := spn_le pL (s.data.toList.drop 1)
  rw [hn, List.length_drop] at this
  omega
 have NB : nmB (s.extract 1 (1 + n)) = (decide (1 ≤ n) && decide (n ≤ 8)) := by
  rw [← hn]; exact nmB_take _ _ (by rw [ext_list, hn, show 1 + n - 1 = n from by omega])
 have SA : Hid (startA s.data.toList = if 1 ≤ n ∧ n ≤ 8 then (match insideA (s.size + 1) (s.data.toList.drop (1 + n)) [] with | none => none | some (l, sh) => some ⟨2, 0, s.extract 1 (1 + n), l, sh⟩) else none) := Hid.mk' (by
  unfold startA
  rw [hn, hl, show (⟨((s.data.toList.drop 1).take n).toArray⟩ : ByteArray) = s.extract 1 (1 + n) from ba_ext (by rw [ext_list, show 1 + n - 1 = n from by omega])]
  try rfl)
 have KN := Hid.mk' (fun w1 => l4Name_any (s.extract 1 (1 + n)) w1 (by have := ext_size s 1 (1 + n); omega))
 have HN := Hid.mk' NB
 have RR := Hid.mk' (row5 w 107 (.int .i64 0) (.int .i64 0) (.string ⟨#[]⟩) (.slice none 0 0) (.bool false))
 have B0 := Hid.mk' ((Below.refl w.heap.size w).alloc (Nat.le_refl _) (.cells #[.int .i64 0, .int .i64 0, .string ⟨#[]⟩, .slice none 0 0, .bool false] 107))
 have sz0 : (w.alloc (.cells #[.int .i64 0, .int .i64 0, .string ⟨#[]⟩, .slice none 0 0, .bool false] 107)).heap.size = w.heap.size + 1 := by simp
 have KE := l4NameEnd_any s 1 (w.alloc (.cells #[.int .i64 0, .int .i64 0, .string ⟨#[]⟩, .slice none 0 0, .bool false] 107)) (by omega) h1
 rw [hn] at KE
 have KE := Hid.mk' KE
 clear NB hn
 generalize hw0 : w.alloc (.cells #[.int .i64 0, .int .i64 0, .string ⟨#[]⟩, .slice none 0 0, .bool false] 107) = w0 at *
 have i1 : (0 : Int) ≤ 1 := by omega
 have i2 : (1 : Int) ≤ 1 + (n : Int) := by omega
 have i3 : 1 + (n : Int) ≤ (s.size : Int) := by omega
 have i4 : (1 + (n : Int)).toNat = 1 + n := by omega
 go_enter Tryz.func135, Tryz.ntmps135
 go_wp2_with fail
 clear hw0
 refine KE.out.mono ?_
 rintro e w1 ⟨rfl, rfl⟩
 clear KE
 go_wp2
 have RB := row5 w1 107 (.int .i64 2) (.int .i64 0) (.string (s.extract 1 (1 + n))) (.slice none 0 0) (.bool false)
 have N1 := below_new w1 (.cells #[.int .i64 2, .int .i64 0, .string (s.extract 1 (1 + n)), .slice none 0 0, .bool false] 107)
 have ST : Hid (LS s.data.toList (s.extract 1 (1 + n)) w w1.heap.size (insideA (s.size + 1) (s.data.toList.drop (1 + n)) []) (1 + n) (w1.alloc (.cells #[.int .i64 2, .int .i64 0, .string (s.extract 1 (1 + n)), .slice none 0 0, .bool false] 107)) (s.size + 1) [] (.slice none 0 0) []) := Hid.mk'
  ⟨by omega, by omega, rfl, Nat.zero_le _, RB, rowB RR.out N1, OA.nil _ _, B0.out.trans (N1.mono (by omega))⟩
 generalize hq : w1.heap.size = q at *
 generalize hR : insideA (s.size + 1) (s.data.toList.drop (1 + n)) [] = R at *
 clear RB N1 RR B0 hR
 generalize w1.alloc (.cells #[.int .i64 2, .int .i64 0, .string (s.extract 1 (1 + n)), .slice none 0 0, .bool false] 107) = W at *
 clear hq
 subst sz0
 go_loopw [4] (fun i wr => ∃ (m f : Nat) (acc : List AT) (v : Value) (us : List Value), i = .int .i64 m ∧ LS s.data.toList (s.extract 1 (1 + n)) w (w.heap.size + 1) R m wr f acc v us) (fun i _ => s.size - (intOf i).toNat)
 case atStart => exact ⟨1 + n, s.size + 1, [], _, [], by simp, ST.out⟩
 case round =>
  obtain ⟨m, f, acc, v, us, rfl, hLS⟩ := hrel
  clear ST
  have HL := Hid.mk' hLS
  have le := hLS.le
  rw [hl] at le
  obtain ⟨f, rfl⟩ : ∃ f', f = f' + 1 := ⟨f - 1, by have := hLS.fu; omega⟩
  clear hLS
  by_cases hlt : m < s.size
  ·have cm : (m : Int) < (s.size : Int) := by omega
   have G : Hid ((s[m]'hlt).toNat = (s.data.toList.getD m 0).toNat) := Hid.mk' (get_list rfl m hlt)
   by_cases hc : (s[m]'hlt).toNat = 32
   ·have hc' : ((s[m]'hlt).toNat : Int) = 32 := by omega
    generalize hb : spn pB (s.data.toList.drop m) = b
    have bge : 1 ≤ b := by
     rw [← hb, drop_cons _ m (by omega)]
     unfold spn
     rw [if_pos (by unfold pB; rw [← G.out]; simpa using hc)]; omega
    have ble : m + b ≤ s.size := by
     have := spn_le pB (s.data.toList.drop m)
     rw [hb, List.length_drop] at this
     omega
    have KB := l4Blanks_any s m wr (by omega) (by omega)
    rw [hb] at KB
    have KB := Hid.mk' KB
    have SP := Hid.mk' hb
    clear hc hb G
    by_cases hx : m + b < s.size
    ·have cx : (m : Int) + b < (s.size : Int) := by omega
     have G : Hid ((s[m + b]'hx).toNat = (s.data.toList.getD (m + b) 0).toNat) := Hid.mk' (get_list rfl (m + b) hx)
     have KL := letter_any (s[m + b]'hx).toNat wr
     cases hlt2 : ltrB (s[m + b]'hx).toNat with
     | true =>
      rw [hlt2] at KL
      have KL := Hid.mk' KL
      have HC : Hid (pL (s.data.toList.getD (m + b) 0) = true) := Hid.mk' (by unfold pL; rw [← G.out]; exact hlt2)
      clear hlt2 G
      have IA := inside_attr (f := f) (acc := acc) SP.out bge (by rw [List.drop_drop, getD_drop, Nat.add_zero]; exact HC.out)
      rw [HL.out.ins, List.drop_drop] at IA
      have KA := l4Attr_any s (m + b) wr hs (by omega)
      cases hA : attrA (s.data.toList.drop (m + b)) with
      | none =>
       rw [hA] at IA KA
       have KA : Hid (Calls Tryz.prog 151 #[.string s, .int .i64 ((m + b : Nat) : Int)] wr fun e w' => e = .returned (.tuple #[.agg #[.string ⟨#[]⟩, .slice none 0 0], .int .i64 (-1)]) ∧ Below wr.heap.size wr w') := Hid.mk' KA
       have E : Hid (startA s.data.toList = none) := Hid.mk' (by rw [SA.out, IA]; split <;> rfl)
       clear IA hA
       go_wp2_with (first | go_big_skip | (go_at_call 150; refine KB.out.mono ?_; rintro e w1 ⟨rfl, hw⟩; obtain rfl := hw.symm) | (go_at_call 120; refine KL.out.mono ?_; rintro e w1 ⟨rfl, hw⟩; obtain rfl := hw.symm) | fail)
       refine KA.out.mono ?_
       rintro e w2 ⟨rfl, hb2⟩
       have L2 := HL.out.below hb2
       obtain ⟨av, cv, rfl, _⟩ := L2.own.at
       obtain ⟨c0, c1, c2, c3, c4, c5⟩ := cells5 L2.box
       obtain ⟨d0, d1, d2, d3, d4, d5⟩ := cells5 L2.res
       have f0 := L2.res.frozen 0
       have f1 := L2.res.frozen 1
       have f2 := L2.res.frozen 2
       have f3 := L2.res.frozen 3
       have f4 := L2.res.frozen 4
       have LL := Hid.mk' L2
       clear L2 hb2 KA KB KL HL
       go_wp2
       have OF := Hid.mk' (OA.keep LL.out.own (lo' := w.heap.size) (w' := ((((((w2.setCell ⟨w.heap.size, 0, none⟩ (.int .i64 2)).setCell ⟨w.heap.size, 1, none⟩ (.int .i64 0)).setCell ⟨w.heap.size, 2, none⟩ (.string (s.extract 1 (1 + n)))).setCell ⟨w.heap.size, 3, none⟩ (.slice av acc.length cv)).setCell ⟨w.heap.size, 4, none⟩ (.bool false)).alloc (.cells #[.string ⟨#[]⟩, .slice none 0 0] 139))) (by omega) (fun k hk hl => by rw [Deep.blk_alloc_lt _ _ _ (by simpa using hl)]; exact five_other w2 w.heap.size k _ _ _ _ _ (by omega)))
       refine bodyPost_ret (v := .tuple #[.agg #[.int .i64 2, .int .i64 0, .string (s.extract 1 (1 + n)), .slice av acc.length cv, .bool false], .bool false]) (by simp [results, Tryz.results135, go_sem, *]) rfl ⟨⟨2, 0, s.extract 1 (1 + n), acc, false⟩, _, us, false, rfl, OF.out, by rw [E.out]; rfl, (five_below LL.out.bl w.heap.size _ _ _ _ _ (Nat.le_refl _)).alloc (by simpa using LL.out.bl.size) _⟩
      | some r =>
       obtain ⟨at1, k2⟩ := r
       rw [hA] at IA KA
       have IA : R = insideA f (s.data.toList.drop (m + (b + k2))) (addA acc at1) := by rw [IA]; show insideA f (List.drop (b + k2) (List.drop m _)) _ = _; rw [List.drop_drop]
       have KA : Hid (Calls Tryz.prog 151 #[.string s, .int .i64 ((m + b : Nat) : Int)] wr fun e w' => (∃ u, e = .returned (.tuple #[.agg #[.string at1.nm, u], .int .i64 ((m + b + k2 : Nat) : Int)]) ∧ w'.ownsRow wr.heap.size 5 1 u at1.vl.length (bcs at1.vl)) ∧ Below wr.heap.size wr w') := Hid.mk' KA
       obtain ⟨k3, kle, nm8, szl⟩ := attrA_len hA
       rw [List.length_drop, hl] at kle szl
       have IE := Hid.mk' IA
       clear IA hA
       go_wp2_with (first | go_big_skip | (go_at_call 150; refine KB.out.mono ?_; rintro e w1 ⟨rfl, hw⟩; obtain rfl := hw.symm) | (go_at_call 120; refine KL.out.mono ?_; rintro e w1 ⟨rfl, hw⟩; obtain rfl := hw.symm) | fail)
       refine KA.out.mono ?_
       rintro e w2 ⟨⟨u, rfl, hu⟩, hb2⟩
       obtain ⟨au, cu, rfl⟩ := own_shape hu
       have N2 := below_new w2 (.cells #[.string at1.nm, .slice au at1.vl.length cu] 139)
       have M2 := hb2.trans (N2.mono hb2.size)
       have L2 := HL.out.below M2
       have AR := Hid.mk' (rowp2 w2 139 (.string at1.nm) (.slice au at1.vl.length cu))
       have HU := Hid.mk' (own_of hu (Nat.le_refl _) (fun k e _ => N2.block k (hu.lt k e).2))
       obtain ⟨av, cv, rfl, hAA⟩ := L2.own.at
       have KH := Hid.mk' (l4Has_any av cv acc at1.nm _ hAA (by have := L2.few; omega))
       obtain ⟨c0, c1, c2, c3, c4, c5⟩ := cells5 L2.box
       have fc3 := L2.box.frozen 3
       have LL := Hid.mk' L2
       have sz2 : wr.heap.size ≤ w2.heap.size := hb2.size
       have HM := Hid.mk' M2
       clear L2 hb2 KA KB KL hAA N2 M2 hu
       generalize hW2 : w2.alloc (.cells #[.string at1.nm, .slice au at1.vl.length cu] 139) = W2 at *
       have sW : w2.heap.size < W2.heap.size := by rw [← hW2]; simp
       obtain ⟨g0, g1, g2⟩ := cells2 AR.out
       by_cases hp : 0 ≤ posK acc at1.nm
       ·have np : ¬ posK acc at1.nm < 0 := by omega
        have E : Hid (addA acc at1 = acc) := Hid.mk' (by unfold addA; rw [if_pos hp])
        go_wp2_with fail
        clear hW2
        refine KH.out.mono ?_
        rintro e w3 ⟨rfl, hw⟩
        obtain rfl := hw.symm
        go_wp2
        go_roundw
        case rel => exact ⟨m + b + k2, f, acc, _, us, by first | rfl | simp, ⟨by omega, by have := HL.out.fu; omega, by rw [IE.out, E.out, show m + (b + k2) = m + b + k2 from by omega], by have := LL.out.few; omega, LL.out.box, LL.out.res, LL.out.own, LL.out.bl⟩⟩
        case measure => simp [intOf]; omega
       ·have np : posK acc at1.nm < 0 := by omega
        have E : Hid (addA acc at1 = acc ++ [at1]) := Hid.mk' (by unfold addA; rw [if_neg hp])
        have few := LL.out.few
        go_wp2_with fail
        clear hW2
        refine KH.out.mono ?_
        rintro e w3 ⟨rfl, hw⟩
        obtain rfl := hw.symm
        have sq : w.heap.size + 1 + 1 ≤ W2.heap.size := by omega
        have NN := below_new W2 (.cells #[.string at1.nm, .slice au at1.vl.length cu] 139)
        have OWN := Hid.mk' (LL.out.own.below NN)
        have BN := Hid.mk' NN
        clear NN
        go_wp2_with (at_builtin; refine wpList_append_at _ rfl (.tmp 54) (.tmp 56) 105 rfl (w.heap.size + 1 + 1) 139 (.agg #[.string ⟨#[]⟩, .slice none 0 0]) 2 40 Tryz.underlying105 Tryz.info139 rfl (by decide) _ _ _ rfl OWN.out.row _ 1 _ [.string at1.nm, .slice au at1.vl.length cu] rfl rfl (.inr ⟨_, rfl, one_attr W2 _ _ _ _ rfl⟩) (by simp [Value.oneCell']) (by unfold maxLen; omega) (by omega) (by simp; omega) ?_; intro v' w4 ho hgr hat; obtain ⟨a4, q4, rfl⟩ := own_shape ho; have hx4 := grown_cells (B := w.heap.size + 1 + 1) hgr (own_lo OWN.out.row) (by simp; omega); have hy4 := grown_frozen (B := w.heap.size + 1 + 1) hgr (own_lo OWN.out.row) (by simp; omega); have y4 := hgr.size; simp at y4; have j4 : w.heap.size + 1 < w4.heap.size := (by omega))
        have swr : w.heap.size + 1 + 1 ≤ wr.heap.size := HL.out.box.lt
        have hrow : ∀ k, (Value.slice av acc.length cv).ownBlock = some k → w.heap.size + 1 + 1 ≤ k := own_lo OWN.out.row
        have szN := BN.out.size
        have b4 : ∀ k, k < w.heap.size + 1 + 1 → w4.heap[k]? = W2.heap[k]? := fun k hk => by
         rw [hgr.block k (by omega) (fun e => by have := hrow k e.symm; omega), BN.out.block k (by omega)]
        have OA4 := HL.out.own.app (HM.out.trans (BN.out.mono HM.out.size)) ((OB.of_own HU.out).1.below BN.out) swr (fun k e => (HU.out.lt k e).1) ho hgr hat
        have L4 : Hid (LS s.data.toList (s.extract 1 (1 + n)) w (w.heap.size + 1) R (m + b + k2) (w4.setCell ⟨w.heap.size + 1, 3, none⟩ (.slice a4 (acc.length + 1) q4)) f (acc ++ [at1]) (.slice a4 (acc.length + 1) q4) (us ++ [.slice au at1.vl.length cu])) := Hid.mk'
         ⟨by omega, by have := HL.out.fu; omega, by rw [IE.out, E.out, show m + (b + k2) = m + b + k2 from by omega], by rw [List.length_append]; simp; omega,
          ((LL.out.box.of_block (b4 _ (by omega))).set 3 _).congr (fun j hj => by
           by_cases h : j = 3
           ·subst h; rfl
           ·rw [if_neg h]; unfold r5; rw [if_neg h]; simp [h]),
          (LL.out.res.of_block (b4 _ (by omega))).setOther (a := ⟨w.heap.size + 1, 3, none⟩) (by simp) _,
          OA4.keep (Nat.le_refl _) (fun k hk _ => Deep.blk_setCell_other _ _ _ _ (by simp; omega)),
          ((LL.out.bl.trans (BN.out.mono LL.out.bl.size)).grown hgr (by omega) (fun k e => by have := hrow k e; omega)).setCell (p := ⟨w.heap.size + 1, 3, none⟩) (by simp) _⟩
        exact ⟨⟨m + b + k2, f, acc ++ [at1], _, us ++ [.slice au at1.vl.length cu], by simp, L4.out⟩, by simp [intOf]; omega⟩
     | false =>
      rw [hlt2] at KL
      have KL := Hid.mk' KL
      have L2 : Hid (LS s.data.toList (s.extract 1 (1 + n)) w (w.heap.size + 1) R (m + b) wr (f + 1) acc v us) := Hid.mk' ⟨by omega, by have := HL.out.fu; omega, by
       rw [← HL.out.ins, ← List.drop_drop, ← SP.out]; exact inside_blank (by rw [List.drop_drop, getD_drop, Nat.add_zero, SP.out]; unfold pL; rw [← G.out]; exact hlt2), by have := HL.out.few; omega, HL.out.box, HL.out.res, HL.out.own, HL.out.bl⟩
      clear hlt2 G
      go_wp2_with (first | go_big_skip | (go_at_call 150; refine KB.out.mono ?_; rintro e w1 ⟨rfl, rfl⟩) | (go_at_call 120; refine KL.out.mono ?_; rintro e w1 ⟨rfl, rfl⟩))
      go_roundw
      case rel => exact ⟨m + b, f + 1, acc, v, us, by simp, L2.out⟩
      case measure => simp [intOf]; omega
    ·have cx : ¬ (m : Int) + b < (s.size : Int) := by omega
     have L2 : Hid (LS s.data.toList (s.extract 1 (1 + n)) w (w.heap.size + 1) R (m + b) wr (f + 1) acc v us) := Hid.mk' ⟨by omega, by have := HL.out.fu; omega, by
      rw [← HL.out.ins, ← List.drop_drop, ← SP.out]; exact inside_blank (by rw [List.drop_drop, getD_drop, Nat.add_zero, SP.out]; rw [show s.data.toList.getD (m + b) 0 = 0 from by simp [List.getD_eq_getElem?_getD, List.getElem?_eq_none (show s.data.toList.length ≤ m + b by omega)]]; rfl), by have := HL.out.few; omega, HL.out.box, HL.out.res, HL.out.own, HL.out.bl⟩
     go_wp2_with (first | go_big_skip | (go_at_call 150; refine KB.out.mono ?_; rintro e w1 ⟨rfl, rfl⟩))
     go_roundw
     case rel => exact ⟨m + b, f + 1, acc, v, us, by simp, L2.out⟩
     case measure => simp [intOf]; omega
   ·have hc' : ¬ ((s[m]'hlt).toNat : Int) = 32 := by omega
    have IE := inside_end (f := f) (acc := acc) (L := s.data.toList) (k := m) (by unfold pB; rw [← G.out]; simpa using hc)
    rw [HL.out.ins, ← G.out, hl] at IE
    have wr1 : IntKind.i64.wrap ((s.size : Int) - 1) = (s.size : Int) - 1 := by rw [IntKind.wrap_i64]; omega
    obtain ⟨av, cv, rfl, _⟩ := HL.out.own.at
    obtain ⟨c0, c1, c2, c3, c4, c5⟩ := cells5 HL.out.box
    obtain ⟨d0, d1, d2, d3, d4, d5⟩ := cells5 HL.out.res
    have f0 := HL.out.res.frozen 0
    have f1 := HL.out.res.frozen 1
    have f2 := HL.out.res.frozen 2
    have f3 := HL.out.res.frozen 3
    have f4 := HL.out.res.frozen 4
    have fb := HL.out.box.frozen 4
    by_cases h47 : (s[m]'hlt).toNat = 47
    ·rw [if_pos h47] at IE
     have z47 : ((s[m]'hlt).toNat : Int) = 47 := by omega
     have z47' : (((s[m]'hlt).toNat : Int) == 47) = true := by simpa using z47
     have IE : R = if m + 1 + 1 = s.size ∧ (s.data.toList.getD (m + 1) 0).toNat = 62 then some (acc, true) else none := IE
     have BX : Hid ((wr.setCell ⟨w.heap.size + 1, 4, none⟩ (.bool true)).rowIs (w.heap.size + 1) 107 5 (r5 (.int .i64 2) (.int .i64 0) (.string (s.extract 1 (1 + n))) (.slice av acc.length cv) (.bool true))) := Hid.mk' ((HL.out.box.set 4 (.bool true)).congr (fun j hj => by
      by_cases h : j = 4
      ·subst h; rfl
      ·rw [if_neg h]; unfold r5; split; rfl; split; rfl; split; rfl; split; rfl; omega))
     have RS := Hid.mk' (HL.out.res.setOther (a := ⟨w.heap.size + 1, 4, none⟩) (by simp) (.bool true))
     have OW := Hid.mk' (HL.out.own.keep (w' := wr.setCell ⟨w.heap.size + 1, 4, none⟩ (.bool true)) (Nat.le_refl _) (fun k hk _ => Deep.blk_setCell_other _ _ _ _ (by simp; omega)))
     have BW := Hid.mk' (HL.out.bl.setCell (p := ⟨w.heap.size + 1, 4, none⟩) (by simp) (.bool true))
     clear hc h47 G
     by_cases hnm : 1 ≤ n ∧ n ≤ 8
     rotate_left
     ·have E : Hid (startA s.data.toList = none) := Hid.mk' (by rw [SA.out, if_neg hnm])
      have KV : Hid (∀ w1, Calls Tryz.prog 134 #[.string (s.extract 1 (1 + n))] w1 fun e w' => e = .returned (.bool false) ∧ w' = w1) := Hid.mk' (fun w1 => by have := KN.out w1; rw [HN.out, show (decide (1 ≤ n) && decide (n ≤ 8)) = false from by simp; omega] at this; exact this)
      clear IE KN HN
      go_wp2_with go_big_skip
      clear c0 c1 c2 c3 c4 c5 d0 d1 d2 d3 d4 d5 f0 f1 f2 f3 f4 fb
      generalize wr.setCell ⟨w.heap.size + 1, 4, none⟩ (.bool true) = w5 at *
      obtain ⟨c0, c1, c2, c3, c4, c5⟩ := cells5 BX.out
      obtain ⟨d0, d1, d2, d3, d4, d5⟩ := cells5 RS.out
      have f0 := RS.out.frozen 0
      have f1 := RS.out.frozen 1
      have f2 := RS.out.frozen 2
      have f3 := RS.out.frozen 3
      have f4 := RS.out.frozen 4
      refine wp_region_held_drew (S := (fun w' => w'.cell? ⟨w.heap.size + 1, 0, none⟩ = some (.int .i64 2) ∧ w'.cell? ⟨w.heap.size + 1, 1, none⟩ = some (.int .i64 0) ∧ w'.cell? ⟨w.heap.size + 1, 2, none⟩ = some (.string (s.extract 1 (1 + n))) ∧ w'.cell? ⟨w.heap.size + 1, 3, none⟩ = some (.slice av acc.length cv) ∧ w'.cell? ⟨w.heap.size + 1, 4, none⟩ = some (.bool true))) (by kernel_rfl) (by simp [*]) (fun hHeld => ?_)
      refine tkY 0 ?_
      refine tkY 1 ?_
      refine tkY 2 ?_
      refine wpAnyH_ready (rs := [3]) (by kernel_rfl) (by simp) ?_
      refine AllReadyH.cons (o := ⟨_, _, _, _, _, _⟩) rfl (fun K hK => ?_) AllReadyH.nil
      go_simp
      go_at_call 134; refine (KV.out _).mono ?_; rintro e w6 ⟨rfl, hw⟩; obtain rfl := hw.symm
      refine hK.out _ _ (by (try dsimp only); simp [*]) (fun hHeld => ?_)
      clear hK K
      try clear hx hy
      try simp only [Act.put, zA, zB, zC]
      refine tkY 4 ?_
      refine tkU 5 ?_
      refine tkU 6 ?_
      refine tkU 7 ?_
      refine tkU 8 ?_
      refine tkU 9 ?_
      refine tkY 10 ?_
      refine tkY 11 ?_
      refine tkU 12 ?_
      refine tkU 13 ?_
      refine tkU 14 ?_
      refine tkU 15 ?_
      refine tkY 16 ?_
      refine wpAnyH_ready (rs := [17]) (by kernel_rfl) (by simp) ?_
      refine AllReadyH.cons (o := ⟨_, _, _, _, _, _⟩) rfl (fun K hK => ?_) AllReadyH.nil
      go_simp
      skip
      refine hK.out _ _ (by (try dsimp only); simp [go_sem, c0, c1, c2, c3, c4]) (fun hHeld => ?_)
      clear hK K
      try clear hx hy
      try simp only [Act.put, zA, zB, zC]
      refine tkY 18 ?_
      refine wpAnyH_done (by kernel_rfl) ?_ _
      go_wp2
      refine bodyPost_ret (v := .tuple #[.agg #[.int .i64 2, .int .i64 0, .string (s.extract 1 (1 + n)), .slice av acc.length cv, .bool true], .bool false]) ?_ rfl ?_
      ·simp [results, Tryz.results135, go_sem, d0, d1, d2, d3, d4, d5]
      ·exact fin_tag (t := ⟨2, 0, s.extract 1 (1 + n), acc, true⟩) w5 _ us false OW.out BW.out (by omega) (by rw [E.out]; rfl)
     have KV : Hid (∀ w1, Calls Tryz.prog 134 #[.string (s.extract 1 (1 + n))] w1 fun e w' => e = .returned (.bool true) ∧ w' = w1) := Hid.mk' (fun w1 => by have := KN.out w1; rw [HN.out, show (decide (1 ≤ n) && decide (n ≤ 8)) = true from by simp; omega] at this; exact this)
     clear KN HN
     by_cases hP : m + 1 + 1 = s.size
     rotate_left
     ·have E : Hid (startA s.data.toList = none) := Hid.mk' (by rw [SA.out, if_pos hnm, IE, if_neg (fun h => hP h.1)])
      have e1 : (((m : Int) + 1) == (s.size : Int) - 1) = false := by simp; omega
      clear IE
      go_wp2_with go_big_skip
      clear c0 c1 c2 c3 c4 c5 d0 d1 d2 d3 d4 d5 f0 f1 f2 f3 f4 fb
      generalize wr.setCell ⟨w.heap.size + 1, 4, none⟩ (.bool true) = w5 at *
      obtain ⟨c0, c1, c2, c3, c4, c5⟩ := cells5 BX.out
      obtain ⟨d0, d1, d2, d3, d4, d5⟩ := cells5 RS.out
      have f0 := RS.out.frozen 0
      have f1 := RS.out.frozen 1
      have f2 := RS.out.frozen 2
      have f3 := RS.out.frozen 3
      have f4 := RS.out.frozen 4
      refine wp_region_held_drew (S := (fun w' => w'.cell? ⟨w.heap.size + 1, 0, none⟩ = some (.int .i64 2) ∧ w'.cell? ⟨w.heap.size + 1, 1, none⟩ = some (.int .i64 0) ∧ w'.cell? ⟨w.heap.size + 1, 2, none⟩ = some (.string (s.extract 1 (1 + n))) ∧ w'.cell? ⟨w.heap.size + 1, 3, none⟩ = some (.slice av acc.length cv) ∧ w'.cell? ⟨w.heap.size + 1, 4, none⟩ = some (.bool true))) (by kernel_rfl) (by simp [*]) (fun hHeld => ?_)
      refine tkY 0 ?_
      refine tkY 1 ?_
      refine tkY 2 ?_
      refine wpAnyH_ready (rs := [3]) (by kernel_rfl) (by simp) ?_
      refine AllReadyH.cons (o := ⟨_, _, _, _, _, _⟩) rfl (fun K hK => ?_) AllReadyH.nil
      go_simp
      go_at_call 134; refine (KV.out _).mono ?_; rintro e w6 ⟨rfl, hw⟩; obtain rfl := hw.symm
      refine hK.out _ _ (by (try dsimp only); simp [*]) (fun hHeld => ?_)
      clear hK K
      try clear hx hy
      try simp only [Act.put, zA, zB, zC]
      refine tkY 4 ?_
      refine tkY 5 ?_
      refine tkY 6 ?_
      refine tkY 7 ?_
      refine tkY 8 ?_
      refine tkY 9 ?_
      refine tkY 10 ?_
      refine tkY 11 ?_
      refine tkU 12 ?_
      refine tkU 13 ?_
      refine tkU 14 ?_
      refine tkU 15 ?_
      refine tkY 16 ?_
      refine wpAnyH_ready (rs := [17]) (by kernel_rfl) (by simp) ?_
      refine AllReadyH.cons (o := ⟨_, _, _, _, _, _⟩) rfl (fun K hK => ?_) AllReadyH.nil
      go_simp
      skip
      refine hK.out _ _ (by (try dsimp only); simp [go_sem, c0, c1, c2, c3, c4]) (fun hHeld => ?_)
      clear hK K
      try clear hx hy
      try simp only [Act.put, zA, zB, zC]
      refine tkY 18 ?_
      refine wpAnyH_done (by kernel_rfl) ?_ _
      go_wp2
      refine bodyPost_ret (v := .tuple #[.agg #[.int .i64 2, .int .i64 0, .string (s.extract 1 (1 + n)), .slice av acc.length cv, .bool true], .bool false]) ?_ rfl ?_
      ·simp [results, Tryz.results135, go_sem, d0, d1, d2, d3, d4, d5]
      ·exact fin_tag (t := ⟨2, 0, s.extract 1 (1 + n), acc, true⟩) w5 _ us false OW.out BW.out (by omega) (by rw [E.out]; rfl)
     have hPl : m + 1 < s.size := by omega
     have e1 : (((m : Int) + 1) == (s.size : Int) - 1) = true := by simp; omega
     have GP : Hid ((s[m + 1]'hPl).toNat = (s.data.toList.getD (m + 1) 0).toNat) := Hid.mk' (get_list rfl (m + 1) hPl)
     have cP : ((m : Int) + 1) < (s.size : Int) := by omega
     have cP0 : (0 : Int) ≤ ((m : Int) + 1) := by omega
     have cPn : ((m : Int) + 1).toNat = m + 1 := by omega
     by_cases h62 : (s[m + 1]'hPl).toNat = 62
     ·have E : Hid (startA s.data.toList = some ⟨2, 0, s.extract 1 (1 + n), acc, true⟩) := Hid.mk' (by rw [SA.out, if_pos hnm, IE, if_pos ⟨hP, by rw [← GP.out]; exact h62⟩])
      have e2 : (((s[m + 1]'hPl).toNat : Int) == 62) = true := by simp; omega
      clear IE GP h62
      go_wp2_with go_big_skip
      clear c0 c1 c2 c3 c4 c5 d0 d1 d2 d3 d4 d5 f0 f1 f2 f3 f4 fb
      generalize wr.setCell ⟨w.heap.size + 1, 4, none⟩ (.bool true) = w5 at *
      obtain ⟨c0, c1, c2, c3, c4, c5⟩ := cells5 BX.out
      obtain ⟨d0, d1, d2, d3, d4, d5⟩ := cells5 RS.out
      have f0 := RS.out.frozen 0
      have f1 := RS.out.frozen 1
      have f2 := RS.out.frozen 2
      have f3 := RS.out.frozen 3
      have f4 := RS.out.frozen 4
      refine wp_region_held_drew (S := (fun w' => w'.cell? ⟨w.heap.size + 1, 0, none⟩ = some (.int .i64 2) ∧ w'.cell? ⟨w.heap.size + 1, 1, none⟩ = some (.int .i64 0) ∧ w'.cell? ⟨w.heap.size + 1, 2, none⟩ = some (.string (s.extract 1 (1 + n))) ∧ w'.cell? ⟨w.heap.size + 1, 3, none⟩ = some (.slice av acc.length cv) ∧ w'.cell? ⟨w.heap.size + 1, 4, none⟩ = some (.bool true))) (by kernel_rfl) (by simp [*]) (fun hHeld => ?_)
      refine tkY 0 ?_
      refine tkY 1 ?_
      refine tkY 2 ?_
      refine wpAnyH_ready (rs := [3]) (by kernel_rfl) (by simp) ?_
      refine AllReadyH.cons (o := ⟨_, _, _, _, _, _⟩) rfl (fun K hK => ?_) AllReadyH.nil
      go_simp
      go_at_call 134; refine (KV.out _).mono ?_; rintro e w6 ⟨rfl, hw⟩; obtain rfl := hw.symm
      refine hK.out _ _ (by (try dsimp only); simp [*]) (fun hHeld => ?_)
      clear hK K
      try clear hx hy
      try simp only [Act.put, zA, zB, zC]
      refine tkY 4 ?_
      refine tkY 5 ?_
      refine tkY 6 ?_
      refine tkY 7 ?_
      refine tkY 8 ?_
      refine tkY 9 ?_
      refine tkY 10 ?_
      refine tkY 11 ?_
      refine tkY 12 ?_
      refine tkY 13 ?_
      refine tkY 14 ?_
      refine tkY 15 ?_
      refine tkY 16 ?_
      refine wpAnyH_ready (rs := [17]) (by kernel_rfl) (by simp) ?_
      refine AllReadyH.cons (o := ⟨_, _, _, _, _, _⟩) rfl (fun K hK => ?_) AllReadyH.nil
      go_simp
      skip
      refine hK.out _ _ (by (try dsimp only); simp [go_sem, c0, c1, c2, c3, c4]) (fun hHeld => ?_)
      clear hK K
      try clear hx hy
      try simp only [Act.put, zA, zB, zC]
      refine tkY 18 ?_
      refine wpAnyH_done (by kernel_rfl) ?_ _
      go_wp2
      refine bodyPost_ret (v := .tuple #[.agg #[.int .i64 2, .int .i64 0, .string (s.extract 1 (1 + n)), .slice av acc.length cv, .bool true], .bool true]) ?_ rfl ?_
      ·simp [results, Tryz.results135, go_sem, d0, d1, d2, d3, d4, d5]
      ·exact fin_tag (t := ⟨2, 0, s.extract 1 (1 + n), acc, true⟩) w5 _ us true OW.out BW.out (by omega) (by rw [E.out]; rfl)
     ·have E : Hid (startA s.data.toList = none) := Hid.mk' (by rw [SA.out, if_pos hnm, IE, if_neg (fun h => h62 (by rw [GP.out]; exact h.2))])
      have e2 : (((s[m + 1]'hPl).toNat : Int) == 62) = false := by simp; omega
      clear IE GP h62
      go_wp2_with go_big_skip
      clear c0 c1 c2 c3 c4 c5 d0 d1 d2 d3 d4 d5 f0 f1 f2 f3 f4 fb
      generalize wr.setCell ⟨w.heap.size + 1, 4, none⟩ (.bool true) = w5 at *
      obtain ⟨c0, c1, c2, c3, c4, c5⟩ := cells5 BX.out
      obtain ⟨d0, d1, d2, d3, d4, d5⟩ := cells5 RS.out
      have f0 := RS.out.frozen 0
      have f1 := RS.out.frozen 1
      have f2 := RS.out.frozen 2
      have f3 := RS.out.frozen 3
      have f4 := RS.out.frozen 4
      refine wp_region_held_drew (S := (fun w' => w'.cell? ⟨w.heap.size + 1, 0, none⟩ = some (.int .i64 2) ∧ w'.cell? ⟨w.heap.size + 1, 1, none⟩ = some (.int .i64 0) ∧ w'.cell? ⟨w.heap.size + 1, 2, none⟩ = some (.string (s.extract 1 (1 + n))) ∧ w'.cell? ⟨w.heap.size + 1, 3, none⟩ = some (.slice av acc.length cv) ∧ w'.cell? ⟨w.heap.size + 1, 4, none⟩ = some (.bool true))) (by kernel_rfl) (by simp [*]) (fun hHeld => ?_)
      refine tkY 0 ?_
      refine tkY 1 ?_
      refine tkY 2 ?_
      refine wpAnyH_ready (rs := [3]) (by kernel_rfl) (by simp) ?_
      refine AllReadyH.cons (o := ⟨_, _, _, _, _, _⟩) rfl (fun K hK => ?_) AllReadyH.nil
      go_simp
      go_at_call 134; refine (KV.out _).mono ?_; rintro e w6 ⟨rfl, hw⟩; obtain rfl := hw.symm
      refine hK.out _ _ (by (try dsimp only); simp [*]) (fun hHeld => ?_)
      clear hK K
      try clear hx hy
      try simp only [Act.put, zA, zB, zC]
      refine tkY 4 ?_
      refine tkY 5 ?_
      refine tkY 6 ?_
      refine tkY 7 ?_
      refine tkY 8 ?_
      refine tkY 9 ?_
      refine tkY 10 ?_
      refine tkY 11 ?_
      refine tkY 12 ?_
      refine tkY 13 ?_
      refine tkY 14 ?_
      refine tkY 15 ?_
      refine tkY 16 ?_
      refine wpAnyH_ready (rs := [17]) (by kernel_rfl) (by simp) ?_
      refine AllReadyH.cons (o := ⟨_, _, _, _, _, _⟩) rfl (fun K hK => ?_) AllReadyH.nil
      go_simp
      skip
      refine hK.out _ _ (by (try dsimp only); simp [go_sem, c0, c1, c2, c3, c4]) (fun hHeld => ?_)
      clear hK K
      try clear hx hy
      try simp only [Act.put, zA, zB, zC]
      refine tkY 18 ?_
      refine wpAnyH_done (by kernel_rfl) ?_ _
      go_wp2
      refine bodyPost_ret (v := .tuple #[.agg #[.int .i64 2, .int .i64 0, .string (s.extract 1 (1 + n)), .slice av acc.length cv, .bool true], .bool false]) ?_ rfl ?_
      ·simp [results, Tryz.results135, go_sem, d0, d1, d2, d3, d4, d5]
      ·exact fin_tag (t := ⟨2, 0, s.extract 1 (1 + n), acc, true⟩) w5 _ us false OW.out BW.out (by omega) (by rw [E.out]; rfl)
    ·rw [if_neg h47] at IE
     have z47 : ¬ ((s[m]'hlt).toNat : Int) = 47 := by omega
     have z47' : (((s[m]'hlt).toNat : Int) == 47) = false := by simpa using z47
     have IE : R = if m + 1 = s.size ∧ (s.data.toList.getD m 0).toNat = 62 then some (acc, false) else none := by rw [← G.out]; exact IE
     have OW := Hid.mk' HL.out.own
     have BW := Hid.mk' HL.out.bl
     clear hc h47 G
     by_cases hnm : 1 ≤ n ∧ n ≤ 8
     rotate_left
     ·have E : Hid (startA s.data.toList = none) := Hid.mk' (by rw [SA.out, if_neg hnm])
      have KV : Hid (∀ w1, Calls Tryz.prog 134 #[.string (s.extract 1 (1 + n))] w1 fun e w' => e = .returned (.bool false) ∧ w' = w1) := Hid.mk' (fun w1 => by have := KN.out w1; rw [HN.out, show (decide (1 ≤ n) && decide (n ≤ 8)) = false from by simp; omega] at this; exact this)
      clear IE KN HN
      go_wp2_with go_big_skip
      refine wp_region_held_drew (S := (fun w' => w'.cell? ⟨w.heap.size + 1, 0, none⟩ = some (.int .i64 2) ∧ w'.cell? ⟨w.heap.size + 1, 1, none⟩ = some (.int .i64 0) ∧ w'.cell? ⟨w.heap.size + 1, 2, none⟩ = some (.string (s.extract 1 (1 + n))) ∧ w'.cell? ⟨w.heap.size + 1, 3, none⟩ = some (.slice av acc.length cv) ∧ w'.cell? ⟨w.heap.size + 1, 4, none⟩ = some (.bool false))) (by kernel_rfl) (by simp [*]) (fun hHeld => ?_)
      refine tkY 0 ?_
      refine tkY 1 ?_
      refine tkY 2 ?_
      refine wpAnyH_ready (rs := [3]) (by kernel_rfl) (by simp) ?_
      refine AllReadyH.cons (o := ⟨_, _, _, _, _, _⟩) rfl (fun K hK => ?_) AllReadyH.nil
      go_simp
      go_at_call 134; refine (KV.out _).mono ?_; rintro e w6 ⟨rfl, hw⟩; obtain rfl := hw.symm
      refine hK.out _ _ (by (try dsimp only); simp [*]) (fun hHeld => ?_)
      clear hK K
      try clear hx hy
      try simp only [Act.put, zA, zB, zC]
      refine tkY 4 ?_
      refine tkU 5 ?_
      refine tkU 6 ?_
      refine tkU 7 ?_
      refine tkU 8 ?_
      refine tkU 9 ?_
      refine tkY 10 ?_
      refine tkY 11 ?_
      refine tkU 12 ?_
      refine tkU 13 ?_
      refine tkU 14 ?_
      refine tkU 15 ?_
      refine tkY 16 ?_
      refine wpAnyH_ready (rs := [17]) (by kernel_rfl) (by simp) ?_
      refine AllReadyH.cons (o := ⟨_, _, _, _, _, _⟩) rfl (fun K hK => ?_) AllReadyH.nil
      go_simp
      skip
      refine hK.out _ _ (by (try dsimp only); simp [go_sem, c0, c1, c2, c3, c4]) (fun hHeld => ?_)
      clear hK K
      try clear hx hy
      try simp only [Act.put, zA, zB, zC]
      refine tkY 18 ?_
      refine wpAnyH_done (by kernel_rfl) ?_ _
      go_wp2
      refine bodyPost_ret (v := .tuple #[.agg #[.int .i64 2, .int .i64 0, .string (s.extract 1 (1 + n)), .slice av acc.length cv, .bool false], .bool false]) ?_ rfl ?_
      ·simp [results, Tryz.results135, go_sem, d0, d1, d2, d3, d4, d5]
      ·exact fin_tag (t := ⟨2, 0, s.extract 1 (1 + n), acc, false⟩) wr _ us false OW.out BW.out (by omega) (by rw [E.out]; rfl)
     have KV : Hid (∀ w1, Calls Tryz.prog 134 #[.string (s.extract 1 (1 + n))] w1 fun e w' => e = .returned (.bool true) ∧ w' = w1) := Hid.mk' (fun w1 => by have := KN.out w1; rw [HN.out, show (decide (1 ≤ n) && decide (n ≤ 8)) = true from by simp; omega] at this; exact this)
     clear KN HN
     by_cases hP : m + 1 = s.size
     rotate_left
     ·have E : Hid (startA s.data.toList = none) := Hid.mk' (by rw [SA.out, if_pos hnm, IE, if_neg (fun h => hP h.1)])
      have e1 : ((m : Int) == (s.size : Int) - 1) = false := by simp; omega
      clear IE
      go_wp2_with go_big_skip
      refine wp_region_held_drew (S := (fun w' => w'.cell? ⟨w.heap.size + 1, 0, none⟩ = some (.int .i64 2) ∧ w'.cell? ⟨w.heap.size + 1, 1, none⟩ = some (.int .i64 0) ∧ w'.cell? ⟨w.heap.size + 1, 2, none⟩ = some (.string (s.extract 1 (1 + n))) ∧ w'.cell? ⟨w.heap.size + 1, 3, none⟩ = some (.slice av acc.length cv) ∧ w'.cell? ⟨w.heap.size + 1, 4, none⟩ = some (.bool false))) (by kernel_rfl) (by simp [*]) (fun hHeld => ?_)
      refine tkY 0 ?_
      refine tkY 1 ?_
      refine tkY 2 ?_
      refine wpAnyH_ready (rs := [3]) (by kernel_rfl) (by simp) ?_
      refine AllReadyH.cons (o := ⟨_, _, _, _, _, _⟩) rfl (fun K hK => ?_) AllReadyH.nil
      go_simp
      go_at_call 134; refine (KV.out _).mono ?_; rintro e w6 ⟨rfl, hw⟩; obtain rfl := hw.symm
      refine hK.out _ _ (by (try dsimp only); simp [*]) (fun hHeld => ?_)
      clear hK K
      try clear hx hy
      try simp only [Act.put, zA, zB, zC]
      refine tkY 4 ?_
      refine tkY 5 ?_
      refine tkY 6 ?_
      refine tkY 7 ?_
      refine tkY 8 ?_
      refine tkY 9 ?_
      refine tkY 10 ?_
      refine tkY 11 ?_
      refine tkU 12 ?_
      refine tkU 13 ?_
      refine tkU 14 ?_
      refine tkU 15 ?_
      refine tkY 16 ?_
      refine wpAnyH_ready (rs := [17]) (by kernel_rfl) (by simp) ?_
      refine AllReadyH.cons (o := ⟨_, _, _, _, _, _⟩) rfl (fun K hK => ?_) AllReadyH.nil
      go_simp
      skip
      refine hK.out _ _ (by (try dsimp only); simp [go_sem, c0, c1, c2, c3, c4]) (fun hHeld => ?_)
      clear hK K
      try clear hx hy
      try simp only [Act.put, zA, zB, zC]
      refine tkY 18 ?_
      refine wpAnyH_done (by kernel_rfl) ?_ _
      go_wp2
      refine bodyPost_ret (v := .tuple #[.agg #[.int .i64 2, .int .i64 0, .string (s.extract 1 (1 + n)), .slice av acc.length cv, .bool false], .bool false]) ?_ rfl ?_
      ·simp [results, Tryz.results135, go_sem, d0, d1, d2, d3, d4, d5]
      ·exact fin_tag (t := ⟨2, 0, s.extract 1 (1 + n), acc, false⟩) wr _ us false OW.out BW.out (by omega) (by rw [E.out]; rfl)
     have hPl : m < s.size := by omega
     have e1 : ((m : Int) == (s.size : Int) - 1) = true := by simp; omega
     have GP : Hid ((s[m]'hPl).toNat = (s.data.toList.getD (m) 0).toNat) := Hid.mk' (get_list rfl (m) hPl)
     have cP : (m : Int) < (s.size : Int) := by omega
     have cP0 : (0 : Int) ≤ (m : Int) := by omega
     by_cases h62 : (s[m]'hPl).toNat = 62
     ·have E : Hid (startA s.data.toList = some ⟨2, 0, s.extract 1 (1 + n), acc, false⟩) := Hid.mk' (by rw [SA.out, if_pos hnm, IE, if_pos ⟨hP, by rw [← GP.out]; exact h62⟩])
      have e2 : (((s[m]'hPl).toNat : Int) == 62) = true := by simp; omega
      clear IE GP h62
      go_wp2_with go_big_skip
      refine wp_region_held_drew (S := (fun w' => w'.cell? ⟨w.heap.size + 1, 0, none⟩ = some (.int .i64 2) ∧ w'.cell? ⟨w.heap.size + 1, 1, none⟩ = some (.int .i64 0) ∧ w'.cell? ⟨w.heap.size + 1, 2, none⟩ = some (.string (s.extract 1 (1 + n))) ∧ w'.cell? ⟨w.heap.size + 1, 3, none⟩ = some (.slice av acc.length cv) ∧ w'.cell? ⟨w.heap.size + 1, 4, none⟩ = some (.bool false))) (by kernel_rfl) (by simp [*]) (fun hHeld => ?_)
      refine tkY 0 ?_
      refine tkY 1 ?_
      refine tkY 2 ?_
      refine wpAnyH_ready (rs := [3]) (by kernel_rfl) (by simp) ?_
      refine AllReadyH.cons (o := ⟨_, _, _, _, _, _⟩) rfl (fun K hK => ?_) AllReadyH.nil
      go_simp
      go_at_call 134; refine (KV.out _).mono ?_; rintro e w6 ⟨rfl, hw⟩; obtain rfl := hw.symm
      refine hK.out _ _ (by (try dsimp only); simp [*]) (fun hHeld => ?_)
      clear hK K
      try clear hx hy
      try simp only [Act.put, zA, zB, zC]
      refine tkY 4 ?_
      refine tkY 5 ?_
      refine tkY 6 ?_
      refine tkY 7 ?_
      refine tkY 8 ?_
      refine tkY 9 ?_
      refine tkY 10 ?_
      refine tkY 11 ?_
      refine tkY 12 ?_
      refine tkY 13 ?_
      refine tkY 14 ?_
      refine tkY 15 ?_
      refine tkY 16 ?_
      refine wpAnyH_ready (rs := [17]) (by kernel_rfl) (by simp) ?_
      refine AllReadyH.cons (o := ⟨_, _, _, _, _, _⟩) rfl (fun K hK => ?_) AllReadyH.nil
      go_simp
      skip
      refine hK.out _ _ (by (try dsimp only); simp [go_sem, c0, c1, c2, c3, c4]) (fun hHeld => ?_)
      clear hK K
      try clear hx hy
      try simp only [Act.put, zA, zB, zC]
      refine tkY 18 ?_
      refine wpAnyH_done (by kernel_rfl) ?_ _
      go_wp2
      refine bodyPost_ret (v := .tuple #[.agg #[.int .i64 2, .int .i64 0, .string (s.extract 1 (1 + n)), .slice av acc.length cv, .bool false], .bool true]) ?_ rfl ?_
      ·simp [results, Tryz.results135, go_sem, d0, d1, d2, d3, d4, d5]
      ·exact fin_tag (t := ⟨2, 0, s.extract 1 (1 + n), acc, false⟩) wr _ us true OW.out BW.out (by omega) (by rw [E.out]; rfl)
     ·have E : Hid (startA s.data.toList = none) := Hid.mk' (by rw [SA.out, if_pos hnm, IE, if_neg (fun h => h62 (by rw [GP.out]; exact h.2))])
      have e2 : (((s[m]'hPl).toNat : Int) == 62) = false := by simp; omega
      clear IE GP h62
      go_wp2_with go_big_skip
      refine wp_region_held_drew (S := (fun w' => w'.cell? ⟨w.heap.size + 1, 0, none⟩ = some (.int .i64 2) ∧ w'.cell? ⟨w.heap.size + 1, 1, none⟩ = some (.int .i64 0) ∧ w'.cell? ⟨w.heap.size + 1, 2, none⟩ = some (.string (s.extract 1 (1 + n))) ∧ w'.cell? ⟨w.heap.size + 1, 3, none⟩ = some (.slice av acc.length cv) ∧ w'.cell? ⟨w.heap.size + 1, 4, none⟩ = some (.bool false))) (by kernel_rfl) (by simp [*]) (fun hHeld => ?_)
      refine tkY 0 ?_
      refine tkY 1 ?_
      refine tkY 2 ?_
      refine wpAnyH_ready (rs := [3]) (by kernel_rfl) (by simp) ?_
      refine AllReadyH.cons (o := ⟨_, _, _, _, _, _⟩) rfl (fun K hK => ?_) AllReadyH.nil
      go_simp
      go_at_call 134; refine (KV.out _).mono ?_; rintro e w6 ⟨rfl, hw⟩; obtain rfl := hw.symm
      refine hK.out _ _ (by (try dsimp only); simp [*]) (fun hHeld => ?_)
      clear hK K
      try clear hx hy
      try simp only [Act.put, zA, zB, zC]
      refine tkY 4 ?_
      refine tkY 5 ?_
      refine tkY 6 ?_
      refine tkY 7 ?_
      refine tkY 8 ?_
      refine tkY 9 ?_
      refine tkY 10 ?_
      refine tkY 11 ?_
      refine tkY 12 ?_
      refine tkY 13 ?_
      refine tkY 14 ?_
      refine tkY 15 ?_
      refine tkY 16 ?_
      refine wpAnyH_ready (rs := [17]) (by kernel_rfl) (by simp) ?_
      refine AllReadyH.cons (o := ⟨_, _, _, _, _, _⟩) rfl (fun K hK => ?_) AllReadyH.nil
      go_simp
      skip
      refine hK.out _ _ (by (try dsimp only); simp [go_sem, c0, c1, c2, c3, c4]) (fun hHeld => ?_)
      clear hK K
      try clear hx hy
      try simp only [Act.put, zA, zB, zC]
      refine tkY 18 ?_
      refine wpAnyH_done (by kernel_rfl) ?_ _
      go_wp2
      refine bodyPost_ret (v := .tuple #[.agg #[.int .i64 2, .int .i64 0, .string (s.extract 1 (1 + n)), .slice av acc.length cv, .bool false], .bool false]) ?_ rfl ?_
      ·simp [results, Tryz.results135, go_sem, d0, d1, d2, d3, d4, d5]
      ·exact fin_tag (t := ⟨2, 0, s.extract 1 (1 + n), acc, false⟩) wr _ us false OW.out BW.out (by omega) (by rw [E.out]; rfl)
  ·have cm : ¬ (m : Int) < (s.size : Int) := by omega
   have e0 : s.data.toList.getD m 0 = 0 := by simp [List.getD_eq_getElem?_getD, List.getElem?_eq_none (show s.data.toList.length ≤ m by omega)]
   have IE := inside_end (f := f) (acc := acc) (L := s.data.toList) (k := m) (by rw [e0]; rfl)
   rw [HL.out.ins, if_neg (by rw [e0]; decide), hl] at IE
   have wr1 : IntKind.i64.wrap ((s.size : Int) - 1) = (s.size : Int) - 1 := by rw [IntKind.wrap_i64]; omega
   have OW := Hid.mk' HL.out.own
   have BW := Hid.mk' HL.out.bl
   obtain ⟨av, cv, rfl, _⟩ := HL.out.own.at
   obtain ⟨c0, c1, c2, c3, c4, c5⟩ := cells5 HL.out.box
   obtain ⟨d0, d1, d2, d3, d4, d5⟩ := cells5 HL.out.res
   have f0 := HL.out.res.frozen 0
   have f1 := HL.out.res.frozen 1
   have f2 := HL.out.res.frozen 2
   have f3 := HL.out.res.frozen 3
   have f4 := HL.out.res.frozen 4
   have fb := HL.out.box.frozen 4
   by_cases hnm : 1 ≤ n ∧ n ≤ 8
   rotate_left
   ·have E : Hid (startA s.data.toList = none) := Hid.mk' (by rw [SA.out, if_neg hnm])
    have KV : Hid (∀ w1, Calls Tryz.prog 134 #[.string (s.extract 1 (1 + n))] w1 fun e w' => e = .returned (.bool false) ∧ w' = w1) := Hid.mk' (fun w1 => by have := KN.out w1; rw [HN.out, show (decide (1 ≤ n) && decide (n ≤ 8)) = false from by simp; omega] at this; exact this)
    clear IE KN HN
    go_wp2_with go_big_skip
    refine wp_region_held_drew (S := (fun w' => w'.cell? ⟨w.heap.size + 1, 0, none⟩ = some (.int .i64 2) ∧ w'.cell? ⟨w.heap.size + 1, 1, none⟩ = some (.int .i64 0) ∧ w'.cell? ⟨w.heap.size + 1, 2, none⟩ = some (.string (s.extract 1 (1 + n))) ∧ w'.cell? ⟨w.heap.size + 1, 3, none⟩ = some (.slice av acc.length cv) ∧ w'.cell? ⟨w.heap.size + 1, 4, none⟩ = some (.bool false))) (by kernel_rfl) (by simp [*]) (fun hHeld => ?_)
    refine tkY 0 ?_
    refine tkY 1 ?_
    refine tkY 2 ?_
    refine wpAnyH_ready (rs := [3]) (by kernel_rfl) (by simp) ?_
    refine AllReadyH.cons (o := ⟨_, _, _, _, _, _⟩) rfl (fun K hK => ?_) AllReadyH.nil
    go_simp
    go_at_call 134; refine (KV.out _).mono ?_; rintro e w6 ⟨rfl, hw⟩; obtain rfl := hw.symm
    refine hK.out _ _ (by (try dsimp only); simp [*]) (fun hHeld => ?_)
    clear hK K
    try clear hx hy
    try simp only [Act.put, zA, zB, zC]
    refine tkY 4 ?_
    refine tkU 5 ?_
    refine tkU 6 ?_
    refine tkU 7 ?_
    refine tkU 8 ?_
    refine tkU 9 ?_
    refine tkY 10 ?_
    refine tkY 11 ?_
    refine tkU 12 ?_
    refine tkU 13 ?_
    refine tkU 14 ?_
    refine tkU 15 ?_
    refine tkY 16 ?_
    refine wpAnyH_ready (rs := [17]) (by kernel_rfl) (by simp) ?_
    refine AllReadyH.cons (o := ⟨_, _, _, _, _, _⟩) rfl (fun K hK => ?_) AllReadyH.nil
    go_simp
    skip
    refine hK.out _ _ (by (try dsimp only); simp [go_sem, c0, c1, c2, c3, c4]) (fun hHeld => ?_)
    clear hK K
    try clear hx hy
    try simp only [Act.put, zA, zB, zC]
    refine tkY 18 ?_
    refine wpAnyH_done (by kernel_rfl) ?_ _
    go_wp2
    refine bodyPost_ret (v := .tuple #[.agg #[.int .i64 2, .int .i64 0, .string (s.extract 1 (1 + n)), .slice av acc.length cv, .bool false], .bool false]) ?_ rfl ?_
    ·simp [results, Tryz.results135, go_sem, d0, d1, d2, d3, d4, d5]
    ·exact fin_tag (t := ⟨2, 0, s.extract 1 (1 + n), acc, false⟩) wr _ us false OW.out BW.out (by omega) (by rw [E.out]; rfl)
   have KV : Hid (∀ w1, Calls Tryz.prog 134 #[.string (s.extract 1 (1 + n))] w1 fun e w' => e = .returned (.bool true) ∧ w' = w1) := Hid.mk' (fun w1 => by have := KN.out w1; rw [HN.out, show (decide (1 ≤ n) && decide (n ≤ 8)) = true from by simp; omega] at this; exact this)
   clear KN HN
   have E : Hid (startA s.data.toList = none) := Hid.mk' (by rw [SA.out, if_pos hnm, IE, if_neg (fun h => by omega)])
   have e1 : ((m : Int) == (s.size : Int) - 1) = false := by simp; omega
   clear IE
   go_wp2_with go_big_skip
   refine wp_region_held_drew (S := (fun w' => w'.cell? ⟨w.heap.size + 1, 0, none⟩ = some (.int .i64 2) ∧ w'.cell? ⟨w.heap.size + 1, 1, none⟩ = some (.int .i64 0) ∧ w'.cell? ⟨w.heap.size + 1, 2, none⟩ = some (.string (s.extract 1 (1 + n))) ∧ w'.cell? ⟨w.heap.size + 1, 3, none⟩ = some (.slice av acc.length cv) ∧ w'.cell? ⟨w.heap.size + 1, 4, none⟩ = some (.bool false))) (by kernel_rfl) (by simp [*]) (fun hHeld => ?_)
   refine tkY 0 ?_
   refine tkY 1 ?_
   refine tkY 2 ?_
   refine wpAnyH_ready (rs := [3]) (by kernel_rfl) (by simp) ?_
   refine AllReadyH.cons (o := ⟨_, _, _, _, _, _⟩) rfl (fun K hK => ?_) AllReadyH.nil
   go_simp
   go_at_call 134; refine (KV.out _).mono ?_; rintro e w6 ⟨rfl, hw⟩; obtain rfl := hw.symm
   refine hK.out _ _ (by (try dsimp only); simp [*]) (fun hHeld => ?_)
   clear hK K
   try clear hx hy
   try simp only [Act.put, zA, zB, zC]
   refine tkY 4 ?_
   refine tkY 5 ?_
   refine tkY 6 ?_
   refine tkY 7 ?_
   refine tkY 8 ?_
   refine tkY 9 ?_
   refine tkY 10 ?_
   refine tkY 11 ?_
   refine tkU 12 ?_
   refine tkU 13 ?_
   refine tkU 14 ?_
   refine tkU 15 ?_
   refine tkY 16 ?_
   refine wpAnyH_ready (rs := [17]) (by kernel_rfl) (by simp) ?_
   refine AllReadyH.cons (o := ⟨_, _, _, _, _, _⟩) rfl (fun K hK => ?_) AllReadyH.nil
   go_simp
   skip
   refine hK.out _ _ (by (try dsimp only); simp [go_sem, c0, c1, c2, c3, c4]) (fun hHeld => ?_)
   clear hK K
   try clear hx hy
   try simp only [Act.put, zA, zB, zC]
   refine tkY 18 ?_
   refine wpAnyH_done (by kernel_rfl) ?_ _
   go_wp2
   refine bodyPost_ret (v := .tuple #[.agg #[.int .i64 2, .int .i64 0, .string (s.extract 1 (1 + n)), .slice av acc.length cv, .bool false], .bool false]) ?_ rfl ?_
   ·simp [results, Tryz.results135, go_sem, d0, d1, d2, d3, d4, d5]
   ·exact fin_tag (t := ⟨2, 0, s.extract 1 (1 + n), acc, false⟩) wr _ us false OW.out BW.out (by omega) (by rw [E.out]; rfl)
def noteA (L : List UInt8) : Bool := decide (7 ≤ L.length) && (decide (L.take 4 = [60, 33, 45, 45]) && decide (L.drop (L.length - 3) = [45, 45, 62]))
theorem l4Note_any (s : ByteArray) (w : World) (hs : s.size ≤ 1000) :
  Calls Tryz.prog 133 #[.string s] w fun e w' => e = .returned (.bool (noteA s.data.toList)) ∧ w' = w := by
 have hl := len_list s
 have P : Hid (noteA s.data.toList = (decide (7 ≤ s.size) && (decide (s.data.toList.take 4 = [60, 33, 45, 45]) && decide (s.data.toList.drop (s.size - 3) = [45, 45, 62])))) := Hid.mk' (by unfold noteA; rw [hl])
 by_cases c1 : 7 ≤ s.size
 rotate_left
 ·have E : Hid (noteA s.data.toList = false) := Hid.mk' (by rw [P.out, decide_eq_false c1]; rfl)
  have d1 : ¬ (s.size : Int) ≥ 7 := by omega
  go_enter Tryz.func133, Tryz.ntmps133
  go_wp2_with go_big_skip
  go_ret
  exact ⟨by rw [E.out]; rfl, rfl⟩
 have d1 : (s.size : Int) ≥ 7 := by omega
 have i1 : (4 : Int) ≤ (s.size : Int) := by omega
 have i2 : (0 : Int) ≤ (s.size : Int) - 3 := by omega
 have i3 : (s.size : Int) - 3 ≤ (s.size : Int) := by omega
 have i4 : ((s.size : Int) - 3).toNat = s.size - 3 := by omega
 have e1 : ((s.extract 0 4).toList == [60, 33, 45, 45]) = decide (s.data.toList.take 4 = [60, 33, 45, 45]) := by rw [beq_list, ext_list]; rfl
 have e2 : ((s.extract (s.size - 3) s.size).toList == [45, 45, 62]) = decide (s.data.toList.drop (s.size - 3) = [45, 45, 62]) := by rw [beq_list, tail_list]
 by_cases c2 : s.data.toList.take 4 = [60, 33, 45, 45]
 rotate_left
 ·have E : Hid (noteA s.data.toList = false) := Hid.mk' (by rw [P.out, decide_eq_false c2]; simp)
  rw [decide_eq_false c2] at e1
  clear c2 e2 P
  go_enter Tryz.func133, Tryz.ntmps133
  go_wp2_with go_big_skip
  go_ret
  exact ⟨by rw [E.out]; rfl, rfl⟩
 rw [decide_eq_true c2] at e1
 have E : Hid (noteA s.data.toList = decide (s.data.toList.drop (s.size - 3) = [45, 45, 62])) := Hid.mk' (by rw [P.out, decide_eq_true c1, decide_eq_true c2]; simp)
 clear c2 P
 rw [← e2] at E
 clear e2
 go_enter Tryz.func133, Tryz.ntmps133
 go_wp2_with go_big_skip
 go_ret
 exact ⟨by rw [E.out]; rfl, rfl⟩
theorem TagP.mk {r : Option TK} {w w' : World} (t : TK) (ok : Bool) (ht : t.at_ = []) (hr : r = (if ok = true then some t else none)) (hb : Below w.heap.size w w') : TagP r w (.returned (.tuple #[.agg #[.int .i64 t.kd, .int .i64 t.by_, .string t.nm, .slice none 0 0, .bool t.sh], .bool ok])) w' :=
 ⟨t, .slice none 0 0, [], ok, rfl, by rw [ht]; exact OA.nil _ _, hr, hb⟩
theorem note_pre (L : List UInt8) (h : (L.getD 0 0).toNat = 60) : (decide (L.take 4 = [60, 33, 45, 45])) = Lib.hasPrefix (L.drop 1) [33, 45, 45] := by
 match L, h with
 | [], h => simp at h
 | a :: r, h =>
  have ha : a = 60 := UInt8.toNat_inj.1 (by simpa using h)
  subst ha
  rw [Bool.eq_iff_iff, decide_eq_true_eq]
  show (60 :: r).take 4 = [60, 33, 45, 45] ↔ Lib.hasPrefix r [33, 45, 45] = true
  rw [prefix_iff]
  constructor
  ·intro h
   have h' : r.take 3 = [33, 45, 45] := by simpa using h
   exact ⟨r.drop 3, by rw [← h', List.take_append_drop]⟩
  ·rintro ⟨S, rfl⟩
   simp
theorem tag_short (L : List UInt8) (h : L.length < 3) : tagA L = none := by
 unfold tagA
 by_cases c1 : (L.getD 0 0).toNat = 60
 ·rw [if_pos c1]
  have hp : ¬ Lib.hasPrefix (L.drop 1) [33, 45, 45] = true := by
   rw [prefix_iff]
   rintro ⟨S, e⟩
   have := congrArg List.length e
   simp at this
   omega
  rw [if_neg hp]
  by_cases c2 : (L.getD 1 0).toNat = 47
  ·rw [if_pos c2, if_neg]
   have : L.drop 2 = [] := List.drop_of_length_le (by omega)
   rw [this]
   rintro ⟨⟨a, _⟩, _⟩
   simp [spn] at a
  ·rw [if_neg c2]
   by_cases c3 : 1 ≤ spn pL (L.drop 1) ∧ spn pL (L.drop 1) ≤ 8
   ·rw [if_pos c3, show L.drop (1 + spn pL (L.drop 1)) = [] from List.drop_of_length_le (by omega)]
    have : insideA (L.length + 1) [] [] = none := by unfold insideA; simp [spn]
    rw [this]
   ·rw [if_neg c3]
 ·rw [if_neg c1]
theorem tag_other (L : List UInt8) (h : ¬ (L.getD 0 0).toNat = 60) : tagA L = none := by unfold tagA; rw [if_neg h]
theorem suf3 (M : List UInt8) : Lib.hasSuffix M [45, 45, 62] = true ↔ 3 ≤ M.length ∧ M.drop (M.length - 3) = [45, 45, 62] := by
 unfold Lib.hasSuffix
 rw [List.isSuffixOf_iff_suffix]
 constructor
 ·rintro ⟨t, rfl⟩
  refine ⟨by simp, ?_⟩
  simp
 ·rintro ⟨h1, h2⟩
  exact ⟨M.take (M.length - 3), by rw [← h2, List.take_append_drop]⟩
theorem tag_note (L : List UInt8) (h0 : (L.getD 0 0).toNat = 60) (h1 : (L.getD 1 0).toNat = 33) : tagA L = if noteA L = true then some ⟨4, 0, ⟨#[]⟩, [], false⟩ else none := by
 unfold tagA noteA
 rw [if_pos h0, note_pre L h0]
 by_cases c0 : Lib.hasPrefix (L.drop 1) [33, 45, 45] = true
 ·rw [if_pos c0]
  have hs := suf3 (L.drop 4)
  rw [List.length_drop, List.drop_drop] at hs
  by_cases c1 : 7 ≤ L.length
  ·rw [show 4 + (L.length - 4 - 3) = L.length - 3 from by omega] at hs
   by_cases c2 : L.drop (L.length - 3) = [45, 45, 62]
   ·rw [if_pos (hs.2 ⟨by omega, c2⟩), if_pos (by rw [c0, decide_eq_true c1, decide_eq_true c2]; rfl)]
   ·rw [if_neg (fun h => c2 (hs.1 h).2), if_neg (by simp [c2])]
  ·rw [if_neg (fun h => by have := (hs.1 h).1; omega), if_neg (by simp; omega)]
 ·rw [if_neg c0, if_neg (by omega)]
  have hz : spn pL (L.drop 1) = 0 := spn_zero_of (by rw [getD_drop]; unfold pL; rw [h1]; decide)
  rw [hz, if_neg (by omega), if_neg (by rw [Bool.not_eq_true] at c0; rw [c0]; simp)]
theorem tag_start (L : List UInt8) (h0 : (L.getD 0 0).toNat = 60) (h1 : ¬ (L.getD 1 0).toNat = 33) (h2 : ¬ (L.getD 1 0).toNat = 47) : tagA L = startA L := by
 unfold tagA startA
 have hp : ¬ Lib.hasPrefix (L.drop 1) [33, 45, 45] = true := by
  rw [prefix_iff]
  rintro ⟨S, e⟩
  have : (L.drop 1).getD 0 0 = 33 := by rw [e]; rfl
  rw [getD_drop] at this
  exact h1 (by rw [this]; rfl)
 rw [if_pos h0, if_neg hp, if_neg h2]
 by_cases c3 : 1 ≤ spn pL (L.drop 1) ∧ spn pL (L.drop 1) ≤ 8
 ·rw [if_pos c3, if_pos c3]
  cases insideA (L.length + 1) (L.drop (1 + spn pL (L.drop 1))) [] with
  | none => rfl
  | some p => rfl
 ·rw [if_neg c3, if_neg c3]
theorem tag_end (s : ByteArray) (hs : 3 ≤ s.size) (h0 : (s.data.toList.getD 0 0).toNat = 60) (h1 : (s.data.toList.getD 1 0).toNat = 47) : tagA s.data.toList = if nmB (s.extract 2 (s.size - 1)) = true ∧ (s.data.toList.getD (s.size - 1) 0).toNat = 62 then some ⟨3, 0, s.extract 2 (s.size - 1), [], false⟩ else none := by
 have hl := len_list s
 have hp : ¬ Lib.hasPrefix (s.data.toList.drop 1) [33, 45, 45] = true := by
  rw [prefix_iff]
  rintro ⟨S, e⟩
  have : (s.data.toList.drop 1).getD 0 0 = 33 := by rw [e]; rfl
  rw [getD_drop] at this
  have h2 : (s.data.toList.getD 1 0).toNat = 33 := by rw [this]; rfl
  omega
 unfold tagA
 rw [if_pos h0, if_neg hp, if_pos h1]
 by_cases hc : nmB (s.extract 2 (s.size - 1)) = true ∧ (s.data.toList.getD (s.size - 1) 0).toNat = 62
 ·rw [if_pos hc]
  have hm := (nmB_iff _).1 hc.1
  have es : (s.extract 2 (s.size - 1)).size = s.size - 3 := by simp; omega
  have hn : spn pL (s.data.toList.drop 2) = s.size - 3 := by
   have := spn_from (p := pL) (L := s.data.toList) (k := 2) (m := s.size - 1) (by omega) (by omega) (fun j a b => by
     have h := hm.2.2 (j - 2) (by rw [es]; omega) (by rw [es]; omega)
     rw [get_list (ext_list s 2 (s.size - 1)) (j - 2) (by rw [es]; omega)] at h
     refine ltrB_true ?_
     have e : ((s.data.toList.drop 2).take (s.size - 1 - 2)).getD (j - 2) 0 = s.data.toList.getD j 0 := by
      rw [List.getD_eq_getElem?_getD, List.getElem?_take_of_lt (by omega), ← List.getD_eq_getElem?_getD, getD_drop, show 2 + (j - 2) = j from by omega]
     rw [e] at h
     exact h) (fun _ => by unfold pL; rw [hc.2]; decide)
   omega
  have hz := hm.1
  have hz2 := hm.2.1
  rw [es] at hz hz2
  rw [hn, if_pos ⟨by omega, (one_left _ _).2 ⟨by omega, by rw [show 2 + (s.size - 3) = s.size - 1 from by omega]; exact hc.2⟩⟩]
  rw [show (⟨((s.data.toList.drop 2).take (s.size - 3)).toArray⟩ : ByteArray) = s.extract 2 (s.size - 1) from ba_ext (by rw [ext_list, show s.size - 1 - 2 = s.size - 3 from by omega])]
 ·rw [if_neg hc, if_neg]
  rintro ⟨ha, hb⟩
  have hb := (one_left _ _).1 hb
  refine hc ⟨?_, by rw [show s.size - 1 = 2 + spn pL (s.data.toList.drop 2) from by omega]; exact hb.2⟩
  rw [nmB_take _ (s.data.toList.drop 2) (by rw [ext_list, show s.size - 1 - 2 = spn pL (s.data.toList.drop 2) from by omega])]
  simp; omega
theorem l4Read_any (s : ByteArray) (w : World) (hs : s.size ≤ 1000) :
  Calls Tryz.prog 122 #[.string s] w fun e w' => TagP (tagA s.data.toList) w e w' := by
 have hl := len_list s
 have B0 := Hid.mk' (below_new w (.cells #[.int .i64 0, .int .i64 0, .string ⟨#[]⟩, .slice none 0 0, .bool false] 107))
 have RR := row5 w 107 (.int .i64 0) (.int .i64 0) (.string ⟨#[]⟩) (.slice none 0 0) (.bool false)
 have sz0 : (w.alloc (.cells #[.int .i64 0, .int .i64 0, .string ⟨#[]⟩, .slice none 0 0, .bool false] 107)).heap.size = w.heap.size + 1 := by simp
 obtain ⟨d0, d1, d2, d3, d4, d5⟩ := cells5 RR
 have f0 := RR.frozen 0
 have f1 := RR.frozen 1
 have f2 := RR.frozen 2
 have f3 := RR.frozen 3
 have f4 := RR.frozen 4
 have HR := Hid.mk' RR
 clear RR
 generalize hw0 : w.alloc (.cells #[.int .i64 0, .int .i64 0, .string ⟨#[]⟩, .slice none 0 0, .bool false] 107) = w0 at *
 by_cases c3 : s.size < 3
 ·have E : Hid (tagA s.data.toList = none) := Hid.mk' (tag_short _ (by omega))
  have ci : (s.size : Int) < 3 := by omega
  go_enter Tryz.func122, Tryz.ntmps122
  go_wp2_with go_big_skip
  clear hw0
  refine bodyPost_ret (v := .tuple #[.agg #[.int .i64 0, .int .i64 0, .string ⟨#[]⟩, .slice none 0 0, .bool false], .bool false]) ?_ rfl ?_
  ·simp [results, Tryz.results122, go_sem, d0, d1, d2, d3, d4, d5]
  ·exact TagP.mk ⟨0, 0, ⟨#[]⟩, [], false⟩ false rfl (by rw [E.out]; rfl) (five_below B0.out w.heap.size _ _ _ _ _ (Nat.le_refl _))
 have ci : ¬ (s.size : Int) < 3 := by omega
 have l0 : 0 < s.size := by omega
 have l1 : 1 < s.size := by omega
 have G0 : Hid ((s[0]'l0).toNat = (s.data.toList.getD 0 0).toNat) := Hid.mk' (get_list rfl 0 l0)
 have G1 : Hid ((s[1]'l1).toNat = (s.data.toList.getD 1 0).toNat) := Hid.mk' (get_list rfl 1 l1)
 by_cases c60 : (s[0]'l0).toNat = 60
 rotate_left
 ·have E : Hid (tagA s.data.toList = none) := Hid.mk' (tag_other _ (by rw [← G0.out]; exact c60))
  have e1 : (((s[0]'l0).toNat : Int) != 60) = true := by simp; omega
  clear c60
  go_enter Tryz.func122, Tryz.ntmps122
  go_wp2_with go_big_skip
  clear hw0
  refine bodyPost_ret (v := .tuple #[.agg #[.int .i64 0, .int .i64 0, .string ⟨#[]⟩, .slice none 0 0, .bool false], .bool false]) ?_ rfl ?_
  ·simp [results, Tryz.results122, go_sem, d0, d1, d2, d3, d4, d5]
  ·exact TagP.mk ⟨0, 0, ⟨#[]⟩, [], false⟩ false rfl (by rw [E.out]; rfl) (five_below B0.out w.heap.size _ _ _ _ _ (Nat.le_refl _))
 have e1 : (((s[0]'l0).toNat : Int) != 60) = false := by simp; omega
 have H0 := Hid.mk' (show (s.data.toList.getD 0 0).toNat = 60 by rw [← G0.out]; exact c60)
 clear c60 G0
 by_cases c33 : (s[1]'l1).toNat = 33
 ·have E := Hid.mk' (tag_note _ H0.out (by rw [← G1.out]; exact c33))
  have e2 : ((s[1]'l1).toNat : Int) = 33 := by omega
  have e2' : (((s[1]'l1).toNat : Int) == 33) = true := by simp; omega
  have KN := Hid.mk' (l4Note_any s w0 hs)
  clear c33
  go_enter Tryz.func122, Tryz.ntmps122
  go_wp2_with (first | go_big_skip | (go_at_call 133; refine KN.out.mono ?_; rintro e w1 ⟨rfl, hw⟩; obtain rfl := hw.symm))
  clear hw0
  refine bodyPost_ret (v := .tuple #[.agg #[.int .i64 4, .int .i64 0, .string ⟨#[]⟩, .slice none 0 0, .bool false], .bool (noteA s.data.toList)]) ?_ rfl ?_
  ·simp [results, Tryz.results122, go_sem, d0, d1, d2, d3, d4, d5]
  ·exact TagP.mk ⟨4, 0, ⟨#[]⟩, [], false⟩ (noteA s.data.toList) rfl E.out (five_below B0.out w.heap.size _ _ _ _ _ (Nat.le_refl _))
 have e2 : ¬ ((s[1]'l1).toNat : Int) = 33 := by omega
 have e2' : (((s[1]'l1).toNat : Int) == 33) = false := by simp; omega
 have H1 := Hid.mk' (show ¬ (s.data.toList.getD 1 0).toNat = 33 by rw [← G1.out]; exact c33)
 clear c33
 by_cases c47 : (s[1]'l1).toNat = 47
 rotate_left
 ·have E := Hid.mk' (tag_start _ H0.out H1.out (by rw [← G1.out]; exact c47))
  have e3 : ¬ ((s[1]'l1).toNat : Int) = 47 := by omega
  have e3' : (((s[1]'l1).toNat : Int) == 47) = false := by simp; omega
  have KS := Hid.mk' (l4Start_any s w0 hs (by omega))
  clear c47
  go_enter Tryz.func122, Tryz.ntmps122
  go_wp2_with (first | go_big_skip | fail)
  clear hw0
  refine KS.out.mono ?_
  rintro e w1 ⟨t, v, us, ok, rfl, hOA, hr, hb⟩
  have R1 := rowB HR.out hb
  clear d0 d1 d2 d3 d4 d5 f0 f1 f2 f3 f4
  obtain ⟨d0, d1, d2, d3, d4, d5⟩ := cells5 R1
  have f0 := R1.frozen 0
  have f1 := R1.frozen 1
  have f2 := R1.frozen 2
  have f3 := R1.frozen 3
  have f4 := R1.frozen 4
  obtain ⟨av, cv, rfl, _⟩ := hOA.at
  have HO := Hid.mk' hOA
  have HX := Hid.mk' (E.out.trans hr)
  have B1 := Hid.mk' (B0.out.trans (hb.mono (by omega)))
  clear hb R1 hOA hr
  go_wp2
  refine bodyPost_ret (v := .tuple #[.agg #[.int .i64 t.kd, .int .i64 t.by_, .string t.nm, .slice av t.at_.length cv, .bool t.sh], .bool ok]) ?_ rfl ?_
  ·simp [results, Tryz.results122, go_sem, d0, d1, d2, d3, d4, d5]
  ·exact ⟨t, _, us, ok, rfl, HO.out.keep (by omega) (fun k hk _ => five_other w1 w.heap.size k _ _ _ _ _ (by omega)), HX.out, five_below B1.out w.heap.size _ _ _ _ _ (Nat.le_refl _)⟩
 have E := Hid.mk' (tag_end s (by omega) H0.out (by rw [← G1.out]; exact c47))
 have e3 : ((s[1]'l1).toNat : Int) = 47 := by omega
 have e3' : (((s[1]'l1).toNat : Int) == 47) = true := by simp; omega
 obtain ⟨m, hm⟩ : ∃ m, s.size - 1 = m := ⟨_, rfl⟩
 rw [hm] at E
 have lz : m < s.size := by omega
 have GZ : Hid ((s[m]'lz).toNat = (s.data.toList.getD m 0).toNat) := Hid.mk' (get_list rfl m lz)
 have im : (s.size : Int) - 1 = (m : Int) := by omega
 have i1 : (0 : Int) ≤ (m : Int) := by omega
 have i2 : (2 : Int) ≤ (m : Int) := by omega
 have i3 : (m : Int) ≤ (s.size : Int) := by omega
 have i5 : (m : Int) < (s.size : Int) := by omega
 have iw : IntKind.i64.wrap (m : Int) = (m : Int) := by rw [IntKind.wrap_i64]; omega
 have KM := l4Name_any (s.extract 2 m)
 have hx := ext_size s 2 m
 clear c47 G1 hm
 cases hnm : nmB (s.extract 2 m) with
 | false =>
  have KN : Hid (∀ w1, Calls Tryz.prog 134 #[.string (s.extract 2 m)] w1 fun e w' => e = .returned (.bool false) ∧ w' = w1) := Hid.mk' (fun w1 => by have := KM w1 (by omega); rw [hnm] at this; exact this)
  have E : Hid (tagA s.data.toList = none) := Hid.mk' (E.out.trans (if_neg (fun h => by rw [hnm] at h; exact absurd h.1 (by decide))))
  clear KM hnm
  go_enter Tryz.func122, Tryz.ntmps122
  go_wp2_with go_big_skip
  clear hw0
  refine wp_region_held_drew (S := (fun _ => True)) (by kernel_rfl) trivial (fun hHeld => ?_)
  refine tkY 0 ?_
  refine tkY 1 ?_
  refine tkY 2 ?_
  refine wpAnyH_ready (rs := [3]) (by kernel_rfl) (by simp) ?_
  refine AllReadyH.cons (o := ⟨_, _, _, _, _, _⟩) rfl (fun K hK => ?_) AllReadyH.nil
  go_simp
  go_at_call 134; refine (KN.out _).mono ?_; rintro e w6 ⟨rfl, hw⟩; obtain rfl := hw.symm
  refine hK.out _ _ trivial (fun hHeld => ?_)
  clear hK K
  try clear hx hy
  try simp only [Act.put, zA, zB, zC]
  refine tkY 4 ?_
  refine tkU 5 ?_
  refine tkU 6 ?_
  refine tkU 7 ?_
  refine tkU 8 ?_
  refine tkU 9 ?_
  refine tkU 10 ?_
  refine tkY 11 ?_
  refine wpAnyH_ready (rs := [12]) (by kernel_rfl) (by simp) ?_
  refine AllReadyH.cons (o := ⟨_, _, _, _, _, _⟩) rfl (fun K hK => ?_) AllReadyH.nil
  go_simp
  skip
  refine hK.out _ _ trivial (fun hHeld => ?_)
  clear hK K
  try clear hx hy
  try simp only [Act.put, zA, zB, zC]
  refine tkY 13 ?_
  refine wpAnyH_done (by kernel_rfl) ?_ _
  go_wp2
  refine bodyPost_ret (v := .tuple #[.agg #[.int .i64 3, .int .i64 0, .string (s.extract 2 m), .slice none 0 0, .bool false], .bool false]) ?_ rfl ?_
  ·simp [results, Tryz.results122, go_sem, d0, d1, d2, d3, d4, d5]
  ·exact TagP.mk ⟨3, 0, s.extract 2 m, [], false⟩ false rfl (by rw [E.out]; rfl) (five_below B0.out w.heap.size _ _ _ _ _ (Nat.le_refl _)).drew
 | true =>
  have KN : Hid (∀ w1, Calls Tryz.prog 134 #[.string (s.extract 2 m)] w1 fun e w' => e = .returned (.bool true) ∧ w' = w1) := Hid.mk' (fun w1 => by have := KM w1 (by omega); rw [hnm] at this; exact this)
  have E : Hid (tagA s.data.toList = if (((s[m]'lz).toNat : Int) == 62) = true then some ⟨3, 0, s.extract 2 m, [], false⟩ else none) := Hid.mk' (E.out.trans (by
   by_cases h : (s.data.toList.getD m 0).toNat = 62
   ·rw [if_pos ⟨hnm, h⟩, if_pos (by rw [GZ.out, h]; rfl)]
   ·rw [if_neg (fun x => h x.2), if_neg (fun x => h (by rw [GZ.out] at x; have := eq_of_beq x; omega))]))
  clear KM hnm GZ
  cases e62 : (((s[m]'lz).toNat : Int) == 62) with
  | true =>
   rw [e62] at E
   go_enter Tryz.func122, Tryz.ntmps122
   go_wp2_with go_big_skip
   clear hw0
   refine wp_region_held_drew (S := (fun _ => True)) (by kernel_rfl) trivial (fun hHeld => ?_)
   refine tkY 0 ?_
   refine tkY 1 ?_
   refine tkY 2 ?_
   refine wpAnyH_ready (rs := [3]) (by kernel_rfl) (by simp) ?_
   refine AllReadyH.cons (o := ⟨_, _, _, _, _, _⟩) rfl (fun K hK => ?_) AllReadyH.nil
   go_simp
   go_at_call 134; refine (KN.out _).mono ?_; rintro e w6 ⟨rfl, hw⟩; obtain rfl := hw.symm
   refine hK.out _ _ trivial (fun hHeld => ?_)
   clear hK K
   try clear hx hy
   try simp only [Act.put, zA, zB, zC]
   refine tkY 4 ?_
   refine tkY 5 ?_
   refine tkY 6 ?_
   refine tkY 7 ?_
   refine tkY 8 ?_
   refine tkY 9 ?_
   refine tkY 10 ?_
   refine tkY 11 ?_
   refine wpAnyH_ready (rs := [12]) (by kernel_rfl) (by simp) ?_
   refine AllReadyH.cons (o := ⟨_, _, _, _, _, _⟩) rfl (fun K hK => ?_) AllReadyH.nil
   go_simp
   skip
   refine hK.out _ _ trivial (fun hHeld => ?_)
   clear hK K
   try clear hx hy
   try simp only [Act.put, zA, zB, zC]
   refine tkY 13 ?_
   refine wpAnyH_done (by kernel_rfl) ?_ _
   go_wp2
   refine bodyPost_ret (v := .tuple #[.agg #[.int .i64 3, .int .i64 0, .string (s.extract 2 m), .slice none 0 0, .bool false], .bool true]) ?_ rfl ?_
   ·simp [results, Tryz.results122, go_sem, d0, d1, d2, d3, d4, d5]
   ·exact TagP.mk ⟨3, 0, s.extract 2 m, [], false⟩ true rfl E.out (five_below B0.out w.heap.size _ _ _ _ _ (Nat.le_refl _)).drew
  | false =>
   rw [e62] at E
   go_enter Tryz.func122, Tryz.ntmps122
   go_wp2_with go_big_skip
   clear hw0
   refine wp_region_held_drew (S := (fun _ => True)) (by kernel_rfl) trivial (fun hHeld => ?_)
   refine tkY 0 ?_
   refine tkY 1 ?_
   refine tkY 2 ?_
   refine wpAnyH_ready (rs := [3]) (by kernel_rfl) (by simp) ?_
   refine AllReadyH.cons (o := ⟨_, _, _, _, _, _⟩) rfl (fun K hK => ?_) AllReadyH.nil
   go_simp
   go_at_call 134; refine (KN.out _).mono ?_; rintro e w6 ⟨rfl, hw⟩; obtain rfl := hw.symm
   refine hK.out _ _ trivial (fun hHeld => ?_)
   clear hK K
   try clear hx hy
   try simp only [Act.put, zA, zB, zC]
   refine tkY 4 ?_
   refine tkY 5 ?_
   refine tkY 6 ?_
   refine tkY 7 ?_
   refine tkY 8 ?_
   refine tkY 9 ?_
   refine tkY 10 ?_
   refine tkY 11 ?_
   refine wpAnyH_ready (rs := [12]) (by kernel_rfl) (by simp) ?_
   refine AllReadyH.cons (o := ⟨_, _, _, _, _, _⟩) rfl (fun K hK => ?_) AllReadyH.nil
   go_simp
   skip
   refine hK.out _ _ trivial (fun hHeld => ?_)
   clear hK K
   try clear hx hy
   try simp only [Act.put, zA, zB, zC]
   refine tkY 13 ?_
   refine wpAnyH_done (by kernel_rfl) ?_ _
   go_wp2
   refine bodyPost_ret (v := .tuple #[.agg #[.int .i64 3, .int .i64 0, .string (s.extract 2 m), .slice none 0 0, .bool false], .bool false]) ?_ rfl ?_
   ·simp [results, Tryz.results122, go_sem, d0, d1, d2, d3, d4, d5]
   ·exact TagP.mk ⟨3, 0, s.extract 2 m, [], false⟩ false rfl E.out (five_below B0.out w.heap.size _ _ _ _ _ (Nat.le_refl _)).drew
def rtC (L : List UInt8) : Int := if 160 < L.length then 6 else (match tagA L with | none => 5 | some _ => 0)
def rtT (L : List UInt8) : TK := if 160 < L.length then ⟨0, 0, ⟨#[]⟩, [], false⟩ else (match tagA L with | none => ⟨0, 0, ⟨#[]⟩, [], false⟩ | some t => t)
def r6 (c x y z u v : Value) (i : Nat) : Value := if i = 0 then c else r5 x y z u v (i - 1)
theorem row6 (w : World) (t : TypeId) (c x y z u v : Value) : (w.alloc (.cells #[c, x, y, z, u, v] t)).rowIs w.heap.size t 6 (r6 c x y z u v) :=
 ⟨_, Deep.blk_alloc_new _ _, rfl, fun i hi => by
  have : i = 0 ∨ i = 1 ∨ i = 2 ∨ i = 3 ∨ i = 4 ∨ i = 5 := by omega
  rcases this with rfl | rfl | rfl | rfl | rfl | rfl <;> rfl⟩
theorem cells6 {w : World} {g : Nat} {ty : TypeId} {c x y z u v : Value} (h : w.rowIs g ty 6 (r6 c x y z u v)) : w.cell? ⟨g, 0, none⟩ = some c ∧ w.cell? ⟨g, 1, none⟩ = some x ∧ w.cell? ⟨g, 2, none⟩ = some y ∧ w.cell? ⟨g, 3, none⟩ = some z ∧ w.cell? ⟨g, 4, none⟩ = some u ∧ w.cell? ⟨g, 5, none⟩ = some v ∧ g < w.heap.size :=
 ⟨h.cell (by omega), h.cell (by omega), h.cell (by omega), h.cell (by omega), h.cell (by omega), h.cell (by omega), h.lt⟩
def ResP (L : List UInt8) (w : World) (e : Ending) (w' : World) : Prop := ∃ v us, e = .returned (.agg #[.int .i64 (rtC L), .int .i64 (rtT L).kd, .int .i64 (rtT L).by_, .string (rtT L).nm, v, .bool (rtT L).sh]) ∧ OA w.heap.size w' v (rtT L).at_ us ∧ Below w.heap.size w w'
def tcs : List TK → List Value → List Value
 | t :: l, u :: us => .int .i64 t.kd :: .int .i64 t.by_ :: .string t.nm :: u :: .bool t.sh :: tcs l us
 | _, _ => []
theorem tcs_len : ∀ (l : List TK) (us : List Value), us.length = l.length → (tcs l us).length = l.length * 5
 | [], us, h => by cases us <;> rfl
 | a :: l, [], h => by simp at h
 | a :: l, u :: us, h => by
  simp only [tcs, List.length_cons]
  rw [tcs_len l us (by simpa using h)]; omega
theorem tcs_app : ∀ (l : List TK) (us : List Value) (m : List TK) (vs : List Value), us.length = l.length → tcs (l ++ m) (us ++ vs) = tcs l us ++ tcs m vs
 | [], [], m, vs, _ => rfl
 | [], u :: us, _, _, h => by simp at h
 | b :: l, [], _, _, h => by simp at h
 | b :: l, v :: us, m, vs, h => by
  simp only [List.cons_append, tcs]
  rw [tcs_app l us m vs (by simpa using h)]
def byteT (b : Int) : TK := ⟨1, b, ⟨#[]⟩, [], false⟩
def bytesT (l : List Int) : List TK := l.map byteT
def nils (n : Nat) : List Value := List.replicate n (.slice none 0 0)
theorem nils_len (n : Nat) : (nils n).length = n := by simp [nils]
theorem bytesT_len (l : List Int) : (bytesT l).length = l.length := by simp [bytesT]
theorem tcs_one : ∀ (l : List TK) (us : List Value), (∀ u ∈ us, u.oneCell' = true) → ∀ u ∈ tcs l us, u.oneCell' = true
 | [], us, _, u, hu => by cases us <;> simp [tcs] at hu
 | a :: l, [], _, u, hu => by simp [tcs] at hu
 | a :: l, v :: us, h, u, hu => by
  simp only [tcs, List.mem_cons] at hu
  rcases hu with rfl | rfl | rfl | rfl | rfl | hu
  ·rfl
  ·rfl
  ·rfl
  ·exact h _ (by simp)
  ·rfl
  ·exact tcs_one l us (fun u hu => h u (by simp [hu])) u hu
theorem Tryz.infoTok : (Tryz.prog.info? 107).map (fun i => (i.zero, i.size, i.bytes)) = some (some (.agg #[.int .i64 0, .int .i64 0, .string ⟨#[]⟩, .slice none 0 0, .bool false]), 5, 64) := by kernel_rfl
theorem bytesT_snoc (l : List Int) (b : Int) : tcs (bytesT (l ++ [b])) (nils (l ++ [b]).length) = tcs (bytesT l) (nils l.length) ++ [.int .i64 1, .int .i64 b, .string ⟨#[]⟩, .slice none 0 0, .bool false] := by
 have e1 : bytesT (l ++ [b]) = bytesT l ++ [byteT b] := by simp [bytesT]
 have e2 : nils (l ++ [b]).length = nils l.length ++ [.slice none 0 0] := by simp [nils, List.replicate_succ']
 rw [e1, e2, tcs_app _ _ _ _ (by rw [nils_len, bytesT_len])]
 rfl
theorem new_cells' (w : World) (t : TypeId) (xs : List Value) (g : Nat) (hg : w.heap.size = g) : ∀ j u, xs[j]? = some u → (w.alloc (.cells xs.toArray t)).cell? ((⟨g, 0, none⟩ : Addr).add j) = some u := by
 intro j u h
 subst hg
 rw [Addr.add_mid, Nat.zero_add]
 have := Lib.cell_of_heap (w := w.alloc (.cells xs.toArray t)) (Deep.blk_alloc_new w (.cells xs.toArray t)) j
 rw [this]
 simpa using h
theorem take_snoc_int {l : List Int} {k : Nat} (h : k < l.length) : l.take (k + 1) = l.take k ++ [l.getD k 0] := by
 rw [List.take_succ_eq_append_getElem h]
 simp [h]
theorem l5Go_any (a : Option Addr) (c : Nat) (l : List Int) (w : World) (ha : BAt w a l) (hu : ∀ k, k < l.length → 0 ≤ l.getD k 0 ∧ l.getD k 0 ≤ 255) (hl : l.length ≤ 1000) :
  Calls Tryz.prog 68 #[.slice a l.length c] w fun e w' => ∃ v, e = .returned v ∧ w'.ownsRow w.heap.size 107 5 v l.length (tcs (bytesT l) (nils l.length)) ∧ Below w.heap.size w w' := by
 have HA := Hid.mk' ha
 clear ha
 have O0 := Hid.mk' (World.ownsRow_lit (base := w.heap.size) (e := 107) (size := 5) w #[] 0 (Nat.le_refl _) (by unfold maxLen; omega) rfl)
 have B0 := Hid.mk' (below_new w (.cells #[] 107))
 go_enter Tryz.func68, Tryz.ntmps68
 go_wp2
 go_loopw [3, 4] (fun v i wr => ∃ k : Nat, k ≤ l.length ∧ i = .int .i64 k ∧ wr.ownsRow w.heap.size 107 5 v k (tcs (bytesT (l.take k)) (nils k)) ∧ Below w.heap.size w wr) (fun _ i _ => l.length - (intOf i).toNat)
 case atStart => exact ⟨0, Nat.zero_le _, rfl, O0.out, B0.out⟩
 case round =>
  obtain ⟨k, hk, rfl, hown, hbl⟩ := hrel
  have HO := Hid.mk' hown
  have HB := Hid.mk' hbl
  by_cases hlt : k < l.length
  ·have ci : (k : Int) < (l.length : Int) := by omega
   rcases HA.out with ha | ⟨b, o, rfl, hbs, hc⟩
   ·exact absurd hlt (by rw [ha]; exact Nat.not_lt_zero _)
   obtain ⟨y, hy⟩ : ∃ y, l.getD k 0 = y := ⟨_, rfl⟩
   have h1 : wr.cell? ⟨b, o + k, none⟩ = some (.int .u8 y) := by rw [← hy]; exact (hbl.cell hbs).trans (hc k hlt)
   obtain ⟨y0, y1⟩ := hu k hlt
   rw [hy] at y0 y1
   have wy : IntKind.i64.wrap y = y := by rw [IntKind.wrap_i64]; omega
   have E : Hid (tcs (bytesT (l.take (k + 1))) (nils (k + 1)) = tcs (bytesT (l.take k)) (nils k) ++ [.int .i64 1, .int .i64 y, .string ⟨#[]⟩, .slice none 0 0, .bool false]) := Hid.mk' (by
    have e := bytesT_snoc (l.take k) y
    rw [take_snoc_int hlt, hy]
    have n1 : (l.take k ++ [y]).length = k + 1 := by simp; omega
    have n2 : (l.take k).length = k := by simp; omega
    rw [n1, n2] at e
    exact e)
   have VB := below_new wr (.cells #[.int .i64 1, .int .i64 y, .string ⟨#[]⟩, .slice none 0 0, .bool false] 107)
   have OV := Hid.mk' (own_keep HO.out VB)
   have NC := Hid.mk' (new_cells' wr 107 [.int .i64 1, .int .i64 y, .string ⟨#[]⟩, .slice none 0 0, .bool false] wr.heap.size rfl)
   have HB := Hid.mk' (HB.out.trans (VB.mono HB.out.size))
   have SZ : Hid (w.heap.size ≤ (wr.alloc (.cells #[.int .i64 1, .int .i64 y, .string ⟨#[]⟩, .slice none 0 0, .bool false] 107)).heap.size) := Hid.mk' HB.out.size
   have P1 : Hid (∀ u ∈ ([.int .i64 1, .int .i64 y, .string ⟨#[]⟩, .slice none 0 0, .bool false] : List Value), u.oneCell' = true) := Hid.mk' (by
    intro u hu'
    simp only [List.mem_cons, List.not_mem_nil, or_false] at hu'
    rcases hu' with rfl | rfl | rfl | rfl | rfl <;> rfl)
   clear hc hown hbl VB hy
   go_wp2_with (at_builtin; refine wpList_append_at _ rfl (.tmp 12) (.tmp 19) 24 rfl w.heap.size 107 (.agg #[.int .i64 0, .int .i64 0, .string ⟨#[]⟩, .slice none 0 0, .bool false]) 5 64 Tryz.underlying24 Tryz.infoTok rfl (by decide) _ _ _ rfl OV.out _ 1 _ [.int .i64 1, .int .i64 y, .string ⟨#[]⟩, .slice none 0 0, .bool false] rfl rfl (.inr ⟨_, rfl, NC.out⟩) P1.out (by unfold maxLen; omega) (by omega) SZ.out ?_; intro v' w1 ho hgr hat)
   have O2 : Hid (w1.ownsRow w.heap.size 107 5 v' (k + 1) (tcs (bytesT (l.take (k + 1))) (nils (k + 1)))) := Hid.mk' (by rw [E.out]; exact ho)
   have B2 := Hid.mk' (HB.out.grown hgr SZ.out (own_lo OV.out))
   clear ho hgr hat
   go_roundw
   case rel => exact ⟨k + 1, by omega, by go_num, O2.out, B2.out⟩
   case measure => simp [intOf]; omega
  ·have ci : ¬ (k : Int) < (l.length : Int) := by omega
   have e : k = l.length := by omega
   subst e
   rw [List.take_length] at hown
   have HO := Hid.mk' hown
   clear hown hbl
   go_wp2
   go_ret
   exact ⟨_, rfl, HO.out, HB.out⟩


end Go.Proofs.YtlimgcmhidooaaaGreatDoor
