/- Bytes spliced: the codes, a copy of as many as there is room for, a row cleared. -/
import Derived.Test.YtieeojhdidjnaaaGreatDoorJ14
import Derived.Test.YtieeojhdidjnaaaGreatDoorJ17
import Derived.Lib.SliceRun
import Derived.Test.YtieeojhdidjnaaaGreatDoorJ30
import Derived.Test.YtieeojhdidjnaaaGreatDoorJ21
set_option maxHeartbeats 6400000
set_option maxRecDepth 100000
set_option linter.unusedVariables false
set_option linter.unusedSimpArgs false
namespace Go.Proofs.YtieeojhdidjnaaaGreatDoor
open Go.RowKit
def CAt (w : World) (b o : Nat) (l : List Int) : Prop := b < w.heap.size ∧ ∀ k, k < l.length → w.cell? ⟨b, o + k, none⟩ = some (bv l k)
theorem CAt.below {w w' : World} {b o : Nat} {l : List Int} (h : CAt w b o l) (hb : Below w.heap.size w w') : CAt w' b o l :=
 ⟨Nat.lt_of_lt_of_le h.1 hb.size, fun k hk => (hb.cell h.1).trans (h.2 k hk)⟩
theorem CAt.at {w : World} {b o : Nat} {l : List Int} (h : CAt w b o l) : BAt w (some ⟨b, o, none⟩) l := .inr ⟨b, o, rfl, h.1, h.2⟩
theorem CAt.of_row {w : World} {b : Nat} {l : List Int} (h : w.rowIs b 5 l.length (bv l)) : CAt w b 0 l := ⟨h.lt, fun k hk => by rw [Nat.zero_add]; exact h.cell hk⟩
theorem CAt.sub {w : World} {b o f z : Nat} {l : List Int} (h : CAt w b o l) (hz : f + z ≤ l.length) : CAt w b (o + f) ((l.drop f).take z) := by
 refine ⟨h.1, fun k hk => ?_⟩
 rw [List.length_take, List.length_drop] at hk
 have hk' : k < z := by omega
 rw [show o + f + k = o + (f + k) from by omega, h.2 (f + k) (by omega)]
 unfold bv
 congr 2
 simp [hk']
theorem CAt.head {w : World} {b o z : Nat} {l : List Int} (h : CAt w b o l) (hz : z ≤ l.length) : CAt w b o (l.take z) := by
 have := h.sub (f := 0) (z := z) (by omega)
 simpa using this
theorem CAt.tail {w : World} {b o f : Nat} {l : List Int} (h : CAt w b o l) (hz : f ≤ l.length) : CAt w b (o + f) (l.drop f) := by
 have := h.sub (f := f) (z := l.length - f) (by omega)
 rwa [List.take_of_length_le (by rw [List.length_drop]; omega)] at this
def spl (l : List Int) (at_ n : Nat) (p : List Int) : List Int := l.take at_ ++ p ++ l.drop (at_ + n)
theorem spl_len {l : List Int} {at_ n : Nat} {p : List Int} (h : at_ + n ≤ l.length) : (spl l at_ n p).length = l.length - n + p.length := by
 simp [spl]; omega
def spC (size at_ n m : Int) : Int := if at_ < 0 ∨ size < at_ ∨ n < 0 ∨ size - at_ < n then 3 else if 240 < size - n + m then 6 else 0
theorem spC_zero {size at_ n m : Int} (h : spC size at_ n m = 0) : 0 ≤ at_ ∧ 0 ≤ n ∧ at_ + n ≤ size ∧ size - n + m ≤ 240 := by
 unfold spC at h
 split at h
 ·omega
 ·split at h <;> omega
theorem copy_min {P : Program} (dT sT ty : TypeId) (hu : P.underlying dT = some (.slice 5)) (hs : (P.info? 5).map (·.size) = some 1) {w : World} {g cn : Nat} {f : Nat → Value} (o dn dc : Nat) (hr : w.rowIs g 5 cn f) (a : Option Addr) (c : Nat) (l : List Int) (k : Nat)
  (ha : BAt w a l) (hk : Nat.min l.length dn = k) (h2 : o + k ≤ cn) :
  ∃ w', (Builtin.copy_ #[dT, sT] ty #[.slice (some ⟨g, o, none⟩) dn dc, .slice a l.length c]).run P w = .ok (goInt k) w' ∧ w'.rowIs g 5 cn (fun j => if o ≤ j ∧ j < o + k then bv l (j - o) else f j) ∧ KeptIn g (g + 1) w w' := by
 have hkl : k ≤ l.length := by rw [← hk]; exact Nat.min_le_left _ _
 rcases ha.src with h0 | ⟨ad, rfl, hc⟩
 ·have : k = 0 := by omega
  subst this
  rw [h0]
  exact ⟨w, run_copy_none w dT sT ty 5 _ a dn dc 0 c hu hs (by simp), hr.congr (fun j _ => by rw [if_neg (by omega)]), KeptIn.refl _ _ _⟩
 ·obtain ⟨cur, hg, hn, hf⟩ := hr
  have el : (l.take k).length = k := by rw [List.length_take]; omega
  have hmin : (bcs (l.take k)).length = Nat.min l.length dn := by rw [bcs_len, Nat.mul_one, el]; exact hk.symm
  have hb : ∀ i, i < k → bv (l.take k) i = bv l i := fun i hi => by simp [bv, hi]
  have hc' : ∀ j u, (bcs (l.take k))[j]? = some u → w.cell? (ad.add j) = some u := by
   intro j u hj
   have hlt : j < k := by
    have := (List.getElem?_eq_some_iff.1 hj).1
    rw [bcs_len, el] at this; omega
   rw [bcs_get _ j (by omega), hb j hlt] at hj
   exact hc j u (by rw [bcs_get l j (by omega)]; exact hj)
  have hrun := run_copy_row (P := P) w dT sT ty 5 g o dn dc ad l.length c cur 5 (bcs (l.take k)) hu hs hg hmin hc' (by rw [bcs_len, el]; omega) (bcs_one _)
  rw [bcs_len, Nat.mul_one, el] at hrun
  refine ⟨_, hrun, ⟨_, setRow_heap w g cur _ 5 _ hg, ?_, fun i hi => ?_⟩, ⟨rfl, rfl, rfl, by simp [World.setRow], fun k hk hne => setRow_other w g k _ (by omega)⟩⟩
  ·simp only [List.size_toArray, List.length_append, List.length_take, List.length_drop, Array.length_toList, bcs_len]
   omega
  ·simp only [List.getElem?_toArray]
   have hlt : (cur.toList.take o).length = o := by rw [List.length_take, Array.length_toList]; omega
   by_cases c1 : i < o
   ·rw [if_neg (by omega), List.append_assoc, List.getElem?_append_left (by omega), List.getElem?_take, if_pos c1, Array.getElem?_toList]
    exact hf i hi
   ·by_cases c2 : i < o + k
    ·rw [if_pos (by omega), List.append_assoc, List.getElem?_append_right (by omega), hlt, List.getElem?_append_left (by rw [bcs_len, el]; omega), bcs_get _ _ (by omega), hb _ (by omega)]
    ·rw [if_neg (by omega), List.append_assoc, List.getElem?_append_right (by omega), hlt, List.getElem?_append_right (by rw [bcs_len, el]; omega), bcs_len, el, List.getElem?_drop, Array.getElem?_toList]
     rw [show o + k + (i - o - k * 1) = i from by omega]
     exact hf i hi
theorem setCells_row {g cn : Nat} {t : TypeId} (z : Value) : ∀ (n o : Nat) (w : World) (f : Nat → Value), w.rowIs g t cn f →
  (w.setCells g o (List.replicate n z)).rowIs g t cn (fun j => if o ≤ j ∧ j < o + n then z else f j) ∧ KeptIn g (g + 1) w (w.setCells g o (List.replicate n z)) := by
 intro n
 induction n with
 | zero => intro o w f h; exact ⟨h.congr (fun j _ => by rw [if_neg (by omega)]), KeptIn.refl _ _ _⟩
 | succ n ih =>
  intro o w f h
  obtain ⟨h1, h2⟩ := ih (o + 1) _ _ (h.set o z)
  refine ⟨h1.congr (fun j _ => ?_), ((KeptIn.refl g (g + 1) w).setCell (Nat.le_refl _) (Nat.lt_succ_self _) z).trans h2⟩
  by_cases e : j = o
  ·subst e; rw [if_neg (by omega), if_pos rfl, if_pos (by omega)]
  ·rw [if_neg (show ¬ j = o from e)]
   by_cases c : o + 1 ≤ j ∧ j < o + 1 + n
   ·rw [if_pos c, if_pos (by omega)]
   ·rw [if_neg c, if_neg (by omega)]
theorem clear_row {P : Program} (t ty : TypeId) (hu : P.underlying t = some (.slice 5)) (hv : ∀ w, (zeroValue 5).run P w = .ok (.int .u8 0) w) {w : World} {g cn : Nat} {f : Nat → Value} (o n c : Nat) (hr : w.rowIs g 5 cn f) (hn : o + n = cn) :
  ∃ w', (Builtin.clear_ #[t] ty #[.slice (some ⟨g, o, none⟩) n c]).run P w = .ok (.tuple #[]) w' ∧ w'.rowIs g 5 cn (fun j => if j < o then f j else .int .u8 0) ∧ KeptIn g (g + 1) w w' := by
 by_cases h0 : n = 0
 ·subst h0
  refine ⟨w, ?_, hr.congr (fun j hj => by rw [if_pos (by omega)]), KeptIn.refl _ _ _⟩
  simp [Builtin.clear_, run_underlying hu]
 ·have hrun := Go.Lib.run_clear_slice (P := P) w t 5 ty (.int .u8 0) hu hv rfl rfl g o n c (by omega) (fun j hj => by rw [hr.cell (by omega)]; rfl) (fun j hj => hr.frozen _)
  obtain ⟨h1, h2⟩ := setCells_row (.int .u8 0) n o w f hr
  exact ⟨_, hrun, h1.congr (fun j hj => by
   by_cases c : j < o
   ·rw [if_neg (by omega), if_pos c]
   ·rw [if_pos (by omega), if_neg c]), h2⟩
theorem l1InS_any (v lo hi : Int) (w : World) : Calls Tryz.prog 50 #[.int .i64 v, .int .i64 lo, .int .i64 hi] w fun e w' => e = .returned (.bool (decide (lo ≤ v) && decide (v ≤ hi))) ∧ w' = w := by
 by_cases h1 : lo ≤ v
 ·by_cases h2 : v ≤ hi
  ·go_enter Tryz.func50, Tryz.ntmps50
   go_wp2
   go_ret
   exact ⟨by simp [h1, h2], rfl⟩
  ·go_enter Tryz.func50, Tryz.ntmps50
   go_wp2
   go_ret
   exact ⟨by simp; omega, rfl⟩
 ·go_enter Tryz.func50, Tryz.ntmps50
  go_wp2
  go_ret
  exact ⟨by simp; omega, rfl⟩
theorem l13Asked_any (s : Nat) (at_ n : Int) (a : Option Addr) (m c : Nat) (w : World) (hs : s ≤ 1048576) (hm : m ≤ 1048576) (a1 : -9223372036854775808 ≤ at_) (a2 : at_ ≤ 9223372036854775807) (n1 : -9223372036854775808 ≤ n) (n2 : n ≤ 9223372036854775807) :
  Calls Tryz.prog 76 #[.int .i64 (s : Int), .int .i64 at_, .int .i64 n, .slice a m c] w fun e w' => e = .returned (.int .i64 (spC s at_ n m)) ∧ w' = w := by
 by_cases h1 : 0 ≤ at_ ∧ at_ ≤ s
 ·have K1 := l1InS_any at_ 0 s w
  have K2 := l1InS_any n 0 ((s : Int) - at_) w
  rw [show (decide (0 ≤ at_) && decide (at_ ≤ (s : Int))) = true by simp [h1]] at K1
  have K1 := Hid.mk' K1
  obtain ⟨h1, h1'⟩ := h1
  by_cases h2 : 0 ≤ n ∧ n ≤ s - at_
  ·rw [show (decide (0 ≤ n) && decide (n ≤ (s : Int) - at_)) = true by simp [h2]] at K2
   have K2 := Hid.mk' K2
   obtain ⟨h2, h2'⟩ := h2
   by_cases h3 : 240 < (s : Int) - n + m
   ·have E : Hid (spC s at_ n m = 6) := by unfold spC; rw [if_neg (by omega), if_pos h3]; exact rfl
    go_enter Tryz.func76, Tryz.ntmps76
    go_wp2_with (first | (go_at_call 50; with_reducible refine K1.out.mono ?_; rintro e w1 ⟨rfl, rfl⟩) | (go_at_call 50; with_reducible refine K2.out.mono ?_; rintro e w1 ⟨rfl, rfl⟩))
    go_ret
    exact ⟨by rw [E.out]; rfl, rfl⟩
   ·have E : Hid (spC s at_ n m = 0) := by unfold spC; rw [if_neg (by omega), if_neg h3]; exact rfl
    go_enter Tryz.func76, Tryz.ntmps76
    go_wp2_with (first | (go_at_call 50; with_reducible refine K1.out.mono ?_; rintro e w1 ⟨rfl, rfl⟩) | (go_at_call 50; with_reducible refine K2.out.mono ?_; rintro e w1 ⟨rfl, rfl⟩))
    go_ret
    exact ⟨by rw [E.out]; rfl, rfl⟩
  ·rw [show (decide (0 ≤ n) && decide (n ≤ (s : Int) - at_)) = false by simp; omega] at K2
   have K2 := Hid.mk' K2
   have E : Hid (spC s at_ n m = 3) := by unfold spC; rw [if_pos (by omega)]; exact rfl
   clear h2
   go_enter Tryz.func76, Tryz.ntmps76
   go_wp2_with (first | (go_at_call 50; with_reducible refine K1.out.mono ?_; rintro e w1 ⟨rfl, rfl⟩) | (go_at_call 50; with_reducible refine K2.out.mono ?_; rintro e w1 ⟨rfl, rfl⟩))
   go_ret
   exact ⟨by rw [E.out]; rfl, rfl⟩
 ·have K1 := l1InS_any at_ 0 s w
  rw [show (decide (0 ≤ at_) && decide (at_ ≤ (s : Int))) = false by simp; omega] at K1
  have K1 := Hid.mk' K1
  have E : Hid (spC s at_ n m = 3) := by unfold spC; rw [if_pos (by omega)]; exact rfl
  clear h1
  go_enter Tryz.func76, Tryz.ntmps76
  go_wp2_with (go_at_call 50; with_reducible refine K1.out.mono ?_; rintro e w1 ⟨rfl, rfl⟩)
  go_ret
  exact ⟨by rw [E.out]; rfl, rfl⟩
theorem spliceFault_any (a b : Option Addr) (s c m d : Nat) (at_ n : Int) (w : World) (hs : s ≤ 1048576) (hm : m ≤ 1048576) (a1 : -9223372036854775808 ≤ at_) (a2 : at_ ≤ 9223372036854775807) (n1 : -9223372036854775808 ≤ n) (n2 : n ≤ 9223372036854775807) :
  Calls Tryz.prog 75 #[.slice a s c, .int .i64 at_, .int .i64 n, .slice b m d] w fun e w' => e = .returned (.int .i64 (spC s at_ n m)) ∧ w' = w := by
 by_cases h1 : at_ < 0
 ·have E : Hid (spC s at_ n m = 3) := by unfold spC; rw [if_pos (by omega)]; exact rfl
  go_enter Tryz.func75, Tryz.ntmps75
  go_wp2
  go_ret
  exact ⟨by rw [E.out]; rfl, rfl⟩
 ·by_cases h2 : n < 0
  ·have E : Hid (spC s at_ n m = 3) := by unfold spC; rw [if_pos (by omega)]; exact rfl
   go_enter Tryz.func75, Tryz.ntmps75
   go_wp2
   go_ret
   exact ⟨by rw [E.out]; rfl, rfl⟩
  ·by_cases h3 : (s : Int) - at_ < n
   ·have E : Hid (spC s at_ n m = 3) := by unfold spC; rw [if_pos (by omega)]; exact rfl
    go_enter Tryz.func75, Tryz.ntmps75
    go_wp2
    go_ret
    exact ⟨by rw [E.out]; rfl, rfl⟩
   ·by_cases h4 : 240 - ((s : Int) - n) < m
    ·have E : Hid (spC s at_ n m = 6) := by unfold spC; rw [if_neg (by omega), if_pos (by omega)]; exact rfl
     go_enter Tryz.func75, Tryz.ntmps75
     go_wp2
     go_ret
     exact ⟨by rw [E.out]; rfl, rfl⟩
    ·have E : Hid (spC s at_ n m = 0) := by unfold spC; rw [if_neg (by omega), if_neg (by omega)]; exact rfl
     go_enter Tryz.func75, Tryz.ntmps75
     go_wp2
     go_ret
     exact ⟨by rw [E.out]; rfl, rfl⟩
theorem CAt.rest {w : World} {b o c f : Nat} {l : List Int} (h : CAt w b o l) (hc : l.length ≤ c) (hf : f ≤ l.length) : BAt w (if c = f then some ⟨b, o, none⟩ else some ⟨b, o + f, none⟩) (l.drop f) := by
 by_cases e : c = f
 ·exact .inl (List.drop_eq_nil_of_le (by omega))
 ·rw [if_neg e]; exact (h.tail hf).at
def spB (l : List Int) (at_ n : Int) (p : List Int) : List Int := if spC l.length at_ n p.length = 0 then spl l at_.toNat n.toNat p else []
theorem copy_end {P : Program} (dT sT ty : TypeId) (hu : P.underlying dT = some (.slice 5)) (hs : (P.info? 5).map (·.size) = some 1) {w : World} {g cn : Nat} {f : Nat → Value} (q : Nat) (hr : w.rowIs g 5 cn f) (a : Option Addr) (c : Nat) (l : List Int)
  (ha : BAt w a l) (h2 : q + l.length ≤ cn) :
  ∃ w', (Builtin.copy_ #[dT, sT] ty #[.slice (if cn = q then some ⟨g, 0, none⟩ else some ⟨g, q, none⟩) (cn - q) (cn - q), .slice a l.length c]).run P w = .ok (goInt l.length) w' ∧ w'.rowIs g 5 cn (fun j => if q ≤ j ∧ j < q + l.length then bv l (j - q) else f j) ∧ KeptIn g (g + 1) w w' := by
 by_cases e : cn = q
 ·have h0 : l.length = 0 := by omega
  rw [if_pos e]
  rw [h0]
  exact ⟨w, run_copy_none w dT sT ty 5 _ a (cn - q) (cn - q) 0 c hu hs (by simp), hr.congr (fun j _ => by rw [if_neg (by omega)]), KeptIn.refl _ _ _⟩
 ·rw [if_neg e]
  exact copy_min dT sT ty hu hs q (cn - q) (cn - q) hr a c l l.length ha (Nat.min_eq_left (by omega)) h2
theorem clear_end {P : Program} (t ty : TypeId) (hu : P.underlying t = some (.slice 5)) (hv : ∀ w, (zeroValue 5).run P w = .ok (.int .u8 0) w) {w : World} {g cn : Nat} {f : Nat → Value} (q : Nat) (hr : w.rowIs g 5 cn f) (hq : q ≤ cn) :
  ∃ w', (Builtin.clear_ #[t] ty #[.slice (if cn = q then some ⟨g, 0, none⟩ else some ⟨g, q, none⟩) (cn - q) (cn - q)]).run P w = .ok (.tuple #[]) w' ∧ w'.rowIs g 5 cn (fun j => if j < q then f j else .int .u8 0) ∧ KeptIn g (g + 1) w w' := by
 by_cases e : cn = q
 ·rw [if_pos e]
  subst e
  rw [Nat.sub_self]
  refine ⟨w, ?_, hr.congr (fun j hj => by rw [if_pos hj]), KeptIn.refl _ _ _⟩
  simp [Builtin.clear_, run_underlying hu]
 ·rw [if_neg e]
  exact clear_row t ty hu hv q (cn - q) (cn - q) hr (by omega)
theorem step_copy_run {P : Program} {ops : Array Oper} {op : Oper} {a : Act} {w : World} {K : Act → World → Prop} {Q : Exit → Act → World → Prop} {E : Prop} (hgd : op.guard = none) (d s : Operand) (dT sT : TypeId)
  (ho : op.op = .call { callee := .builtin .copy, args := #[d, s], argTypes := #[dT, sT] }) (vd vs v : Value) (hd : a.eval d = vd) (hx : a.eval s = vs) (w' : World) (hrun : (Builtin.copy_ #[dT, sT] op.type #[vd, vs]).run P w = .ok v w')
  (h : K (a.put op.dst v) w') : if Region.wanted op (yielded ops a.tmps) = true then Oper.wp P op a w K Q else E := by
 have hw : Region.wanted op (yielded ops a.tmps) = true := by simp [Region.wanted, hgd]
 rw [if_pos hw]
 unfold Oper.wp
 simp [execOp, ho, resolve, invoke, builtin, hd, hx, hrun, Result.andThen]
 exact h
theorem implSB_any (b o c : Nat) (l : List Int) (at_ n : Int) (e : Option Addr) (d : Nat) (p : List Int) (w : World) (hl : CAt w b o l) (hc : l.length ≤ c) (he : BAt w e p) (hs : l.length ≤ 1048576) (hm : p.length ≤ 1048576) (a1 : -9223372036854775808 ≤ at_) (a2 : at_ ≤ 9223372036854775807) (n1 : -9223372036854775808 ≤ n) (n2 : n ≤ 9223372036854775807) :
  Calls Tryz.prog 37 #[.slice (some ⟨b, o, none⟩) l.length c, .int .i64 at_, .int .i64 n, .slice e p.length d] w fun e w' => ∃ v, e = .returned (.agg #[.int .i64 (spC l.length at_ n p.length), v]) ∧ OB w' v (spB l at_ n p) ∧ In w.heap.size w'.heap.size v ∧ Below w.heap.size w w' := by
 have B0 := below_new w (.cells #[.int .i64 0, .slice none 0 0] 64)
 have K0 := Hid.mk' (spliceFault_any (some ⟨b, o, none⟩) e l.length c p.length d at_ n (w.alloc (.cells #[.int .i64 0, .slice none 0 0] 64)) hs hm a1 a2 n1 n2)
 by_cases h0 : spC l.length at_ n p.length = 0
 ·obtain ⟨h1, h2, h3, h4⟩ := spC_zero h0
  obtain ⟨i, rfl⟩ := Int.eq_ofNat_of_zero_le h1
  obtain ⟨j, rfl⟩ := Int.eq_ofNat_of_zero_le h2
  have E : Hid (spB l (i : Int) (j : Int) p = spl l i j p) := by unfold spB; rw [if_pos h0]; exact rfl
  rw [h0] at K0 ⊢
  have BB := Hid.mk' B0
  have hmk : (Instr.makeSlice 22 (.int .i64 240) (.int .i64 240)).run Tryz.prog (w.alloc (.cells #[.int .i64 0, .slice none 0 0] 64)) = .ok (.slice (some ⟨w.heap.size + 1, 0, none⟩) 240 240) ((w.alloc (.cells #[.int .i64 0, .slice none 0 0] 64)).alloc (.cells (madeCells #[.int .u8 0] 240) 5)) := by
   have := run_make_row' (P := Tryz.prog) 22 5 (.int .u8 0) 1 Tryz.underlying22 Tryz.info5 rfl .i64 .i64 240 (by omega) (by omega) (w.alloc (.cells #[.int .i64 0, .slice none 0 0] 64))
   simpa using this
  have B1 := B0.alloc (by simp) (.cells (madeCells #[.int .u8 0] 240) 5)
  have R1 := World.rowIs_made (w.alloc (.cells #[.int .i64 0, .slice none 0 0] 64)) (.int .u8 0) 240 5
  have z1 : (w.alloc (.cells #[.int .i64 0, .slice none 0 0] 64)).heap.size = w.heap.size + 1 := by simp
  rw [z1] at R1
  obtain ⟨k1, hm1⟩ : ∃ k, Nat.min l.length 240 = k := ⟨_, rfl⟩
  have km : k1 ≤ 240 := by rw [← hm1]; exact Nat.min_le_right _ _
  have kl : k1 ≤ l.length := by rw [← hm1]; exact Nat.min_le_left _ _
  have ki : i ≤ k1 := by rw [← hm1]; exact Nat.le_min.2 ⟨by omega, by omega⟩
  obtain ⟨w2, hcp1, R2, hk2⟩ := copy_min (P := Tryz.prog) 22 22 3 Tryz.underlying22 (by kernel_rfl) 0 240 240 R1 (some ⟨b, o, none⟩) c l k1 (hl.below B1).at hm1 (by omega)
  have B2 := B1.trans (hk2.below (by omega) (by simp; omega))
  obtain ⟨w3, hcp2, R3, hk3⟩ := copy_end (P := Tryz.prog) 22 22 3 Tryz.underlying22 (by kernel_rfl) i R2 e d p (he.below B2) (by omega)
  have B3 := B2.trans (hk3.below (by omega) (by have := R2.lt; omega))
  obtain ⟨w4, hcp3, R4, hk4⟩ := copy_end (P := Tryz.prog) 22 22 3 Tryz.underlying22 (by kernel_rfl) (i + p.length) R3.drew (if c = i + j then some ⟨b, o, none⟩ else some ⟨b, o + (i + j), none⟩) (c - (i + j)) (l.drop (i + j)) ((hl.rest hc (by omega)).below B3.drew) (by rw [List.length_drop]; omega)
  have B4 := B3.drew.trans (hk4.below (by omega) (by have := R3.drew.lt; omega))
  rw [List.length_drop] at hcp3 R4
  obtain ⟨w5, hcl, R5, hk5⟩ := clear_end (P := Tryz.prog) 22 0 Tryz.underlying22 (by intro w; rfl) (i + p.length + (l.length - (i + j))) R4 (by omega)
  have B5 := Hid.mk' (B4.trans (hk5.below (by omega) (by have := R4.lt; omega)))
  have R5 := Hid.mk' R5
  have hk4' : KeptIn (w.heap.size + 1) (w.heap.size + 1 + 1) w3 w4 := ⟨hk4.os, hk4.tape, hk4.output, hk4.size, hk4.block⟩
  have hkk := ((hk2.trans hk3).trans hk4').trans hk5
  have Q0 := rowK (rowB (rowQ2 w 64 (.int .i64 0) (.slice none 0 0)) (below_new _ (.cells (madeCells #[.int .u8 0] 240) 5))) hkk (.inl (by omega))
  obtain ⟨q0, q1, qlt⟩ := cellsQ2 Q0
  have qf : ∀ k, w5.frozen? ⟨w.heap.size, k, none⟩ = false := fun k => Q0.frozen k
  have FR : Hid (∀ k, k < i + p.length + (l.length - (i + j)) → (if k < i + p.length + (l.length - (i + j)) then (if i + p.length ≤ k ∧ k < i + p.length + (l.length - (i + j)) then bv (l.drop (i + j)) (k - (i + p.length)) else if i ≤ k ∧ k < i + p.length then bv p (k - i) else if 0 ≤ k ∧ k < 0 + k1 then bv l (k - 0) else .int .u8 0) else .int .u8 0) = bv (spl l i j p) k) := Hid.mk' (fun k hk => by
   have e1 : (l.take i).length = i := by rw [List.length_take]; omega
   rw [if_pos hk]
   unfold spl
   by_cases c1 : i + p.length ≤ k
   ·rw [if_pos ⟨c1, hk⟩, bv_append_right _ _ _ (by rw [List.length_append, e1]; omega), List.length_append, e1]
   ·rw [if_neg (by omega), bv_append_left _ _ _ (by rw [List.length_append, e1]; omega)]
    by_cases c2 : i ≤ k
    ·rw [if_pos ⟨c2, by omega⟩, bv_append_right _ _ _ (by rw [e1]; omega), e1]
    ·rw [if_neg (by omega), if_pos (by omega), bv_append_left _ _ _ (by rw [e1]; omega), Nat.sub_zero]
     simp [bv, show k < i from by omega])
  have SL : Hid ((spl l i j p).length = i + p.length + (l.length - (i + j))) := Hid.mk' (by rw [spl_len (by omega)]; omega)
  have g1 : i + p.length + (l.length - (i + j)) ≤ 240 := by omega
  obtain ⟨q, hq⟩ : ∃ q, q = i + p.length := ⟨_, rfl⟩
  obtain ⟨r, hr⟩ : ∃ r, r = i + j := ⟨_, rfl⟩
  rw [← hq, ← hr] at hcp3 hcl R5 FR SL g1
  obtain ⟨t, ht⟩ : ∃ t, t = q + (l.length - r) := ⟨_, rfl⟩
  rw [← ht] at hcl R5 FR SL g1
  have eq1 : (i : Int) + (p.length : Int) = (q : Int) := by omega
  have eq2 : (i : Int) + (j : Int) = (r : Int) := by omega
  have eq3 : (q : Int) + ((l.length - r : Nat) : Int) = (t : Int) := by omega
  have w1 : IntKind.i64.wrap ((i : Int) + (p.length : Int)) = (q : Int) := by rw [eq1, IntKind.wrap_i64]; omega
  have w2 : IntKind.i64.wrap ((i : Int) + (j : Int)) = (r : Int) := by rw [eq2, IntKind.wrap_i64]; omega
  have w3' : IntKind.i64.wrap ((q : Int) + ((l.length - r : Nat) : Int)) = (t : Int) := by rw [eq3, IntKind.wrap_i64]; omega
  have w4' : IntKind.i64.wrap (q : Int) = (q : Int) := by rw [IntKind.wrap_i64]; omega
  have w5' : IntKind.i64.wrap (r : Int) = (r : Int) := by rw [IntKind.wrap_i64]; omega
  have w6' : IntKind.i64.wrap (t : Int) = (t : Int) := by rw [IntKind.wrap_i64]; omega
  have i1 : (0 : Int) ≤ (q : Int) := by omega
  have i2 : (q : Int) ≤ 240 := by omega
  have i3 : (0 : Int) ≤ (r : Int) := by omega
  have i4 : (r : Int) ≤ (l.length : Int) := by omega
  have i5 : (r : Int) ≤ (c : Int) := by omega
  have i6 : (0 : Int) ≤ (t : Int) := by omega
  have i7 : (t : Int) ≤ 240 := by omega
  have b1 : q ≤ 240 := by omega
  have b2 : r ≤ l.length := by omega
  have b3 : r ≤ c := by omega
  have b4 : i ≤ 240 := by omega
  have F1 := Hid.mk' hq
  have F2 := Hid.mk' hr
  have F3 := Hid.mk' ht
  have R6 : Hid (OB w5 (.slice (some ⟨w.heap.size + 1, 0, none⟩) t 240) (spl l i j p)) := Hid.mk' (by
   rw [← SL.out]
   exact .inr ⟨w.heap.size + 1, 240, 240, _, rfl, by rw [SL.out]; omega, R5.out, by rw [SL.out]; omega, fun k hk => FR.out k (by rw [SL.out] at hk; exact hk)⟩)
  have R7 := R5.out.lt
  have R8 := B5.out.size
  clear hq hr ht h0 h1 h2 h3 h4 a1 a2 n1 n2 B0 B1 B2 B3 B4 R1 R2 R3 R4 hk2 hk3 hk4 hk4' hk5 hl he hkk Q0
  go_enter Tryz.func37, Tryz.ntmps37
  go_wp2_with fail
  refine K0.out.mono ?_
  rintro e w1 ⟨rfl, rfl⟩
  by_cases hi : i = 240
  ·obtain rfl : p = [] := List.eq_nil_of_length_eq_zero (by omega)
   obtain rfl : q = 240 := by simp at eq1; omega
   have lr : l.length - r = 0 := by omega
   obtain rfl : t = 240 := by omega
   subst hi
   have eq2' : (240 : Int) + (j : Int) = (r : Int) := eq2
   have w2' : IntKind.i64.wrap ((240 : Int) + (j : Int)) = (r : Int) := w2
   clear eq1 eq2 w1 w2
   simp at hcp2
   simp [lr] at hcp3 hcl
   by_cases hcj : c = r
   ·subst hcj
    simp at hcp3
    go_wp2
    go_region_held3 (fun _ => True) (simp [*])
     (refine step_copy_run rfl (.tmp 35) (.tmp 40) 22 22 rfl _ _ _ rfl rfl _ hcp3 ?_)
    go_wp2
    refine bodyPost_ret (v := .agg #[.int .i64 0, .slice (some ⟨w.heap.size + 1, 0, none⟩) 240 240]) (by simp [results, Tryz.results37, go_sem, *]) rfl ?_
    have hk := kept2 w5 w.heap.size 0 1 (.int .i64 0) (.slice (some ⟨w.heap.size + 1, 0, none⟩) 240 240)
    refine ⟨_, rfl, ?_, In.at (by omega) (by have := hk.size; omega), B5.out.trans (hk.below (Nat.le_refl _) (by omega))⟩
    rw [E.out]
    exact R6.out.kept (In.at (lo := w.heap.size + 1) (hi := w5.heap.size) (by omega) R7) hk (.inr (by omega))
   ·rw [if_neg hcj] at hcp3
    go_wp2
    go_region_held3 (fun _ => True) (simp [*])
     (refine step_copy_run rfl (.tmp 35) (.tmp 40) 22 22 rfl _ _ _ rfl rfl _ hcp3 ?_)
    go_wp2
    refine bodyPost_ret (v := .agg #[.int .i64 0, .slice (some ⟨w.heap.size + 1, 0, none⟩) 240 240]) (by simp [results, Tryz.results37, go_sem, *]) rfl ?_
    have hk := kept2 w5 w.heap.size 0 1 (.int .i64 0) (.slice (some ⟨w.heap.size + 1, 0, none⟩) 240 240)
    refine ⟨_, rfl, ?_, In.at (by omega) (by have := hk.size; omega), B5.out.trans (hk.below (Nat.le_refl _) (by omega))⟩
    rw [E.out]
    exact R6.out.kept (In.at (lo := w.heap.size + 1) (hi := w5.heap.size) (by omega) R7) hk (.inr (by omega))
  ·rw [if_neg (by omega)] at hcp2
   by_cases hq : q = 240
   ·subst hq
    have lr : l.length - r = 0 := by omega
    obtain rfl : t = 240 := by omega
    simp [lr] at hcp3 hcl
    by_cases hcj : c = r
    ·subst hcj
     simp at hcp3
     go_wp2
     go_region_held3 (fun _ => True) (simp [*])
      (refine step_copy_run rfl (.tmp 35) (.tmp 40) 22 22 rfl _ _ _ rfl rfl _ hcp3 ?_)
     go_wp2
     refine bodyPost_ret (v := .agg #[.int .i64 0, .slice (some ⟨w.heap.size + 1, 0, none⟩) 240 240]) (by simp [results, Tryz.results37, go_sem, *]) rfl ?_
     have hk := kept2 w5 w.heap.size 0 1 (.int .i64 0) (.slice (some ⟨w.heap.size + 1, 0, none⟩) 240 240)
     refine ⟨_, rfl, ?_, In.at (by omega) (by have := hk.size; omega), B5.out.trans (hk.below (Nat.le_refl _) (by omega))⟩
     rw [E.out]
     exact R6.out.kept (In.at (lo := w.heap.size + 1) (hi := w5.heap.size) (by omega) R7) hk (.inr (by omega))
    ·rw [if_neg hcj] at hcp3
     go_wp2
     go_region_held3 (fun _ => True) (simp [*])
      (refine step_copy_run rfl (.tmp 35) (.tmp 40) 22 22 rfl _ _ _ rfl rfl _ hcp3 ?_)
     go_wp2
     refine bodyPost_ret (v := .agg #[.int .i64 0, .slice (some ⟨w.heap.size + 1, 0, none⟩) 240 240]) (by simp [results, Tryz.results37, go_sem, *]) rfl ?_
     have hk := kept2 w5 w.heap.size 0 1 (.int .i64 0) (.slice (some ⟨w.heap.size + 1, 0, none⟩) 240 240)
     refine ⟨_, rfl, ?_, In.at (by omega) (by have := hk.size; omega), B5.out.trans (hk.below (Nat.le_refl _) (by omega))⟩
     rw [E.out]
     exact R6.out.kept (In.at (lo := w.heap.size + 1) (hi := w5.heap.size) (by omega) R7) hk (.inr (by omega))
   ·have hq' : ¬ 240 = q := by omega
    rw [if_neg hq'] at hcp3
    by_cases hcj : c = r
    ·have lr : l.length - r = 0 := by omega
     obtain rfl : t = q := by omega
     subst hcj
     simp [lr] at hcp3
     rw [if_neg hq'] at hcl
     go_wp2
     go_region_held3 (fun _ => True) (simp [*])
      (refine step_copy_run rfl (.tmp 35) (.tmp 40) 22 22 rfl _ _ _ rfl rfl _ hcp3 ?_)
     go_wp2
     refine bodyPost_ret (v := .agg #[.int .i64 0, .slice (some ⟨w.heap.size + 1, 0, none⟩) t 240]) (by simp [results, Tryz.results37, go_sem, *]) rfl ?_
     have hk := kept2 w5 w.heap.size 0 1 (.int .i64 0) (.slice (some ⟨w.heap.size + 1, 0, none⟩) t 240)
     refine ⟨_, rfl, ?_, In.at (by omega) (by have := hk.size; omega), B5.out.trans (hk.below (Nat.le_refl _) (by omega))⟩
     rw [E.out]
     exact R6.out.kept (In.at (lo := w.heap.size + 1) (hi := w5.heap.size) (by omega) R7) hk (.inr (by omega))
    ·rw [if_neg hcj] at hcp3
     by_cases hT : t = 240
     ·subst hT
      simp at hcl
      go_wp2
      go_region_held3 (fun _ => True) (simp [*])
       (refine step_copy_run rfl (.tmp 35) (.tmp 40) 22 22 rfl _ _ _ rfl rfl _ hcp3 ?_)
      go_wp2
      refine bodyPost_ret (v := .agg #[.int .i64 0, .slice (some ⟨w.heap.size + 1, 0, none⟩) 240 240]) (by simp [results, Tryz.results37, go_sem, *]) rfl ?_
      have hk := kept2 w5 w.heap.size 0 1 (.int .i64 0) (.slice (some ⟨w.heap.size + 1, 0, none⟩) 240 240)
      refine ⟨_, rfl, ?_, In.at (by omega) (by have := hk.size; omega), B5.out.trans (hk.below (Nat.le_refl _) (by omega))⟩
      rw [E.out]
      exact R6.out.kept (In.at (lo := w.heap.size + 1) (hi := w5.heap.size) (by omega) R7) hk (.inr (by omega))
     ·have hT' : ¬ 240 = t := by omega
      rw [if_neg hT'] at hcl
      go_wp2
      go_region_held3 (fun _ => True) (simp [*])
       (refine step_copy_run rfl (.tmp 35) (.tmp 40) 22 22 rfl _ _ _ rfl rfl _ hcp3 ?_)
      go_wp2
      refine bodyPost_ret (v := .agg #[.int .i64 0, .slice (some ⟨w.heap.size + 1, 0, none⟩) t 240]) (by simp [results, Tryz.results37, go_sem, *]) rfl ?_
      have hk := kept2 w5 w.heap.size 0 1 (.int .i64 0) (.slice (some ⟨w.heap.size + 1, 0, none⟩) t 240)
      refine ⟨_, rfl, ?_, In.at (by omega) (by have := hk.size; omega), B5.out.trans (hk.below (Nat.le_refl _) (by omega))⟩
      rw [E.out]
      exact R6.out.kept (In.at (lo := w.heap.size + 1) (hi := w5.heap.size) (by omega) R7) hk (.inr (by omega))
 ·have E : Hid (spB l at_ n p = []) := by unfold spB; rw [if_neg h0]; exact rfl
  have BB := Hid.mk' B0
  clear B0 hl he
  generalize hz : spC l.length at_ n p.length = z at *
  clear hz
  go_enter Tryz.func37, Tryz.ntmps37
  go_wp2_with fail
  refine K0.out.mono ?_
  rintro e w1 ⟨rfl, rfl⟩
  go_wp2
  refine bodyPost_ret (v := .agg #[.int .i64 z, .slice none 0 0]) (by simp [results, Tryz.results37, go_sem, *]) rfl ?_
  refine ⟨_, rfl, ?_, In.nil _ _, below_new w _⟩
  rw [E.out]
  exact OB.none _
def edC (m : ME) (A N : Int) (p : List Int) : Int := if memF m ≠ 0 then memF m else spC m.dt.length A N p.length
theorem edC_ok {m : ME} {A N : Int} {p : List Int} (h : edC m A N p = 0) : memF m = 0 ∧ spC m.dt.length A N p.length = 0 := by
 unfold edC at h
 split at h
 ·rename_i h1; exact absurd h h1
 ·rename_i h1; exact ⟨Classical.not_not.1 h1, h⟩
theorem l13Edit_any (g : Nat) (m : ME) (a t u c : Option Addr) (ca ct cu cc : Nat) (A N : Int) (e : Option Addr) (d : Nat) (p : List Int) (w : World) (hp : P1 g m a t u c ca ct cu cc w) (hub : Byt m.dt) (hm : (msz m : Int) ≤ 1048576) (hl : p.length ≤ 1048576) (a1 : -9223372036854775808 ≤ A) (a2 : A ≤ 9223372036854775807) (n1 : -9223372036854775808 ≤ N) (n2 : N ≤ 9223372036854775807) :
  Calls Tryz.prog 58 #[.pointer (some ⟨g, 0, none⟩), .int .i64 A, .int .i64 N, .slice e p.length d] w fun ev w' => ev = .returned (.int .i64 (edC m A N p)) ∧ Below w.heap.size w w' := by
 have MS_ : (msz m : Int) = m.dt.length + m.tk.length + tssz m.tk + m.hd.length + m.cs.length + csz m.cs := by unfold msz; omega
 have hdl : m.dt.length ≤ 1048576 := by omega
 have KF := Hid.mk' (l12Fault_any g m a t u c ca ct cu cc w hp hub hm)
 have HP := Hid.mk' hp
 clear hp MS_ hub
 go_enter Tryz.func58, Tryz.ntmps58
 go_wp2_with fail
 refine KF.out.mono ?_
 rintro e1 w1 ⟨rfl, hb1⟩
 have P1_ := Hid.mk' (HP.out.below hb1)
 have B1 := Hid.mk' hb1
 have KA := Hid.mk' (l13Asked_any m.dt.length A N e p.length d w1 hdl hl a1 a2 n1 n2)
 clear hb1 KF HP
 by_cases hf : memF m = 0
 ·have E : Hid (edC m A N p = spC m.dt.length A N p.length) := Hid.mk' (by unfold edC; rw [if_neg (by rw [hf]; simp)])
  rw [hf]
  obtain ⟨x0, x1, x2, x3, x4, x5⟩ := cells5 P1_.out.r
  go_wp2_with fail
  refine KA.out.mono ?_
  rintro e2 w2 ⟨rfl, hw2⟩
  obtain rfl := hw2.symm
  clear hw2
  go_wp2
  go_ret
  exact ⟨by rw [E.out]; rfl, B1.out⟩
 ·have E : Hid (edC m A N p = memF m) := Hid.mk' (by unfold edC; rw [if_pos hf])
  obtain ⟨F, hF⟩ : ∃ F, memF m = F := ⟨_, rfl⟩
  rw [hF] at E hf ⊢
  have hne : (F != 0) = true := by simp [hf]
  clear hF
  go_wp2
  go_ret
  exact ⟨by rw [E.out]; rfl, B1.out⟩
def CpA (l : List AT) (w : World) (e : Ending) (w' : World) : Prop := ∃ v us, e = .returned v ∧ OA w.heap.size w' v l us ∧ Below w.heap.size w w'
theorem asz_at {l : List AT} {k : Nat} (h : k < l.length) : (atK l k).vl.length + (atK l k).nm.size ≤ asz l := by
 have := asz_take l k h
 have := asz_le l (k + 1)
 omega
theorem at_take {l : List AT} {k : Nat} (h : k < l.length) : l.take (k + 1) = l.take k ++ [atK l k] := by
 rw [List.take_add_one, List.getElem?_eq_getElem h]
 simp [atK, List.getD_eq_getElem?_getD, List.getElem?_eq_getElem h]
theorem l4CopyAttrs_own (a : Option Addr) (c : Nat) (l : List AT) (w : World) (ha : AAt w a l) (hl : (l.length : Int) + asz l ≤ 1048576) :
  Calls Tryz.prog 96 #[.slice a l.length c] w fun e w' => CpA l w e w' := by
 have HA := Hid.mk' ha
 clear ha
 go_enter Tryz.func96, Tryz.ntmps96
 go_wp2
 go_loopw [3, 4] (fun v i wr => ∃ (k : Nat) (us : List Value), k ≤ l.length ∧ i = .int .i64 k ∧ OA w.heap.size wr v (l.take k) us ∧ Below w.heap.size w wr) (fun _ i _ => l.length - (intOf i).toNat)
 case atStart => exact ⟨0, [], Nat.zero_le _, rfl, ⟨rfl, by simpa [acs] using World.ownsRow_lit (base := w.heap.size) (e := 139) (size := 2) w #[] 0 (Nat.le_refl _) (by decide) rfl, fun j h => absurd h (by simp), fun j h => absurd h (by simp), fun i j _ h => absurd h (by simp), fun j h => absurd h (by simp)⟩, below_new _ _⟩
 case round =>
  obtain ⟨k, us, hk, rfl, hoa, hbl⟩ := hrel
  have HB := Hid.mk' hbl
  obtain ⟨av, cv, ev, _⟩ := own_cap hoa.row
  have lt_ : (l.take k).length = k := by rw [List.length_take]; omega
  rw [lt_] at ev
  subst ev
  by_cases hlt : k < l.length
  ·have ci : (k : Int) < (l.length : Int) := by omega
   rcases HA.out with h0 | ⟨b1, o1, rfl, s0, hc1⟩
   ·exact absurd hlt (by rw [h0]; exact Nat.not_lt_zero _)
   obtain ⟨h1, p1, d1, h2, h3⟩ := hc1 k hlt
   replace h1 := (hbl.cell s0).trans h1
   replace h2 := (hbl.cell s0).trans h2
   replace h3 := h3.below hbl
   have s1 := Nat.lt_of_lt_of_le s0 hbl.size
   have sz1 : (atK l k).vl.length + (atK l k).nm.size ≤ asz l := asz_at hlt
   have AT1 := Hid.mk' (at_take hlt)
   have HO := Hid.mk' hoa
   have H3 := Hid.mk' h3
   clear hc1 h3 hoa
   go_wp2_with fail
   have GNE : Hid (∀ j, (Value.slice av k cv).ownBlock = some j → ¬ j = b1) := Hid.mk' (fun j e ej => by subst ej; have := (HO.out.row.lt j e).1; omega)
   refine wp_region_held_drew (S := fun w' => w'.cell? ⟨b1, o1 + k * 2, none⟩ = some (.string (atK l k).nm) ∧ w'.cell? ⟨b1, o1 + k * 2 + 1, none⟩ = some (.slice p1 (atK l k).vl.length d1)) (by kernel_rfl) (by simp [*]) (fun hHeld => ?_)
   refine tkY 0 ?_
   refine tkY 1 ?_
   refine tkY 2 ?_
   refine tkY 3 ?_
   refine tkY 4 ?_
   refine tkY 5 ?_
   refine tkY 6 ?_
   refine tkY 7 ?_
   refine tkY 8 ?_
   refine tkY 9 ?_
   refine tkY 10 ?_
   refine wpAnyH_ready (rs := [11]) (by kernel_rfl) (by simp) ?_
   refine AllReadyH.cons (o := ⟨_, _, _, _, _, _⟩) rfl (fun K hK => ?_) AllReadyH.nil
   go_simp
   go_at_call 51
   refine (l1Copy_own p1 d1 (atK l k).vl wr.drew (H3.out.below (Below.refl _ _).drew) (by omega)).mono ?_
   rintro e w2 ⟨u, rfl, hu, hb2⟩
   replace hb2 := undrew hb2
   obtain ⟨pu, cu, eu, _⟩ := own_cap hu
   subst eu
   have z0 := (hb2.cell s1).trans h1
   have z1 := (hb2.cell s1).trans h2
   have z2 := Nat.lt_of_lt_of_le s1 hb2.size
   have B2 : Hid (Below wr.heap.size wr w2) := Hid.mk' hb2
   have LO1 : Hid (wr.heap.size ≤ wr.heap.size) := Hid.mk' (Nat.le_refl _)
   have HU := Hid.mk' hu
   clear hb2 hu
   refine hK.out _ _ ⟨z0, z1⟩ (fun hHeld => ?_)
   clear hK K
   try simp only [Act.put, zA, zB, zC]
   refine tkY 12 ?_
   refine wpAnyH_ready (rs := [13]) (by kernel_rfl) (by simp) ?_
   refine AllReadyH.cons (o := ⟨_, _, _, _, _, _⟩) rfl (fun K hK => ?_) AllReadyH.nil
   go_simp
   have NN := below_new w2 (.cells #[.string (atK l k).nm, .slice pu (atK l k).vl.length cu] 139)
   have q0 := (NN.cell z2).trans z0
   have q1 := (NN.cell z2).trans z1
   have q2 := Nat.lt_of_lt_of_le z2 NN.size
   have B3 : Hid (Below wr.heap.size wr _) := Hid.mk' (B2.out.trans (NN.mono B2.out.size))
   have OW := Hid.mk' (HO.out.below B3.out)
   have HU2 := Hid.mk' (own_keep HU.out NN)
   clear NN
   refine hK.out _ _ ⟨q0, q1⟩ (fun hHeld => ?_)
   clear hK K
   try simp only [Act.put, zA, zB, zC]
   refine wpAnyH_ready (rs := [14]) (by kernel_rfl) (by simp) ?_
   refine AllReadyH.cons (o := ⟨_, _, _, _, _, _⟩) rfl (fun K hK => ?_) AllReadyH.nil
   refine step_append_at rfl (.tmp 12) (.tmp 25) 105 rfl w.heap.size 139 (.agg #[.string ⟨#[]⟩, .slice none 0 0]) 2 40 Tryz.underlying105 Tryz.info139 rfl (by decide) _ k _ rfl (by have := OW.out.row; rw [lt_] at this; exact this) _ 1 _ [.string (atK l k).nm, .slice pu (atK l k).vl.length cu] rfl rfl (.inr ⟨_, rfl, one_attr w2 _ _ _ _ rfl⟩) (by simp [Value.oneCell']) (by unfold maxLen; omega) (by omega) (Nat.le_trans HB.out.size B3.out.size) ?_
   intro v' w4 ho hgr hat
   have ho' : w4.ownsRow w.heap.size 139 2 v' ((l.take k).length + 1) (acs (l.take k) us ++ [.string (atK l k).nm, .slice pu (atK l k).vl.length cu]) := by rw [lt_]; exact ho
   have A4 := HO.out.app (w1 := w2.alloc (.cells #[.string (atK l k).nm, .slice pu (atK l k).vl.length cu] 139)) (w2 := w4) (a := atK l k) (u := .slice pu (atK l k).vl.length cu) B3.out (OB.of_own HU2.out).1 HB.out.size (fun j e => Nat.le_trans LO1.out ((OB.of_own HU2.out).2 j e)) ho' hgr hat
   rw [← AT1.out] at A4
   have HA4 := Hid.mk' A4
   have HB4 := Hid.mk' ((HB.out.trans (B3.out.mono HB.out.size)).grown hgr (Nat.le_trans HB.out.size B3.out.size) (own_lo OW.out.row))
   have gne : ∀ j, (Value.slice av k cv).ownBlock = some j → ¬ j = b1 := fun j e => GNE.out j e
   have r0 := hgr.cell q0 (fun e => gne _ e.symm rfl)
   have r1 := hgr.cell q1 (fun e => gne _ e.symm rfl)
   clear ho ho' hgr hat A4
   refine hK.out _ _ ⟨r0, r1⟩ (fun hHeld => ?_)
   clear hK K
   try simp only [Act.put, zA, zB, zC]
   refine tkY 15 ?_
   refine wpAnyH_done (by kernel_rfl) ?_ _
   obtain ⟨aw, cw, ew, _⟩ := own_cap HA4.out.row
   subst ew
   go_wp2
   go_roundw
   case rel => exact ⟨k + 1, _, by omega, by go_num, HA4.out, HB4.out⟩
   case measure => simp [intOf]; omega
  ·have ci : ¬ (k : Int) < (l.length : Int) := by omega
   have e : k = l.length := by omega
   subst e
   rw [List.take_length] at hoa
   have HO := Hid.mk' hoa
   clear hoa hbl
   go_wp2
   go_ret
   exact ⟨_, us, rfl, HO.out, HB.out⟩
theorem l4Copy_any (a : Option Addr) (c : Nat) (l : List TK) (w : World) (ha : TsAt w a l) (hl : (l.length : Int) + tssz l ≤ 1048576) :
  Calls Tryz.prog 67 #[.slice a l.length c] w fun e w' => ∃ v us, e = .returned v ∧ TokS w.heap.size w' v l us ∧ Below w.heap.size w w' := by
 have HA := Hid.mk' ha
 clear ha
 go_enter Tryz.func67, Tryz.ntmps67
 go_wp2
 go_loopw [3, 4] (fun v i wr => ∃ (k : Nat) (us : List Value), k ≤ l.length ∧ i = .int .i64 k ∧ TokS w.heap.size wr v (l.take k) us ∧ Below w.heap.size w wr) (fun _ i _ => l.length - (intOf i).toNat)
 case atStart => exact ⟨0, [], Nat.zero_le _, rfl, ⟨rfl, by simpa [tcs] using World.ownsRow_lit (base := w.heap.size) (e := 107) (size := 5) w #[] 0 (Nat.le_refl _) (by decide) rfl, fun u h => absurd h (by simp), fun i t u h => absurd h (by simp)⟩, below_new _ _⟩
 case round =>
  obtain ⟨k, us, hk, rfl, hts, hbl⟩ := hrel
  have HB := Hid.mk' hbl
  have lt_ : (l.take k).length = k := by rw [List.length_take]; omega
  by_cases hlt : k < l.length
  ·have ci : (k : Int) < (l.length : Int) := by omega
   rcases HA.out with ha | ⟨b, o, rfl, hbs, hc⟩
   ·exact absurd hlt (by rw [ha]; exact Nat.not_lt_zero _)
   obtain ⟨q1, q2, q3, ⟨p, d, q4, q5⟩, q6⟩ := hc k hlt
   have h1 := (hbl.cell hbs).trans q1
   have h2 := (hbl.cell hbs).trans q2
   have h3 := (hbl.cell hbs).trans q3
   have h4 := (hbl.cell hbs).trans q4
   have h6 := (hbl.cell hbs).trans q6
   have st := tssz_take l k hlt
   have sl := tssz_le l (k + 1)
   unfold tsz at st
   have N1 := below_new wr (.cells #[.int .i64 (tkK l k).kd, .int .i64 (tkK l k).by_, .string (tkK l k).nm, .slice p (tkK l k).at_.length d, .bool (tkK l k).sh] 107)
   have KA := Hid.mk' (l4CopyAttrs_own p d (tkK l k).at_ _ ((q5.below hbl).below N1) (by omega))
   have RT := Hid.mk' (row5 wr 107 (.int .i64 (tkK l k).kd) (.int .i64 (tkK l k).by_) (.string (tkK l k).nm) (.slice p (tkK l k).at_.length d) (.bool (tkK l k).sh))
   have HN := Hid.mk' N1
   have HT := Hid.mk' hts
   have E1 : Hid (l.take (k + 1) = l.take k ++ [tkK l k]) := Hid.mk' (by rw [List.take_succ_eq_append_getElem hlt]; unfold tkK; simp [hlt])
   obtain ⟨av, cv, ev, _⟩ := own_cap hts.row
   rw [lt_] at ev
   subst ev
   have ZW : Hid ((wr.alloc (.cells #[.int .i64 (tkK l k).kd, .int .i64 (tkK l k).by_, .string (tkK l k).nm, .slice p (tkK l k).at_.length d, .bool (tkK l k).sh] 107)).heap.size = wr.heap.size + 1) := Hid.mk' (by simp)
   clear q1 q2 q3 q4 q5 q6 hc st sl N1 hts hbl
   generalize hW : wr.alloc (.cells #[.int .i64 (tkK l k).kd, .int .i64 (tkK l k).by_, .string (tkK l k).nm, .slice p (tkK l k).at_.length d, .bool (tkK l k).sh] 107) = W at *
   obtain ⟨x0, x1, x2, x3, x4, x5⟩ := cells5 RT.out
   go_wp2_with fail
   clear hW h1 h2 h3 h4 h6 x0 x1 x2 x3 x4 x5
   refine KA.out.mono ?_
   rintro e w2 ⟨va, ats, rfl, oa, hb2⟩
   obtain ⟨pa, cb, rfl, _⟩ := own_cap oa.row
   have R2 := Hid.mk' (rowB RT.out hb2)
   have M2 := HN.out.trans (hb2.mono HN.out.size)
   have B3 : Below wr.heap.size wr (w2.setCell ⟨wr.heap.size, 3, none⟩ (.slice pa (tkK l k).at_.length cb)) := M2.setCell (p := ⟨wr.heap.size, 3, none⟩) (Nat.le_refl _) _
   have N4 := below_new (w2.setCell ⟨wr.heap.size, 3, none⟩ (.slice pa (tkK l k).at_.length cb)) (.cells #[.int .i64 (tkK l k).kd, .int .i64 (tkK l k).by_, .string (tkK l k).nm, .slice pa (tkK l k).at_.length cb, .bool (tkK l k).sh] 107)
   have B4 := Hid.mk' (B3.trans (N4.mono B3.size))
   have NC := Hid.mk' (new_cells' (w2.setCell ⟨wr.heap.size, 3, none⟩ (.slice pa (tkK l k).at_.length cb)) 107 [.int .i64 (tkK l k).kd, .int .i64 (tkK l k).by_, .string (tkK l k).nm, .slice pa (tkK l k).at_.length cb, .bool (tkK l k).sh] w2.heap.size (by simp))
   have OV := Hid.mk' (own_keep HT.out.row B4.out)
   have SZ : Hid (w.heap.size ≤ ((w2.setCell ⟨wr.heap.size, 3, none⟩ (.slice pa (tkK l k).at_.length cb)).alloc (.cells #[.int .i64 (tkK l k).kd, .int .i64 (tkK l k).by_, .string (tkK l k).nm, .slice pa (tkK l k).at_.length cb, .bool (tkK l k).sh] 107)).heap.size) := Hid.mk' (Nat.le_trans HB.out.size B4.out.size)
   have P1 : Hid (∀ u ∈ ([.int .i64 (tkK l k).kd, .int .i64 (tkK l k).by_, .string (tkK l k).nm, .slice pa (tkK l k).at_.length cb, .bool (tkK l k).sh] : List Value), u.oneCell' = true) := Hid.mk' (by
    intro u hu'
    simp only [List.mem_cons, List.not_mem_nil, or_false] at hu'
    rcases hu' with rfl | rfl | rfl | rfl | rfl <;> rfl)
   have TI : Hid (TokIn wr.heap.size ((w2.setCell ⟨wr.heap.size, 3, none⟩ (.slice pa (tkK l k).at_.length cb)).alloc (.cells #[.int .i64 (tkK l k).kd, .int .i64 (tkK l k).by_, .string (tkK l k).nm, .slice pa (tkK l k).at_.length cb, .bool (tkK l k).sh] 107)) (Value.slice av k cv).ownBlock (tkK l k) (.slice pa (tkK l k).at_.length cb)) := Hid.mk' (.inr ⟨W.heap.size, w2, ats, by rw [ZW.out]; omega, oa, by simp, fun q h5 h7 => (N4.block q (by simpa using h7)).trans (Below.heap_setCell _ _ _ _ (by rw [ZW.out] at h5; simp; omega)), fun q e => .inl (by have := (HT.out.row.lt q e).2; rw [ZW.out]; omega)⟩)
   obtain ⟨x0, x1, x2, x3, x4, x5⟩ := cells5 R2.out
   have f3 := R2.out.frozen 3
   clear B3 N4 M2 oa hb2 KA RT
   have OV2 : Hid (World.ownsRow ((w2.setCell ⟨wr.heap.size, 3, none⟩ (.slice pa (tkK l k).at_.length cb)).alloc (.cells #[.int .i64 (tkK l k).kd, .int .i64 (tkK l k).by_, .string (tkK l k).nm, .slice pa (tkK l k).at_.length cb, .bool (tkK l k).sh] 107)) w.heap.size 107 5 (.slice av k cv) k (tcs (l.take k) us)) := Hid.mk' (by have := OV.out; rwa [lt_] at this)
   go_wp2_with (at_builtin; refine wpList_append_at _ rfl (.tmp 21) (.tmp 23) 24 rfl w.heap.size 107 (.agg #[.int .i64 0, .int .i64 0, .string ⟨#[]⟩, .slice none 0 0, .bool false]) 5 64 Tryz.underlying24 Tryz.infoTok rfl (by decide) _ _ _ rfl OV2.out _ 1 _ [.int .i64 (tkK l k).kd, .int .i64 (tkK l k).by_, .string (tkK l k).nm, .slice pa (tkK l k).at_.length cb, .bool (tkK l k).sh] rfl rfl (.inr ⟨_, rfl, NC.out⟩) P1.out (by unfold maxLen; omega) (by omega) SZ.out ?_; intro v' w5 ho hgr hat)
   have T5 := HT.out.app (w1 := ((w2.setCell ⟨wr.heap.size, 3, none⟩ (.slice pa (tkK l k).at_.length cb)).alloc (.cells #[.int .i64 (tkK l k).kd, .int .i64 (tkK l k).by_, .string (tkK l k).nm, .slice pa (tkK l k).at_.length cb, .bool (tkK l k).sh] 107))) (w2 := w5) (v' := v') (ts1 := [tkK l k]) (us1 := [.slice pa (tkK l k).at_.length cb]) B4.out HB.out.size (fun i t u ht hu => by
    cases i with
    | succ i => simp at ht
    | zero => simp at ht hu; subst ht hu; exact TI.out) rfl (fun u hu => by rw [List.mem_singleton] at hu; rw [hu]; rfl) (by rw [lt_]; exact ho) hgr hat
   rw [← E1.out] at T5
   have HT5 := Hid.mk' T5
   have HB5 := Hid.mk' ((HB.out.trans (B4.out.mono HB.out.size)).grown hgr SZ.out (own_lo OV2.out))
   clear T5 ho hgr hat
   go_roundw
   case rel => exact ⟨k + 1, _, by omega, by go_num, HT5.out, HB5.out⟩
   case measure => simp [intOf]; omega
  ·have ci : ¬ (k : Int) < (l.length : Int) := by omega
   have e : k = l.length := by omega
   subst e
   rw [List.take_length] at hts
   have HT := Hid.mk' hts
   clear hts hbl
   go_wp2
   go_ret
   exact ⟨_, rfl, ⟨us, HT.out⟩, HB.out⟩
theorem name_eq {x y : ByteArray} (h : (x.toList == y.toList) = true) : x = y := by
 have e : x.toList = y.toList := by simpa using h
 rw [toList_data, toList_data] at e
 cases x; cases y
 simp only [ByteArray.mk.injEq]
 exact Array.toList_inj.1 e
theorem aeq_eq {x y : AT} (hx : Byt x.vl) (hy : Byt y.vl) (h : aeq x y = true) : x = y := by
 unfold aeq at h
 rw [Bool.and_eq_true] at h
 have e1 := name_eq h.1
 have e2 : x.vl = y.vl := beqB_eq hx hy h.2
 cases x; cases y
 simp only at e1 e2
 rw [e1, e2]
theorem list_getD_eq {α : Type} {l m : List α} {d : α} (h : l.length = m.length) (hk : ∀ k, k < l.length → l.getD k d = m.getD k d) : l = m := by
 apply List.ext_getElem h
 intro k h1 h2
 have := hk k h1
 simpa [List.getD_eq_getElem?_getD, h1, h2] using this
theorem sameAs_eq {l m : List AT} (hl : ∀ j, j < l.length → Byt (atK l j).vl) (hm : ∀ j, j < m.length → Byt (atK m j).vl) (h : sameAs l m = true) : l = m := by
 unfold sameAs at h
 rw [Bool.and_eq_true] at h
 have e : l.length = m.length := of_decide_eq_true h.1
 have h4 := h.2
 unfold allK at h4
 rw [List.all_eq_true] at h4
 exact list_getD_eq e (fun k hk => aeq_eq (hl k hk) (hm k (by omega)) (h4 k (List.mem_range.2 hk)))
theorem teq_eq {x y : TK} (hx : ∀ j, j < x.at_.length → Byt (atK x.at_ j).vl) (hy : ∀ j, j < y.at_.length → Byt (atK y.at_ j).vl) (h : teq x y = true) : x = y := by
 unfold teq at h
 simp only [Bool.and_eq_true] at h
 obtain ⟨⟨⟨⟨h1, h2⟩, h3⟩, h4⟩, h5⟩ := h
 have e1 : x.kd = y.kd := by simpa using h1
 have e2 : x.by_ = y.by_ := by simpa using h2
 have e3 := name_eq h3
 have e4 : x.sh = y.sh := by simpa using h4
 have e5 := sameAs_eq hx hy h5
 cases x; cases y
 simp only at e1 e2 e3 e4 e5
 rw [e1, e2, e3, e4, e5]
def TBt (l : List TK) : Prop := ∀ i, i < l.length → ∀ j, j < (tkK l i).at_.length → Byt (atK (tkK l i).at_ j).vl
theorem sameTs_eq {l m : List TK} (hl : TBt l) (hm : TBt m) (h : sameTs l m = true) : l = m := by
 unfold sameTs at h
 rw [Bool.and_eq_true] at h
 have e : l.length = m.length := of_decide_eq_true h.1
 have h4 := h.2
 unfold allK at h4
 rw [List.all_eq_true] at h4
 exact list_getD_eq e (fun k hk => teq_eq (hl k hk) (hm k (by omega)) (h4 k (List.mem_range.2 hk)))
def BtL (l : List Int) : Prop := ∀ x ∈ l, 0 ≤ x ∧ x ≤ 255
theorem BtL.byt {l : List Int} (h : BtL l) : Byt l := fun k hk => by
 rw [List.getD_eq_getElem?_getD, List.getElem?_eq_getElem hk]
 exact h _ (List.getElem_mem hk)
theorem dec_btl : ∀ (n : Nat) (L : List UInt8), BtL (dec n L)
 | 0, L => by unfold dec; exact fun x h => absurd h (by simp)
 | n + 1, [] => by unfold dec; exact fun x h => absurd h (by simp)
 | n + 1, c :: r => by
  unfold dec
  split
  all_goals
   intro x hx
   rcases List.mem_cons.1 hx with e | hx
   ·subst e
    first
     | (have := refOf_byte (c :: r); omega)
     | (have := c.toNat_lt; omega)
   ·exact dec_btl n _ x hx
theorem decode_btl (L : List UInt8) : BtL (decode L) := dec_btl _ _
def AtB (l : List AT) : Prop := ∀ a ∈ l, BtL a.vl
theorem attrA_btl {L : List UInt8} {a : AT} {n : Nat} (h : attrA L = some (a, n)) : BtL a.vl := by
 unfold attrA at h
 split at h
 ·split at h
  ·injection h with h
   injection h with h1 h2
   rw [← h1]
   exact decode_btl _
  ·cases h
 ·cases h
theorem addA_btl {l : List AT} {a : AT} (hl : AtB l) (ha : BtL a.vl) : AtB (addA l a) := by
 unfold addA
 split
 ·exact hl
 ·intro b hb
  rcases List.mem_append.1 hb with hb | hb
  ·exact hl b hb
  ·rw [List.mem_singleton] at hb; rw [hb]; exact ha
theorem insideA_btl : ∀ (f : Nat) (L : List UInt8) (acc : List AT) (l : List AT) (sh : Bool), AtB acc → insideA f L acc = some (l, sh) → AtB l
 | 0, _, _, _, _, _, h => by unfold insideA at h; cases h
 | f + 1, L, acc, l, sh, ha, h => by
  unfold insideA at h
  split at h
  ·split at h
   ·injection h with h; injection h with h1 h2; rw [← h1]; exact ha
   ·cases h
  ·split at h
   ·split at h
    ·injection h with h; injection h with h1 h2; rw [← h1]; exact ha
    ·cases h
   ·split at h
    ·cases h
    ·split at h
     ·cases h
     ·next a n e => exact insideA_btl f _ _ _ _ (addA_btl ha (attrA_btl e)) h
theorem tagA_btl {L : List UInt8} {t : TK} (h : tagA L = some t) : AtB t.at_ := by
 have z : AtB [] := fun a h => absurd h (by simp)
 unfold tagA at h
 split at h
 ·split at h
  ·split at h
   ·injection h with h; rw [← h]; exact z
   ·cases h
  ·split at h
   ·split at h
    ·injection h with h; rw [← h]; exact z
    ·cases h
   ·split at h
    ·split at h
     ·cases h
     ·next l sh e => injection h with h; rw [← h]; exact insideA_btl _ _ _ _ _ z e
    ·cases h
 ·cases h
def TkB (l : List TK) : Prop := ∀ t ∈ l, AtB t.at_
theorem bytesT_tkb (l : List Int) : TkB (bytesT l) := by
 intro t ht
 unfold bytesT at ht
 obtain ⟨x, _, rfl⟩ := List.mem_map.1 ht
 exact fun a h => absurd h List.not_mem_nil
theorem TkB.nil : TkB [] := fun t h => absurd h (by simp)
theorem lenX_tkb (l : List Int) (b : Nat) : TkB (lenX l b).1 := by
 unfold lenX
 split
 ·exact bytesT_tkb _
 ·exact fun t h => absurd h List.not_mem_nil
theorem tagX_tkb (l : List Int) (b : Nat) : TkB (tagX l b).1 := by
 unfold tagX
 split
 ·split
  ·next t e =>
   intro u hu
   rw [List.mem_singleton] at hu
   rw [hu]
   exact tagA_btl e
  ·split
   ·exact bytesT_tkb _
   ·exact lenX_tkb _ _
 ·split
  ·exact bytesT_tkb _
  ·exact lenX_tkb _ _
theorem feedX_tkb (l : List Int) (b : Nat) : TkB (feedX l b).1 := by
 unfold feedX
 split
 ·exact bytesT_tkb _
 ·split
  ·exact bytesT_tkb _
  ·exact tagX_tkb _ _
theorem allX_tkb : ∀ (l : List Int) (ts : List TK) (hs : List Int), TkB ts → TkB (allX ts hs l).1
 | [], ts, hs, h => h
 | x :: r, ts, hs, h => by
  unfold allX
  refine allX_tkb r _ _ (fun t ht => ?_)
  rcases List.mem_append.1 ht with ht | ht
  ·exact h t ht
  ·exact feedX_tkb _ _ t ht
theorem TkB.tbt {l : List TK} (h : TkB l) : TBt l := fun i hi j hj => by
 have m1 : tkK l i ∈ l := by
  unfold tkK
  rw [List.getD_eq_getElem?_getD, List.getElem?_eq_getElem hi]
  exact List.getElem_mem hi
 have m2 : atK (tkK l i).at_ j ∈ (tkK l i).at_ := by
  unfold atK
  rw [List.getD_eq_getElem?_getD, List.getElem?_eq_getElem hj]
  exact List.getElem_mem hj
 exact (h _ m1 _ m2).byt
theorem right_toks {d : List Int} {s : Nat} {m : ME} (hd : Byt d) (ht : TBt m.tk) (hh : Byt m.hd) (h : sameR (memX d s) m = true) : m.tk = (memX d s).tk ∧ m.hd = (memX d s).hd := by
 unfold sameR at h
 rw [Bool.and_eq_true, Bool.and_eq_true] at h
 refine ⟨(sameTs_eq (TkB.tbt (allX_tkb _ _ _ TkB.nil)) ht h.1).symm, (beqB_eq (allX_byt _ _ _ (fun x hx => hd.mem x (by first | exact hx | exact List.mem_of_mem_take hx)) Byt.nil) hh h.2.1).symm⟩
def meetF (f : Nat → Bool) (L : Nat) : Nat → Nat → Nat
 | 0, _ => L
 | k + 1, x => if f x then x else meetF f L k (x + 1)
def meetN (f : Nat → Bool) (L x : Nat) : Nat := meetF f L (L - x) x
theorem meetN_yes {f : Nat → Bool} {L x : Nat} (h : x < L) (hf : f x = true) : meetN f L x = x := by
 unfold meetN
 rw [show L - x = (L - (x + 1)) + 1 by omega]
 simp [meetF, hf]
theorem meetN_no {f : Nat → Bool} {L x : Nat} (h : x < L) (hf : f x = false) : meetN f L x = meetN f L (x + 1) := by
 unfold meetN
 rw [show L - x = (L - (x + 1)) + 1 by omega]
 simp [meetF, hf]
theorem meetN_end {f : Nat → Bool} {L x : Nat} (h : L ≤ x) : meetN f L x = L := by
 unfold meetN
 rw [show L - x = 0 by omega]
 rfl
theorem meetN_skip {f : Nat → Bool} {L : Nat} : ∀ (n x : Nat), x + n ≤ L → (∀ y, x ≤ y → y < x + n → f y = false) → meetN f L x = meetN f L (x + n)
 | 0, x, _, _ => rfl
 | n + 1, x, h, hf => by rw [meetN_no (by omega) (hf x (Nat.le_refl _) (by omega)), meetN_skip n (x + 1) (by omega) (fun y h1 h2 => hf y (by omega) (by omega))]; congr 1; omega
theorem meetN_le {f : Nat → Bool} {L : Nat} : ∀ (n x : Nat), L - x = n → meetN f L x ≤ L := by
 intro n
 induction n with
 | zero => intro x h; rw [meetN_end (by omega)]; exact Nat.le_refl _
 | succ n ih =>
  intro x h
  cases hf : f x with
  | true => rw [meetN_yes (by omega) hf]; omega
  | false => rw [meetN_no (by omega) hf]; exact ih (x + 1) (by omega)
def hdA (l : List Int) (x : Nat) : List Int := (allX [] [] (l.take x)).2
def mtF (d T : List Int) (s i j n x : Nat) : Bool := decide (i + n ≤ x) && (decide ((x + j - n) % s = 0) && beqB (hdN d s ((x + j - n) / s)) (hdA T x))
theorem l13Stands_any (g : Nat) (m : ME) (a t u : Option Addr) (b9 o9 ca ct cu cc s o : Nat) (hv : Option Addr) (hc : Nat) (h : List Int) (w : World) (hp : P1 g m a t u (some ⟨b9, o9, none⟩) ca ct cu cc w) (hst : m.st = (s : Int)) (hs : 1 ≤ s) (hs2 : s ≤ 60) (hcl : m.cs.length = m.dt.length / s + 1) (hcs : m.cs.length ≤ 1048576) (ho : o ≤ m.dt.length) (hd : m.dt.length ≤ 240) (hb : BAt w hv h) (hh : h.length ≤ 1048576) (hk : (ckK m.cs (o / s)).hd.length ≤ 1048576) :
  Calls Tryz.prog 91 #[.pointer (some ⟨g, 0, none⟩), .int .i64 (o : Int), .slice hv h.length hc] w fun e w' => e = .returned (.bool (decide (o % s = 0) && beqB (ckK m.cs (o / s)).hd h)) ∧ Below w.heap.size w w' := by
 obtain ⟨x0, x1, x2, x3, x4, x5⟩ := cells5 hp.r
 rw [hst] at x1
 have hKJ : o / s < m.cs.length := by rw [hcl]; exact Nat.lt_succ_of_le (Nat.div_le_div_right ho)
 have hq0 : (o : Int) / (s : Int) = ((o / s : Nat) : Int) := by simp
 have hq1 : o / s ≤ o := Nat.div_le_self _ _
 have hr0 : (o : Int) % (s : Int) = ((o % s : Nat) : Int) := by simp
 have hr1 : o % s < s := Nat.mod_lt _ (by omega)
 rcases hp.m1.2.2.2 with hnil | ⟨b8, o8, e8, hbs9, hc9⟩
 ·rw [hnil] at hKJ; simp at hKJ
 cases e8
 obtain ⟨p1, p2_, pq, pc, p3, p4⟩ := hc9 (o / s) hKJ
 have hs0 : ¬ s = 0 := by omega
 obtain ⟨K, hK⟩ : ∃ K, o / s = K := ⟨_, rfl⟩
 obtain ⟨Z, hZ⟩ : ∃ Z, o % s = Z := ⟨_, rfl⟩
 obtain ⟨L, hL⟩ : ∃ L, (ckK m.cs K).hd = L := ⟨_, rfl⟩
 rw [hK] at hKJ hq0 hq1 p3 p4 hk ⊢
 rw [hZ] at hr0 hr1 ⊢
 rw [hL] at p3 p4 hk ⊢
 have hwK : IntKind.i64.wrap (K : Int) = (K : Int) := by rw [IntKind.wrap_i64]; omega
 have ck : (K : Int) < (m.cs.length : Int) := by omega
 have P4 := Hid.mk' p4
 have HBT := Hid.mk' hb
 clear hp hc9 p1 p2_ p4 hb hK hZ hL hcl
 by_cases hz : Z = 0
 ·subst hz
  have tm : ((o : Int).tmod (s : Int) == 0) = true := by rw [Int.tmod_eq_emod_of_nonneg (by omega), hr0]; rfl
  cases e3 : ((strI L).toList == (strI h).toList) with
  | false =>
   have E : Hid ((decide (0 = 0) && beqB L h) = false) := Hid.mk' (by unfold beqB; rw [e3]; rfl)
   rw [E.out]
   have e4 : ((strI L).toList != (strI h).toList) = true := by simpa using e3
   go_enter Tryz.func91, Tryz.ntmps91
   go_wp2
   refine wp_region_held_drew (S := (fun v => v.cell? ⟨g, 1, none⟩ = some (.int .i64 (s : Int)) ∧ v.cell? ⟨g, 4, none⟩ = some (.slice (some ⟨b9, o9, none⟩) m.cs.length cc) ∧ v.cell? ⟨b9, o9 + K * 3 + 2, none⟩ = some (.slice pq L.length pc) ∧ Hid (BAt v pq L) ∧ Hid (BAt v hv h))) (by kernel_rfl) ⟨x1, x4, p3, P4.out.below (Below.refl _ _).drew, HBT.out.below (Below.refl _ _).drew⟩ (fun hHeld => ?_)
   refine tkY 0 ?_
   refine tkY 1 ?_
   refine tkY 2 ?_
   refine tkY 3 ?_
   refine tkY 4 ?_
   refine tkY 5 ?_
   refine tkY 6 ?_
   refine tkY 7 ?_
   refine tkY 8 ?_
   refine tkY 9 ?_
   refine tkY 10 ?_
   refine tkY 11 ?_
   refine tkY 12 ?_
   refine tkY 13 ?_
   refine tkY 14 ?_
   refine tkY 15 ?_
   refine tkY 16 ?_
   refine tkY 17 ?_
   refine tkY 18 ?_
   refine tkY 19 ?_
   refine tkY 20 ?_
   refine wpAnyH_take (i := 21) (oi := ⟨_, _, _, _, _, _⟩) (v := .string (strI L)) rfl (by kernel_rfl) (by kernel_rfl) (by kernel_rfl) (fun _ _ _ h => h) (Or.inl ⟨by rfl, ?_⟩) (by assumption) ?_
   ·(intro w hSw; have hcv := conv_bytesT pc hSw.2.2.2.1.out; clear hSw; go_simp; (try with_reducible rfl))
   try simp only [Act.put, zA, zB, zC]
   refine tkY 22 ?_
   refine wpAnyH_take (i := 23) (oi := ⟨_, _, _, _, _, _⟩) (v := .string (strI h)) rfl (by kernel_rfl) (by kernel_rfl) (by kernel_rfl) (fun _ _ _ h => h) (Or.inl ⟨by rfl, ?_⟩) (by assumption) ?_
   ·(intro w hSw; have hcv := conv_bytesT hc hSw.2.2.2.2.out; clear hSw; go_simp; (try with_reducible rfl))
   try simp only [Act.put, zA, zB, zC]
   refine tkY 24 ?_
   refine tkY 25 ?_
   refine tkY 26 ?_
   refine wpAnyH_done (by kernel_rfl) ?_ _
   go_wp2
   go_ret
   exact ⟨rfl, (Below.refl _ _).drew⟩
  | true =>
   have E : Hid ((decide (0 = 0) && beqB L h) = true) := Hid.mk' (by unfold beqB; rw [e3]; rfl)
   rw [E.out]
   have e4 : ((strI L).toList != (strI h).toList) = false := by simpa using e3
   go_enter Tryz.func91, Tryz.ntmps91
   go_wp2
   refine wp_region_held_drew (S := (fun v => v.cell? ⟨g, 1, none⟩ = some (.int .i64 (s : Int)) ∧ v.cell? ⟨g, 4, none⟩ = some (.slice (some ⟨b9, o9, none⟩) m.cs.length cc) ∧ v.cell? ⟨b9, o9 + K * 3 + 2, none⟩ = some (.slice pq L.length pc) ∧ Hid (BAt v pq L) ∧ Hid (BAt v hv h))) (by kernel_rfl) ⟨x1, x4, p3, P4.out.below (Below.refl _ _).drew, HBT.out.below (Below.refl _ _).drew⟩ (fun hHeld => ?_)
   refine tkY 0 ?_
   refine tkY 1 ?_
   refine tkY 2 ?_
   refine tkY 3 ?_
   refine tkY 4 ?_
   refine tkY 5 ?_
   refine tkY 6 ?_
   refine tkY 7 ?_
   refine tkY 8 ?_
   refine tkY 9 ?_
   refine tkY 10 ?_
   refine tkY 11 ?_
   refine tkY 12 ?_
   refine tkY 13 ?_
   refine tkY 14 ?_
   refine tkY 15 ?_
   refine tkY 16 ?_
   refine tkY 17 ?_
   refine tkY 18 ?_
   refine tkY 19 ?_
   refine tkY 20 ?_
   refine wpAnyH_take (i := 21) (oi := ⟨_, _, _, _, _, _⟩) (v := .string (strI L)) rfl (by kernel_rfl) (by kernel_rfl) (by kernel_rfl) (fun _ _ _ h => h) (Or.inl ⟨by rfl, ?_⟩) (by assumption) ?_
   ·(intro w hSw; have hcv := conv_bytesT pc hSw.2.2.2.1.out; clear hSw; go_simp; (try with_reducible rfl))
   try simp only [Act.put, zA, zB, zC]
   refine tkY 22 ?_
   refine wpAnyH_take (i := 23) (oi := ⟨_, _, _, _, _, _⟩) (v := .string (strI h)) rfl (by kernel_rfl) (by kernel_rfl) (by kernel_rfl) (fun _ _ _ h => h) (Or.inl ⟨by rfl, ?_⟩) (by assumption) ?_
   ·(intro w hSw; have hcv := conv_bytesT hc hSw.2.2.2.2.out; clear hSw; go_simp; (try with_reducible rfl))
   try simp only [Act.put, zA, zB, zC]
   refine tkY 24 ?_
   refine tkY 25 ?_
   refine tkY 26 ?_
   refine wpAnyH_done (by kernel_rfl) ?_ _
   go_wp2
   go_ret
   exact ⟨rfl, (Below.refl _ _).drew⟩
 ·have E : Hid ((decide (Z = 0) && beqB L h) = false) := Hid.mk' (by rw [decide_eq_false hz]; rfl)
  rw [E.out]
  have tm : ((o : Int).tmod (s : Int) == 0) = false := by rw [Int.tmod_eq_emod_of_nonneg (by omega), hr0]; simp; omega
  go_enter Tryz.func91, Tryz.ntmps91
  go_wp2
  refine wp_region_held_drew (S := (fun v => v.cell? ⟨g, 1, none⟩ = some (.int .i64 (s : Int)) ∧ v.cell? ⟨g, 4, none⟩ = some (.slice (some ⟨b9, o9, none⟩) m.cs.length cc) ∧ v.cell? ⟨b9, o9 + K * 3 + 2, none⟩ = some (.slice pq L.length pc) ∧ Hid (BAt v pq L) ∧ Hid (BAt v hv h))) (by kernel_rfl) ⟨x1, x4, p3, P4.out.below (Below.refl _ _).drew, HBT.out.below (Below.refl _ _).drew⟩ (fun hHeld => ?_)
  refine tkY 0 ?_
  refine tkY 1 ?_
  refine tkY 2 ?_
  refine tkY 3 ?_
  refine tkY 4 ?_
  refine tkY 5 ?_
  refine tkY 6 ?_
  refine tkY 7 ?_
  refine tkU 8 ?_
  refine tkU 9 ?_
  refine tkU 10 ?_
  refine tkU 11 ?_
  refine tkU 12 ?_
  refine tkU 13 ?_
  refine tkU 14 ?_
  refine tkU 15 ?_
  refine tkU 16 ?_
  refine tkU 17 ?_
  refine tkU 18 ?_
  refine tkU 19 ?_
  refine tkU 20 ?_
  refine tkU 21 ?_
  refine tkU 22 ?_
  refine tkU 23 ?_
  refine tkU 24 ?_
  refine tkY 25 ?_
  refine tkY 26 ?_
  refine wpAnyH_done (by kernel_rfl) ?_ _
  go_wp2
  go_ret
  exact ⟨rfl, (Below.refl _ _).drew⟩
theorem TsAt.head {w : World} {b o n : Nat} {l : List TK} (h : TsAt w (some ⟨b, o, none⟩) l) (hn : n ≤ l.length) : TsAt w (some ⟨b, o, none⟩) (l.take n) := by
 rcases h with h | ⟨b1, o1, e, hb, hc⟩
 ·exact .inl (by rw [h]; simp)
 ·cases e
  refine .inr ⟨b, o, rfl, hb, fun k hk => ?_⟩
  rw [List.length_take] at hk
  have ek : tkK (l.take n) k = tkK l k := by unfold tkK; simp [show k < n by omega]
  rw [ek]
  exact hc k (by omega)
theorem TsAt.rest {w : World} {b o c n : Nat} {l : List TK} (h : TsAt w (some ⟨b, o, none⟩) l) (hc : l.length ≤ c) (hn : n ≤ l.length) : TsAt w (if c = n then some ⟨b, o, none⟩ else some ⟨b, o + n * 5, none⟩) (l.drop n) := by
 by_cases e : c = n
 ·exact .inl (List.drop_eq_nil_of_le (by omega))
 ·rw [if_neg e]
  rcases h with h | ⟨b1, o1, e1, hb, hc⟩
  ·exact .inl (by rw [h]; simp)
  ·cases e1
   refine .inr ⟨b, o + n * 5, rfl, hb, fun k hk => ?_⟩
   rw [List.length_drop] at hk
   have ek : tkK (l.drop n) k = tkK l (n + k) := by unfold tkK; simp
   rw [ek]
   have := hc (n + k) (by omega)
   rw [show o + (n + k) * 5 = o + n * 5 + k * 5 by omega] at this
   exact this
theorem tssz_drop (l : List TK) : ∀ n, tssz (l.drop n) ≤ tssz l := by
 induction l with
 | nil => intro n; simp
 | cons x r ih => intro n; cases n with
  | zero => simp
  | succ n => simp [tssz]; have := ih n; omega
theorem l13Tail_any (g : Nat) (m : ME) (a u : Option Addr) (bt ot b9 o9 ca ct cu cc s o n : Nat) (w : World) (hp : P1 g m a (some ⟨bt, ot, none⟩) u (some ⟨b9, o9, none⟩) ca ct cu cc w) (hct : m.tk.length ≤ ct) (hst : m.st = (s : Int)) (hs : 1 ≤ s) (hs2 : s ≤ 60) (hcl : m.cs.length = m.dt.length / s + 1) (ho : o ≤ m.dt.length) (hd : m.dt.length ≤ 240) (hn : (ckK m.cs (o / s)).ct = (n : Int)) (hnl : n ≤ m.tk.length) (hl : (m.tk.length : Int) + tssz m.tk ≤ 1048576) :
  Calls Tryz.prog 92 #[.pointer (some ⟨g, 0, none⟩), .int .i64 (o : Int)] w fun e w' => ∃ v us, e = .returned v ∧ TokS w.heap.size w' v (m.tk.drop n) us ∧ Below w.heap.size w w' := by
 obtain ⟨x0, x1, x2, x3, x4, x5⟩ := cells5 hp.r
 rw [hst] at x1
 have hKJ : o / s < m.cs.length := by rw [hcl]; exact Nat.lt_succ_of_le (Nat.div_le_div_right ho)
 have hq0 : (o : Int) / (s : Int) = ((o / s : Nat) : Int) := by simp
 have hq1 : o / s ≤ o := Nat.div_le_self _ _
 rcases hp.m1.2.2.2 with hnil | ⟨b8, o8, e8, hbs9, hc9⟩
 ·rw [hnil] at hKJ; simp at hKJ
 cases e8
 obtain ⟨p1, p2_, -⟩ := hc9 (o / s) hKJ
 rw [hn] at p2_
 have hs0 : ¬ s = 0 := by omega
 have td := tssz_drop m.tk n
 have KC : ∀ V, Below w.heap.size w V → Calls Tryz.prog 67 #[.slice (if ct = n then some ⟨bt, ot, none⟩ else some ⟨bt, ot + n * 5, none⟩) (m.tk.length - n) (ct - n)] V fun e w' => ∃ v us, e = .returned v ∧ TokS V.heap.size w' v (m.tk.drop n) us ∧ Below V.heap.size V w' := fun V hV => by
  have := l4Copy_any (if ct = n then some ⟨bt, ot, none⟩ else some ⟨bt, ot + n * 5, none⟩) (ct - n) (m.tk.drop n) V ((hp.m1.2.1.rest hct hnl).below hV) (by rw [List.length_drop]; omega)
  rw [List.length_drop] at this
  exact this
 obtain ⟨K, hK⟩ : ∃ K, o / s = K := ⟨_, rfl⟩
 rw [hK] at hKJ hq0 hq1 p2_
 have hwK : IntKind.i64.wrap (K : Int) = (K : Int) := by rw [IntKind.wrap_i64]; omega
 have ck : (K : Int) < (m.cs.length : Int) := by omega
 have i1 : (0 : Int) ≤ (n : Int) := by omega
 have i2 : (n : Int) ≤ (m.tk.length : Int) := by omega
 have i3 : (n : Int) ≤ (ct : Int) := by omega
 clear hp hc9 p1 hK hcl hn td
 by_cases hcn : ct = n
 ·rw [if_pos hcn] at KC
  have hcn2 := hcn.symm
  subst hcn2
  simp only [Nat.sub_self, show m.tk.length - n = 0 by omega] at KC
  have KC := Hid.mk' KC
  go_enter Tryz.func92, Tryz.ntmps92
  go_wp2
  refine wp_region_held_drew (S := (fun v => v.cell? ⟨g, 1, none⟩ = some (.int .i64 (s : Int)) ∧ v.cell? ⟨g, 2, none⟩ = some (.slice (some ⟨bt, ot, none⟩) m.tk.length n) ∧ v.cell? ⟨g, 4, none⟩ = some (.slice (some ⟨b9, o9, none⟩) m.cs.length cc) ∧ v.cell? ⟨b9, o9 + K * 3 + 1, none⟩ = some (.int .i64 (n : Int)))) (by kernel_rfl) ⟨x1, x2, x4, p2_⟩ (fun hHeld => ?_)
  refine tkY 0 ?_
  refine tkY 1 ?_
  refine tkY 2 ?_
  refine tkY 3 ?_
  refine tkY 4 ?_
  refine tkY 5 ?_
  refine tkY 6 ?_
  refine tkY 7 ?_
  refine tkY 8 ?_
  refine tkY 9 ?_
  refine tkY 10 ?_
  refine tkY 11 ?_
  refine tkY 12 ?_
  refine tkY 13 ?_
  refine tkY 14 ?_
  refine tkY 15 ?_
  refine tkY 16 ?_
  refine tkY 17 ?_
  refine wpAnyH_ready (rs := [18]) (by kernel_rfl) (by simp) ?_
  refine AllReadyH.cons (o := ⟨_, _, _, _, _, _⟩) rfl (fun K hK => ?_) AllReadyH.nil
  go_simp
  refine (KC.out _ (Below.refl _ _).drew).mono ?_
  rintro e w1 ⟨v, us, rfl, tk1, hb1⟩
  replace hb1 := undrew hb1
  refine hK.out _ _ ⟨(hb1.cell x5).trans x1, (hb1.cell x5).trans x2, (hb1.cell x5).trans x4, (hb1.cell hbs9).trans p2_⟩ (fun hHeld => ?_)
  clear hK K
  try simp only [Act.put, zA, zB, zC]
  refine tkY 19 ?_
  refine wpAnyH_done (by kernel_rfl) ?_ _
  have T1 := Hid.mk' tk1
  have B1 := Hid.mk' hb1
  clear tk1 hb1 hHeld
  go_wp2
  go_ret
  exact ⟨_, us, rfl, T1.out, B1.out⟩
 ·rw [if_neg hcn] at KC
  have KC := Hid.mk' KC
  go_enter Tryz.func92, Tryz.ntmps92
  go_wp2
  refine wp_region_held_drew (S := (fun v => v.cell? ⟨g, 1, none⟩ = some (.int .i64 (s : Int)) ∧ v.cell? ⟨g, 2, none⟩ = some (.slice (some ⟨bt, ot, none⟩) m.tk.length ct) ∧ v.cell? ⟨g, 4, none⟩ = some (.slice (some ⟨b9, o9, none⟩) m.cs.length cc) ∧ v.cell? ⟨b9, o9 + K * 3 + 1, none⟩ = some (.int .i64 (n : Int)))) (by kernel_rfl) ⟨x1, x2, x4, p2_⟩ (fun hHeld => ?_)
  refine tkY 0 ?_
  refine tkY 1 ?_
  refine tkY 2 ?_
  refine tkY 3 ?_
  refine tkY 4 ?_
  refine tkY 5 ?_
  refine tkY 6 ?_
  refine tkY 7 ?_
  refine tkY 8 ?_
  refine tkY 9 ?_
  refine tkY 10 ?_
  refine tkY 11 ?_
  refine tkY 12 ?_
  refine tkY 13 ?_
  refine tkY 14 ?_
  refine tkY 15 ?_
  refine tkY 16 ?_
  refine tkY 17 ?_
  refine wpAnyH_ready (rs := [18]) (by kernel_rfl) (by simp) ?_
  refine AllReadyH.cons (o := ⟨_, _, _, _, _, _⟩) rfl (fun K hK => ?_) AllReadyH.nil
  go_simp
  refine (KC.out _ (Below.refl _ _).drew).mono ?_
  rintro e w1 ⟨v, us, rfl, tk1, hb1⟩
  replace hb1 := undrew hb1
  refine hK.out _ _ ⟨(hb1.cell x5).trans x1, (hb1.cell x5).trans x2, (hb1.cell x5).trans x4, (hb1.cell hbs9).trans p2_⟩ (fun hHeld => ?_)
  clear hK K
  try simp only [Act.put, zA, zB, zC]
  refine tkY 19 ?_
  refine wpAnyH_done (by kernel_rfl) ?_ _
  have T1 := Hid.mk' tk1
  have B1 := Hid.mk' hb1
  clear tk1 hb1 hHeld
  go_wp2
  go_ret
  exact ⟨_, us, rfl, T1.out, B1.out⟩
theorem BAt.headB {w : World} {b o z : Nat} {l : List Int} (h : BAt w (some ⟨b, o, none⟩) l) (hz : z ≤ l.length) : BAt w (some ⟨b, o, none⟩) (l.take z) := by
 rcases h with h | ⟨b1, o1, e, hb, hc⟩
 ·exact .inl (by rw [h]; simp)
 ·cases e; exact (CAt.head ⟨hb, hc⟩ hz).at
theorem BAt.restB {w : World} {b o c f : Nat} {l : List Int} (h : BAt w (some ⟨b, o, none⟩) l) (hc : l.length ≤ c) (hf : f ≤ l.length) : BAt w (if c = f then some ⟨b, o, none⟩ else some ⟨b, o + f, none⟩) (l.drop f) := by
 rcases h with h | ⟨b1, o1, e, hb, hcc⟩
 ·exact .inl (by rw [h]; simp)
 ·cases e; exact CAt.rest ⟨hb, hcc⟩ hc hf
theorem l13SpliceB_any (b o c : Nat) (l : List Int) (at_ n : Nat) (e : Option Addr) (d : Nat) (p : List Int) (w : World) (hl : BAt w (some ⟨b, o, none⟩) l) (hc : l.length ≤ c) (he : BAt w e p) (hs : l.length ≤ 1048576) (hm : p.length ≤ 1048576) (hat : at_ + n ≤ l.length) :
  Calls Tryz.prog 77 #[.slice (some ⟨b, o, none⟩) l.length c, .int .i64 (at_ : Int), .int .i64 (n : Int), .slice e p.length d] w fun e w' => ∃ v, e = .returned v ∧ w'.ownsRow w.heap.size 5 1 v (spl l at_ n p).length (bcs (spl l at_ n p)) ∧ Below w.heap.size w w' := by
 have e1 : (l.take at_).length = at_ := by rw [List.length_take]; omega
 have e2 : (l.drop (at_ + n)).length = l.length - (at_ + n) := by rw [List.length_drop]
 have K := l1Copy_own (some ⟨b, o, none⟩) c (l.take at_) w (hl.headB (by omega)) (by omega)
 rw [e1] at K
 have K := Hid.mk' K
 have z2 : (bcs (l.drop (at_ + n))).length = (l.length - (at_ + n)) * 1 := by rw [bcs_len, e2]
 have R := Hid.mk' (hl.restB hc hat)
 have E : Hid ((spl l at_ n p).length = at_ + p.length + (l.length - (at_ + n))) := Hid.mk' (by rw [spl_len hat]; omega)
 have HE := Hid.mk' he
 clear hl he e1
 go_enter Tryz.func77, Tryz.ntmps77
 go_wp2_with (first
  | (go_at_call 51; refine K.out.mono ?_; rintro e w1 ⟨v, rfl, ho1, hb1⟩)
  | (at_builtin; refine wpList_append_any _ rfl (.tmp 13) (.tmp 14) 22 rfl w.heap.size 5 (.int .u8 0) 1 1 Tryz.underlying22 Tryz.info5 rfl (by decide) _ at_ _ rfl ho1 e p.length d (bcs p) rfl (bcs_len p) (HE.out.below hb1).src (bcs_one p) (by unfold maxLen; omega) (by omega) hb1.size ?_; intro v2 w2 ho2 hg2; have hb2 := hb1.grown hg2 hb1.size (fun k hk => own_lo ho1 k hk))
  | (at_builtin; refine wpList_append_any _ rfl (.tmp 16) (.tmp 21) 22 rfl w.heap.size 5 (.int .u8 0) 1 1 Tryz.underlying22 Tryz.info5 rfl (by decide) _ (at_ + p.length) _ rfl ho2 (if c = at_ + n then some ⟨b, o, none⟩ else some ⟨b, o + (at_ + n), none⟩) (l.length - (at_ + n)) (c - (at_ + n)) (bcs (l.drop (at_ + n))) rfl z2 (by have := (R.out.below hb2).src; rwa [e2] at this) (bcs_one _) (by unfold maxLen; omega) (by omega) hb2.size ?_; intro v3 w3 ho3 hg3; have hb3 := hb2.grown hg3 hb2.size (fun k hk => own_lo ho2 k hk)))
 all_goals
  go_ret
  rw [← E.out, ← bcs_append, ← bcs_append] at ho3
  exact ⟨_, rfl, ho3, hb3⟩
theorem hdA_add (T : List Int) (q k : Nat) : hdA T (q + k) = (allX [] (hdA T q) ((T.drop q).take k)).2 := by
 unfold hdA
 rw [List.take_add, allX_append, allX_from]
theorem hdA_same {d T : List Int} {q : Nat} (h : T.take q = d.take q) : hdA T q = hdA d q := by unfold hdA; rw [h]
theorem spl_take {l : List Int} {at_ n q : Nat} {p : List Int} (h : q ≤ at_) (h2 : at_ ≤ l.length) : (spl l at_ n p).take q = l.take q := by
 unfold spl
 rw [List.append_assoc, List.take_append_of_le_length (by rw [List.length_take]; omega), List.take_take, Nat.min_eq_left h]

end Go.Proofs.YtieeojhdidjnaaaGreatDoor
