/- Bytes spliced: the codes, a copy of as many as there is room for, a row cleared. -/
import Derived.Test.YtdloogkjnjklcaaGreatDoorD14
import Derived.Test.YtdloogkjnjklcaaGreatDoorD18
import Derived.Lib.SliceRun
import Derived.Test.YtdloogkjnjklcaaGreatDoorD33
set_option linter.unusedVariables false
set_option linter.unusedSimpArgs false
namespace Go.Proofs.YtdloogkjnjklcaaGreatDoor
open Go.RowKit

def CAt (w : World) (b o : Nat) (l : List Int) : Prop := b < w.heap.size ∧ ∀ k, k < l.length → w.cell? ⟨b, o + k, none⟩ = some (bv l k)

theorem CAt.below {w w' : World} {b o : Nat} {l : List Int} (h : CAt w b o l) (hb : Below w.heap.size w w') : CAt w' b o l :=
  ⟨Nat.lt_of_lt_of_le h.1 hb.size, fun k hk => (hb.cell h.1).trans (h.2 k hk)⟩

theorem CAt.at {w : World} {b o : Nat} {l : List Int} (h : CAt w b o l) : BAt w (some ⟨b, o, none⟩) l := .inr ⟨b, o, rfl, h.1, h.2⟩

theorem CAt.of_row {w : World} {b : Nat} {l : List Int} (h : w.rowIs b 5 l.length (bv l)) : CAt w b 0 l := ⟨h.lt, fun k hk => by rw [Nat.zero_add]; exact h.cell hk⟩

theorem CAt.sub {w : World} {b o f z : Nat} {l : List Int} (h : CAt w b o l) (hz : f + z ≤ l.length) : CAt w b (o + f) ((l.drop f).take z) := by
  refine ⟨h.1, fun k hk => ?_⟩
  rw [List.length_take, List.length_drop] at hk
  have hk' : k < z := by omega
  rw [show o + f + k = o + (f + k) from by omega, h.2 (f + k) (by omega)]
  unfold bv
  congr 2
  simp [hk']

theorem CAt.tail {w : World} {b o f : Nat} {l : List Int} (h : CAt w b o l) (hz : f ≤ l.length) : CAt w b (o + f) (l.drop f) := by
  have := h.sub (f := f) (z := l.length - f) (by omega)
  rwa [List.take_of_length_le (by rw [List.length_drop]; omega)] at this

def spl (l : List Int) (at_ n : Nat) (p : List Int) : List Int := l.take at_ ++ p ++ l.drop (at_ + n)

theorem spl_len {l : List Int} {at_ n : Nat} {p : List Int} (h : at_ + n ≤ l.length) : (spl l at_ n p).length = l.length - n + p.length := by
  simp [spl]; omega

def spC (size at_ n m : Int) : Int := if at_ < 0 ∨ size < at_ ∨ n < 0 ∨ size - at_ < n then 3 else if 240 < size - n + m then 6 else 0

theorem spC_zero {size at_ n m : Int} (h : spC size at_ n m = 0) : 0 ≤ at_ ∧ 0 ≤ n ∧ at_ + n ≤ size ∧ size - n + m ≤ 240 := by
  unfold spC at h
  split at h
  · omega
  · split at h <;> omega

theorem copy_min {P : Program} (dT sT ty : TypeId) (hu : P.underlying dT = some (.slice 5)) (hs : (P.info? 5).map (·.size) = some 1) {w : World} {g cn : Nat} {f : Nat → Value} (o dn dc : Nat) (hr : w.rowIs g 5 cn f) (a : Option Addr) (c : Nat) (l : List Int) (k : Nat)
    (ha : BAt w a l) (hk : Nat.min l.length dn = k) (h2 : o + k ≤ cn) :
    ∃ w', (Builtin.copy_ #[dT, sT] ty #[.slice (some ⟨g, o, none⟩) dn dc, .slice a l.length c]).run P w = .ok (goInt k) w' ∧ w'.rowIs g 5 cn (fun j => if o ≤ j ∧ j < o + k then bv l (j - o) else f j) ∧ KeptIn g (g + 1) w w' := by
  have hkl : k ≤ l.length := by rw [← hk]; exact Nat.min_le_left _ _
  rcases ha.src with h0 | ⟨ad, rfl, hc⟩
  · have : k = 0 := by omega
    subst this
    rw [h0]
    exact ⟨w, run_copy_none w dT sT ty 5 _ a dn dc 0 c hu hs (by simp), hr.congr (fun j _ => by rw [if_neg (by omega)]), KeptIn.refl _ _ _⟩
  · obtain ⟨cur, hg, hn, hf⟩ := hr
    have el : (l.take k).length = k := by rw [List.length_take]; omega
    have hmin : (bcs (l.take k)).length = Nat.min l.length dn := by rw [bcs_len, Nat.mul_one, el]; exact hk.symm
    have hb : ∀ i, i < k → bv (l.take k) i = bv l i := fun i hi => by simp [bv, hi]
    have hc' : ∀ j u, (bcs (l.take k))[j]? = some u → w.cell? (ad.add j) = some u := by
      intro j u hj
      have hlt : j < k := by
        have := (List.getElem?_eq_some_iff.1 hj).1
        rw [bcs_len, el] at this; omega
      rw [bcs_get _ j (by omega), hb j hlt] at hj
      exact hc j u (by rw [bcs_get l j (by omega)]; exact hj)
    have hrun := run_copy_row (P := P) w dT sT ty 5 g o dn dc ad l.length c cur 5 (bcs (l.take k)) hu hs hg hmin hc' (by rw [bcs_len, el]; omega) (bcs_one _)
    rw [bcs_len, Nat.mul_one, el] at hrun
    refine ⟨_, hrun, ⟨_, setRow_heap w g cur _ 5 _ hg, ?_, fun i hi => ?_⟩, ⟨rfl, rfl, rfl, by simp [World.setRow], fun k hk hne => setRow_other w g k _ (by omega)⟩⟩
    · simp only [List.size_toArray, List.length_append, List.length_take, List.length_drop, Array.length_toList, bcs_len]
      omega
    · simp only [List.getElem?_toArray]
      have hlt : (cur.toList.take o).length = o := by rw [List.length_take, Array.length_toList]; omega
      by_cases c1 : i < o
      · rw [if_neg (by omega), List.append_assoc, List.getElem?_append_left (by omega), List.getElem?_take, if_pos c1, Array.getElem?_toList]
        exact hf i hi
      · by_cases c2 : i < o + k
        · rw [if_pos (by omega), List.append_assoc, List.getElem?_append_right (by omega), hlt, List.getElem?_append_left (by rw [bcs_len, el]; omega), bcs_get _ _ (by omega), hb _ (by omega)]
        · rw [if_neg (by omega), List.append_assoc, List.getElem?_append_right (by omega), hlt, List.getElem?_append_right (by rw [bcs_len, el]; omega), bcs_len, el, List.getElem?_drop, Array.getElem?_toList]
          rw [show o + k + (i - o - k * 1) = i from by omega]
          exact hf i hi

theorem setCells_row {g cn : Nat} {t : TypeId} (z : Value) : ∀ (n o : Nat) (w : World) (f : Nat → Value), w.rowIs g t cn f →
    (w.setCells g o (List.replicate n z)).rowIs g t cn (fun j => if o ≤ j ∧ j < o + n then z else f j) ∧ KeptIn g (g + 1) w (w.setCells g o (List.replicate n z)) := by
  intro n
  induction n with
  | zero => intro o w f h; exact ⟨h.congr (fun j _ => by rw [if_neg (by omega)]), KeptIn.refl _ _ _⟩
  | succ n ih =>
    intro o w f h
    obtain ⟨h1, h2⟩ := ih (o + 1) _ _ (h.set o z)
    refine ⟨h1.congr (fun j _ => ?_), ((KeptIn.refl g (g + 1) w).setCell (Nat.le_refl _) (Nat.lt_succ_self _) z).trans h2⟩
    by_cases e : j = o
    · subst e; rw [if_neg (by omega), if_pos rfl, if_pos (by omega)]
    · rw [if_neg (show ¬ j = o from e)]
      by_cases c : o + 1 ≤ j ∧ j < o + 1 + n
      · rw [if_pos c, if_pos (by omega)]
      · rw [if_neg c, if_neg (by omega)]

theorem clear_row {P : Program} (t ty : TypeId) (hu : P.underlying t = some (.slice 5)) (hv : ∀ w, (zeroValue 5).run P w = .ok (.int .u8 0) w) {w : World} {g cn : Nat} {f : Nat → Value} (o n c : Nat) (hr : w.rowIs g 5 cn f) (hn : o + n = cn) :
    ∃ w', (Builtin.clear_ #[t] ty #[.slice (some ⟨g, o, none⟩) n c]).run P w = .ok (.tuple #[]) w' ∧ w'.rowIs g 5 cn (fun j => if j < o then f j else .int .u8 0) ∧ KeptIn g (g + 1) w w' := by
  by_cases h0 : n = 0
  · subst h0
    refine ⟨w, ?_, hr.congr (fun j hj => by rw [if_pos (by omega)]), KeptIn.refl _ _ _⟩
    simp [Builtin.clear_, run_underlying hu]
  · have hrun := Go.Lib.run_clear_slice (P := P) w t 5 ty (.int .u8 0) hu hv rfl rfl g o n c (by omega) (fun j hj => by rw [hr.cell (by omega)]; rfl) (fun j hj => hr.frozen _)
    obtain ⟨h1, h2⟩ := setCells_row (.int .u8 0) n o w f hr
    exact ⟨_, hrun, h1.congr (fun j hj => by
      by_cases c : j < o
      · rw [if_neg (by omega), if_pos c]
      · rw [if_pos (by omega), if_neg c]), h2⟩

end Go.Proofs.YtdloogkjnjklcaaGreatDoor

namespace Go.Proofs.YtdloogkjnjklcaaGreatDoor
open Go.RowKit

theorem l1InS_any (v lo hi : Int) (w : World) : Calls Tryz.prog 47 #[.int .i64 v, .int .i64 lo, .int .i64 hi] w fun e w' => e = .returned (.bool (decide (lo ≤ v) && decide (v ≤ hi))) ∧ w' = w := by
  by_cases h1 : lo ≤ v
  · by_cases h2 : v ≤ hi
    · go_enter Tryz.func47, Tryz.ntmps47
      go_wp2
      go_ret
      exact ⟨by simp [h1, h2], rfl⟩
    · go_enter Tryz.func47, Tryz.ntmps47
      go_wp2
      go_ret
      exact ⟨by simp; omega, rfl⟩
  · go_enter Tryz.func47, Tryz.ntmps47
    go_wp2
    go_ret
    exact ⟨by simp; omega, rfl⟩

set_option maxHeartbeats 1600000 in
theorem l13Asked_any (s : Nat) (at_ n : Int) (a : Option Addr) (m c : Nat) (w : World) (hs : s ≤ 1048576) (hm : m ≤ 1048576) (a1 : -9223372036854775808 ≤ at_) (a2 : at_ ≤ 9223372036854775807) (n1 : -9223372036854775808 ≤ n) (n2 : n ≤ 9223372036854775807) :
    Calls Tryz.prog 58 #[.int .i64 (s : Int), .int .i64 at_, .int .i64 n, .slice a m c] w fun e w' => e = .returned (.int .i64 (spC s at_ n m)) ∧ w' = w := by
  by_cases h1 : 0 ≤ at_ ∧ at_ ≤ s
  · have K1 := l1InS_any at_ 0 s w
    have K2 := l1InS_any n 0 ((s : Int) - at_) w
    rw [show (decide (0 ≤ at_) && decide (at_ ≤ (s : Int))) = true by simp [h1]] at K1
    have K1 := Hid.mk' K1
    obtain ⟨h1, h1'⟩ := h1
    by_cases h2 : 0 ≤ n ∧ n ≤ s - at_
    · rw [show (decide (0 ≤ n) && decide (n ≤ (s : Int) - at_)) = true by simp [h2]] at K2
      have K2 := Hid.mk' K2
      obtain ⟨h2, h2'⟩ := h2
      by_cases h3 : 240 < (s : Int) - n + m
      · have E : Hid (spC s at_ n m = 6) := by unfold spC; rw [if_neg (by omega), if_pos h3]; exact rfl
        go_enter Tryz.func58, Tryz.ntmps58
        go_wp2_with (first | (go_at_call 47; with_reducible refine K1.out.mono ?_; rintro e w1 ⟨rfl, rfl⟩) | (go_at_call 47; with_reducible refine K2.out.mono ?_; rintro e w1 ⟨rfl, rfl⟩))
        go_ret
        exact ⟨by rw [E.out]; rfl, rfl⟩
      · have E : Hid (spC s at_ n m = 0) := by unfold spC; rw [if_neg (by omega), if_neg h3]; exact rfl
        go_enter Tryz.func58, Tryz.ntmps58
        go_wp2_with (first | (go_at_call 47; with_reducible refine K1.out.mono ?_; rintro e w1 ⟨rfl, rfl⟩) | (go_at_call 47; with_reducible refine K2.out.mono ?_; rintro e w1 ⟨rfl, rfl⟩))
        go_ret
        exact ⟨by rw [E.out]; rfl, rfl⟩
    · rw [show (decide (0 ≤ n) && decide (n ≤ (s : Int) - at_)) = false by simp; omega] at K2
      have K2 := Hid.mk' K2
      have E : Hid (spC s at_ n m = 3) := by unfold spC; rw [if_pos (by omega)]; exact rfl
      clear h2
      go_enter Tryz.func58, Tryz.ntmps58
      go_wp2_with (first | (go_at_call 47; with_reducible refine K1.out.mono ?_; rintro e w1 ⟨rfl, rfl⟩) | (go_at_call 47; with_reducible refine K2.out.mono ?_; rintro e w1 ⟨rfl, rfl⟩))
      go_ret
      exact ⟨by rw [E.out]; rfl, rfl⟩
  · have K1 := l1InS_any at_ 0 s w
    rw [show (decide (0 ≤ at_) && decide (at_ ≤ (s : Int))) = false by simp; omega] at K1
    have K1 := Hid.mk' K1
    have E : Hid (spC s at_ n m = 3) := by unfold spC; rw [if_pos (by omega)]; exact rfl
    clear h1
    go_enter Tryz.func58, Tryz.ntmps58
    go_wp2_with (go_at_call 47; with_reducible refine K1.out.mono ?_; rintro e w1 ⟨rfl, rfl⟩)
    go_ret
    exact ⟨by rw [E.out]; rfl, rfl⟩

set_option maxHeartbeats 1600000 in
theorem spliceFault_any (a b : Option Addr) (s c m d : Nat) (at_ n : Int) (w : World) (hs : s ≤ 1048576) (hm : m ≤ 1048576) (a1 : -9223372036854775808 ≤ at_) (a2 : at_ ≤ 9223372036854775807) (n1 : -9223372036854775808 ≤ n) (n2 : n ≤ 9223372036854775807) :
    Calls Tryz.prog 87 #[.slice a s c, .int .i64 at_, .int .i64 n, .slice b m d] w fun e w' => e = .returned (.int .i64 (spC s at_ n m)) ∧ w' = w := by
  by_cases h1 : at_ < 0
  · have E : Hid (spC s at_ n m = 3) := by unfold spC; rw [if_pos (by omega)]; exact rfl
    go_enter Tryz.func87, Tryz.ntmps87
    go_wp2
    go_ret
    exact ⟨by rw [E.out]; rfl, rfl⟩
  · by_cases h2 : n < 0
    · have E : Hid (spC s at_ n m = 3) := by unfold spC; rw [if_pos (by omega)]; exact rfl
      go_enter Tryz.func87, Tryz.ntmps87
      go_wp2
      go_ret
      exact ⟨by rw [E.out]; rfl, rfl⟩
    · by_cases h3 : (s : Int) - at_ < n
      · have E : Hid (spC s at_ n m = 3) := by unfold spC; rw [if_pos (by omega)]; exact rfl
        go_enter Tryz.func87, Tryz.ntmps87
        go_wp2
        go_ret
        exact ⟨by rw [E.out]; rfl, rfl⟩
      · by_cases h4 : 240 - ((s : Int) - n) < m
        · have E : Hid (spC s at_ n m = 6) := by unfold spC; rw [if_neg (by omega), if_pos (by omega)]; exact rfl
          go_enter Tryz.func87, Tryz.ntmps87
          go_wp2
          go_ret
          exact ⟨by rw [E.out]; rfl, rfl⟩
        · have E : Hid (spC s at_ n m = 0) := by unfold spC; rw [if_neg (by omega), if_neg (by omega)]; exact rfl
          go_enter Tryz.func87, Tryz.ntmps87
          go_wp2
          go_ret
          exact ⟨by rw [E.out]; rfl, rfl⟩

theorem CAt.rest {w : World} {b o c f : Nat} {l : List Int} (h : CAt w b o l) (hc : l.length ≤ c) (hf : f ≤ l.length) : BAt w (if c = f then some ⟨b, o, none⟩ else some ⟨b, o + f, none⟩) (l.drop f) := by
  by_cases e : c = f
  · exact .inl (List.drop_eq_nil_of_le (by omega))
  · rw [if_neg e]; exact (h.tail hf).at

def spB (l : List Int) (at_ n : Int) (p : List Int) : List Int := if spC l.length at_ n p.length = 0 then spl l at_.toNat n.toNat p else []

theorem copy_end {P : Program} (dT sT ty : TypeId) (hu : P.underlying dT = some (.slice 5)) (hs : (P.info? 5).map (·.size) = some 1) {w : World} {g cn : Nat} {f : Nat → Value} (q : Nat) (hr : w.rowIs g 5 cn f) (a : Option Addr) (c : Nat) (l : List Int)
    (ha : BAt w a l) (h2 : q + l.length ≤ cn) :
    ∃ w', (Builtin.copy_ #[dT, sT] ty #[.slice (if cn = q then some ⟨g, 0, none⟩ else some ⟨g, q, none⟩) (cn - q) (cn - q), .slice a l.length c]).run P w = .ok (goInt l.length) w' ∧ w'.rowIs g 5 cn (fun j => if q ≤ j ∧ j < q + l.length then bv l (j - q) else f j) ∧ KeptIn g (g + 1) w w' := by
  by_cases e : cn = q
  · have h0 : l.length = 0 := by omega
    rw [if_pos e]
    rw [h0]
    exact ⟨w, run_copy_none w dT sT ty 5 _ a (cn - q) (cn - q) 0 c hu hs (by simp), hr.congr (fun j _ => by rw [if_neg (by omega)]), KeptIn.refl _ _ _⟩
  · rw [if_neg e]
    exact copy_min dT sT ty hu hs q (cn - q) (cn - q) hr a c l l.length ha (Nat.min_eq_left (by omega)) h2

theorem clear_end {P : Program} (t ty : TypeId) (hu : P.underlying t = some (.slice 5)) (hv : ∀ w, (zeroValue 5).run P w = .ok (.int .u8 0) w) {w : World} {g cn : Nat} {f : Nat → Value} (q : Nat) (hr : w.rowIs g 5 cn f) (hq : q ≤ cn) :
    ∃ w', (Builtin.clear_ #[t] ty #[.slice (if cn = q then some ⟨g, 0, none⟩ else some ⟨g, q, none⟩) (cn - q) (cn - q)]).run P w = .ok (.tuple #[]) w' ∧ w'.rowIs g 5 cn (fun j => if j < q then f j else .int .u8 0) ∧ KeptIn g (g + 1) w w' := by
  by_cases e : cn = q
  · rw [if_pos e]
    subst e
    rw [Nat.sub_self]
    refine ⟨w, ?_, hr.congr (fun j hj => by rw [if_pos hj]), KeptIn.refl _ _ _⟩
    simp [Builtin.clear_, run_underlying hu]
  · rw [if_neg e]
    exact clear_row t ty hu hv q (cn - q) (cn - q) hr (by omega)

theorem step_copy_run {P : Program} {ops : Array Oper} {op : Oper} {a : Act} {w : World} {K : Act → World → Prop} {Q : Exit → Act → World → Prop} {E : Prop} (hgd : op.guard = none) (d s : Operand) (dT sT : TypeId)
    (ho : op.op = .call { callee := .builtin .copy, args := #[d, s], argTypes := #[dT, sT] }) (vd vs v : Value) (hd : a.eval d = vd) (hx : a.eval s = vs) (w' : World) (hrun : (Builtin.copy_ #[dT, sT] op.type #[vd, vs]).run P w = .ok v w')
    (h : K (a.put op.dst v) w') : if Region.wanted op (yielded ops a.tmps) = true then Oper.wp P op a w K Q else E := by
  have hw : Region.wanted op (yielded ops a.tmps) = true := by simp [Region.wanted, hgd]
  rw [if_pos hw]
  unfold Oper.wp
  simp [execOp, ho, resolve, invoke, builtin, hd, hx, hrun, Result.andThen]
  exact h

set_option maxRecDepth 20000 in
set_option maxHeartbeats 3200000 in
theorem implSB_any (b o c : Nat) (l : List Int) (at_ n : Int) (e : Option Addr) (d : Nat) (p : List Int) (w : World) (hl : CAt w b o l) (hc : l.length ≤ c) (he : BAt w e p) (hs : l.length ≤ 1048576) (hm : p.length ≤ 1048576) (a1 : -9223372036854775808 ≤ at_) (a2 : at_ ≤ 9223372036854775807) (n1 : -9223372036854775808 ≤ n) (n2 : n ≤ 9223372036854775807) :
    Calls Tryz.prog 65 #[.slice (some ⟨b, o, none⟩) l.length c, .int .i64 at_, .int .i64 n, .slice e p.length d] w fun e w' => ∃ v, e = .returned (.agg #[.int .i64 (spC l.length at_ n p.length), v]) ∧ OB w' v (spB l at_ n p) ∧ In w.heap.size w'.heap.size v ∧ Below w.heap.size w w' := by
  have B0 := below_new w (.cells #[.int .i64 0, .slice none 0 0] 107)
  have K0 := Hid.mk' (spliceFault_any (some ⟨b, o, none⟩) e l.length c p.length d at_ n (w.alloc (.cells #[.int .i64 0, .slice none 0 0] 107)) hs hm a1 a2 n1 n2)
  by_cases h0 : spC l.length at_ n p.length = 0
  · obtain ⟨h1, h2, h3, h4⟩ := spC_zero h0
    obtain ⟨i, rfl⟩ := Int.eq_ofNat_of_zero_le h1
    obtain ⟨j, rfl⟩ := Int.eq_ofNat_of_zero_le h2
    have E : Hid (spB l (i : Int) (j : Int) p = spl l i j p) := by unfold spB; rw [if_pos h0]; exact rfl
    rw [h0] at K0 ⊢
    have BB := Hid.mk' B0
    have hmk : (Instr.makeSlice 22 (.int .i64 240) (.int .i64 240)).run Tryz.prog (w.alloc (.cells #[.int .i64 0, .slice none 0 0] 107)) = .ok (.slice (some ⟨w.heap.size + 1, 0, none⟩) 240 240) ((w.alloc (.cells #[.int .i64 0, .slice none 0 0] 107)).alloc (.cells (madeCells #[.int .u8 0] 240) 5)) := by
      have := run_make_row' (P := Tryz.prog) 22 5 (.int .u8 0) 1 Tryz.underlying22 Tryz.info5 rfl .i64 .i64 240 (by omega) (by omega) (w.alloc (.cells #[.int .i64 0, .slice none 0 0] 107))
      simpa using this
    have B1 := B0.alloc (by simp) (.cells (madeCells #[.int .u8 0] 240) 5)
    have R1 := World.rowIs_made (w.alloc (.cells #[.int .i64 0, .slice none 0 0] 107)) (.int .u8 0) 240 5
    have z1 : (w.alloc (.cells #[.int .i64 0, .slice none 0 0] 107)).heap.size = w.heap.size + 1 := by simp
    rw [z1] at R1
    obtain ⟨k1, hm1⟩ : ∃ k, Nat.min l.length 240 = k := ⟨_, rfl⟩
    have km : k1 ≤ 240 := by rw [← hm1]; exact Nat.min_le_right _ _
    have kl : k1 ≤ l.length := by rw [← hm1]; exact Nat.min_le_left _ _
    have ki : i ≤ k1 := by rw [← hm1]; exact Nat.le_min.2 ⟨by omega, by omega⟩
    obtain ⟨w2, hcp1, R2, hk2⟩ := copy_min (P := Tryz.prog) 22 22 3 Tryz.underlying22 (by kernel_rfl) 0 240 240 R1 (some ⟨b, o, none⟩) c l k1 (hl.below B1).at hm1 (by omega)
    have B2 := B1.trans (hk2.below (by omega) (by simp; omega))
    obtain ⟨w3, hcp2, R3, hk3⟩ := copy_end (P := Tryz.prog) 22 22 3 Tryz.underlying22 (by kernel_rfl) i R2 e d p (he.below B2) (by omega)
    have B3 := B2.trans (hk3.below (by omega) (by have := R2.lt; omega))
    obtain ⟨w4, hcp3, R4, hk4⟩ := copy_end (P := Tryz.prog) 22 22 3 Tryz.underlying22 (by kernel_rfl) (i + p.length) R3.drew (if c = i + j then some ⟨b, o, none⟩ else some ⟨b, o + (i + j), none⟩) (c - (i + j)) (l.drop (i + j)) ((hl.rest hc (by omega)).below B3.drew) (by rw [List.length_drop]; omega)
    have B4 := B3.drew.trans (hk4.below (by omega) (by have := R3.drew.lt; omega))
    rw [List.length_drop] at hcp3 R4
    obtain ⟨w5, hcl, R5, hk5⟩ := clear_end (P := Tryz.prog) 22 0 Tryz.underlying22 (by intro w; rfl) (i + p.length + (l.length - (i + j))) R4 (by omega)
    have B5 := Hid.mk' (B4.trans (hk5.below (by omega) (by have := R4.lt; omega)))
    have R5 := Hid.mk' R5
    have hk4' : KeptIn (w.heap.size + 1) (w.heap.size + 1 + 1) w3 w4 := ⟨hk4.os, hk4.tape, hk4.output, hk4.size, hk4.block⟩
    have hkk := ((hk2.trans hk3).trans hk4').trans hk5
    have Q0 := rowK (rowB (rowQ2 w 107 (.int .i64 0) (.slice none 0 0)) (below_new _ (.cells (madeCells #[.int .u8 0] 240) 5))) hkk (.inl (by omega))
    obtain ⟨q0, q1, qlt⟩ := cellsQ2 Q0
    have qf : ∀ k, w5.frozen? ⟨w.heap.size, k, none⟩ = false := fun k => Q0.frozen k
    have FR : Hid (∀ k, k < i + p.length + (l.length - (i + j)) → (if k < i + p.length + (l.length - (i + j)) then (if i + p.length ≤ k ∧ k < i + p.length + (l.length - (i + j)) then bv (l.drop (i + j)) (k - (i + p.length)) else if i ≤ k ∧ k < i + p.length then bv p (k - i) else if 0 ≤ k ∧ k < 0 + k1 then bv l (k - 0) else .int .u8 0) else .int .u8 0) = bv (spl l i j p) k) := Hid.mk' (fun k hk => by
      have e1 : (l.take i).length = i := by rw [List.length_take]; omega
      rw [if_pos hk]
      unfold spl
      by_cases c1 : i + p.length ≤ k
      · rw [if_pos ⟨c1, hk⟩, bv_append_right _ _ _ (by rw [List.length_append, e1]; omega), List.length_append, e1]
      · rw [if_neg (by omega), bv_append_left _ _ _ (by rw [List.length_append, e1]; omega)]
        by_cases c2 : i ≤ k
        · rw [if_pos ⟨c2, by omega⟩, bv_append_right _ _ _ (by rw [e1]; omega), e1]
        · rw [if_neg (by omega), if_pos (by omega), bv_append_left _ _ _ (by rw [e1]; omega), Nat.sub_zero]
          simp [bv, show k < i from by omega])
    have SL : Hid ((spl l i j p).length = i + p.length + (l.length - (i + j))) := Hid.mk' (by rw [spl_len (by omega)]; omega)
    have g1 : i + p.length + (l.length - (i + j)) ≤ 240 := by omega
    obtain ⟨q, hq⟩ : ∃ q, q = i + p.length := ⟨_, rfl⟩
    obtain ⟨r, hr⟩ : ∃ r, r = i + j := ⟨_, rfl⟩
    rw [← hq, ← hr] at hcp3 hcl R5 FR SL g1
    obtain ⟨t, ht⟩ : ∃ t, t = q + (l.length - r) := ⟨_, rfl⟩
    rw [← ht] at hcl R5 FR SL g1
    have eq1 : (i : Int) + (p.length : Int) = (q : Int) := by omega
    have eq2 : (i : Int) + (j : Int) = (r : Int) := by omega
    have eq3 : (q : Int) + ((l.length - r : Nat) : Int) = (t : Int) := by omega
    have w1 : IntKind.i64.wrap ((i : Int) + (p.length : Int)) = (q : Int) := by rw [eq1, IntKind.wrap_i64]; omega
    have w2 : IntKind.i64.wrap ((i : Int) + (j : Int)) = (r : Int) := by rw [eq2, IntKind.wrap_i64]; omega
    have w3' : IntKind.i64.wrap ((q : Int) + ((l.length - r : Nat) : Int)) = (t : Int) := by rw [eq3, IntKind.wrap_i64]; omega
    have w4' : IntKind.i64.wrap (q : Int) = (q : Int) := by rw [IntKind.wrap_i64]; omega
    have w5' : IntKind.i64.wrap (r : Int) = (r : Int) := by rw [IntKind.wrap_i64]; omega
    have w6' : IntKind.i64.wrap (t : Int) = (t : Int) := by rw [IntKind.wrap_i64]; omega
    have i1 : (0 : Int) ≤ (q : Int) := by omega
    have i2 : (q : Int) ≤ 240 := by omega
    have i3 : (0 : Int) ≤ (r : Int) := by omega
    have i4 : (r : Int) ≤ (l.length : Int) := by omega
    have i5 : (r : Int) ≤ (c : Int) := by omega
    have i6 : (0 : Int) ≤ (t : Int) := by omega
    have i7 : (t : Int) ≤ 240 := by omega
    have b1 : q ≤ 240 := by omega
    have b2 : r ≤ l.length := by omega
    have b3 : r ≤ c := by omega
    have b4 : i ≤ 240 := by omega
    have F1 := Hid.mk' hq
    have F2 := Hid.mk' hr
    have F3 := Hid.mk' ht
    have R6 : Hid (OB w5 (.slice (some ⟨w.heap.size + 1, 0, none⟩) t 240) (spl l i j p)) := Hid.mk' (by
      rw [← SL.out]
      exact .inr ⟨w.heap.size + 1, 240, 240, _, rfl, by rw [SL.out]; omega, R5.out, by rw [SL.out]; omega, fun k hk => FR.out k (by rw [SL.out] at hk; exact hk)⟩)
    have R7 := R5.out.lt
    have R8 := B5.out.size
    clear hq hr ht h0 h1 h2 h3 h4 a1 a2 n1 n2 B0 B1 B2 B3 B4 R1 R2 R3 R4 hk2 hk3 hk4 hk4' hk5 hl he hkk Q0
    go_enter Tryz.func65, Tryz.ntmps65
    go_wp2_with fail
    refine K0.out.mono ?_
    rintro e w1 ⟨rfl, rfl⟩
    by_cases hi : i = 240
    · obtain rfl : p = [] := List.eq_nil_of_length_eq_zero (by omega)
      obtain rfl : q = 240 := by simp at eq1; omega
      have lr : l.length - r = 0 := by omega
      obtain rfl : t = 240 := by omega
      subst hi
      have eq2' : (240 : Int) + (j : Int) = (r : Int) := eq2
      have w2' : IntKind.i64.wrap ((240 : Int) + (j : Int)) = (r : Int) := w2
      clear eq1 eq2 w1 w2
      simp at hcp2
      simp [lr] at hcp3 hcl
      by_cases hcj : c = r
      · subst hcj
        simp at hcp3
        go_wp2
        go_region_held3 (fun _ => True) (simp [*])
          (refine step_copy_run rfl (.tmp 35) (.tmp 40) 22 22 rfl _ _ _ rfl rfl _ hcp3 ?_)
        go_wp2
        refine bodyPost_ret (v := .agg #[.int .i64 0, .slice (some ⟨w.heap.size + 1, 0, none⟩) 240 240]) (by simp [results, Tryz.results65, go_sem, *]) rfl ?_
        have hk := kept2 w5 w.heap.size 0 1 (.int .i64 0) (.slice (some ⟨w.heap.size + 1, 0, none⟩) 240 240)
        refine ⟨_, rfl, ?_, In.at (by omega) (by have := hk.size; omega), B5.out.trans (hk.below (Nat.le_refl _) (by omega))⟩
        rw [E.out]
        exact R6.out.kept (In.at (lo := w.heap.size + 1) (hi := w5.heap.size) (by omega) R7) hk (.inr (by omega))
      · rw [if_neg hcj] at hcp3
        go_wp2
        go_region_held3 (fun _ => True) (simp [*])
          (refine step_copy_run rfl (.tmp 35) (.tmp 40) 22 22 rfl _ _ _ rfl rfl _ hcp3 ?_)
        go_wp2
        refine bodyPost_ret (v := .agg #[.int .i64 0, .slice (some ⟨w.heap.size + 1, 0, none⟩) 240 240]) (by simp [results, Tryz.results65, go_sem, *]) rfl ?_
        have hk := kept2 w5 w.heap.size 0 1 (.int .i64 0) (.slice (some ⟨w.heap.size + 1, 0, none⟩) 240 240)
        refine ⟨_, rfl, ?_, In.at (by omega) (by have := hk.size; omega), B5.out.trans (hk.below (Nat.le_refl _) (by omega))⟩
        rw [E.out]
        exact R6.out.kept (In.at (lo := w.heap.size + 1) (hi := w5.heap.size) (by omega) R7) hk (.inr (by omega))
    · rw [if_neg (by omega)] at hcp2
      by_cases hq : q = 240
      · subst hq
        have lr : l.length - r = 0 := by omega
        obtain rfl : t = 240 := by omega
        simp [lr] at hcp3 hcl
        by_cases hcj : c = r
        · subst hcj
          simp at hcp3
          go_wp2
          go_region_held3 (fun _ => True) (simp [*])
            (refine step_copy_run rfl (.tmp 35) (.tmp 40) 22 22 rfl _ _ _ rfl rfl _ hcp3 ?_)
          go_wp2
          refine bodyPost_ret (v := .agg #[.int .i64 0, .slice (some ⟨w.heap.size + 1, 0, none⟩) 240 240]) (by simp [results, Tryz.results65, go_sem, *]) rfl ?_
          have hk := kept2 w5 w.heap.size 0 1 (.int .i64 0) (.slice (some ⟨w.heap.size + 1, 0, none⟩) 240 240)
          refine ⟨_, rfl, ?_, In.at (by omega) (by have := hk.size; omega), B5.out.trans (hk.below (Nat.le_refl _) (by omega))⟩
          rw [E.out]
          exact R6.out.kept (In.at (lo := w.heap.size + 1) (hi := w5.heap.size) (by omega) R7) hk (.inr (by omega))
        · rw [if_neg hcj] at hcp3
          go_wp2
          go_region_held3 (fun _ => True) (simp [*])
            (refine step_copy_run rfl (.tmp 35) (.tmp 40) 22 22 rfl _ _ _ rfl rfl _ hcp3 ?_)
          go_wp2
          refine bodyPost_ret (v := .agg #[.int .i64 0, .slice (some ⟨w.heap.size + 1, 0, none⟩) 240 240]) (by simp [results, Tryz.results65, go_sem, *]) rfl ?_
          have hk := kept2 w5 w.heap.size 0 1 (.int .i64 0) (.slice (some ⟨w.heap.size + 1, 0, none⟩) 240 240)
          refine ⟨_, rfl, ?_, In.at (by omega) (by have := hk.size; omega), B5.out.trans (hk.below (Nat.le_refl _) (by omega))⟩
          rw [E.out]
          exact R6.out.kept (In.at (lo := w.heap.size + 1) (hi := w5.heap.size) (by omega) R7) hk (.inr (by omega))
      · have hq' : ¬ 240 = q := by omega
        rw [if_neg hq'] at hcp3
        by_cases hcj : c = r
        · have lr : l.length - r = 0 := by omega
          obtain rfl : t = q := by omega
          subst hcj
          simp [lr] at hcp3
          rw [if_neg hq'] at hcl
          go_wp2
          go_region_held3 (fun _ => True) (simp [*])
            (refine step_copy_run rfl (.tmp 35) (.tmp 40) 22 22 rfl _ _ _ rfl rfl _ hcp3 ?_)
          go_wp2
          refine bodyPost_ret (v := .agg #[.int .i64 0, .slice (some ⟨w.heap.size + 1, 0, none⟩) t 240]) (by simp [results, Tryz.results65, go_sem, *]) rfl ?_
          have hk := kept2 w5 w.heap.size 0 1 (.int .i64 0) (.slice (some ⟨w.heap.size + 1, 0, none⟩) t 240)
          refine ⟨_, rfl, ?_, In.at (by omega) (by have := hk.size; omega), B5.out.trans (hk.below (Nat.le_refl _) (by omega))⟩
          rw [E.out]
          exact R6.out.kept (In.at (lo := w.heap.size + 1) (hi := w5.heap.size) (by omega) R7) hk (.inr (by omega))
        · rw [if_neg hcj] at hcp3
          by_cases hT : t = 240
          · subst hT
            simp at hcl
            go_wp2
            go_region_held3 (fun _ => True) (simp [*])
              (refine step_copy_run rfl (.tmp 35) (.tmp 40) 22 22 rfl _ _ _ rfl rfl _ hcp3 ?_)
            go_wp2
            refine bodyPost_ret (v := .agg #[.int .i64 0, .slice (some ⟨w.heap.size + 1, 0, none⟩) 240 240]) (by simp [results, Tryz.results65, go_sem, *]) rfl ?_
            have hk := kept2 w5 w.heap.size 0 1 (.int .i64 0) (.slice (some ⟨w.heap.size + 1, 0, none⟩) 240 240)
            refine ⟨_, rfl, ?_, In.at (by omega) (by have := hk.size; omega), B5.out.trans (hk.below (Nat.le_refl _) (by omega))⟩
            rw [E.out]
            exact R6.out.kept (In.at (lo := w.heap.size + 1) (hi := w5.heap.size) (by omega) R7) hk (.inr (by omega))
          · have hT' : ¬ 240 = t := by omega
            rw [if_neg hT'] at hcl
            go_wp2
            go_region_held3 (fun _ => True) (simp [*])
              (refine step_copy_run rfl (.tmp 35) (.tmp 40) 22 22 rfl _ _ _ rfl rfl _ hcp3 ?_)
            go_wp2
            refine bodyPost_ret (v := .agg #[.int .i64 0, .slice (some ⟨w.heap.size + 1, 0, none⟩) t 240]) (by simp [results, Tryz.results65, go_sem, *]) rfl ?_
            have hk := kept2 w5 w.heap.size 0 1 (.int .i64 0) (.slice (some ⟨w.heap.size + 1, 0, none⟩) t 240)
            refine ⟨_, rfl, ?_, In.at (by omega) (by have := hk.size; omega), B5.out.trans (hk.below (Nat.le_refl _) (by omega))⟩
            rw [E.out]
            exact R6.out.kept (In.at (lo := w.heap.size + 1) (hi := w5.heap.size) (by omega) R7) hk (.inr (by omega))
  · have E : Hid (spB l at_ n p = []) := by unfold spB; rw [if_neg h0]; exact rfl
    have BB := Hid.mk' B0
    clear B0 hl he
    generalize hz : spC l.length at_ n p.length = z at *
    clear hz
    go_enter Tryz.func65, Tryz.ntmps65
    go_wp2_with fail
    refine K0.out.mono ?_
    rintro e w1 ⟨rfl, rfl⟩
    go_wp2
    refine bodyPost_ret (v := .agg #[.int .i64 z, .slice none 0 0]) (by simp [results, Tryz.results65, go_sem, *]) rfl ?_
    refine ⟨_, rfl, ?_, In.nil _ _, below_new w _⟩
    rw [E.out]
    exact OB.none _

end Go.Proofs.YtdloogkjnjklcaaGreatDoor

namespace Go.Proofs.YtdloogkjnjklcaaGreatDoor
open Go.RowKit

def edC (m : ME) (A N : Int) (p : List Int) : Int := if memF m ≠ 0 then memF m else spC m.dt.length A N p.length

def rbV (m : ME) (A N : Int) (p : List Int) : Int := if edC m A N p = 0 then (m.dt.length : Int) - N + p.length - ((A.toNat / m.st.toNat * m.st.toNat : Nat) : Int) else 0

theorem edC_ok {m : ME} {A N : Int} {p : List Int} (h : edC m A N p = 0) : memF m = 0 ∧ spC m.dt.length A N p.length = 0 := by
  unfold edC at h
  split at h
  · rename_i h1; exact absurd h h1
  · rename_i h1; exact ⟨Classical.not_not.1 h1, h⟩

theorem boxesI (w : World) (x0 x1 x2 x3 x4 : Value) :
    let W := (w.alloc (.cells #[x0, x1, x2, x3, x4] 26)).alloc (.cells #[.int .i64 0, .int .i64 0] 47)
    Below w.heap.size w W ∧ W.rowIs w.heap.size 26 5 (r5 x0 x1 x2 x3 x4) ∧ W.rowIs (w.heap.size + 1) 47 2 (q2 (.int .i64 0) (.int .i64 0)) := by
  refine ⟨(below_new w _).alloc (by simp) _, (row5 w 26 x0 x1 x2 x3 x4).alloc _, ?_⟩
  have := rowQ2 (w.alloc (.cells #[x0, x1, x2, x3, x4] 26)) 47 (.int .i64 0) (.int .i64 0)
  rw [show (w.alloc (.cells #[x0, x1, x2, x3, x4] 26)).heap.size = w.heap.size + 1 by simp] at this
  exact this

theorem kept2Q (w' : World) (c : Nat) (v0 v1 : Value) : KeptIn c (c + 1) w' ((w'.setCell ⟨c, 0, none⟩ v0).setCell ⟨c, 1, none⟩ v1) :=
  ((KeptIn.refl c (c + 1) w').setCell (p := ⟨c, 0, none⟩) (by simp) (by simp) v0).setCell (p := ⟨c, 1, none⟩) (by simp) (by simp) v1

set_option maxRecDepth 100000 in
set_option maxHeartbeats 6400000 in
theorem l13Edit_any (g : Nat) (m : ME) (a t u c : Option Addr) (ca ct cu cc : Nat) (A N : Int) (e : Option Addr) (d : Nat) (p : List Int) (w : World) (hp : P1 g m a t u c ca ct cu cc w) (hub : Byt m.dt) (hm : (msz m : Int) ≤ 1048576) (hl : p.length ≤ 1048576) (a1 : -9223372036854775808 ≤ A) (a2 : A ≤ 9223372036854775807) (n1 : -9223372036854775808 ≤ N) (n2 : N ≤ 9223372036854775807) :
    Calls Tryz.prog 36 #[.pointer (some ⟨g, 0, none⟩), .int .i64 A, .int .i64 N, .slice e p.length d] w fun ev w' => ev = .returned (.int .i64 (edC m A N p)) ∧ Below w.heap.size w w' := by
  have MS_ : (msz m : Int) = m.dt.length + m.tk.length + tssz m.tk + m.hd.length + m.cs.length + csz m.cs := by unfold msz; omega
  have hdl : m.dt.length ≤ 1048576 := by omega
  have KF := Hid.mk' (l12Fault_any g m a t u c ca ct cu cc w hp hub hm)
  have HP := Hid.mk' hp
  clear hp MS_ hub
  go_enter Tryz.func36, Tryz.ntmps36
  go_wp2_with fail
  refine KF.out.mono ?_
  rintro e1 w1 ⟨rfl, hb1⟩
  have P1_ := Hid.mk' (HP.out.below hb1)
  have B1 := Hid.mk' hb1
  have KA := Hid.mk' (l13Asked_any m.dt.length A N e p.length d w1 hdl hl a1 a2 n1 n2)
  clear hb1 KF HP
  by_cases hf : memF m = 0
  · have E : Hid (edC m A N p = spC m.dt.length A N p.length) := Hid.mk' (by unfold edC; rw [if_neg (by rw [hf]; simp)])
    rw [hf]
    obtain ⟨x0, x1, x2, x3, x4, x5⟩ := cells5 P1_.out.r
    go_wp2_with fail
    refine KA.out.mono ?_
    rintro e2 w2 ⟨rfl, hw2⟩
    obtain rfl := hw2.symm
    clear hw2
    go_wp2
    go_ret
    exact ⟨by rw [E.out]; rfl, B1.out⟩
  · have E : Hid (edC m A N p = memF m) := Hid.mk' (by unfold edC; rw [if_pos hf])
    obtain ⟨F, hF⟩ : ∃ F, memF m = F := ⟨_, rfl⟩
    rw [hF] at E hf ⊢
    have hne : (F != 0) = true := by simp [hf]
    clear hF
    go_wp2
    go_ret
    exact ⟨by rw [E.out]; rfl, B1.out⟩

set_option maxRecDepth 100000 in
set_option maxHeartbeats 6400000 in
theorem specRB_any (m : ME) (a t u c : Option Addr) (ca ct cu cc : Nat) (A N : Int) (e : Option Addr) (d : Nat) (p : List Int) (w : World) (h1 : MAt w a t u c m) (hub : Byt m.dt) (hcb : ∀ k, k < m.cs.length → Byt (ckK m.cs k).hd) (hm : (msz m : Int) ≤ 1048576) (hl : p.length ≤ 1048576) (a1 : -9223372036854775808 ≤ A) (a2 : A ≤ 9223372036854775807) (n1 : -9223372036854775808 ≤ N) (n2 : N ≤ 9223372036854775807) :
    Calls Tryz.prog 21 #[.agg #[.slice a m.dt.length ca, .int .i64 m.st, .slice t m.tk.length ct, .slice u m.hd.length cu, .slice c m.cs.length cc], .int .i64 A, .int .i64 N, .slice e p.length d] w fun ev w' => ev = .returned (.agg #[.int .i64 (edC m A N p), .int .i64 (rbV m A N p)]) ∧ Below w.heap.size w w' := by
  have MS_ : (msz m : Int) = m.dt.length + m.tk.length + tssz m.tk + m.hd.length + m.cs.length + csz m.cs := by unfold msz; omega
  obtain ⟨B0, R1, R2⟩ := boxesI w (.slice a m.dt.length ca) (.int .i64 m.st) (.slice t m.tk.length ct) (.slice u m.hd.length cu) (.slice c m.cs.length cc)
  have KF := Hid.mk' (l13Edit_any w.heap.size m a t u c ca ct cu cc A N e d p _ ⟨R1, h1.below B0⟩ hub hm hl a1 a2 n1 n2)
  have HO := Hid.mk' h1
  have HB := Hid.mk' B0
  have H1 := Hid.mk' R1
  have H2 := Hid.mk' R2
  have HU := Hid.mk' hub
  have HC := Hid.mk' hcb
  have hdl : (m.dt.length : Int) ≤ 1048576 := by omega
  have hcl : (m.cs.length : Int) ≤ 1048576 := by omega
  clear MS_ B0 R1 R2 h1 hub hcb hm
  generalize hW : (w.alloc (.cells #[.slice a m.dt.length ca, .int .i64 m.st, .slice t m.tk.length ct, .slice u m.hd.length cu, .slice c m.cs.length cc] 26)).alloc (.cells #[.int .i64 0, .int .i64 0] 47) = W at *
  go_enter Tryz.func21, Tryz.ntmps21
  go_wp2_with fail
  clear hW
  refine KF.out.mono ?_
  rintro e1 w1 ⟨rfl, hb1⟩
  have HZ := Hid.mk' (rowB H2.out hb1)
  have HM := Hid.mk' (rowB H1.out hb1)
  have B1 := Hid.mk' (HB.out.trans (hb1.mono HB.out.size))
  clear hb1 KF H1 H2
  by_cases hf : edC m A N p = 0
  rotate_left
  · have EV : Hid (rbV m A N p = 0) := Hid.mk' (by unfold rbV; rw [if_neg hf])
    obtain ⟨F, hF⟩ : ∃ F, edC m A N p = F := ⟨_, rfl⟩
    rw [hF] at hf ⊢
    have EC := Hid.mk' hF
    clear hF
    have hne : (F != 0) = true := by simp [hf]
    have RZ := HZ.out
    obtain ⟨y0, y1, y4⟩ := cellsQ2 RZ
    obtain ⟨f0, f1⟩ := frzQ2 RZ
    clear RZ
    go_wp2
    refine bodyPost_ret (v := .agg #[.int .i64 F, .int .i64 0]) (by simp [results, Tryz.results21, go_sem, *]) rfl ?_
    exact ⟨by rw [EV.out, EC.out], B1.out.trans ((kept2Q _ _ _ _).below (Nat.le_succ _) B1.out.size)⟩
  obtain ⟨hf1, hf2⟩ := edC_ok hf
  obtain ⟨g1, g2, g3, g4⟩ := spC_zero hf2
  obtain ⟨i, rfl⟩ : ∃ i : Nat, A = (i : Int) := ⟨A.toNat, by omega⟩
  obtain ⟨j, rfl⟩ : ∃ j : Nat, N = (j : Int) := ⟨N.toNat, by omega⟩
  obtain ⟨h240, s, hst, hs, hs2, hsame⟩ := memF_ok hf1
  obtain ⟨ecl, eck⟩ := right_checks HU.out HC.out hsame
  have hn : i ≤ m.dt.length := by omega
  have hKJ : i / s < m.dt.length / s + 1 := Nat.lt_succ_of_le (Nat.div_le_div_right hn)
  have hq0 : (i : Int) / (s : Int) = ((i / s : Nat) : Int) := by simp
  have hq1 : i / s ≤ i := Nat.div_le_self _ _
  have EV : Hid (rbV m (i : Int) (j : Int) p = (m.dt.length : Int) - j + p.length - ((i / s * s : Nat) : Int)) := Hid.mk' (by
    unfold rbV
    rw [if_pos hf, hst]
    simp)
  have EC : Hid (edC m (i : Int) (j : Int) p = 0) := Hid.mk' hf
  have ek := eck (i / s) hKJ
  rcases HO.out.2.2.2 with hnil | ⟨b9, o9, rfl, hbs9, hc9⟩
  · rw [hnil] at ecl; simp at ecl
  obtain ⟨p1, p2_, pq, pc, p3, p4⟩ := hc9 (i / s) (by omega)
  rw [ek] at p1
  have c1 : w1.cell? ⟨b9, o9 + i / s * 3, none⟩ = some (.int .i64 ((i / s * s : Nat) : Int)) := (B1.out.cell hbs9).trans p1
  obtain ⟨x0, x1, x2, x3, x4, x5⟩ := cells5 HM.out
  rw [hst] at x1
  have ck : ((i / s : Nat) : Int) < (m.cs.length : Int) := by omega
  have hs0 : ¬ s = 0 := by omega
  have hqs : i / s * s ≤ i := Nat.div_mul_le_self _ _
  rw [hf]
  obtain ⟨K, hK⟩ : ∃ K, i / s = K := ⟨_, rfl⟩
  rw [hK] at hq0 hq1 c1 ck EV hqs
  obtain ⟨Q, hQ⟩ : ∃ Q, K * s = Q := ⟨_, rfl⟩
  rw [hQ] at c1 EV hqs
  have hwK : IntKind.i64.wrap (K : Int) = (K : Int) := by rw [IntKind.wrap_i64]; omega
  have wA : IntKind.i64.wrap ((m.dt.length : Int) - (j : Int)) = (m.dt.length : Int) - (j : Int) := by rw [IntKind.wrap_i64]; omega
  have wB : IntKind.i64.wrap ((m.dt.length : Int) - (j : Int) + (p.length : Int)) = (m.dt.length : Int) - (j : Int) + (p.length : Int) := by rw [IntKind.wrap_i64]; omega
  have wC : IntKind.i64.wrap ((m.dt.length : Int) - (j : Int) + (p.length : Int) - (Q : Int)) = (m.dt.length : Int) - (j : Int) + (p.length : Int) - (Q : Int) := by rw [IntKind.wrap_i64]; omega
  have lb9 : b9 < w1.heap.size := by have := B1.out.size; omega
  have S1 := B1.out.size
  clear ecl eck hKJ ek hc9 hst hs hs2 h240 hsame hK hQ hf hf1 hf2 p1 p2_ p3 p4 a1 a2 n1 n2 HU HC
  have RZ := HZ.out
  obtain ⟨y0, y1, y4⟩ := cellsQ2 RZ
  obtain ⟨f0, f1⟩ := frzQ2 RZ
  clear RZ
  go_wp2
  have K2 := keptIn_drew (kept2Q w1 (w.heap.size + 1) (.int .i64 0) (.int .i64 ((m.dt.length : Int) - (j : Int) + (p.length : Int) - (Q : Int))))
  refine wp_region_held_drew (S := (fun v => v.cell? ⟨w.heap.size, 0, none⟩ = some (.slice a m.dt.length ca) ∧ v.cell? ⟨w.heap.size, 1, none⟩ = some (.int .i64 (s : Int)) ∧ v.cell? ⟨w.heap.size, 4, none⟩ = some (.slice (some ⟨b9, o9, none⟩) m.cs.length cc) ∧ v.cell? ⟨b9, o9 + K * 3, none⟩ = some (.int .i64 (Q : Int)))) (by kernel_rfl) ⟨x0, x1, x4, c1⟩ (fun hHeld => ?_)
  refine wpAnyH_take (i := 0) (oi := ⟨_, _, _, _, _, _⟩) (v := ?_) rfl (by kernel_rfl) (by kernel_rfl) (by kernel_rfl) (fun _ _ _ h => h) (Or.inl ⟨by rfl, ?_⟩) (by assumption) ?_
  rotate_left
  · (intro w hSw; (try dsimp only at hSw); go_simp; (try with_reducible rfl))
  try simp only [Act.put, zA, zB, zC]
  refine wpAnyH_take (i := 1) (oi := ⟨_, _, _, _, _, _⟩) (v := ?_) rfl (by kernel_rfl) (by kernel_rfl) (by kernel_rfl) (fun _ _ _ h => h) (Or.inl ⟨by rfl, ?_⟩) (by assumption) ?_
  rotate_left
  · (intro w hSw; (try dsimp only at hSw); go_simp; (try with_reducible rfl))
  try simp only [Act.put, zA, zB, zC]
  refine wpAnyH_take (i := 2) (oi := ⟨_, _, _, _, _, _⟩) (v := ?_) rfl (by kernel_rfl) (by kernel_rfl) (by kernel_rfl) (fun _ _ _ h => h) (Or.inl ⟨by rfl, ?_⟩) (by assumption) ?_
  rotate_left
  · (intro w hSw; (try dsimp only at hSw); go_simp; (try with_reducible rfl))
  try simp only [Act.put, zA, zB, zC]
  refine wpAnyH_take (i := 3) (oi := ⟨_, _, _, _, _, _⟩) (v := ?_) rfl (by kernel_rfl) (by kernel_rfl) (by kernel_rfl) (fun _ _ _ h => h) (Or.inl ⟨by rfl, ?_⟩) (by assumption) ?_
  rotate_left
  · (intro w hSw; (try dsimp only at hSw); go_simp; (try with_reducible rfl))
  try simp only [Act.put, zA, zB, zC]
  refine wpAnyH_take (i := 4) (oi := ⟨_, _, _, _, _, _⟩) (v := ?_) rfl (by kernel_rfl) (by kernel_rfl) (by kernel_rfl) (fun _ _ _ h => h) (Or.inl ⟨by rfl, ?_⟩) (by assumption) ?_
  rotate_left
  · (intro w hSw; (try dsimp only at hSw); go_simp; (try with_reducible rfl))
  try simp only [Act.put, zA, zB, zC]
  refine wpAnyH_take (i := 5) (oi := ⟨_, _, _, _, _, _⟩) (v := ?_) rfl (by kernel_rfl) (by kernel_rfl) (by kernel_rfl) (fun _ _ _ h => h) (Or.inl ⟨by rfl, ?_⟩) (by assumption) ?_
  rotate_left
  · (intro w hSw; (try dsimp only at hSw); go_simp; (try with_reducible rfl))
  try simp only [Act.put, zA, zB, zC]
  refine wpAnyH_take (i := 6) (oi := ⟨_, _, _, _, _, _⟩) (v := ?_) rfl (by kernel_rfl) (by kernel_rfl) (by kernel_rfl) (fun _ _ _ h => h) (Or.inl ⟨by rfl, ?_⟩) (by assumption) ?_
  rotate_left
  · (intro w hSw; (try dsimp only at hSw); go_simp; (try with_reducible rfl))
  try simp only [Act.put, zA, zB, zC]
  refine wpAnyH_take (i := 7) (oi := ⟨_, _, _, _, _, _⟩) (v := ?_) rfl (by kernel_rfl) (by kernel_rfl) (by kernel_rfl) (fun _ _ _ h => h) (Or.inl ⟨by rfl, ?_⟩) (by assumption) ?_
  rotate_left
  · (intro w hSw; (try dsimp only at hSw); go_simp; (try with_reducible rfl))
  try simp only [Act.put, zA, zB, zC]
  refine wpAnyH_take (i := 8) (oi := ⟨_, _, _, _, _, _⟩) (v := ?_) rfl (by kernel_rfl) (by kernel_rfl) (by kernel_rfl) (fun _ _ _ h => h) (Or.inl ⟨by rfl, ?_⟩) (by assumption) ?_
  rotate_left
  · (intro w hSw; (try dsimp only at hSw); go_simp; (try with_reducible rfl))
  try simp only [Act.put, zA, zB, zC]
  refine wpAnyH_take (i := 9) (oi := ⟨_, _, _, _, _, _⟩) (v := ?_) rfl (by kernel_rfl) (by kernel_rfl) (by kernel_rfl) (fun _ _ _ h => h) (Or.inl ⟨by rfl, ?_⟩) (by assumption) ?_
  rotate_left
  · (intro w hSw; (try dsimp only at hSw); go_simp; (try with_reducible rfl))
  try simp only [Act.put, zA, zB, zC]
  refine wpAnyH_take (i := 10) (oi := ⟨_, _, _, _, _, _⟩) (v := ?_) rfl (by kernel_rfl) (by kernel_rfl) (by kernel_rfl) (fun _ _ _ h => h) (Or.inl ⟨by rfl, ?_⟩) (by assumption) ?_
  rotate_left
  · (intro w hSw; (try dsimp only at hSw); go_simp; (try with_reducible rfl))
  try simp only [Act.put, zA, zB, zC]
  refine wpAnyH_take (i := 11) (oi := ⟨_, _, _, _, _, _⟩) (v := ?_) rfl (by kernel_rfl) (by kernel_rfl) (by kernel_rfl) (fun _ _ _ h => h) (Or.inl ⟨by rfl, ?_⟩) (by assumption) ?_
  rotate_left
  · (intro w hSw; (try dsimp only at hSw); go_simp; (try with_reducible rfl))
  try simp only [Act.put, zA, zB, zC]
  refine wpAnyH_take (i := 12) (oi := ⟨_, _, _, _, _, _⟩) (v := ?_) rfl (by kernel_rfl) (by kernel_rfl) (by kernel_rfl) (fun _ _ _ h => h) (Or.inl ⟨by rfl, ?_⟩) (by assumption) ?_
  rotate_left
  · (intro w hSw; (try dsimp only at hSw); go_simp; (try with_reducible rfl))
  try simp only [Act.put, zA, zB, zC]
  refine wpAnyH_take (i := 13) (oi := ⟨_, _, _, _, _, _⟩) (v := ?_) rfl (by kernel_rfl) (by kernel_rfl) (by kernel_rfl) (fun _ _ _ h => h) (Or.inl ⟨by rfl, ?_⟩) (by assumption) ?_
  rotate_left
  · (intro w hSw; (try dsimp only at hSw); go_simp; (try with_reducible rfl))
  try simp only [Act.put, zA, zB, zC]
  refine wpAnyH_take (i := 14) (oi := ⟨_, _, _, _, _, _⟩) (v := ?_) rfl (by kernel_rfl) (by kernel_rfl) (by kernel_rfl) (fun _ _ _ h => h) (Or.inl ⟨by rfl, ?_⟩) (by assumption) ?_
  rotate_left
  · (intro w hSw; (try dsimp only at hSw); go_simp; (try with_reducible rfl))
  try simp only [Act.put, zA, zB, zC]
  refine wpAnyH_take (i := 15) (oi := ⟨_, _, _, _, _, _⟩) (v := ?_) rfl (by kernel_rfl) (by kernel_rfl) (by kernel_rfl) (fun _ _ _ h => h) (Or.inl ⟨by rfl, ?_⟩) (by assumption) ?_
  rotate_left
  · (intro w hSw; (try dsimp only at hSw); go_simp; (try with_reducible rfl))
  try simp only [Act.put, zA, zB, zC]
  refine wpAnyH_take (i := 16) (oi := ⟨_, _, _, _, _, _⟩) (v := ?_) rfl (by kernel_rfl) (by kernel_rfl) (by kernel_rfl) (fun _ _ _ h => h) (Or.inl ⟨by rfl, ?_⟩) (by assumption) ?_
  rotate_left
  · (intro w hSw; (try dsimp only at hSw); go_simp; (try with_reducible rfl))
  try simp only [Act.put, zA, zB, zC]
  refine wpAnyH_take (i := 17) (oi := ⟨_, _, _, _, _, _⟩) (v := ?_) rfl (by kernel_rfl) (by kernel_rfl) (by kernel_rfl) (fun _ _ _ h => h) (Or.inl ⟨by rfl, ?_⟩) (by assumption) ?_
  rotate_left
  · (intro w hSw; (try dsimp only at hSw); go_simp; (try with_reducible rfl))
  try simp only [Act.put, zA, zB, zC]
  refine wpAnyH_take (i := 18) (oi := ⟨_, _, _, _, _, _⟩) (v := ?_) rfl (by kernel_rfl) (by kernel_rfl) (by kernel_rfl) (fun _ _ _ h => h) (Or.inl ⟨by rfl, ?_⟩) (by assumption) ?_
  rotate_left
  · (intro w hSw; (try dsimp only at hSw); go_simp; (try with_reducible rfl))
  try simp only [Act.put, zA, zB, zC]
  refine wpAnyH_ready (rs := [19]) (by kernel_rfl) (by simp) ?_
  refine AllReadyH.cons (o := ⟨_, _, _, _, _, _⟩) rfl (fun K hK => ?_) AllReadyH.nil
  go_simp
  refine hK.out _ _ ⟨(keptIn_cell K2 _ _ x5 (.inl (by omega))).trans x0, (keptIn_cell K2 _ _ x5 (.inl (by omega))).trans x1, (keptIn_cell K2 _ _ x5 (.inl (by omega))).trans x4, (keptIn_cell K2 _ _ lb9 (.inl (by omega))).trans c1⟩ (fun hHeld => ?_)
  clear hK K
  try simp only [Act.put, zA, zB, zC]
  refine wpAnyH_done (by kernel_rfl) ?_ _
  clear hHeld
  go_wp2
  refine bodyPost_ret (v := .agg #[.int .i64 0, .int .i64 ((m.dt.length : Int) - (j : Int) + (p.length : Int) - (Q : Int))]) (by simp [results, Tryz.results21, go_sem, *]) rfl ?_
  exact ⟨by rw [EC.out, EV.out], B1.out.trans (K2.below (Nat.le_succ _) S1)⟩

end Go.Proofs.YtdloogkjnjklcaaGreatDoor
