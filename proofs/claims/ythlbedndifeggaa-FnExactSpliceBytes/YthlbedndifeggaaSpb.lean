/- Bytes spliced: the model and the program. -/
import Derived.Test.YthlbedndifeggaaSpa
namespace Go.Proofs.Ythlbedndifeggaa
open Go.RowKit
set_option linter.unusedVariables false
set_option linter.unusedSimpArgs false

theorem l1InS_any (v lo hi : Int) (w : World) : Calls Try.prog 16 #[.int .i64 v, .int .i64 lo, .int .i64 hi] w fun e w' => e = .returned (.bool (decide (lo ≤ v) && decide (v ≤ hi))) ∧ w' = w := by
  by_cases h1 : lo ≤ v
  · by_cases h2 : v ≤ hi
    · go_enter Try.func16, Try.ntmps16
      go_wp2
      go_ret
      exact ⟨by simp [h1, h2], rfl⟩
    · go_enter Try.func16, Try.ntmps16
      go_wp2
      go_ret
      exact ⟨by simp; omega, rfl⟩
  · go_enter Try.func16, Try.ntmps16
    go_wp2
    go_ret
    exact ⟨by simp; omega, rfl⟩

set_option maxHeartbeats 1600000 in
theorem l13Asked_any (s : Nat) (at_ n : Int) (a : Option Addr) (m c : Nat) (w : World) (hs : s ≤ 1048576) (hm : m ≤ 1048576) (a1 : -9223372036854775808 ≤ at_) (a2 : at_ ≤ 9223372036854775807) (n1 : -9223372036854775808 ≤ n) (n2 : n ≤ 9223372036854775807) :
    Calls Try.prog 12 #[.int .i64 (s : Int), .int .i64 at_, .int .i64 n, .slice a m c] w fun e w' => e = .returned (.int .i64 (spC s at_ n m)) ∧ w' = w := by
  by_cases h1 : 0 ≤ at_ ∧ at_ ≤ s
  · have K1 := l1InS_any at_ 0 s w
    have K2 := l1InS_any n 0 ((s : Int) - at_) w
    rw [show (decide (0 ≤ at_) && decide (at_ ≤ (s : Int))) = true by simp [h1]] at K1
    have K1 := Hid.mk' K1
    obtain ⟨h1, h1'⟩ := h1
    by_cases h2 : 0 ≤ n ∧ n ≤ s - at_
    · rw [show (decide (0 ≤ n) && decide (n ≤ (s : Int) - at_)) = true by simp [h2]] at K2
      have K2 := Hid.mk' K2
      obtain ⟨h2, h2'⟩ := h2
      by_cases h3 : 240 < (s : Int) - n + m
      · have E : Hid (spC s at_ n m = 6) := by unfold spC; rw [if_neg (by omega), if_pos h3]; exact rfl
        go_enter Try.func12, Try.ntmps12
        go_wp2_with (first | (go_at_call 16; with_reducible refine K1.out.mono ?_; rintro e w1 ⟨rfl, rfl⟩) | (go_at_call 16; with_reducible refine K2.out.mono ?_; rintro e w1 ⟨rfl, rfl⟩))
        go_ret
        exact ⟨by rw [E.out]; rfl, rfl⟩
      · have E : Hid (spC s at_ n m = 0) := by unfold spC; rw [if_neg (by omega), if_neg h3]; exact rfl
        go_enter Try.func12, Try.ntmps12
        go_wp2_with (first | (go_at_call 16; with_reducible refine K1.out.mono ?_; rintro e w1 ⟨rfl, rfl⟩) | (go_at_call 16; with_reducible refine K2.out.mono ?_; rintro e w1 ⟨rfl, rfl⟩))
        go_ret
        exact ⟨by rw [E.out]; rfl, rfl⟩
    · rw [show (decide (0 ≤ n) && decide (n ≤ (s : Int) - at_)) = false by simp; omega] at K2
      have K2 := Hid.mk' K2
      have E : Hid (spC s at_ n m = 3) := by unfold spC; rw [if_pos (by omega)]; exact rfl
      clear h2
      go_enter Try.func12, Try.ntmps12
      go_wp2_with (first | (go_at_call 16; with_reducible refine K1.out.mono ?_; rintro e w1 ⟨rfl, rfl⟩) | (go_at_call 16; with_reducible refine K2.out.mono ?_; rintro e w1 ⟨rfl, rfl⟩))
      go_ret
      exact ⟨by rw [E.out]; rfl, rfl⟩
  · have K1 := l1InS_any at_ 0 s w
    rw [show (decide (0 ≤ at_) && decide (at_ ≤ (s : Int))) = false by simp; omega] at K1
    have K1 := Hid.mk' K1
    have E : Hid (spC s at_ n m = 3) := by unfold spC; rw [if_pos (by omega)]; exact rfl
    clear h1
    go_enter Try.func12, Try.ntmps12
    go_wp2_with (go_at_call 16; with_reducible refine K1.out.mono ?_; rintro e w1 ⟨rfl, rfl⟩)
    go_ret
    exact ⟨by rw [E.out]; rfl, rfl⟩

set_option maxHeartbeats 1600000 in
theorem spliceFault_any (a b : Option Addr) (s c m d : Nat) (at_ n : Int) (w : World) (hs : s ≤ 1048576) (hm : m ≤ 1048576) (a1 : -9223372036854775808 ≤ at_) (a2 : at_ ≤ 9223372036854775807) (n1 : -9223372036854775808 ≤ n) (n2 : n ≤ 9223372036854775807) :
    Calls Try.prog 14 #[.slice a s c, .int .i64 at_, .int .i64 n, .slice b m d] w fun e w' => e = .returned (.int .i64 (spC s at_ n m)) ∧ w' = w := by
  by_cases h1 : at_ < 0
  · have E : Hid (spC s at_ n m = 3) := by unfold spC; rw [if_pos (by omega)]; exact rfl
    go_enter Try.func14, Try.ntmps14
    go_wp2
    go_ret
    exact ⟨by rw [E.out]; rfl, rfl⟩
  · by_cases h2 : n < 0
    · have E : Hid (spC s at_ n m = 3) := by unfold spC; rw [if_pos (by omega)]; exact rfl
      go_enter Try.func14, Try.ntmps14
      go_wp2
      go_ret
      exact ⟨by rw [E.out]; rfl, rfl⟩
    · by_cases h3 : (s : Int) - at_ < n
      · have E : Hid (spC s at_ n m = 3) := by unfold spC; rw [if_pos (by omega)]; exact rfl
        go_enter Try.func14, Try.ntmps14
        go_wp2
        go_ret
        exact ⟨by rw [E.out]; rfl, rfl⟩
      · by_cases h4 : 240 - ((s : Int) - n) < m
        · have E : Hid (spC s at_ n m = 6) := by unfold spC; rw [if_neg (by omega), if_pos (by omega)]; exact rfl
          go_enter Try.func14, Try.ntmps14
          go_wp2
          go_ret
          exact ⟨by rw [E.out]; rfl, rfl⟩
        · have E : Hid (spC s at_ n m = 0) := by unfold spC; rw [if_neg (by omega), if_neg (by omega)]; exact rfl
          go_enter Try.func14, Try.ntmps14
          go_wp2
          go_ret
          exact ⟨by rw [E.out]; rfl, rfl⟩

/-- The end of bytes, where a slice from there on says it lies. -/
theorem CAt.rest {w : World} {b o c f : Nat} {l : List Int} (h : CAt w b o l) (hc : l.length ≤ c) (hf : f ≤ l.length) : BAt w (if c = f then some ⟨b, o, none⟩ else some ⟨b, o + f, none⟩) (l.drop f) := by
  by_cases e : c = f
  · exact .inl (List.drop_eq_nil_of_le (by omega))
  · rw [if_neg e]; exact (h.tail hf).at

set_option maxHeartbeats 1600000 in
theorem l13Splice_any (b o c : Nat) (l : List Int) (at_ n : Nat) (e : Option Addr) (d : Nat) (p : List Int) (w : World) (hl : CAt w b o l) (hc : l.length ≤ c) (he : BAt w e p) (hs : l.length ≤ 1048576) (hm : p.length ≤ 1048576) (hat : at_ + n ≤ l.length) :
    Calls Try.prog 13 #[.slice (some ⟨b, o, none⟩) l.length c, .int .i64 (at_ : Int), .int .i64 (n : Int), .slice e p.length d] w fun e w' => ∃ v, e = .returned v ∧ w'.ownsRow w.heap.size 5 1 v (spl l at_ n p).length (bcs (spl l at_ n p)) ∧ Below w.heap.size w w' := by
  have e1 : (l.take at_).length = at_ := by rw [List.length_take]; omega
  have e2 : (l.drop (at_ + n)).length = l.length - (at_ + n) := by rw [List.length_drop]
  have K := l1Copy_own (some ⟨b, o, none⟩) c (l.take at_) w (hl.head (by omega)).at (by omega)
  rw [e1] at K
  have K := Hid.mk' K
  have z2 : (bcs (l.drop (at_ + n))).length = (l.length - (at_ + n)) * 1 := by rw [bcs_len, e2]
  have R := Hid.mk' (hl.rest hc hat)
  have E : Hid ((spl l at_ n p).length = at_ + p.length + (l.length - (at_ + n))) := Hid.mk' (by rw [spl_len hat]; omega)
  have HE := Hid.mk' he
  clear hl he e1
  go_enter Try.func13, Try.ntmps13
  go_wp2_with (first
    | (go_at_call 17; refine K.out.mono ?_; rintro e w1 ⟨v, rfl, ho1, hb1⟩)
    | (at_builtin; refine wpList_append_any _ rfl (.tmp 13) (.tmp 14) 22 rfl w.heap.size 5 (.int .u8 0) 1 1 Try.underlying22 Try.info5 rfl (by decide) _ at_ _ rfl ho1 e p.length d (bcs p) rfl (bcs_len p) (HE.out.below hb1).src (bcs_one p) (by unfold maxLen; omega) (by omega) hb1.size ?_; intro v2 w2 ho2 hg2; have hb2 := hb1.grown hg2 hb1.size (fun k hk => own_lo ho1 k hk))
    | (at_builtin; refine wpList_append_any _ rfl (.tmp 16) (.tmp 21) 22 rfl w.heap.size 5 (.int .u8 0) 1 1 Try.underlying22 Try.info5 rfl (by decide) _ (at_ + p.length) _ rfl ho2 (if c = at_ + n then some ⟨b, o, none⟩ else some ⟨b, o + (at_ + n), none⟩) (l.length - (at_ + n)) (c - (at_ + n)) (bcs (l.drop (at_ + n))) rfl z2 (by have := (R.out.below hb2).src; rwa [e2] at this) (bcs_one _) (by unfold maxLen; omega) (by omega) hb2.size ?_; intro v3 w3 ho3 hg3; have hb3 := hb2.grown hg3 hb2.size (fun k hk => own_lo ho2 k hk)))
  all_goals
    go_ret
    rw [← E.out, ← bcs_append, ← bcs_append] at ho3
    exact ⟨_, rfl, ho3, hb3⟩

/-- The code and the bytes of a splice. -/
def spB (l : List Int) (at_ n : Int) (p : List Int) : List Int := if spC l.length at_ n p.length = 0 then spl l at_.toNat n.toNat p else []

theorem spB_len (l : List Int) (at_ n : Int) (p : List Int) : (spB l at_ n p).length ≤ 240 := by
  unfold spB
  split
  · rename_i h
    obtain ⟨h1, h2, h3, h4⟩ := spC_zero h
    rw [spl_len (by omega)]
    omega
  · simp

set_option maxHeartbeats 1600000 in
theorem specSB_any (b o c : Nat) (l : List Int) (at_ n : Int) (e : Option Addr) (d : Nat) (p : List Int) (w : World) (hl : CAt w b o l) (hc : l.length ≤ c) (he : BAt w e p) (hs : l.length ≤ 1048576) (hm : p.length ≤ 1048576) (a1 : -9223372036854775808 ≤ at_) (a2 : at_ ≤ 9223372036854775807) (n1 : -9223372036854775808 ≤ n) (n2 : n ≤ 9223372036854775807) :
    Calls Try.prog 4 #[.slice (some ⟨b, o, none⟩) l.length c, .int .i64 at_, .int .i64 n, .slice e p.length d] w fun e w' => ∃ v, e = .returned (.agg #[.int .i64 (spC l.length at_ n p.length), v]) ∧ OB w' v (spB l at_ n p) ∧ In w.heap.size w'.heap.size v ∧ Below w.heap.size w w' := by
  have B0 := below_new w (.cells #[.int .i64 0, .slice none 0 0] 24)
  have K0 := Hid.mk' (l13Asked_any l.length at_ n e p.length d (w.alloc (.cells #[.int .i64 0, .slice none 0 0] 24)) hs hm a1 a2 n1 n2)
  by_cases h0 : spC l.length at_ n p.length = 0
  · obtain ⟨h1, h2, h3, h4⟩ := spC_zero h0
    obtain ⟨i, rfl⟩ := Int.eq_ofNat_of_zero_le h1
    obtain ⟨j, rfl⟩ := Int.eq_ofNat_of_zero_le h2
    have K1 := Hid.mk' (l13Splice_any b o c l i j e d p _ (hl.below B0) hc (he.below B0) hs hm (by omega))
    have E : Hid (spB l (i : Int) (j : Int) p = spl l i j p) := by unfold spB; rw [if_pos h0]; exact rfl
    rw [h0] at K0 ⊢
    have BB := Hid.mk' B0
    clear B0 hl he h0 h1 h2 a1 a2 n1 n2
    go_enter Try.func4, Try.ntmps4
    go_wp2_with fail
    refine K0.out.mono ?_
    rintro e w1 ⟨rfl, rfl⟩
    go_wp2_with fail
    refine K1.out.mono ?_
    rintro e w2 ⟨v2, rfl, ho2, hb2⟩
    obtain ⟨o2, lo2⟩ := OB.of_own ho2
    obtain ⟨va, vc, rfl, _⟩ := o2.len
    have O2 := Hid.mk' o2
    have L2 := Hid.mk' lo2
    have B2 := Hid.mk' (BB.out.trans (hb2.mono BB.out.size))
    obtain ⟨hc2, hf2⟩ := bcell hb2
    simp at hc2 hf2
    have y2 := hb2.size
    simp at y2
    have y3 : w.heap.size < w2.heap.size := by omega
    clear K0 K1 hb2 ho2 o2 lo2
    go_wp2
    refine bodyPost_ret (v := .agg #[.int .i64 0, .slice va (spl l i j p).length vc]) (by simp [results, Try.results4, go_sem, *]) rfl ?_
    have hk := kept2 w2 w.heap.size 0 1 (.int .i64 0) (.slice va (spl l i j p).length vc)
    have I2 : In (w.heap.size + 1) w2.heap.size (.slice va (spl l i j p).length vc) := fun k hk => ⟨by have := L2.out k hk; simpa using this, O2.out.lt k hk⟩
    refine ⟨_, rfl, ?_, I2.mono (by omega) hk.size, B2.out.trans (hk.below (by omega) (by omega))⟩
    rw [E.out]
    exact O2.out.kept I2 hk (.inr (by omega))
  · have E : Hid (spB l at_ n p = []) := by unfold spB; rw [if_neg h0]; exact rfl
    have BB := Hid.mk' B0
    clear B0 hl he
    generalize hz : spC l.length at_ n p.length = z at *
    clear hz
    go_enter Try.func4, Try.ntmps4
    go_wp2_with fail
    refine K0.out.mono ?_
    rintro e w1 ⟨rfl, rfl⟩
    go_wp2
    refine bodyPost_ret (v := .agg #[.int .i64 z, .slice none 0 0]) (by simp [results, Try.results4, go_sem, *]) rfl ?_
    refine ⟨_, rfl, ?_, In.nil _ _, below_new w _⟩
    rw [E.out]
    exact OB.none _

/-- A copy of bytes to the end of a row, from place q on, where a slice from there on says it lies. -/
theorem copy_end {P : Program} (dT sT ty : TypeId) (hu : P.underlying dT = some (.slice 5)) (hs : (P.info? 5).map (·.size) = some 1) {w : World} {g cn : Nat} {f : Nat → Value} (q : Nat) (hr : w.rowIs g 5 cn f) (a : Option Addr) (c : Nat) (l : List Int)
    (ha : BAt w a l) (h2 : q + l.length ≤ cn) :
    ∃ w', (Builtin.copy_ #[dT, sT] ty #[.slice (if cn = q then some ⟨g, 0, none⟩ else some ⟨g, q, none⟩) (cn - q) (cn - q), .slice a l.length c]).run P w = .ok (goInt l.length) w' ∧ w'.rowIs g 5 cn (fun j => if q ≤ j ∧ j < q + l.length then bv l (j - q) else f j) ∧ KeptIn g (g + 1) w w' := by
  by_cases e : cn = q
  · have h0 : l.length = 0 := by omega
    rw [if_pos e]
    rw [h0]
    exact ⟨w, run_copy_none w dT sT ty 5 _ a (cn - q) (cn - q) 0 c hu hs (by simp), hr.congr (fun j _ => by rw [if_neg (by omega)]), KeptIn.refl _ _ _⟩
  · rw [if_neg e]
    exact copy_min dT sT ty hu hs q (cn - q) (cn - q) hr a c l l.length ha (Nat.min_eq_left (by omega)) h2

/-- A row cleared to its end, from place q on, where a slice from there on says it lies. -/
theorem clear_end {P : Program} (t ty : TypeId) (hu : P.underlying t = some (.slice 5)) (hv : ∀ w, (zeroValue 5).run P w = .ok (.int .u8 0) w) {w : World} {g cn : Nat} {f : Nat → Value} (q : Nat) (hr : w.rowIs g 5 cn f) (hq : q ≤ cn) :
    ∃ w', (Builtin.clear_ #[t] ty #[.slice (if cn = q then some ⟨g, 0, none⟩ else some ⟨g, q, none⟩) (cn - q) (cn - q)]).run P w = .ok (.tuple #[]) w' ∧ w'.rowIs g 5 cn (fun j => if j < q then f j else .int .u8 0) ∧ KeptIn g (g + 1) w w' := by
  by_cases e : cn = q
  · rw [if_pos e]
    subst e
    rw [Nat.sub_self]
    refine ⟨w, ?_, hr.congr (fun j hj => by rw [if_pos hj]), KeptIn.refl _ _ _⟩
    simp [Builtin.clear_, run_underlying hu]
  · rw [if_neg e]
    exact clear_row t ty hu hv q (cn - q) (cn - q) hr (by omega)

/-- A copy as one step of a region that draws its order, by what it was reckoned to do. -/
theorem step_copy_run {P : Program} {ops : Array Oper} {op : Oper} {a : Act} {w : World} {K : Act → World → Prop} {Q : Exit → Act → World → Prop} {E : Prop} (hgd : op.guard = none) (d s : Operand) (dT sT : TypeId)
    (ho : op.op = .call { callee := .builtin .copy, args := #[d, s], argTypes := #[dT, sT] }) (vd vs v : Value) (hd : a.eval d = vd) (hx : a.eval s = vs) (w' : World) (hrun : (Builtin.copy_ #[dT, sT] op.type #[vd, vs]).run P w = .ok v w')
    (h : K (a.put op.dst v) w') : if Region.wanted op (yielded ops a.tmps) = true then Oper.wp P op a w K Q else E := by
  have hw : Region.wanted op (yielded ops a.tmps) = true := by simp [Region.wanted, hgd]
  rw [if_pos hw]
  unfold Oper.wp
  simp [execOp, ho, resolve, invoke, builtin, hd, hx, hrun, Result.andThen]
  exact h

set_option maxRecDepth 20000 in
set_option maxHeartbeats 3200000 in
theorem implSB_any (b o c : Nat) (l : List Int) (at_ n : Int) (e : Option Addr) (d : Nat) (p : List Int) (w : World) (hl : CAt w b o l) (hc : l.length ≤ c) (he : BAt w e p) (hs : l.length ≤ 1048576) (hm : p.length ≤ 1048576) (a1 : -9223372036854775808 ≤ at_) (a2 : at_ ≤ 9223372036854775807) (n1 : -9223372036854775808 ≤ n) (n2 : n ≤ 9223372036854775807) :
    Calls Try.prog 6 #[.slice (some ⟨b, o, none⟩) l.length c, .int .i64 at_, .int .i64 n, .slice e p.length d] w fun e w' => ∃ v, e = .returned (.agg #[.int .i64 (spC l.length at_ n p.length), v]) ∧ OB w' v (spB l at_ n p) ∧ In w.heap.size w'.heap.size v ∧ Below w.heap.size w w' := by
  have B0 := below_new w (.cells #[.int .i64 0, .slice none 0 0] 24)
  have K0 := Hid.mk' (spliceFault_any (some ⟨b, o, none⟩) e l.length c p.length d at_ n (w.alloc (.cells #[.int .i64 0, .slice none 0 0] 24)) hs hm a1 a2 n1 n2)
  by_cases h0 : spC l.length at_ n p.length = 0
  · obtain ⟨h1, h2, h3, h4⟩ := spC_zero h0
    obtain ⟨i, rfl⟩ := Int.eq_ofNat_of_zero_le h1
    obtain ⟨j, rfl⟩ := Int.eq_ofNat_of_zero_le h2
    have E : Hid (spB l (i : Int) (j : Int) p = spl l i j p) := by unfold spB; rw [if_pos h0]; exact rfl
    rw [h0] at K0 ⊢
    have BB := Hid.mk' B0
    have hmk : (Instr.makeSlice 22 (.int .i64 240) (.int .i64 240)).run Try.prog (w.alloc (.cells #[.int .i64 0, .slice none 0 0] 24)) = .ok (.slice (some ⟨w.heap.size + 1, 0, none⟩) 240 240) ((w.alloc (.cells #[.int .i64 0, .slice none 0 0] 24)).alloc (.cells (madeCells #[.int .u8 0] 240) 5)) := by
      have := run_make_row' (P := Try.prog) 22 5 (.int .u8 0) 1 Try.underlying22 Try.info5 rfl .i64 .i64 240 (by omega) (by omega) (w.alloc (.cells #[.int .i64 0, .slice none 0 0] 24))
      simpa using this
    have B1 := B0.alloc (by simp) (.cells (madeCells #[.int .u8 0] 240) 5)
    have R1 := World.rowIs_made (w.alloc (.cells #[.int .i64 0, .slice none 0 0] 24)) (.int .u8 0) 240 5
    have z1 : (w.alloc (.cells #[.int .i64 0, .slice none 0 0] 24)).heap.size = w.heap.size + 1 := by simp
    rw [z1] at R1
    obtain ⟨k1, hm1⟩ : ∃ k, Nat.min l.length 240 = k := ⟨_, rfl⟩
    have km : k1 ≤ 240 := by rw [← hm1]; exact Nat.min_le_right _ _
    have kl : k1 ≤ l.length := by rw [← hm1]; exact Nat.min_le_left _ _
    have ki : i ≤ k1 := by rw [← hm1]; exact Nat.le_min.2 ⟨by omega, by omega⟩
    obtain ⟨w2, hcp1, R2, hk2⟩ := copy_min (P := Try.prog) 22 22 3 Try.underlying22 (by kernel_rfl) 0 240 240 R1 (some ⟨b, o, none⟩) c l k1 (hl.below B1).at hm1 (by omega)
    have B2 := B1.trans (hk2.below (by omega) (by simp; omega))
    obtain ⟨w3, hcp2, R3, hk3⟩ := copy_end (P := Try.prog) 22 22 3 Try.underlying22 (by kernel_rfl) i R2 e d p (he.below B2) (by omega)
    have B3 := B2.trans (hk3.below (by omega) (by have := R2.lt; omega))
    obtain ⟨w4, hcp3, R4, hk4⟩ := copy_end (P := Try.prog) 22 22 3 Try.underlying22 (by kernel_rfl) (i + p.length) R3.drew (if c = i + j then some ⟨b, o, none⟩ else some ⟨b, o + (i + j), none⟩) (c - (i + j)) (l.drop (i + j)) ((hl.rest hc (by omega)).below B3.drew) (by rw [List.length_drop]; omega)
    have B4 := B3.drew.trans (hk4.below (by omega) (by have := R3.drew.lt; omega))
    rw [List.length_drop] at hcp3 R4
    obtain ⟨w5, hcl, R5, hk5⟩ := clear_end (P := Try.prog) 22 0 Try.underlying22 (by intro w; rfl) (i + p.length + (l.length - (i + j))) R4 (by omega)
    have B5 := Hid.mk' (B4.trans (hk5.below (by omega) (by have := R4.lt; omega)))
    have R5 := Hid.mk' R5
    have hk4' : KeptIn (w.heap.size + 1) (w.heap.size + 1 + 1) w3 w4 := ⟨hk4.os, hk4.tape, hk4.output, hk4.size, hk4.block⟩
    have hkk := ((hk2.trans hk3).trans hk4').trans hk5
    have Q0 := rowK (rowB (rowQ2 w 24 (.int .i64 0) (.slice none 0 0)) (below_new _ (.cells (madeCells #[.int .u8 0] 240) 5))) hkk (.inl (by omega))
    obtain ⟨q0, q1, qlt⟩ := cellsQ2 Q0
    have qf : ∀ k, w5.frozen? ⟨w.heap.size, k, none⟩ = false := fun k => Q0.frozen k
    have FR : Hid (∀ k, k < i + p.length + (l.length - (i + j)) → (if k < i + p.length + (l.length - (i + j)) then (if i + p.length ≤ k ∧ k < i + p.length + (l.length - (i + j)) then bv (l.drop (i + j)) (k - (i + p.length)) else if i ≤ k ∧ k < i + p.length then bv p (k - i) else if 0 ≤ k ∧ k < 0 + k1 then bv l (k - 0) else .int .u8 0) else .int .u8 0) = bv (spl l i j p) k) := Hid.mk' (fun k hk => by
      have e1 : (l.take i).length = i := by rw [List.length_take]; omega
      rw [if_pos hk]
      unfold spl
      by_cases c1 : i + p.length ≤ k
      · rw [if_pos ⟨c1, hk⟩, bv_append_right _ _ _ (by rw [List.length_append, e1]; omega), List.length_append, e1]
      · rw [if_neg (by omega), bv_append_left _ _ _ (by rw [List.length_append, e1]; omega)]
        by_cases c2 : i ≤ k
        · rw [if_pos ⟨c2, by omega⟩, bv_append_right _ _ _ (by rw [e1]; omega), e1]
        · rw [if_neg (by omega), if_pos (by omega), bv_append_left _ _ _ (by rw [e1]; omega), Nat.sub_zero]
          simp [bv, show k < i from by omega])
    have SL : Hid ((spl l i j p).length = i + p.length + (l.length - (i + j))) := Hid.mk' (by rw [spl_len (by omega)]; omega)
    have g1 : i + p.length + (l.length - (i + j)) ≤ 240 := by omega
    obtain ⟨q, hq⟩ : ∃ q, q = i + p.length := ⟨_, rfl⟩
    obtain ⟨r, hr⟩ : ∃ r, r = i + j := ⟨_, rfl⟩
    rw [← hq, ← hr] at hcp3 hcl R5 FR SL g1
    obtain ⟨t, ht⟩ : ∃ t, t = q + (l.length - r) := ⟨_, rfl⟩
    rw [← ht] at hcl R5 FR SL g1
    have eq1 : (i : Int) + (p.length : Int) = (q : Int) := by omega
    have eq2 : (i : Int) + (j : Int) = (r : Int) := by omega
    have eq3 : (q : Int) + ((l.length - r : Nat) : Int) = (t : Int) := by omega
    have w1 : IntKind.i64.wrap ((i : Int) + (p.length : Int)) = (q : Int) := by rw [eq1, IntKind.wrap_i64]; omega
    have w2 : IntKind.i64.wrap ((i : Int) + (j : Int)) = (r : Int) := by rw [eq2, IntKind.wrap_i64]; omega
    have w3' : IntKind.i64.wrap ((q : Int) + ((l.length - r : Nat) : Int)) = (t : Int) := by rw [eq3, IntKind.wrap_i64]; omega
    have w4' : IntKind.i64.wrap (q : Int) = (q : Int) := by rw [IntKind.wrap_i64]; omega
    have w5' : IntKind.i64.wrap (r : Int) = (r : Int) := by rw [IntKind.wrap_i64]; omega
    have w6' : IntKind.i64.wrap (t : Int) = (t : Int) := by rw [IntKind.wrap_i64]; omega
    have i1 : (0 : Int) ≤ (q : Int) := by omega
    have i2 : (q : Int) ≤ 240 := by omega
    have i3 : (0 : Int) ≤ (r : Int) := by omega
    have i4 : (r : Int) ≤ (l.length : Int) := by omega
    have i5 : (r : Int) ≤ (c : Int) := by omega
    have i6 : (0 : Int) ≤ (t : Int) := by omega
    have i7 : (t : Int) ≤ 240 := by omega
    have b1 : q ≤ 240 := by omega
    have b2 : r ≤ l.length := by omega
    have b3 : r ≤ c := by omega
    have b4 : i ≤ 240 := by omega
    have F1 := Hid.mk' hq
    have F2 := Hid.mk' hr
    have F3 := Hid.mk' ht
    have R6 : Hid (OB w5 (.slice (some ⟨w.heap.size + 1, 0, none⟩) t 240) (spl l i j p)) := Hid.mk' (by
      rw [← SL.out]
      exact .inr ⟨w.heap.size + 1, 240, 240, _, rfl, by rw [SL.out]; omega, R5.out, by rw [SL.out]; omega, fun k hk => FR.out k (by rw [SL.out] at hk; exact hk)⟩)
    have R7 := R5.out.lt
    have R8 := B5.out.size
    clear hq hr ht h0 h1 h2 h3 h4 a1 a2 n1 n2 B0 B1 B2 B3 B4 R1 R2 R3 R4 hk2 hk3 hk4 hk4' hk5 hl he hkk Q0
    go_enter Try.func6, Try.ntmps6
    go_wp2_with fail
    refine K0.out.mono ?_
    rintro e w1 ⟨rfl, rfl⟩
    by_cases hi : i = 240
    · obtain rfl : p = [] := List.eq_nil_of_length_eq_zero (by omega)
      obtain rfl : q = 240 := by simp at eq1; omega
      have lr : l.length - r = 0 := by omega
      obtain rfl : t = 240 := by omega
      subst hi
      have eq2' : (240 : Int) + (j : Int) = (r : Int) := eq2
      have w2' : IntKind.i64.wrap ((240 : Int) + (j : Int)) = (r : Int) := w2
      clear eq1 eq2 w1 w2
      simp at hcp2
      simp [lr] at hcp3 hcl
      by_cases hcj : c = r
      · subst hcj
        simp at hcp3
        go_wp2
        go_region_held3 (fun _ => True) (simp [*])
          (refine step_copy_run rfl (.tmp 35) (.tmp 40) 22 22 rfl _ _ _ rfl rfl _ hcp3 ?_)
        go_wp2
        refine bodyPost_ret (v := .agg #[.int .i64 0, .slice (some ⟨w.heap.size + 1, 0, none⟩) 240 240]) (by simp [results, Try.results6, go_sem, *]) rfl ?_
        have hk := kept2 w5 w.heap.size 0 1 (.int .i64 0) (.slice (some ⟨w.heap.size + 1, 0, none⟩) 240 240)
        refine ⟨_, rfl, ?_, In.at (by omega) (by have := hk.size; omega), B5.out.trans (hk.below (Nat.le_refl _) (by omega))⟩
        rw [E.out]
        exact R6.out.kept (In.at (lo := w.heap.size + 1) (hi := w5.heap.size) (by omega) R7) hk (.inr (by omega))
      · rw [if_neg hcj] at hcp3
        go_wp2
        go_region_held3 (fun _ => True) (simp [*])
          (refine step_copy_run rfl (.tmp 35) (.tmp 40) 22 22 rfl _ _ _ rfl rfl _ hcp3 ?_)
        go_wp2
        refine bodyPost_ret (v := .agg #[.int .i64 0, .slice (some ⟨w.heap.size + 1, 0, none⟩) 240 240]) (by simp [results, Try.results6, go_sem, *]) rfl ?_
        have hk := kept2 w5 w.heap.size 0 1 (.int .i64 0) (.slice (some ⟨w.heap.size + 1, 0, none⟩) 240 240)
        refine ⟨_, rfl, ?_, In.at (by omega) (by have := hk.size; omega), B5.out.trans (hk.below (Nat.le_refl _) (by omega))⟩
        rw [E.out]
        exact R6.out.kept (In.at (lo := w.heap.size + 1) (hi := w5.heap.size) (by omega) R7) hk (.inr (by omega))
    · rw [if_neg (by omega)] at hcp2
      by_cases hq : q = 240
      · subst hq
        have lr : l.length - r = 0 := by omega
        obtain rfl : t = 240 := by omega
        simp [lr] at hcp3 hcl
        by_cases hcj : c = r
        · subst hcj
          simp at hcp3
          go_wp2
          go_region_held3 (fun _ => True) (simp [*])
            (refine step_copy_run rfl (.tmp 35) (.tmp 40) 22 22 rfl _ _ _ rfl rfl _ hcp3 ?_)
          go_wp2
          refine bodyPost_ret (v := .agg #[.int .i64 0, .slice (some ⟨w.heap.size + 1, 0, none⟩) 240 240]) (by simp [results, Try.results6, go_sem, *]) rfl ?_
          have hk := kept2 w5 w.heap.size 0 1 (.int .i64 0) (.slice (some ⟨w.heap.size + 1, 0, none⟩) 240 240)
          refine ⟨_, rfl, ?_, In.at (by omega) (by have := hk.size; omega), B5.out.trans (hk.below (Nat.le_refl _) (by omega))⟩
          rw [E.out]
          exact R6.out.kept (In.at (lo := w.heap.size + 1) (hi := w5.heap.size) (by omega) R7) hk (.inr (by omega))
        · rw [if_neg hcj] at hcp3
          go_wp2
          go_region_held3 (fun _ => True) (simp [*])
            (refine step_copy_run rfl (.tmp 35) (.tmp 40) 22 22 rfl _ _ _ rfl rfl _ hcp3 ?_)
          go_wp2
          refine bodyPost_ret (v := .agg #[.int .i64 0, .slice (some ⟨w.heap.size + 1, 0, none⟩) 240 240]) (by simp [results, Try.results6, go_sem, *]) rfl ?_
          have hk := kept2 w5 w.heap.size 0 1 (.int .i64 0) (.slice (some ⟨w.heap.size + 1, 0, none⟩) 240 240)
          refine ⟨_, rfl, ?_, In.at (by omega) (by have := hk.size; omega), B5.out.trans (hk.below (Nat.le_refl _) (by omega))⟩
          rw [E.out]
          exact R6.out.kept (In.at (lo := w.heap.size + 1) (hi := w5.heap.size) (by omega) R7) hk (.inr (by omega))
      · have hq' : ¬ 240 = q := by omega
        rw [if_neg hq'] at hcp3
        by_cases hcj : c = r
        · have lr : l.length - r = 0 := by omega
          obtain rfl : t = q := by omega
          subst hcj
          simp [lr] at hcp3
          rw [if_neg hq'] at hcl
          go_wp2
          go_region_held3 (fun _ => True) (simp [*])
            (refine step_copy_run rfl (.tmp 35) (.tmp 40) 22 22 rfl _ _ _ rfl rfl _ hcp3 ?_)
          go_wp2
          refine bodyPost_ret (v := .agg #[.int .i64 0, .slice (some ⟨w.heap.size + 1, 0, none⟩) t 240]) (by simp [results, Try.results6, go_sem, *]) rfl ?_
          have hk := kept2 w5 w.heap.size 0 1 (.int .i64 0) (.slice (some ⟨w.heap.size + 1, 0, none⟩) t 240)
          refine ⟨_, rfl, ?_, In.at (by omega) (by have := hk.size; omega), B5.out.trans (hk.below (Nat.le_refl _) (by omega))⟩
          rw [E.out]
          exact R6.out.kept (In.at (lo := w.heap.size + 1) (hi := w5.heap.size) (by omega) R7) hk (.inr (by omega))
        · rw [if_neg hcj] at hcp3
          by_cases hT : t = 240
          · subst hT
            simp at hcl
            go_wp2
            go_region_held3 (fun _ => True) (simp [*])
              (refine step_copy_run rfl (.tmp 35) (.tmp 40) 22 22 rfl _ _ _ rfl rfl _ hcp3 ?_)
            go_wp2
            refine bodyPost_ret (v := .agg #[.int .i64 0, .slice (some ⟨w.heap.size + 1, 0, none⟩) 240 240]) (by simp [results, Try.results6, go_sem, *]) rfl ?_
            have hk := kept2 w5 w.heap.size 0 1 (.int .i64 0) (.slice (some ⟨w.heap.size + 1, 0, none⟩) 240 240)
            refine ⟨_, rfl, ?_, In.at (by omega) (by have := hk.size; omega), B5.out.trans (hk.below (Nat.le_refl _) (by omega))⟩
            rw [E.out]
            exact R6.out.kept (In.at (lo := w.heap.size + 1) (hi := w5.heap.size) (by omega) R7) hk (.inr (by omega))
          · have hT' : ¬ 240 = t := by omega
            rw [if_neg hT'] at hcl
            go_wp2
            go_region_held3 (fun _ => True) (simp [*])
              (refine step_copy_run rfl (.tmp 35) (.tmp 40) 22 22 rfl _ _ _ rfl rfl _ hcp3 ?_)
            go_wp2
            refine bodyPost_ret (v := .agg #[.int .i64 0, .slice (some ⟨w.heap.size + 1, 0, none⟩) t 240]) (by simp [results, Try.results6, go_sem, *]) rfl ?_
            have hk := kept2 w5 w.heap.size 0 1 (.int .i64 0) (.slice (some ⟨w.heap.size + 1, 0, none⟩) t 240)
            refine ⟨_, rfl, ?_, In.at (by omega) (by have := hk.size; omega), B5.out.trans (hk.below (Nat.le_refl _) (by omega))⟩
            rw [E.out]
            exact R6.out.kept (In.at (lo := w.heap.size + 1) (hi := w5.heap.size) (by omega) R7) hk (.inr (by omega))
  · have E : Hid (spB l at_ n p = []) := by unfold spB; rw [if_neg h0]; exact rfl
    have BB := Hid.mk' B0
    clear B0 hl he
    generalize hz : spC l.length at_ n p.length = z at *
    clear hz
    go_enter Try.func6, Try.ntmps6
    go_wp2_with fail
    refine K0.out.mono ?_
    rintro e w1 ⟨rfl, rfl⟩
    go_wp2
    refine bodyPost_ret (v := .agg #[.int .i64 z, .slice none 0 0]) (by simp [results, Try.results6, go_sem, *]) rfl ?_
    refine ⟨_, rfl, ?_, In.nil _ _, below_new w _⟩
    rw [E.out]
    exact OB.none _

end Go.Proofs.Ythlbedndifeggaa
