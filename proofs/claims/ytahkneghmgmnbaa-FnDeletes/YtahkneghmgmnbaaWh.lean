/- Walks: a new table, both sides. -/
import Derived.Test.YtahkneghmgmnbaaWg
import Derived.Test.YtahkneghmgmnbaaApp
namespace Go.Proofs.Ytahkneghmgmnbaa
open Go.RowKit
set_option linter.unusedVariables false

set_option maxHeartbeats 400000 in
theorem l1Copy_own (a : Option Addr) (c : Nat) (l : List Int) (w : World) (ha : BAt w a l) (hl : (l.length : Int) ≤ 1048576) :
    Calls Try.prog 61 #[.slice a l.length c] w fun e w' => ∃ v, e = .returned v ∧ w'.ownsRow w.heap.size 5 1 v l.length (bcs l) ∧ Below w.heap.size w w' := by
  have B0 := below_new w (.cells #[] 5)
  go_enter Try.func61, Try.ntmps61
  go_wp2_with (at_builtin; refine wpList_append_any _ rfl (.tmp 3) (.tmp 4) 22 rfl w.heap.size 5 (.int .u8 0) 1 1 Try.underlying22 Try.info5 rfl (by decide) _ 0 [] rfl (World.ownsRow_lit w #[] 0 (Nat.le_refl _) (by decide) rfl) a l.length c (bcs l) rfl (bcs_len l) (ha.below B0).src (bcs_one l) (by unfold maxLen; omega) (by omega) (by simp) ?_; intro v' w1 hown hgr)
  go_ret
  rw [Nat.zero_add, List.nil_append] at hown
  refine ⟨_, rfl, hown, B0.grown hgr (by simp) (fun k hk => ?_)⟩
  simp [Act.eval, Value.ownBlock] at hk
  omega

theorem l1Copy_any (a : Option Addr) (c : Nat) (l : List Int) (w : World) (ha : BAt w a l) (hl : (l.length : Int) ≤ 1048576) :
    Calls Try.prog 61 #[.slice a l.length c] w fun e w' => ∃ v, e = .returned v ∧ OB w' v l ∧ In w.heap.size w'.heap.size v ∧ Below w.heap.size w w' := by
  refine (l1Copy_own a c l w ha hl).mono ?_
  rintro e w1 ⟨v, rfl, hown, hb⟩
  obtain ⟨ho, hlo⟩ := OB.of_own hown
  exact ⟨_, rfl, ho, fun k hk => ⟨hlo k hk, ho.lt k hk⟩, hb⟩

set_option maxHeartbeats 400000 in
theorem joinBytes_nil (a b : Option Addr) (c d : Nat) (l : List Int) (w : World) (ha : BAt w a l) (hl : (l.length : Int) ≤ 2097152) :
    Calls Try.prog 40 #[.slice a l.length c, .slice b 0 d] w fun e w' => ∃ g, e = .returned (.slice (some ⟨g, 0, none⟩) l.length l.length) ∧ w.heap.size ≤ g ∧ w'.rowIs g 5 l.length (bv l) ∧ Below w.heap.size w w' := by
  have hmk := run_make_row' (P := Try.prog) 22 5 (.int .u8 0) 1 Try.underlying22 Try.info5 rfl .i64 .i64 l.length (by omega) (by omega)
  have B0 := below_new w (.cells (madeCells #[.int .u8 0] l.length) 5)
  have R0 := World.rowIs_made w (.int .u8 0) l.length 5
  obtain ⟨w1, hcp1, hr1, hk1⟩ := copy_row (P := Try.prog) 22 22 3 Try.underlying22 (by kernel_rfl) 0 l.length l.length R0 a c l (ha.below B0) (by omega) (by omega)
  have hcp2 := run_copy_none (P := Try.prog) w1 22 22 3 5 (some ⟨w.heap.size, 0, none⟩) b 0 0 0 d Try.underlying22 (by kernel_rfl) (by simp)
  have B1 := Hid.mk' (B0.trans (hk1.below (Nat.le_refl _) (by simp)))
  have R1 := Hid.mk' hr1
  clear hr1 hk1 B0 R0 ha
  go_enter Try.func40, Try.ntmps40
  go_wp2
  go_ret
  exact ⟨_, rfl, Nat.le_refl _, R1.out.congr (fun j hj => by rw [if_pos (by omega), Nat.sub_zero]), B1.out⟩

set_option maxHeartbeats 400000 in
theorem joinBytes_pos (a b : Option Addr) (c d : Nat) (l m : List Int) (w : World) (ha : BAt w a l) (hb : BAt w b m) (hm : 0 < m.length) (hl : (l.length : Int) + m.length ≤ 2097152) :
    Calls Try.prog 40 #[.slice a l.length c, .slice b m.length d] w fun e w' => ∃ g, e = .returned (.slice (some ⟨g, 0, none⟩) (l.length + m.length) (l.length + m.length)) ∧ w.heap.size ≤ g ∧ w'.rowIs g 5 (l.length + m.length) (bv (l ++ m)) ∧ Below w.heap.size w w' := by
  have hmk := run_make_row' (P := Try.prog) 22 5 (.int .u8 0) 1 Try.underlying22 Try.info5 rfl .i64 .i64 (l.length + m.length) (by omega) (by omega)
  have ec : ((l.length + m.length : Nat) : Int) = (l.length : Int) + (m.length : Int) := by omega
  rw [ec] at hmk
  clear ec
  have B0 := below_new w (.cells (madeCells #[.int .u8 0] (l.length + m.length)) 5)
  have R0 := World.rowIs_made w (.int .u8 0) (l.length + m.length) 5
  obtain ⟨w1, hcp1, hr1, hk1⟩ := copy_row (P := Try.prog) 22 22 3 Try.underlying22 (by kernel_rfl) 0 (l.length + m.length) (l.length + m.length) R0 a c l (ha.below B0) (by omega) (by omega)
  have B1 := B0.trans (hk1.below (Nat.le_refl _) (by simp))
  obtain ⟨w2, hcp2, hr2, hk2⟩ := copy_row (P := Try.prog) 22 22 3 Try.underlying22 (by kernel_rfl) l.length m.length m.length hr1 b d m (hb.below B1) (by omega) (by omega)
  have B2 := Hid.mk' (B1.trans (hk2.below (Nat.le_refl _) (by have := hr1.lt; omega)))
  have R2 := Hid.mk' hr2
  have hm0 : ¬ m.length = 0 := by omega
  clear hr1 hr2 hk1 hk2 B0 B1 R0 ha hb
  go_enter Try.func40, Try.ntmps40
  go_wp2
  go_ret
  refine ⟨_, rfl, Nat.le_refl _, R2.out.congr (fun j hj => ?_), B2.out⟩
  by_cases c1 : j < l.length
  · rw [if_neg (by omega), if_pos (by omega), bv_append_left _ _ _ c1, Nat.sub_zero]
  · rw [if_pos (by omega), bv_append_right _ _ _ (by omega)]

/-- The pieces of a new table. -/
def newPcs (l : List Int) : List PC := if l.length = 0 then [] else [⟨false, 0, l.length⟩]
/-- A new table. -/
def newT (l : List Int) : TB := ⟨l, [], newPcs l⟩

set_option maxHeartbeats 400000 in
theorem l1New_any (a : Option Addr) (c : Nat) (l : List Int) (w : World) (ha : BAt w a l) (hl : (l.length : Int) ≤ 1048576) :
    Calls Try.prog 44 #[.slice a l.length c] w fun e w' => ∃ s1 s2 s3, e = .returned (.agg #[s1, s2, s3]) ∧ OT w.heap.size w'.heap.size w' s1 s2 s3 (newT l) ∧ Below w.heap.size w w' := by
  have B0 := below_new w (.cells #[.slice none 0 0, .slice none 0 0, .slice none 0 0] 26)
  have K := l1Copy_any a c l _ (ha.below B0) hl
  have BB := Hid.mk' B0
  have KK := Hid.mk' K
  clear K B0 ha
  by_cases h0 : l.length = 0
  · rw [h0] at KK ⊢
    go_enter Try.func44, Try.ntmps44
    go_wp2_with fail
    refine KK.out.mono ?_
    rintro e w1 ⟨v1, rfl, o1, i1, hb1⟩
    obtain ⟨va, vc, rfl, _⟩ := o1.len
    have B1 := Hid.mk' (BB.out.trans (hb1.mono BB.out.size))
    obtain ⟨hc1, hf1⟩ := bcell hb1
    simp at hc1 hf1
    have y := hb1.size
    simp at y
    have y' : w.heap.size < w1.heap.size := by omega
    clear KK hb1
    go_wp2
    refine bodyPost_ret (v := .agg #[.slice va 0 vc, .slice none 0 0, .slice none 0 0]) (by simp [results, Try.results44, go_sem, *]) rfl ?_
    have hk := (kept3 w1 w.heap.size 0 1 2 (.slice va 0 vc) (.slice none 0 0) (.slice none 0 0)).alloc (.cells #[.slice va 0 vc, .slice none 0 0, .slice none 0 0] 26)
    rw [h0] at o1 i1
    have e3 : newPcs l = [] := by unfold newPcs; rw [if_pos h0]
    refine ⟨_, _, _, rfl, ⟨o1.kept i1 hk (by simp), OB.none _, ?_, i1.mono (by simp) hk.size, In.nil _ _, In.nil _ _, Ap.nil_right _, Ap.nil_right _, Ap.nil_left _⟩, B1.out.trans (hk.below (Nat.le_refl _) (by omega))⟩
    show OP _ _ (newPcs l)
    rw [e3]; exact OP.none _
  · have hp : (0 : Int) < (l.length : Int) := by omega
    go_enter Try.func44, Try.ntmps44
    go_wp2_with fail
    refine KK.out.mono ?_
    rintro e w1 ⟨v1, rfl, o1, i1, hb1⟩
    obtain ⟨va, vc, rfl, _⟩ := o1.len
    have B1 := Hid.mk' (BB.out.trans (hb1.mono BB.out.size))
    obtain ⟨hc1, hf1⟩ := bcell hb1
    simp at hc1 hf1
    have y := hb1.size
    simp at y
    have y' : w.heap.size < w1.heap.size := by omega
    clear KK hb1
    go_wp2
    refine bodyPost_ret (v := .agg #[.slice va l.length vc, .slice none 0 0, .slice (some ⟨w1.heap.size + 1, 0, none⟩) 1 1]) (by simp [results, Try.results44, go_sem, *]) rfl ?_
    have k1 := kept3 w1 w.heap.size 0 1 2 (.slice va l.length vc) (.slice none 0 0) (.slice (some ⟨w1.heap.size + 1, 0, none⟩) 1 1)
    have hk := (k1.alloc (.cells #[.slice va l.length vc, .slice none 0 0, .slice (some ⟨w1.heap.size + 1, 0, none⟩) 1 1] 26)).alloc (.cells #[.bool false, .int .i64 0, .int .i64 l.length] 72)
    have hr := row3 ((((w1.setCell ⟨w.heap.size, 0, none⟩ (.slice va l.length vc)).setCell ⟨w.heap.size, 1, none⟩ (.slice none 0 0)).setCell ⟨w.heap.size, 2, none⟩ (.slice (some ⟨w1.heap.size + 1, 0, none⟩) 1 1)).alloc (.cells #[.slice va l.length vc, .slice none 0 0, .slice (some ⟨w1.heap.size + 1, 0, none⟩) 1 1] 26)) 72 (.bool false) (.int .i64 0) (.int .i64 l.length)
    simp only [World.heap_size_setCell', World.heap_size_alloc'] at hr
    have e3 : newPcs l = [⟨false, 0, l.length⟩] := by unfold newPcs; rw [if_neg h0]
    have i3 := In.at (n := 1) (c := 1) (lo := w.heap.size) (g := w1.heap.size + 1) (hi := w1.heap.size + 2) (by omega) (by omega)
    refine ⟨_, _, _, rfl, ⟨o1.kept i1 hk (by simp), OB.none _, ?_, i1.mono (by simp) hk.size, In.nil _ _, i3.mono (Nat.le_refl _) (by simp), Ap.nil_right _, ?_, Ap.nil_left _⟩, B1.out.trans (hk.below (Nat.le_refl _) (by omega))⟩
    · show OP _ _ (newPcs l)
      rw [e3]
      exact .inr ⟨_, 1, 3, _, rfl, Nat.le_refl _, hr, ⟨rfl, by decide⟩, fun i hi => by
        have : i = 0 ∨ i = 1 ∨ i = 2 := by simp at hi; omega
        rcases this with rfl | rfl | rfl <;> simp [r3, pv, pc]⟩
    · intro k h1 h2
      have := i1 k h1
      simp [Value.ownBlock] at h2
      omega

end Go.Proofs.Ytahkneghmgmnbaa
