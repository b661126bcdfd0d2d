/- Walks: a new table, both sides. -/
import Derived.Test.YtbdjppiagjhfmaaWg
import Derived.Test.YtbdjppiagjhfmaaApp
namespace Go.Proofs.Ytbdjppiagjhfmaa
open Go.RowKit
set_option linter.unusedVariables false

set_option maxHeartbeats 400000 in
theorem l1Copy_own (a : Option Addr) (c : Nat) (l : List Int) (w : World) (ha : BAt w a l) (hl : (l.length : Int) ≤ 1048576) :
    Calls Try.prog 36 #[.slice a l.length c] w fun e w' => ∃ v, e = .returned v ∧ w'.ownsRow w.heap.size 5 1 v l.length (bcs l) ∧ Below w.heap.size w w' := by
  have B0 := below_new w (.cells #[] 5)
  go_enter Try.func36, Try.ntmps36
  go_wp2_with (at_builtin; refine wpList_append_any _ rfl (.tmp 3) (.tmp 4) 22 rfl w.heap.size 5 (.int .u8 0) 1 1 Try.underlying22 Try.info5 rfl (by decide) _ 0 [] rfl (World.ownsRow_lit w #[] 0 (Nat.le_refl _) (by decide) rfl) a l.length c (bcs l) rfl (bcs_len l) (ha.below B0).src (bcs_one l) (by unfold maxLen; omega) (by omega) (by simp) ?_; intro v' w1 hown hgr)
  go_ret
  rw [Nat.zero_add, List.nil_append] at hown
  refine ⟨_, rfl, hown, B0.grown hgr (by simp) (fun k hk => ?_)⟩
  simp [Act.eval, Value.ownBlock] at hk
  omega

theorem l1Copy_any (a : Option Addr) (c : Nat) (l : List Int) (w : World) (ha : BAt w a l) (hl : (l.length : Int) ≤ 1048576) :
    Calls Try.prog 36 #[.slice a l.length c] w fun e w' => ∃ v, e = .returned v ∧ OB w' v l ∧ In w.heap.size w'.heap.size v ∧ Below w.heap.size w w' := by
  refine (l1Copy_own a c l w ha hl).mono ?_
  rintro e w1 ⟨v, rfl, hown, hb⟩
  obtain ⟨ho, hlo⟩ := OB.of_own hown
  exact ⟨_, rfl, ho, fun k hk => ⟨hlo k hk, ho.lt k hk⟩, hb⟩

set_option maxHeartbeats 400000 in
theorem joinBytes_nil (a b : Option Addr) (c d : Nat) (l : List Int) (w : World) (ha : BAt w a l) (hl : (l.length : Int) ≤ 2097152) :
    Calls Try.prog 68 #[.slice a l.length c, .slice b 0 d] w fun e w' => ∃ g, e = .returned (.slice (some ⟨g, 0, none⟩) l.length l.length) ∧ w.heap.size ≤ g ∧ w'.rowIs g 5 l.length (bv l) ∧ Below w.heap.size w w' := by
  have hmk := run_make_row' (P := Try.prog) 22 5 (.int .u8 0) 1 Try.underlying22 Try.info5 rfl .i64 .i64 l.length (by omega) (by omega)
  have B0 := below_new w (.cells (madeCells #[.int .u8 0] l.length) 5)
  have R0 := World.rowIs_made w (.int .u8 0) l.length 5
  obtain ⟨w1, hcp1, hr1, hk1⟩ := copy_row (P := Try.prog) 22 22 3 Try.underlying22 (by kernel_rfl) 0 l.length l.length R0 a c l (ha.below B0) (by omega) (by omega)
  have hcp2 := run_copy_none (P := Try.prog) w1 22 22 3 5 (some ⟨w.heap.size, 0, none⟩) b 0 0 0 d Try.underlying22 (by kernel_rfl) (by simp)
  have B1 := Hid.mk' (B0.trans (hk1.below (Nat.le_refl _) (by simp)))
  have R1 := Hid.mk' hr1
  clear hr1 hk1 B0 R0 ha
  go_enter Try.func68, Try.ntmps68
  go_wp2
  go_ret
  exact ⟨_, rfl, Nat.le_refl _, R1.out.congr (fun j hj => by rw [if_pos (by omega), Nat.sub_zero]), B1.out⟩

set_option maxHeartbeats 400000 in
theorem joinBytes_pos (a b : Option Addr) (c d : Nat) (l m : List Int) (w : World) (ha : BAt w a l) (hb : BAt w b m) (hm : 0 < m.length) (hl : (l.length : Int) + m.length ≤ 2097152) :
    Calls Try.prog 68 #[.slice a l.length c, .slice b m.length d] w fun e w' => ∃ g, e = .returned (.slice (some ⟨g, 0, none⟩) (l.length + m.length) (l.length + m.length)) ∧ w.heap.size ≤ g ∧ w'.rowIs g 5 (l.length + m.length) (bv (l ++ m)) ∧ Below w.heap.size w w' := by
  have hmk := run_make_row' (P := Try.prog) 22 5 (.int .u8 0) 1 Try.underlying22 Try.info5 rfl .i64 .i64 (l.length + m.length) (by omega) (by omega)
  have ec : ((l.length + m.length : Nat) : Int) = (l.length : Int) + (m.length : Int) := by omega
  rw [ec] at hmk
  clear ec
  have B0 := below_new w (.cells (madeCells #[.int .u8 0] (l.length + m.length)) 5)
  have R0 := World.rowIs_made w (.int .u8 0) (l.length + m.length) 5
  obtain ⟨w1, hcp1, hr1, hk1⟩ := copy_row (P := Try.prog) 22 22 3 Try.underlying22 (by kernel_rfl) 0 (l.length + m.length) (l.length + m.length) R0 a c l (ha.below B0) (by omega) (by omega)
  have B1 := B0.trans (hk1.below (Nat.le_refl _) (by simp))
  obtain ⟨w2, hcp2, hr2, hk2⟩ := copy_row (P := Try.prog) 22 22 3 Try.underlying22 (by kernel_rfl) l.length m.length m.length hr1 b d m (hb.below B1) (by omega) (by omega)
  have B2 := Hid.mk' (B1.trans (hk2.below (Nat.le_refl _) (by have := hr1.lt; omega)))
  have R2 := Hid.mk' hr2
  have hm0 : ¬ m.length = 0 := by omega
  clear hr1 hr2 hk1 hk2 B0 B1 R0 ha hb
  go_enter Try.func68, Try.ntmps68
  go_wp2
  go_ret
  refine ⟨_, rfl, Nat.le_refl _, R2.out.congr (fun j hj => ?_), B2.out⟩
  by_cases c1 : j < l.length
  · rw [if_neg (by omega), if_pos (by omega), bv_append_left _ _ _ c1, Nat.sub_zero]
  · rw [if_pos (by omega), bv_append_right _ _ _ (by omega)]

/-- The pieces of a new table. -/
def newPcs (l : List Int) : List PC := if l.length = 0 then [] else [⟨false, 0, l.length⟩]
/-- A new table. -/
def newT (l : List Int) : TB := ⟨l, [], newPcs l⟩

end Go.Proofs.Ytbdjppiagjhfmaa
