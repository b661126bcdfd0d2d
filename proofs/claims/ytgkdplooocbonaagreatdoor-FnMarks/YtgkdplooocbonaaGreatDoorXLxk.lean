/- The program's lexer: a byte fed; faults of what it holds; a new one, and what it answers. -/
import Derived.Test.YtgkdplooocbonaaGreatDoorXLxj
namespace Go.Proofs.YtgkdplooocbonaaGreatDoor
open Go.RowKit
set_option linter.unusedVariables false
set_option linter.unusedSimpArgs false

theorem feed_any (B lo g : Nat) (tp : TypeId) (pv : Value) (b : Nat) (w : World) (hs : List Int) (ts : List TK) (h : LXs lo g w hs ts) (hE : Env B tp pv w) (hB : B ≤ lo) (hu : Byt hs) (hb : b ≤ 255) (hl : hs.length ≤ 159) (hn : ts.length ≤ 800000) :
    Calls Tryz.prog (stN hs) #[.pointer (some ⟨g, 0, none⟩), .int .u8 (b : Int)] w fun e w' => LxP lo g (feedX hs b).2 (ts ++ (feedX hs b).1) w e w' := by
  by_cases h0 : hs = []
  · subst h0
    have e : stN [] = 23 := rfl
    rw [e]
    exact outside_any lo g b w ts h hb (by omega)
  by_cases h1 : hs.getD 0 0 = 38
  · have e : stN hs = 24 := by unfold stN; rw [if_neg h0, if_pos h1]
    have e2 : feedX hs b = (bytesT (refT hs b), refH hs b) := by unfold feedX; rw [if_neg h0, if_pos h1]
    rw [e, e2]
    exact inRef_any B lo g tp pv b w hs ts h hE hB hu hb hl hn
  have e2 : feedX hs b = tagX hs b := by unfold feedX; rw [if_neg h0, if_neg h1]
  rw [e2]
  cases hn' : noteB hs with
  | true =>
    have e : stN hs = 26 := by unfold stN; rw [if_neg h0, if_neg h1, if_pos hn']
    rw [e]
    exact inNote_any B lo g tp pv b w hs ts h hE hB hu hb hl hn hn'
  | false =>
    have e : stN hs = 27 := by unfold stN; rw [if_neg h0, if_neg h1, if_neg (by rw [hn']; exact Bool.false_ne_true)]
    rw [e]
    exact inTag_any B lo g tp pv b w hs ts h hE hB hu hb hl hn h0 hn'

/-- What a lexer may hold. -/
def GoodH (hs : List Int) : Prop := hs = [] ∨ (hs.getD 0 0 = 60 ∧ hs.length ≤ 159) ∨ (hs.getD 0 0 = 38 ∧ hs.length ≤ 5)

theorem GoodH.len {hs : List Int} (h : GoodH hs) : hs.length ≤ 159 := by
  rcases h with rfl | h | h
  · simp
  · exact h.2
  · omega

theorem none_good (b : Int) : GoodH (noneH b) := by
  unfold noneH
  by_cases h : b = 60 ∨ b = 38
  · rw [if_pos h]
    rcases h with rfl | rfl
    · exact .inr (.inl ⟨rfl, by simp⟩)
    · exact .inr (.inr ⟨rfl, by simp⟩)
  · rw [if_neg h]; exact .inl rfl

theorem head_snoc {l : List Int} (x : Int) (h : ¬ l = []) : (l ++ [x]).getD 0 0 = l.getD 0 0 := by
  cases l with
  | nil => exact absurd rfl h
  | cons a l => rfl

theorem len_good {hs : List Int} (b : Nat) (h0 : ¬ hs = []) (h : hs.getD 0 0 = 60) : GoodH (lenX hs b).2 := by
  unfold lenX
  by_cases c : 160 ≤ hs.length + 1
  · rw [if_pos c]; exact .inl rfl
  · rw [if_neg c]
    exact .inr (.inl ⟨by show (hs ++ [(b : Int)]).getD 0 0 = 60; rw [head_snoc _ h0]; exact h, by simp; omega⟩)

theorem feed_good {hs : List Int} (b : Nat) (h : GoodH hs) : GoodH (feedX hs b).2 := by
  unfold feedX
  by_cases h0 : hs = []
  · rw [if_pos h0]; exact none_good _
  · rw [if_neg h0]
    by_cases h1 : hs.getD 0 0 = 38
    · rw [if_pos h1]
      show GoodH (refH hs b)
      unfold refH
      by_cases c : b = 59
      · rw [if_pos c]; exact .inl rfl
      · rw [if_neg c]
        by_cases d : refB b = true
        · rw [if_pos d]
          by_cases e : 6 ≤ hs.length + 1
          · rw [if_pos e]; exact .inl rfl
          · rw [if_neg e]
            exact .inr (.inr ⟨by rw [head_snoc _ h0]; exact h1, by simp; omega⟩)
        · rw [if_neg d]; exact none_good _
    · rw [if_neg h1]
      have h60 : hs.getD 0 0 = 60 := by
        rcases h with h | h | h
        · exact absurd h h0
        · exact h.1
        · exact absurd h.1 h1
      unfold tagX
      split
      · split
        · exact .inl rfl
        · split
          · exact .inl rfl
          · exact len_good b h0 h60
      · split
        · rename_i hh
          exact .inr (.inl ⟨by show ((b : Int)) = 60; have := hh.1; omega, by simp⟩)
        · exact len_good b h0 h60

set_option maxRecDepth 100000 in
set_option maxHeartbeats 1600000 in
theorem lexFault_any (a : Option Addr) (c : Nat) (hs : List Int) (w : World) (ha : BAt w a hs) (h : GoodH hs) :
    Calls Tryz.prog 14 #[.agg #[.slice a hs.length c]] w fun e w' => e = .returned (.int .i64 0) ∧ Below w.heap.size w w' := by
  have NB := below_new w (.cells #[.slice a hs.length c] 27)
  have HB := Hid.mk' NB
  rcases h with rfl | ⟨h1, h2⟩ | ⟨h1, h2⟩
  · clear NB
    go_enter Tryz.func14, Tryz.ntmps14
    go_wp2_with go_big_skip
    go_ret
    exact ⟨rfl, HB.out⟩
  · rcases ha with ha | ⟨b, o, rfl, hlt, hc⟩
    · rw [ha] at h1; cases h1
    have hp : 0 < hs.length := by
      cases hs with
      | nil => cases h1
      | cons a l => simp
    have d0 : (w.alloc (.cells #[.slice (some ⟨b, o, none⟩) hs.length c] 27)).cell? ⟨b, o, none⟩ = some (.int .u8 60) := by
      have := (NB.cell hlt).trans (hc 0 hp)
      rw [Nat.add_zero] at this
      rw [this]; unfold bv; rw [h1]
    have e1 : ((hs.length : Int) == 0) = false := beq_eq_false_iff_ne.2 (by omega)
    have e2 : ¬ (160 : Int) ≤ hs.length := by omega
    clear NB hc h1
    go_enter Tryz.func14, Tryz.ntmps14
    go_wp2_with go_big_skip
    go_ret
    exact ⟨rfl, HB.out⟩
  · rcases ha with ha | ⟨b, o, rfl, hlt, hc⟩
    · rw [ha] at h1; cases h1
    have hp : 0 < hs.length := by
      cases hs with
      | nil => cases h1
      | cons a l => simp
    have d0 : (w.alloc (.cells #[.slice (some ⟨b, o, none⟩) hs.length c] 27)).cell? ⟨b, o, none⟩ = some (.int .u8 38) := by
      have := (NB.cell hlt).trans (hc 0 hp)
      rw [Nat.add_zero] at this
      rw [this]; unfold bv; rw [h1]
    have e1 : ((hs.length : Int) == 0) = false := beq_eq_false_iff_ne.2 (by omega)
    have e2 : ¬ (6 : Int) ≤ hs.length := by omega
    clear NB hc h1
    go_enter Tryz.func14, Tryz.ntmps14
    go_wp2_with go_big_skip
    go_ret
    exact ⟨rfl, HB.out⟩

theorem own_row {w : World} {g lo : Nat} {l : List Int} (h : w.rowIs g 5 l.length (bv l)) (hl : l.length ≤ 1000000) (hg : lo ≤ g) : w.ownsRow lo 5 1 (.slice (some ⟨g, 0, none⟩) l.length l.length) l.length (bcs l) := by
  obtain ⟨cs, h1, h2, h3⟩ := h
  refine ⟨by rw [bcs_len], .inr ⟨g, l.length, cs, rfl, hg, h1, Nat.le_refl _, by unfold maxLen; omega, by rw [h2, Nat.mul_one], ?_⟩⟩
  apply List.ext_getElem?
  intro i
  by_cases hi : i < l.length
  · rw [List.getElem?_take_of_lt (by omega), bcs_get l i hi]
    have := h3 i hi
    simpa using this
  · rw [List.getElem?_eq_none (by rw [List.length_take]; omega), List.getElem?_eq_none (by rw [bcs_len]; omega)]

set_option maxRecDepth 100000 in
set_option maxHeartbeats 1600000 in
theorem newLexer_any (a : Option Addr) (c : Nat) (hs : List Int) (w : World) (ha : BAt w a hs) (hl : hs.length ≤ 200) :
    Calls Tryz.prog 15 #[.agg #[.slice a hs.length c]] w fun e w' => ∃ g, e = .returned (.pointer (some ⟨g, 0, none⟩)) ∧ LXs w.heap.size g w' hs [] ∧ Below w.heap.size w w' := by
  have NB := below_new w (.cells #[.slice a hs.length c] 27)
  have KC := Hid.mk' (copyBytes_any a c hs _ (ha.below NB) (by omega))
  have HB := Hid.mk' NB
  clear ha NB
  go_enter Tryz.func15, Tryz.ntmps15
  go_wp2_with fail
  refine KC.out.mono ?_
  rintro e w1 ⟨g, rfl, hg, hr, hb⟩
  have HR := Hid.mk' hr
  have B1 := Hid.mk' (HB.out.trans (hb.mono HB.out.size))
  have HG := Hid.mk' hg
  clear hr hb hg KC
  go_wp2
  go_ret
  have N2 := below_new w1 (.cells #[.slice (some ⟨g, 0, none⟩) hs.length hs.length, .slice none 0 0] 56)
  have gl := HR.out.lt
  have gg := HG.out
  have b1 := B1.out.size
  have b0 := HB.out.size
  refine ⟨w1.heap.size, rfl, ⟨.slice (some ⟨g, 0, none⟩) hs.length hs.length, .slice none 0 0, [], fun _ => [], fun _ => 0, fun _ => 0, ?_⟩, B1.out.trans (N2.mono b1)⟩
  refine ⟨rowQ2 w1 _ _ _, ?_, ⟨rfl, .inl ⟨rfl, rfl⟩⟩, TA.nil _ _ _, b1, fun e => ?_, fun e => ?_, fun j hj => absurd hj (Nat.not_lt_zero _), fun j hj => absurd hj (Nat.not_lt_zero _), fun j hj => absurd hj (Nat.not_lt_zero _), fun k _ e => ?_⟩
  · exact own_keep (own_row HR.out (by omega) (by omega)) N2
  · simp [Value.ownBlock] at e; omega
  · simp [Value.ownBlock] at e
  · simp [Value.ownBlock] at e

theorem three_other (V : World) (a g i : Nat) (h : a ≠ g) (x y z : Value) : (((V.setCell ⟨a, 0, none⟩ x).setCell ⟨a, 1, none⟩ y).setCell ⟨a, 2, none⟩ z).drew.cell? ⟨g, i, none⟩ = V.cell? ⟨g, i, none⟩ := by
  show (((V.setCell ⟨a, 0, none⟩ x).setCell ⟨a, 1, none⟩ y).setCell ⟨a, 2, none⟩ z).cell? ⟨g, i, none⟩ = V.cell? ⟨g, i, none⟩
  have ne : ∀ j, (⟨g, i, none⟩ : Addr) ≠ ⟨a, j, none⟩ := fun j e => h (congrArg Addr.block e).symm
  have ne' : ∀ j, (⟨a, j, none⟩ : Addr) ≠ ⟨g, i, none⟩ := fun j e => h (congrArg Addr.block e)
  rw [World.cell?_setCell_other _ _ _ _ (by first | exact ne 2 | exact ne' 2), World.cell?_setCell_other _ _ _ _ (by first | exact ne 1 | exact ne' 1), World.cell?_setCell_other _ _ _ _ (by first | exact ne 0 | exact ne' 0)]

set_option maxRecDepth 100000 in
set_option maxHeartbeats 1600000 in
theorem result_any (lo g : Nat) (w : World) (hv tv : Value) (hs : List Int) (ts : List TK) (us : List Value) (rs : Nat → List Value) (bl bh : Nat → Nat) (h : LX lo g w hv tv hs ts us rs bl bh) :
    Calls Tryz.prog 17 #[.pointer (some ⟨g, 0, none⟩)] w fun e w' => e = .returned (.agg #[.int .i64 0, tv, hv]) ∧ LX lo g w' hv tv hs ts us rs bl bh ∧ Below w.heap.size w w' := by
  have NB := below_new w (.cells #[.int .i64 0, .slice none 0 0, .slice none 0 0] 29)
  have HR := row3 w 29 (.int .i64 0) (.slice none 0 0) (.slice none 0 0)
  obtain ⟨d0, d1, d2, d3⟩ := cells3 HR
  have f0 := HR.frozen 0
  have f1 := HR.frozen 1
  have f2 := HR.frozen 2
  obtain ⟨c0, c1, c2⟩ := cellsQ2 (h.below NB).box
  obtain ⟨pa, pc, rfl, _⟩ := own_src h.held
  obtain ⟨qa, qc, rfl, _⟩ := own_src h.row
  have H := Hid.mk' h
  have HB := Hid.mk' NB
  have glt := h.lt
  clear h NB HR
  generalize hW : w.alloc (.cells #[.int .i64 0, .slice none 0 0, .slice none 0 0] 29) = W at *
  go_enter Tryz.func17, Tryz.ntmps17
  go_wp2_with fail
  refine wp_region_held_drew (S := (fun w' => w'.cell? ⟨g, 0, none⟩ = some (.slice pa hs.length pc) ∧ w'.cell? ⟨g, 1, none⟩ = some (.slice qa ts.length qc))) (by kernel_rfl) ⟨c0, c1⟩ (fun hHeld => ?_)
  refine wpAnyH_take (i := 0) (oi := ⟨_, _, _, _, _, _⟩) (v := ?_) rfl (by kernel_rfl) (by kernel_rfl) (by kernel_rfl) (fun _ _ _ h => h) (Or.inl ⟨by rfl, ?_⟩) (by assumption) ?_
  rotate_left
  · (intro w hSw; (try dsimp only at hSw); go_simp; (try with_reducible rfl))
  try simp only [Act.put, List.setIfInBounds_toArray, List.set_cons_zero, List.set_cons_succ]
  refine wpAnyH_take (i := 1) (oi := ⟨_, _, _, _, _, _⟩) (v := ?_) rfl (by kernel_rfl) (by kernel_rfl) (by kernel_rfl) (fun _ _ _ h => h) (Or.inl ⟨by rfl, ?_⟩) (by assumption) ?_
  rotate_left
  · (intro w hSw; (try dsimp only at hSw); go_simp; (try with_reducible rfl))
  try simp only [Act.put, List.setIfInBounds_toArray, List.set_cons_zero, List.set_cons_succ]
  refine wpAnyH_take (i := 2) (oi := ⟨_, _, _, _, _, _⟩) (v := ?_) rfl (by kernel_rfl) (by kernel_rfl) (by kernel_rfl) (fun _ _ _ h => h) (Or.inl ⟨by rfl, ?_⟩) (by assumption) ?_
  rotate_left
  · (intro w hSw; (try dsimp only at hSw); go_simp; (try with_reducible rfl))
  try simp only [Act.put, List.setIfInBounds_toArray, List.set_cons_zero, List.set_cons_succ]
  refine wpAnyH_take (i := 3) (oi := ⟨_, _, _, _, _, _⟩) (v := ?_) rfl (by kernel_rfl) (by kernel_rfl) (by kernel_rfl) (fun _ _ _ h => h) (Or.inl ⟨by rfl, ?_⟩) (by assumption) ?_
  rotate_left
  · (intro w hSw; (try dsimp only at hSw); go_simp; (try with_reducible rfl))
  try simp only [Act.put, List.setIfInBounds_toArray, List.set_cons_zero, List.set_cons_succ]
  refine wpAnyH_take (i := 4) (oi := ⟨_, _, _, _, _, _⟩) (v := ?_) rfl (by kernel_rfl) (by kernel_rfl) (by kernel_rfl) (fun _ _ _ h => h) (Or.inl ⟨by rfl, ?_⟩) (by assumption) ?_
  rotate_left
  · (intro w hSw; (try dsimp only at hSw); go_simp; (try with_reducible rfl))
  try simp only [Act.put, List.setIfInBounds_toArray, List.set_cons_zero, List.set_cons_succ]
  refine wpAnyH_take (i := 5) (oi := ⟨_, _, _, _, _, _⟩) (v := ?_) rfl (by kernel_rfl) (by kernel_rfl) (by kernel_rfl) (fun _ _ _ h => h) (Or.inl ⟨by rfl, ?_⟩) (by assumption) ?_
  rotate_left
  · (intro w hSw; (try dsimp only at hSw); go_simp; (try with_reducible rfl))
  try simp only [Act.put, List.setIfInBounds_toArray, List.set_cons_zero, List.set_cons_succ]
  refine wpAnyH_take (i := 6) (oi := ⟨_, _, _, _, _, _⟩) (v := ?_) rfl (by kernel_rfl) (by kernel_rfl) (by kernel_rfl) (fun _ _ _ h => h) (Or.inl ⟨by rfl, ?_⟩) (by assumption) ?_
  rotate_left
  · (intro w hSw; (try dsimp only at hSw); go_simp; (try with_reducible rfl))
  try simp only [Act.put, List.setIfInBounds_toArray, List.set_cons_zero, List.set_cons_succ]
  refine wpAnyH_take (i := 7) (oi := ⟨_, _, _, _, _, _⟩) (v := ?_) rfl (by kernel_rfl) (by kernel_rfl) (by kernel_rfl) (fun _ _ _ h => h) (Or.inl ⟨by rfl, ?_⟩) (by assumption) ?_
  rotate_left
  · (intro w hSw; (try dsimp only at hSw); go_simp; (try with_reducible rfl))
  try simp only [Act.put, List.setIfInBounds_toArray, List.set_cons_zero, List.set_cons_succ]
  refine wpAnyH_take (i := 8) (oi := ⟨_, _, _, _, _, _⟩) (v := ?_) rfl (by kernel_rfl) (by kernel_rfl) (by kernel_rfl) (fun _ _ _ h => h) (Or.inl ⟨by rfl, ?_⟩) (by assumption) ?_
  rotate_left
  · (intro w hSw; (try dsimp only at hSw); go_simp; (try with_reducible rfl))
  try simp only [Act.put, List.setIfInBounds_toArray, List.set_cons_zero, List.set_cons_succ]
  refine wpAnyH_take (i := 9) (oi := ⟨_, _, _, _, _, _⟩) (v := ?_) rfl (by kernel_rfl) (by kernel_rfl) (by kernel_rfl) (fun _ _ _ h => h) (Or.inl ⟨by rfl, ?_⟩) (by assumption) ?_
  rotate_left
  · (intro w hSw; (try dsimp only at hSw); go_simp; (try with_reducible rfl))
  try simp only [Act.put, List.setIfInBounds_toArray, List.set_cons_zero, List.set_cons_succ]
  refine wpAnyH_ready (rs := [10]) (by kernel_rfl) (by simp) ?_
  refine AllReadyH.cons (o := ⟨_, _, _, _, _, _⟩) rfl (fun K hK => ?_) AllReadyH.nil
  go_simp
  refine hK.out _ _ ⟨(three_other W w.heap.size g 0 (by omega) _ _ _).trans c0, (three_other W w.heap.size g 1 (by omega) _ _ _).trans c1⟩ (fun hHeld => ?_)
  clear hK K
  try simp only [Act.put, List.setIfInBounds_toArray, List.set_cons_zero, List.set_cons_succ]
  refine wpAnyH_done (by kernel_rfl) ?_ _
  have BF : Hid (Below w.heap.size w (((W.setCell ⟨w.heap.size, 0, none⟩ (.int .i64 0)).setCell ⟨w.heap.size, 1, none⟩ (.slice qa ts.length qc)).setCell ⟨w.heap.size, 2, none⟩ (.slice pa hs.length pc)).drew) := Hid.mk' (((HB.out.setCell (p := ⟨w.heap.size, 0, none⟩) (by simp) _).setCell (p := ⟨w.heap.size, 1, none⟩) (by simp) _).setCell (p := ⟨w.heap.size, 2, none⟩) (by simp) _).drew
  have LF := Hid.mk' (H.out.below BF.out)
  clear hHeld
  go_wp2
  refine bodyPost_ret (v := .agg #[.int .i64 0, .slice qa ts.length qc, .slice pa hs.length pc]) (by simp [results, Tryz.results17, go_sem, *]) rfl ?_
  exact ⟨rfl, LF.out, BF.out⟩

end Go.Proofs.YtgkdplooocbonaaGreatDoor
