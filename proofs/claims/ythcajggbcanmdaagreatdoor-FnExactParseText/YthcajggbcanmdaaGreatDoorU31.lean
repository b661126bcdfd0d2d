/- Attributes copied, by the program and by the model. -/
import Derived.Test.YthcajggbcanmdaaGreatDoorU29
import Derived.Test.YthcajggbcanmdaaGreatDoorU11
import Derived.Lib.LazyBuf
import Derived.Test.YthcajggbcanmdaaGreatDoorU30
set_option linter.unusedVariables false
set_option linter.unusedSimpArgs false
namespace Go.Proofs.YthcajggbcanmdaaGreatDoor
open Go.RowKit

theorem cloneS_any (s : ByteArray) (w : World) (hs : s.size ≤ 1048576) :
    Calls Tryz.prog 140 #[.string s] w fun e w' => e = .returned (.string s) ∧ Below w.heap.size w w' := by
  go_enter Tryz.func140, Tryz.ntmps140
  go_wp2_with fail
  refine (Tryz.stringslite_Clone s w (by omega)).mono ?_
  rintro e w1 ⟨rfl, hb⟩
  have HB := Hid.mk' hb
  clear hb
  go_wp2
  go_ret
  exact ⟨rfl, HB.out⟩

set_option maxRecDepth 100000 in
theorem bytesClone_own (a : Option Addr) (c : Nat) (l : List Int) (w : World) (ha : BAt w a l) (hl : (l.length : Int) ≤ 1048576) :
    Calls Tryz.prog 142 #[.slice a l.length c] w fun e w' => ∃ v, e = .returned v ∧ w'.ownsRow w.heap.size 5 1 v l.length (bcs l) ∧ Below w.heap.size w w' := by
  cases a with
  | none =>
    have e : l = [] := by
      rcases ha with h | ⟨_, _, h, _⟩
      · exact h
      · cases h
    subst e
    have hnil : ∀ W, (binOp .eql 22 (.slice none 0 c) (.slice none 0 0)).run Tryz.prog W = .ok (.bool true) W := fun W => Go.run_eql_slice_nil W _ _ none 0 c Tryz.underlying22
    go_enter Tryz.func142, Tryz.ntmps142
    go_wp2
    go_ret
    exact ⟨_, rfl, ⟨rfl, .inl ⟨rfl, rfl⟩⟩, Below.refl _ _⟩
  | some ad =>
    have B0 := below_new w (.cells #[] 5)
    have hnil : ∀ W, (binOp .eql 22 (.slice (some ad) l.length c) (.slice none 0 0)).run Tryz.prog W = .ok (.bool false) W := fun W => Go.run_eql_slice_nil W _ _ (some ad) l.length c Tryz.underlying22
    go_enter Tryz.func142, Tryz.ntmps142
    go_wp2_with (at_builtin; refine wpList_append_any _ rfl (.tmp 5) (.tmp 6) 22 rfl w.heap.size 5 (.int .u8 0) 1 1 Tryz.underlying22 Tryz.info5 rfl (by decide) _ 0 [] rfl (World.ownsRow_lit w #[] 0 (Nat.le_refl _) (by decide) rfl) (some ad) l.length c (bcs l) rfl (bcs_len l) (ha.below B0).src (bcs_one l) (by unfold maxLen; omega) (by omega) (by simp) ?_; intro v' w1 hown hgr)
    go_ret
    rw [Nat.zero_add, List.nil_append] at hown
    refine ⟨_, rfl, hown, B0.grown hgr (by simp) (fun k hk => ?_)⟩
    simp [Act.eval, Value.ownBlock] at hk
    omega

def CpA (l : List AT) (w : World) (e : Ending) (w' : World) : Prop := ∃ v us, e = .returned v ∧ OA w.heap.size w' v l us ∧ Below w.heap.size w w'

theorem asz_at {l : List AT} {k : Nat} (h : k < l.length) : (atK l k).vl.length + (atK l k).nm.size ≤ asz l := by
  have := asz_take l k h
  have := asz_le l (k + 1)
  omega

theorem at_take {l : List AT} {k : Nat} (h : k < l.length) : l.take (k + 1) = l.take k ++ [atK l k] := by
  rw [List.take_add_one, List.getElem?_eq_getElem h]
  simp [atK, List.getD_eq_getElem?_getD, List.getElem?_eq_getElem h]

set_option maxRecDepth 100000 in
set_option maxHeartbeats 6400000 in
theorem copyAttrs_own (a : Option Addr) (c : Nat) (l : List AT) (w : World) (ha : AAt w a l) (hl : (l.length : Int) + asz l ≤ 1048576) :
    Calls Tryz.prog 141 #[.slice a l.length c] w fun e w' => CpA l w e w' := by
  have HA := Hid.mk' ha
  clear ha
  go_enter Tryz.func141, Tryz.ntmps141
  go_wp2
  go_loopw [3, 8] (fun v i wr => ∃ (k : Nat) (us : List Value), k ≤ l.length ∧ i = .int .i64 k ∧ OA w.heap.size wr v (l.take k) us ∧ Below w.heap.size w wr) (fun _ i _ => l.length - (intOf i).toNat)
  case atStart => exact ⟨0, [], Nat.zero_le _, rfl, by simpa using OA.nil w.heap.size w, Below.refl _ _⟩
  case round =>
    obtain ⟨k, us, hk, rfl, hoa, hbl⟩ := hrel
    have HB := Hid.mk' hbl
    obtain ⟨av, cv, ev, _⟩ := own_len hoa.row
    have lt_ : (l.take k).length = k := by rw [List.length_take]; omega
    rw [lt_] at ev
    subst ev
    by_cases hlt : k < l.length
    · have ci : (k : Int) < (l.length : Int) := by omega
      rcases HA.out with h0 | ⟨b1, o1, rfl, s0, hc1⟩
      · exact absurd hlt (by rw [h0]; exact Nat.not_lt_zero _)
      obtain ⟨h1, p1, d1, h2, h3⟩ := hc1 k hlt
      replace h1 := (hbl.cell s0).trans h1
      replace h2 := (hbl.cell s0).trans h2
      replace h3 := h3.below hbl
      have s1 := Nat.lt_of_lt_of_le s0 hbl.size
      have sz1 : (atK l k).vl.length + (atK l k).nm.size ≤ asz l := asz_at hlt
      have AT1 := Hid.mk' (at_take hlt)
      have HO := Hid.mk' hoa
      have H3 := Hid.mk' h3
      clear hc1 h3 hoa
      have N1 := below_new wr (.cells #[.string (atK l k).nm, .slice p1 (atK l k).vl.length d1] 82)
      have RB := Hid.mk' (rowp2 wr 82 (.string (atK l k).nm) (.slice p1 (atK l k).vl.length d1))
      have HN1 := Hid.mk' N1
      clear N1
      generalize hW : wr.alloc (.cells #[.string (atK l k).nm, .slice p1 (atK l k).vl.length d1] 82) = W at *
      obtain ⟨x0, x1, x2⟩ := cells2 RB.out
      go_wp2_with fail
      clear hW h1 h2
      refine wp_region_held_drew (S := fun w' => w'.cell? ⟨wr.heap.size, 0, none⟩ = some (.string (atK l k).nm) ∧ w'.cell? ⟨wr.heap.size, 1, none⟩ = some (.slice p1 (atK l k).vl.length d1)) (by kernel_rfl) (by simp [*]) (fun hHeld => ?_)
      refine wpAnyH_take (i := 0) (oi := ⟨_, _, _, _, _, _⟩) (v := ?_) rfl (by kernel_rfl) (by kernel_rfl) (by kernel_rfl) (fun _ _ _ h => h) (Or.inl ⟨by rfl, ?_⟩) (by assumption) ?_
      rotate_left
      · (intro w hSw; (try dsimp only at hSw); go_simp; (try with_reducible rfl))
      try simp only [Act.put, zA, zB, zC]
      refine wpAnyH_take (i := 1) (oi := ⟨_, _, _, _, _, _⟩) (v := ?_) rfl (by kernel_rfl) (by kernel_rfl) (by kernel_rfl) (fun _ _ _ h => h) (Or.inl ⟨by rfl, ?_⟩) (by assumption) ?_
      rotate_left
      · (intro w hSw; (try dsimp only at hSw); go_simp; (try with_reducible rfl))
      try simp only [Act.put, zA, zB, zC]
      refine wpAnyH_take (i := 2) (oi := ⟨_, _, _, _, _, _⟩) (v := ?_) rfl (by kernel_rfl) (by kernel_rfl) (by kernel_rfl) (fun _ _ _ h => h) (Or.inl ⟨by rfl, ?_⟩) (by assumption) ?_
      rotate_left
      · (intro w hSw; (try dsimp only at hSw); go_simp; (try with_reducible rfl))
      try simp only [Act.put, zA, zB, zC]
      refine wpAnyH_take (i := 4) (oi := ⟨_, _, _, _, _, _⟩) (v := ?_) rfl (by kernel_rfl) (by kernel_rfl) (by kernel_rfl) (fun _ _ _ h => h) (Or.inl ⟨by rfl, ?_⟩) (by assumption) ?_
      rotate_left
      · (intro w hSw; (try dsimp only at hSw); go_simp; (try with_reducible rfl))
      try simp only [Act.put, zA, zB, zC]
      refine wpAnyH_take (i := 5) (oi := ⟨_, _, _, _, _, _⟩) (v := ?_) rfl (by kernel_rfl) (by kernel_rfl) (by kernel_rfl) (fun _ _ _ h => h) (Or.inl ⟨by rfl, ?_⟩) (by assumption) ?_
      rotate_left
      · (intro w hSw; (try dsimp only at hSw); go_simp; (try with_reducible rfl))
      try simp only [Act.put, zA, zB, zC]
      refine wpAnyH_ready (rs := [3]) (by kernel_rfl) (by simp) ?_
      refine AllReadyH.cons (o := ⟨_, _, _, _, _, _⟩) rfl (fun K hK => ?_) AllReadyH.nil
      go_simp
      go_at_call 140
      refine (cloneS_any (atK l k).nm W.drew (by omega)).mono ?_
      rintro e w1 ⟨rfl, hb1⟩
      replace hb1 := undrew hb1
      have y0 := (hb1.cell x2).trans x0
      have y1 := (hb1.cell x2).trans x1
      have y2 := Nat.lt_of_lt_of_le x2 hb1.size
      have B1 : Hid (Below wr.heap.size wr w1) := Hid.mk' (HN1.out.trans (hb1.mono HN1.out.size))
      clear hb1
      refine hK.out _ _ ⟨y0, y1⟩ (fun hHeld => ?_)
      clear hK K
      try simp only [Act.put, zA, zB, zC]
      refine wpAnyH_ready (rs := [6]) (by kernel_rfl) (by simp) ?_
      refine AllReadyH.cons (o := ⟨_, _, _, _, _, _⟩) rfl (fun K hK => ?_) AllReadyH.nil
      go_simp
      go_at_call 142
      refine (bytesClone_own p1 d1 (atK l k).vl w1 (H3.out.below B1.out) (by omega)).mono ?_
      rintro e w2 ⟨u, rfl, hu, hb2⟩
      obtain ⟨pu, cu, eu, _⟩ := own_len hu
      subst eu
      have z0 := (hb2.cell y2).trans y0
      have z1 := (hb2.cell y2).trans y1
      have z2 := Nat.lt_of_lt_of_le y2 hb2.size
      have LO1 : Hid (wr.heap.size ≤ w1.heap.size) := Hid.mk' B1.out.size
      have B2 : Hid (Below wr.heap.size wr w2) := Hid.mk' (B1.out.trans (hb2.mono B1.out.size))
      have HU := Hid.mk' hu
      clear hb2 hu
      refine hK.out _ _ ⟨z0, z1⟩ (fun hHeld => ?_)
      clear hK K
      try simp only [Act.put, zA, zB, zC]
      refine wpAnyH_take (i := 7) (oi := ⟨_, _, _, _, _, _⟩) (v := ?_) rfl (by kernel_rfl) (by kernel_rfl) (by kernel_rfl) (fun _ _ _ h => h) (Or.inl ⟨by rfl, ?_⟩) (by assumption) ?_
      rotate_left
      · (intro w hSw; (try dsimp only at hSw); go_simp; (try with_reducible rfl))
      try simp only [Act.put, zA, zB, zC]
      refine wpAnyH_ready (rs := [8]) (by kernel_rfl) (by simp) ?_
      refine AllReadyH.cons (o := ⟨_, _, _, _, _, _⟩) rfl (fun K hK => ?_) AllReadyH.nil
      go_simp
      have NN := below_new w2 (.cells #[.string (atK l k).nm, .slice pu (atK l k).vl.length cu] 82)
      have q0 := (NN.cell z2).trans z0
      have q1 := (NN.cell z2).trans z1
      have q2 := Nat.lt_of_lt_of_le z2 NN.size
      have B3 : Hid (Below wr.heap.size wr _) := Hid.mk' (B2.out.trans (NN.mono B2.out.size))
      have OW := Hid.mk' (HO.out.below B3.out)
      have HU2 := Hid.mk' (own_keep HU.out NN)
      clear NN
      refine hK.out _ _ ⟨q0, q1⟩ (fun hHeld => ?_)
      clear hK K
      try simp only [Act.put, zA, zB, zC]
      refine wpAnyH_ready (rs := [9]) (by kernel_rfl) (by simp) ?_
      refine AllReadyH.cons (o := ⟨_, _, _, _, _, _⟩) rfl (fun K hK => ?_) AllReadyH.nil
      refine step_append_at rfl (.tmp 12) (.tmp 20) 35 rfl w.heap.size 82 (.agg #[.string ⟨#[]⟩, .slice none 0 0]) 2 40 Tryz.underlying35 Tryz.info82 rfl (by decide) _ k _ rfl (by have := OW.out.row; rw [lt_] at this; exact this) _ 1 _ [.string (atK l k).nm, .slice pu (atK l k).vl.length cu] rfl rfl (.inr ⟨_, rfl, one_attr w2 _ _ _ _ rfl⟩) (by simp [Value.oneCell']) (by unfold maxLen; omega) (by omega) (Nat.le_trans HB.out.size B3.out.size) ?_
      intro v' w4 ho hgr hat
      have ho' : w4.ownsRow w.heap.size 82 2 v' ((l.take k).length + 1) (acs (l.take k) us ++ [.string (atK l k).nm, .slice pu (atK l k).vl.length cu]) := by rw [lt_]; exact ho
      have A4 := HO.out.app (w1 := w2.alloc (.cells #[.string (atK l k).nm, .slice pu (atK l k).vl.length cu] 82)) (w2 := w4) (a := atK l k) (u := .slice pu (atK l k).vl.length cu) B3.out (OB.of_own HU2.out).1 HB.out.size (fun j e => Nat.le_trans LO1.out ((OB.of_own HU2.out).2 j e)) ho' hgr hat
      rw [← AT1.out] at A4
      have HA4 := Hid.mk' A4
      have HB4 := Hid.mk' ((HB.out.trans (B3.out.mono HB.out.size)).grown hgr (Nat.le_trans HB.out.size B3.out.size) (own_lo OW.out.row))
      have gne : ∀ j, (Value.slice av k cv).ownBlock = some j → ¬ j = wr.heap.size := fun j e => by have := (HO.out.row.lt j e).2; omega
      have r0 := hgr.cell q0 (fun e => gne _ e.symm rfl)
      have r1 := hgr.cell q1 (fun e => gne _ e.symm rfl)
      clear ho ho' hgr hat A4
      refine hK.out _ _ ⟨r0, r1⟩ (fun hHeld => ?_)
      clear hK K
      try simp only [Act.put, zA, zB, zC]
      refine wpAnyH_take (i := 10) (oi := ⟨_, _, _, _, _, _⟩) (v := ?_) rfl (by kernel_rfl) (by kernel_rfl) (by kernel_rfl) (fun _ _ _ h => h) (Or.inl ⟨by rfl, ?_⟩) (by assumption) ?_
      rotate_left
      · (intro w hSw; (try dsimp only at hSw); go_simp; (try with_reducible rfl))
      try simp only [Act.put, zA, zB, zC]
      refine wpAnyH_done (by kernel_rfl) ?_ _
      obtain ⟨aw, cw, ew, _⟩ := own_len HA4.out.row
      subst ew
      go_wp2
      go_roundw
      case rel => exact ⟨k + 1, _, by omega, by go_num, HA4.out, HB4.out⟩
      case measure => simp [intOf]; omega
    · have ci : ¬ (k : Int) < (l.length : Int) := by omega
      have e : k = l.length := by omega
      subst e
      rw [List.take_length] at hoa
      have HO := Hid.mk' hoa
      clear hoa hbl
      go_wp2
      go_ret
      exact ⟨_, us, rfl, HO.out, HB.out⟩

set_option maxRecDepth 100000 in
set_option maxHeartbeats 6400000 in
theorem l4CopyAttrs_own (a : Option Addr) (c : Nat) (l : List AT) (w : World) (ha : AAt w a l) (hl : (l.length : Int) + asz l ≤ 1048576) :
    Calls Tryz.prog 130 #[.slice a l.length c] w fun e w' => CpA l w e w' := by
  have HA := Hid.mk' ha
  clear ha
  go_enter Tryz.func130, Tryz.ntmps130
  go_wp2
  go_loopw [3, 4] (fun v i wr => ∃ (k : Nat) (us : List Value), k ≤ l.length ∧ i = .int .i64 k ∧ OA w.heap.size wr v (l.take k) us ∧ Below w.heap.size w wr) (fun _ i _ => l.length - (intOf i).toNat)
  case atStart => exact ⟨0, [], Nat.zero_le _, rfl, ⟨rfl, by simpa [acs] using World.ownsRow_lit (base := w.heap.size) (e := 82) (size := 2) w #[] 0 (Nat.le_refl _) (by decide) rfl, fun j h => absurd h (by simp), fun j h => absurd h (by simp), fun i j _ h => absurd h (by simp), fun j h => absurd h (by simp)⟩, below_new _ _⟩
  case round =>
    obtain ⟨k, us, hk, rfl, hoa, hbl⟩ := hrel
    have HB := Hid.mk' hbl
    obtain ⟨av, cv, ev, _⟩ := own_len hoa.row
    have lt_ : (l.take k).length = k := by rw [List.length_take]; omega
    rw [lt_] at ev
    subst ev
    by_cases hlt : k < l.length
    · have ci : (k : Int) < (l.length : Int) := by omega
      rcases HA.out with h0 | ⟨b1, o1, rfl, s0, hc1⟩
      · exact absurd hlt (by rw [h0]; exact Nat.not_lt_zero _)
      obtain ⟨h1, p1, d1, h2, h3⟩ := hc1 k hlt
      replace h1 := (hbl.cell s0).trans h1
      replace h2 := (hbl.cell s0).trans h2
      replace h3 := h3.below hbl
      have s1 := Nat.lt_of_lt_of_le s0 hbl.size
      have sz1 : (atK l k).vl.length + (atK l k).nm.size ≤ asz l := asz_at hlt
      have AT1 := Hid.mk' (at_take hlt)
      have HO := Hid.mk' hoa
      have H3 := Hid.mk' h3
      clear hc1 h3 hoa
      go_wp2_with fail
      have GNE : Hid (∀ j, (Value.slice av k cv).ownBlock = some j → ¬ j = b1) := Hid.mk' (fun j e ej => by subst ej; have := (HO.out.row.lt j e).1; omega)
      refine wp_region_held_drew (S := fun w' => w'.cell? ⟨b1, o1 + k * 2, none⟩ = some (.string (atK l k).nm) ∧ w'.cell? ⟨b1, o1 + k * 2 + 1, none⟩ = some (.slice p1 (atK l k).vl.length d1)) (by kernel_rfl) (by simp [*]) (fun hHeld => ?_)
      refine wpAnyH_take (i := 0) (oi := ⟨_, _, _, _, _, _⟩) (v := ?_) rfl (by kernel_rfl) (by kernel_rfl) (by kernel_rfl) (fun _ _ _ h => h) (Or.inl ⟨by rfl, ?_⟩) (by assumption) ?_
      rotate_left
      · (intro w hSw; (try dsimp only at hSw); go_simp; (try with_reducible rfl))
      try simp only [Act.put, zA, zB, zC]
      refine wpAnyH_take (i := 1) (oi := ⟨_, _, _, _, _, _⟩) (v := ?_) rfl (by kernel_rfl) (by kernel_rfl) (by kernel_rfl) (fun _ _ _ h => h) (Or.inl ⟨by rfl, ?_⟩) (by assumption) ?_
      rotate_left
      · (intro w hSw; (try dsimp only at hSw); go_simp; (try with_reducible rfl))
      try simp only [Act.put, zA, zB, zC]
      refine wpAnyH_take (i := 2) (oi := ⟨_, _, _, _, _, _⟩) (v := ?_) rfl (by kernel_rfl) (by kernel_rfl) (by kernel_rfl) (fun _ _ _ h => h) (Or.inl ⟨by rfl, ?_⟩) (by assumption) ?_
      rotate_left
      · (intro w hSw; (try dsimp only at hSw); go_simp; (try with_reducible rfl))
      try simp only [Act.put, zA, zB, zC]
      refine wpAnyH_take (i := 3) (oi := ⟨_, _, _, _, _, _⟩) (v := ?_) rfl (by kernel_rfl) (by kernel_rfl) (by kernel_rfl) (fun _ _ _ h => h) (Or.inl ⟨by rfl, ?_⟩) (by assumption) ?_
      rotate_left
      · (intro w hSw; (try dsimp only at hSw); go_simp; (try with_reducible rfl))
      try simp only [Act.put, zA, zB, zC]
      refine wpAnyH_take (i := 4) (oi := ⟨_, _, _, _, _, _⟩) (v := ?_) rfl (by kernel_rfl) (by kernel_rfl) (by kernel_rfl) (fun _ _ _ h => h) (Or.inl ⟨by rfl, ?_⟩) (by assumption) ?_
      rotate_left
      · (intro w hSw; (try dsimp only at hSw); go_simp; (try with_reducible rfl))
      try simp only [Act.put, zA, zB, zC]
      refine wpAnyH_take (i := 5) (oi := ⟨_, _, _, _, _, _⟩) (v := ?_) rfl (by kernel_rfl) (by kernel_rfl) (by kernel_rfl) (fun _ _ _ h => h) (Or.inl ⟨by rfl, ?_⟩) (by assumption) ?_
      rotate_left
      · (intro w hSw; (try dsimp only at hSw); go_simp; (try with_reducible rfl))
      try simp only [Act.put, zA, zB, zC]
      refine wpAnyH_take (i := 6) (oi := ⟨_, _, _, _, _, _⟩) (v := ?_) rfl (by kernel_rfl) (by kernel_rfl) (by kernel_rfl) (fun _ _ _ h => h) (Or.inl ⟨by rfl, ?_⟩) (by assumption) ?_
      rotate_left
      · (intro w hSw; (try dsimp only at hSw); go_simp; (try with_reducible rfl))
      try simp only [Act.put, zA, zB, zC]
      refine wpAnyH_take (i := 7) (oi := ⟨_, _, _, _, _, _⟩) (v := ?_) rfl (by kernel_rfl) (by kernel_rfl) (by kernel_rfl) (fun _ _ _ h => h) (Or.inl ⟨by rfl, ?_⟩) (by assumption) ?_
      rotate_left
      · (intro w hSw; (try dsimp only at hSw); go_simp; (try with_reducible rfl))
      try simp only [Act.put, zA, zB, zC]
      refine wpAnyH_take (i := 8) (oi := ⟨_, _, _, _, _, _⟩) (v := ?_) rfl (by kernel_rfl) (by kernel_rfl) (by kernel_rfl) (fun _ _ _ h => h) (Or.inl ⟨by rfl, ?_⟩) (by assumption) ?_
      rotate_left
      · (intro w hSw; (try dsimp only at hSw); go_simp; (try with_reducible rfl))
      try simp only [Act.put, zA, zB, zC]
      refine wpAnyH_take (i := 9) (oi := ⟨_, _, _, _, _, _⟩) (v := ?_) rfl (by kernel_rfl) (by kernel_rfl) (by kernel_rfl) (fun _ _ _ h => h) (Or.inl ⟨by rfl, ?_⟩) (by assumption) ?_
      rotate_left
      · (intro w hSw; (try dsimp only at hSw); go_simp; (try with_reducible rfl))
      try simp only [Act.put, zA, zB, zC]
      refine wpAnyH_take (i := 10) (oi := ⟨_, _, _, _, _, _⟩) (v := ?_) rfl (by kernel_rfl) (by kernel_rfl) (by kernel_rfl) (fun _ _ _ h => h) (Or.inl ⟨by rfl, ?_⟩) (by assumption) ?_
      rotate_left
      · (intro w hSw; (try dsimp only at hSw); go_simp; (try with_reducible rfl))
      try simp only [Act.put, zA, zB, zC]
      refine wpAnyH_ready (rs := [11]) (by kernel_rfl) (by simp) ?_
      refine AllReadyH.cons (o := ⟨_, _, _, _, _, _⟩) rfl (fun K hK => ?_) AllReadyH.nil
      go_simp
      go_at_call 68
      refine (l1Copy_own p1 d1 (atK l k).vl wr.drew (H3.out.below (Below.refl _ _).drew) (by omega)).mono ?_
      rintro e w2 ⟨u, rfl, hu, hb2⟩
      replace hb2 := undrew hb2
      obtain ⟨pu, cu, eu, _⟩ := own_len hu
      subst eu
      have z0 := (hb2.cell s1).trans h1
      have z1 := (hb2.cell s1).trans h2
      have z2 := Nat.lt_of_lt_of_le s1 hb2.size
      have B2 : Hid (Below wr.heap.size wr w2) := Hid.mk' hb2
      have LO1 : Hid (wr.heap.size ≤ wr.heap.size) := Hid.mk' (Nat.le_refl _)
      have HU := Hid.mk' hu
      clear hb2 hu
      refine hK.out _ _ ⟨z0, z1⟩ (fun hHeld => ?_)
      clear hK K
      try simp only [Act.put, zA, zB, zC]
      refine wpAnyH_take (i := 12) (oi := ⟨_, _, _, _, _, _⟩) (v := ?_) rfl (by kernel_rfl) (by kernel_rfl) (by kernel_rfl) (fun _ _ _ h => h) (Or.inl ⟨by rfl, ?_⟩) (by assumption) ?_
      rotate_left
      · (intro w hSw; (try dsimp only at hSw); go_simp; (try with_reducible rfl))
      try simp only [Act.put, zA, zB, zC]
      refine wpAnyH_ready (rs := [13]) (by kernel_rfl) (by simp) ?_
      refine AllReadyH.cons (o := ⟨_, _, _, _, _, _⟩) rfl (fun K hK => ?_) AllReadyH.nil
      go_simp
      have NN := below_new w2 (.cells #[.string (atK l k).nm, .slice pu (atK l k).vl.length cu] 82)
      have q0 := (NN.cell z2).trans z0
      have q1 := (NN.cell z2).trans z1
      have q2 := Nat.lt_of_lt_of_le z2 NN.size
      have B3 : Hid (Below wr.heap.size wr _) := Hid.mk' (B2.out.trans (NN.mono B2.out.size))
      have OW := Hid.mk' (HO.out.below B3.out)
      have HU2 := Hid.mk' (own_keep HU.out NN)
      clear NN
      refine hK.out _ _ ⟨q0, q1⟩ (fun hHeld => ?_)
      clear hK K
      try simp only [Act.put, zA, zB, zC]
      refine wpAnyH_ready (rs := [14]) (by kernel_rfl) (by simp) ?_
      refine AllReadyH.cons (o := ⟨_, _, _, _, _, _⟩) rfl (fun K hK => ?_) AllReadyH.nil
      refine step_append_at rfl (.tmp 12) (.tmp 25) 35 rfl w.heap.size 82 (.agg #[.string ⟨#[]⟩, .slice none 0 0]) 2 40 Tryz.underlying35 Tryz.info82 rfl (by decide) _ k _ rfl (by have := OW.out.row; rw [lt_] at this; exact this) _ 1 _ [.string (atK l k).nm, .slice pu (atK l k).vl.length cu] rfl rfl (.inr ⟨_, rfl, one_attr w2 _ _ _ _ rfl⟩) (by simp [Value.oneCell']) (by unfold maxLen; omega) (by omega) (Nat.le_trans HB.out.size B3.out.size) ?_
      intro v' w4 ho hgr hat
      have ho' : w4.ownsRow w.heap.size 82 2 v' ((l.take k).length + 1) (acs (l.take k) us ++ [.string (atK l k).nm, .slice pu (atK l k).vl.length cu]) := by rw [lt_]; exact ho
      have A4 := HO.out.app (w1 := w2.alloc (.cells #[.string (atK l k).nm, .slice pu (atK l k).vl.length cu] 82)) (w2 := w4) (a := atK l k) (u := .slice pu (atK l k).vl.length cu) B3.out (OB.of_own HU2.out).1 HB.out.size (fun j e => Nat.le_trans LO1.out ((OB.of_own HU2.out).2 j e)) ho' hgr hat
      rw [← AT1.out] at A4
      have HA4 := Hid.mk' A4
      have HB4 := Hid.mk' ((HB.out.trans (B3.out.mono HB.out.size)).grown hgr (Nat.le_trans HB.out.size B3.out.size) (own_lo OW.out.row))
      have gne : ∀ j, (Value.slice av k cv).ownBlock = some j → ¬ j = b1 := fun j e => GNE.out j e
      have r0 := hgr.cell q0 (fun e => gne _ e.symm rfl)
      have r1 := hgr.cell q1 (fun e => gne _ e.symm rfl)
      clear ho ho' hgr hat A4
      refine hK.out _ _ ⟨r0, r1⟩ (fun hHeld => ?_)
      clear hK K
      try simp only [Act.put, zA, zB, zC]
      refine wpAnyH_take (i := 15) (oi := ⟨_, _, _, _, _, _⟩) (v := ?_) rfl (by kernel_rfl) (by kernel_rfl) (by kernel_rfl) (fun _ _ _ h => h) (Or.inl ⟨by rfl, ?_⟩) (by assumption) ?_
      rotate_left
      · (intro w hSw; (try dsimp only at hSw); go_simp; (try with_reducible rfl))
      try simp only [Act.put, zA, zB, zC]
      refine wpAnyH_done (by kernel_rfl) ?_ _
      obtain ⟨aw, cw, ew, _⟩ := own_len HA4.out.row
      subst ew
      go_wp2
      go_roundw
      case rel => exact ⟨k + 1, _, by omega, by go_num, HA4.out, HB4.out⟩
      case measure => simp [intOf]; omega
    · have ci : ¬ (k : Int) < (l.length : Int) := by omega
      have e : k = l.length := by omega
      subst e
      rw [List.take_length] at hoa
      have HO := Hid.mk' hoa
      clear hoa hbl
      go_wp2
      go_ret
      exact ⟨_, us, rfl, HO.out, HB.out⟩

end Go.Proofs.YthcajggbcanmdaaGreatDoor

namespace Go.Proofs.YthcajggbcanmdaaGreatDoor
open Go.RowKit

def CpN (l : List ND) (w : World) (e : Ending) (w' : World) : Prop := ∃ v τ va vt us, e = .returned v ∧ NS τ w.heap.size w' v l va vt us ∧ Below w.heap.size w w'

theorem nd_take {l : List ND} {k : Nat} (h : k < l.length) : l.take (k + 1) = l.take k ++ [ndK l k] := by
  rw [List.take_add_one, List.getElem?_eq_getElem h]
  simp [ndK, List.getD_eq_getElem?_getD, List.getElem?_eq_getElem h]

theorem NS.more {τ : Nat → Nat} {lo lo1 k : Nat} {w w2 w3 w4 w5 : World} {v v' : Value} {l : List ND} {va vt : Nat → Value} {us : Nat → List Value} (h : NS τ lo w v (l.take k) va vt us) (hk : k < l.length) (hlo : lo ≤ w.heap.size) {a x : Value} {u : List Value}
    (ha : OA lo1 w2 a (ndK l k).at_ u) (h1 : w.heap.size ≤ lo1) (h12 : lo1 ≤ w2.heap.size) (hx : w3.ownsRow w2.heap.size 5 1 x (ndK l k).tx.length (bcs (ndK l k).tx)) (b2 : Below w.heap.size w w2) (k3 : Kp (fun j => lo1 ≤ j) w2 w3) (k4 : Kp (fun j => lo1 ≤ j) w3 w4) (b4 : Below w.heap.size w w4)
    (ho : w5.ownsRow lo 91 4 v' (k + 1) (ncs (l.take k) va vt k ++ [.int .i64 (ndK l k).up, .string (ndK l k).tg, a, x])) (hg : w4.grownBy w5 v.ownBlock) (hv : v'.ownBlock = v.ownBlock ∨ v'.ownBlock = some w4.heap.size) :
    ∃ τ' va' vt' us', NS τ' lo w5 v' (l.take (k + 1)) va' vt' us' := by
  have lt_ : (l.take k).length = k := by rw [List.length_take]; omega
  have A3 : OA lo1 w4 a (ndK l k).at_ u := (ha.keepOf (fun j e hl => k3.block j hl (ha.row.lt j e).1) (fun i hi j e hl => k3.block j hl (ha.vlo i hi j e))).keepOf (fun j e hl => k4.block j hl (ha.row.lt j e).1) (fun i hi j e hl => k4.block j hl (ha.vlo i hi j e))
  have X4 : w4.ownsRow lo1 5 1 x (ndK l k).tx.length (bcs (ndK l k).tx) := own_of hx h12 (fun j e hl => k4.block j (hx.lt j e).2 (by omega))
  obtain ⟨τ', va', vt', us', hn, _⟩ := h.app (w1 := w4) (w2 := w5) b4 (t := ndK l k) A3 h1 X4 (fun j e => ⟨fun e2 => by have := (ha.row.lt j e2).2; have := (hx.lt j e).1; omega, fun i hi e2 => by have := (ha.val i hi).lt j e2; have := (hx.lt j e).1; omega⟩) hlo (by rw [lt_]; exact ho) hg hv
  rw [← nd_take hk] at hn
  exact ⟨τ', va', vt', us', hn⟩

theorem one_node (w : World) (t : TypeId) (x y z u : Value) (g : Nat) (hg : w.heap.size = g) : ∀ j q, ([x, y, z, u] : List Value)[j]? = some q → (w.alloc (.cells #[x, y, z, u] t)).cell? ((⟨g, 0, none⟩ : Addr).add j) = some q := by
  intro j q h
  subst hg
  match j, h with
  | 0, h => cases h; simp [Addr.add]
  | 1, h => cases h; simp [Addr.add]
  | 2, h => cases h; simp [Addr.add]
  | 3, h => cases h; simp [Addr.add]
  | j + 4, h => simp at h

set_option maxRecDepth 100000 in
set_option maxHeartbeats 12800000 in
theorem copyNodes_own (a : Option Addr) (c : Nat) (l : List ND) (w : World) (ha : NsAt w a l) (hl : (l.length : Int) + nssz l ≤ 1048576) :
    Calls Tryz.prog 109 #[.slice a l.length c] w fun e w' => CpN l w e w' := by
  have HA := Hid.mk' ha
  clear ha
  go_enter Tryz.func109, Tryz.ntmps109
  go_wp2
  go_loopw [3, 8] (fun v i wr => ∃ (k : Nat) (τ : Nat → Nat) (va vt : Nat → Value) (us : Nat → List Value), k ≤ l.length ∧ i = .int .i64 k ∧ NS τ w.heap.size wr v (l.take k) va vt us ∧ Below w.heap.size w wr) (fun _ i _ => l.length - (intOf i).toNat)
  case atStart => exact ⟨0, fun _ => 0, fun _ => undef, fun _ => undef, fun _ => [], Nat.zero_le _, rfl, by simpa using NS.nil (fun _ => 0) w.heap.size w _ _ _, Below.refl _ _⟩
  case round =>
    obtain ⟨k, τ, va, vt, us, hk, rfl, hns, hbl⟩ := hrel
    have HB := Hid.mk' hbl
    obtain ⟨av, cv, ev, _⟩ := own_len hns.row
    have lt_ : (l.take k).length = k := by rw [List.length_take]; omega
    rw [lt_] at ev
    subst ev
    by_cases hlt : k < l.length
    · have ci : (k : Int) < (l.length : Int) := by omega
      rcases HA.out with h0 | ⟨b1, o1, rfl, s0, hc1⟩
      · exact absurd hlt (by rw [h0]; exact Nat.not_lt_zero _)
      obtain ⟨h1, h2, ⟨p1, d1, h3, _, h4⟩, ⟨p2_, d2, h5, h6⟩⟩ := hc1 k hlt
      replace h1 := (hbl.cell s0).trans h1
      replace h2 := (hbl.cell s0).trans h2
      replace h3 := (hbl.cell s0).trans h3
      replace h5 := (hbl.cell s0).trans h5
      have H4 := Hid.mk' (h4.below hbl)
      have H6 := Hid.mk' (h6.below hbl)
      have s1 := Nat.lt_of_lt_of_le s0 hbl.size
      have sz1 := nssz_at hlt
      unfold nsz at sz1
      have HO := Hid.mk' hns
      clear hc1 h4 h6 hns
      have N1 := below_new wr (.cells #[.int .i64 (ndK l k).up, .string (ndK l k).tg, .slice p1 (ndK l k).at_.length d1, .slice p2_ (ndK l k).tx.length d2] 91)
      have RB := Hid.mk' (row4 wr 91 (.int .i64 (ndK l k).up) (.string (ndK l k).tg) (.slice p1 (ndK l k).at_.length d1) (.slice p2_ (ndK l k).tx.length d2))
      have HN1 := Hid.mk' N1
      clear N1
      generalize hW : wr.alloc (.cells #[.int .i64 (ndK l k).up, .string (ndK l k).tg, .slice p1 (ndK l k).at_.length d1, .slice p2_ (ndK l k).tx.length d2] 91) = W at *
      obtain ⟨x0, x1, x2, x3, x4⟩ := cells4 RB.out
      go_wp2_with fail
      clear hW h1 h2 h3 h5
      refine wp_region_held_drew (S := fun w' => w'.cell? ⟨wr.heap.size, 0, none⟩ = some (.int .i64 (ndK l k).up) ∧ w'.cell? ⟨wr.heap.size, 1, none⟩ = some (.string (ndK l k).tg) ∧ w'.cell? ⟨wr.heap.size, 2, none⟩ = some (.slice p1 (ndK l k).at_.length d1) ∧ w'.cell? ⟨wr.heap.size, 3, none⟩ = some (.slice p2_ (ndK l k).tx.length d2)) (by kernel_rfl) (by simp [*]) (fun hHeld => ?_)
      refine wpAnyH_take (i := 0) (oi := ⟨_, _, _, _, _, _⟩) (v := ?_) rfl (by kernel_rfl) (by kernel_rfl) (by kernel_rfl) (fun _ _ _ h => h) (Or.inl ⟨by rfl, ?_⟩) (by assumption) ?_
      rotate_left
      · (intro w hSw; (try dsimp only at hSw); go_simp; (try with_reducible rfl))
      try simp only [Act.put, zA, zB, zC]
      refine wpAnyH_take (i := 1) (oi := ⟨_, _, _, _, _, _⟩) (v := ?_) rfl (by kernel_rfl) (by kernel_rfl) (by kernel_rfl) (fun _ _ _ h => h) (Or.inl ⟨by rfl, ?_⟩) (by assumption) ?_
      rotate_left
      · (intro w hSw; (try dsimp only at hSw); go_simp; (try with_reducible rfl))
      try simp only [Act.put, zA, zB, zC]
      refine wpAnyH_take (i := 2) (oi := ⟨_, _, _, _, _, _⟩) (v := ?_) rfl (by kernel_rfl) (by kernel_rfl) (by kernel_rfl) (fun _ _ _ h => h) (Or.inl ⟨by rfl, ?_⟩) (by assumption) ?_
      rotate_left
      · (intro w hSw; (try dsimp only at hSw); go_simp; (try with_reducible rfl))
      try simp only [Act.put, zA, zB, zC]
      refine wpAnyH_take (i := 3) (oi := ⟨_, _, _, _, _, _⟩) (v := ?_) rfl (by kernel_rfl) (by kernel_rfl) (by kernel_rfl) (fun _ _ _ h => h) (Or.inl ⟨by rfl, ?_⟩) (by assumption) ?_
      rotate_left
      · (intro w hSw; (try dsimp only at hSw); go_simp; (try with_reducible rfl))
      try simp only [Act.put, zA, zB, zC]
      refine wpAnyH_take (i := 4) (oi := ⟨_, _, _, _, _, _⟩) (v := ?_) rfl (by kernel_rfl) (by kernel_rfl) (by kernel_rfl) (fun _ _ _ h => h) (Or.inl ⟨by rfl, ?_⟩) (by assumption) ?_
      rotate_left
      · (intro w hSw; (try dsimp only at hSw); go_simp; (try with_reducible rfl))
      try simp only [Act.put, zA, zB, zC]
      refine wpAnyH_take (i := 6) (oi := ⟨_, _, _, _, _, _⟩) (v := ?_) rfl (by kernel_rfl) (by kernel_rfl) (by kernel_rfl) (fun _ _ _ h => h) (Or.inl ⟨by rfl, ?_⟩) (by assumption) ?_
      rotate_left
      · (intro w hSw; (try dsimp only at hSw); go_simp; (try with_reducible rfl))
      try simp only [Act.put, zA, zB, zC]
      refine wpAnyH_take (i := 7) (oi := ⟨_, _, _, _, _, _⟩) (v := ?_) rfl (by kernel_rfl) (by kernel_rfl) (by kernel_rfl) (fun _ _ _ h => h) (Or.inl ⟨by rfl, ?_⟩) (by assumption) ?_
      rotate_left
      · (intro w hSw; (try dsimp only at hSw); go_simp; (try with_reducible rfl))
      try simp only [Act.put, zA, zB, zC]
      refine wpAnyH_take (i := 9) (oi := ⟨_, _, _, _, _, _⟩) (v := ?_) rfl (by kernel_rfl) (by kernel_rfl) (by kernel_rfl) (fun _ _ _ h => h) (Or.inl ⟨by rfl, ?_⟩) (by assumption) ?_
      rotate_left
      · (intro w hSw; (try dsimp only at hSw); go_simp; (try with_reducible rfl))
      try simp only [Act.put, zA, zB, zC]
      refine wpAnyH_take (i := 10) (oi := ⟨_, _, _, _, _, _⟩) (v := ?_) rfl (by kernel_rfl) (by kernel_rfl) (by kernel_rfl) (fun _ _ _ h => h) (Or.inl ⟨by rfl, ?_⟩) (by assumption) ?_
      rotate_left
      · (intro w hSw; (try dsimp only at hSw); go_simp; (try with_reducible rfl))
      try simp only [Act.put, zA, zB, zC]
      refine wpAnyH_ready (rs := [5]) (by kernel_rfl) (by simp) ?_
      refine AllReadyH.cons (o := ⟨_, _, _, _, _, _⟩) rfl (fun K hK => ?_) AllReadyH.nil
      go_simp
      go_at_call 140
      refine (cloneS_any (ndK l k).tg W.drew (by omega)).mono ?_
      rintro e w1 ⟨rfl, hb1⟩
      replace hb1 := undrew hb1
      have R1 := Hid.mk' (rowB RB.out hb1)
      obtain ⟨y0, y1, y2, y3, y4⟩ := cells4 R1.out
      have B1 : Hid (Below wr.heap.size wr w1) := Hid.mk' (HN1.out.trans (hb1.mono HN1.out.size))
      have LO1 : Hid (wr.heap.size ≤ w1.heap.size) := Hid.mk' B1.out.size
      clear hb1
      refine hK.out _ _ ⟨y0, y1, y2, y3⟩ (fun hHeld => ?_)
      clear hK K
      try simp only [Act.put, zA, zB, zC]
      refine wpAnyH_ready (rs := [8]) (by kernel_rfl) (by simp) ?_
      refine AllReadyH.cons (o := ⟨_, _, _, _, _, _⟩) rfl (fun K hK => ?_) AllReadyH.nil
      go_simp
      go_at_call 141
      refine (copyAttrs_own p1 d1 (ndK l k).at_ w1 (H4.out.below B1.out) (by omega)).mono ?_
      rintro e w2 ⟨va_, us_, rfl, hoa, hb2⟩
      obtain ⟨pa, ca, ea, _⟩ := own_len hoa.row
      subst ea
      have R2 := Hid.mk' (rowB R1.out hb2)
      obtain ⟨z0, z1, z2, z3, z4⟩ := cells4 R2.out
      have B2 : Hid (Below wr.heap.size wr w2) := Hid.mk' (B1.out.trans (hb2.mono B1.out.size))
      have L12 : Hid (w1.heap.size ≤ w2.heap.size) := Hid.mk' hb2.size
      have HOA := Hid.mk' hoa
      clear hb2 hoa
      refine hK.out _ _ ⟨z0, z1, z2, z3⟩ (fun hHeld => ?_)
      clear hK K
      try simp only [Act.put, zA, zB, zC]
      refine wpAnyH_ready (rs := [11]) (by kernel_rfl) (by simp) ?_
      refine AllReadyH.cons (o := ⟨_, _, _, _, _, _⟩) rfl (fun K hK => ?_) AllReadyH.nil
      go_simp
      go_at_call 142
      refine (bytesClone_own p2_ d2 (ndK l k).tx w2 (H6.out.below B2.out) (by omega)).mono ?_
      rintro e w3 ⟨x_, rfl, hx, hb3⟩
      obtain ⟨px, cx, ex, _⟩ := own_len hx
      subst ex
      have R3 := Hid.mk' (rowB R2.out hb3)
      obtain ⟨v0, v1, v2, v3, v4⟩ := cells4 R3.out
      have B3 : Hid (Below wr.heap.size wr w3) := Hid.mk' (B2.out.trans (hb3.mono B2.out.size))
      have K3 : Hid (Kp (fun j => w1.heap.size ≤ j) w2 w3) := Hid.mk' (Kp.of_below hb3)
      have HX := Hid.mk' hx
      clear hb3 hx
      refine hK.out _ _ ⟨v0, v1, v2, v3⟩ (fun hHeld => ?_)
      clear hK K
      try simp only [Act.put, zA, zB, zC]
      refine wpAnyH_take (i := 12) (oi := ⟨_, _, _, _, _, _⟩) (v := ?_) rfl (by kernel_rfl) (by kernel_rfl) (by kernel_rfl) (fun _ _ _ h => h) (Or.inl ⟨by rfl, ?_⟩) (by assumption) ?_
      rotate_left
      · (intro w hSw; (try dsimp only at hSw); go_simp; (try with_reducible rfl))
      try simp only [Act.put, zA, zB, zC]
      refine wpAnyH_ready (rs := [13]) (by kernel_rfl) (by simp) ?_
      refine AllReadyH.cons (o := ⟨_, _, _, _, _, _⟩) rfl (fun K hK => ?_) AllReadyH.nil
      go_simp
      have NN := below_new w3 (.cells #[.int .i64 (ndK l k).up, .string (ndK l k).tg, .slice pa (ndK l k).at_.length ca, .slice px (ndK l k).tx.length cx] 91)
      have R4 := Hid.mk' (rowB R3.out NN)
      obtain ⟨q0, q1, q2, q3, q4⟩ := cells4 R4.out
      have B4 : Hid (Below wr.heap.size wr _) := Hid.mk' (B3.out.trans (NN.mono B3.out.size))
      have K4 : Hid (Kp (fun j => w1.heap.size ≤ j) w3 _) := Hid.mk' (Kp.of_below NN)
      have OW := Hid.mk' (HO.out.below B4.out)
      clear NN
      refine hK.out _ _ ⟨q0, q1, q2, q3⟩ (fun hHeld => ?_)
      clear hK K
      try simp only [Act.put, zA, zB, zC]
      refine wpAnyH_ready (rs := [14]) (by kernel_rfl) (by simp) ?_
      refine AllReadyH.cons (o := ⟨_, _, _, _, _, _⟩) rfl (fun K hK => ?_) AllReadyH.nil
      refine step_append_at rfl (.tmp 12) (.tmp 25) 41 rfl w.heap.size 91 (.agg #[.int .i64 0, .string ⟨#[]⟩, .slice none 0 0, .slice none 0 0]) 4 72 Tryz.underlying41 Tryz.info91 rfl (by decide) _ k _ rfl (by have := OW.out.row; rw [lt_] at this; exact this) _ 1 _ [.int .i64 (ndK l k).up, .string (ndK l k).tg, .slice pa (ndK l k).at_.length ca, .slice px (ndK l k).tx.length cx] rfl rfl (.inr ⟨_, rfl, one_node w3 _ _ _ _ _ _ rfl⟩) (by simp [Value.oneCell']) (by unfold maxLen; omega) (by omega) (Nat.le_trans HB.out.size B4.out.size) ?_
      intro v' w5 ho hgr hat
      obtain ⟨τ', va', vt', us', A5⟩ := HO.out.more (w2 := w2) (w3 := w3) (w5 := w5) hlt HB.out.size HOA.out LO1.out L12.out HX.out B2.out K3.out K4.out B4.out ho hgr hat
      have HA5 := Hid.mk' A5
      have HB5 := Hid.mk' ((HB.out.trans (B4.out.mono HB.out.size)).grown hgr (Nat.le_trans HB.out.size B4.out.size) (own_lo OW.out.row))
      have gne : ∀ j, (Value.slice av k cv).ownBlock = some j → ¬ j = wr.heap.size := fun j e => by have := (HO.out.row.lt j e).2; omega
      have m0 := hgr.cell q0 (fun e => gne _ e.symm rfl)
      have m1 := hgr.cell q1 (fun e => gne _ e.symm rfl)
      have m2 := hgr.cell q2 (fun e => gne _ e.symm rfl)
      have m3 := hgr.cell q3 (fun e => gne _ e.symm rfl)
      clear ho hgr hat A5
      refine hK.out _ _ ⟨m0, m1, m2, m3⟩ (fun hHeld => ?_)
      clear hK K
      try simp only [Act.put, zA, zB, zC]
      refine wpAnyH_take (i := 15) (oi := ⟨_, _, _, _, _, _⟩) (v := ?_) rfl (by kernel_rfl) (by kernel_rfl) (by kernel_rfl) (fun _ _ _ h => h) (Or.inl ⟨by rfl, ?_⟩) (by assumption) ?_
      rotate_left
      · (intro w hSw; (try dsimp only at hSw); go_simp; (try with_reducible rfl))
      try simp only [Act.put, zA, zB, zC]
      refine wpAnyH_done (by kernel_rfl) ?_ _
      obtain ⟨aw, cw, ew, _⟩ := own_len HA5.out.row
      rw [show (l.take (k + 1)).length = k + 1 by rw [List.length_take]; omega] at ew
      subst ew
      go_wp2
      go_roundw
      case rel => exact ⟨k + 1, τ', va', vt', us', by omega, by go_num, HA5.out, HB5.out⟩
      case measure => simp [intOf]; omega
    · have ci : ¬ (k : Int) < (l.length : Int) := by omega
      have e : k = l.length := by omega
      subst e
      rw [List.take_length] at hns
      have HO := Hid.mk' hns
      clear hns hbl
      go_wp2
      go_ret
      exact ⟨_, τ, va, vt, us, rfl, HO.out, HB.out⟩

set_option maxRecDepth 100000 in
set_option maxHeartbeats 12800000 in
theorem l6Copy_own (a : Option Addr) (c : Nat) (l : List ND) (w : World) (ha : NsAt w a l) (hl : (l.length : Int) + nssz l ≤ 1048576) :
    Calls Tryz.prog 99 #[.slice a l.length c] w fun e w' => CpN l w e w' := by
  have HA := Hid.mk' ha
  clear ha
  go_enter Tryz.func99, Tryz.ntmps99
  go_wp2
  go_loopw [3, 4] (fun v i wr => ∃ (k : Nat) (τ : Nat → Nat) (va vt : Nat → Value) (us : Nat → List Value), k ≤ l.length ∧ i = .int .i64 k ∧ NS τ w.heap.size wr v (l.take k) va vt us ∧ Below w.heap.size w wr) (fun _ i _ => l.length - (intOf i).toNat)
  case atStart => exact ⟨0, fun _ => 0, fun _ => undef, fun _ => undef, fun _ => [], Nat.zero_le _, rfl, ⟨by simpa [ncs] using World.ownsRow_lit (base := w.heap.size) (e := 91) (size := 4) w #[] 0 (Nat.le_refl _) (by decide) rfl, fun j h => absurd h (by simp), fun j h => absurd h (by simp), fun _ _ => rfl, fun j h => absurd h (by simp), fun j h => absurd h (by simp), fun j h => absurd h (by simp)⟩, below_new _ _⟩
  case round =>
    obtain ⟨k, τ, va, vt, us, hk, rfl, hns, hbl⟩ := hrel
    have HB := Hid.mk' hbl
    obtain ⟨av, cv, ev, _⟩ := own_len hns.row
    have lt_ : (l.take k).length = k := by rw [List.length_take]; omega
    rw [lt_] at ev
    subst ev
    by_cases hlt : k < l.length
    · have ci : (k : Int) < (l.length : Int) := by omega
      rcases HA.out with h0 | ⟨b1, o1, rfl, s0, hc1⟩
      · exact absurd hlt (by rw [h0]; exact Nat.not_lt_zero _)
      obtain ⟨h1, h2, ⟨p1, d1, h3, _, h4⟩, ⟨p2_, d2, h5, h6⟩⟩ := hc1 k hlt
      replace h1 := (hbl.cell s0).trans h1
      replace h2 := (hbl.cell s0).trans h2
      replace h3 := (hbl.cell s0).trans h3
      replace h5 := (hbl.cell s0).trans h5
      have H4 := Hid.mk' (h4.below hbl)
      have H6 := Hid.mk' (h6.below hbl)
      have s1 := Nat.lt_of_lt_of_le s0 hbl.size
      have sz1 := nssz_at hlt
      unfold nsz at sz1
      have HO := Hid.mk' hns
      clear hc1 h4 h6 hns
      have N1 := below_new wr (.cells #[.int .i64 (ndK l k).up, .string (ndK l k).tg, .slice p1 (ndK l k).at_.length d1, .slice p2_ (ndK l k).tx.length d2] 91)
      have RB := Hid.mk' (row4 wr 91 (.int .i64 (ndK l k).up) (.string (ndK l k).tg) (.slice p1 (ndK l k).at_.length d1) (.slice p2_ (ndK l k).tx.length d2))
      have HN1 := Hid.mk' N1
      clear N1
      generalize hW : wr.alloc (.cells #[.int .i64 (ndK l k).up, .string (ndK l k).tg, .slice p1 (ndK l k).at_.length d1, .slice p2_ (ndK l k).tx.length d2] 91) = W at *
      obtain ⟨x0, x1, x2, x3, x4⟩ := cells4 RB.out
      have KA := Hid.mk' (l4CopyAttrs_own p1 d1 (ndK l k).at_ W (H4.out.below HN1.out) (by omega))
      go_wp2_with fail
      clear hW h1 h2 h3 h5
      refine KA.out.mono ?_
      rintro e w1 ⟨va_, us_, rfl, hoa, hb1⟩
      obtain ⟨pa, ca, ea, _⟩ := own_len hoa.row
      subst ea
      have R1 := rowB RB.out hb1
      have sz0 : wr.heap.size < W.heap.size := x4
      have K1 := (KeptIn.refl wr.heap.size (wr.heap.size + 1) w1).setCell (p := ⟨wr.heap.size, 2, none⟩) (by simp) (by simp) (.slice pa (ndK l k).at_.length ca)
      have B1 : Hid (Below wr.heap.size wr (w1.setCell ⟨wr.heap.size, 2, none⟩ (.slice pa (ndK l k).at_.length ca))) := Hid.mk' ((HN1.out.trans (hb1.mono HN1.out.size)).setCell (p := ⟨wr.heap.size, 2, none⟩) (by simp) _)
      have LO1 : Hid (wr.heap.size ≤ W.heap.size) := Hid.mk' (by omega)
      have HOA : Hid (OA W.heap.size (w1.setCell ⟨wr.heap.size, 2, none⟩ (.slice pa (ndK l k).at_.length ca)) (.slice pa (ndK l k).at_.length ca) (ndK l k).at_ us_) := Hid.mk' (hoa.keep (Nat.le_refl _) (fun j hj _ => Below.heap_setCell _ _ _ _ (by dsimp only; omega)))
      have L12 : Hid (W.heap.size ≤ (w1.setCell ⟨wr.heap.size, 2, none⟩ (.slice pa (ndK l k).at_.length ca)).heap.size) := Hid.mk' (by rw [World.heap_size_setCell']; exact hb1.size)
      have R2 := Hid.mk' ((R1.set 2 (.slice pa (ndK l k).at_.length ca)).congr (g := r4 (.int .i64 (ndK l k).up) (.string (ndK l k).tg) (.slice pa (ndK l k).at_.length ca) (.slice p2_ (ndK l k).tx.length d2)) (fun i hi => by have h4 : i = 0 ∨ i = 1 ∨ i = 2 ∨ i = 3 := (by omega); rcases h4 with rfl | rfl | rfl | rfl <;> rfl))
      obtain ⟨y0, y1, y2, y3, y4⟩ := cells4 R1
      have f2 := R1.frozen 2
      clear hb1 hoa R1 KA K1 x0 x1 x2 x3
      generalize hV : w1.setCell ⟨wr.heap.size, 2, none⟩ (.slice pa (ndK l k).at_.length ca) = w2 at *
      have B2 := B1
      obtain ⟨z0, z1, z2, z3, z4⟩ := cells4 R2.out
      have KX := Hid.mk' (l1Copy_own p2_ d2 (ndK l k).tx w2 (H6.out.below B2.out) (by omega))
      go_wp2_with fail
      clear hV y0 y1 y2 y3 y4 f2
      refine KX.out.mono ?_
      rintro e w25 ⟨x_, rfl, hx, hb3⟩
      obtain ⟨px, cx, ex, _⟩ := own_len hx
      subst ex
      have R25 := rowB R2.out hb3
      have B3 : Hid (Below wr.heap.size wr (w25.setCell ⟨wr.heap.size, 3, none⟩ (.slice px (ndK l k).tx.length cx))) := Hid.mk' ((B2.out.trans (hb3.mono B2.out.size)).setCell (p := ⟨wr.heap.size, 3, none⟩) (by simp) _)
      have K3 : Hid (Kp (fun j => W.heap.size ≤ j) w2 (w25.setCell ⟨wr.heap.size, 3, none⟩ (.slice px (ndK l k).tx.length cx))) := Hid.mk' ((Kp.of_below hb3).setCell (q := ⟨wr.heap.size, 3, none⟩) (by dsimp only; omega) _)
      have HX : Hid ((w25.setCell ⟨wr.heap.size, 3, none⟩ (.slice px (ndK l k).tx.length cx)).ownsRow w2.heap.size 5 1 (.slice px (ndK l k).tx.length cx) (ndK l k).tx.length (bcs (ndK l k).tx)) := Hid.mk' (own_of hx (Nat.le_refl _) (fun j e hj => Below.heap_setCell _ _ _ _ (by dsimp only; omega)))
      have R3 := Hid.mk' ((R25.set 3 (.slice px (ndK l k).tx.length cx)).congr (g := r4 (.int .i64 (ndK l k).up) (.string (ndK l k).tg) (.slice pa (ndK l k).at_.length ca) (.slice px (ndK l k).tx.length cx)) (fun i hi => by have h4 : i = 0 ∨ i = 1 ∨ i = 2 ∨ i = 3 := (by omega); rcases h4 with rfl | rfl | rfl | rfl <;> rfl))
      obtain ⟨y0, y1, y2, y3, y4⟩ := cells4 R25
      have f3 := R25.frozen 3
      clear hb3 hx R25 KX z0 z1 z2 z3
      generalize hV : w25.setCell ⟨wr.heap.size, 3, none⟩ (.slice px (ndK l k).tx.length cx) = w3 at *
      obtain ⟨v0, v1, v2, v3, v4⟩ := cells4 R3.out
      have NN := below_new w3 (.cells #[.int .i64 (ndK l k).up, .string (ndK l k).tg, .slice pa (ndK l k).at_.length ca, .slice px (ndK l k).tx.length cx] 91)
      have B4 : Hid (Below wr.heap.size wr _) := Hid.mk' (B3.out.trans (NN.mono B3.out.size))
      have K4 : Hid (Kp (fun j => W.heap.size ≤ j) w3 _) := Hid.mk' (Kp.of_below NN)
      have OW := Hid.mk' (HO.out.below B4.out)
      clear NN
      go_wp2_with (at_builtin; refine wpList_append_at _ rfl (.tmp 25) (.tmp 27) 41 rfl w.heap.size 91 (.agg #[.int .i64 0, .string ⟨#[]⟩, .slice none 0 0, .slice none 0 0]) 4 72 Tryz.underlying41 Tryz.info91 rfl (by decide) _ k _ rfl (by have := OW.out.row; rw [lt_] at this; exact this) _ 1 _ [.int .i64 (ndK l k).up, .string (ndK l k).tg, .slice pa (ndK l k).at_.length ca, .slice px (ndK l k).tx.length cx] rfl rfl (.inr ⟨_, rfl, one_node w3 _ _ _ _ _ _ rfl⟩) (by simp [Value.oneCell']) (by unfold maxLen; omega) (by omega) (Nat.le_trans HB.out.size B4.out.size) ?_; intro v' w5 ho hgr hat)
      clear hV y0 y1 y2 y3 y4 f3
      obtain ⟨τ', va', vt', us', A5⟩ := HO.out.more (w2 := w2) (w3 := w3) (w5 := w5) hlt HB.out.size HOA.out LO1.out L12.out HX.out B2.out K3.out K4.out B4.out ho hgr hat
      have HA5 := Hid.mk' A5
      have HB5 := Hid.mk' ((HB.out.trans (B4.out.mono HB.out.size)).grown hgr (Nat.le_trans HB.out.size B4.out.size) (own_lo OW.out.row))
      clear ho hgr hat A5
      obtain ⟨aw, cw, ew, _⟩ := own_len HA5.out.row
      rw [show (l.take (k + 1)).length = k + 1 by rw [List.length_take]; omega] at ew
      subst ew
      go_wp2
      go_roundw
      case rel => exact ⟨k + 1, τ', va', vt', us', by omega, by go_num, HA5.out, HB5.out⟩
      case measure => simp [intOf]; omega
    · have ci : ¬ (k : Int) < (l.length : Int) := by omega
      have e : k = l.length := by omega
      subst e
      rw [List.take_length] at hns
      have HO := Hid.mk' hns
      clear hns hbl
      go_wp2
      go_ret
      exact ⟨_, τ, va, vt, us, rfl, HO.out, HB.out⟩

end Go.Proofs.YthcajggbcanmdaaGreatDoor

namespace Go.Proofs.YthcajggbcanmdaaGreatDoor
open Go.RowKit

theorem OpP.row {τ : Nat → Nat} {lo : Nat} {w : World} {nd : List ND} {op : List Int} {v : Value} (h : OpP false τ lo w nd op v) : ∃ p d, v = .slice p op.length d ∧ IAt w p op := (OI.of_own h.1).len

set_option maxHeartbeats 800000 in
theorem up_any (τ : Nat → Nat) (lo : Nat) (nd : List ND) (op : List Int) (k : Nat) (v : Value) (w : World) (h : OE τ lo w nd op k v) :
    Calls Tryz.prog 173 #[v] w fun e w' => e = .returned (.int .i64 (aheadI op k)) ∧ w' = w := by
  cases k with
  | zero =>
    have e : v = .pointer none := h
    subst e
    go_enter Tryz.func173, Tryz.ntmps173
    go_wp2
    go_ret
    exact ⟨rfl, rfl⟩
  | succ k =>
    obtain ⟨b, u, rfl, _, _, hr, _, _⟩ := h
    obtain ⟨c0, c1, c2, c3⟩ := cells3 hr
    have E := Hid.mk' (aheadI_succ op k)
    clear hr
    go_enter Tryz.func173, Tryz.ntmps173
    go_wp2
    go_ret
    exact ⟨by rw [E.out]; rfl, rfl⟩

theorem OpP.iat {τ : Nat → Nat} {lo : Nat} {w : World} {nd : List ND} {op : List Int} {p : Option Addr} {d : Nat} (h : OpP false τ lo w nd op (.slice p op.length d)) : IAt w p op := by
  obtain ⟨p', d', e, hi⟩ := h.row
  cases e
  exact hi

theorem frz3' {w : World} {g : Nat} {T : TypeId} {f : Nat → Value} (h : w.rowIs g T 3 f) : w.frozen? ⟨g, 0, none⟩ = false ∧ w.frozen? ⟨g, 1, none⟩ = false ∧ w.frozen? ⟨g, 2, none⟩ = false := ⟨h.frozen 0, h.frozen 1, h.frozen 2⟩

theorem becomeLargeF_any (Tb : TypeId) (hT : Tb = 138) (w0 : World) (lo g : Nat) (s : BS) (w : World) (τ : Nat → Nat) (vn vo : Value) (va vt : Nat → Value) (us : Nat → List Value) (h : ZS true Tb w0 lo g s w τ vn vo va vt us) :
    Calls Tryz.prog 175 #[.pointer (some ⟨g, 0, none⟩)] w fun e w' => (∃ v, e = .returned v) ∧ ZB true Tb w0 lo g bigS w' ∧ Kp (fun k => τ k = 2 ∧ ¬ k = g) w w' := by
  have HB := Hid.mk' h.big
  obtain ⟨c0, c1, c2, c3⟩ := cells3 h.box
  obtain ⟨f0, f1, f2⟩ := frz3' h.box
  clear h
  go_enter Tryz.func175, Tryz.ntmps175
  go_wp2
  go_end0
  exact ⟨⟨_, rfl⟩, HB.out, (((Kp.refl _ _).setCell (q := ⟨g, 0, none⟩) (fun e => e.2 rfl) _).setCell (q := ⟨g, 1, none⟩) (fun e => e.2 rfl) _).setCell (q := ⟨g, 2, none⟩) (fun e => e.2 rfl) _⟩

theorem becomeLarge_any (Tb : TypeId) (hT : Tb = 138) (w0 : World) (lo g : Nat) (s : BS) (w : World) (τ : Nat → Nat) (vn vo : Value) (va vt : Nat → Value) (us : Nat → List Value) (h : ZS true Tb w0 lo g s w τ vn vo va vt us) :
    Calls Tryz.prog 175 #[.pointer (some ⟨g, 0, none⟩)] w fun e w' => (∃ v, e = .returned v) ∧ ZB true Tb w0 lo g bigS w' :=
  (becomeLargeF_any Tb hT w0 lo g s w τ vn vo va vt us h).mono fun e w' h => ⟨h.1, h.2.1⟩

set_option maxRecDepth 100000 in
set_option maxHeartbeats 12800000 in
theorem addSF_any (w0 : World) (lo g : Nat) (s : BS) (wa : World) (τ : Nat → Nat) (vn vo : Value) (va vt : Nat → Value) (us : Nat → List Value) (h : ZS false 85 w0 lo g s wa τ vn vo va vt us) (hs : GS s) (lo1 : Nat) (tg : ByteArray) (at_ : List AT) (tx : List Int) (a x : Value) (u : List Value) (u0 : Int) (w : World) (hb : Below wa.heap.size wa w) (ha : OA lo1 w a at_ u) (h1 : wa.heap.size ≤ lo1) (hx : w.ownsRow lo1 5 1 x tx.length (bcs tx)) (hap : ∀ k, x.ownBlock = some k → a.ownBlock ≠ some k ∧ ∀ i, i < at_.length → (u.getD i undef).ownBlock ≠ some k) :
    Calls Tryz.prog 132 #[.pointer (some ⟨g, 0, none⟩), .agg #[.int .i64 u0, .string tg, a, x]] w fun e w' => (∃ v, e = .returned v) ∧ ZB false 85 w0 lo g (addX s tg at_ tx) w' ∧ Kp (fun k => τ k = 2 ∧ ¬ k = g) w w' := by
  obtain ⟨pa, ca, ea, _⟩ := own_len ha.row
  subst ea
  obtain ⟨px, cx, ex, _⟩ := own_len hx
  subst ex
  obtain ⟨pn, cn, en, _⟩ := own_len h.ns.row
  subst en
  obtain ⟨po, co, eo, _⟩ := h.op.row
  subst eo
  have n60 := hs.n
  have N0 := below_new w (.cells #[.int .i64 u0, .string tg, .slice pa at_.length ca, .slice px tx.length cx] 91)
  have M0 := hb.trans (N0.mono hb.size)
  have NW := Hid.mk' N0
  have Z0 := h.below M0
  have RB := row4 w 91 (.int .i64 u0) (.string tg) (.slice pa at_.length ca) (.slice px tx.length cx)
  have gx : g < w.heap.size := Nat.lt_of_lt_of_le h.box.lt hb.size
  have HZ := Hid.mk' h
  have HS := Hid.mk' hs
  have HAP := Hid.mk' hap
  have AN : Hid (∀ j, (Value.slice pa at_.length ca).ownBlock = some j → ¬ j = w.heap.size) := Hid.mk' (fun j e ej => by have := (ha.row.lt j e).2; omega)
  have UN : Hid (∀ i, i < at_.length → ∀ j, (u.getD i undef).ownBlock = some j → ¬ j = w.heap.size) := Hid.mk' (fun i hi j e ej => by have := (ha.val i hi).lt j e; omega)
  have XN : Hid (∀ j, (Value.slice px tx.length cx).ownBlock = some j → ¬ j = w.heap.size) := Hid.mk' (fun j e ej => by have := (hx.lt j e).2; omega)
  have HAA := Hid.mk' (ha.below N0)
  have HXX := Hid.mk' (own_keep hx N0)
  have HM := Hid.mk' M0
  have HZ0 := Hid.mk' Z0
  have HRB := Hid.mk' RB
  have szw : wa.heap.size ≤ w.heap.size := hb.size
  clear h hs hap ha hx hb N0 M0 Z0 RB
  generalize hW : w.alloc (.cells #[.int .i64 u0, .string tg, .slice pa at_.length ca, .slice px tx.length cx] 91) = W at *
  obtain ⟨c0, c1, c2, c3⟩ := cells3 HZ0.out.box
  by_cases h6 : 60 ≤ s.nd.length
  · have E : Hid (addX s tg at_ tx = bigS) := Hid.mk' (by unfold addX; rw [if_pos h6])
    have h6' : (s.nd.length : Int) ≥ 60 := by omega
    have HBG := Hid.mk' HZ0.out.big
    obtain ⟨f0, f1, f2⟩ := frz3' HZ0.out.box
    go_enter Tryz.func132, Tryz.ntmps132
    go_wp2
    clear hW
    (try simp only [Exit.inBlock, Exit.then])
    refine bodyPost_ret (results_none rfl _ _ _) rfl ?_
    exact ⟨⟨_, rfl⟩, by rw [E.out]; exact HBG.out, (((Kp.of_below NW.out).setCell (q := ⟨g, 0, none⟩) (fun e => e.2 rfl) _).setCell (q := ⟨g, 1, none⟩) (fun e => e.2 rfl) _).setCell (q := ⟨g, 2, none⟩) (fun e => e.2 rfl) _⟩
  have h6' : ¬ (s.nd.length : Int) ≥ 60 := by omega
  have KT := Hid.mk' (l7Top_any po co s.op W HZ0.out.op.iat (by have := HS.out.o; omega))
  obtain ⟨tp, htp⟩ : ∃ tp, aheadI s.op s.op.length = tp := ⟨_, rfl⟩
  have TP := Hid.mk' htp
  rw [htp] at KT
  clear htp
  obtain ⟨d0, d1, d2, d3, d4⟩ := cells4 HRB.out
  have e0 := HRB.out.frozen 0
  have KK := (Kp.refl (fun j => ¬ j = w.heap.size) W).setCell (q := ⟨w.heap.size, 0, none⟩) (fun e => e rfl) (.int .i64 tp)
  have BB : Below w.heap.size W (W.setCell ⟨w.heap.size, 0, none⟩ (.int .i64 tp)) := (Below.refl _ _).setCell (p := ⟨w.heap.size, 0, none⟩) (Nat.le_refl _) _
  have HM2 : Hid (Below wa.heap.size wa (W.setCell ⟨w.heap.size, 0, none⟩ (.int .i64 tp))) := Hid.mk' (HM.out.trans (BB.mono szw))
  have HZ1 := Hid.mk' (HZ.out.below HM2.out)
  have HAA := Hid.mk' (HAA.out.keepOf (w' := W.setCell ⟨w.heap.size, 0, none⟩ (.int .i64 tp)) (fun j e hl => KK.block j hl (AN.out j e)) (fun i hi j e hl => KK.block j hl (UN.out i hi j e)))
  have HXX := Hid.mk' (own_of (w' := W.setCell ⟨w.heap.size, 0, none⟩ (.int .i64 tp)) HXX.out (Nat.le_refl _) (fun j e _ => KK.block j (HXX.out.lt j e).2 (XN.out j e)))
  have HR1 := Hid.mk' ((HRB.out.set 0 (.int .i64 tp)).congr (g := r4 (.int .i64 tp) (.string tg) (.slice pa at_.length ca) (.slice px tx.length cx)) (fun i hi => by have h4 : i = 0 ∨ i = 1 ∨ i = 2 ∨ i = 3 := (by omega); rcases h4 with rfl | rfl | rfl | rfl <;> rfl))
  have NV : Hid (Below w.heap.size w (W.setCell ⟨w.heap.size, 0, none⟩ (.int .i64 tp))) := Hid.mk' (NW.out.trans BB)
  clear KK BB
  go_enter Tryz.func132, Tryz.ntmps132
  go_wp2_with fail
  clear hW
  refine KT.out.mono ?_
  rintro e w1 ⟨rfl, hw1⟩
  obtain rfl := hw1.symm
  clear KT
  generalize hV : W.setCell ⟨w.heap.size, 0, none⟩ (.int .i64 tp) = V at *
  go_wp2_with fail
  clear hV c0 c1 c2 c3 d0 d1 d2 d3 d4 e0
  obtain ⟨b0, b1, b2, b3⟩ := cells3 HZ1.out.box
  obtain ⟨d0, d1, d2, d3, d4⟩ := cells4 HR1.out
  have xn0 := World.new_ne V ⟨g, 0, none⟩ b0
  have xn1 := World.new_ne V ⟨w.heap.size, 3, none⟩ d3
  dsimp only at xn0 xn1
  have VB := below_new V (.cells #[.int .i64 tp, .string tg, .slice pa at_.length ca, .slice px tx.length cx] 91)
  have HM3 := Hid.mk' (HM2.out.trans (VB.drew.mono HM2.out.size))
  have HZ2 := Hid.mk' (HZ1.out.below VB.drew)
  have NV2 := Hid.mk' (NV.out.trans (VB.drew.mono NV.out.size))
  have HA2 := Hid.mk' (HAA.out.below VB.drew)
  have HX2 := Hid.mk' (own_keep HXX.out VB.drew)
  have HR2 := Hid.mk' (rowB HR1.out VB.drew)
  have NC := Hid.mk' (one_node V 91 (.int .i64 tp) (.string tg) (.slice pa at_.length ca) (.slice px tx.length cx) V.heap.size rfl)
  clear VB
  refine wp_region_held_drew (S := fun w' => w'.cell? ⟨w.heap.size, 0, none⟩ = some (.int .i64 tp) ∧ w'.cell? ⟨w.heap.size, 1, none⟩ = some (.string tg) ∧ w'.cell? ⟨w.heap.size, 2, none⟩ = some (.slice pa at_.length ca) ∧ w'.cell? ⟨w.heap.size, 3, none⟩ = some (.slice px tx.length cx)) (by kernel_rfl) (by simp [*]) (fun hHeld => ?_)
  refine wpAnyH_take (i := 0) (oi := ⟨_, _, _, _, _, _⟩) (v := ?_) rfl (by kernel_rfl) (by kernel_rfl) (by kernel_rfl) (fun _ _ _ h => h) (Or.inl ⟨by rfl, ?_⟩) (by assumption) ?_
  rotate_left
  · (intro w hSw; (try dsimp only at hSw); go_simp; (try with_reducible rfl))
  try simp only [Act.put, zA, zB, zC]
  refine wpAnyH_take (i := 1) (oi := ⟨_, _, _, _, _, _⟩) (v := ?_) rfl (by kernel_rfl) (by kernel_rfl) (by kernel_rfl) (fun _ _ _ h => h) (Or.inl ⟨by rfl, ?_⟩) (by assumption) ?_
  rotate_left
  · (intro w hSw; (try dsimp only at hSw); go_simp; (try with_reducible rfl))
  try simp only [Act.put, zA, zB, zC]
  refine wpAnyH_take (i := 2) (oi := ⟨_, _, _, _, _, _⟩) (v := ?_) rfl (by kernel_rfl) (by kernel_rfl) (by kernel_rfl) (fun _ _ _ h => h) (Or.inl ⟨by rfl, ?_⟩) (by assumption) ?_
  rotate_left
  · (intro w hSw; (try dsimp only at hSw); go_simp; (try with_reducible rfl))
  try simp only [Act.put, zA, zB, zC]
  refine wpAnyH_take (i := 3) (oi := ⟨_, _, _, _, _, _⟩) (v := ?_) rfl (by kernel_rfl) (by kernel_rfl) (by kernel_rfl) (fun _ _ _ h => h) (Or.inl ⟨by rfl, ?_⟩) (by assumption) ?_
  rotate_left
  · (intro w hSw; (try dsimp only at hSw); go_simp; (try with_reducible rfl))
  try simp only [Act.put, zA, zB, zC]
  refine wpAnyH_take (i := 5) (oi := ⟨_, _, _, _, _, _⟩) (v := ?_) rfl (by kernel_rfl) (by kernel_rfl) (by kernel_rfl) (fun _ _ _ h => h) (Or.inl ⟨by rfl, ?_⟩) (by assumption) ?_
  rotate_left
  · (intro w hSw; (try dsimp only at hSw); go_simp; (try with_reducible rfl))
  try simp only [Act.put, zA, zB, zC]
  refine wpAnyH_ready (rs := [4, 6]) (by kernel_rfl) (by simp) ?_
  refine AllReadyH.cons (o := ⟨_, _, _, _, _, _⟩) rfl (fun K hK => ?_) (AllReadyH.cons (o := ⟨_, _, _, _, _, _⟩) rfl (fun K hK => ?_) AllReadyH.nil)
  · go_simp
    refine hK.out _ _ (by (try dsimp only); go_keep) (fun hHeld => ?_)
    clear hK K
    try simp only [Act.put, zA, zB, zC]
    refine wpAnyH_ready (rs := [6]) (by kernel_rfl) (by simp) ?_
    refine AllReadyH.cons (o := ⟨_, _, _, _, _, _⟩) rfl (fun K hK => ?_) AllReadyH.nil
    go_simp
    refine hK.out _ _ (by (try dsimp only); go_keep) (fun hHeld => ?_)
    clear hK K
    try simp only [Act.put, zA, zB, zC]
    refine wpAnyH_ready (rs := [7]) (by kernel_rfl) (by simp) ?_
    refine AllReadyH.cons (o := ⟨_, _, _, _, _, _⟩) rfl (fun K hK => ?_) AllReadyH.nil
    refine step_append_at rfl (.tmp 23) (.tmp 25) 41 rfl lo 91 (.agg #[.int .i64 0, .string ⟨#[]⟩, .slice none 0 0, .slice none 0 0]) 4 72 Tryz.underlying41 Tryz.info91 rfl (by decide) _ _ _ rfl HZ2.out.ns.row _ 1 _ [.int .i64 tp, .string tg, .slice pa at_.length ca, .slice px tx.length cx] rfl rfl (.inr ⟨_, rfl, NC.out⟩) (by simp [Value.oneCell']) (by unfold maxLen; omega) (by omega) HZ2.out.sz ?_
    intro v2 w2 ho hgr hat
    obtain ⟨av2, cv2, ev', _⟩ := own_len ho
    subst ev'
    have ho' := ho
    rw [← TP.out] at ho'
    have HQ := Hid.mk' (HZ.out.add HS.out (by omega) HM3.out HA2.out h1 HX2.out HAP.out ho' hgr hat)
    have vne : ∀ j, (Value.slice pn s.nd.length cn).ownBlock = some j → ¬ j = g ∧ ¬ j = w.heap.size := fun j e => ⟨fun ej => by have h8 := HZ.out.ns.rl j e; have h9 := HZ.out.gl; rw [← ej] at h9; omega, fun ej => by have := (HZ.out.ns.row.lt j e).2; omega⟩
    have HKF := Hid.mk' (((Kp.of_below (p := fun k => τ k = 2 ∧ ¬ k = g) NV2.out).trans (Kp.of_grown hgr (fun k e e2 => by have := HZ.out.ns.rl k e2.symm; omega))).setCell (q := ⟨g, 0, none⟩) (fun e => e.2 rfl) (.slice av2 (s.nd.length + 1) cv2))
    have z0 := hgr.cell (a := ⟨g, 0, none⟩) (cells3 HZ2.out.box).1 (fun e => (vne _ e.symm).1 rfl)
    have z1 : w2.frozen? ⟨g, 0, none⟩ = false := (HZ2.out.box.of_block (hgr.block g HZ2.out.box.lt (fun e => (vne _ e.symm).1 rfl))).frozen 0
    obtain ⟨t0, t1, t2, t3, t4⟩ := cells4 (HR2.out.of_block (hgr.block w.heap.size HR2.out.lt (fun e => (vne _ e.symm).2 rfl)))
    clear ho ho' hgr hat
    refine hK.out _ _ (by (try dsimp only); go_keep) (fun hHeld => ?_)
    clear hK K
    try simp only [Act.put, zA, zB, zC]
    refine wpAnyH_take (i := 8) (oi := ⟨_, _, _, _, _, _⟩) (v := ?_) rfl (by kernel_rfl) (by kernel_rfl) (by kernel_rfl) (fun _ _ _ h => h) (Or.inl ⟨by rfl, ?_⟩) (by assumption) ?_
    rotate_left
    · (intro w hSw; (try dsimp only at hSw); go_simp; (try with_reducible rfl))
    try simp only [Act.put, zA, zB, zC]
    refine wpAnyH_take (i := 9) (oi := ⟨_, _, _, _, _, _⟩) (v := ?_) rfl (by kernel_rfl) (by kernel_rfl) (by kernel_rfl) (fun _ _ _ h => h) (Or.inl ⟨by rfl, ?_⟩) (by assumption) ?_
    rotate_left
    · (intro w hSw; (try dsimp only at hSw); go_simp; (try with_reducible rfl))
    try simp only [Act.put, zA, zB, zC]
    refine wpAnyH_ready (rs := [10]) (by kernel_rfl) (by simp) ?_
    refine AllReadyH.cons (o := ⟨_, _, _, _, _, _⟩) rfl (fun K hK => ?_) AllReadyH.nil
    go_simp
    have gx' : g ≠ w.heap.size := Nat.ne_of_lt gx
    refine hK.out _ _ (by (try dsimp only); go_keep) (fun hHeld => ?_)
    clear hK K
    try simp only [Act.put, zA, zB, zC]
    refine wpAnyH_done (by kernel_rfl) ?_ _
    go_end0
    exact ⟨⟨_, rfl⟩, HQ.out, HKF.out⟩
  · go_simp
    refine hK.out _ _ (by (try dsimp only); go_keep) (fun hHeld => ?_)
    clear hK K
    try simp only [Act.put, zA, zB, zC]
    refine wpAnyH_ready (rs := [4]) (by kernel_rfl) (by simp) ?_
    refine AllReadyH.cons (o := ⟨_, _, _, _, _, _⟩) rfl (fun K hK => ?_) AllReadyH.nil
    go_simp
    refine hK.out _ _ (by (try dsimp only); go_keep) (fun hHeld => ?_)
    clear hK K
    try simp only [Act.put, zA, zB, zC]
    refine wpAnyH_ready (rs := [7]) (by kernel_rfl) (by simp) ?_
    refine AllReadyH.cons (o := ⟨_, _, _, _, _, _⟩) rfl (fun K hK => ?_) AllReadyH.nil
    refine step_append_at rfl (.tmp 23) (.tmp 25) 41 rfl lo 91 (.agg #[.int .i64 0, .string ⟨#[]⟩, .slice none 0 0, .slice none 0 0]) 4 72 Tryz.underlying41 Tryz.info91 rfl (by decide) _ _ _ rfl HZ2.out.ns.row _ 1 _ [.int .i64 tp, .string tg, .slice pa at_.length ca, .slice px tx.length cx] rfl rfl (.inr ⟨_, rfl, NC.out⟩) (by simp [Value.oneCell']) (by unfold maxLen; omega) (by omega) HZ2.out.sz ?_
    intro v2 w2 ho hgr hat
    obtain ⟨av2, cv2, ev', _⟩ := own_len ho
    subst ev'
    have ho' := ho
    rw [← TP.out] at ho'
    have HQ := Hid.mk' (HZ.out.add HS.out (by omega) HM3.out HA2.out h1 HX2.out HAP.out ho' hgr hat)
    have vne : ∀ j, (Value.slice pn s.nd.length cn).ownBlock = some j → ¬ j = g ∧ ¬ j = w.heap.size := fun j e => ⟨fun ej => by have h8 := HZ.out.ns.rl j e; have h9 := HZ.out.gl; rw [← ej] at h9; omega, fun ej => by have := (HZ.out.ns.row.lt j e).2; omega⟩
    have HKF := Hid.mk' (((Kp.of_below (p := fun k => τ k = 2 ∧ ¬ k = g) NV2.out).trans (Kp.of_grown hgr (fun k e e2 => by have := HZ.out.ns.rl k e2.symm; omega))).setCell (q := ⟨g, 0, none⟩) (fun e => e.2 rfl) (.slice av2 (s.nd.length + 1) cv2))
    have z0 := hgr.cell (a := ⟨g, 0, none⟩) (cells3 HZ2.out.box).1 (fun e => (vne _ e.symm).1 rfl)
    have z1 : w2.frozen? ⟨g, 0, none⟩ = false := (HZ2.out.box.of_block (hgr.block g HZ2.out.box.lt (fun e => (vne _ e.symm).1 rfl))).frozen 0
    obtain ⟨t0, t1, t2, t3, t4⟩ := cells4 (HR2.out.of_block (hgr.block w.heap.size HR2.out.lt (fun e => (vne _ e.symm).2 rfl)))
    clear ho ho' hgr hat
    refine hK.out _ _ (by (try dsimp only); go_keep) (fun hHeld => ?_)
    clear hK K
    try simp only [Act.put, zA, zB, zC]
    refine wpAnyH_take (i := 8) (oi := ⟨_, _, _, _, _, _⟩) (v := ?_) rfl (by kernel_rfl) (by kernel_rfl) (by kernel_rfl) (fun _ _ _ h => h) (Or.inl ⟨by rfl, ?_⟩) (by assumption) ?_
    rotate_left
    · (intro w hSw; (try dsimp only at hSw); go_simp; (try with_reducible rfl))
    try simp only [Act.put, zA, zB, zC]
    refine wpAnyH_take (i := 9) (oi := ⟨_, _, _, _, _, _⟩) (v := ?_) rfl (by kernel_rfl) (by kernel_rfl) (by kernel_rfl) (fun _ _ _ h => h) (Or.inl ⟨by rfl, ?_⟩) (by assumption) ?_
    rotate_left
    · (intro w hSw; (try dsimp only at hSw); go_simp; (try with_reducible rfl))
    try simp only [Act.put, zA, zB, zC]
    refine wpAnyH_ready (rs := [10]) (by kernel_rfl) (by simp) ?_
    refine AllReadyH.cons (o := ⟨_, _, _, _, _, _⟩) rfl (fun K hK => ?_) AllReadyH.nil
    go_simp
    have gx' : g ≠ w.heap.size := Nat.ne_of_lt gx
    refine hK.out _ _ (by (try dsimp only); go_keep) (fun hHeld => ?_)
    clear hK K
    try simp only [Act.put, zA, zB, zC]
    refine wpAnyH_done (by kernel_rfl) ?_ _
    go_end0
    exact ⟨⟨_, rfl⟩, HQ.out, HKF.out⟩

theorem addS_any (w0 : World) (lo g : Nat) (s : BS) (wa : World) (τ : Nat → Nat) (vn vo : Value) (va vt : Nat → Value) (us : Nat → List Value) (h : ZS false 85 w0 lo g s wa τ vn vo va vt us) (hs : GS s) (lo1 : Nat) (tg : ByteArray) (at_ : List AT) (tx : List Int) (a x : Value) (u : List Value) (u0 : Int) (w : World) (hb : Below wa.heap.size wa w) (ha : OA lo1 w a at_ u) (h1 : wa.heap.size ≤ lo1) (hx : w.ownsRow lo1 5 1 x tx.length (bcs tx)) (hap : ∀ k, x.ownBlock = some k → a.ownBlock ≠ some k ∧ ∀ i, i < at_.length → (u.getD i undef).ownBlock ≠ some k) :
    Calls Tryz.prog 132 #[.pointer (some ⟨g, 0, none⟩), .agg #[.int .i64 u0, .string tg, a, x]] w fun e w' => (∃ v, e = .returned v) ∧ ZB false 85 w0 lo g (addX s tg at_ tx) w' :=
  (addSF_any w0 lo g s wa τ vn vo va vt us h hs lo1 tg at_ tx a x u u0 w hb ha h1 hx hap).mono fun e w' h => ⟨h.1, h.2.1⟩

set_option maxRecDepth 100000 in
set_option maxHeartbeats 12800000 in
theorem addIF_any (w0 : World) (lo g : Nat) (s : BS) (wa : World) (τ : Nat → Nat) (vn vo : Value) (va vt : Nat → Value) (us : Nat → List Value) (h : ZS true 138 w0 lo g s wa τ vn vo va vt us) (hs : GS s) (lo1 : Nat) (tg : ByteArray) (at_ : List AT) (tx : List Int) (a x : Value) (u : List Value) (u0 : Int) (w : World) (hb : Below wa.heap.size wa w) (ha : OA lo1 w a at_ u) (h1 : wa.heap.size ≤ lo1) (hx : w.ownsRow lo1 5 1 x tx.length (bcs tx)) (hap : ∀ k, x.ownBlock = some k → a.ownBlock ≠ some k ∧ ∀ i, i < at_.length → (u.getD i undef).ownBlock ≠ some k) :
    Calls Tryz.prog 174 #[.pointer (some ⟨g, 0, none⟩), .agg #[.int .i64 u0, .string tg, a, x]] w fun e w' => (∃ v, e = .returned v) ∧ ZB true 138 w0 lo g (addX s tg at_ tx) w' ∧ Kp (fun k => τ k = 2 ∧ ¬ k = g) w w' := by
  obtain ⟨pa, ca, ea, _⟩ := own_len ha.row
  subst ea
  obtain ⟨px, cx, ex, _⟩ := own_len hx
  subst ex
  obtain ⟨pn, cn, en, _⟩ := own_len h.ns.row
  subst en
  obtain ⟨po, eo⟩ := OE.ptr h.op
  subst eo
  have n60 := hs.n
  have N0 := below_new w (.cells #[.int .i64 u0, .string tg, .slice pa at_.length ca, .slice px tx.length cx] 91)
  have M0 := hb.trans (N0.mono hb.size)
  have NW := Hid.mk' N0
  have Z0 := h.below M0
  have RB := row4 w 91 (.int .i64 u0) (.string tg) (.slice pa at_.length ca) (.slice px tx.length cx)
  have gx : g < w.heap.size := Nat.lt_of_lt_of_le h.box.lt hb.size
  have HZ := Hid.mk' h
  have HS := Hid.mk' hs
  have HAP := Hid.mk' hap
  have AN : Hid (∀ j, (Value.slice pa at_.length ca).ownBlock = some j → ¬ j = w.heap.size) := Hid.mk' (fun j e ej => by have := (ha.row.lt j e).2; omega)
  have UN : Hid (∀ i, i < at_.length → ∀ j, (u.getD i undef).ownBlock = some j → ¬ j = w.heap.size) := Hid.mk' (fun i hi j e ej => by have := (ha.val i hi).lt j e; omega)
  have XN : Hid (∀ j, (Value.slice px tx.length cx).ownBlock = some j → ¬ j = w.heap.size) := Hid.mk' (fun j e ej => by have := (hx.lt j e).2; omega)
  have HAA := Hid.mk' (ha.below N0)
  have HXX := Hid.mk' (own_keep hx N0)
  have HM := Hid.mk' M0
  have HZ0 := Hid.mk' Z0
  have HRB := Hid.mk' RB
  have szw : wa.heap.size ≤ w.heap.size := hb.size
  clear h hs hap ha hx hb N0 M0 Z0 RB
  generalize hW : w.alloc (.cells #[.int .i64 u0, .string tg, .slice pa at_.length ca, .slice px tx.length cx] 91) = W at *
  obtain ⟨c0, c1, c2, c3⟩ := cells3 HZ0.out.box
  by_cases h6 : 60 ≤ s.nd.length
  · have E : Hid (addX s tg at_ tx = bigS) := Hid.mk' (by unfold addX; rw [if_pos h6])
    have h6' : (s.nd.length : Int) ≥ 60 := by omega
    have KL := Hid.mk' (becomeLargeF_any _ rfl w0 lo g s W τ (.slice pn s.nd.length cn) (.pointer po) va vt us HZ0.out)
    go_enter Tryz.func174, Tryz.ntmps174
    go_wp2_with fail
    clear hW
    refine KL.out.mono ?_
    rintro e w1 ⟨⟨v9, rfl⟩, hz, hkf⟩
    have HZ1 := Hid.mk' hz
    have HKF := Hid.mk' ((Kp.of_below NW.out).trans hkf)
    clear hz KL hkf
    go_wp2
    (try simp only [Exit.inBlock, Exit.then])
    refine bodyPost_ret (results_none rfl _ _ _) rfl ?_
    exact ⟨⟨_, rfl⟩, by rw [E.out]; exact HZ1.out, HKF.out⟩
  have h6' : ¬ (s.nd.length : Int) ≥ 60 := by omega
  have KT := Hid.mk' (up_any τ lo s.nd s.op s.op.length (.pointer po) W HZ0.out.op)
  obtain ⟨tp, htp⟩ : ∃ tp, aheadI s.op s.op.length = tp := ⟨_, rfl⟩
  have TP := Hid.mk' htp
  rw [htp] at KT
  clear htp
  obtain ⟨d0, d1, d2, d3, d4⟩ := cells4 HRB.out
  have e0 := HRB.out.frozen 0
  have KK := (Kp.refl (fun j => ¬ j = w.heap.size) W).setCell (q := ⟨w.heap.size, 0, none⟩) (fun e => e rfl) (.int .i64 tp)
  have BB : Below w.heap.size W (W.setCell ⟨w.heap.size, 0, none⟩ (.int .i64 tp)) := (Below.refl _ _).setCell (p := ⟨w.heap.size, 0, none⟩) (Nat.le_refl _) _
  have HM2 : Hid (Below wa.heap.size wa (W.setCell ⟨w.heap.size, 0, none⟩ (.int .i64 tp))) := Hid.mk' (HM.out.trans (BB.mono szw))
  have HZ1 := Hid.mk' (HZ.out.below HM2.out)
  have HAA := Hid.mk' (HAA.out.keepOf (w' := W.setCell ⟨w.heap.size, 0, none⟩ (.int .i64 tp)) (fun j e hl => KK.block j hl (AN.out j e)) (fun i hi j e hl => KK.block j hl (UN.out i hi j e)))
  have HXX := Hid.mk' (own_of (w' := W.setCell ⟨w.heap.size, 0, none⟩ (.int .i64 tp)) HXX.out (Nat.le_refl _) (fun j e _ => KK.block j (HXX.out.lt j e).2 (XN.out j e)))
  have HR1 := Hid.mk' ((HRB.out.set 0 (.int .i64 tp)).congr (g := r4 (.int .i64 tp) (.string tg) (.slice pa at_.length ca) (.slice px tx.length cx)) (fun i hi => by have h4 : i = 0 ∨ i = 1 ∨ i = 2 ∨ i = 3 := (by omega); rcases h4 with rfl | rfl | rfl | rfl <;> rfl))
  have NV : Hid (Below w.heap.size w (W.setCell ⟨w.heap.size, 0, none⟩ (.int .i64 tp))) := Hid.mk' (NW.out.trans BB)
  clear KK BB
  go_enter Tryz.func174, Tryz.ntmps174
  go_wp2_with fail
  clear hW
  refine KT.out.mono ?_
  rintro e w1 ⟨rfl, hw1⟩
  obtain rfl := hw1.symm
  clear KT
  generalize hV : W.setCell ⟨w.heap.size, 0, none⟩ (.int .i64 tp) = V at *
  go_wp2_with fail
  clear hV c0 c1 c2 c3 d0 d1 d2 d3 d4 e0
  obtain ⟨b0, b1, b2, b3⟩ := cells3 HZ1.out.box
  obtain ⟨d0, d1, d2, d3, d4⟩ := cells4 HR1.out
  have xn0 := World.new_ne V ⟨g, 0, none⟩ b0
  have xn1 := World.new_ne V ⟨w.heap.size, 3, none⟩ d3
  dsimp only at xn0 xn1
  have VB := below_new V (.cells #[.int .i64 tp, .string tg, .slice pa at_.length ca, .slice px tx.length cx] 91)
  have HM3 := Hid.mk' (HM2.out.trans (VB.drew.mono HM2.out.size))
  have HZ2 := Hid.mk' (HZ1.out.below VB.drew)
  have NV2 := Hid.mk' (NV.out.trans (VB.drew.mono NV.out.size))
  have HA2 := Hid.mk' (HAA.out.below VB.drew)
  have HX2 := Hid.mk' (own_keep HXX.out VB.drew)
  have HR2 := Hid.mk' (rowB HR1.out VB.drew)
  have NC := Hid.mk' (one_node V 91 (.int .i64 tp) (.string tg) (.slice pa at_.length ca) (.slice px tx.length cx) V.heap.size rfl)
  clear VB
  refine wp_region_held_drew (S := fun w' => w'.cell? ⟨w.heap.size, 0, none⟩ = some (.int .i64 tp) ∧ w'.cell? ⟨w.heap.size, 1, none⟩ = some (.string tg) ∧ w'.cell? ⟨w.heap.size, 2, none⟩ = some (.slice pa at_.length ca) ∧ w'.cell? ⟨w.heap.size, 3, none⟩ = some (.slice px tx.length cx)) (by kernel_rfl) (by simp [*]) (fun hHeld => ?_)
  refine wpAnyH_take (i := 0) (oi := ⟨_, _, _, _, _, _⟩) (v := ?_) rfl (by kernel_rfl) (by kernel_rfl) (by kernel_rfl) (fun _ _ _ h => h) (Or.inl ⟨by rfl, ?_⟩) (by assumption) ?_
  rotate_left
  · (intro w hSw; (try dsimp only at hSw); go_simp; (try with_reducible rfl))
  try simp only [Act.put, zA, zB, zC]
  refine wpAnyH_take (i := 1) (oi := ⟨_, _, _, _, _, _⟩) (v := ?_) rfl (by kernel_rfl) (by kernel_rfl) (by kernel_rfl) (fun _ _ _ h => h) (Or.inl ⟨by rfl, ?_⟩) (by assumption) ?_
  rotate_left
  · (intro w hSw; (try dsimp only at hSw); go_simp; (try with_reducible rfl))
  try simp only [Act.put, zA, zB, zC]
  refine wpAnyH_take (i := 2) (oi := ⟨_, _, _, _, _, _⟩) (v := ?_) rfl (by kernel_rfl) (by kernel_rfl) (by kernel_rfl) (fun _ _ _ h => h) (Or.inl ⟨by rfl, ?_⟩) (by assumption) ?_
  rotate_left
  · (intro w hSw; (try dsimp only at hSw); go_simp; (try with_reducible rfl))
  try simp only [Act.put, zA, zB, zC]
  refine wpAnyH_take (i := 3) (oi := ⟨_, _, _, _, _, _⟩) (v := ?_) rfl (by kernel_rfl) (by kernel_rfl) (by kernel_rfl) (fun _ _ _ h => h) (Or.inl ⟨by rfl, ?_⟩) (by assumption) ?_
  rotate_left
  · (intro w hSw; (try dsimp only at hSw); go_simp; (try with_reducible rfl))
  try simp only [Act.put, zA, zB, zC]
  refine wpAnyH_take (i := 5) (oi := ⟨_, _, _, _, _, _⟩) (v := ?_) rfl (by kernel_rfl) (by kernel_rfl) (by kernel_rfl) (fun _ _ _ h => h) (Or.inl ⟨by rfl, ?_⟩) (by assumption) ?_
  rotate_left
  · (intro w hSw; (try dsimp only at hSw); go_simp; (try with_reducible rfl))
  try simp only [Act.put, zA, zB, zC]
  refine wpAnyH_ready (rs := [4, 6]) (by kernel_rfl) (by simp) ?_
  refine AllReadyH.cons (o := ⟨_, _, _, _, _, _⟩) rfl (fun K hK => ?_) (AllReadyH.cons (o := ⟨_, _, _, _, _, _⟩) rfl (fun K hK => ?_) AllReadyH.nil)
  · go_simp
    refine hK.out _ _ (by (try dsimp only); go_keep) (fun hHeld => ?_)
    clear hK K
    try simp only [Act.put, zA, zB, zC]
    refine wpAnyH_ready (rs := [6]) (by kernel_rfl) (by simp) ?_
    refine AllReadyH.cons (o := ⟨_, _, _, _, _, _⟩) rfl (fun K hK => ?_) AllReadyH.nil
    go_simp
    refine hK.out _ _ (by (try dsimp only); go_keep) (fun hHeld => ?_)
    clear hK K
    try simp only [Act.put, zA, zB, zC]
    refine wpAnyH_ready (rs := [7]) (by kernel_rfl) (by simp) ?_
    refine AllReadyH.cons (o := ⟨_, _, _, _, _, _⟩) rfl (fun K hK => ?_) AllReadyH.nil
    refine step_append_at rfl (.tmp 22) (.tmp 24) 41 rfl lo 91 (.agg #[.int .i64 0, .string ⟨#[]⟩, .slice none 0 0, .slice none 0 0]) 4 72 Tryz.underlying41 Tryz.info91 rfl (by decide) _ _ _ rfl HZ2.out.ns.row _ 1 _ [.int .i64 tp, .string tg, .slice pa at_.length ca, .slice px tx.length cx] rfl rfl (.inr ⟨_, rfl, NC.out⟩) (by simp [Value.oneCell']) (by unfold maxLen; omega) (by omega) HZ2.out.sz ?_
    intro v2 w2 ho hgr hat
    obtain ⟨av2, cv2, ev', _⟩ := own_len ho
    subst ev'
    have ho' := ho
    rw [← TP.out] at ho'
    have HQ := Hid.mk' (HZ.out.add HS.out (by omega) HM3.out HA2.out h1 HX2.out HAP.out ho' hgr hat)
    have vne : ∀ j, (Value.slice pn s.nd.length cn).ownBlock = some j → ¬ j = g ∧ ¬ j = w.heap.size := fun j e => ⟨fun ej => by have h8 := HZ.out.ns.rl j e; have h9 := HZ.out.gl; rw [← ej] at h9; omega, fun ej => by have := (HZ.out.ns.row.lt j e).2; omega⟩
    have HKF := Hid.mk' (((Kp.of_below (p := fun k => τ k = 2 ∧ ¬ k = g) NV2.out).trans (Kp.of_grown hgr (fun k e e2 => by have := HZ.out.ns.rl k e2.symm; omega))).setCell (q := ⟨g, 0, none⟩) (fun e => e.2 rfl) (.slice av2 (s.nd.length + 1) cv2))
    have z0 := hgr.cell (a := ⟨g, 0, none⟩) (cells3 HZ2.out.box).1 (fun e => (vne _ e.symm).1 rfl)
    have z1 : w2.frozen? ⟨g, 0, none⟩ = false := (HZ2.out.box.of_block (hgr.block g HZ2.out.box.lt (fun e => (vne _ e.symm).1 rfl))).frozen 0
    obtain ⟨t0, t1, t2, t3, t4⟩ := cells4 (HR2.out.of_block (hgr.block w.heap.size HR2.out.lt (fun e => (vne _ e.symm).2 rfl)))
    clear ho ho' hgr hat
    refine hK.out _ _ (by (try dsimp only); go_keep) (fun hHeld => ?_)
    clear hK K
    try simp only [Act.put, zA, zB, zC]
    refine wpAnyH_take (i := 8) (oi := ⟨_, _, _, _, _, _⟩) (v := ?_) rfl (by kernel_rfl) (by kernel_rfl) (by kernel_rfl) (fun _ _ _ h => h) (Or.inl ⟨by rfl, ?_⟩) (by assumption) ?_
    rotate_left
    · (intro w hSw; (try dsimp only at hSw); go_simp; (try with_reducible rfl))
    try simp only [Act.put, zA, zB, zC]
    refine wpAnyH_take (i := 9) (oi := ⟨_, _, _, _, _, _⟩) (v := ?_) rfl (by kernel_rfl) (by kernel_rfl) (by kernel_rfl) (fun _ _ _ h => h) (Or.inl ⟨by rfl, ?_⟩) (by assumption) ?_
    rotate_left
    · (intro w hSw; (try dsimp only at hSw); go_simp; (try with_reducible rfl))
    try simp only [Act.put, zA, zB, zC]
    refine wpAnyH_ready (rs := [10]) (by kernel_rfl) (by simp) ?_
    refine AllReadyH.cons (o := ⟨_, _, _, _, _, _⟩) rfl (fun K hK => ?_) AllReadyH.nil
    go_simp
    have gx' : g ≠ w.heap.size := Nat.ne_of_lt gx
    refine hK.out _ _ (by (try dsimp only); go_keep) (fun hHeld => ?_)
    clear hK K
    try simp only [Act.put, zA, zB, zC]
    refine wpAnyH_done (by kernel_rfl) ?_ _
    go_end0
    exact ⟨⟨_, rfl⟩, HQ.out, HKF.out⟩
  · go_simp
    refine hK.out _ _ (by (try dsimp only); go_keep) (fun hHeld => ?_)
    clear hK K
    try simp only [Act.put, zA, zB, zC]
    refine wpAnyH_ready (rs := [4]) (by kernel_rfl) (by simp) ?_
    refine AllReadyH.cons (o := ⟨_, _, _, _, _, _⟩) rfl (fun K hK => ?_) AllReadyH.nil
    go_simp
    refine hK.out _ _ (by (try dsimp only); go_keep) (fun hHeld => ?_)
    clear hK K
    try simp only [Act.put, zA, zB, zC]
    refine wpAnyH_ready (rs := [7]) (by kernel_rfl) (by simp) ?_
    refine AllReadyH.cons (o := ⟨_, _, _, _, _, _⟩) rfl (fun K hK => ?_) AllReadyH.nil
    refine step_append_at rfl (.tmp 22) (.tmp 24) 41 rfl lo 91 (.agg #[.int .i64 0, .string ⟨#[]⟩, .slice none 0 0, .slice none 0 0]) 4 72 Tryz.underlying41 Tryz.info91 rfl (by decide) _ _ _ rfl HZ2.out.ns.row _ 1 _ [.int .i64 tp, .string tg, .slice pa at_.length ca, .slice px tx.length cx] rfl rfl (.inr ⟨_, rfl, NC.out⟩) (by simp [Value.oneCell']) (by unfold maxLen; omega) (by omega) HZ2.out.sz ?_
    intro v2 w2 ho hgr hat
    obtain ⟨av2, cv2, ev', _⟩ := own_len ho
    subst ev'
    have ho' := ho
    rw [← TP.out] at ho'
    have HQ := Hid.mk' (HZ.out.add HS.out (by omega) HM3.out HA2.out h1 HX2.out HAP.out ho' hgr hat)
    have vne : ∀ j, (Value.slice pn s.nd.length cn).ownBlock = some j → ¬ j = g ∧ ¬ j = w.heap.size := fun j e => ⟨fun ej => by have h8 := HZ.out.ns.rl j e; have h9 := HZ.out.gl; rw [← ej] at h9; omega, fun ej => by have := (HZ.out.ns.row.lt j e).2; omega⟩
    have HKF := Hid.mk' (((Kp.of_below (p := fun k => τ k = 2 ∧ ¬ k = g) NV2.out).trans (Kp.of_grown hgr (fun k e e2 => by have := HZ.out.ns.rl k e2.symm; omega))).setCell (q := ⟨g, 0, none⟩) (fun e => e.2 rfl) (.slice av2 (s.nd.length + 1) cv2))
    have z0 := hgr.cell (a := ⟨g, 0, none⟩) (cells3 HZ2.out.box).1 (fun e => (vne _ e.symm).1 rfl)
    have z1 : w2.frozen? ⟨g, 0, none⟩ = false := (HZ2.out.box.of_block (hgr.block g HZ2.out.box.lt (fun e => (vne _ e.symm).1 rfl))).frozen 0
    obtain ⟨t0, t1, t2, t3, t4⟩ := cells4 (HR2.out.of_block (hgr.block w.heap.size HR2.out.lt (fun e => (vne _ e.symm).2 rfl)))
    clear ho ho' hgr hat
    refine hK.out _ _ (by (try dsimp only); go_keep) (fun hHeld => ?_)
    clear hK K
    try simp only [Act.put, zA, zB, zC]
    refine wpAnyH_take (i := 8) (oi := ⟨_, _, _, _, _, _⟩) (v := ?_) rfl (by kernel_rfl) (by kernel_rfl) (by kernel_rfl) (fun _ _ _ h => h) (Or.inl ⟨by rfl, ?_⟩) (by assumption) ?_
    rotate_left
    · (intro w hSw; (try dsimp only at hSw); go_simp; (try with_reducible rfl))
    try simp only [Act.put, zA, zB, zC]
    refine wpAnyH_take (i := 9) (oi := ⟨_, _, _, _, _, _⟩) (v := ?_) rfl (by kernel_rfl) (by kernel_rfl) (by kernel_rfl) (fun _ _ _ h => h) (Or.inl ⟨by rfl, ?_⟩) (by assumption) ?_
    rotate_left
    · (intro w hSw; (try dsimp only at hSw); go_simp; (try with_reducible rfl))
    try simp only [Act.put, zA, zB, zC]
    refine wpAnyH_ready (rs := [10]) (by kernel_rfl) (by simp) ?_
    refine AllReadyH.cons (o := ⟨_, _, _, _, _, _⟩) rfl (fun K hK => ?_) AllReadyH.nil
    go_simp
    have gx' : g ≠ w.heap.size := Nat.ne_of_lt gx
    refine hK.out _ _ (by (try dsimp only); go_keep) (fun hHeld => ?_)
    clear hK K
    try simp only [Act.put, zA, zB, zC]
    refine wpAnyH_done (by kernel_rfl) ?_ _
    go_end0
    exact ⟨⟨_, rfl⟩, HQ.out, HKF.out⟩

theorem addI_any (w0 : World) (lo g : Nat) (s : BS) (wa : World) (τ : Nat → Nat) (vn vo : Value) (va vt : Nat → Value) (us : Nat → List Value) (h : ZS true 138 w0 lo g s wa τ vn vo va vt us) (hs : GS s) (lo1 : Nat) (tg : ByteArray) (at_ : List AT) (tx : List Int) (a x : Value) (u : List Value) (u0 : Int) (w : World) (hb : Below wa.heap.size wa w) (ha : OA lo1 w a at_ u) (h1 : wa.heap.size ≤ lo1) (hx : w.ownsRow lo1 5 1 x tx.length (bcs tx)) (hap : ∀ k, x.ownBlock = some k → a.ownBlock ≠ some k ∧ ∀ i, i < at_.length → (u.getD i undef).ownBlock ≠ some k) :
    Calls Tryz.prog 174 #[.pointer (some ⟨g, 0, none⟩), .agg #[.int .i64 u0, .string tg, a, x]] w fun e w' => (∃ v, e = .returned v) ∧ ZB true 138 w0 lo g (addX s tg at_ tx) w' :=
  (addIF_any w0 lo g s wa τ vn vo va vt us h hs lo1 tg at_ tx a x u u0 w hb ha h1 hx hap).mono fun e w' h => ⟨h.1, h.2.1⟩

end Go.Proofs.YthcajggbcanmdaaGreatDoor

namespace Go.Proofs.YthcajggbcanmdaaGreatDoor
open Go.RowKit

def NamedP (τ : Nat → Nat) (lo : Nat) (w : World) (nd : List ND) (op : List Int) (nm : ByteArray) (k : Nat) (v : Value) : Prop :=
  (clK nd op nm k = none ∧ v = .pointer none) ∨ ∃ i, clK nd op nm k = some i ∧ i < k ∧ OE τ lo w nd op (i + 1) v

set_option maxHeartbeats 1600000 in
theorem named_any (τ : Nat → Nat) (lo : Nat) (nd : List ND) (op : List Int) (nm : ByteArray) (n : Nat) (v : Value) (w : World) (h : OE τ lo w nd op n v) :
    Calls Tryz.prog 177 #[v, .string nm] w fun e w' => ∃ v', e = .returned v' ∧ NamedP τ lo w nd op nm n v' ∧ w' = w := by
  have H := Hid.mk' h
  obtain ⟨p0, rfl⟩ := h.ptr
  clear h
  go_enter Tryz.func177, Tryz.ntmps177
  go_wp2
  go_loop [0] (fun x => ∃ k, k ≤ n ∧ OE τ lo w nd op k x ∧ clK nd op nm n = clK nd op nm k) (fun x => ptB x)
  case atStart => exact ⟨n, Nat.le_refl _, H.out, rfl⟩
  case round =>
    obtain ⟨k, hk, ho, hc⟩ := hrel
    have HC := Hid.mk' hc
    have HO := Hid.mk' ho
    cases k with
    | zero =>
      have e : _ = Value.pointer none := ho
      subst e
      clear ho hc
      go_wp2_with (first | go_big_skip)
      go_ret
      exact ⟨_, rfl, .inl ⟨HC.out, rfl⟩, rfl⟩
    | succ k =>
      obtain ⟨b, u, e, h1, h2, h3, h4, h5⟩ := ho
      subst e
      obtain ⟨c0, c1, c2, c3⟩ := cells3 h3
      obtain ⟨pu, eu⟩ := OE.ptr h5
      have H5 := Hid.mk' h5
      have HP := Hid.mk' h4
      subst eu
      clear h1 h2 h3 h4 h5 hc
      generalize ht : (ndK nd (wv op k).toNat).tg = tg at *
      have HT := Hid.mk' ht
      clear ht
      cases e1 : (tg.toList == nm.toList) with
      | true =>
        have E : Hid (clK nd op nm (k + 1) = some k) := Hid.mk' (by unfold clK; rw [HT.out, if_pos e1])
        go_wp2_with (first | go_big_skip)
        go_ret
        exact ⟨_, rfl, .inr ⟨k, by rw [HC.out, E.out], by omega, HO.out⟩, rfl⟩
      | false =>
        have E : Hid (clK nd op nm (k + 1) = clK nd op nm k) := Hid.mk' (by
          show (if _ then _ else _) = _
          rw [HT.out, if_neg (by rw [e1]; decide)])
        go_wp2_with (first | go_big_skip)
        go_round
        case rel => exact ⟨k, by omega, H5.out, by rw [HC.out, E.out]⟩
        case measure => exact Nat.lt_succ_of_le HP.out

theorem ZS.takeI2 {Tb : TypeId} {w0 : World} {lo g k : Nat} {s : BS} {w : World} {τ : Nat → Nat} {vn vo v' : Value} {va vt : Nat → Value} {us : Nat → List Value} (h : ZS true Tb w0 lo g s w τ vn vo va vt us) (hk : k ≤ s.op.length) (ho : OE τ lo w s.nd s.op k v') :
    ZS true Tb w0 lo g ⟨s.nd, s.op.take k, s.lg⟩ (w.setCell ⟨g, 1, none⟩ v') τ vn v' va vt us := by
  have g2 := h.gl
  refine ⟨r3_set1 h.box, ?_, ?_, g2, h.bl.setCell (p := ⟨g, 1, none⟩) h.glo _, by have := h.sz; simp [World.setCell]; omega, h.glo⟩
  · exact h.ns.keep ((Kp.refl _ _).setCell (q := ⟨g, 1, none⟩) (by show ¬ (τ g = 0 ∨ 3 ≤ τ g); omega) _)
  · show OE _ lo _ s.nd (s.op.take k) (s.op.take k).length _
    rw [show (s.op.take k).length = k by rw [List.length_take]; omega]
    exact OE.congr (fun j hj => ⟨wv_take hj, rfl⟩) (OE.keep ((Kp.refl _ _).setCell (q := ⟨g, 1, none⟩) (by show ¬ τ g = 1; omega) _) ho)

set_option maxHeartbeats 1600000 in
theorem closeIF_any (w0 : World) (lo g : Nat) (s : BS) (nm : ByteArray) (w : World) (τ : Nat → Nat) (vn vo : Value) (va vt : Nat → Value) (us : Nat → List Value) (hz : ZS true 138 w0 lo g s w τ vn vo va vt us) :
    Calls Tryz.prog 148 #[.pointer (some ⟨g, 0, none⟩), .string nm] w fun e w' => (∃ v, e = .returned v) ∧ (∃ vo', ZS true 138 w0 lo g (closeX s nm) w' τ vn vo' va vt us) ∧ Kp (fun k => ¬ k = g) w w' := by
  have KN := Hid.mk' (named_any τ lo s.nd s.op nm s.op.length vo w hz.op)
  have HZ := Hid.mk' hz
  obtain ⟨po, eo⟩ := OE.ptr hz.op
  subst eo
  obtain ⟨pn, cn, en, _⟩ := own_len hz.ns.row
  subst en
  obtain ⟨c0, c1, c2, c3⟩ := cells3 hz.box
  have f1 := hz.box.frozen 1
  clear hz
  go_enter Tryz.func148, Tryz.ntmps148
  go_wp2_with fail
  refine KN.out.mono ?_
  rintro e w1 ⟨v', rfl, hP, hw⟩
  obtain rfl := hw.symm
  rcases hP with ⟨hn, rfl⟩ | ⟨i, hi, hlt, hoe⟩
  · have E : Hid (closeX s nm = s) := Hid.mk' (by unfold closeX; rw [hn])
    clear KN hn
    go_wp2
    go_end0
    exact ⟨⟨_, rfl⟩, ⟨_, by rw [E.out]; exact HZ.out⟩, Kp.refl _ _⟩
  · have E : Hid (closeX s nm = ⟨s.nd, s.op.take i, s.lg⟩) := Hid.mk' (by unfold closeX; rw [hi])
    obtain ⟨b, u, e, h1, h2, h3, h4, h5⟩ := hoe
    subst e
    obtain ⟨pu, eu⟩ := OE.ptr h5
    subst eu
    obtain ⟨d0, d1, d2, d3⟩ := cells3 h3
    have HQ := Hid.mk' (HZ.out.takeI2 (k := i) (by omega) h5)
    clear KN hi h1 h2 h3 h4 h5
    go_wp2
    go_end0
    exact ⟨⟨_, rfl⟩, ⟨_, by rw [E.out]; exact HQ.out⟩, (Kp.refl _ _).setCell (q := ⟨g, 1, none⟩) (fun e => e rfl) _⟩

theorem closeI_any (w0 : World) (lo g : Nat) (s : BS) (nm : ByteArray) (w : World) (h : ZB true 138 w0 lo g s w) :
    Calls Tryz.prog 148 #[.pointer (some ⟨g, 0, none⟩), .string nm] w fun e w' => (∃ v, e = .returned v) ∧ ZB true 138 w0 lo g (closeX s nm) w' := by
  obtain ⟨τ, vn, vo, va, vt, us, hz⟩ := h
  exact (closeIF_any w0 lo g s nm w τ vn vo va vt us hz).mono fun e w' h => ⟨h.1, h.2.1.elim fun v' z => z.zb⟩

set_option maxHeartbeats 800000 in
theorem count_any (τ : Nat → Nat) (lo : Nat) (nd : List ND) (op : List Int) (n : Nat) (v : Value) (w : World) (h : OE τ lo w nd op n v) (hn : n ≤ 1000) :
    Calls Tryz.prog 176 #[v] w fun e w' => e = .returned (.int .i64 (n : Int)) ∧ w' = w := by
  have H := Hid.mk' h
  obtain ⟨p0, rfl⟩ := h.ptr
  clear h
  go_enter Tryz.func176, Tryz.ntmps176
  go_wp2
  go_loop [0, 3] (fun x c => ∃ k : Nat, k ≤ n ∧ OE τ lo w nd op k x ∧ c = .int .i64 ((n : Int) - (k : Int))) (fun x _ => ptB x)
  case atStart => exact ⟨n, Nat.le_refl _, H.out, by congr 1; omega⟩
  case round =>
    obtain ⟨k, hk, ho, rfl⟩ := hrel
    cases k with
    | zero =>
      have e : _ = Value.pointer none := ho
      subst e
      clear ho
      go_wp2
      go_ret
      exact ⟨by congr 2, rfl⟩
    | succ k =>
      obtain ⟨b, u, e, h1, h2, h3, h4, h5⟩ := ho
      subst e
      obtain ⟨c0, c1, c2, c3⟩ := cells3 h3
      obtain ⟨pu, eu⟩ := OE.ptr h5
      have H5 := Hid.mk' h5
      have HP := Hid.mk' h4
      subst eu
      have b1 : 0 ≤ (n : Int) - ((k + 1 : Nat) : Int) := by omega
      have b2 : (n : Int) - ((k + 1 : Nat) : Int) ≤ 1000 := by omega
      clear h1 h2 h3 h4 h5
      go_wp2
      go_round
      case rel => exact ⟨k, by omega, H5.out, by congr 1; omega⟩
      case measure => exact Nat.lt_succ_of_le HP.out

end Go.Proofs.YthcajggbcanmdaaGreatDoor
