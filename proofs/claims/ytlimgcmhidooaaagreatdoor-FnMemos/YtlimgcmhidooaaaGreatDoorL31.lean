/- Bytes spliced: the codes, a copy of as many as there is room for, a row cleared. -/
import Derived.Test.YtlimgcmhidooaaaGreatDoorL14
import Derived.Test.YtlimgcmhidooaaaGreatDoorL17
import Derived.Lib.SliceRun
import Derived.Test.YtlimgcmhidooaaaGreatDoorL30
import Derived.Test.YtlimgcmhidooaaaGreatDoorL21
set_option linter.unusedVariables false
set_option linter.unusedSimpArgs false
namespace Go.Proofs.YtlimgcmhidooaaaGreatDoor
open Go.RowKit

def CAt (w : World) (b o : Nat) (l : List Int) : Prop := b < w.heap.size ∧ ∀ k, k < l.length → w.cell? ⟨b, o + k, none⟩ = some (bv l k)

theorem CAt.below {w w' : World} {b o : Nat} {l : List Int} (h : CAt w b o l) (hb : Below w.heap.size w w') : CAt w' b o l :=
  ⟨Nat.lt_of_lt_of_le h.1 hb.size, fun k hk => (hb.cell h.1).trans (h.2 k hk)⟩

theorem CAt.at {w : World} {b o : Nat} {l : List Int} (h : CAt w b o l) : BAt w (some ⟨b, o, none⟩) l := .inr ⟨b, o, rfl, h.1, h.2⟩

end Go.Proofs.YtlimgcmhidooaaaGreatDoor

namespace Go.Proofs.YtlimgcmhidooaaaGreatDoor
open Go.RowKit

end Go.Proofs.YtlimgcmhidooaaaGreatDoor

namespace Go.Proofs.YtlimgcmhidooaaaGreatDoor
open Go.RowKit

end Go.Proofs.YtlimgcmhidooaaaGreatDoor

namespace Go.Proofs.YtlimgcmhidooaaaGreatDoor
open Go.RowKit

end Go.Proofs.YtlimgcmhidooaaaGreatDoor

namespace Go.Proofs.YtlimgcmhidooaaaGreatDoor
open Go.RowKit

def CpA (l : List AT) (w : World) (e : Ending) (w' : World) : Prop := ∃ v us, e = .returned v ∧ OA w.heap.size w' v l us ∧ Below w.heap.size w w'

theorem asz_at {l : List AT} {k : Nat} (h : k < l.length) : (atK l k).vl.length + (atK l k).nm.size ≤ asz l := by
  have := asz_take l k h
  have := asz_le l (k + 1)
  omega

theorem at_take {l : List AT} {k : Nat} (h : k < l.length) : l.take (k + 1) = l.take k ++ [atK l k] := by
  rw [List.take_add_one, List.getElem?_eq_getElem h]
  simp [atK, List.getD_eq_getElem?_getD, List.getElem?_eq_getElem h]

set_option maxRecDepth 100000 in
set_option maxHeartbeats 6400000 in
theorem l4CopyAttrs_own (a : Option Addr) (c : Nat) (l : List AT) (w : World) (ha : AAt w a l) (hl : (l.length : Int) + asz l ≤ 1048576) :
    Calls Tryz.prog 96 #[.slice a l.length c] w fun e w' => CpA l w e w' := by
  have HA := Hid.mk' ha
  clear ha
  go_enter Tryz.func96, Tryz.ntmps96
  go_wp2
  go_loopw [3, 4] (fun v i wr => ∃ (k : Nat) (us : List Value), k ≤ l.length ∧ i = .int .i64 k ∧ OA w.heap.size wr v (l.take k) us ∧ Below w.heap.size w wr) (fun _ i _ => l.length - (intOf i).toNat)
  case atStart => exact ⟨0, [], Nat.zero_le _, rfl, ⟨rfl, by simpa [acs] using World.ownsRow_lit (base := w.heap.size) (e := 139) (size := 2) w #[] 0 (Nat.le_refl _) (by decide) rfl, fun j h => absurd h (by simp), fun j h => absurd h (by simp), fun i j _ h => absurd h (by simp), fun j h => absurd h (by simp)⟩, below_new _ _⟩
  case round =>
    obtain ⟨k, us, hk, rfl, hoa, hbl⟩ := hrel
    have HB := Hid.mk' hbl
    obtain ⟨av, cv, ev, _⟩ := own_cap hoa.row
    have lt_ : (l.take k).length = k := by rw [List.length_take]; omega
    rw [lt_] at ev
    subst ev
    by_cases hlt : k < l.length
    · have ci : (k : Int) < (l.length : Int) := by omega
      rcases HA.out with h0 | ⟨b1, o1, rfl, s0, hc1⟩
      · exact absurd hlt (by rw [h0]; exact Nat.not_lt_zero _)
      obtain ⟨h1, p1, d1, h2, h3⟩ := hc1 k hlt
      replace h1 := (hbl.cell s0).trans h1
      replace h2 := (hbl.cell s0).trans h2
      replace h3 := h3.below hbl
      have s1 := Nat.lt_of_lt_of_le s0 hbl.size
      have sz1 : (atK l k).vl.length + (atK l k).nm.size ≤ asz l := asz_at hlt
      have AT1 := Hid.mk' (at_take hlt)
      have HO := Hid.mk' hoa
      have H3 := Hid.mk' h3
      clear hc1 h3 hoa
      go_wp2_with fail
      have GNE : Hid (∀ j, (Value.slice av k cv).ownBlock = some j → ¬ j = b1) := Hid.mk' (fun j e ej => by subst ej; have := (HO.out.row.lt j e).1; omega)
      refine wp_region_held_drew (S := fun w' => w'.cell? ⟨b1, o1 + k * 2, none⟩ = some (.string (atK l k).nm) ∧ w'.cell? ⟨b1, o1 + k * 2 + 1, none⟩ = some (.slice p1 (atK l k).vl.length d1)) (by kernel_rfl) (by simp [*]) (fun hHeld => ?_)
      refine tkY 0 ?_
      refine tkY 1 ?_
      refine tkY 2 ?_
      refine tkY 3 ?_
      refine tkY 4 ?_
      refine tkY 5 ?_
      refine tkY 6 ?_
      refine tkY 7 ?_
      refine tkY 8 ?_
      refine tkY 9 ?_
      refine tkY 10 ?_
      refine wpAnyH_ready (rs := [11]) (by kernel_rfl) (by simp) ?_
      refine AllReadyH.cons (o := ⟨_, _, _, _, _, _⟩) rfl (fun K hK => ?_) AllReadyH.nil
      go_simp
      go_at_call 51
      refine (l1Copy_own p1 d1 (atK l k).vl wr.drew (H3.out.below (Below.refl _ _).drew) (by omega)).mono ?_
      rintro e w2 ⟨u, rfl, hu, hb2⟩
      replace hb2 := undrew hb2
      obtain ⟨pu, cu, eu, _⟩ := own_cap hu
      subst eu
      have z0 := (hb2.cell s1).trans h1
      have z1 := (hb2.cell s1).trans h2
      have z2 := Nat.lt_of_lt_of_le s1 hb2.size
      have B2 : Hid (Below wr.heap.size wr w2) := Hid.mk' hb2
      have LO1 : Hid (wr.heap.size ≤ wr.heap.size) := Hid.mk' (Nat.le_refl _)
      have HU := Hid.mk' hu
      clear hb2 hu
      refine hK.out _ _ ⟨z0, z1⟩ (fun hHeld => ?_)
      clear hK K
      try simp only [Act.put, zA, zB, zC]
      refine tkY 12 ?_
      refine wpAnyH_ready (rs := [13]) (by kernel_rfl) (by simp) ?_
      refine AllReadyH.cons (o := ⟨_, _, _, _, _, _⟩) rfl (fun K hK => ?_) AllReadyH.nil
      go_simp
      have NN := below_new w2 (.cells #[.string (atK l k).nm, .slice pu (atK l k).vl.length cu] 139)
      have q0 := (NN.cell z2).trans z0
      have q1 := (NN.cell z2).trans z1
      have q2 := Nat.lt_of_lt_of_le z2 NN.size
      have B3 : Hid (Below wr.heap.size wr _) := Hid.mk' (B2.out.trans (NN.mono B2.out.size))
      have OW := Hid.mk' (HO.out.below B3.out)
      have HU2 := Hid.mk' (own_keep HU.out NN)
      clear NN
      refine hK.out _ _ ⟨q0, q1⟩ (fun hHeld => ?_)
      clear hK K
      try simp only [Act.put, zA, zB, zC]
      refine wpAnyH_ready (rs := [14]) (by kernel_rfl) (by simp) ?_
      refine AllReadyH.cons (o := ⟨_, _, _, _, _, _⟩) rfl (fun K hK => ?_) AllReadyH.nil
      refine step_append_at rfl (.tmp 12) (.tmp 25) 105 rfl w.heap.size 139 (.agg #[.string ⟨#[]⟩, .slice none 0 0]) 2 40 Tryz.underlying105 Tryz.info139 rfl (by decide) _ k _ rfl (by have := OW.out.row; rw [lt_] at this; exact this) _ 1 _ [.string (atK l k).nm, .slice pu (atK l k).vl.length cu] rfl rfl (.inr ⟨_, rfl, one_attr w2 _ _ _ _ rfl⟩) (by simp [Value.oneCell']) (by unfold maxLen; omega) (by omega) (Nat.le_trans HB.out.size B3.out.size) ?_
      intro v' w4 ho hgr hat
      have ho' : w4.ownsRow w.heap.size 139 2 v' ((l.take k).length + 1) (acs (l.take k) us ++ [.string (atK l k).nm, .slice pu (atK l k).vl.length cu]) := by rw [lt_]; exact ho
      have A4 := HO.out.app (w1 := w2.alloc (.cells #[.string (atK l k).nm, .slice pu (atK l k).vl.length cu] 139)) (w2 := w4) (a := atK l k) (u := .slice pu (atK l k).vl.length cu) B3.out (OB.of_own HU2.out).1 HB.out.size (fun j e => Nat.le_trans LO1.out ((OB.of_own HU2.out).2 j e)) ho' hgr hat
      rw [← AT1.out] at A4
      have HA4 := Hid.mk' A4
      have HB4 := Hid.mk' ((HB.out.trans (B3.out.mono HB.out.size)).grown hgr (Nat.le_trans HB.out.size B3.out.size) (own_lo OW.out.row))
      have gne : ∀ j, (Value.slice av k cv).ownBlock = some j → ¬ j = b1 := fun j e => GNE.out j e
      have r0 := hgr.cell q0 (fun e => gne _ e.symm rfl)
      have r1 := hgr.cell q1 (fun e => gne _ e.symm rfl)
      clear ho ho' hgr hat A4
      refine hK.out _ _ ⟨r0, r1⟩ (fun hHeld => ?_)
      clear hK K
      try simp only [Act.put, zA, zB, zC]
      refine tkY 15 ?_
      refine wpAnyH_done (by kernel_rfl) ?_ _
      obtain ⟨aw, cw, ew, _⟩ := own_cap HA4.out.row
      subst ew
      go_wp2
      go_roundw
      case rel => exact ⟨k + 1, _, by omega, by go_num, HA4.out, HB4.out⟩
      case measure => simp [intOf]; omega
    · have ci : ¬ (k : Int) < (l.length : Int) := by omega
      have e : k = l.length := by omega
      subst e
      rw [List.take_length] at hoa
      have HO := Hid.mk' hoa
      clear hoa hbl
      go_wp2
      go_ret
      exact ⟨_, us, rfl, HO.out, HB.out⟩

set_option maxRecDepth 100000 in
set_option maxHeartbeats 6400000 in
theorem l4Copy_any (a : Option Addr) (c : Nat) (l : List TK) (w : World) (ha : TsAt w a l) (hl : (l.length : Int) + tssz l ≤ 1048576) :
    Calls Tryz.prog 67 #[.slice a l.length c] w fun e w' => ∃ v us, e = .returned v ∧ TokS w.heap.size w' v l us ∧ Below w.heap.size w w' := by
  have HA := Hid.mk' ha
  clear ha
  go_enter Tryz.func67, Tryz.ntmps67
  go_wp2
  go_loopw [3, 4] (fun v i wr => ∃ (k : Nat) (us : List Value), k ≤ l.length ∧ i = .int .i64 k ∧ TokS w.heap.size wr v (l.take k) us ∧ Below w.heap.size w wr) (fun _ i _ => l.length - (intOf i).toNat)
  case atStart => exact ⟨0, [], Nat.zero_le _, rfl, ⟨rfl, by simpa [tcs] using World.ownsRow_lit (base := w.heap.size) (e := 107) (size := 5) w #[] 0 (Nat.le_refl _) (by decide) rfl, fun u h => absurd h (by simp), fun i t u h => absurd h (by simp)⟩, below_new _ _⟩
  case round =>
    obtain ⟨k, us, hk, rfl, hts, hbl⟩ := hrel
    have HB := Hid.mk' hbl
    have lt_ : (l.take k).length = k := by rw [List.length_take]; omega
    by_cases hlt : k < l.length
    · have ci : (k : Int) < (l.length : Int) := by omega
      rcases HA.out with ha | ⟨b, o, rfl, hbs, hc⟩
      · exact absurd hlt (by rw [ha]; exact Nat.not_lt_zero _)
      obtain ⟨q1, q2, q3, ⟨p, d, q4, q5⟩, q6⟩ := hc k hlt
      have h1 := (hbl.cell hbs).trans q1
      have h2 := (hbl.cell hbs).trans q2
      have h3 := (hbl.cell hbs).trans q3
      have h4 := (hbl.cell hbs).trans q4
      have h6 := (hbl.cell hbs).trans q6
      have st := tssz_take l k hlt
      have sl := tssz_le l (k + 1)
      unfold tsz at st
      have N1 := below_new wr (.cells #[.int .i64 (tkK l k).kd, .int .i64 (tkK l k).by_, .string (tkK l k).nm, .slice p (tkK l k).at_.length d, .bool (tkK l k).sh] 107)
      have KA := Hid.mk' (l4CopyAttrs_own p d (tkK l k).at_ _ ((q5.below hbl).below N1) (by omega))
      have RT := Hid.mk' (row5 wr 107 (.int .i64 (tkK l k).kd) (.int .i64 (tkK l k).by_) (.string (tkK l k).nm) (.slice p (tkK l k).at_.length d) (.bool (tkK l k).sh))
      have HN := Hid.mk' N1
      have HT := Hid.mk' hts
      have E1 : Hid (l.take (k + 1) = l.take k ++ [tkK l k]) := Hid.mk' (by rw [List.take_succ_eq_append_getElem hlt]; unfold tkK; simp [hlt])
      obtain ⟨av, cv, ev, _⟩ := own_cap hts.row
      rw [lt_] at ev
      subst ev
      have ZW : Hid ((wr.alloc (.cells #[.int .i64 (tkK l k).kd, .int .i64 (tkK l k).by_, .string (tkK l k).nm, .slice p (tkK l k).at_.length d, .bool (tkK l k).sh] 107)).heap.size = wr.heap.size + 1) := Hid.mk' (by simp)
      clear q1 q2 q3 q4 q5 q6 hc st sl N1 hts hbl
      generalize hW : wr.alloc (.cells #[.int .i64 (tkK l k).kd, .int .i64 (tkK l k).by_, .string (tkK l k).nm, .slice p (tkK l k).at_.length d, .bool (tkK l k).sh] 107) = W at *
      obtain ⟨x0, x1, x2, x3, x4, x5⟩ := cells5 RT.out
      go_wp2_with fail
      clear hW h1 h2 h3 h4 h6 x0 x1 x2 x3 x4 x5
      refine KA.out.mono ?_
      rintro e w2 ⟨va, ats, rfl, oa, hb2⟩
      obtain ⟨pa, cb, rfl, _⟩ := own_cap oa.row
      have R2 := Hid.mk' (rowB RT.out hb2)
      have M2 := HN.out.trans (hb2.mono HN.out.size)
      have B3 : Below wr.heap.size wr (w2.setCell ⟨wr.heap.size, 3, none⟩ (.slice pa (tkK l k).at_.length cb)) := M2.setCell (p := ⟨wr.heap.size, 3, none⟩) (Nat.le_refl _) _
      have N4 := below_new (w2.setCell ⟨wr.heap.size, 3, none⟩ (.slice pa (tkK l k).at_.length cb)) (.cells #[.int .i64 (tkK l k).kd, .int .i64 (tkK l k).by_, .string (tkK l k).nm, .slice pa (tkK l k).at_.length cb, .bool (tkK l k).sh] 107)
      have B4 := Hid.mk' (B3.trans (N4.mono B3.size))
      have NC := Hid.mk' (new_cells' (w2.setCell ⟨wr.heap.size, 3, none⟩ (.slice pa (tkK l k).at_.length cb)) 107 [.int .i64 (tkK l k).kd, .int .i64 (tkK l k).by_, .string (tkK l k).nm, .slice pa (tkK l k).at_.length cb, .bool (tkK l k).sh] w2.heap.size (by simp))
      have OV := Hid.mk' (own_keep HT.out.row B4.out)
      have SZ : Hid (w.heap.size ≤ ((w2.setCell ⟨wr.heap.size, 3, none⟩ (.slice pa (tkK l k).at_.length cb)).alloc (.cells #[.int .i64 (tkK l k).kd, .int .i64 (tkK l k).by_, .string (tkK l k).nm, .slice pa (tkK l k).at_.length cb, .bool (tkK l k).sh] 107)).heap.size) := Hid.mk' (Nat.le_trans HB.out.size B4.out.size)
      have P1 : Hid (∀ u ∈ ([.int .i64 (tkK l k).kd, .int .i64 (tkK l k).by_, .string (tkK l k).nm, .slice pa (tkK l k).at_.length cb, .bool (tkK l k).sh] : List Value), u.oneCell' = true) := Hid.mk' (by
        intro u hu'
        simp only [List.mem_cons, List.not_mem_nil, or_false] at hu'
        rcases hu' with rfl | rfl | rfl | rfl | rfl <;> rfl)
      have TI : Hid (TokIn wr.heap.size ((w2.setCell ⟨wr.heap.size, 3, none⟩ (.slice pa (tkK l k).at_.length cb)).alloc (.cells #[.int .i64 (tkK l k).kd, .int .i64 (tkK l k).by_, .string (tkK l k).nm, .slice pa (tkK l k).at_.length cb, .bool (tkK l k).sh] 107)) (Value.slice av k cv).ownBlock (tkK l k) (.slice pa (tkK l k).at_.length cb)) := Hid.mk' (.inr ⟨W.heap.size, w2, ats, by rw [ZW.out]; omega, oa, by simp, fun q h5 h7 => (N4.block q (by simpa using h7)).trans (Below.heap_setCell _ _ _ _ (by rw [ZW.out] at h5; simp; omega)), fun q e => .inl (by have := (HT.out.row.lt q e).2; rw [ZW.out]; omega)⟩)
      obtain ⟨x0, x1, x2, x3, x4, x5⟩ := cells5 R2.out
      have f3 := R2.out.frozen 3
      clear B3 N4 M2 oa hb2 KA RT
      have OV2 : Hid (World.ownsRow ((w2.setCell ⟨wr.heap.size, 3, none⟩ (.slice pa (tkK l k).at_.length cb)).alloc (.cells #[.int .i64 (tkK l k).kd, .int .i64 (tkK l k).by_, .string (tkK l k).nm, .slice pa (tkK l k).at_.length cb, .bool (tkK l k).sh] 107)) w.heap.size 107 5 (.slice av k cv) k (tcs (l.take k) us)) := Hid.mk' (by have := OV.out; rwa [lt_] at this)
      go_wp2_with (at_builtin; refine wpList_append_at _ rfl (.tmp 21) (.tmp 23) 24 rfl w.heap.size 107 (.agg #[.int .i64 0, .int .i64 0, .string ⟨#[]⟩, .slice none 0 0, .bool false]) 5 64 Tryz.underlying24 Tryz.infoTok rfl (by decide) _ _ _ rfl OV2.out _ 1 _ [.int .i64 (tkK l k).kd, .int .i64 (tkK l k).by_, .string (tkK l k).nm, .slice pa (tkK l k).at_.length cb, .bool (tkK l k).sh] rfl rfl (.inr ⟨_, rfl, NC.out⟩) P1.out (by unfold maxLen; omega) (by omega) SZ.out ?_; intro v' w5 ho hgr hat)
      have T5 := HT.out.app (w1 := ((w2.setCell ⟨wr.heap.size, 3, none⟩ (.slice pa (tkK l k).at_.length cb)).alloc (.cells #[.int .i64 (tkK l k).kd, .int .i64 (tkK l k).by_, .string (tkK l k).nm, .slice pa (tkK l k).at_.length cb, .bool (tkK l k).sh] 107))) (w2 := w5) (v' := v') (ts1 := [tkK l k]) (us1 := [.slice pa (tkK l k).at_.length cb]) B4.out HB.out.size (fun i t u ht hu => by
        cases i with
        | succ i => simp at ht
        | zero => simp at ht hu; subst ht hu; exact TI.out) rfl (fun u hu => by rw [List.mem_singleton] at hu; rw [hu]; rfl) (by rw [lt_]; exact ho) hgr hat
      rw [← E1.out] at T5
      have HT5 := Hid.mk' T5
      have HB5 := Hid.mk' ((HB.out.trans (B4.out.mono HB.out.size)).grown hgr SZ.out (own_lo OV2.out))
      clear T5 ho hgr hat
      go_roundw
      case rel => exact ⟨k + 1, _, by omega, by go_num, HT5.out, HB5.out⟩
      case measure => simp [intOf]; omega
    · have ci : ¬ (k : Int) < (l.length : Int) := by omega
      have e : k = l.length := by omega
      subst e
      rw [List.take_length] at hts
      have HT := Hid.mk' hts
      clear hts hbl
      go_wp2
      go_ret
      exact ⟨_, rfl, ⟨us, HT.out⟩, HB.out⟩

end Go.Proofs.YtlimgcmhidooaaaGreatDoor

namespace Go.Proofs.YtlimgcmhidooaaaGreatDoor
open Go.RowKit

theorem name_eq {x y : ByteArray} (h : (x.toList == y.toList) = true) : x = y := by
  have e : x.toList = y.toList := by simpa using h
  rw [toList_data, toList_data] at e
  cases x; cases y
  simp only [ByteArray.mk.injEq]
  exact Array.toList_inj.1 e

theorem aeq_eq {x y : AT} (hx : Byt x.vl) (hy : Byt y.vl) (h : aeq x y = true) : x = y := by
  unfold aeq at h
  rw [Bool.and_eq_true] at h
  have e1 := name_eq h.1
  have e2 : x.vl = y.vl := beqB_eq hx hy h.2
  cases x; cases y
  simp only at e1 e2
  rw [e1, e2]

theorem list_getD_eq {α : Type} {l m : List α} {d : α} (h : l.length = m.length) (hk : ∀ k, k < l.length → l.getD k d = m.getD k d) : l = m := by
  apply List.ext_getElem h
  intro k h1 h2
  have := hk k h1
  simpa [List.getD_eq_getElem?_getD, h1, h2] using this

theorem sameAs_eq {l m : List AT} (hl : ∀ j, j < l.length → Byt (atK l j).vl) (hm : ∀ j, j < m.length → Byt (atK m j).vl) (h : sameAs l m = true) : l = m := by
  unfold sameAs at h
  rw [Bool.and_eq_true] at h
  have e : l.length = m.length := of_decide_eq_true h.1
  have h4 := h.2
  unfold allK at h4
  rw [List.all_eq_true] at h4
  exact list_getD_eq e (fun k hk => aeq_eq (hl k hk) (hm k (by omega)) (h4 k (List.mem_range.2 hk)))

theorem teq_eq {x y : TK} (hx : ∀ j, j < x.at_.length → Byt (atK x.at_ j).vl) (hy : ∀ j, j < y.at_.length → Byt (atK y.at_ j).vl) (h : teq x y = true) : x = y := by
  unfold teq at h
  simp only [Bool.and_eq_true] at h
  obtain ⟨⟨⟨⟨h1, h2⟩, h3⟩, h4⟩, h5⟩ := h
  have e1 : x.kd = y.kd := by simpa using h1
  have e2 : x.by_ = y.by_ := by simpa using h2
  have e3 := name_eq h3
  have e4 : x.sh = y.sh := by simpa using h4
  have e5 := sameAs_eq hx hy h5
  cases x; cases y
  simp only at e1 e2 e3 e4 e5
  rw [e1, e2, e3, e4, e5]

def TBt (l : List TK) : Prop := ∀ i, i < l.length → ∀ j, j < (tkK l i).at_.length → Byt (atK (tkK l i).at_ j).vl

theorem sameTs_eq {l m : List TK} (hl : TBt l) (hm : TBt m) (h : sameTs l m = true) : l = m := by
  unfold sameTs at h
  rw [Bool.and_eq_true] at h
  have e : l.length = m.length := of_decide_eq_true h.1
  have h4 := h.2
  unfold allK at h4
  rw [List.all_eq_true] at h4
  exact list_getD_eq e (fun k hk => teq_eq (hl k hk) (hm k (by omega)) (h4 k (List.mem_range.2 hk)))

end Go.Proofs.YtlimgcmhidooaaaGreatDoor

namespace Go.Proofs.YtlimgcmhidooaaaGreatDoor
open Go.RowKit

def BtL (l : List Int) : Prop := ∀ x ∈ l, 0 ≤ x ∧ x ≤ 255

theorem BtL.byt {l : List Int} (h : BtL l) : Byt l := fun k hk => by
  rw [List.getD_eq_getElem?_getD, List.getElem?_eq_getElem hk]
  exact h _ (List.getElem_mem hk)

theorem dec_btl : ∀ (n : Nat) (L : List UInt8), BtL (dec n L)
  | 0, L => by unfold dec; exact fun x h => absurd h (by simp)
  | n + 1, [] => by unfold dec; exact fun x h => absurd h (by simp)
  | n + 1, c :: r => by
    unfold dec
    split
    all_goals
      intro x hx
      rcases List.mem_cons.1 hx with e | hx
      · subst e
        first
          | (have := refOf_byte (c :: r); omega)
          | (have := c.toNat_lt; omega)
      · exact dec_btl n _ x hx

theorem decode_btl (L : List UInt8) : BtL (decode L) := dec_btl _ _

def AtB (l : List AT) : Prop := ∀ a ∈ l, BtL a.vl

theorem attrA_btl {L : List UInt8} {a : AT} {n : Nat} (h : attrA L = some (a, n)) : BtL a.vl := by
  unfold attrA at h
  split at h
  · split at h
    · injection h with h
      injection h with h1 h2
      rw [← h1]
      exact decode_btl _
    · cases h
  · cases h

theorem addA_btl {l : List AT} {a : AT} (hl : AtB l) (ha : BtL a.vl) : AtB (addA l a) := by
  unfold addA
  split
  · exact hl
  · intro b hb
    rcases List.mem_append.1 hb with hb | hb
    · exact hl b hb
    · rw [List.mem_singleton] at hb; rw [hb]; exact ha

theorem insideA_btl : ∀ (f : Nat) (L : List UInt8) (acc : List AT) (l : List AT) (sh : Bool), AtB acc → insideA f L acc = some (l, sh) → AtB l
  | 0, _, _, _, _, _, h => by unfold insideA at h; cases h
  | f + 1, L, acc, l, sh, ha, h => by
    unfold insideA at h
    split at h
    · split at h
      · injection h with h; injection h with h1 h2; rw [← h1]; exact ha
      · cases h
    · split at h
      · split at h
        · injection h with h; injection h with h1 h2; rw [← h1]; exact ha
        · cases h
      · split at h
        · cases h
        · split at h
          · cases h
          · next a n e => exact insideA_btl f _ _ _ _ (addA_btl ha (attrA_btl e)) h

theorem tagA_btl {L : List UInt8} {t : TK} (h : tagA L = some t) : AtB t.at_ := by
  have z : AtB [] := fun a h => absurd h (by simp)
  unfold tagA at h
  split at h
  · split at h
    · split at h
      · injection h with h; rw [← h]; exact z
      · cases h
    · split at h
      · split at h
        · injection h with h; rw [← h]; exact z
        · cases h
      · split at h
        · split at h
          · cases h
          · next l sh e => injection h with h; rw [← h]; exact insideA_btl _ _ _ _ _ z e
        · cases h
  · cases h

def TkB (l : List TK) : Prop := ∀ t ∈ l, AtB t.at_

theorem bytesT_tkb (l : List Int) : TkB (bytesT l) := by
  intro t ht
  unfold bytesT at ht
  obtain ⟨x, _, rfl⟩ := List.mem_map.1 ht
  exact fun a h => absurd h List.not_mem_nil

theorem TkB.nil : TkB [] := fun t h => absurd h (by simp)

theorem lenX_tkb (l : List Int) (b : Nat) : TkB (lenX l b).1 := by
  unfold lenX
  split
  · exact bytesT_tkb _
  · exact fun t h => absurd h List.not_mem_nil

theorem tagX_tkb (l : List Int) (b : Nat) : TkB (tagX l b).1 := by
  unfold tagX
  split
  · split
    · next t e =>
      intro u hu
      rw [List.mem_singleton] at hu
      rw [hu]
      exact tagA_btl e
    · split
      · exact bytesT_tkb _
      · exact lenX_tkb _ _
  · split
    · exact bytesT_tkb _
    · exact lenX_tkb _ _

theorem feedX_tkb (l : List Int) (b : Nat) : TkB (feedX l b).1 := by
  unfold feedX
  split
  · exact bytesT_tkb _
  · split
    · exact bytesT_tkb _
    · exact tagX_tkb _ _

theorem allX_tkb : ∀ (l : List Int) (ts : List TK) (hs : List Int), TkB ts → TkB (allX ts hs l).1
  | [], ts, hs, h => h
  | x :: r, ts, hs, h => by
    unfold allX
    refine allX_tkb r _ _ (fun t ht => ?_)
    rcases List.mem_append.1 ht with ht | ht
    · exact h t ht
    · exact feedX_tkb _ _ t ht

theorem TkB.tbt {l : List TK} (h : TkB l) : TBt l := fun i hi j hj => by
  have m1 : tkK l i ∈ l := by
    unfold tkK
    rw [List.getD_eq_getElem?_getD, List.getElem?_eq_getElem hi]
    exact List.getElem_mem hi
  have m2 : atK (tkK l i).at_ j ∈ (tkK l i).at_ := by
    unfold atK
    rw [List.getD_eq_getElem?_getD, List.getElem?_eq_getElem hj]
    exact List.getElem_mem hj
  exact (h _ m1 _ m2).byt

theorem right_toks {d : List Int} {s : Nat} {m : ME} (hd : Byt d) (ht : TBt m.tk) (hh : Byt m.hd) (h : sameR (memX d s) m = true) : m.tk = (memX d s).tk ∧ m.hd = (memX d s).hd := by
  unfold sameR at h
  rw [Bool.and_eq_true, Bool.and_eq_true] at h
  refine ⟨(sameTs_eq (TkB.tbt (allX_tkb _ _ _ TkB.nil)) ht h.1).symm, (beqB_eq (allX_byt _ _ _ (fun x hx => hd.mem x (by first | exact hx | exact List.mem_of_mem_take hx)) Byt.nil) hh h.2.1).symm⟩

end Go.Proofs.YtlimgcmhidooaaaGreatDoor

namespace Go.Proofs.YtlimgcmhidooaaaGreatDoor
open Go.RowKit

end Go.Proofs.YtlimgcmhidooaaaGreatDoor

namespace Go.Proofs.YtlimgcmhidooaaaGreatDoor
open Go.RowKit

theorem TsAt.rest {w : World} {b o c n : Nat} {l : List TK} (h : TsAt w (some ⟨b, o, none⟩) l) (hc : l.length ≤ c) (hn : n ≤ l.length) : TsAt w (if c = n then some ⟨b, o, none⟩ else some ⟨b, o + n * 5, none⟩) (l.drop n) := by
  by_cases e : c = n
  · exact .inl (List.drop_eq_nil_of_le (by omega))
  · rw [if_neg e]
    rcases h with h | ⟨b1, o1, e1, hb, hc⟩
    · exact .inl (by rw [h]; simp)
    · cases e1
      refine .inr ⟨b, o + n * 5, rfl, hb, fun k hk => ?_⟩
      rw [List.length_drop] at hk
      have ek : tkK (l.drop n) k = tkK l (n + k) := by unfold tkK; simp
      rw [ek]
      have := hc (n + k) (by omega)
      rw [show o + (n + k) * 5 = o + n * 5 + k * 5 by omega] at this
      exact this

end Go.Proofs.YtlimgcmhidooaaaGreatDoor

namespace Go.Proofs.YtlimgcmhidooaaaGreatDoor
open Go.RowKit

end Go.Proofs.YtlimgcmhidooaaaGreatDoor

namespace Go.Proofs.YtlimgcmhidooaaaGreatDoor
open Go.RowKit

end Go.Proofs.YtlimgcmhidooaaaGreatDoor

namespace Go.Proofs.YtlimgcmhidooaaaGreatDoor
open Go.RowKit

end Go.Proofs.YtlimgcmhidooaaaGreatDoor
