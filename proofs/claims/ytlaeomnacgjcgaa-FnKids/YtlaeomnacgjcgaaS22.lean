/- Attributes copied, by the program and by the model. -/
import Derived.Test.YtlaeomnacgjcgaaS21
import Derived.Test.YtlaeomnacgjcgaaR11
import Derived.Lib.LazyBuf
import Derived.Test.YtlaeomnacgjcgaaS17
import Derived.Test.YtlaeomnacgjcgaaR4
set_option linter.unusedVariables false
set_option linter.unusedSimpArgs false
namespace Go.Proofs.Ytlaeomnacgjcgaa
open Go.RowKit

def CpA (l : List AT) (w : World) (e : Ending) (w' : World) : Prop := ∃ v us, e = .returned v ∧ OA w.heap.size w' v l us ∧ Below w.heap.size w w'

theorem asz_at {l : List AT} {k : Nat} (h : k < l.length) : (atK l k).vl.length + (atK l k).nm.size ≤ asz l := by
  have := asz_take l k h
  have := asz_le l (k + 1)
  omega

theorem at_take {l : List AT} {k : Nat} (h : k < l.length) : l.take (k + 1) = l.take k ++ [atK l k] := by
  rw [List.take_add_one, List.getElem?_eq_getElem h]
  simp [atK, List.getD_eq_getElem?_getD, List.getElem?_eq_getElem h]

set_option maxRecDepth 100000 in
set_option maxHeartbeats 6400000 in
theorem l4CopyAttrs_own (a : Option Addr) (c : Nat) (l : List AT) (w : World) (ha : AAt w a l) (hl : (l.length : Int) + asz l ≤ 1048576) :
    Calls Try.prog 74 #[.slice a l.length c] w fun e w' => CpA l w e w' := by
  have HA := Hid.mk' ha
  clear ha
  go_enter Try.func74, Try.ntmps74
  go_wp2
  go_loopw [3, 4] (fun v i wr => ∃ (k : Nat) (us : List Value), k ≤ l.length ∧ i = .int .i64 k ∧ OA w.heap.size wr v (l.take k) us ∧ Below w.heap.size w wr) (fun _ i _ => l.length - (intOf i).toNat)
  case atStart => exact ⟨0, [], Nat.zero_le _, rfl, ⟨rfl, by simpa [acs] using World.ownsRow_lit (base := w.heap.size) (e := 97) (size := 2) w #[] 0 (Nat.le_refl _) (by decide) rfl, fun j h => absurd h (by simp), fun j h => absurd h (by simp), fun i j _ h => absurd h (by simp), fun j h => absurd h (by simp)⟩, below_new _ _⟩
  case round =>
    obtain ⟨k, us, hk, rfl, hoa, hbl⟩ := hrel
    have HB := Hid.mk' hbl
    obtain ⟨av, cv, ev, _⟩ := own_len hoa.row
    have lt_ : (l.take k).length = k := by rw [List.length_take]; omega
    rw [lt_] at ev
    subst ev
    by_cases hlt : k < l.length
    · have ci : (k : Int) < (l.length : Int) := by omega
      rcases HA.out with h0 | ⟨b1, o1, rfl, s0, hc1⟩
      · exact absurd hlt (by rw [h0]; exact Nat.not_lt_zero _)
      obtain ⟨h1, p1, d1, h2, h3⟩ := hc1 k hlt
      replace h1 := (hbl.cell s0).trans h1
      replace h2 := (hbl.cell s0).trans h2
      replace h3 := h3.below hbl
      have s1 := Nat.lt_of_lt_of_le s0 hbl.size
      have sz1 : (atK l k).vl.length + (atK l k).nm.size ≤ asz l := asz_at hlt
      have AT1 := Hid.mk' (at_take hlt)
      have HO := Hid.mk' hoa
      have H3 := Hid.mk' h3
      clear hc1 h3 hoa
      go_wp2_with fail
      have GNE : Hid (∀ j, (Value.slice av k cv).ownBlock = some j → ¬ j = b1) := Hid.mk' (fun j e ej => by subst ej; have := (HO.out.row.lt j e).1; omega)
      refine wp_region_held_drew (S := fun w' => w'.cell? ⟨b1, o1 + k * 2, none⟩ = some (.string (atK l k).nm) ∧ w'.cell? ⟨b1, o1 + k * 2 + 1, none⟩ = some (.slice p1 (atK l k).vl.length d1)) (by kernel_rfl) (by simp [*]) (fun hHeld => ?_)
      refine tkY 0 ?_
      refine tkY 1 ?_
      refine tkY 2 ?_
      refine tkY 3 ?_
      refine tkY 4 ?_
      refine tkY 5 ?_
      refine tkY 6 ?_
      refine tkY 7 ?_
      refine tkY 8 ?_
      refine tkY 9 ?_
      refine tkY 10 ?_
      refine wpAnyH_ready (rs := [11]) (by kernel_rfl) (by simp) ?_
      refine AllReadyH.cons (o := ⟨_, _, _, _, _, _⟩) rfl (fun K hK => ?_) AllReadyH.nil
      go_simp
      go_at_call 69
      refine (l1Copy_own p1 d1 (atK l k).vl wr.drew (H3.out.below (Below.refl _ _).drew) (by omega)).mono ?_
      rintro e w2 ⟨u, rfl, hu, hb2⟩
      replace hb2 := undrew hb2
      obtain ⟨pu, cu, eu, _⟩ := own_len hu
      subst eu
      have z0 := (hb2.cell s1).trans h1
      have z1 := (hb2.cell s1).trans h2
      have z2 := Nat.lt_of_lt_of_le s1 hb2.size
      have B2 : Hid (Below wr.heap.size wr w2) := Hid.mk' hb2
      have LO1 : Hid (wr.heap.size ≤ wr.heap.size) := Hid.mk' (Nat.le_refl _)
      have HU := Hid.mk' hu
      clear hb2 hu
      refine hK.out _ _ ⟨z0, z1⟩ (fun hHeld => ?_)
      clear hK K
      try simp only [Act.put, zA, zB, zC]
      refine tkY 12 ?_
      refine wpAnyH_ready (rs := [13]) (by kernel_rfl) (by simp) ?_
      refine AllReadyH.cons (o := ⟨_, _, _, _, _, _⟩) rfl (fun K hK => ?_) AllReadyH.nil
      go_simp
      have NN := below_new w2 (.cells #[.string (atK l k).nm, .slice pu (atK l k).vl.length cu] 97)
      have q0 := (NN.cell z2).trans z0
      have q1 := (NN.cell z2).trans z1
      have q2 := Nat.lt_of_lt_of_le z2 NN.size
      have B3 : Hid (Below wr.heap.size wr _) := Hid.mk' (B2.out.trans (NN.mono B2.out.size))
      have OW := Hid.mk' (HO.out.below B3.out)
      have HU2 := Hid.mk' (own_keep HU.out NN)
      clear NN
      refine hK.out _ _ ⟨q0, q1⟩ (fun hHeld => ?_)
      clear hK K
      try simp only [Act.put, zA, zB, zC]
      refine wpAnyH_ready (rs := [14]) (by kernel_rfl) (by simp) ?_
      refine AllReadyH.cons (o := ⟨_, _, _, _, _, _⟩) rfl (fun K hK => ?_) AllReadyH.nil
      refine step_append_at rfl (.tmp 12) (.tmp 25) 42 rfl w.heap.size 97 (.agg #[.string ⟨#[]⟩, .slice none 0 0]) 2 40 Try.underlying42 Try.info97 rfl (by decide) _ k _ rfl (by have := OW.out.row; rw [lt_] at this; exact this) _ 1 _ [.string (atK l k).nm, .slice pu (atK l k).vl.length cu] rfl rfl (.inr ⟨_, rfl, one_attr w2 _ _ _ _ rfl⟩) (by simp [Value.oneCell']) (by unfold maxLen; omega) (by omega) (Nat.le_trans HB.out.size B3.out.size) ?_
      intro v' w4 ho hgr hat
      have ho' : w4.ownsRow w.heap.size 97 2 v' ((l.take k).length + 1) (acs (l.take k) us ++ [.string (atK l k).nm, .slice pu (atK l k).vl.length cu]) := by rw [lt_]; exact ho
      have A4 := HO.out.app (w1 := w2.alloc (.cells #[.string (atK l k).nm, .slice pu (atK l k).vl.length cu] 97)) (w2 := w4) (a := atK l k) (u := .slice pu (atK l k).vl.length cu) B3.out (OB.of_own HU2.out).1 HB.out.size (fun j e => Nat.le_trans LO1.out ((OB.of_own HU2.out).2 j e)) ho' hgr hat
      rw [← AT1.out] at A4
      have HA4 := Hid.mk' A4
      have HB4 := Hid.mk' ((HB.out.trans (B3.out.mono HB.out.size)).grown hgr (Nat.le_trans HB.out.size B3.out.size) (own_lo OW.out.row))
      have gne : ∀ j, (Value.slice av k cv).ownBlock = some j → ¬ j = b1 := fun j e => GNE.out j e
      have r0 := hgr.cell q0 (fun e => gne _ e.symm rfl)
      have r1 := hgr.cell q1 (fun e => gne _ e.symm rfl)
      clear ho ho' hgr hat A4
      refine hK.out _ _ ⟨r0, r1⟩ (fun hHeld => ?_)
      clear hK K
      try simp only [Act.put, zA, zB, zC]
      refine tkY 15 ?_
      refine wpAnyH_done (by kernel_rfl) ?_ _
      obtain ⟨aw, cw, ew, _⟩ := own_len HA4.out.row
      subst ew
      go_wp2
      go_roundw
      case rel => exact ⟨k + 1, _, by omega, by go_num, HA4.out, HB4.out⟩
      case measure => simp [intOf]; omega
    · have ci : ¬ (k : Int) < (l.length : Int) := by omega
      have e : k = l.length := by omega
      subst e
      rw [List.take_length] at hoa
      have HO := Hid.mk' hoa
      clear hoa hbl
      go_wp2
      go_ret
      exact ⟨_, us, rfl, HO.out, HB.out⟩

end Go.Proofs.Ytlaeomnacgjcgaa

namespace Go.Proofs.Ytlaeomnacgjcgaa
open Go.RowKit

theorem one_node (w : World) (t : TypeId) (x y z u : Value) (g : Nat) (hg : w.heap.size = g) : ∀ j q, ([x, y, z, u] : List Value)[j]? = some q → (w.alloc (.cells #[x, y, z, u] t)).cell? ((⟨g, 0, none⟩ : Addr).add j) = some q := by
  intro j q h
  subst hg
  match j, h with
  | 0, h => cases h; simp [Addr.add]
  | 1, h => cases h; simp [Addr.add]
  | 2, h => cases h; simp [Addr.add]
  | 3, h => cases h; simp [Addr.add]
  | j + 4, h => simp at h

end Go.Proofs.Ytlaeomnacgjcgaa

namespace Go.Proofs.Ytlaeomnacgjcgaa
open Go.RowKit

theorem OpP.row {τ : Nat → Nat} {lo : Nat} {w : World} {nd : List ND} {op : List Int} {v : Value} (h : OpP false τ lo w nd op v) : ∃ p d, v = .slice p op.length d ∧ IAt w p op := (OI.of_own h.1).len

theorem OpP.iat {τ : Nat → Nat} {lo : Nat} {w : World} {nd : List ND} {op : List Int} {p : Option Addr} {d : Nat} (h : OpP false τ lo w nd op (.slice p op.length d)) : IAt w p op := by
  obtain ⟨p', d', e, hi⟩ := h.row
  cases e
  exact hi

theorem frz3' {w : World} {g : Nat} {T : TypeId} {f : Nat → Value} (h : w.rowIs g T 3 f) : w.frozen? ⟨g, 0, none⟩ = false ∧ w.frozen? ⟨g, 1, none⟩ = false ∧ w.frozen? ⟨g, 2, none⟩ = false := ⟨h.frozen 0, h.frozen 1, h.frozen 2⟩

set_option maxRecDepth 100000 in
set_option maxHeartbeats 12800000 in
theorem addSF_any (w0 : World) (lo g : Nat) (s : BS) (wa : World) (τ : Nat → Nat) (vn vo : Value) (va vt : Nat → Value) (us : Nat → List Value) (h : ZS false 80 w0 lo g s wa τ vn vo va vt us) (hs : GS s) (lo1 : Nat) (tg : ByteArray) (at_ : List AT) (tx : List Int) (a x : Value) (u : List Value) (u0 : Int) (w : World) (hb : Below wa.heap.size wa w) (ha : OA lo1 w a at_ u) (h1 : wa.heap.size ≤ lo1) (hx : w.ownsRow lo1 5 1 x tx.length (bcs tx)) (hap : ∀ k, x.ownBlock = some k → a.ownBlock ≠ some k ∧ ∀ i, i < at_.length → (u.getD i undef).ownBlock ≠ some k) :
    Calls Try.prog 73 #[.pointer (some ⟨g, 0, none⟩), .agg #[.int .i64 u0, .string tg, a, x]] w fun e w' => (∃ v, e = .returned v) ∧ ZB false 80 w0 lo g (addX s tg at_ tx) w' ∧ Kp (fun k => τ k = 2 ∧ ¬ k = g) w w' := by
  obtain ⟨pa, ca, ea, _⟩ := own_len ha.row
  subst ea
  obtain ⟨px, cx, ex, _⟩ := own_len hx
  subst ex
  obtain ⟨pn, cn, en, _⟩ := own_len h.ns.row
  subst en
  obtain ⟨po, co, eo, _⟩ := h.op.row
  subst eo
  have n60 := hs.n
  have N0 := below_new w (.cells #[.int .i64 u0, .string tg, .slice pa at_.length ca, .slice px tx.length cx] 44)
  have M0 := hb.trans (N0.mono hb.size)
  have NW := Hid.mk' N0
  have Z0 := h.below M0
  have RB := row4 w 44 (.int .i64 u0) (.string tg) (.slice pa at_.length ca) (.slice px tx.length cx)
  have gx : g < w.heap.size := Nat.lt_of_lt_of_le h.box.lt hb.size
  have HZ := Hid.mk' h
  have HS := Hid.mk' hs
  have HAP := Hid.mk' hap
  have AN : Hid (∀ j, (Value.slice pa at_.length ca).ownBlock = some j → ¬ j = w.heap.size) := Hid.mk' (fun j e ej => by have := (ha.row.lt j e).2; omega)
  have UN : Hid (∀ i, i < at_.length → ∀ j, (u.getD i undef).ownBlock = some j → ¬ j = w.heap.size) := Hid.mk' (fun i hi j e ej => by have := (ha.val i hi).lt j e; omega)
  have XN : Hid (∀ j, (Value.slice px tx.length cx).ownBlock = some j → ¬ j = w.heap.size) := Hid.mk' (fun j e ej => by have := (hx.lt j e).2; omega)
  have HAA := Hid.mk' (ha.below N0)
  have HXX := Hid.mk' (own_keep hx N0)
  have HM := Hid.mk' M0
  have HZ0 := Hid.mk' Z0
  have HRB := Hid.mk' RB
  have szw : wa.heap.size ≤ w.heap.size := hb.size
  clear h hs hap ha hx hb N0 M0 Z0 RB
  generalize hW : w.alloc (.cells #[.int .i64 u0, .string tg, .slice pa at_.length ca, .slice px tx.length cx] 44) = W at *
  obtain ⟨c0, c1, c2, c3⟩ := cells3 HZ0.out.box
  by_cases h6 : 60 ≤ s.nd.length
  · have E : Hid (addX s tg at_ tx = bigS) := Hid.mk' (by unfold addX; rw [if_pos h6])
    have h6' : (s.nd.length : Int) ≥ 60 := by omega
    have HBG := Hid.mk' HZ0.out.big
    obtain ⟨f0, f1, f2⟩ := frz3' HZ0.out.box
    go_enter Try.func73, Try.ntmps73
    go_wp2
    clear hW
    (try simp only [Exit.inBlock, Exit.then])
    refine bodyPost_ret (results_none rfl _ _ _) rfl ?_
    exact ⟨⟨_, rfl⟩, by rw [E.out]; exact HBG.out, (((Kp.of_below NW.out).setCell (q := ⟨g, 0, none⟩) (fun e => e.2 rfl) _).setCell (q := ⟨g, 1, none⟩) (fun e => e.2 rfl) _).setCell (q := ⟨g, 2, none⟩) (fun e => e.2 rfl) _⟩
  have h6' : ¬ (s.nd.length : Int) ≥ 60 := by omega
  have KT := Hid.mk' (l7Top_any po co s.op W HZ0.out.op.iat (by have := HS.out.o; omega))
  obtain ⟨tp, htp⟩ : ∃ tp, aheadI s.op s.op.length = tp := ⟨_, rfl⟩
  have TP := Hid.mk' htp
  rw [htp] at KT
  clear htp
  obtain ⟨d0, d1, d2, d3, d4⟩ := cells4 HRB.out
  have e0 := HRB.out.frozen 0
  have KK := (Kp.refl (fun j => ¬ j = w.heap.size) W).setCell (q := ⟨w.heap.size, 0, none⟩) (fun e => e rfl) (.int .i64 tp)
  have BB : Below w.heap.size W (W.setCell ⟨w.heap.size, 0, none⟩ (.int .i64 tp)) := (Below.refl _ _).setCell (p := ⟨w.heap.size, 0, none⟩) (Nat.le_refl _) _
  have HM2 : Hid (Below wa.heap.size wa (W.setCell ⟨w.heap.size, 0, none⟩ (.int .i64 tp))) := Hid.mk' (HM.out.trans (BB.mono szw))
  have HZ1 := Hid.mk' (HZ.out.below HM2.out)
  have HAA := Hid.mk' (HAA.out.keepOf (w' := W.setCell ⟨w.heap.size, 0, none⟩ (.int .i64 tp)) (fun j e hl => KK.block j hl (AN.out j e)) (fun i hi j e hl => KK.block j hl (UN.out i hi j e)))
  have HXX := Hid.mk' (own_of (w' := W.setCell ⟨w.heap.size, 0, none⟩ (.int .i64 tp)) HXX.out (Nat.le_refl _) (fun j e _ => KK.block j (HXX.out.lt j e).2 (XN.out j e)))
  have HR1 := Hid.mk' ((HRB.out.set 0 (.int .i64 tp)).congr (g := r4 (.int .i64 tp) (.string tg) (.slice pa at_.length ca) (.slice px tx.length cx)) (fun i hi => by have h4 : i = 0 ∨ i = 1 ∨ i = 2 ∨ i = 3 := (by omega); rcases h4 with rfl | rfl | rfl | rfl <;> rfl))
  have NV : Hid (Below w.heap.size w (W.setCell ⟨w.heap.size, 0, none⟩ (.int .i64 tp))) := Hid.mk' (NW.out.trans BB)
  clear KK BB
  go_enter Try.func73, Try.ntmps73
  go_wp2_with fail
  clear hW
  refine KT.out.mono ?_
  rintro e w1 ⟨rfl, hw1⟩
  obtain rfl := hw1.symm
  clear KT
  generalize hV : W.setCell ⟨w.heap.size, 0, none⟩ (.int .i64 tp) = V at *
  go_wp2_with fail
  clear hV c0 c1 c2 c3 d0 d1 d2 d3 d4 e0
  obtain ⟨b0, b1, b2, b3⟩ := cells3 HZ1.out.box
  obtain ⟨d0, d1, d2, d3, d4⟩ := cells4 HR1.out
  have xn0 := World.new_ne V ⟨g, 0, none⟩ b0
  have xn1 := World.new_ne V ⟨w.heap.size, 3, none⟩ d3
  dsimp only at xn0 xn1
  have VB := below_new V (.cells #[.int .i64 tp, .string tg, .slice pa at_.length ca, .slice px tx.length cx] 44)
  have HM3 := Hid.mk' (HM2.out.trans (VB.drew.mono HM2.out.size))
  have HZ2 := Hid.mk' (HZ1.out.below VB.drew)
  have NV2 := Hid.mk' (NV.out.trans (VB.drew.mono NV.out.size))
  have HA2 := Hid.mk' (HAA.out.below VB.drew)
  have HX2 := Hid.mk' (own_keep HXX.out VB.drew)
  have HR2 := Hid.mk' (rowB HR1.out VB.drew)
  have NC := Hid.mk' (one_node V 44 (.int .i64 tp) (.string tg) (.slice pa at_.length ca) (.slice px tx.length cx) V.heap.size rfl)
  clear VB
  refine wp_region_held_drew (S := fun w' => w'.cell? ⟨w.heap.size, 0, none⟩ = some (.int .i64 tp) ∧ w'.cell? ⟨w.heap.size, 1, none⟩ = some (.string tg) ∧ w'.cell? ⟨w.heap.size, 2, none⟩ = some (.slice pa at_.length ca) ∧ w'.cell? ⟨w.heap.size, 3, none⟩ = some (.slice px tx.length cx)) (by kernel_rfl) (by simp [*]) (fun hHeld => ?_)
  refine tkY 0 ?_
  refine tkY 1 ?_
  refine tkY 2 ?_
  refine tkY 3 ?_
  refine tkY 5 ?_
  refine wpAnyH_ready (rs := [4, 6]) (by kernel_rfl) (by simp) ?_
  refine AllReadyH.cons (o := ⟨_, _, _, _, _, _⟩) rfl (fun K hK => ?_) (AllReadyH.cons (o := ⟨_, _, _, _, _, _⟩) rfl (fun K hK => ?_) AllReadyH.nil)
  · go_simp
    refine hK.out _ _ (by (try dsimp only); go_keep) (fun hHeld => ?_)
    clear hK K
    try simp only [Act.put, zA, zB, zC]
    refine wpAnyH_ready (rs := [6]) (by kernel_rfl) (by simp) ?_
    refine AllReadyH.cons (o := ⟨_, _, _, _, _, _⟩) rfl (fun K hK => ?_) AllReadyH.nil
    go_simp
    refine hK.out _ _ (by (try dsimp only); go_keep) (fun hHeld => ?_)
    clear hK K
    try simp only [Act.put, zA, zB, zC]
    refine wpAnyH_ready (rs := [7]) (by kernel_rfl) (by simp) ?_
    refine AllReadyH.cons (o := ⟨_, _, _, _, _, _⟩) rfl (fun K hK => ?_) AllReadyH.nil
    refine step_append_at rfl (.tmp 23) (.tmp 25) 24 rfl lo 44 (.agg #[.int .i64 0, .string ⟨#[]⟩, .slice none 0 0, .slice none 0 0]) 4 72 Try.underlying24 Try.info44 rfl (by decide) _ _ _ rfl HZ2.out.ns.row _ 1 _ [.int .i64 tp, .string tg, .slice pa at_.length ca, .slice px tx.length cx] rfl rfl (.inr ⟨_, rfl, NC.out⟩) (by simp [Value.oneCell']) (by unfold maxLen; omega) (by omega) HZ2.out.sz ?_
    intro v2 w2 ho hgr hat
    obtain ⟨av2, cv2, ev', _⟩ := own_len ho
    subst ev'
    have ho' := ho
    rw [← TP.out] at ho'
    have HQ := Hid.mk' (HZ.out.add HS.out (by omega) HM3.out HA2.out h1 HX2.out HAP.out ho' hgr hat)
    have vne : ∀ j, (Value.slice pn s.nd.length cn).ownBlock = some j → ¬ j = g ∧ ¬ j = w.heap.size := fun j e => ⟨fun ej => by have h8 := HZ.out.ns.rl j e; have h9 := HZ.out.gl; rw [← ej] at h9; omega, fun ej => by have := (HZ.out.ns.row.lt j e).2; omega⟩
    have HKF := Hid.mk' (((Kp.of_below (p := fun k => τ k = 2 ∧ ¬ k = g) NV2.out).trans (Kp.of_grown hgr (fun k e e2 => by have := HZ.out.ns.rl k e2.symm; omega))).setCell (q := ⟨g, 0, none⟩) (fun e => e.2 rfl) (.slice av2 (s.nd.length + 1) cv2))
    have z0 := hgr.cell (a := ⟨g, 0, none⟩) (cells3 HZ2.out.box).1 (fun e => (vne _ e.symm).1 rfl)
    have z1 : w2.frozen? ⟨g, 0, none⟩ = false := (HZ2.out.box.of_block (hgr.block g HZ2.out.box.lt (fun e => (vne _ e.symm).1 rfl))).frozen 0
    obtain ⟨t0, t1, t2, t3, t4⟩ := cells4 (HR2.out.of_block (hgr.block w.heap.size HR2.out.lt (fun e => (vne _ e.symm).2 rfl)))
    clear ho ho' hgr hat
    refine hK.out _ _ (by (try dsimp only); go_keep) (fun hHeld => ?_)
    clear hK K
    try simp only [Act.put, zA, zB, zC]
    refine tkY 8 ?_
    refine tkY 9 ?_
    refine wpAnyH_ready (rs := [10]) (by kernel_rfl) (by simp) ?_
    refine AllReadyH.cons (o := ⟨_, _, _, _, _, _⟩) rfl (fun K hK => ?_) AllReadyH.nil
    go_simp
    have gx' : g ≠ w.heap.size := Nat.ne_of_lt gx
    refine hK.out _ _ (by (try dsimp only); go_keep) (fun hHeld => ?_)
    clear hK K
    try simp only [Act.put, zA, zB, zC]
    refine wpAnyH_done (by kernel_rfl) ?_ _
    go_end0
    exact ⟨⟨_, rfl⟩, HQ.out, HKF.out⟩
  · go_simp
    refine hK.out _ _ (by (try dsimp only); go_keep) (fun hHeld => ?_)
    clear hK K
    try simp only [Act.put, zA, zB, zC]
    refine wpAnyH_ready (rs := [4]) (by kernel_rfl) (by simp) ?_
    refine AllReadyH.cons (o := ⟨_, _, _, _, _, _⟩) rfl (fun K hK => ?_) AllReadyH.nil
    go_simp
    refine hK.out _ _ (by (try dsimp only); go_keep) (fun hHeld => ?_)
    clear hK K
    try simp only [Act.put, zA, zB, zC]
    refine wpAnyH_ready (rs := [7]) (by kernel_rfl) (by simp) ?_
    refine AllReadyH.cons (o := ⟨_, _, _, _, _, _⟩) rfl (fun K hK => ?_) AllReadyH.nil
    refine step_append_at rfl (.tmp 23) (.tmp 25) 24 rfl lo 44 (.agg #[.int .i64 0, .string ⟨#[]⟩, .slice none 0 0, .slice none 0 0]) 4 72 Try.underlying24 Try.info44 rfl (by decide) _ _ _ rfl HZ2.out.ns.row _ 1 _ [.int .i64 tp, .string tg, .slice pa at_.length ca, .slice px tx.length cx] rfl rfl (.inr ⟨_, rfl, NC.out⟩) (by simp [Value.oneCell']) (by unfold maxLen; omega) (by omega) HZ2.out.sz ?_
    intro v2 w2 ho hgr hat
    obtain ⟨av2, cv2, ev', _⟩ := own_len ho
    subst ev'
    have ho' := ho
    rw [← TP.out] at ho'
    have HQ := Hid.mk' (HZ.out.add HS.out (by omega) HM3.out HA2.out h1 HX2.out HAP.out ho' hgr hat)
    have vne : ∀ j, (Value.slice pn s.nd.length cn).ownBlock = some j → ¬ j = g ∧ ¬ j = w.heap.size := fun j e => ⟨fun ej => by have h8 := HZ.out.ns.rl j e; have h9 := HZ.out.gl; rw [← ej] at h9; omega, fun ej => by have := (HZ.out.ns.row.lt j e).2; omega⟩
    have HKF := Hid.mk' (((Kp.of_below (p := fun k => τ k = 2 ∧ ¬ k = g) NV2.out).trans (Kp.of_grown hgr (fun k e e2 => by have := HZ.out.ns.rl k e2.symm; omega))).setCell (q := ⟨g, 0, none⟩) (fun e => e.2 rfl) (.slice av2 (s.nd.length + 1) cv2))
    have z0 := hgr.cell (a := ⟨g, 0, none⟩) (cells3 HZ2.out.box).1 (fun e => (vne _ e.symm).1 rfl)
    have z1 : w2.frozen? ⟨g, 0, none⟩ = false := (HZ2.out.box.of_block (hgr.block g HZ2.out.box.lt (fun e => (vne _ e.symm).1 rfl))).frozen 0
    obtain ⟨t0, t1, t2, t3, t4⟩ := cells4 (HR2.out.of_block (hgr.block w.heap.size HR2.out.lt (fun e => (vne _ e.symm).2 rfl)))
    clear ho ho' hgr hat
    refine hK.out _ _ (by (try dsimp only); go_keep) (fun hHeld => ?_)
    clear hK K
    try simp only [Act.put, zA, zB, zC]
    refine tkY 8 ?_
    refine tkY 9 ?_
    refine wpAnyH_ready (rs := [10]) (by kernel_rfl) (by simp) ?_
    refine AllReadyH.cons (o := ⟨_, _, _, _, _, _⟩) rfl (fun K hK => ?_) AllReadyH.nil
    go_simp
    have gx' : g ≠ w.heap.size := Nat.ne_of_lt gx
    refine hK.out _ _ (by (try dsimp only); go_keep) (fun hHeld => ?_)
    clear hK K
    try simp only [Act.put, zA, zB, zC]
    refine wpAnyH_done (by kernel_rfl) ?_ _
    go_end0
    exact ⟨⟨_, rfl⟩, HQ.out, HKF.out⟩

theorem addS_any (w0 : World) (lo g : Nat) (s : BS) (wa : World) (τ : Nat → Nat) (vn vo : Value) (va vt : Nat → Value) (us : Nat → List Value) (h : ZS false 80 w0 lo g s wa τ vn vo va vt us) (hs : GS s) (lo1 : Nat) (tg : ByteArray) (at_ : List AT) (tx : List Int) (a x : Value) (u : List Value) (u0 : Int) (w : World) (hb : Below wa.heap.size wa w) (ha : OA lo1 w a at_ u) (h1 : wa.heap.size ≤ lo1) (hx : w.ownsRow lo1 5 1 x tx.length (bcs tx)) (hap : ∀ k, x.ownBlock = some k → a.ownBlock ≠ some k ∧ ∀ i, i < at_.length → (u.getD i undef).ownBlock ≠ some k) :
    Calls Try.prog 73 #[.pointer (some ⟨g, 0, none⟩), .agg #[.int .i64 u0, .string tg, a, x]] w fun e w' => (∃ v, e = .returned v) ∧ ZB false 80 w0 lo g (addX s tg at_ tx) w' :=
  (addSF_any w0 lo g s wa τ vn vo va vt us h hs lo1 tg at_ tx a x u u0 w hb ha h1 hx hap).mono fun e w' h => ⟨h.1, h.2.1⟩

end Go.Proofs.Ytlaeomnacgjcgaa

namespace Go.Proofs.Ytlaeomnacgjcgaa
open Go.RowKit

end Go.Proofs.Ytlaeomnacgjcgaa

namespace Go.Proofs.Ytlaeomnacgjcgaa
open Go.RowKit

theorem NS.spot {τ : Nat → Nat} {lo : Nat} {w : World} {v : Value} {l : List ND} {va vt : Nat → Value} {us : Nat → List Value} (h : NS τ lo w v l va vt us) (h0 : 0 < l.length) : ∃ g cap, v = .slice (some ⟨g, 0, none⟩) l.length cap ∧ lo ≤ g ∧ g < w.heap.size ∧ (∀ k i, k < l.length → i < 4 → w.cell? ⟨g, k * 4 + i, none⟩ = ([.int .i64 (ndK l k).up, .string (ndK l k).tg, va k, vt k] : List Value)[i]?) ∧ ∀ i, w.frozen? ⟨g, i, none⟩ = false := h.nq.spot h0

theorem clK_congr {nd : List ND} {op : List Int} {a b : ByteArray} (h : a.toList = b.toList) : ∀ k, clK nd op a k = clK nd op b k
  | 0 => rfl
  | k + 1 => by unfold clK; rw [h, clK_congr h k]

theorem closeX_congr {s : BS} {a b : ByteArray} (h : a.toList = b.toList) : closeX s a = closeX s b := by unfold closeX; rw [clK_congr h]

set_option maxRecDepth 100000 in
set_option maxHeartbeats 6400000 in
theorem closeS_any (w0 : World) (lo g : Nat) (s : BS) (nm : ByteArray) (w : World) (h : ZB false 80 w0 lo g s w) (hs : GS s) :
    Calls Try.prog 68 #[.pointer (some ⟨g, 0, none⟩), .string nm] w fun e w' => (∃ v, e = .returned v) ∧ ZB false 80 w0 lo g (closeX s nm) w' := by
  obtain ⟨τ, vn, vo, va, vt, us, hz⟩ := h
  have HZ := Hid.mk' hz
  have HS := Hid.mk' hs
  have o7 := hs.o
  have n60 := hs.n
  obtain ⟨po, co, eo, _⟩ := hz.op.row
  subst eo
  obtain ⟨pn, cn, en, _⟩ := own_len hz.ns.row
  subst en
  obtain ⟨c0, c1, c2, c3⟩ := cells3 hz.box
  clear hz hs
  go_enter Try.func68, Try.ntmps68
  go_wp2
  go_loopw [4] (fun i wr => ∃ k : Nat, k ≤ s.op.length ∧ i = .int .i64 ((k : Int) - 1) ∧ clK s.nd s.op nm s.op.length = clK s.nd s.op nm k ∧ Below w.heap.size w wr) (fun i _ => (intOf i + 1).toNat)
  case atStart => exact ⟨s.op.length, Nat.le_refl _, rfl, rfl, Below.refl _ _⟩
  case round =>
    obtain ⟨k, hk, rfl, hc, hbl⟩ := hrel
    have HC := Hid.mk' hc
    have HB := Hid.mk' hbl
    have HZ1 := Hid.mk' (HZ.out.below hbl)
    clear c0 c1 c2 c3 hc
    obtain ⟨c0, c1, c2, c3⟩ := cells3 HZ1.out.box
    cases k with
    | zero =>
      have E : Hid (closeX s nm = s) := Hid.mk' (by unfold closeX; rw [HC.out]; rfl)
      have k0 : ¬ ((0 : Nat) : Int) - 1 ≥ 0 := by omega
      go_wp2
      go_end0
      exact ⟨⟨_, rfl⟩, by rw [E.out]; exact HZ1.out.zb⟩
    | succ k =>
      have k0 : ((k + 1 : Nat) : Int) - 1 = (k : Int) := by omega
      rw [k0]
      obtain ⟨p', d', e', hia⟩ := HZ1.out.op.row
      cases e'
      rcases hia with h0 | ⟨b1, o1, rfl, s1, hc1⟩
      · exact absurd hk (by rw [h0]; simp)
      have x0 := hc1 k (by omega)
      obtain ⟨hp1, hp2⟩ := HS.out.pl k (by omega)
      obtain ⟨m, hm⟩ : ∃ m : Nat, wv s.op k = (m : Int) := ⟨(wv s.op k).toNat, by omega⟩
      rw [hm] at x0 hp2
      have hml : m < s.nd.length := by omega
      have mi_ : (m : Int) < (s.nd.length : Int) := by omega
      have ki_ : (k : Int) < (s.op.length : Int) := by omega
      obtain ⟨gn, cn', en, n1, n2, hcell, hfr⟩ := HZ1.out.ns.spot (by omega)
      cases en
      have t1 : wr.cell? ⟨gn, m * 4 + 1, none⟩ = some (.string (ndK s.nd m).tg) := hcell m 1 hml (by omega)
      have HM := Hid.mk' hm
      clear hm hcell hfr n1 hbl hp1
      generalize ht : (ndK s.nd m).tg = tg at *
      have HT : Hid ((ndK s.nd (wv s.op k).toNat).tg = tg) := Hid.mk' (by rw [HM.out, Int.toNat_natCast]; exact ht)
      clear ht
      cases e1 : (tg.toList == nm.toList) with
      | false =>
        have E : Hid (clK s.nd s.op nm (k + 1) = clK s.nd s.op nm k) := Hid.mk' (by
          show (if _ then _ else _) = _
          rw [HT.out, if_neg (by rw [e1]; decide)])
        clear hc1
        go_wp2
        go_quiet (fail)
        go_wp2
        go_roundw
        case rel => exact ⟨k, by omega, rfl, by rw [HC.out, E.out], below_drewN HB.out _⟩
        case measure => first | (simp [intOf]; done) | (simp [intOf]; omega)
      | true =>
        have E : Hid (clK s.nd s.op nm (k + 1) = some k) := Hid.mk' (by unfold clK; rw [HT.out, if_pos e1])
        have EX : Hid (closeX s nm = ⟨s.nd, s.op.take k, s.lg⟩) := Hid.mk' (by unfold closeX; rw [HC.out, E.out])
        have lc := HZ1.out.op.1.lt
        obtain ⟨a9, c9, e9, hcap⟩ := own_len HZ1.out.op.1
        cases e9
        have d0 : (0 : Int) ≤ (k : Int) := by omega
        have d1 : (k : Int) ≤ (co : Int) := by omega
        have ln : (s.op.take k).length = k := by rw [List.length_take]; omega
        have src : ∀ n j q, (ics (s.op.take k))[j]? = some q → ((wr.drewN n).alloc (.cells #[] 2)).cell? ((⟨b1, o1, none⟩ : Addr).add j) = some q := fun n j q hj => by
          have hjl : j < k := by
            rcases Nat.lt_or_ge j k with h | h
            · exact h
            · rw [List.getElem?_eq_none (by simp [ics, ln]; omega)] at hj; cases hj
          rw [ics_get _ _ (by omega), wv_take hjl] at hj
          have hb9 : Below wr.heap.size wr ((wr.drewN n).alloc (.cells #[] 2)) := (below_drewN (Below.refl _ _) _).alloc (by simp) _
          rw [Addr.add_mid]
          rw [hb9.cell (p := ⟨b1, o1 + j, none⟩) s1, hc1 j (by omega)]
          exact hj
        have SRC := Hid.mk' src
        clear src hc1 lc
        have xn1 := World.new_ne wr ⟨g, 1, none⟩ c1
        dsimp only at xn1
        go_wp2
        go_quiet (fail)
        rename_i nq
        have SR := Hid.mk' (SRC.out nq)
        have HZ2 := Hid.mk' (HZ1.out.below (below_drewN (Below.refl _ _) nq))
        have V0 : Hid (Below w.heap.size w (wr.drewN nq)) := Hid.mk' (below_drewN HB.out _)
        clear SRC HZ1 c0 c1 c2 c3 x0 t1 xn1
        generalize hY : wr.drewN nq = Y at *
        clear hY
        obtain ⟨c0, c1, c2, c3⟩ := cells3 HZ2.out.box
        have f1 := HZ2.out.box.frozen 1
        have V1 := below_new Y (.cells #[] 2)
        have HV := Hid.mk' (V0.out.trans (V1.mono V0.out.size))
        have HL := Hid.mk' (World.ownsRow_lit (base := Y.heap.size) (e := 2) (size := 1) Y #[] 0 (Nat.le_refl _) (by decide) rfl)
        have HB1 := Hid.mk' V1
        have xn1 := World.new_ne Y ⟨g, 1, none⟩ c1
        dsimp only at xn1
        clear V1
        go_wp2_with (at_builtin; refine wpList_append_any _ rfl (.tmp 32) (.tmp 38) 30 rfl Y.heap.size 2 (.int .i64 0) 1 8 Try.underlying30 Try.info2 rfl (by decide) _ 0 [] rfl HL.out _ k _ (ics (s.op.take k)) rfl (by rw [ics_len, ln]) (.inr ⟨_, rfl, SR.out⟩) (ics_one _) (by unfold maxLen; omega) (by omega) (by simp) ?_; intro v' w3 ho hgr; rw [Nat.zero_add, List.nil_append] at ho; obtain ⟨av3, cv3, ev3, _⟩ := own_len ho; subst ev3; have z1 := hgr.cell (a := ⟨g, 1, none⟩) ((HB1.out.cell c3).trans c1) (fun e => by simp [Act.eval, Value.ownBlock] at e; omega); have z2 : w3.frozen? ⟨g, 1, none⟩ = false := ((rowB HZ2.out.box HB1.out).of_block (hgr.block g (rowB HZ2.out.box HB1.out).lt (fun e => by simp [Act.eval, Value.ownBlock] at e; omega))).frozen 1; have BG := HB1.out.grown hgr (by simp) (fun j e => by simp [Act.eval, Value.ownBlock] at e; omega); have HQ := Hid.mk' (HZ2.out.takeS (s.op.take k) (by rw [ln]; exact ho) BG); clear ho hgr BG)
        (try simp only [Exit.inBlock, Exit.then])
        refine bodyPost_ret (results_none rfl _ _ _) rfl ?_
        exact ⟨⟨_, rfl⟩, by rw [EX.out]; exact HQ.out⟩

end Go.Proofs.Ytlaeomnacgjcgaa

namespace Go.Proofs.Ytlaeomnacgjcgaa
open Go.RowKit

theorem byteX_add {s : BS} {b : Int} (h : textB s = false) : byteX s b = addX s ⟨#[]⟩ [] [b] := by unfold byteX; rw [if_neg (by rw [h]; decide)]
theorem textB_zero {s : BS} (h : s.nd.length = 0) : textB s = false := by unfold textB; rw [decide_eq_false (by omega)]; rfl
theorem textB_succ {s : BS} {m : Nat} (h : s.nd.length = m + 1) : textB s = (((ndK s.nd m).tg.toList == []) && decide ((ndK s.nd m).up = aheadI s.op s.op.length)) := by
  unfold textB; rw [decide_eq_true (by omega), h]; rfl
theorem byteX_big {s : BS} {b : Int} {m : Nat} (hm : s.nd.length = m + 1) (h : textB s = true) (h2 : 240 ≤ (ndK s.nd m).tx.length) : byteX s b = bigS := by
  unfold byteX; rw [if_pos h, hm]; show (if 240 ≤ (ndK s.nd m).tx.length then _ else _) = _; rw [if_pos h2]
theorem byteX_set {s : BS} {b : Int} {m : Nat} (hm : s.nd.length = m + 1) (h : textB s = true) (h2 : ¬ 240 ≤ (ndK s.nd m).tx.length) : byteX s b = ⟨setTx s.nd m b, s.op, s.lg⟩ := by
  unfold byteX; rw [if_pos h, hm]; show (if 240 ≤ (ndK s.nd m).tx.length then _ else _) = _; rw [if_neg h2]; rfl

set_option maxRecDepth 100000 in
set_option maxHeartbeats 12800000 in
theorem byteS_any (w0 : World) (lo g : Nat) (s : BS) (b : Int) (w : World) (h : ZB false 80 w0 lo g s w) (hs : GS s) :
    Calls Try.prog 66 #[.pointer (some ⟨g, 0, none⟩), .int .u8 b] w fun e w' => (∃ v, e = .returned v) ∧ ZB false 80 w0 lo g (byteX s b) w' := by
  obtain ⟨τ, vn, vo, va, vt, us, hz⟩ := h
  have HZ := Hid.mk' hz
  have HS := Hid.mk' hs
  have n60 := hs.n
  have o7 := hs.o
  obtain ⟨po, co, eo, _⟩ := hz.op.row
  subst eo
  obtain ⟨pn, cn, en, _⟩ := own_len hz.ns.row
  subst en
  obtain ⟨c0, c1, c2, c3⟩ := cells3 hz.box
  have KA : Hid (∀ Y, Below w.heap.size w Y → Calls Try.prog 73 #[.pointer (some ⟨g, 0, none⟩), .agg #[.int .i64 0, .string ⟨#[]⟩, .slice none 0 0, .slice (some ⟨Y.heap.size, 0, none⟩) 1 1]] (Y.alloc (.cells #[.int .u8 b] 5)) fun e w' => (∃ v, e = .returned v) ∧ ZB false 80 w0 lo g (addX s ⟨#[]⟩ [] [b]) w') := fun Y hY =>
    addS_any w0 lo g s Y τ (.slice pn s.nd.length cn) (.slice po s.op.length co) va vt us (HZ.out.below hY) HS.out Y.heap.size ⟨#[]⟩ [] [b] (.slice none 0 0) (.slice (some ⟨Y.heap.size, 0, none⟩) 1 1) [] 0 (Y.alloc (.cells #[.int .u8 b] 5)) (below_new _ _) (OA.nil _ _) (Nat.le_refl _) (World.ownsRow_lit (base := Y.heap.size) (e := 5) (size := 1) Y #[.int .u8 b] 1 (Nat.le_refl _) (by unfold maxLen; omega) rfl) (fun k _ => ⟨by simp [Value.ownBlock], fun i hi => absurd hi (Nat.not_lt_zero _)⟩)
  have KT : Hid (∀ w', Below w.heap.size w w' → Calls Try.prog 72 #[.slice po s.op.length co] w' fun e w'' => e = .returned (.int .i64 (aheadI s.op s.op.length)) ∧ w'' = w') := fun w' hb => l7Top_any po co s.op w' (HZ.out.below hb).op.iat (by omega)
  obtain ⟨tp, htp⟩ : ∃ tp, aheadI s.op s.op.length = tp := ⟨_, rfl⟩
  have TP := Hid.mk' htp
  rw [htp] at KT
  clear hs htp
  by_cases h0 : s.nd.length = 0
  · have E := Hid.mk' (byteX_add (b := b) (textB_zero h0))
    have h0' : (s.nd.length : Int) = 0 := by omega
    clear hz h0
    go_enter Try.func66, Try.ntmps66
    go_wp2
    go_quiet (fail)
    rename_i nq
    have KY := Hid.mk' (KA.out (w.drewN nq) (below_drewN (Below.refl _ _) nq))
    generalize hY : w.drewN nq = Y at *
    clear hY
    go_wp2_with fail
    refine KY.out.mono ?_
    rintro e w1 ⟨⟨v9, rfl⟩, hz1⟩
    have HZ1 := Hid.mk' hz1
    clear hz1 KY KA
    go_wp2
    (try simp only [Exit.inBlock, Exit.then])
    refine bodyPost_ret (results_none rfl _ _ _) rfl ?_
    exact ⟨⟨_, rfl⟩, by rw [E.out]; exact HZ1.out⟩
  obtain ⟨m, hm⟩ : ∃ m, s.nd.length = m + 1 := ⟨s.nd.length - 1, by omega⟩
  obtain ⟨gn, cn', en, n1, n2, hcell, hfr⟩ := hz.ns.spot (by omega)
  cases en
  have q0 : w.cell? ⟨gn, m * 4, none⟩ = some (.int .i64 (ndK s.nd m).up) := hcell m 0 (by omega) (by omega)
  have q1 : w.cell? ⟨gn, m * 4 + 1, none⟩ = some (.string (ndK s.nd m).tg) := hcell m 1 (by omega) (by omega)
  have q3 : w.cell? ⟨gn, m * 4 + 3, none⟩ = some (vt m) := hcell m 3 (by omega) (by omega)
  have HF := Hid.mk' hfr
  have HX := Hid.mk' (hz.ns.txt m (by omega))
  obtain ⟨pt, ct, et, _⟩ := own_len (hz.ns.txt m (by omega))
  rw [et] at q3
  have ET := Hid.mk' et
  have hm1 : (s.nd.length : Int) - 1 = (m : Int) := by omega
  have hm2 : (m : Int) < (s.nd.length : Int) := by omega
  have hm3 : m < s.nd.length := by omega
  have HMM := Hid.mk' hm
  have gne : ¬ gn = g := fun e => by have h1 := hz.ns.rl gn rfl; have h2 := hz.gl; rw [e] at h1; omega
  have TB := Hid.mk' (textB_succ hm)
  rw [TP.out] at TB
  clear hz hcell hfr h0 et hm n1
  generalize hup : (ndK s.nd m).up = up at *
  generalize htg : (ndK s.nd m).tg = tg at *
  clear hup htg
  cases e1 : (tg.toList == []) with
  | false =>
    have E := Hid.mk' (byteX_add (b := b) (TB.out.trans (by rw [e1]; rfl)))
    go_enter Try.func66, Try.ntmps66
    go_wp2_with fail
    refine wp_region_held_drew (S := fun w' => w'.cell? ⟨g, 0, none⟩ = some (.slice (some ⟨gn, 0, none⟩) s.nd.length cn) ∧ w'.cell? ⟨g, 1, none⟩ = some (.slice po s.op.length co) ∧ w'.cell? ⟨gn, m * 4, none⟩ = some (.int .i64 up) ∧ w'.cell? ⟨gn, m * 4 + 1, none⟩ = some (.string tg)) (by kernel_rfl) (by simp [*]) (fun hHeld => ?_)
    refine tkY 0 ?_
    refine tkY 1 ?_
    refine tkY 2 ?_
    refine tkY 3 ?_
    refine tkY 4 ?_
    refine tkY 5 ?_
    refine tkY 6 ?_
    refine tkY 7 ?_
    refine tkY 8 ?_
    refine tkY 9 ?_
    refine tkY 10 ?_
    refine tkY 11 ?_
    refine tkY 12 ?_
    refine tkY 13 ?_
    refine tkU 14 ?_
    refine tkU 15 ?_
    refine tkU 16 ?_
    refine tkU 17 ?_
    refine tkU 18 ?_
    refine tkU 19 ?_
    refine tkU 20 ?_
    refine tkU 21 ?_
    refine tkU 22 ?_
    refine tkU 23 ?_
    refine tkU 24 ?_
    refine tkU 25 ?_
    refine tkU 26 ?_
    refine tkU 27 ?_
    refine tkY 28 ?_
    refine wpAnyH_done (by kernel_rfl) ?_ _
    have KY := Hid.mk' (KA.out w.drew (Below.refl _ _).drew)
    generalize hY : w.drew = Y at *
    clear hY
    go_wp2_with fail
    refine KY.out.mono ?_
    rintro e w1 ⟨⟨v9, rfl⟩, hz1⟩
    have HZ1 := Hid.mk' hz1
    clear hz1 KY KA
    go_wp2
    (try simp only [Exit.inBlock, Exit.then])
    refine bodyPost_ret (results_none rfl _ _ _) rfl ?_
    exact ⟨⟨_, rfl⟩, by rw [E.out]; exact HZ1.out⟩
  | true =>
  by_cases e2 : up = tp
  rotate_left
  · have E := Hid.mk' (byteX_add (b := b) (TB.out.trans (by rw [e1, decide_eq_false e2]; rfl)))
    have e3 : (up != tp) = true := by simp [e2]
    clear e2
    go_enter Try.func66, Try.ntmps66
    go_wp2_with fail
    refine wp_region_held_drew (S := fun w' => w'.cell? ⟨g, 0, none⟩ = some (.slice (some ⟨gn, 0, none⟩) s.nd.length cn) ∧ w'.cell? ⟨g, 1, none⟩ = some (.slice po s.op.length co) ∧ w'.cell? ⟨gn, m * 4, none⟩ = some (.int .i64 up) ∧ w'.cell? ⟨gn, m * 4 + 1, none⟩ = some (.string tg)) (by kernel_rfl) (by simp [*]) (fun hHeld => ?_)
    refine tkY 0 ?_
    refine tkY 1 ?_
    refine tkY 2 ?_
    refine tkY 3 ?_
    refine tkY 4 ?_
    refine tkY 5 ?_
    refine tkY 6 ?_
    refine tkY 7 ?_
    refine tkY 8 ?_
    refine tkY 9 ?_
    refine tkY 10 ?_
    refine tkY 11 ?_
    refine tkY 12 ?_
    refine tkY 13 ?_
    refine tkY 14 ?_
    refine tkY 15 ?_
    refine tkY 16 ?_
    refine tkY 17 ?_
    refine tkY 18 ?_
    refine tkY 19 ?_
    refine tkY 20 ?_
    refine tkY 21 ?_
    refine tkY 22 ?_
    refine tkY 23 ?_
    refine tkY 24 ?_
    refine tkY 25 ?_
    refine wpAnyH_ready (rs := [26]) (by kernel_rfl) (by simp) ?_
    refine AllReadyH.cons (o := ⟨_, _, _, _, _, _⟩) rfl (fun K hK => ?_) AllReadyH.nil
    go_simp
    go_at_call 72
    refine (KT.out _ (Below.refl _ _).drew).mono ?_
    rintro e w9 ⟨rfl, hw9⟩
    obtain rfl := hw9.symm
    refine hK.out _ _ (by simp [*]) (fun hHeld => ?_)
    clear hK K
    try simp only [Act.put, zA, zB, zC]
    refine tkY 27 ?_
    refine tkY 28 ?_
    refine wpAnyH_done (by kernel_rfl) ?_ _
    have KY := Hid.mk' (KA.out w.drew (Below.refl _ _).drew)
    generalize hY : w.drew = Y at *
    clear hY
    go_wp2_with fail
    refine KY.out.mono ?_
    rintro e w1 ⟨⟨v9, rfl⟩, hz1⟩
    have HZ1 := Hid.mk' hz1
    clear hz1 KY KA
    go_wp2
    (try simp only [Exit.inBlock, Exit.then])
    refine bodyPost_ret (results_none rfl _ _ _) rfl ?_
    exact ⟨⟨_, rfl⟩, by rw [E.out]; exact HZ1.out⟩
  have e3 : (up != tp) = false := by simp [e2]
  have ET1 : Hid (textB s = true) := Hid.mk' (TB.out.trans (by rw [e1, decide_eq_true e2]; rfl))
  clear e2 TB
  go_enter Try.func66, Try.ntmps66
  go_wp2_with fail
  refine wp_region_held_drew (S := fun w' => w'.cell? ⟨g, 0, none⟩ = some (.slice (some ⟨gn, 0, none⟩) s.nd.length cn) ∧ w'.cell? ⟨g, 1, none⟩ = some (.slice po s.op.length co) ∧ w'.cell? ⟨gn, m * 4, none⟩ = some (.int .i64 up) ∧ w'.cell? ⟨gn, m * 4 + 1, none⟩ = some (.string tg)) (by kernel_rfl) (by simp [*]) (fun hHeld => ?_)
  refine tkY 0 ?_
  refine tkY 1 ?_
  refine tkY 2 ?_
  refine tkY 3 ?_
  refine tkY 4 ?_
  refine tkY 5 ?_
  refine tkY 6 ?_
  refine tkY 7 ?_
  refine tkY 8 ?_
  refine tkY 9 ?_
  refine tkY 10 ?_
  refine tkY 11 ?_
  refine tkY 12 ?_
  refine tkY 13 ?_
  refine tkY 14 ?_
  refine tkY 15 ?_
  refine tkY 16 ?_
  refine tkY 17 ?_
  refine tkY 18 ?_
  refine tkY 19 ?_
  refine tkY 20 ?_
  refine tkY 21 ?_
  refine tkY 22 ?_
  refine tkY 23 ?_
  refine tkY 24 ?_
  refine tkY 25 ?_
  refine wpAnyH_ready (rs := [26]) (by kernel_rfl) (by simp) ?_
  refine AllReadyH.cons (o := ⟨_, _, _, _, _, _⟩) rfl (fun K hK => ?_) AllReadyH.nil
  go_simp
  go_at_call 72
  refine (KT.out _ (Below.refl _ _).drew).mono ?_
  rintro e w9 ⟨rfl, hw9⟩
  obtain rfl := hw9.symm
  refine hK.out _ _ (by simp [*]) (fun hHeld => ?_)
  clear hK K
  try simp only [Act.put, zA, zB, zC]
  refine tkY 27 ?_
  refine tkY 28 ?_
  refine wpAnyH_done (by kernel_rfl) ?_ _
  have BY := (Below.refl w.heap.size w).drew
  have HZ2 := Hid.mk' (HZ.out.below BY)
  have HX2 := Hid.mk' (own_keep HX.out BY)
  have y3 := (BY.cell n2).trans q3
  have HF2 : Hid (∀ i, w.drew.frozen? ⟨gn, i, none⟩ = false) := Hid.mk' (fun i => (BY.frozen (p := ⟨gn, i, none⟩) n2).trans (HF.out i))
  have n2' := Nat.lt_of_lt_of_le n2 BY.size
  clear KA KT BY c0 c1 c2 c3 q0 q1 q3 HF n2 HX
  generalize hY : w.drew = Y at *
  clear hY
  obtain ⟨c0, c1, c2, c3⟩ := cells3 HZ2.out.box
  by_cases h240 : 240 ≤ (ndK s.nd m).tx.length
  · have E := Hid.mk' (byteX_big (b := b) HMM.out ET1.out h240)
    have h24 : ((ndK s.nd m).tx.length : Int) ≥ 240 := by omega
    have HBG := Hid.mk' HZ2.out.big
    obtain ⟨f0, f1, f2⟩ := frz3' HZ2.out.box
    go_wp2
    (try simp only [Exit.inBlock, Exit.then])
    refine bodyPost_ret (results_none rfl _ _ _) rfl ?_
    exact ⟨⟨_, rfl⟩, by rw [E.out]; exact HBG.out⟩
  have E := Hid.mk' (byteX_set (b := b) HMM.out ET1.out h240)
  have h24 : ¬ ((ndK s.nd m).tx.length : Int) ≥ 240 := by omega
  have xl : (ndK s.nd m).tx.length < 240 := by omega
  clear h240
  have xn0 := World.new_ne Y ⟨g, 0, none⟩ c0
  have xn3 := World.new_ne Y ⟨gn, m * 4 + 3, none⟩ y3
  dsimp only at xn0 xn3
  have VB := below_new Y (.cells #[.int .u8 b] 5)
  have HZ3 := Hid.mk' (HZ2.out.below VB.drew)
  have HX3 := Hid.mk' (own_keep HX2.out VB.drew)
  have z3 := (VB.drew.cell n2').trans y3
  have zf := Hid.mk' (fun i => (VB.drew.frozen (p := ⟨gn, i, none⟩) n2').trans (HF2.out i))
  have n3 := Nat.lt_of_lt_of_le n2' VB.drew.size
  have NC := Hid.mk' (new_cells Y 5 [.int .u8 b] Y.heap.size rfl)
  clear VB
  go_wp2_with fail
  refine wp_region_held_drew (S := fun w' => w'.cell? ⟨g, 0, none⟩ = some (.slice (some ⟨gn, 0, none⟩) s.nd.length cn)) (by kernel_rfl) (by simp [*]) (fun hHeld => ?_)
  refine tkY 0 ?_
  refine tkY 1 ?_
  refine tkY 2 ?_
  refine tkY 3 ?_
  refine tkY 4 ?_
  refine tkY 5 ?_
  refine tkY 6 ?_
  refine tkY 7 ?_
  refine tkY 8 ?_
  refine tkY 9 ?_
  refine tkY 10 ?_
  refine tkY 11 ?_
  refine tkY 13 ?_
  refine wpAnyH_ready (rs := [12, 14]) (by kernel_rfl) (by simp) ?_
  refine AllReadyH.cons (o := ⟨_, _, _, _, _, _⟩) rfl (fun K hK => ?_) (AllReadyH.cons (o := ⟨_, _, _, _, _, _⟩) rfl (fun K hK => ?_) AllReadyH.nil)
  · go_simp
    refine hK.out _ _ (by (try dsimp only); go_keep) (fun hHeld => ?_)
    clear hK K
    try simp only [Act.put, zA, zB, zC]
    refine wpAnyH_ready (rs := [14]) (by kernel_rfl) (by simp) ?_
    refine AllReadyH.cons (o := ⟨_, _, _, _, _, _⟩) rfl (fun K hK => ?_) AllReadyH.nil
    go_simp
    refine hK.out _ _ (by (try dsimp only); go_keep) (fun hHeld => ?_)
    clear hK K
    try simp only [Act.put, zA, zB, zC]
    refine wpAnyH_ready (rs := [15]) (by kernel_rfl) (by simp) ?_
    refine AllReadyH.cons (o := ⟨_, _, _, _, _, _⟩) rfl (fun K hK => ?_) AllReadyH.nil
    refine step_append_at rfl (.tmp 70) (.tmp 72) 22 rfl lo 5 (.int .u8 0) 1 1 Try.underlying22 Try.info5 rfl (by decide) _ _ _ rfl (by have := HX3.out; rw [ET.out] at this; exact this) _ 1 _ (bcs [b]) rfl rfl (.inr ⟨_, rfl, NC.out⟩) (bcs_one _) (by unfold maxLen; omega) (by omega) HZ3.out.sz ?_
    intro v2 w2 ho hgr hat
    obtain ⟨av2, cv2, ev', _⟩ := own_len ho
    subst ev'
    have ho' := ho
    rw [← bcs_append] at ho'
    have HQ := Hid.mk' (HZ3.out.grow HS.out hm3 b ho' (by rw [ET.out]; exact hgr) (by rw [ET.out]; exact hat))
    have lab : ∀ j, (Value.slice pt (ndK s.nd m).tx.length ct).ownBlock = some j → ¬ j = g ∧ ¬ j = gn := fun j e => by
      rw [← ET.out] at e
      have h1 := HZ3.out.ns.tl m hm3 j e
      have h2 := HZ3.out.gl
      have h3 := HZ3.out.ns.rl gn rfl
      exact ⟨fun ej => by rw [ej] at h1; omega, fun ej => by rw [ej] at h1; omega⟩
    have r0 := hgr.cell (a := ⟨g, 0, none⟩) (cells3 HZ3.out.box).1 (fun e => (lab _ e.symm).1 rfl)
    have r3 := hgr.cell (a := ⟨gn, m * 4 + 3, none⟩) z3 (fun e => (lab _ e.symm).2 rfl)
    have rf : w2.frozen? ⟨gn, m * 4 + 3, none⟩ = false := (World.frozen?_of_block (a := ⟨gn, m * 4 + 3, none⟩) (hgr.block gn n3 (fun e => (lab _ e.symm).2 rfl))).trans (zf.out _)
    clear ho ho' hgr hat lab
    refine hK.out _ _ (by (try dsimp only); go_keep) (fun hHeld => ?_)
    clear hK K
    try simp only [Act.put, zA, zB, zC]
    refine tkY 16 ?_
    refine tkY 17 ?_
    refine wpAnyH_ready (rs := [18]) (by kernel_rfl) (by simp) ?_
    refine AllReadyH.cons (o := ⟨_, _, _, _, _, _⟩) rfl (fun K hK => ?_) AllReadyH.nil
    go_simp
    have gne' : g ≠ gn := fun e => gne e.symm
    refine hK.out _ _ (by (try dsimp only); go_keep) (fun hHeld => ?_)
    clear hK K
    try simp only [Act.put, zA, zB, zC]
    refine wpAnyH_done (by kernel_rfl) ?_ _
    go_end0
    exact ⟨⟨_, rfl⟩, by rw [E.out]; exact HQ.out⟩
  · go_simp
    refine hK.out _ _ (by (try dsimp only); go_keep) (fun hHeld => ?_)
    clear hK K
    try simp only [Act.put, zA, zB, zC]
    refine wpAnyH_ready (rs := [12]) (by kernel_rfl) (by simp) ?_
    refine AllReadyH.cons (o := ⟨_, _, _, _, _, _⟩) rfl (fun K hK => ?_) AllReadyH.nil
    go_simp
    refine hK.out _ _ (by (try dsimp only); go_keep) (fun hHeld => ?_)
    clear hK K
    try simp only [Act.put, zA, zB, zC]
    refine wpAnyH_ready (rs := [15]) (by kernel_rfl) (by simp) ?_
    refine AllReadyH.cons (o := ⟨_, _, _, _, _, _⟩) rfl (fun K hK => ?_) AllReadyH.nil
    refine step_append_at rfl (.tmp 70) (.tmp 72) 22 rfl lo 5 (.int .u8 0) 1 1 Try.underlying22 Try.info5 rfl (by decide) _ _ _ rfl (by have := HX3.out; rw [ET.out] at this; exact this) _ 1 _ (bcs [b]) rfl rfl (.inr ⟨_, rfl, NC.out⟩) (bcs_one _) (by unfold maxLen; omega) (by omega) HZ3.out.sz ?_
    intro v2 w2 ho hgr hat
    obtain ⟨av2, cv2, ev', _⟩ := own_len ho
    subst ev'
    have ho' := ho
    rw [← bcs_append] at ho'
    have HQ := Hid.mk' (HZ3.out.grow HS.out hm3 b ho' (by rw [ET.out]; exact hgr) (by rw [ET.out]; exact hat))
    have lab : ∀ j, (Value.slice pt (ndK s.nd m).tx.length ct).ownBlock = some j → ¬ j = g ∧ ¬ j = gn := fun j e => by
      rw [← ET.out] at e
      have h1 := HZ3.out.ns.tl m hm3 j e
      have h2 := HZ3.out.gl
      have h3 := HZ3.out.ns.rl gn rfl
      exact ⟨fun ej => by rw [ej] at h1; omega, fun ej => by rw [ej] at h1; omega⟩
    have r0 := hgr.cell (a := ⟨g, 0, none⟩) (cells3 HZ3.out.box).1 (fun e => (lab _ e.symm).1 rfl)
    have r3 := hgr.cell (a := ⟨gn, m * 4 + 3, none⟩) z3 (fun e => (lab _ e.symm).2 rfl)
    have rf : w2.frozen? ⟨gn, m * 4 + 3, none⟩ = false := (World.frozen?_of_block (a := ⟨gn, m * 4 + 3, none⟩) (hgr.block gn n3 (fun e => (lab _ e.symm).2 rfl))).trans (zf.out _)
    clear ho ho' hgr hat lab
    refine hK.out _ _ (by (try dsimp only); go_keep) (fun hHeld => ?_)
    clear hK K
    try simp only [Act.put, zA, zB, zC]
    refine tkY 16 ?_
    refine tkY 17 ?_
    refine wpAnyH_ready (rs := [18]) (by kernel_rfl) (by simp) ?_
    refine AllReadyH.cons (o := ⟨_, _, _, _, _, _⟩) rfl (fun K hK => ?_) AllReadyH.nil
    go_simp
    have gne' : g ≠ gn := fun e => gne e.symm
    refine hK.out _ _ (by (try dsimp only); go_keep) (fun hHeld => ?_)
    clear hK K
    try simp only [Act.put, zA, zB, zC]
    refine wpAnyH_done (by kernel_rfl) ?_ _
    go_end0
    exact ⟨⟨_, rfl⟩, by rw [E.out]; exact HQ.out⟩

end Go.Proofs.Ytlaeomnacgjcgaa

namespace Go.Proofs.Ytlaeomnacgjcgaa
open Go.RowKit

theorem startX_deep {s : BS} {nm : ByteArray} {at_ : List AT} {sh : Bool} (h : 7 ≤ (start0 s nm).op.length) : startX s nm at_ sh = start0 s nm := by unfold startX; rw [if_pos h]
theorem startX_put {s : BS} {nm : ByteArray} {at_ : List AT} {sh : Bool} (h : ¬ 7 ≤ (start0 s nm).op.length) : startX s nm at_ sh = openX (addX (start0 s nm) nm at_ []) nm sh (start0 s nm).nd.length := by unfold startX; rw [if_neg h]
theorem openX_no {s : BS} {nm : ByteArray} {sh : Bool} {n : Nat} (h : ¬ (s.lg = false ∧ voidB nm = false ∧ sh = false)) : openX s nm sh n = s := by unfold openX; rw [if_neg h]
theorem openX_yes {s : BS} {nm : ByteArray} {sh : Bool} {n : Nat} (h1 : s.lg = false) (h2 : voidB nm = false) (h3 : sh = false) : openX s nm sh n = ⟨s.nd, s.op ++ [(n : Int)], s.lg⟩ := by unfold openX; rw [if_pos ⟨h1, h2, h3⟩]
theorem p_list : (⟨#[112]⟩ : ByteArray).toList = [112] := by rw [toList_data]

end Go.Proofs.Ytlaeomnacgjcgaa

namespace Go.Proofs.Ytlaeomnacgjcgaa
open Go.RowKit

end Go.Proofs.Ytlaeomnacgjcgaa

namespace Go.Proofs.Ytlaeomnacgjcgaa
open Go.RowKit

theorem putX_large {s : BS} {t : TK} (h : s.lg = true) : putX s t = s := by unfold putX; rw [if_pos h]
theorem putX_byte {s : BS} {t : TK} (h : s.lg = false) (k : t.kd = 1) : putX s t = byteX s t.by_ := by unfold putX; rw [if_neg (by rw [h]; decide), if_pos k]
theorem putX_start {s : BS} {t : TK} (h : s.lg = false) (k : t.kd = 2) : putX s t = startX s t.nm t.at_ t.sh := by unfold putX; rw [if_neg (by rw [h]; decide), if_neg (by omega), if_pos k]
theorem putX_end {s : BS} {t : TK} (h : s.lg = false) (k : t.kd = 3) : putX s t = closeX s t.nm := by unfold putX; rw [if_neg (by rw [h]; decide), if_neg (by omega), if_neg (by omega), if_pos k]
theorem putX_note {s : BS} {t : TK} (h : s.lg = false) (k1 : ¬ t.kd = 1) (k2 : ¬ t.kd = 2) (k3 : ¬ t.kd = 3) : putX s t = s := by unfold putX; rw [if_neg (by rw [h]; decide), if_neg k1, if_neg k2, if_neg k3]

end Go.Proofs.Ytlaeomnacgjcgaa

namespace Go.Proofs.Ytlaeomnacgjcgaa
open Go.RowKit

end Go.Proofs.Ytlaeomnacgjcgaa

namespace Go.Proofs.Ytlaeomnacgjcgaa
open Go.RowKit

end Go.Proofs.Ytlaeomnacgjcgaa

namespace Go.Proofs.Ytlaeomnacgjcgaa
open Go.RowKit

theorem NS.down {τ : Nat → Nat} {lo lo' : Nat} {w : World} {v : Value} {l : List ND} {va vt : Nat → Value} {us : Nat → List Value} (h : NS τ lo w v l va vt us) (hl : lo' ≤ lo) : NS τ lo' w v l va vt us :=
  ⟨own_of h.row hl (fun _ _ _ => rfl), fun j hj => (h.att j hj).down hl, fun j hj => own_of (h.txt j hj) hl (fun _ _ _ => rfl), h.rl, h.al, h.ul, h.tl⟩

end Go.Proofs.Ytlaeomnacgjcgaa

namespace Go.Proofs.Ytlaeomnacgjcgaa
open Go.RowKit

theorem NS.around {τ : Nat → Nat} {lo lo' hi : Nat} {w w' : World} {v : Value} {l : List ND} {va vt : Nat → Value} {us : Nat → List Value} (h : NS τ lo w v l va vt us) (hl : lo' ≤ lo) (hh : w.heap.size = hi) (hb : ∀ k, lo ≤ k → k < w.heap.size → w'.heap[k]? = w.heap[k]?) : NS (fun k => if lo ≤ k ∧ k < hi then τ k else 1) lo' w' v l va vt us := by
  have n1 : NS (fun k => if lo ≤ k ∧ k < hi then τ k else 1) lo w v l va vt us := h.relabel (fun k h1 h2 => if_pos ⟨h1, by omega⟩)
  refine NS.down ?_ hl
  exact ⟨own_of n1.row (Nat.le_refl _) (fun k e h2 => hb k h2 (n1.row.lt k e).2), fun j hj => (n1.att j hj).keep (Nat.le_refl _) (fun k h1 h2 => hb k h1 h2), fun j hj => own_of (n1.txt j hj) (Nat.le_refl _) (fun k e h2 => hb k h2 ((n1.txt j hj).lt k e).2), n1.rl, n1.al, n1.ul, n1.tl⟩

end Go.Proofs.Ytlaeomnacgjcgaa

namespace Go.Proofs.Ytlaeomnacgjcgaa
open Go.RowKit

def noS : BS := ⟨[], [], false⟩

end Go.Proofs.Ytlaeomnacgjcgaa

namespace Go.Proofs.Ytlaeomnacgjcgaa
open Go.RowKit

theorem ZS.boxed {τ : Nat → Nat} {lo : Nat} {w0 w1 : World} {vn vo : Value} {s : BS} {va vt : Nat → Value} {us : Nat → List Value} {T : TypeId} (hn : NS τ lo w1 vn s.nd va vt us) (ho : OpP false τ lo w1 s.nd s.op vo) (hb : Below lo w0 w1) (hl : lo ≤ w1.heap.size) :
    ZB false T w0 lo w1.heap.size s (w1.alloc (.cells #[vn, vo, .bool s.lg] T)) := by
  have n1 : NS (fun k => if k < w1.heap.size then τ k else 2) lo w1 vn s.nd va vt us := hn.relabel (fun k _ h2 => if_pos h2)
  have o1 : OpP false (fun k => if k < w1.heap.size then τ k else 2) lo w1 s.nd s.op vo := ho.relabel (fun k _ h2 => if_pos h2)
  have nb := below_new w1 (.cells #[vn, vo, .bool s.lg] T)
  exact ⟨_, vn, vo, va, vt, us, row3 w1 T vn vo (.bool s.lg), n1.below nb, o1.keep (Kp.of_below nb), if_neg (Nat.lt_irrefl _), hb.trans (nb.mono hl), Nat.le_trans hl nb.size, hl⟩

end Go.Proofs.Ytlaeomnacgjcgaa

namespace Go.Proofs.Ytlaeomnacgjcgaa
open Go.RowKit

end Go.Proofs.Ytlaeomnacgjcgaa

namespace Go.Proofs.Ytlaeomnacgjcgaa
open Go.RowKit

def T5 (w : World) (g o : Nat) (t : TK) (a : Option Addr) (c : Nat) : Prop :=
  w.cell? ⟨g, o, none⟩ = some (.int .i64 t.kd) ∧ w.cell? ⟨g, o + 1, none⟩ = some (.int .i64 t.by_) ∧ w.cell? ⟨g, o + 2, none⟩ = some (.string t.nm) ∧ w.cell? ⟨g, o + 3, none⟩ = some (.slice a t.at_.length c) ∧ w.cell? ⟨g, o + 4, none⟩ = some (.bool t.sh) ∧ g < w.heap.size

theorem T5.below {w w' : World} {g o : Nat} {t : TK} {a : Option Addr} {c : Nat} (h : T5 w g o t a c) (hb : Below w.heap.size w w') : T5 w' g o t a c :=
  ⟨(hb.cell h.2.2.2.2.2).trans h.1, (hb.cell h.2.2.2.2.2).trans h.2.1, (hb.cell h.2.2.2.2.2).trans h.2.2.1, (hb.cell h.2.2.2.2.2).trans h.2.2.2.1, (hb.cell h.2.2.2.2.2).trans h.2.2.2.2.1, Nat.lt_of_lt_of_le h.2.2.2.2.2 hb.size⟩

end Go.Proofs.Ytlaeomnacgjcgaa

namespace Go.Proofs.Ytlaeomnacgjcgaa
open Go.RowKit

set_option maxRecDepth 100000 in
set_option maxHeartbeats 12800000 in
theorem startE (w0 : World) (lo g gt og : Nat) (s : BS) (t : TK) (a : Option Addr) (c : Nat) (w : World) (h : ZB false 80 w0 lo g s w) (hs : GS s) (hlg : s.lg = false) (hlo : lo = w0.heap.size) (ht : T5 w0 gt og t a c) (ha : AAt w0 a t.at_) (hl : (t.at_.length : Int) + asz t.at_ ≤ 1048576) :
    Calls Try.prog 67 #[.pointer (some ⟨g, 0, none⟩), .pointer (some ⟨gt, og, none⟩)] w fun e w' => (∃ v, e = .returned v) ∧ ZB false 80 w0 lo g (startX s t.nm t.at_ t.sh) w' := by
  subst hlo
  have TK_ : Hid (∀ W, Below w0.heap.size w0 W → T5 W gt og t a c ∧ AAt W a t.at_) := fun W hb => ⟨ht.below hb, ha.below hb⟩
  have HZ := Hid.mk' h
  have HS := Hid.mk' hs
  obtain ⟨τ, vn, vo, va, vt, us, hz⟩ := id h
  obtain ⟨k0, k1, k2, k3, k4, k5⟩ := (TK_.out w hz.bl).1
  have GS0 := Hid.mk' (gs_start0 hs t.nm)
  have LG0 := Hid.mk' ((start0_nd s t.nm).2.trans hlg)
  clear ht ha hz h hs
  cases hp : (t.nm.toList == [112]) with
  | true =>
    have E0 : Hid (start0 s t.nm = closeX s ⟨#[112]⟩) := Hid.mk' (by unfold start0 pBt; rw [hp, if_pos rfl]; exact closeX_congr (by rw [p_list]; exact eq_of_beq hp))
    have KC := Hid.mk' (closeS_any w0 w0.heap.size g s ⟨#[112]⟩ w HZ.out HS.out)
    rw [← E0.out] at KC
    go_enter Try.func67, Try.ntmps67
    go_wp2_with fail
    refine KC.out.mono ?_
    rintro e W ⟨⟨v9, rfl⟩, hz1⟩
    have HZ1 := Hid.mk' hz1
    clear hz1 KC k0 k1 k2 k3 k4 k5
    obtain ⟨s1, hs1⟩ : ∃ s1, start0 s t.nm = s1 := ⟨_, rfl⟩
    have ES := Hid.mk' hs1
    rw [hs1] at HZ1 GS0 LG0
    clear hs1
    have n60 := GS0.out.n
    have o7 := GS0.out.o
    obtain ⟨τ1, vn1, vo1, va1, vt1, us1, hz1⟩ := HZ1.out
    obtain ⟨po, co, eo, _⟩ := hz1.op.row
    subst eo
    obtain ⟨pn, cn, en, _⟩ := own_len hz1.ns.row
    subst en
    obtain ⟨c0, c1, c2, c3⟩ := cells3 hz1.box
    obtain ⟨hrow, haa⟩ := TK_.out W hz1.bl
    obtain ⟨k0, k1, k2, k3, k4, k5⟩ := id hrow
    have HZ2 := Hid.mk' hz1
    have HR := Hid.mk' hrow
    have HAA := Hid.mk' haa
    clear hz1 hrow haa
    by_cases h7 : 7 ≤ s1.op.length
    · have E : Hid (startX s t.nm t.at_ t.sh = s1) := Hid.mk' (by rw [startX_deep (by rw [ES.out]; exact h7), ES.out])
      have h7' : (s1.op.length : Int) ≥ 7 := by omega
      clear HAA
      go_wp2
      (try simp only [Exit.inBlock, Exit.then])
      refine bodyPost_ret (results_none rfl _ _ _) rfl ?_
      exact ⟨⟨_, rfl⟩, by rw [E.out]; exact HZ2.out.zb⟩
    have EP : Hid (startX s t.nm t.at_ t.sh = openX (addX s1 t.nm t.at_ []) t.nm t.sh s1.nd.length) := Hid.mk' (by rw [startX_put (by rw [ES.out]; exact h7), ES.out])
    have h7' : ¬ (s1.op.length : Int) ≥ 7 := by omega
    clear h7
    go_wp2_with fail
    refine wp_region_held_drew (S := fun w' => w'.cell? ⟨gt, og + 2, none⟩ = some (.string t.nm) ∧ w'.cell? ⟨gt, og + 3, none⟩ = some (.slice a t.at_.length c)) (by kernel_rfl) (by simp [*]) (fun hHeld => ?_)
    refine tkY 0 ?_
    refine tkY 1 ?_
    refine tkY 2 ?_
    refine tkY 3 ?_
    refine tkY 4 ?_
    refine tkY 5 ?_
    refine tkY 6 ?_
    refine tkY 7 ?_
    refine tkY 8 ?_
    refine wpAnyH_ready (rs := [9]) (by kernel_rfl) (by simp) ?_
    refine AllReadyH.cons (o := ⟨_, _, _, _, _, _⟩) rfl (fun K hK => ?_) AllReadyH.nil
    go_simp
    go_at_call 74
    refine (l4CopyAttrs_own a c t.at_ W.drew (HAA.out.below (Below.refl _ _).drew) (by omega)).mono ?_
    rintro e w2 ⟨va_, us_, rfl, hoa, hb2⟩
    obtain ⟨pa, ca, ea, _⟩ := own_len hoa.row
    subst ea
    replace hb2 := undrew hb2
    have B2 := Hid.mk' hb2
    have HOA : Hid (OA W.heap.size w2 (.slice pa t.at_.length ca) t.at_ us_) := Hid.mk' hoa
    have y2 := (hb2.cell k5).trans k2
    have y3 := (hb2.cell k5).trans k3
    clear hb2 hoa
    refine hK.out _ _ ⟨y2, y3⟩ (fun hHeld => ?_)
    clear hK K
    try simp only [Act.put, zA, zB, zC]
    refine tkY 10 ?_
    refine wpAnyH_ready (rs := [11]) (by kernel_rfl) (by simp) ?_
    refine AllReadyH.cons (o := ⟨_, _, _, _, _, _⟩) rfl (fun K hK => ?_) AllReadyH.nil
    go_simp
    go_at_call 73
    refine (addS_any w0 w0.heap.size g s1 W τ1 _ _ va1 vt1 us1 HZ2.out GS0.out W.heap.size t.nm t.at_ [] (.slice pa t.at_.length ca) (.slice none 0 0) us_ 0 w2 B2.out HOA.out (Nat.le_refl _) ⟨rfl, .inl ⟨rfl, rfl⟩⟩ (fun k e => by simp [Value.ownBlock] at e)).mono ?_
    rintro e w3 ⟨⟨v8, rfl⟩, hz3⟩
    have HZ3 := Hid.mk' hz3
    obtain ⟨τ3, vn3, vo3, va3, vt3, us3, hz3⟩ := hz3
    obtain ⟨j0, j1, j2, j3, j4, j5⟩ := (TK_.out w3 hz3.bl).1
    clear hz3
    refine hK.out _ _ ⟨j2, j3⟩ (fun hHeld => ?_)
    clear hK K
    try simp only [Act.put, zA, zB, zC]
    refine wpAnyH_done (by kernel_rfl) ?_ _
    have GS3 := Hid.mk' (gs_add GS0.out LG0.out (tg := t.nm) (at_ := t.at_) (tx := []) (by simp))
    obtain ⟨s3, hs3⟩ : ∃ s3, addX s1 t.nm t.at_ [] = s3 := ⟨_, rfl⟩
    rw [hs3] at HZ3 EP GS3
    clear hs3
    obtain ⟨τ4, vn4, vo4, va4, vt4, us4, hz4⟩ := HZ3.out
    obtain ⟨po4, co4, eo4, _⟩ := hz4.op.row
    subst eo4
    obtain ⟨pn4, cn4, en4, _⟩ := own_len hz4.ns.row
    subst en4
    clear c0 c1 c2 c3 k0 k1 k2 k3 k4 k5
    obtain ⟨c0, c1, c2, c3⟩ := cells3 hz4.box
    have f1 := hz4.box.frozen 1
    have HZ4 := Hid.mk' hz4
    have o74 := GS3.out.o
    have KV := l6Void_any t.nm w3
    clear hz4
    cases hl3 : s3.lg with
    | true =>
      have E : Hid (startX s t.nm t.at_ t.sh = s3) := Hid.mk' (by rw [EP.out]; exact openX_no (by rw [hl3]; simp))
      rw [hl3] at c2
      clear hl3 KV
      go_wp2_with (first | go_big_skip)
      go_end0
      exact ⟨⟨_, rfl⟩, by rw [E.out]; exact HZ4.out.zb⟩
    | false =>
      have L3 := Hid.mk' hl3
      rw [hl3] at c2
      clear hl3
      cases hv : voidB t.nm with
      | true =>
        have E : Hid (startX s t.nm t.at_ t.sh = s3) := Hid.mk' (by rw [EP.out]; exact openX_no (by rw [hv]; simp))
        rw [hv] at KV
        have KV := Hid.mk' KV
        clear hv
        go_wp2_with (first | go_big_skip | (go_at_call 36; refine KV.out.mono ?_; rintro e w9 ⟨rfl, hw9⟩; obtain rfl := hw9.symm))
        go_end0
        exact ⟨⟨_, rfl⟩, by rw [E.out]; exact HZ4.out.zb⟩
      | false =>
        rw [hv] at KV
        have KV := Hid.mk' KV
        have VV := Hid.mk' hv
        clear hv
        cases hsh : t.sh with
        | true =>
          have E : Hid (startX s t.nm t.at_ t.sh = s3) := Hid.mk' (by rw [EP.out]; exact openX_no (by rw [hsh]; simp))
          rw [hsh] at j4
          clear hsh
          go_wp2_with (first | go_big_skip | (go_at_call 36; refine KV.out.mono ?_; rintro e w9 ⟨rfl, hw9⟩; obtain rfl := hw9.symm))
          go_end0
          exact ⟨⟨_, rfl⟩, by rw [E.out]; exact HZ4.out.zb⟩
        | false =>
          have E : Hid (startX s t.nm t.at_ t.sh = ⟨s3.nd, s3.op ++ [(s1.nd.length : Int)], s3.lg⟩) := Hid.mk' (by rw [EP.out]; exact openX_yes L3.out VV.out hsh)
          rw [hsh] at j4
          clear hsh
          have VB := below_new w3 (.cells #[.int .i64 (s1.nd.length : Int)] 2)
          have HZ5 := Hid.mk' (HZ4.out.below VB)
          have NC := Hid.mk' (new_cells w3 2 [.int .i64 (s1.nd.length : Int)] w3.heap.size rfl)
          have b1 := (cells3 HZ5.out.box).2.1
          clear VB
          go_wp2_with (first | go_big_skip | (go_at_call 36; refine KV.out.mono ?_; rintro e w9 ⟨rfl, hw9⟩; obtain rfl := hw9.symm) | (at_builtin; refine wpList_append_at _ rfl (.tmp 59) (.tmp 61) 30 rfl w0.heap.size 2 (.int .i64 0) 1 8 Try.underlying30 Try.info2 rfl (by decide) _ _ _ rfl HZ5.out.op.1 _ 1 _ (ics [(s1.nd.length : Int)]) rfl (by simp [ics]) (.inr ⟨_, rfl, NC.out⟩) (ics_one _) (by unfold maxLen; omega) (by omega) HZ5.out.sz ?_; intro v' w5 ho hgr hat; obtain ⟨av5, cv5, ev5, _⟩ := own_len ho; subst ev5; have gnl : ∀ j, (Value.slice po4 s3.op.length co4).ownBlock = some j → ¬ j = g := (fun j e ej => by have h1 := HZ5.out.op.2 j e; have h2 := HZ5.out.gl; rw [ej] at h1; omega); have z1 := hgr.cell (a := ⟨g, 1, none⟩) b1 (fun e => gnl _ e.symm rfl); have z2 : w5.frozen? ⟨g, 1, none⟩ = false := (HZ5.out.box.of_block (hgr.block g HZ5.out.box.lt (fun e => gnl _ e.symm rfl))).frozen 1; have HQ := Hid.mk' (HZ5.out.pushS (wa := w3) (s1.nd.length : Int) ho hgr hat); clear ho hgr hat gnl))
          go_end0
          exact ⟨⟨_, rfl⟩, by rw [E.out]; exact HQ.out⟩
  | false =>
    have E0 : Hid (start0 s t.nm = s) := Hid.mk' (by unfold start0 pBt; rw [hp]; rfl)
    have HZ1 : Hid (ZB false 80 w0 w0.heap.size g (start0 s t.nm) w) := Hid.mk' (by rw [E0.out]; exact HZ.out)
    clear k0 k1 k2 k3 k4 k5
    go_enter Try.func67, Try.ntmps67
    obtain ⟨s1, hs1⟩ : ∃ s1, start0 s t.nm = s1 := ⟨_, rfl⟩
    have ES := Hid.mk' hs1
    rw [hs1] at HZ1 GS0 LG0
    clear hs1
    have n60 := GS0.out.n
    have o7 := GS0.out.o
    obtain ⟨τ1, vn1, vo1, va1, vt1, us1, hz1⟩ := HZ1.out
    obtain ⟨po, co, eo, _⟩ := hz1.op.row
    subst eo
    obtain ⟨pn, cn, en, _⟩ := own_len hz1.ns.row
    subst en
    obtain ⟨c0, c1, c2, c3⟩ := cells3 hz1.box
    obtain ⟨hrow, haa⟩ := TK_.out w hz1.bl
    obtain ⟨k0, k1, k2, k3, k4, k5⟩ := id hrow
    have HZ2 := Hid.mk' hz1
    have HR := Hid.mk' hrow
    have HAA := Hid.mk' haa
    clear hz1 hrow haa
    by_cases h7 : 7 ≤ s1.op.length
    · have E : Hid (startX s t.nm t.at_ t.sh = s1) := Hid.mk' (by rw [startX_deep (by rw [ES.out]; exact h7), ES.out])
      have h7' : (s1.op.length : Int) ≥ 7 := by omega
      clear HAA
      go_wp2
      (try simp only [Exit.inBlock, Exit.then])
      refine bodyPost_ret (results_none rfl _ _ _) rfl ?_
      exact ⟨⟨_, rfl⟩, by rw [E.out]; exact HZ2.out.zb⟩
    have EP : Hid (startX s t.nm t.at_ t.sh = openX (addX s1 t.nm t.at_ []) t.nm t.sh s1.nd.length) := Hid.mk' (by rw [startX_put (by rw [ES.out]; exact h7), ES.out])
    have h7' : ¬ (s1.op.length : Int) ≥ 7 := by omega
    clear h7
    go_wp2_with fail
    refine wp_region_held_drew (S := fun w' => w'.cell? ⟨gt, og + 2, none⟩ = some (.string t.nm) ∧ w'.cell? ⟨gt, og + 3, none⟩ = some (.slice a t.at_.length c)) (by kernel_rfl) (by simp [*]) (fun hHeld => ?_)
    refine tkY 0 ?_
    refine tkY 1 ?_
    refine tkY 2 ?_
    refine tkY 3 ?_
    refine tkY 4 ?_
    refine tkY 5 ?_
    refine tkY 6 ?_
    refine tkY 7 ?_
    refine tkY 8 ?_
    refine wpAnyH_ready (rs := [9]) (by kernel_rfl) (by simp) ?_
    refine AllReadyH.cons (o := ⟨_, _, _, _, _, _⟩) rfl (fun K hK => ?_) AllReadyH.nil
    go_simp
    go_at_call 74
    refine (l4CopyAttrs_own a c t.at_ w.drew (HAA.out.below (Below.refl _ _).drew) (by omega)).mono ?_
    rintro e w2 ⟨va_, us_, rfl, hoa, hb2⟩
    obtain ⟨pa, ca, ea, _⟩ := own_len hoa.row
    subst ea
    replace hb2 := undrew hb2
    have B2 := Hid.mk' hb2
    have HOA : Hid (OA w.heap.size w2 (.slice pa t.at_.length ca) t.at_ us_) := Hid.mk' hoa
    have y2 := (hb2.cell k5).trans k2
    have y3 := (hb2.cell k5).trans k3
    clear hb2 hoa
    refine hK.out _ _ ⟨y2, y3⟩ (fun hHeld => ?_)
    clear hK K
    try simp only [Act.put, zA, zB, zC]
    refine tkY 10 ?_
    refine wpAnyH_ready (rs := [11]) (by kernel_rfl) (by simp) ?_
    refine AllReadyH.cons (o := ⟨_, _, _, _, _, _⟩) rfl (fun K hK => ?_) AllReadyH.nil
    go_simp
    go_at_call 73
    refine (addS_any w0 w0.heap.size g s1 w τ1 _ _ va1 vt1 us1 HZ2.out GS0.out w.heap.size t.nm t.at_ [] (.slice pa t.at_.length ca) (.slice none 0 0) us_ 0 w2 B2.out HOA.out (Nat.le_refl _) ⟨rfl, .inl ⟨rfl, rfl⟩⟩ (fun k e => by simp [Value.ownBlock] at e)).mono ?_
    rintro e w3 ⟨⟨v8, rfl⟩, hz3⟩
    have HZ3 := Hid.mk' hz3
    obtain ⟨τ3, vn3, vo3, va3, vt3, us3, hz3⟩ := hz3
    obtain ⟨j0, j1, j2, j3, j4, j5⟩ := (TK_.out w3 hz3.bl).1
    clear hz3
    refine hK.out _ _ ⟨j2, j3⟩ (fun hHeld => ?_)
    clear hK K
    try simp only [Act.put, zA, zB, zC]
    refine wpAnyH_done (by kernel_rfl) ?_ _
    have GS3 := Hid.mk' (gs_add GS0.out LG0.out (tg := t.nm) (at_ := t.at_) (tx := []) (by simp))
    obtain ⟨s3, hs3⟩ : ∃ s3, addX s1 t.nm t.at_ [] = s3 := ⟨_, rfl⟩
    rw [hs3] at HZ3 EP GS3
    clear hs3
    obtain ⟨τ4, vn4, vo4, va4, vt4, us4, hz4⟩ := HZ3.out
    obtain ⟨po4, co4, eo4, _⟩ := hz4.op.row
    subst eo4
    obtain ⟨pn4, cn4, en4, _⟩ := own_len hz4.ns.row
    subst en4
    clear c0 c1 c2 c3 k0 k1 k2 k3 k4 k5
    obtain ⟨c0, c1, c2, c3⟩ := cells3 hz4.box
    have f1 := hz4.box.frozen 1
    have HZ4 := Hid.mk' hz4
    have o74 := GS3.out.o
    have KV := l6Void_any t.nm w3
    clear hz4
    cases hl3 : s3.lg with
    | true =>
      have E : Hid (startX s t.nm t.at_ t.sh = s3) := Hid.mk' (by rw [EP.out]; exact openX_no (by rw [hl3]; simp))
      rw [hl3] at c2
      clear hl3 KV
      go_wp2_with (first | go_big_skip)
      go_end0
      exact ⟨⟨_, rfl⟩, by rw [E.out]; exact HZ4.out.zb⟩
    | false =>
      have L3 := Hid.mk' hl3
      rw [hl3] at c2
      clear hl3
      cases hv : voidB t.nm with
      | true =>
        have E : Hid (startX s t.nm t.at_ t.sh = s3) := Hid.mk' (by rw [EP.out]; exact openX_no (by rw [hv]; simp))
        rw [hv] at KV
        have KV := Hid.mk' KV
        clear hv
        go_wp2_with (first | go_big_skip | (go_at_call 36; refine KV.out.mono ?_; rintro e w9 ⟨rfl, hw9⟩; obtain rfl := hw9.symm))
        go_end0
        exact ⟨⟨_, rfl⟩, by rw [E.out]; exact HZ4.out.zb⟩
      | false =>
        rw [hv] at KV
        have KV := Hid.mk' KV
        have VV := Hid.mk' hv
        clear hv
        cases hsh : t.sh with
        | true =>
          have E : Hid (startX s t.nm t.at_ t.sh = s3) := Hid.mk' (by rw [EP.out]; exact openX_no (by rw [hsh]; simp))
          rw [hsh] at j4
          clear hsh
          go_wp2_with (first | go_big_skip | (go_at_call 36; refine KV.out.mono ?_; rintro e w9 ⟨rfl, hw9⟩; obtain rfl := hw9.symm))
          go_end0
          exact ⟨⟨_, rfl⟩, by rw [E.out]; exact HZ4.out.zb⟩
        | false =>
          have E : Hid (startX s t.nm t.at_ t.sh = ⟨s3.nd, s3.op ++ [(s1.nd.length : Int)], s3.lg⟩) := Hid.mk' (by rw [EP.out]; exact openX_yes L3.out VV.out hsh)
          rw [hsh] at j4
          clear hsh
          have VB := below_new w3 (.cells #[.int .i64 (s1.nd.length : Int)] 2)
          have HZ5 := Hid.mk' (HZ4.out.below VB)
          have NC := Hid.mk' (new_cells w3 2 [.int .i64 (s1.nd.length : Int)] w3.heap.size rfl)
          have b1 := (cells3 HZ5.out.box).2.1
          clear VB
          go_wp2_with (first | go_big_skip | (go_at_call 36; refine KV.out.mono ?_; rintro e w9 ⟨rfl, hw9⟩; obtain rfl := hw9.symm) | (at_builtin; refine wpList_append_at _ rfl (.tmp 59) (.tmp 61) 30 rfl w0.heap.size 2 (.int .i64 0) 1 8 Try.underlying30 Try.info2 rfl (by decide) _ _ _ rfl HZ5.out.op.1 _ 1 _ (ics [(s1.nd.length : Int)]) rfl (by simp [ics]) (.inr ⟨_, rfl, NC.out⟩) (ics_one _) (by unfold maxLen; omega) (by omega) HZ5.out.sz ?_; intro v' w5 ho hgr hat; obtain ⟨av5, cv5, ev5, _⟩ := own_len ho; subst ev5; have gnl : ∀ j, (Value.slice po4 s3.op.length co4).ownBlock = some j → ¬ j = g := (fun j e ej => by have h1 := HZ5.out.op.2 j e; have h2 := HZ5.out.gl; rw [ej] at h1; omega); have z1 := hgr.cell (a := ⟨g, 1, none⟩) b1 (fun e => gnl _ e.symm rfl); have z2 : w5.frozen? ⟨g, 1, none⟩ = false := (HZ5.out.box.of_block (hgr.block g HZ5.out.box.lt (fun e => gnl _ e.symm rfl))).frozen 1; have HQ := Hid.mk' (HZ5.out.pushS (wa := w3) (s1.nd.length : Int) ho hgr hat); clear ho hgr hat gnl))
          go_end0
          exact ⟨⟨_, rfl⟩, by rw [E.out]; exact HQ.out⟩

set_option maxRecDepth 100000 in
set_option maxHeartbeats 3200000 in
theorem putE (w0 : World) (lo g gt og : Nat) (s : BS) (t : TK) (a : Option Addr) (c : Nat) (w : World) (h : ZB false 80 w0 lo g s w) (hs : GS s) (hlo : lo = w0.heap.size) (ht : T5 w0 gt og t a c) (ha : AAt w0 a t.at_) (hl : (t.at_.length : Int) + asz t.at_ ≤ 1048576) (hby : t.kd = 1 → 0 ≤ t.by_ ∧ t.by_ ≤ 255) :
    Calls Try.prog 58 #[.pointer (some ⟨g, 0, none⟩), .pointer (some ⟨gt, og, none⟩)] w fun e w' => (∃ v, e = .returned v) ∧ ZB false 80 w0 lo g (putX s t) w' := by
  subst hlo
  obtain ⟨τ, vn, vo, va, vt, us, hz⟩ := id h
  have HZ := Hid.mk' h
  obtain ⟨po, co, eo, _⟩ := hz.op.row
  subst eo
  obtain ⟨pn, cn, en, _⟩ := own_len hz.ns.row
  subst en
  obtain ⟨c0, c1, c2, c3⟩ := cells3 hz.box
  obtain ⟨k0, k1, k2, k3, k4, k5⟩ := ht.below hz.bl
  clear hz h
  cases hlg : s.lg with
  | true =>
    have E := Hid.mk' (putX_large (t := t) hlg)
    rw [hlg] at c2
    clear hlg
    go_enter Try.func58, Try.ntmps58
    go_wp2
    (try simp only [Exit.inBlock, Exit.then])
    refine bodyPost_ret (results_none rfl _ _ _) rfl ?_
    exact ⟨⟨_, rfl⟩, by rw [E.out]; exact HZ.out⟩
  | false =>
    by_cases q1 : t.kd = 1
    · have E := Hid.mk' (putX_byte hlg q1)
      obtain ⟨y0, y1⟩ := hby q1
      have KB := Hid.mk' (byteS_any w0 w0.heap.size g s t.by_ w HZ.out hs)
      rw [hlg] at c2
      rw [q1] at k0
      have yw : IntKind.u8.wrap t.by_ = t.by_ := by rw [IntKind.wrap_u8]; omega
      clear hlg q1 hby
      go_enter Try.func58, Try.ntmps58
      go_wp2_with fail
      refine KB.out.mono ?_
      rintro e w1 ⟨⟨v9, rfl⟩, hz1⟩
      have HZ1 := Hid.mk' hz1
      clear hz1 KB
      go_wp2
      go_end0
      exact ⟨⟨_, rfl⟩, by rw [E.out]; exact HZ1.out⟩
    by_cases q2 : t.kd = 2
    · have E := Hid.mk' (putX_start hlg q2)
      have KB := Hid.mk' (startE w0 w0.heap.size g gt og s t a c w HZ.out hs hlg rfl ht ha hl)
      rw [hlg] at c2
      rw [q2] at k0
      clear hlg q1 q2 hby ht ha
      go_enter Try.func58, Try.ntmps58
      go_wp2_with fail
      refine KB.out.mono ?_
      rintro e w1 ⟨⟨v9, rfl⟩, hz1⟩
      have HZ1 := Hid.mk' hz1
      clear hz1 KB
      go_wp2
      go_end0
      exact ⟨⟨_, rfl⟩, by rw [E.out]; exact HZ1.out⟩
    by_cases q3 : t.kd = 3
    · have E := Hid.mk' (putX_end hlg q3)
      have KB := Hid.mk' (closeS_any w0 w0.heap.size g s t.nm w HZ.out hs)
      rw [hlg] at c2
      rw [q3] at k0
      clear hlg q1 q2 q3 hby ht ha
      go_enter Try.func58, Try.ntmps58
      go_wp2_with fail
      refine KB.out.mono ?_
      rintro e w1 ⟨⟨v9, rfl⟩, hz1⟩
      have HZ1 := Hid.mk' hz1
      clear hz1 KB
      go_wp2
      go_end0
      exact ⟨⟨_, rfl⟩, by rw [E.out]; exact HZ1.out⟩
    have E := Hid.mk' (putX_note hlg q1 q2 q3)
    rw [hlg] at c2
    have r1 : (t.kd == 1) = false := by simpa using q1
    have r2 : (t.kd == 2) = false := by simpa using q2
    have r3' : (t.kd == 3) = false := by simpa using q3
    clear hlg q1 q2 q3 hby ht ha
    go_enter Try.func58, Try.ntmps58
    go_wp2
    go_end0
    exact ⟨⟨_, rfl⟩, by rw [E.out]; exact HZ.out⟩

end Go.Proofs.Ytlaeomnacgjcgaa

namespace Go.Proofs.Ytlaeomnacgjcgaa
open Go.RowKit

def foldX (s : BS) (l : List TK) : BS := l.foldl putX s

theorem foldX_take (s : BS) (l : List TK) (k : Nat) (hk : k < l.length) : foldX s (l.take (k + 1)) = putX (foldX s (l.take k)) (tkK l k) := by
  unfold foldX
  rw [List.take_add_one, List.foldl_append, List.getElem?_eq_getElem hk]
  simp [tkK, hk]

theorem gs_fold {s : BS} (h : GS s) : ∀ (l : List TK), GS (foldX s l) := by
  intro l
  induction l generalizing s with
  | nil => exact h
  | cons t l ih => exact ih (gs_put h t)

theorem nS_fold : ∀ (l : List TK) (s : BS), nS (foldX s l) ≤ nS s + 2 * l.length + tssz l
  | [], s => by simp [foldX, tssz]
  | t :: l, s => by
    have h := nS_fold l (putX s t)
    have h2 := nS_put s t
    have e : tS t = tsz t := rfl
    have e2 : foldX s (t :: l) = foldX (putX s t) l := rfl
    rw [e2]
    simp only [List.length_cons, tssz]
    omega

end Go.Proofs.Ytlaeomnacgjcgaa

namespace Go.Proofs.Ytlaeomnacgjcgaa
open Go.RowKit

def TsB (w : World) (a : Option Addr) (l : List TK) : Prop :=
  l = [] ∨ ∃ b o, a = some ⟨b, o, none⟩ ∧ b < w.heap.size ∧ ∀ k, k < l.length → ∃ p c, T5 w b (o + k * 5) (tkK l k) p c ∧ AAt w p (tkK l k).at_ ∧ (tkK l k).at_.length ≤ c

theorem TsB.below {w w' : World} {a : Option Addr} {l : List TK} (h : TsB w a l) (hb : Below w.heap.size w w') : TsB w' a l := by
  rcases h with h | ⟨b, o, e, hs, hc⟩
  · exact .inl h
  · refine .inr ⟨b, o, e, Nat.lt_of_lt_of_le hs hb.size, fun k hk => ?_⟩
    obtain ⟨p, c, h1, h2, h3⟩ := hc k hk
    exact ⟨p, c, h1.below hb, h2.below hb, h3⟩

end Go.Proofs.Ytlaeomnacgjcgaa

namespace Go.Proofs.Ytlaeomnacgjcgaa
open Go.RowKit

set_option maxRecDepth 100000 in
set_option maxHeartbeats 3200000 in
theorem l5LexD_any (d : List Int) (ad : Option Addr) (cd : Nat) (w : World) (hd : BAt w ad d) (hu : Byt d) (hl : d.length ≤ 240) :
    Calls Try.prog 52 #[.slice ad d.length cd] w fun e w' => ∃ v us, e = .returned v ∧ TokS w.heap.size w' v (lexX d) us ∧ Below w.heap.size w w' := by
  have KA : Calls Try.prog 59 #[.slice none 0 0, .slice ad d.length cd] w fun e w' => ∃ v u us, e = .returned (.tuple #[v, u]) ∧ TokS w.heap.size w' v (allX [] [] d).1 us ∧ w'.ownsRow w.heap.size 5 1 u (allX [] [] d).2.length (bcs (allX [] [] d).2) ∧ (allX [] [] d).1.length ≤ 161 * d.length ∧ (allX [] [] d).2.length ≤ 160 ∧ Byt (allX [] [] d).2 ∧ Below w.heap.size w w' :=
    l5All_any none ad 0 cd [] d w (.inl rfl) hd Byt.nil (by simp) hu (by omega)
  have KA := Hid.mk' KA
  have EX : Hid (lexX d = (allX [] [] d).1 ++ bytesT (allX [] [] d).2) := Hid.mk' rfl
  clear hd hu
  generalize (allX [] [] d).1 = T at *
  generalize (allX [] [] d).2 = H at *
  go_enter Try.func52, Try.ntmps52
  go_wp2_with fail
  refine KA.out.mono ?_
  rintro e w1 ⟨v, u, us, rfl, hT, hH, l1, l2, hby, hb1⟩
  obtain ⟨ua, uc, rfl, hbt⟩ := own_bat hH
  obtain ⟨va, vc, rfl, _⟩ := own_src hT.row
  have KG := Hid.mk' (l5Go_any ua uc H w1 hbt hby (by omega))
  have HT := Hid.mk' hT
  have B1 := Hid.mk' hb1
  clear hT hH hby hb1 hbt KA
  go_wp2_with fail
  refine KG.out.mono ?_
  rintro e w2 ⟨v2, rfl, ho2, hb2⟩
  obtain ⟨a2, c2, rfl, src2⟩ := own_src ho2
  have SRC : Hid ((bytesT H).length = 0 ∨ ∃ ad, a2 = some ad ∧ ∀ j u, (tcs (bytesT H) (nils H.length))[j]? = some u → w2.cell? (ad.add j) = some u) := Hid.mk' (by rw [bytesT_len]; exact src2)
  have hlen : Hid ((tcs (bytesT H) (nils H.length)).length = H.length * 5) := Hid.mk' (by rw [tcs_len _ _ (by rw [nils_len, bytesT_len]), bytesT_len])
  have hone : Hid (∀ u ∈ tcs (bytesT H) (nils H.length), u.oneCell' = true) := Hid.mk' (tcs_one _ _ (nils_one _))
  have T2 := Hid.mk' (own_keep HT.out.row hb2)
  have BB2 := Hid.mk' hb2
  have B2 := Hid.mk' (B1.out.trans (hb2.mono B1.out.size))
  have SZ := Hid.mk' B2.out.size
  have SRC2 := Hid.mk' src2
  clear hb2 ho2 KG src2
  go_wp2_with (first | (at_builtin; refine wpList_append_at _ rfl (.tmp 10) (.tmp 12) 82 rfl w.heap.size 89 (.agg #[.int .i64 0, .int .i64 0, .string ⟨#[]⟩, .slice none 0 0, .bool false]) 5 64 Try.underlying82 Try.infoTok rfl (by decide) _ _ _ rfl T2.out _ _ _ (tcs (bytesT H) (nils H.length)) rfl hlen.out SRC2.out hone.out (by unfold maxLen; omega) (by omega) SZ.out ?_; intro v' w3 ho hgr hat; obtain ⟨a', c', rfl, _⟩ := own_src ho) | fail)
  have T3 : Hid (TokS w.heap.size w3 (.slice a' (T.length + H.length) c') (T ++ bytesT H) (us ++ nils H.length)) := Hid.mk' (HT.out.app BB2.out B1.out.size (fun i t u ht hu => .inl ⟨by
      unfold bytesT at ht
      rw [List.getElem?_map] at ht
      cases h : H[i]? with
      | none => rw [h] at ht; cases ht
      | some x => rw [h] at ht; injection ht with ht; rw [← ht]; rfl, nils_get hu⟩) (by rw [nils_len, bytesT_len]) (nils_one _) (by rw [bytesT_len]; exact ho) hgr hat)
  have B3 := Hid.mk' (B2.out.grown hgr SZ.out (own_lo T2.out))
  clear ho hgr hat
  go_ret
  exact ⟨_, _, rfl, by rw [EX.out]; exact T3.out, B3.out⟩

theorem tcs_getD : ∀ (ts : List TK) (us : List Value) (j i : Nat), us.length = ts.length → j < ts.length → i < 5 → (tcs ts us)[j * 5 + i]? = ([.int .i64 (tkK ts j).kd, .int .i64 (tkK ts j).by_, .string (tkK ts j).nm, us.getD j undef, .bool (tkK ts j).sh] : List Value)[i]?
  | [], _, j, _, _, hj, _ => absurd hj (Nat.not_lt_zero _)
  | t :: ts, [], _, _, h, _, _ => by simp at h
  | t :: ts, u :: us, 0, i, _, _, hi => by
    have : i = 0 ∨ i = 1 ∨ i = 2 ∨ i = 3 ∨ i = 4 := by omega
    rcases this with rfl | rfl | rfl | rfl | rfl <;> simp [tcs, tkK]
  | t :: ts, u :: us, j + 1, i, h, hj, hi => by
    have := tcs_getD ts us j i (by simpa using h) (by simpa using hj) hi
    rw [show (j + 1) * 5 + i = j * 5 + i + 5 by omega]
    simpa [tcs, tkK] using this

theorem row_toksD {w : World} {lo : Nat} {v : Value} {ts : List TK} {us : List Value} (hl : us.length = ts.length) (h : w.ownsRow lo 89 5 v ts.length (tcs ts us)) (ha : ∀ j, j < ts.length → ∃ p c, us.getD j undef = .slice p (tkK ts j).at_.length c ∧ AAt w p (tkK ts j).at_ ∧ (tkK ts j).at_.length ≤ c) : ∃ a c, v = .slice a ts.length c ∧ TsB w a ts := by
  rcases h.2 with ⟨rfl, h0⟩ | ⟨g, cap, cur, rfl, hg, hh, hc, hm, hs, ht⟩
  · exact ⟨none, 0, by rw [h0], .inl (List.eq_nil_of_length_eq_zero h0)⟩
  · have glt : g < w.heap.size := Nat.lt_of_not_le fun hn => by rw [Array.getElem?_eq_none hn] at hh; cases hh
    refine ⟨_, _, rfl, .inr ⟨g, 0, rfl, glt, fun k hk => ?_⟩⟩
    have q : ∀ i, w.cell? ⟨g, i, none⟩ = cur[i]? := fun i => Lib.cell_of_heap hh i
    have cc : ∀ i, i < 5 → w.cell? ⟨g, k * 5 + i, none⟩ = ([.int .i64 (tkK ts k).kd, .int .i64 (tkK ts k).by_, .string (tkK ts k).nm, us.getD k undef, .bool (tkK ts k).sh] : List Value)[i]? := fun i hi => by
      rw [q, ← tcs_getD ts us k i hl hk hi, ← ht, List.getElem?_take_of_lt (by omega)]
      simp
    obtain ⟨p, c, e, haa, hcc⟩ := ha k hk
    simp only [Nat.zero_add]
    refine ⟨p, c, ⟨cc 0 (by omega), cc 1 (by omega), cc 2 (by omega), ?_, cc 4 (by omega), glt⟩, haa, hcc⟩
    rw [cc 3 (by omega), ← e]; rfl

theorem OA.roomD {lo : Nat} {w : World} {v : Value} {l : List AT} {us : List Value} (h : OA lo w v l us) : ∃ a c, v = .slice a l.length c ∧ AAt w a l ∧ l.length ≤ c := by
  obtain ⟨a, c, e, ha⟩ := h.at
  obtain ⟨a', c', e', hc⟩ := own_cap h.row
  rw [e] at e'
  injection e' with e1 e2 e3
  exact ⟨a, c, e, ha, by omega⟩

theorem TokS.tsBD {base : Nat} {w : World} {v : Value} {ts : List TK} {us : List Value} (h : TokS base w v ts us) : ∃ a c, v = .slice a ts.length c ∧ TsB w a ts :=
  row_toksD h.len h.row (fun j hj => by
    have h1 : ts[j]? = some (tkK ts j) := by simp [tkK, List.getD_eq_getElem?_getD, hj]
    have h2 : us[j]? = some (us.getD j undef) := by simp [List.getD_eq_getElem?_getD, h.len, hj]
    obtain ⟨rs, ho⟩ := (h.all j _ _ h1 h2).held
    exact ho.roomD)

end Go.Proofs.Ytlaeomnacgjcgaa

namespace Go.Proofs.Ytlaeomnacgjcgaa
open Go.RowKit

def BldP (s : BS) (w : World) (e : Ending) (w' : World) : Prop :=
  ∃ τ pn cn po mo co va vt us, e = .returned (.agg #[.slice pn s.nd.length cn, .slice po mo co, .bool s.lg]) ∧ NS τ w.heap.size w' (.slice pn s.nd.length cn) s.nd va vt us ∧ Below w.heap.size w w'

theorem gs_noS : GS noS := gs_of (by decide)

theorem set3T {w w1 : World} {B r : Nat} {v0 v1 v2 : Value} (h : Below B w w1) (hr : B ≤ r) : Below B w (((w1.setCell ⟨r, 0, none⟩ v0).setCell ⟨r, 1, none⟩ v1).setCell ⟨r, 2, none⟩ v2) :=
  ((h.setCell (p := ⟨r, 0, none⟩) hr v0).setCell (p := ⟨r, 1, none⟩) hr v1).setCell (p := ⟨r, 2, none⟩) hr v2

theorem blk3T {w : World} {r k : Nat} {v0 v1 v2 : Value} (h : ¬ k = r) : (((w.setCell ⟨r, 0, none⟩ v0).setCell ⟨r, 1, none⟩ v1).setCell ⟨r, 2, none⟩ v2).heap[k]? = w.heap[k]? := by
  rw [Below.heap_setCell _ _ _ _ (by dsimp only; omega), Below.heap_setCell _ _ _ _ (by dsimp only; omega), Below.heap_setCell _ _ _ _ (by dsimp only; omega)]

set_option maxRecDepth 100000 in
set_option maxHeartbeats 6400000 in
theorem l7Build_any (l : List TK) (q : Option Addr) (c' : Nat) (w : World) (ht : TsB w q l) (hm : (l.length : Int) + tssz l ≤ 1048576) (hby : ∀ k, k < l.length → (tkK l k).kd = 1 → 0 ≤ (tkK l k).by_ ∧ (tkK l k).by_ ≤ 255) :
    Calls Try.prog 51 #[.slice q l.length c'] w fun e w' => BldP (foldX noS l) w e w' := by
  have N0 := below_new w (.cells #[.slice none 0 0, .slice none 0 0, .bool false] 80)
  have R0 := row3 w 80 (.slice none 0 0) (.slice none 0 0) (.bool false)
  have HT := Hid.mk' (ht.below N0)
  have HBY := Hid.mk' hby
  have HR := Hid.mk' R0
  have HN := Hid.mk' N0
  have hz1 : (w.alloc (.cells #[.slice none 0 0, .slice none 0 0, .bool false] 80)).heap.size = w.heap.size + 1 := by simp
  clear ht hby R0 N0
  generalize hW : w.alloc (.cells #[.slice none 0 0, .slice none 0 0, .bool false] 80) = W at *
  have hz := ZS.boxed (T := 80) (s := noS) (τ := fun _ => 1) (lo := W.heap.size) (w0 := W) (w1 := W) (vn := .slice none 0 0) (vo := .slice none 0 0) (va := fun _ => undef) (vt := fun _ => undef) (us := fun _ => []) (NS.nil _ _ _ _ _ _) (OpP.nil false _ _ _ _) (Below.refl _ _) (Nat.le_refl _)
  have HZ := Hid.mk' hz
  have G1 : Hid (W.heap.size = w.heap.size + 1) := Hid.mk' hz1
  have GG := Hid.mk' gs_noS
  clear hz
  have nn : (noS.nd.length : Int) = 0 := rfl
  rw [hz1] at HZ
  go_enter Try.func51, Try.ntmps51
  go_wp2
  have HZ : Hid (ZB false 80 W W.heap.size (w.heap.size + 1) noS (W.alloc (.cells #[.slice none 0 0, .slice none 0 0, .bool false] 80))) := Hid.mk' (by have h := HZ.out; rw [← hz1] at h ⊢; exact h)
  generalize hW3 : W.alloc (.cells #[.slice none 0 0, .slice none 0 0, .bool false] 80) = W3 at *
  clear hW3 hW hz1
  obtain ⟨g, hgt⟩ : ∃ g, w.heap.size + 1 = g := ⟨_, rfl⟩
  rw [hgt] at HZ
  try rw [hgt]
  have HG := Hid.mk' hgt
  clear hgt
  go_loopw [4] (fun i wr => ∃ k : Nat, k ≤ l.length ∧ i = .int .i64 k ∧ ZB false 80 W W.heap.size g (foldX noS (l.take k)) wr) (fun i _ => l.length - (intOf i).toNat)
  case atStart => exact ⟨0, Nat.zero_le _, rfl, by simpa [foldX] using HZ.out⟩
  case round =>
    obtain ⟨k, hk, rfl, hzk⟩ := hrel
    have hbl : Below W.heap.size W wr := by obtain ⟨_, _, _, _, _, _, z⟩ := id hzk; exact z.bl
    have HZ := Hid.mk' hzk
    have HBL := Hid.mk' hbl
    clear hzk
    by_cases hlt : k < l.length
    · have ci : (k : Int) < (l.length : Int) := by omega
      rcases HT.out with h0 | ⟨b1, o1, rfl, s0, hc1⟩
      · exact absurd hlt (by rw [h0]; exact Nat.not_lt_zero _)
      obtain ⟨p1, d1, h1, h6, h7⟩ := hc1 k hlt
      have st := tssz_take l k hlt
      have sl := tssz_le l (k + 1)
      have et : tsz (tkK l k) = (tkK l k).nm.size + (tkK l k).at_.length + asz (tkK l k).at_ := rfl
      have FT := Hid.mk' (foldX_take noS l k hlt)
      have BY := Hid.mk' (HBY.out k hlt)
      obtain ⟨t, ht⟩ : ∃ t, tkK l k = t := ⟨_, rfl⟩
      rw [ht] at h1 h6 h7 st et FT BY
      have tl : (t.at_.length : Int) + asz t.at_ ≤ 1048576 := by omega
      have KP := Hid.mk' (putE W W.heap.size g b1 (o1 + k * 5) (foldX noS (l.take k)) t p1 d1 wr HZ.out (gs_fold GG.out _) rfl h1 h6 tl (fun e => BY.out e))
      clear hc1 h6 h1 hbl ht st sl et h7 s0
      go_wp2_with fail
      refine KP.out.mono ?_
      rintro e w5 ⟨⟨ve, rfl⟩, hz5⟩
      have HZ5 := Hid.mk' hz5
      clear hz5 KP
      go_wp2
      go_roundw
      case rel =>
        refine ⟨k + 1, by omega, by go_num, by rw [FT.out]; exact HZ5.out⟩
      case measure => simp [intOf]; omega
    · have ci : ¬ (k : Int) < (l.length : Int) := by omega
      have ek : k = l.length := by omega
      have HZ := Hid.mk' (show ZB false 80 W W.heap.size g (foldX noS l) wr by have := HZ.out; rw [ek, List.take_length] at this; exact this)
      obtain ⟨s2, hs2⟩ : ∃ s2, foldX noS l = s2 := ⟨_, rfl⟩
      rw [hs2] at HZ
      have ES := Hid.mk' hs2
      obtain ⟨τ, vn, vo, va, vt, us, hz⟩ := HZ.out
      obtain ⟨pn, cn, en, _⟩ := own_len hz.ns.row
      obtain ⟨po, co, eo, _⟩ := hz.op.row
      subst en eo
      have HZ3 := Hid.mk' hz
      obtain ⟨x0, x1, x2, x3⟩ := cells3 hz.box
      have R1 := rowB HR.out hz.bl
      have HB5 := Hid.mk' (HN.out.trans (hz.bl.mono HN.out.size))
      obtain ⟨b0, b1, b2, b3⟩ := cells3 R1
      obtain ⟨f0, f1, f2⟩ := frz3' R1
      clear hz hs2 hbl ek R1
      go_wp2
      refine bodyPost_ret (v := .agg #[.slice pn s2.nd.length cn, .slice po s2.op.length co, .bool s2.lg]) (by simp [results, Try.results51, go_sem, *]) rfl ?_
      rw [ES.out]
      have g1 := G1.out
      exact ⟨_, pn, cn, po, _, co, va, vt, us, rfl, HZ3.out.ns.around (lo' := w.heap.size) (by omega) rfl (fun k h1 h2 => blk3T (by omega)), set3T HB5.out (Nat.le_refl _)⟩

end Go.Proofs.Ytlaeomnacgjcgaa

namespace Go.Proofs.Ytlaeomnacgjcgaa
open Go.RowKit

def q2 (x y : Value) (i : Nat) : Value := if i = 0 then x else y

theorem rowQ2 (w : World) (t : TypeId) (x y : Value) : (w.alloc (.cells #[x, y] t)).rowIs w.heap.size t 2 (q2 x y) :=
  World.rowIs_alloc w #[x, y] t _ (fun i hi => by
    have h : i = 0 ∨ i = 1 := by simp at hi; omega
    rcases h with rfl | rfl <;> simp [q2])

theorem cellsQ2 {w : World} {g : Nat} {ty : TypeId} {x y : Value} (h : w.rowIs g ty 2 (q2 x y)) : w.cell? ⟨g, 0, none⟩ = some x ∧ w.cell? ⟨g, 1, none⟩ = some y ∧ g < w.heap.size :=
  ⟨h.cell (by omega), h.cell (by omega), h.lt⟩

end Go.Proofs.Ytlaeomnacgjcgaa
