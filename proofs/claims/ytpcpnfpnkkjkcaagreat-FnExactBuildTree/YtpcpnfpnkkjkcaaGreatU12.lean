/- The program's places, state and newBuilder. -/
import Derived.Test.YtpcpnfpnkkjkcaaGreatU11
import Derived.Test.YtpcpnfpnkkjkcaaGreatU2
namespace Go.Proofs.YtpcpnfpnkkjkcaaGreat
open Go.RowKit
set_option linter.unusedVariables false
set_option linter.unusedSimpArgs false

theorem drop_rev {op : List Int} {k : Nat} (h : k < op.length) : (op.drop k).reverse = (op.drop (k + 1)).reverse ++ [wv op k] := by
  rw [List.drop_eq_getElem_cons h, List.reverse_cons]
  congr 2
  simp [wv, h]

theorem ics_app (l m : List Int) : ics (l ++ m) = ics l ++ ics m := by simp [ics]

theorem turned_below {v : Value} {w w1 : World} {B : Nat} (t : Turned v w w1) (hv : ∀ k, v.ownBlock = some k → B ≤ k) (hB : B ≤ w.heap.size) : Below B w w1 :=
  ⟨t.os, t.tape, t.output, t.size, fun k hk => t.block k (by omega) (fun e => by have := hv k e; omega)⟩

set_option maxRecDepth 100000 in
set_option maxHeartbeats 3200000 in
theorem places_any (τ : Nat → Nat) (lo : Nat) (nd : List ND) (op : List Int) (v : Value) (w : World) (h : OE τ lo w nd op op.length v) (hn : op.length ≤ 1000) :
    Calls Tryz.prog 76 #[v] w fun e w' => ∃ vp, e = .returned vp ∧ OI w' vp op ∧ (∀ j, vp.ownBlock = some j → w.heap.size ≤ j) ∧ Below w.heap.size w w' := by
  have H := Hid.mk' h
  obtain ⟨p0, rfl⟩ := h.ptr
  clear h
  go_enter Tryz.func76, Tryz.ntmps76
  go_wp2
  go_loopw [0, 3] (fun x vp wr => ∃ k : Nat, k ≤ op.length ∧ OE τ lo w nd op k x ∧ wr.ownsRow w.heap.size 2 1 vp (op.length - k) (ics (op.drop k).reverse) ∧ Below w.heap.size w wr) (fun x _ _ => ptB x)
  case atStart => exact ⟨op.length, Nat.le_refl _, H.out, by simpa [ics] using World.ownsRow_nil w w.heap.size 2 1, Below.refl _ _⟩
  case round =>
    obtain ⟨k, hk, ho, hown, hbl⟩ := hrel
    have HB := Hid.mk' hbl
    have HW := Hid.mk' hown
    obtain ⟨av, cv, ev, _⟩ := own_len hown
    subst ev
    cases k with
    | zero =>
      have e : _ = Value.pointer none := ho
      subst e
      have hoi : OI wr (.slice av (op.length - 0) cv) op.reverse := by
        have := HW.out
        rw [List.drop_zero] at this
        exact OI.of_own (by rw [List.length_reverse]; exact this)
      have KR := Hid.mk' (reverse_any _ _ wr hoi (by rw [List.length_reverse]; omega))
      clear ho hown hoi
      go_wp2_with fail
      refine KR.out.mono ?_
      rintro e w1 ⟨⟨u9, rfl⟩, h1, h2⟩
      rw [List.reverse_reverse] at h1
      have H1 := Hid.mk' h1
      have B1 := Hid.mk' (HB.out.trans ((turned_below h2 (own_lo HW.out) HB.out.size)))
      clear h1 h2 KR hbl
      go_wp2
      go_ret
      exact ⟨_, rfl, H1.out, own_lo HW.out, B1.out⟩
    | succ k =>
      obtain ⟨b, u, e, h1, h2, h3, h4, h5⟩ := ho
      subst e
      obtain ⟨c0, c1, c2, c3⟩ := cells3 (rowB h3 hbl)
      have blt := h3.lt
      have w2 := (cells3 h3).2.2.1
      obtain ⟨pu, eu⟩ := OE.ptr h5
      have H5 := Hid.mk' h5
      have HP := Hid.mk' h4
      subst eu
      have VB := below_new wr (.cells #[.int .i64 (wv op k)] 2)
      have OV := Hid.mk' (own_keep HW.out VB)
      have NC := Hid.mk' (new_cells wr 2 [.int .i64 (wv op k)] wr.heap.size rfl)
      have HB2 := Hid.mk' (HB.out.trans (VB.mono HB.out.size))
      have E := Hid.mk' (drop_rev (show k < op.length by omega))
      have W2 := Hid.mk' w2
      clear h1 h2 h3 h4 h5 hown hbl VB w2
      go_wp2_with (at_builtin; refine wpList_append_at _ rfl (.tmp 10) (.tmp 15) 23 rfl w.heap.size 2 (.int .i64 0) 1 8 Tryz.underlying23 Tryz.info2 rfl (by decide) _ _ _ rfl OV.out _ 1 _ (ics [wv op k]) rfl (by simp [ics]) (.inr ⟨_, rfl, NC.out⟩) (ics_one _) (by unfold maxLen; omega) (by omega) HB2.out.size ?_; intro v' w3 ho hgr hat; obtain ⟨av3, cv3, ev3, _⟩ := own_len ho; subst ev3; have BG := Hid.mk' (HB2.out.grown hgr HB2.out.size (own_lo OV.out)); have z2 := (BG.out.cell blt).trans W2.out; have z3 := Nat.lt_of_lt_of_le blt BG.out.size; have HO3 := Hid.mk' ho; clear ho hgr hat)
      go_roundw
      case rel => exact ⟨k, by omega, H5.out, by rw [E.out, ics_app, show op.length - k = op.length - (k + 1) + 1 by omega]; exact HO3.out, BG.out⟩
      case measure => exact Nat.lt_succ_of_le HP.out

/-- What state leaves. -/
def StP (vn : Value) (s : BS) (w : World) (e : Ending) (w' : World) : Prop := ∃ vp, e = .returned (.agg #[vn, vp, .bool s.lg]) ∧ OI w' vp s.op ∧ (∀ j, vp.ownBlock = some j → w.heap.size ≤ j) ∧ Below w.heap.size w w'

set_option maxRecDepth 100000 in
set_option maxHeartbeats 3200000 in
theorem state_any (w0 : World) (lo g : Nat) (s : BS) (w : World) (τ : Nat → Nat) (vn vo : Value) (va vt : Nat → Value) (us : Nat → List Value) (h : ZS true 117 w0 lo g s w τ vn vo va vt us) (hs : GS s) :
    Calls Tryz.prog 43 #[.pointer (some ⟨g, 0, none⟩)] w fun e w' => StP vn s w e w' := by
  have o7 := hs.o
  have N0 := below_new w (.cells #[.slice none 0 0, .slice none 0 0, .bool false] 33)
  have RB := Hid.mk' (row3 w 33 (.slice none 0 0) (.slice none 0 0) (.bool false))
  have KP := Hid.mk' (places_any τ lo s.nd s.op vo _ ((h.below N0).below (Below.refl _ _).drew).op (by omega))
  have HZ := Hid.mk' (h.below N0)
  have HN := Hid.mk' N0
  have glt := h.box.lt
  obtain ⟨po, eo⟩ := OE.ptr h.op
  subst eo
  obtain ⟨pn, cn, en, _⟩ := own_len h.ns.row
  subst en
  clear h hs N0
  obtain ⟨rc, hrc⟩ : ∃ rc, w.heap.size = rc := ⟨_, rfl⟩
  rw [hrc] at RB HN glt
  have RC := Hid.mk' hrc
  generalize hW : w.alloc (.cells #[.slice none 0 0, .slice none 0 0, .bool false] 33) = W at *
  obtain ⟨c0, c1, c2, c3⟩ := cells3 HZ.out.box
  obtain ⟨r0, r1, r2, r3_⟩ := cells3 RB.out
  go_enter Tryz.func43, Tryz.ntmps43
  go_wp2_with fail
  clear hW hrc
  refine wp_region_held_drew (S := fun w' => w'.cell? ⟨g, 0, none⟩ = some (.slice pn s.nd.length cn) ∧ w'.cell? ⟨g, 1, none⟩ = some (.pointer po) ∧ w'.cell? ⟨g, 2, none⟩ = some (.bool s.lg)) (by kernel_rfl) (by simp [*]) (fun hHeld => ?_)
  refine wpAnyH_take (i := 0) (oi := ⟨_, _, _, _, _, _⟩) (v := ?_) rfl (by kernel_rfl) (by kernel_rfl) (by kernel_rfl) (fun _ _ _ h => h) (Or.inl ⟨by rfl, ?_⟩) (by assumption) ?_
  rotate_left
  · (intro w hSw; (try dsimp only at hSw); go_simp; (try with_reducible rfl))
  try simp only [Act.put, List.setIfInBounds_toArray, List.set_cons_zero, List.set_cons_succ]
  refine wpAnyH_take (i := 1) (oi := ⟨_, _, _, _, _, _⟩) (v := ?_) rfl (by kernel_rfl) (by kernel_rfl) (by kernel_rfl) (fun _ _ _ h => h) (Or.inl ⟨by rfl, ?_⟩) (by assumption) ?_
  rotate_left
  · (intro w hSw; (try dsimp only at hSw); go_simp; (try with_reducible rfl))
  try simp only [Act.put, List.setIfInBounds_toArray, List.set_cons_zero, List.set_cons_succ]
  refine wpAnyH_take (i := 2) (oi := ⟨_, _, _, _, _, _⟩) (v := ?_) rfl (by kernel_rfl) (by kernel_rfl) (by kernel_rfl) (fun _ _ _ h => h) (Or.inl ⟨by rfl, ?_⟩) (by assumption) ?_
  rotate_left
  · (intro w hSw; (try dsimp only at hSw); go_simp; (try with_reducible rfl))
  try simp only [Act.put, List.setIfInBounds_toArray, List.set_cons_zero, List.set_cons_succ]
  refine wpAnyH_take (i := 3) (oi := ⟨_, _, _, _, _, _⟩) (v := ?_) rfl (by kernel_rfl) (by kernel_rfl) (by kernel_rfl) (fun _ _ _ h => h) (Or.inl ⟨by rfl, ?_⟩) (by assumption) ?_
  rotate_left
  · (intro w hSw; (try dsimp only at hSw); go_simp; (try with_reducible rfl))
  try simp only [Act.put, List.setIfInBounds_toArray, List.set_cons_zero, List.set_cons_succ]
  refine wpAnyH_take (i := 4) (oi := ⟨_, _, _, _, _, _⟩) (v := ?_) rfl (by kernel_rfl) (by kernel_rfl) (by kernel_rfl) (fun _ _ _ h => h) (Or.inl ⟨by rfl, ?_⟩) (by assumption) ?_
  rotate_left
  · (intro w hSw; (try dsimp only at hSw); go_simp; (try with_reducible rfl))
  try simp only [Act.put, List.setIfInBounds_toArray, List.set_cons_zero, List.set_cons_succ]
  refine wpAnyH_take (i := 5) (oi := ⟨_, _, _, _, _, _⟩) (v := ?_) rfl (by kernel_rfl) (by kernel_rfl) (by kernel_rfl) (fun _ _ _ h => h) (Or.inl ⟨by rfl, ?_⟩) (by assumption) ?_
  rotate_left
  · (intro w hSw; (try dsimp only at hSw); go_simp; (try with_reducible rfl))
  try simp only [Act.put, List.setIfInBounds_toArray, List.set_cons_zero, List.set_cons_succ]
  refine wpAnyH_take (i := 6) (oi := ⟨_, _, _, _, _, _⟩) (v := ?_) rfl (by kernel_rfl) (by kernel_rfl) (by kernel_rfl) (fun _ _ _ h => h) (Or.inl ⟨by rfl, ?_⟩) (by assumption) ?_
  rotate_left
  · (intro w hSw; (try dsimp only at hSw); go_simp; (try with_reducible rfl))
  try simp only [Act.put, List.setIfInBounds_toArray, List.set_cons_zero, List.set_cons_succ]
  refine wpAnyH_take (i := 7) (oi := ⟨_, _, _, _, _, _⟩) (v := ?_) rfl (by kernel_rfl) (by kernel_rfl) (by kernel_rfl) (fun _ _ _ h => h) (Or.inl ⟨by rfl, ?_⟩) (by assumption) ?_
  rotate_left
  · (intro w hSw; (try dsimp only at hSw); go_simp; (try with_reducible rfl))
  try simp only [Act.put, List.setIfInBounds_toArray, List.set_cons_zero, List.set_cons_succ]
  refine wpAnyH_take (i := 9) (oi := ⟨_, _, _, _, _, _⟩) (v := ?_) rfl (by kernel_rfl) (by kernel_rfl) (by kernel_rfl) (fun _ _ _ h => h) (Or.inl ⟨by rfl, ?_⟩) (by assumption) ?_
  rotate_left
  · (intro w hSw; (try dsimp only at hSw); go_simp; (try with_reducible rfl))
  try simp only [Act.put, List.setIfInBounds_toArray, List.set_cons_zero, List.set_cons_succ]
  refine wpAnyH_take (i := 10) (oi := ⟨_, _, _, _, _, _⟩) (v := ?_) rfl (by kernel_rfl) (by kernel_rfl) (by kernel_rfl) (fun _ _ _ h => h) (Or.inl ⟨by rfl, ?_⟩) (by assumption) ?_
  rotate_left
  · (intro w hSw; (try dsimp only at hSw); go_simp; (try with_reducible rfl))
  try simp only [Act.put, List.setIfInBounds_toArray, List.set_cons_zero, List.set_cons_succ]
  refine wpAnyH_take (i := 11) (oi := ⟨_, _, _, _, _, _⟩) (v := ?_) rfl (by kernel_rfl) (by kernel_rfl) (by kernel_rfl) (fun _ _ _ h => h) (Or.inl ⟨by rfl, ?_⟩) (by assumption) ?_
  rotate_left
  · (intro w hSw; (try dsimp only at hSw); go_simp; (try with_reducible rfl))
  try simp only [Act.put, List.setIfInBounds_toArray, List.set_cons_zero, List.set_cons_succ]
  refine wpAnyH_take (i := 12) (oi := ⟨_, _, _, _, _, _⟩) (v := ?_) rfl (by kernel_rfl) (by kernel_rfl) (by kernel_rfl) (fun _ _ _ h => h) (Or.inl ⟨by rfl, ?_⟩) (by assumption) ?_
  rotate_left
  · (intro w hSw; (try dsimp only at hSw); go_simp; (try with_reducible rfl))
  try simp only [Act.put, List.setIfInBounds_toArray, List.set_cons_zero, List.set_cons_succ]
  refine wpAnyH_ready (rs := [8]) (by kernel_rfl) (by simp) ?_
  refine AllReadyH.cons (o := ⟨_, _, _, _, _, _⟩) rfl (fun K hK => ?_) AllReadyH.nil
  go_simp
  go_at_call 76
  refine KP.out.mono ?_
  rintro e w1 ⟨vp, rfl, h1, h2, hb⟩
  replace hb := undrew hb
  obtain ⟨ap, cp, ep, _⟩ := h1.len
  subst ep
  have H1 := Hid.mk' h1
  have H2 : Hid (∀ j, (Value.slice ap s.op.length cp).ownBlock = some j → W.heap.size ≤ j) := Hid.mk' h2
  have HB := Hid.mk' hb
  have y0 := (hb.cell c3).trans c0
  have y1 := (hb.cell c3).trans c1
  have y2 := (hb.cell c3).trans c2
  have R1 := Hid.mk' (rowB RB.out hb)
  obtain ⟨s0, s1, s2, s3⟩ := cells3 R1.out
  obtain ⟨f0, f1, f2⟩ := frz3' R1.out
  clear hb h1 h2
  refine hK.out _ _ ⟨y0, y1, y2⟩ (fun hHeld => ?_)
  clear hK K
  try simp only [Act.put, List.setIfInBounds_toArray, List.set_cons_zero, List.set_cons_succ]
  refine wpAnyH_take (i := 13) (oi := ⟨_, _, _, _, _, _⟩) (v := ?_) rfl (by kernel_rfl) (by kernel_rfl) (by kernel_rfl) (fun _ _ _ h => h) (Or.inl ⟨by rfl, ?_⟩) (by assumption) ?_
  rotate_left
  · (intro w hSw; (try dsimp only at hSw); go_simp; (try with_reducible rfl))
  try simp only [Act.put, List.setIfInBounds_toArray, List.set_cons_zero, List.set_cons_succ]
  refine wpAnyH_ready (rs := [14]) (by kernel_rfl) (by simp) ?_
  refine AllReadyH.cons (o := ⟨_, _, _, _, _, _⟩) rfl (fun K hK => ?_) AllReadyH.nil
  go_simp
  have gne : g ≠ rc := by omega
  refine hK.out _ _ ⟨(by (try dsimp only); rw [World.cell?_setCell_other _ _ _ _ (by first | (simp; done) | (simp; omega)), World.cell?_setCell_other _ _ _ _ (by first | (simp; done) | (simp; omega)), World.cell?_setCell_other _ _ _ _ (by first | (simp; done) | (simp; omega))]; exact y0), (by (try dsimp only); rw [World.cell?_setCell_other _ _ _ _ (by first | (simp; done) | (simp; omega)), World.cell?_setCell_other _ _ _ _ (by first | (simp; done) | (simp; omega)), World.cell?_setCell_other _ _ _ _ (by first | (simp; done) | (simp; omega))]; exact y1), (by (try dsimp only); rw [World.cell?_setCell_other _ _ _ _ (by first | (simp; done) | (simp; omega)), World.cell?_setCell_other _ _ _ _ (by first | (simp; done) | (simp; omega)), World.cell?_setCell_other _ _ _ _ (by first | (simp; done) | (simp; omega))]; exact y2)⟩ (fun hHeld => ?_)
  clear hK K
  try simp only [Act.put, List.setIfInBounds_toArray, List.set_cons_zero, List.set_cons_succ]
  refine wpAnyH_done (by kernel_rfl) ?_ _
  go_wp2
  refine bodyPost_ret (v := .agg #[.slice pn s.nd.length cn, .slice ap s.op.length cp, .bool s.lg]) (by simp [results, Tryz.results43, go_sem, *]) rfl ?_
  have KK := (((Kp.refl (fun j => ¬ j = rc) w1).setCell (q := ⟨rc, 0, none⟩) (fun e => e rfl) (.slice pn s.nd.length cn)).setCell (q := ⟨rc, 1, none⟩) (fun e => e rfl) (.slice ap s.op.length cp)).setCell (q := ⟨rc, 2, none⟩) (fun e => e rfl) (.bool s.lg)
  have LW : rc < W.heap.size := RB.out.lt
  have HRC := RC.out
  refine ⟨_, rfl, H1.out.keep (fun j e hl => KK.block j hl (fun ej => by have := H2.out j e; omega)), fun j e => by have := H2.out j e; omega, ?_⟩
  have BB := HN.out.trans (HB.out.mono (show rc ≤ W.heap.size by omega))
  rw [HRC]
  exact ((BB.setCell (p := ⟨rc, 0, none⟩) (Nat.le_refl _) _).setCell (p := ⟨rc, 1, none⟩) (Nat.le_refl _) _).setCell (p := ⟨rc, 2, none⟩) (Nat.le_refl _) _

theorem NS.down {τ : Nat → Nat} {lo lo' : Nat} {w : World} {v : Value} {l : List ND} {va vt : Nat → Value} {us : Nat → List Value} (h : NS τ lo w v l va vt us) (hl : lo' ≤ lo) : NS τ lo' w v l va vt us :=
  ⟨own_of h.row hl (fun _ _ _ => rfl), fun j hj => (h.att j hj).down hl, fun j hj => own_of (h.txt j hj) hl (fun _ _ _ => rfl), h.rl, h.al, h.ul, h.tl⟩

theorem gs_take {s : BS} (h : GS s) (k : Nat) : GS ⟨s.nd, s.op.take k, s.lg⟩ := by
  refine ⟨h.n, by have := h.o; rw [List.length_take]; omega, fun j hj => ?_, h.tx, fun hl => ?_⟩
  · rw [List.length_take] at hj
    show 0 ≤ wv (s.op.take k) j ∧ wv (s.op.take k) j < _
    rw [wv_take (by omega)]; exact h.pl j (by omega)
  · obtain ⟨h1, h2⟩ := h.lg hl
    exact ⟨h1, by rw [h2]; simp⟩

theorem op_take {op : List Int} {k : Nat} (h : k < op.length) : op.take (k + 1) = op.take k ++ [wv op k] := by
  rw [List.take_add_one, List.getElem?_eq_getElem h]
  simp [wv, h]

/-- What newBuilder leaves. -/
def NbP (s : BS) (w : World) (e : Ending) (w' : World) : Prop := ∃ g, e = .returned (.pointer (some ⟨g, 0, none⟩)) ∧ ZB true 117 w w.heap.size g s w'

set_option maxRecDepth 100000 in
set_option maxHeartbeats 6400000 in
theorem newBuilder_any (s : BS) (a p : Option Addr) (c d : Nat) (w : World) (ha : SAt w a p s) (hs : GS s) (hl : (s.nd.length : Int) + nssz s.nd ≤ 1048576) :
    Calls Tryz.prog 41 #[.agg #[.slice a s.nd.length c, .slice p s.op.length d, .bool s.lg]] w fun e w' => NbP s w e w' := by
  have N0 := below_new w (.cells #[.slice a s.nd.length c, .slice p s.op.length d, .bool s.lg] 33)
  have RB := Hid.mk' (row3 w 33 (.slice a s.nd.length c) (.slice p s.op.length d) (.bool s.lg))
  have KC := Hid.mk' (copyNodes_own a c s.nd _ ((ha.1.below N0).below (Below.refl _ _).drew) hl)
  have HN := Hid.mk' N0
  have HP := Hid.mk' ha.2
  have HS := Hid.mk' hs
  have o7 := hs.o
  have n60 := hs.n
  have sz0 : Hid (w.heap.size ≤ (w.alloc (.cells #[.slice a s.nd.length c, .slice p s.op.length d, .bool s.lg] 33)).heap.size) := Hid.mk' N0.size
  clear ha hs N0
  obtain ⟨xb, hxb⟩ : ∃ xb, w.heap.size = xb := ⟨_, rfl⟩
  rw [hxb] at RB
  have XB := Hid.mk' hxb
  generalize hW : w.alloc (.cells #[.slice a s.nd.length c, .slice p s.op.length d, .bool s.lg] 33) = W at *
  obtain ⟨c0, c1, c2, c3⟩ := cells3 RB.out
  go_enter Tryz.func41, Tryz.ntmps41
  go_wp2_with fail
  clear hW hxb
  refine wp_region_held_drew (S := fun w' => w'.cell? ⟨xb, 0, none⟩ = some (.slice a s.nd.length c) ∧ w'.cell? ⟨xb, 2, none⟩ = some (.bool s.lg)) (by kernel_rfl) (by simp [*]) (fun hHeld => ?_)
  refine wpAnyH_take (i := 0) (oi := ⟨_, _, _, _, _, _⟩) (v := ?_) rfl (by kernel_rfl) (by kernel_rfl) (by kernel_rfl) (fun _ _ _ h => h) (Or.inl ⟨by rfl, ?_⟩) (by assumption) ?_
  rotate_left
  · (intro w hSw; (try dsimp only at hSw); go_simp; (try with_reducible rfl))
  try simp only [Act.put, List.setIfInBounds_toArray, List.set_cons_zero, List.set_cons_succ]
  refine wpAnyH_take (i := 1) (oi := ⟨_, _, _, _, _, _⟩) (v := ?_) rfl (by kernel_rfl) (by kernel_rfl) (by kernel_rfl) (fun _ _ _ h => h) (Or.inl ⟨by rfl, ?_⟩) (by assumption) ?_
  rotate_left
  · (intro w hSw; (try dsimp only at hSw); go_simp; (try with_reducible rfl))
  try simp only [Act.put, List.setIfInBounds_toArray, List.set_cons_zero, List.set_cons_succ]
  refine wpAnyH_take (i := 3) (oi := ⟨_, _, _, _, _, _⟩) (v := ?_) rfl (by kernel_rfl) (by kernel_rfl) (by kernel_rfl) (fun _ _ _ h => h) (Or.inl ⟨by rfl, ?_⟩) (by assumption) ?_
  rotate_left
  · (intro w hSw; (try dsimp only at hSw); go_simp; (try with_reducible rfl))
  try simp only [Act.put, List.setIfInBounds_toArray, List.set_cons_zero, List.set_cons_succ]
  refine wpAnyH_take (i := 4) (oi := ⟨_, _, _, _, _, _⟩) (v := ?_) rfl (by kernel_rfl) (by kernel_rfl) (by kernel_rfl) (fun _ _ _ h => h) (Or.inl ⟨by rfl, ?_⟩) (by assumption) ?_
  rotate_left
  · (intro w hSw; (try dsimp only at hSw); go_simp; (try with_reducible rfl))
  try simp only [Act.put, List.setIfInBounds_toArray, List.set_cons_zero, List.set_cons_succ]
  refine wpAnyH_ready (rs := [2]) (by kernel_rfl) (by simp) ?_
  refine AllReadyH.cons (o := ⟨_, _, _, _, _, _⟩) rfl (fun K hK => ?_) AllReadyH.nil
  go_simp
  go_at_call 71
  refine KC.out.mono ?_
  rintro e w1 ⟨vn, τ, va, vt, us, rfl, hns, hb⟩
  replace hb := undrew hb
  obtain ⟨pn, cn, en, _⟩ := own_len hns.row
  subst en
  have HNS : Hid (NS τ W.heap.size w1 (.slice pn s.nd.length cn) s.nd va vt us) := Hid.mk' hns
  have HB := Hid.mk' hb
  have y0 := (hb.cell c3).trans c0
  have y1 := (hb.cell c3).trans c1
  have y2 := (hb.cell c3).trans c2
  have y3 := Nat.lt_of_lt_of_le c3 hb.size
  clear hb hns
  refine hK.out _ _ ⟨y0, y2⟩ (fun hHeld => ?_)
  clear hK K
  try simp only [Act.put, List.setIfInBounds_toArray, List.set_cons_zero, List.set_cons_succ]
  refine wpAnyH_take (i := 5) (oi := ⟨_, _, _, _, _, _⟩) (v := ?_) rfl (by kernel_rfl) (by kernel_rfl) (by kernel_rfl) (fun _ _ _ h => h) (Or.inl ⟨by rfl, ?_⟩) (by assumption) ?_
  rotate_left
  · (intro w hSw; (try dsimp only at hSw); go_simp; (try with_reducible rfl))
  try simp only [Act.put, List.setIfInBounds_toArray, List.set_cons_zero, List.set_cons_succ]
  refine wpAnyH_ready (rs := [6]) (by kernel_rfl) (by simp) ?_
  refine AllReadyH.cons (o := ⟨_, _, _, _, _, _⟩) rfl (fun K hK => ?_) AllReadyH.nil
  go_simp
  have NN := below_new w1 (.cells #[.slice pn s.nd.length cn, .pointer none, .bool s.lg] 117)
  have RG := Hid.mk' (row3 w1 117 (.slice pn s.nd.length cn) (.pointer none) (.bool s.lg))
  have HNN := Hid.mk' NN
  have q0 := (NN.cell y3).trans y0
  have q1 := (NN.cell y3).trans y1
  have q2 := (NN.cell y3).trans y2
  have q3 := Nat.lt_of_lt_of_le y3 NN.size
  clear NN
  refine hK.out _ _ ⟨q0, q2⟩ (fun hHeld => ?_)
  clear hK K
  try simp only [Act.put, List.setIfInBounds_toArray, List.set_cons_zero, List.set_cons_succ]
  refine wpAnyH_take (i := 7) (oi := ⟨_, _, _, _, _, _⟩) (v := ?_) rfl (by kernel_rfl) (by kernel_rfl) (by kernel_rfl) (fun _ _ _ h => h) (Or.inl ⟨by rfl, ?_⟩) (by assumption) ?_
  rotate_left
  · (intro w hSw; (try dsimp only at hSw); go_simp; (try with_reducible rfl))
  try simp only [Act.put, List.setIfInBounds_toArray, List.set_cons_zero, List.set_cons_succ]
  refine wpAnyH_done (by kernel_rfl) ?_ _
  have ZI : Hid (ZB true 117 w w.heap.size w1.heap.size ⟨s.nd, s.op.take 0, s.lg⟩ (w1.alloc (.cells #[.slice pn s.nd.length cn, .pointer none, .bool s.lg] 117))) := Hid.mk' (by
    have n1 := (HNS.out.below HNN.out).down sz0.out
    have n2 : NS (fun k => if k < w1.heap.size then τ k else 2) w.heap.size _ (.slice pn s.nd.length cn) s.nd va vt us := (((HNS.out.down sz0.out).relabel (τ' := fun k => if k < w1.heap.size then τ k else 2) (fun k _ hk => if_pos hk)).below HNN.out)
    have bw : Below w.heap.size w w1 := HN.out.trans (HB.out.mono HN.out.size)
    refine ⟨fun k => if k < w1.heap.size then τ k else 2, .slice pn s.nd.length cn, .pointer none, va, vt, us, RG.out, n2, (by rw [show s.op.take 0 = [] from rfl]; exact OpP.nil true _ _ _ _), if_neg (by omega), bw.trans (HNN.out.mono bw.size), Nat.le_trans bw.size HNN.out.size, bw.size⟩)
  obtain ⟨g, hg⟩ : ∃ g, w1.heap.size = g := ⟨_, rfl⟩
  rw [hg] at ZI ⊢
  have q1' := q1
  clear q0 q2 y0 y1 y2 y3 c0 c1 c2 c3 HNN RG KC hg HNS
  generalize hV : w1.alloc (.cells #[.slice pn s.nd.length cn, .pointer none, .bool s.lg] 117) = V at *
  clear hV
  go_wp2
  go_loopw [16] (fun i wr => ∃ k : Nat, k ≤ s.op.length ∧ i = .int .i64 k ∧ ZB true 117 w w.heap.size g ⟨s.nd, s.op.take k, s.lg⟩ wr) (fun i _ => s.op.length - (intOf i).toNat)
  case atStart => exact ⟨0, Nat.zero_le _, rfl, ZI.out⟩
  case round =>
    obtain ⟨k, hk, rfl, hzb⟩ := hrel
    have HZ := Hid.mk' hzb
    by_cases hlt : k < s.op.length
    · have ci : (k : Int) < (s.op.length : Int) := by omega
      have hbw : Below w.heap.size w wr := by obtain ⟨_, _, _, _, _, _, z⟩ := hzb; exact z.bl
      rcases HP.out.below hbw with h0 | ⟨b1, o1, rfl, s1, hc1⟩
      · exact absurd hlt (by rw [h0]; exact Nat.not_lt_zero _)
      have x0 := hc1 k hlt
      obtain ⟨hp1, hp2⟩ := HS.out.pl k hlt
      obtain ⟨m, hm⟩ : ∃ m : Nat, wv s.op k = (m : Int) := ⟨(wv s.op k).toNat, by omega⟩
      have E := Hid.mk' (op_take hlt)
      rw [hm] at x0 hp2 E
      have KO := Hid.mk' (openI_any w w.heap.size g ⟨s.nd, s.op.take k, s.lg⟩ m wr HZ.out (by dsimp only; omega) (gs_take HS.out k))
      clear hm hc1 hbw hzb hp1
      go_wp2_with fail
      refine KO.out.mono ?_
      rintro e w3 ⟨⟨v9, rfl⟩, hz3⟩
      have HZ3 : Hid (ZB true 117 w w.heap.size g ⟨s.nd, s.op.take (k + 1), s.lg⟩ w3) := Hid.mk' (by rw [E.out]; exact hz3)
      clear hz3 KO
      go_wp2
      go_roundw
      case rel => exact ⟨k + 1, by omega, by go_num, HZ3.out⟩
      case measure => simp [intOf]; omega
    · have ci : ¬ (k : Int) < (s.op.length : Int) := by omega
      have e : k = s.op.length := by omega
      subst e
      have HZ3 : Hid (ZB true 117 w w.heap.size g s wr) := Hid.mk' (by have := HZ.out; rw [List.take_length] at this; exact this)
      clear hzb
      go_wp2
      go_ret
      exact ⟨g, rfl, HZ3.out⟩

end Go.Proofs.YtpcpnfpnkkjkcaaGreat

/- The model's copy of a state. -/
namespace Go.Proofs.YtpcpnfpnkkjkcaaGreat
open Go.RowKit
set_option linter.unusedVariables false
set_option linter.unusedSimpArgs false

/-- What a copy of a state leaves. -/
def CsP (s : BS) (w : World) (e : Ending) (w' : World) : Prop := ∃ τ vn vo va vt us, e = .returned (.agg #[vn, vo, .bool s.lg]) ∧ NS τ w.heap.size w' vn s.nd va vt us ∧ OpP false τ w.heap.size w' s.nd s.op vo ∧ Below w.heap.size w w'

theorem IAt.src {w : World} {a : Option Addr} {l : List Int} (h : IAt w a l) : l.length = 0 ∨ ∃ ad, a = some ad ∧ ∀ j u, (ics l)[j]? = some u → w.cell? (ad.add j) = some u := by
  rcases h with h | ⟨b, o, rfl, hb, hc⟩
  · exact .inl (by rw [h]; rfl)
  · refine .inr ⟨_, rfl, fun j u hj => ?_⟩
    have hl : j < l.length := by
      rcases Nat.lt_or_ge j l.length with h | h
      · exact h
      · rw [List.getElem?_eq_none (by simp [ics]; omega)] at hj; cases hj
    rw [ics_get l j hl] at hj
    rw [Addr.add_mid, hc j hl]; exact hj

/-- Nodes that lie from lo on and below hi keep their labels; all else has the label of what is open. -/
theorem NS.around {τ : Nat → Nat} {lo lo' hi : Nat} {w w' : World} {v : Value} {l : List ND} {va vt : Nat → Value} {us : Nat → List Value} (h : NS τ lo w v l va vt us) (hl : lo' ≤ lo) (hh : w.heap.size = hi) (hb : ∀ k, lo ≤ k → k < w.heap.size → w'.heap[k]? = w.heap[k]?) : NS (fun k => if lo ≤ k ∧ k < hi then τ k else 1) lo' w' v l va vt us := by
  have n1 : NS (fun k => if lo ≤ k ∧ k < hi then τ k else 1) lo w v l va vt us := h.relabel (fun k h1 h2 => if_pos ⟨h1, by omega⟩)
  refine NS.down ?_ hl
  exact ⟨own_of n1.row (Nat.le_refl _) (fun k e h2 => hb k h2 (n1.row.lt k e).2), fun j hj => (n1.att j hj).keep (Nat.le_refl _) (fun k h1 h2 => hb k h1 h2), fun j hj => own_of (n1.txt j hj) (Nat.le_refl _) (fun k e h2 => hb k h2 ((n1.txt j hj).lt k e).2), n1.rl, n1.al, n1.ul, n1.tl⟩

set_option maxRecDepth 100000 in
set_option maxHeartbeats 6400000 in
theorem copyState_any (s : BS) (a p : Option Addr) (c d : Nat) (w : World) (ha : SAt w a p s) (hs : GS s) (hl : (s.nd.length : Int) + nssz s.nd ≤ 1048576) :
    Calls Tryz.prog 35 #[.agg #[.slice a s.nd.length c, .slice p s.op.length d, .bool s.lg]] w fun e w' => CsP s w e w' := by
  have N0 := (below_new w (.cells #[.slice a s.nd.length c, .slice p s.op.length d, .bool s.lg] 33)).alloc (by simp) (.cells #[.slice none 0 0, .slice none 0 0, .bool false] 33)
  have RB := Hid.mk' ((row3 w 33 (.slice a s.nd.length c) (.slice p s.op.length d) (.bool s.lg)).alloc (.cells #[.slice none 0 0, .slice none 0 0, .bool false] 33))
  have RC0 := row3 (w.alloc (.cells #[.slice a s.nd.length c, .slice p s.op.length d, .bool s.lg] 33)) 33 (.slice none 0 0) (.slice none 0 0) (.bool false)
  rw [show (w.alloc (.cells #[.slice a s.nd.length c, .slice p s.op.length d, .bool s.lg] 33)).heap.size = w.heap.size + 1 by simp] at RC0
  have RC := Hid.mk' RC0
  have HA := Hid.mk' (ha.1.below N0)
  have HP := Hid.mk' (ha.2.below N0)
  have HN := Hid.mk' N0
  have o7 := hs.o
  clear ha hs N0 RC0
  obtain ⟨xb, hxb⟩ : ∃ xb, w.heap.size = xb := ⟨_, rfl⟩
  rw [hxb] at RB RC
  have XB := Hid.mk' hxb
  generalize hW : (w.alloc (.cells #[.slice a s.nd.length c, .slice p s.op.length d, .bool s.lg] 33)).alloc (.cells #[.slice none 0 0, .slice none 0 0, .bool false] 33) = W at *
  obtain ⟨c0, c1, c2, c3⟩ := cells3 RB.out
  obtain ⟨r0, r1, r2, r3_⟩ := cells3 RC.out
  go_enter Tryz.func35, Tryz.ntmps35
  go_wp2_with fail
  clear hW hxb
  refine wp_region_held_drew (S := fun w' => w'.cell? ⟨xb, 0, none⟩ = some (.slice a s.nd.length c) ∧ w'.cell? ⟨xb, 1, none⟩ = some (.slice p s.op.length d) ∧ w'.cell? ⟨xb, 2, none⟩ = some (.bool s.lg)) (by kernel_rfl) (by simp [*]) (fun hHeld => ?_)
  refine wpAnyH_take (i := 0) (oi := ⟨_, _, _, _, _, _⟩) (v := ?_) rfl (by kernel_rfl) (by kernel_rfl) (by kernel_rfl) (fun _ _ _ h => h) (Or.inl ⟨by rfl, ?_⟩) (by assumption) ?_
  rotate_left
  · (intro w hSw; (try dsimp only at hSw); go_simp; (try with_reducible rfl))
  try simp only [Act.put, List.setIfInBounds_toArray, List.set_cons_zero, List.set_cons_succ]
  refine wpAnyH_take (i := 1) (oi := ⟨_, _, _, _, _, _⟩) (v := ?_) rfl (by kernel_rfl) (by kernel_rfl) (by kernel_rfl) (fun _ _ _ h => h) (Or.inl ⟨by rfl, ?_⟩) (by assumption) ?_
  rotate_left
  · (intro w hSw; (try dsimp only at hSw); go_simp; (try with_reducible rfl))
  try simp only [Act.put, List.setIfInBounds_toArray, List.set_cons_zero, List.set_cons_succ]
  refine wpAnyH_take (i := 4) (oi := ⟨_, _, _, _, _, _⟩) (v := ?_) rfl (by kernel_rfl) (by kernel_rfl) (by kernel_rfl) (fun _ _ _ h => h) (Or.inl ⟨by rfl, ?_⟩) (by assumption) ?_
  rotate_left
  · (intro w hSw; (try dsimp only at hSw); go_simp; (try with_reducible rfl))
  try simp only [Act.put, List.setIfInBounds_toArray, List.set_cons_zero, List.set_cons_succ]
  refine wpAnyH_take (i := 5) (oi := ⟨_, _, _, _, _, _⟩) (v := ?_) rfl (by kernel_rfl) (by kernel_rfl) (by kernel_rfl) (fun _ _ _ h => h) (Or.inl ⟨by rfl, ?_⟩) (by assumption) ?_
  rotate_left
  · (intro w hSw; (try dsimp only at hSw); go_simp; (try with_reducible rfl))
  try simp only [Act.put, List.setIfInBounds_toArray, List.set_cons_zero, List.set_cons_succ]
  refine wpAnyH_take (i := 7) (oi := ⟨_, _, _, _, _, _⟩) (v := ?_) rfl (by kernel_rfl) (by kernel_rfl) (by kernel_rfl) (fun _ _ _ h => h) (Or.inl ⟨by rfl, ?_⟩) (by assumption) ?_
  rotate_left
  · (intro w hSw; (try dsimp only at hSw); go_simp; (try with_reducible rfl))
  try simp only [Act.put, List.setIfInBounds_toArray, List.set_cons_zero, List.set_cons_succ]
  refine wpAnyH_take (i := 8) (oi := ⟨_, _, _, _, _, _⟩) (v := ?_) rfl (by kernel_rfl) (by kernel_rfl) (by kernel_rfl) (fun _ _ _ h => h) (Or.inl ⟨by rfl, ?_⟩) (by assumption) ?_
  rotate_left
  · (intro w hSw; (try dsimp only at hSw); go_simp; (try with_reducible rfl))
  try simp only [Act.put, List.setIfInBounds_toArray, List.set_cons_zero, List.set_cons_succ]
  refine wpAnyH_ready (rs := [2, 3]) (by kernel_rfl) (by simp) ?_
  refine AllReadyH.cons (o := ⟨_, _, _, _, _, _⟩) rfl (fun K hK => ?_) (AllReadyH.cons (o := ⟨_, _, _, _, _, _⟩) rfl (fun K hK => ?_) AllReadyH.nil)
  · go_simp
    go_at_call 63
    refine (l6Copy_own a c s.nd W.drew (HA.out.below (Below.refl _ _).drew) hl).mono ?_
    rintro e w1 ⟨vn, τ, va, vt, us, rfl, hns, hb⟩
    replace hb := undrew hb
    obtain ⟨pn, cn, en, _⟩ := own_len hns.row
    subst en
    have HNS : Hid (NS τ W.heap.size w1 (.slice pn s.nd.length cn) s.nd va vt us) := Hid.mk' hns
    have HB := Hid.mk' hb
    have y0 := (hb.cell c3).trans c0
    have y1 := (hb.cell c3).trans c1
    have y2 := (hb.cell c3).trans c2
    have y3 := Nat.lt_of_lt_of_le c3 hb.size
    have RC1 := Hid.mk' (rowB RC.out hb)
    clear hb hns
    refine hK.out _ _ ⟨y0, y1, y2⟩ (fun hHeld => ?_)
    clear hK K
    try simp only [Act.put, List.setIfInBounds_toArray, List.set_cons_zero, List.set_cons_succ]
    refine wpAnyH_ready (rs := [3]) (by kernel_rfl) (by simp) ?_
    refine AllReadyH.cons (o := ⟨_, _, _, _, _, _⟩) rfl (fun K hK => ?_) AllReadyH.nil
    go_simp
    have NN := below_new w1 (.cells #[] 2)
    have AW_ : ∃ A, A = w1.alloc (.cells #[] 2) := ⟨_, rfl⟩
    have k0 := (NN.cell y3).trans y0
    have k1 := (NN.cell y3).trans y1
    have k2 := (NN.cell y3).trans y2
    have k9 := Nat.lt_of_lt_of_le y3 NN.size
    have RCA := Hid.mk' (rowB RC1.out NN)
    have LIT := Hid.mk' (World.ownsRow_lit (base := w1.heap.size) (e := 2) (size := 1) w1 #[] 0 (Nat.le_refl _) (by decide) rfl)
    have SRC := Hid.mk' ((HP.out.below (HB.out.trans (NN.mono HB.out.size))).src)
    have LSZ : Hid (w1.heap.size ≤ (w1.alloc (.cells #[] 2)).heap.size) := Hid.mk' NN.size
    have b0 := HN.out.trans (HB.out.mono HN.out.size)
    have BW : Hid (Below xb w _) := Hid.mk' (XB.out ▸ (b0.trans (NN.mono b0.size)))
    have LSW : Hid (xb ≤ (w1.alloc (.cells #[] 2)).heap.size) := Hid.mk' (by omega)
    have W1S := HB.out.size
    have XW : xb + 1 < W.heap.size := RC.out.lt
    have LOL : Hid (w.heap.size ≤ W.heap.size) := Hid.mk' HN.out.size
    have LOX : Hid (xb + 1 < W.heap.size) := Hid.mk' XW
    have NNB := Hid.mk' NN
    clear NN AW_ b0
    refine hK.out _ _ ⟨k0, k1, k2⟩ (fun hHeld => ?_)
    clear hK K
    try simp only [Act.put, List.setIfInBounds_toArray, List.set_cons_zero, List.set_cons_succ]
    refine wpAnyH_ready (rs := [6]) (by kernel_rfl) (by simp) ?_
    refine AllReadyH.cons (o := ⟨_, _, _, _, _, _⟩) rfl (fun K hK => ?_) AllReadyH.nil
    refine step_append_at rfl (.tmp 6) (.tmp 8) 23 rfl w1.heap.size 2 (.int .i64 0) 1 8 Tryz.underlying23 Tryz.info2 rfl (by decide) _ 0 [] rfl LIT.out _ s.op.length _ (ics s.op) rfl (ics_len _) SRC.out (ics_one _) (by unfold maxLen; omega) (by omega) LSZ.out ?_
    intro v' w5 ho hgr hat
    rw [Nat.zero_add, List.nil_append] at ho
    obtain ⟨av5, cv5, ev5, _⟩ := own_len ho
    subst ev5
    have gr : ∀ k, ¬ k = w1.heap.size → k < (w1.alloc (.cells #[] 2)).heap.size → w5.heap[k]? = (w1.alloc (.cells #[] 2)).heap[k]? := fun k hk hl' => hgr.block k hl' (fun e => by simp [Act.eval, Value.ownBlock] at e; omega)
    have HO5 := Hid.mk' ho
    have HG := Hid.mk' gr
    have LB : Hid (∀ k, (Value.slice av5 s.op.length cv5).ownBlock = some k → k = w1.heap.size ∨ (w1.alloc (.cells #[] 2)).heap.size ≤ k) := Hid.mk' (fun k e => by rcases hat with h1 | h1 <;> rw [h1] at e <;> simp [Act.eval, Value.ownBlock] at e <;> first | omega | (simp; omega))
    have SG : Hid ((w1.alloc (.cells #[] 2)).heap.size ≤ w5.heap.size) := Hid.mk' hgr.size
    have BG := Hid.mk' (BW.out.grown hgr LSW.out (fun k e => by simp [Act.eval, Value.ownBlock] at e; omega))
    have m0 := (World.cell?_of_block (a := ⟨xb, 0, none⟩) (gr xb (by omega) k9)).trans k0
    have m1 := (World.cell?_of_block (a := ⟨xb, 1, none⟩) (gr xb (by omega) k9)).trans k1
    have m2 := (World.cell?_of_block (a := ⟨xb, 2, none⟩) (gr xb (by omega) k9)).trans k2
    have RC5 := Hid.mk' (RCA.out.of_block (gr (xb + 1) (by omega) RCA.out.lt))
    obtain ⟨u0, u1, u2, u3⟩ := cells3 RC5.out
    obtain ⟨f0, f1, f2⟩ := frz3' RC5.out
    clear ho hgr hat gr
    refine hK.out _ _ ⟨m0, m1, m2⟩ (fun hHeld => ?_)
    clear hK K
    try simp only [Act.put, List.setIfInBounds_toArray, List.set_cons_zero, List.set_cons_succ]
    have NSK : Hid (∀ k, W.heap.size ≤ k → k < w1.heap.size → w5.heap[k]? = w1.heap[k]?) := Hid.mk' (fun k h1 h2 => (HG.out k (by omega) (by have := NNB.out.size; omega)).trans (NNB.out.block k h2))
    have LBS : Hid (w.heap.size ≤ w1.heap.size) := Hid.mk' (by have := LOL.out; omega)
    have LOY : Hid (∀ k, (Value.slice av5 s.op.length cv5).ownBlock = some k → w1.heap.size ≤ k → xb + 1 < k) := Hid.mk' (fun k _ hk => by omega)
    have LBN : Hid (∀ k, k = w1.heap.size ∨ (w1.alloc (.cells #[] 2)).heap.size ≤ k → ¬ (W.heap.size ≤ k ∧ k < w1.heap.size)) := Hid.mk' (fun k h => by simp at h; omega)
    refine wpAnyH_take (i := 9) (oi := ⟨_, _, _, _, _, _⟩) (v := ?_) rfl (by kernel_rfl) (by kernel_rfl) (by kernel_rfl) (fun _ _ _ h => h) (Or.inl ⟨by rfl, ?_⟩) (by assumption) ?_
    rotate_left
    · (intro w hSw; (try dsimp only at hSw); go_simp; (try with_reducible rfl))
    try simp only [Act.put, List.setIfInBounds_toArray, List.set_cons_zero, List.set_cons_succ]
    refine wpAnyH_ready (rs := [10]) (by kernel_rfl) (by simp) ?_
    refine AllReadyH.cons (o := ⟨_, _, _, _, _, _⟩) rfl (fun K hK => ?_) AllReadyH.nil
    go_simp
    have xx : xb ≠ xb + 1 := by omega
    refine hK.out _ _ ⟨(by (try dsimp only); rw [World.cell?_setCell_other _ _ _ _ (by first | (simp; done) | (simp; omega)), World.cell?_setCell_other _ _ _ _ (by first | (simp; done) | (simp; omega)), World.cell?_setCell_other _ _ _ _ (by first | (simp; done) | (simp; omega))]; exact m0), (by (try dsimp only); rw [World.cell?_setCell_other _ _ _ _ (by first | (simp; done) | (simp; omega)), World.cell?_setCell_other _ _ _ _ (by first | (simp; done) | (simp; omega)), World.cell?_setCell_other _ _ _ _ (by first | (simp; done) | (simp; omega))]; exact m1), (by (try dsimp only); rw [World.cell?_setCell_other _ _ _ _ (by first | (simp; done) | (simp; omega)), World.cell?_setCell_other _ _ _ _ (by first | (simp; done) | (simp; omega)), World.cell?_setCell_other _ _ _ _ (by first | (simp; done) | (simp; omega))]; exact m2)⟩ (fun hHeld => ?_)
    clear hK K
    try simp only [Act.put, List.setIfInBounds_toArray, List.set_cons_zero, List.set_cons_succ]
    refine wpAnyH_done (by kernel_rfl) ?_ _
    go_wp2
    refine bodyPost_ret (v := .agg #[.slice pn s.nd.length cn, .slice av5 s.op.length cv5, .bool s.lg]) (by simp [results, Tryz.results35, go_sem, *]) rfl ?_
    have hx := XB.out
    have KK : ∀ k, ¬ k = xb + 1 → (((w5.setCell ⟨xb + 1, 0, none⟩ (.slice pn s.nd.length cn)).setCell ⟨xb + 1, 1, none⟩ (.slice av5 s.op.length cv5)).setCell ⟨xb + 1, 2, none⟩ (.bool s.lg)).heap[k]? = w5.heap[k]? := fun k hk => by
      rw [Below.heap_setCell _ _ _ _ (by dsimp only; omega), Below.heap_setCell _ _ _ _ (by dsimp only; omega), Below.heap_setCell _ _ _ _ (by dsimp only; omega)]
    refine ⟨_, .slice pn s.nd.length cn, .slice av5 s.op.length cv5, va, vt, us, rfl, (HNS.out.around (w' := ((w5.setCell ⟨xb + 1, 0, none⟩ (.slice pn s.nd.length cn)).setCell ⟨xb + 1, 1, none⟩ (.slice av5 s.op.length cv5)).setCell ⟨xb + 1, 2, none⟩ (.bool s.lg)) LOL.out rfl (fun k h1 h2 => by rw [KK k (by have := LOX.out; omega)]; exact NSK.out k h1 h2)), ⟨own_of HO5.out LBS.out (fun k e hk => KK k (by have := LOY.out k e hk; omega)), fun k e => ?_⟩, ?_⟩
    · exact if_neg (LBN.out k (LB.out k e))
    · rw [hx]
      exact ((BG.out.setCell (p := ⟨xb + 1, 0, none⟩) (by dsimp only; omega) _).setCell (p := ⟨xb + 1, 1, none⟩) (by dsimp only; omega) _).setCell (p := ⟨xb + 1, 2, none⟩) (by dsimp only; omega) _
  · go_simp
    have NN := below_new W (.cells #[] 2)
    have z0 := (NN.cell c3).trans c0
    have z1 := (NN.cell c3).trans c1
    have z2 := (NN.cell c3).trans c2
    have z3 := Nat.lt_of_lt_of_le c3 NN.size
    have RCL := Hid.mk' (rowB RC.out NN)
    have LIT0 := Hid.mk' (World.ownsRow_lit (base := W.heap.size) (e := 2) (size := 1) W #[] 0 (Nat.le_refl _) (by decide) rfl)
    have HNN := Hid.mk' NN
    clear NN
    refine hK.out _ _ ⟨z0, z1, z2⟩ (fun hHeld => ?_)
    clear hK K
    try simp only [Act.put, List.setIfInBounds_toArray, List.set_cons_zero, List.set_cons_succ]
    refine wpAnyH_ready (rs := [2]) (by kernel_rfl) (by simp) ?_
    refine AllReadyH.cons (o := ⟨_, _, _, _, _, _⟩) rfl (fun K hK => ?_) AllReadyH.nil
    go_simp
    go_at_call 63
    refine (l6Copy_own a c s.nd _ ((HA.out.below HNN.out).below (Below.refl _ _).drew) hl).mono ?_
    rintro e w1 ⟨vn, τ, va, vt, us, rfl, hns, hb⟩
    replace hb := undrew hb
    obtain ⟨pn, cn, en, _⟩ := own_len hns.row
    subst en
    have HNS : Hid (NS τ (W.alloc (.cells #[] 2)).heap.size w1 (.slice pn s.nd.length cn) s.nd va vt us) := Hid.mk' hns
    have k0 := (hb.cell z3).trans z0
    have k1 := (hb.cell z3).trans z1
    have k2 := (hb.cell z3).trans z2
    have k9 := Nat.lt_of_lt_of_le z3 hb.size
    have RCA := Hid.mk' (rowB RCL.out hb)
    have LIT := Hid.mk' (own_keep LIT0.out hb)
    have SRC := Hid.mk' (((HP.out.below HNN.out).below hb).src)
    have ZL : (W.alloc (.cells #[] 2)).heap.size = W.heap.size + 1 := by simp
    have W1S := hb.size
    have LSZ : Hid (W.heap.size ≤ w1.heap.size) := Hid.mk' (by omega)
    have b0 := HN.out.trans (HNN.out.mono HN.out.size)
    have BW : Hid (Below xb w w1) := Hid.mk' (XB.out ▸ (b0.trans (hb.mono b0.size)))
    have XW : xb + 1 < W.heap.size := RC.out.lt
    have LSW : Hid (xb ≤ w1.heap.size) := Hid.mk' (by omega)
    have LOL : Hid (w.heap.size ≤ (W.alloc (.cells #[] 2)).heap.size) := Hid.mk' b0.size
    have LOX : Hid (xb + 1 < (W.alloc (.cells #[] 2)).heap.size) := Hid.mk' (by omega)
    have WLO : Hid (w.heap.size ≤ W.heap.size) := Hid.mk' HN.out.size
    clear hb hns b0
    refine hK.out _ _ ⟨k0, k1, k2⟩ (fun hHeld => ?_)
    clear hK K
    try simp only [Act.put, List.setIfInBounds_toArray, List.set_cons_zero, List.set_cons_succ]
    refine wpAnyH_ready (rs := [6]) (by kernel_rfl) (by simp) ?_
    refine AllReadyH.cons (o := ⟨_, _, _, _, _, _⟩) rfl (fun K hK => ?_) AllReadyH.nil
    refine step_append_at rfl (.tmp 6) (.tmp 8) 23 rfl W.heap.size 2 (.int .i64 0) 1 8 Tryz.underlying23 Tryz.info2 rfl (by decide) _ 0 [] rfl LIT.out _ s.op.length _ (ics s.op) rfl (ics_len _) SRC.out (ics_one _) (by unfold maxLen; omega) (by omega) LSZ.out ?_
    intro v' w5 ho hgr hat
    rw [Nat.zero_add, List.nil_append] at ho
    obtain ⟨av5, cv5, ev5, _⟩ := own_len ho
    subst ev5
    have gr : ∀ k, ¬ k = W.heap.size → k < w1.heap.size → w5.heap[k]? = w1.heap[k]? := fun k hk hl' => hgr.block k hl' (fun e => by simp [Act.eval, Value.ownBlock] at e; omega)
    have HO5 := Hid.mk' ho
    have HG := Hid.mk' gr
    have LB : Hid (∀ k, (Value.slice av5 s.op.length cv5).ownBlock = some k → k = W.heap.size ∨ w1.heap.size ≤ k) := Hid.mk' (fun k e => by rcases hat with h1 | h1 <;> rw [h1] at e <;> simp [Act.eval, Value.ownBlock] at e <;> first | omega | (simp; omega))
    have SG : Hid (w1.heap.size ≤ w5.heap.size) := Hid.mk' hgr.size
    have BG := Hid.mk' (BW.out.grown hgr LSW.out (fun k e => by simp [Act.eval, Value.ownBlock] at e; omega))
    have m0 := (World.cell?_of_block (a := ⟨xb, 0, none⟩) (gr xb (by omega) k9)).trans k0
    have m1 := (World.cell?_of_block (a := ⟨xb, 1, none⟩) (gr xb (by omega) k9)).trans k1
    have m2 := (World.cell?_of_block (a := ⟨xb, 2, none⟩) (gr xb (by omega) k9)).trans k2
    have RC5 := Hid.mk' (RCA.out.of_block (gr (xb + 1) (by omega) RCA.out.lt))
    obtain ⟨u0, u1, u2, u3⟩ := cells3 RC5.out
    obtain ⟨f0, f1, f2⟩ := frz3' RC5.out
    clear ho hgr hat gr
    refine hK.out _ _ ⟨m0, m1, m2⟩ (fun hHeld => ?_)
    clear hK K
    try simp only [Act.put, List.setIfInBounds_toArray, List.set_cons_zero, List.set_cons_succ]
    have NSK : Hid (∀ k, (W.alloc (.cells #[] 2)).heap.size ≤ k → k < w1.heap.size → w5.heap[k]? = w1.heap[k]?) := Hid.mk' (fun k h1 h2 => HG.out k (by omega) h2)
    have LBS : Hid (w.heap.size ≤ W.heap.size) := WLO
    have LOY : Hid (∀ k, (Value.slice av5 s.op.length cv5).ownBlock = some k → W.heap.size ≤ k → xb + 1 < k) := Hid.mk' (fun k _ hk => by omega)
    have LBN : Hid (∀ k, k = W.heap.size ∨ w1.heap.size ≤ k → ¬ ((W.alloc (.cells #[] 2)).heap.size ≤ k ∧ k < w1.heap.size)) := Hid.mk' (fun k h => by omega)
    refine wpAnyH_take (i := 9) (oi := ⟨_, _, _, _, _, _⟩) (v := ?_) rfl (by kernel_rfl) (by kernel_rfl) (by kernel_rfl) (fun _ _ _ h => h) (Or.inl ⟨by rfl, ?_⟩) (by assumption) ?_
    rotate_left
    · (intro w hSw; (try dsimp only at hSw); go_simp; (try with_reducible rfl))
    try simp only [Act.put, List.setIfInBounds_toArray, List.set_cons_zero, List.set_cons_succ]
    refine wpAnyH_ready (rs := [10]) (by kernel_rfl) (by simp) ?_
    refine AllReadyH.cons (o := ⟨_, _, _, _, _, _⟩) rfl (fun K hK => ?_) AllReadyH.nil
    go_simp
    have xx : xb ≠ xb + 1 := by omega
    refine hK.out _ _ ⟨(by (try dsimp only); rw [World.cell?_setCell_other _ _ _ _ (by first | (simp; done) | (simp; omega)), World.cell?_setCell_other _ _ _ _ (by first | (simp; done) | (simp; omega)), World.cell?_setCell_other _ _ _ _ (by first | (simp; done) | (simp; omega))]; exact m0), (by (try dsimp only); rw [World.cell?_setCell_other _ _ _ _ (by first | (simp; done) | (simp; omega)), World.cell?_setCell_other _ _ _ _ (by first | (simp; done) | (simp; omega)), World.cell?_setCell_other _ _ _ _ (by first | (simp; done) | (simp; omega))]; exact m1), (by (try dsimp only); rw [World.cell?_setCell_other _ _ _ _ (by first | (simp; done) | (simp; omega)), World.cell?_setCell_other _ _ _ _ (by first | (simp; done) | (simp; omega)), World.cell?_setCell_other _ _ _ _ (by first | (simp; done) | (simp; omega))]; exact m2)⟩ (fun hHeld => ?_)
    clear hK K
    try simp only [Act.put, List.setIfInBounds_toArray, List.set_cons_zero, List.set_cons_succ]
    refine wpAnyH_done (by kernel_rfl) ?_ _
    go_wp2
    refine bodyPost_ret (v := .agg #[.slice pn s.nd.length cn, .slice av5 s.op.length cv5, .bool s.lg]) (by simp [results, Tryz.results35, go_sem, *]) rfl ?_
    have hx := XB.out
    have KK : ∀ k, ¬ k = xb + 1 → (((w5.setCell ⟨xb + 1, 0, none⟩ (.slice pn s.nd.length cn)).setCell ⟨xb + 1, 1, none⟩ (.slice av5 s.op.length cv5)).setCell ⟨xb + 1, 2, none⟩ (.bool s.lg)).heap[k]? = w5.heap[k]? := fun k hk => by
      rw [Below.heap_setCell _ _ _ _ (by dsimp only; omega), Below.heap_setCell _ _ _ _ (by dsimp only; omega), Below.heap_setCell _ _ _ _ (by dsimp only; omega)]
    refine ⟨_, .slice pn s.nd.length cn, .slice av5 s.op.length cv5, va, vt, us, rfl, (HNS.out.around (w' := ((w5.setCell ⟨xb + 1, 0, none⟩ (.slice pn s.nd.length cn)).setCell ⟨xb + 1, 1, none⟩ (.slice av5 s.op.length cv5)).setCell ⟨xb + 1, 2, none⟩ (.bool s.lg)) LOL.out rfl (fun k h1 h2 => by rw [KK k (by have := LOX.out; omega)]; exact NSK.out k h1 h2)), ⟨own_of HO5.out LBS.out (fun k e hk => KK k (by have := LOY.out k e hk; omega)), fun k e => ?_⟩, ?_⟩
    · exact if_neg (LBN.out k (LB.out k e))
    · rw [hx]
      exact ((BG.out.setCell (p := ⟨xb + 1, 0, none⟩) (by dsimp only; omega) _).setCell (p := ⟨xb + 1, 1, none⟩) (by dsimp only; omega) _).setCell (p := ⟨xb + 1, 2, none⟩) (by dsimp only; omega) _

end Go.Proofs.YtpcpnfpnkkjkcaaGreat

/- Both sides' PutToken. -/
namespace Go.Proofs.YtpcpnfpnkkjkcaaGreat
open Go.RowKit
set_option linter.unusedVariables false
set_option linter.unusedSimpArgs false

/-- What PutToken and PutAll leave: a code, and a state of its own. -/
def PutP (c : Int) (s : BS) (w : World) (e : Ending) (w' : World) : Prop := ∃ τ vn vo va vt us, e = .returned (.agg #[.int .i64 c, vn, vo, .bool s.lg]) ∧ SQ τ w.heap.size w' vn vo s va vt us ∧ (∀ k, ¬ (w.heap.size ≤ k ∧ k < w'.heap.size) → τ k = 2) ∧ Below w.heap.size w w'

def noS : BS := ⟨[], [], false⟩

theorem PutP.err {c : Int} {w w' : World} (hb : Below w.heap.size w w') : PutP c noS w (.returned (.agg #[.int .i64 c, .slice none 0 0, .slice none 0 0, .bool false])) w' :=
  ⟨fun _ => 2, _, _, fun _ => undef, fun _ => undef, fun _ => [], rfl, ⟨(NS.nil _ _ _ _ _ _).nq, .inl ⟨rfl, rfl⟩, fun k e => by simp [Value.ownBlock] at e⟩, fun _ _ => rfl, hb⟩

theorem NQ.keepLo {τ : Nat → Nat} {lo lo' : Nat} {w w' : World} {v : Value} {l : List ND} {va vt : Nat → Value} {us : Nat → List Value} (h : NQ τ lo w v l va vt us) (hT : ∀ j, j < l.length → ∀ k, (vt j).ownBlock = some k → lo ≤ k) (hl : lo' ≤ lo) (τ' : Nat → Nat) (ht : ∀ k, lo ≤ k → k < w.heap.size → τ' k = τ k) (hb : ∀ k, lo ≤ k → k < w.heap.size → w'.heap[k]? = w.heap[k]?) : NQ τ' lo' w' v l va vt us := by
  refine ⟨own_of h.row hl (fun k e h2 => hb k h2 (h.row.lt k e).2), fun j hj => (h.att j hj).keep hl (fun k h1 h2 => hb k h1 h2), fun j hj => (h.txt j hj).keep (fun k e h2 => hb k (hT j hj k e) h2), fun k e => ?_, fun j hj k e => ?_, fun j hj i hi k e => ?_, fun j hj k e => ?_⟩
  · have := h.row.lt k e; rw [ht k this.1 this.2]; exact h.rl k e
  · have := (h.att j hj).row.lt k e; rw [ht k this.1 this.2]; exact h.al j hj k e
  · rw [ht k ((h.att j hj).vlo i hi k e) (((h.att j hj).val i hi).lt k e)]; exact h.ul j hj i hi k e
  · rw [ht k (hT j hj k e) ((h.txt j hj).lt k e)]; exact h.tl j hj k e

/-- An answer out of the program's builder. -/
theorem sq_impl {τ : Nat → Nat} {lo lo0 : Nat} {w6 w8 : World} {vn vp : Value} {s : BS} {va vt : Nat → Value} {us : Nat → List Value} (h : NS τ lo0 w6 vn s.nd va vt us) (hl : lo ≤ lo0) (h06 : lo0 ≤ w6.heap.size) (hk : ∀ k, lo0 ≤ k → k < w6.heap.size → w8.heap[k]? = w6.heap[k]?) (ho : OI w8 vp s.op) (hp : ∀ k, vp.ownBlock = some k → w6.heap.size ≤ k) :
    ∃ τ', SQ τ' lo w8 vn vp s va vt us ∧ ∀ k, ¬ (lo ≤ k ∧ k < w8.heap.size) → (w6.heap.size ≤ w8.heap.size) → τ' k = 2 := by
  refine ⟨fun k => if lo0 ≤ k ∧ k < w6.heap.size then τ k else if w6.heap.size ≤ k ∧ k < w8.heap.size then 1 else 2, ⟨h.nq.keepLo (fun j hj k e => ((h.txt j hj).lt k e).1) hl _ (fun k h1 h2 => if_pos ⟨h1, h2⟩) hk, ho, fun k e => ?_⟩, fun k hn hs => ?_⟩
  · have h1 := hp k e
    have h2 := ho.lt k e
    refine ⟨by omega, ?_⟩
    show (if _ then _ else _) = _
    rw [if_neg (by omega), if_pos ⟨h1, h2⟩]
  · show (if _ then _ else _) = _
    rw [if_neg (by omega), if_neg (by omega)]

/-- An answer out of the model's builder. -/
theorem sq_spec {τ : Nat → Nat} {lo lo0 g : Nat} {Tb : TypeId} {w0 w6 w8 : World} {vn vo : Value} {s : BS} {va vt : Nat → Value} {us : Nat → List Value} (h : ZS false Tb w0 lo0 g s w6 τ vn vo va vt us) (hl : lo ≤ lo0) (hk : ∀ k, lo0 ≤ k → k < w6.heap.size → w8.heap[k]? = w6.heap[k]?) :
    ∃ τ', SQ τ' lo w8 vn vo s va vt us ∧ ∀ k, ¬ (lo ≤ k ∧ k < w8.heap.size) → (w6.heap.size ≤ w8.heap.size) → τ' k = 2 := by
  refine ⟨fun k => if lo0 ≤ k ∧ k < w6.heap.size then τ k else 2, ⟨h.ns.nq.keepLo (fun j hj k e => ((h.ns.txt j hj).lt k e).1) hl _ (fun k h1 h2 => if_pos ⟨h1, h2⟩) hk, (OI.of_own h.op.1).keep (fun k e h2 => hk k (h.op.1.lt k e).1 h2), fun k e => ?_⟩, fun k hn hs => ?_⟩
  · have h1 := h.op.1.lt k e
    refine ⟨by omega, ?_⟩
    show (if _ then _ else _) = _
    rw [if_pos h1]; exact h.op.2 k e
  · show (if _ then _ else _) = _
    rw [if_neg (by omega)]

/-- The code of a token put into a state, and the state. -/
def putC (s : BS) (t : TK) : Int := if bldF s = 0 then tfault t else bldF s
def putR (s : BS) (t : TK) : BS := if putC s t = 0 then putX s t else noS

theorem put_cases (s : BS) (t : TK) : (¬ bldF s = 0 ∧ putC s t = bldF s ∧ putR s t = noS) ∨ (bldF s = 0 ∧ ¬ tfault t = 0 ∧ putC s t = tfault t ∧ putR s t = noS) ∨ (bldF s = 0 ∧ tfault t = 0 ∧ putC s t = 0 ∧ putR s t = putX s t) := by
  by_cases h : bldF s = 0
  · have e : putC s t = tfault t := by unfold putC; rw [if_pos h]
    by_cases h2 : tfault t = 0
    · exact .inr (.inr ⟨h, h2, e.trans h2, by unfold putR; rw [if_pos (e.trans h2)]⟩)
    · exact .inr (.inl ⟨h, h2, e, by unfold putR; rw [e, if_neg h2]⟩)
  · have e : putC s t = bldF s := by unfold putC; rw [if_neg h]
    exact .inl ⟨h, e, by unfold putR; rw [e, if_neg h]⟩

/-- The boxes of PutToken. -/
theorem boxes3 (w : World) (x0 x1 x2 y0 y1 y2 y3 y4 : Value) :
    let W := ((w.alloc (.cells #[x0, x1, x2] 33)).alloc (.cells #[y0, y1, y2, y3, y4] 40)).alloc (.cells #[.int .i64 0, .slice none 0 0, .slice none 0 0, .bool false] 35)
    Below w.heap.size w W ∧ W.rowIs w.heap.size 33 3 (r3 x0 x1 x2) ∧ W.rowIs (w.heap.size + 1) 40 5 (r5 y0 y1 y2 y3 y4) ∧ W.rowIs (w.heap.size + 1 + 1) 35 4 (r4 (.int .i64 0) (.slice none 0 0) (.slice none 0 0) (.bool false)) := by
  refine ⟨((below_new w _).alloc (by simp) _).alloc (by simp; omega) _, ((row3 w _ x0 x1 x2).alloc _).alloc _, ?_, ?_⟩
  · have := (row5 (w.alloc (.cells #[x0, x1, x2] 33)) 40 y0 y1 y2 y3 y4).alloc (.cells #[.int .i64 0, .slice none 0 0, .slice none 0 0, .bool false] 35)
    rw [show (w.alloc (.cells #[x0, x1, x2] 33)).heap.size = w.heap.size + 1 by simp] at this
    exact this
  · have := row4 ((w.alloc (.cells #[x0, x1, x2] 33)).alloc (.cells #[y0, y1, y2, y3, y4] 40)) 35 (.int .i64 0) (.slice none 0 0) (.slice none 0 0) (.bool false)
    rw [show ((w.alloc (.cells #[x0, x1, x2] 33)).alloc (.cells #[y0, y1, y2, y3, y4] 40)).heap.size = w.heap.size + 1 + 1 by simp] at this
    exact this

theorem frz4 {w : World} {g : Nat} {T : TypeId} {f : Nat → Value} (h : w.rowIs g T 4 f) : w.frozen? ⟨g, 0, none⟩ = false ∧ w.frozen? ⟨g, 1, none⟩ = false ∧ w.frozen? ⟨g, 2, none⟩ = false ∧ w.frozen? ⟨g, 3, none⟩ = false := ⟨h.frozen 0, h.frozen 1, h.frozen 2, h.frozen 3⟩

theorem set4 {w w1 : World} {B r : Nat} {v0 v1 v2 v3 : Value} (h : Below B w w1) (hr : B ≤ r) : Below B w ((((w1.setCell ⟨r, 0, none⟩ v0).setCell ⟨r, 1, none⟩ v1).setCell ⟨r, 2, none⟩ v2).setCell ⟨r, 3, none⟩ v3) :=
  (((h.setCell (p := ⟨r, 0, none⟩) hr v0).setCell (p := ⟨r, 1, none⟩) hr v1).setCell (p := ⟨r, 2, none⟩) hr v2).setCell (p := ⟨r, 3, none⟩) hr v3

theorem blk4 {w : World} {r k : Nat} {v0 v1 v2 v3 : Value} (h : ¬ k = r) : ((((w.setCell ⟨r, 0, none⟩ v0).setCell ⟨r, 1, none⟩ v1).setCell ⟨r, 2, none⟩ v2).setCell ⟨r, 3, none⟩ v3).heap[k]? = w.heap[k]? := by
  rw [Below.heap_setCell _ _ _ _ (by dsimp only; omega), Below.heap_setCell _ _ _ _ (by dsimp only; omega), Below.heap_setCell _ _ _ _ (by dsimp only; omega), Below.heap_setCell _ _ _ _ (by dsimp only; omega)]

theorem siz4 {w : World} {r : Nat} {v0 v1 v2 v3 : Value} : ((((w.setCell ⟨r, 0, none⟩ v0).setCell ⟨r, 1, none⟩ v1).setCell ⟨r, 2, none⟩ v2).setCell ⟨r, 3, none⟩ v3).heap.size = w.heap.size := by simp [World.setCell]

set_option maxRecDepth 100000 in
set_option maxHeartbeats 6400000 in
theorem implPut_any (s : BS) (t : TK) (a p q : Option Addr) (c d c' : Nat) (w : World) (ha : SAt w a p s) (ht : AAt w q t.at_) (hl : (s.nd.length : Int) + nssz s.nd + s.op.length ≤ 1048576) (hn : (t.nm.size : Int) ≤ 1048576) (hm : (t.at_.length : Int) + asz t.at_ ≤ 1048576) :
    Calls Tryz.prog 11 #[.agg #[.slice a s.nd.length c, .slice p s.op.length d, .bool s.lg], .agg #[.int .i64 t.kd, .int .i64 t.by_, .string t.nm, .slice q t.at_.length c', .bool t.sh]] w fun e w' => PutP (putC s t) (putR s t) w e w' := by
  obtain ⟨N0, RX, RT, RR⟩ := boxes3 w (.slice a s.nd.length c) (.slice p s.op.length d) (.bool s.lg) (.int .i64 t.kd) (.int .i64 t.by_) (.string t.nm) (.slice q t.at_.length c') (.bool t.sh)
  have KF := implBF_any s a p c d _ (ha.below N0) hl
  have HS := Hid.mk' (ha.below N0)
  have HT := Hid.mk' (ht.below N0)
  have HN := Hid.mk' N0
  have HX := Hid.mk' RX
  have HRT := Hid.mk' RT
  have HR := Hid.mk' RR
  clear ha ht N0 RX RT RR
  obtain ⟨xb, hxb⟩ : ∃ xb, w.heap.size = xb := ⟨_, rfl⟩
  rw [hxb] at HX HRT HR
  have XB := Hid.mk' hxb
  generalize hW : ((w.alloc (.cells #[.slice a s.nd.length c, .slice p s.op.length d, .bool s.lg] 33)).alloc (.cells #[.int .i64 t.kd, .int .i64 t.by_, .string t.nm, .slice q t.at_.length c', .bool t.sh] 40)).alloc (.cells #[.int .i64 0, .slice none 0 0, .slice none 0 0, .bool false] 35) = W at *
  obtain ⟨x0, x1, x2, x3⟩ := cells3 HX.out
  rcases put_cases s t with ⟨h1, h2, h3⟩ | ⟨h1, h4, h2, h3⟩ | ⟨h1, h4, h2, h3⟩
  · have E2 := Hid.mk' h2
    have E3 := Hid.mk' h3
    have KF := Hid.mk' KF
    clear h2 h3
    generalize bldF s = bf at *
    go_enter Tryz.func11, Tryz.ntmps11
    go_wp2_with fail
    clear hW hxb
    refine KF.out.mono ?_
    rintro e w1 ⟨rfl, hb⟩
    have R1 := rowB HR.out hb
    have HB := Hid.mk' (HN.out.trans (hb.mono HN.out.size))
    obtain ⟨b0, b1, b2, b3, b4⟩ := cells4 R1
    obtain ⟨f0, f1, f2, f3⟩ := frz4 R1
    clear hb KF R1
    go_wp2
    refine bodyPost_ret (v := .agg #[.int .i64 bf, .slice none 0 0, .slice none 0 0, .bool false]) (by simp [results, Tryz.results11, go_sem, *]) rfl ?_
    rw [E2.out, E3.out]
    exact PutP.err (set4 HB.out (by have := XB.out; omega))
  · have GS0 := Hid.mk' (gs_of h1)
    rw [h1] at KF
    have KF := Hid.mk' KF
    have E2 := Hid.mk' h2
    have E3 := Hid.mk' h3
    have H4 := Hid.mk' h4
    clear h2 h3 h1
    go_enter Tryz.func11, Tryz.ntmps11
    go_wp2_with fail
    clear hW hxb
    refine KF.out.mono ?_
    rintro e w1 ⟨rfl, hb⟩
    have HX := Hid.mk' (rowB HX.out hb)
    have HRT := Hid.mk' (rowB HRT.out hb)
    have HR := Hid.mk' (rowB HR.out hb)
    have HS := Hid.mk' (HS.out.below hb)
    have HT := Hid.mk' (HT.out.below hb)
    have HB := Hid.mk' (HN.out.trans (hb.mono HN.out.size))
    clear hb KF x0 x1 x2 x3
    obtain ⟨x0, x1, x2, x3⟩ := cells3 HX.out
    have KN := Hid.mk' (newBuilder_any s a p c d w1 HS.out GS0.out (by omega))
    go_wp2_with fail
    refine KN.out.mono ?_
    rintro e w2 ⟨g, rfl, hz⟩
    have hb2 : Below w1.heap.size w1 w2 := by obtain ⟨_, _, _, _, _, _, z⟩ := hz; exact z.bl
    have KT := take_any w1 w1.heap.size g s t q c' w2 hz GS0.out rfl HT.out hn hm
    rw [if_neg H4.out] at KT
    have KT := Hid.mk' KT
    have HRT2 := Hid.mk' (rowB HRT.out hb2)
    obtain ⟨t0, t1, t2, t3, t4, t5⟩ := cells5 HRT2.out
    have HR2 := Hid.mk' HR.out
    clear hz KN x0 x1 x2 x3 hb2 h4
    generalize htf : tfault t = tf at *
    go_wp2_with fail
    refine KT.out.mono ?_
    rintro e w3 ⟨rfl, hz3⟩
    have hb3 : Below w1.heap.size w1 w3 := by obtain ⟨_, _, _, _, _, _, z⟩ := hz3; exact z.bl
    have tfn : ¬ tf = 0 := H4.out
    have R1 := rowB HR2.out hb3
    have HB := Hid.mk' (HB.out.trans (hb3.mono HB.out.size))
    obtain ⟨b0, b1, b2, b3, b4⟩ := cells4 R1
    obtain ⟨f0, f1, f2, f3⟩ := frz4 R1
    clear hz3 hb3 KT R1 t0 t1 t2 t3 t4 t5 htf
    go_wp2
    refine bodyPost_ret (v := .agg #[.int .i64 tf, .slice none 0 0, .slice none 0 0, .bool false]) (by simp [results, Tryz.results11, go_sem, *]) rfl ?_
    rw [E2.out, E3.out]
    exact PutP.err (set4 HB.out (by have := XB.out; omega))
  · have GS0 := Hid.mk' (gs_of h1)
    have GS1 := Hid.mk' (gs_put (gs_of h1) t)
    rw [h1] at KF
    have KF := Hid.mk' KF
    have E2 := Hid.mk' h2
    have E3 := Hid.mk' h3
    have H4 := Hid.mk' h4
    clear h2 h3 h1
    go_enter Tryz.func11, Tryz.ntmps11
    go_wp2_with fail
    clear hW hxb
    refine KF.out.mono ?_
    rintro e w1 ⟨rfl, hb⟩
    have HX := Hid.mk' (rowB HX.out hb)
    have HRT := Hid.mk' (rowB HRT.out hb)
    have HR := Hid.mk' (rowB HR.out hb)
    have HS := Hid.mk' (HS.out.below hb)
    have HT := Hid.mk' (HT.out.below hb)
    have HB := Hid.mk' (HN.out.trans (hb.mono HN.out.size))
    clear hb KF x0 x1 x2 x3
    obtain ⟨x0, x1, x2, x3⟩ := cells3 HX.out
    have KN := Hid.mk' (newBuilder_any s a p c d w1 HS.out GS0.out (by omega))
    go_wp2_with fail
    refine KN.out.mono ?_
    rintro e w2 ⟨g, rfl, hz⟩
    have hb2 : Below w1.heap.size w1 w2 := by obtain ⟨_, _, _, _, _, _, z⟩ := hz; exact z.bl
    have KT := take_any w1 w1.heap.size g s t q c' w2 hz GS0.out rfl HT.out hn hm
    rw [if_pos H4.out, H4.out] at KT
    have KT := Hid.mk' KT
    have HRT2 := Hid.mk' (rowB HRT.out hb2)
    obtain ⟨t0, t1, t2, t3, t4, t5⟩ := cells5 HRT2.out
    clear hz KN x0 x1 x2 x3 hb2 h4
    go_wp2_with fail
    refine KT.out.mono ?_
    rintro e w3 ⟨rfl, τ, vn, vo, va, vt, us, hz3⟩
    obtain ⟨s2, hs2⟩ : ∃ s2, putX s t = s2 := ⟨_, rfl⟩
    rw [hs2] at hz3 E3 GS1
    have KS := Hid.mk' (state_any w1 w1.heap.size g s2 w3 τ vn vo va vt us hz3 GS1.out)
    have HZ3 := Hid.mk' hz3
    clear hs2 KT t0 t1 t2 t3 t4 t5 hz3
    go_wp2_with fail
    refine KS.out.mono ?_
    rintro e w4 ⟨vp, rfl, ho, hp, hb4⟩
    obtain ⟨ap, cp, ep, _⟩ := ho.len
    subst ep
    obtain ⟨pn, cn, en, _⟩ := own_len HZ3.out.ns.row
    subst en
    have hb3 := HZ3.out.bl
    have hb5 := hb3.trans (hb4.mono hb3.size)
    have R1 := rowB HR.out hb5
    have rlt : xb + 1 + 1 < w1.heap.size := HR.out.lt
    have HB5 := Hid.mk' (HB.out.trans (hb5.mono HB.out.size))
    obtain ⟨b0, b1, b2, b3, b4⟩ := cells4 R1
    obtain ⟨f0, f1, f2, f3⟩ := frz4 R1
    have HO := Hid.mk' ho
    have HPP := Hid.mk' hp
    have HB4 := Hid.mk' hb4
    have LW : Hid (w.heap.size ≤ w1.heap.size) := Hid.mk' HB.out.size
    have L3 : Hid (w1.heap.size ≤ w3.heap.size) := Hid.mk' hb3.size
    clear ho hp hb4 hb3 hb5 KS R1
    go_wp2
    refine bodyPost_ret (v := .agg #[.int .i64 0, .slice pn s2.nd.length cn, .slice ap s2.op.length cp, .bool s2.lg]) (by simp [results, Tryz.results11, go_sem, *]) rfl ?_
    rw [E2.out, E3.out]
    have hx := XB.out
    have r9 := rlt
    obtain ⟨τ', hsq, hcap⟩ := sq_impl (lo := w.heap.size) (w8 := (((w4.setCell ⟨xb + 1 + 1, 0, none⟩ (.int .i64 0)).setCell ⟨xb + 1 + 1, 1, none⟩ (.slice pn s2.nd.length cn)).setCell ⟨xb + 1 + 1, 2, none⟩ (.slice ap s2.op.length cp)).setCell ⟨xb + 1 + 1, 3, none⟩ (.bool s2.lg)) HZ3.out.ns LW.out L3.out (fun k h1 h2 => by rw [blk4 (by omega)]; exact HB4.out.block k h2) (HO.out.keep (fun k e hl' => blk4 (by have := HPP.out k e; have := L3.out; omega))) (fun k e => HPP.out k e)
    exact ⟨τ', _, _, va, vt, us, rfl, hsq, fun k hk => hcap k hk (by rw [siz4]; exact HB4.out.size), set4 HB5.out (by omega)⟩

end Go.Proofs.YtpcpnfpnkkjkcaaGreat

/- The model's PutToken. -/
namespace Go.Proofs.YtpcpnfpnkkjkcaaGreat
open Go.RowKit
set_option linter.unusedVariables false
set_option linter.unusedSimpArgs false

/-- A copy of a state in a box of its own. -/
theorem ZS.boxed {τ : Nat → Nat} {lo : Nat} {w0 w1 : World} {vn vo : Value} {s : BS} {va vt : Nat → Value} {us : Nat → List Value} {T : TypeId} (hn : NS τ lo w1 vn s.nd va vt us) (ho : OpP false τ lo w1 s.nd s.op vo) (hb : Below lo w0 w1) (hl : lo ≤ w1.heap.size) :
    ZB false T w0 lo w1.heap.size s (w1.alloc (.cells #[vn, vo, .bool s.lg] T)) := by
  have n1 : NS (fun k => if k < w1.heap.size then τ k else 2) lo w1 vn s.nd va vt us := hn.relabel (fun k _ h2 => if_pos h2)
  have o1 : OpP false (fun k => if k < w1.heap.size then τ k else 2) lo w1 s.nd s.op vo := ho.relabel (fun k _ h2 => if_pos h2)
  have nb := below_new w1 (.cells #[vn, vo, .bool s.lg] T)
  exact ⟨_, vn, vo, va, vt, us, row3 w1 T vn vo (.bool s.lg), n1.below nb, o1.keep (Kp.of_below nb), if_neg (Nat.lt_irrefl _), hb.trans (nb.mono hl), Nat.le_trans hl nb.size, hl⟩

set_option maxRecDepth 100000 in
set_option maxHeartbeats 6400000 in
theorem specPut_any (s : BS) (t : TK) (a p q : Option Addr) (c d c' : Nat) (w : World) (ha : SAt w a p s) (ht : AAt w q t.at_) (hc' : t.at_.length ≤ c') (hl : (s.nd.length : Int) + nssz s.nd + s.op.length ≤ 1048576) (hn : (t.nm.size : Int) ≤ 1048576) (hm : (t.at_.length : Int) + asz t.at_ ≤ 1048576) :
    Calls Tryz.prog 8 #[.agg #[.slice a s.nd.length c, .slice p s.op.length d, .bool s.lg], .agg #[.int .i64 t.kd, .int .i64 t.by_, .string t.nm, .slice q t.at_.length c', .bool t.sh]] w fun e w' => PutP (putC s t) (putR s t) w e w' := by
  obtain ⟨N0, RX, RT, RR⟩ := boxes3 w (.slice a s.nd.length c) (.slice p s.op.length d) (.bool s.lg) (.int .i64 t.kd) (.int .i64 t.by_) (.string t.nm) (.slice q t.at_.length c') (.bool t.sh)
  have KF := l7Fault_any s w.heap.size a p c d _ RX (ha.below N0) hl
  have HS := Hid.mk' (ha.below N0)
  have HT := Hid.mk' (ht.below N0)
  have HN := Hid.mk' N0
  have HX := Hid.mk' RX
  have HRT := Hid.mk' RT
  have HR := Hid.mk' RR
  clear ha ht N0 RX RT RR
  obtain ⟨xb, hxb⟩ : ∃ xb, w.heap.size = xb := ⟨_, rfl⟩
  rw [hxb] at HX HRT HR KF
  have XB := Hid.mk' hxb
  generalize hW : ((w.alloc (.cells #[.slice a s.nd.length c, .slice p s.op.length d, .bool s.lg] 33)).alloc (.cells #[.int .i64 t.kd, .int .i64 t.by_, .string t.nm, .slice q t.at_.length c', .bool t.sh] 40)).alloc (.cells #[.int .i64 0, .slice none 0 0, .slice none 0 0, .bool false] 35) = W at *
  rcases put_cases s t with ⟨h1, h2, h3⟩ | ⟨h1, h4, h2, h3⟩ | ⟨h1, h4, h2, h3⟩
  · have E2 := Hid.mk' h2
    have E3 := Hid.mk' h3
    have KF := Hid.mk' KF
    clear h2 h3
    generalize bldF s = bf at *
    go_enter Tryz.func8, Tryz.ntmps8
    go_wp2_with fail
    clear hW hxb
    refine KF.out.mono ?_
    rintro e w1 ⟨rfl, hb⟩
    have R1 := rowB HR.out hb
    have HB := Hid.mk' (HN.out.trans (hb.mono HN.out.size))
    obtain ⟨b0, b1, b2, b3, b4⟩ := cells4 R1
    obtain ⟨f0, f1, f2, f3⟩ := frz4 R1
    clear hb KF R1
    go_wp2
    refine bodyPost_ret (v := .agg #[.int .i64 bf, .slice none 0 0, .slice none 0 0, .bool false]) (by simp [results, Tryz.results8, go_sem, *]) rfl ?_
    rw [E2.out, E3.out]
    exact PutP.err (set4 HB.out (by have := XB.out; omega))
  · rw [h1] at KF
    have KF := Hid.mk' KF
    have E2 := Hid.mk' h2
    have E3 := Hid.mk' h3
    have H4 := Hid.mk' h4
    clear h2 h3 h1
    go_enter Tryz.func8, Tryz.ntmps8
    go_wp2_with fail
    clear hW hxb
    refine KF.out.mono ?_
    rintro e w1 ⟨rfl, hb⟩
    have HR := Hid.mk' (rowB HR.out hb)
    have HB := Hid.mk' (HN.out.trans (hb.mono HN.out.size))
    have KT := Hid.mk' (l4Fault_any t (xb + 1) q c' w1 (rowB HRT.out hb) (HT.out.below hb) hc' hn hm)
    clear hb KF h4
    generalize htf : tfault t = tf at *
    go_wp2_with fail
    refine KT.out.mono ?_
    rintro e w3 ⟨rfl, hb3⟩
    have tfn : ¬ tf = 0 := H4.out
    have R1 := rowB HR.out hb3
    have HB := Hid.mk' (HB.out.trans (hb3.mono HB.out.size))
    obtain ⟨b0, b1, b2, b3, b4⟩ := cells4 R1
    obtain ⟨f0, f1, f2, f3⟩ := frz4 R1
    clear hb3 KT R1 htf
    go_wp2
    refine bodyPost_ret (v := .agg #[.int .i64 tf, .slice none 0 0, .slice none 0 0, .bool false]) (by simp [results, Tryz.results8, go_sem, *]) rfl ?_
    rw [E2.out, E3.out]
    exact PutP.err (set4 HB.out (by have := XB.out; omega))
  · have GS0 := Hid.mk' (gs_of h1)
    rw [h1] at KF
    have KF := Hid.mk' KF
    have E2 := Hid.mk' h2
    have E3 := Hid.mk' h3
    have BY := Hid.mk' (tf_byte h4)
    rw [← h4] at E2
    have H4 := Hid.mk' h4
    clear h2 h3 h1
    go_enter Tryz.func8, Tryz.ntmps8
    go_wp2_with fail
    clear hW hxb
    refine KF.out.mono ?_
    rintro e w1 ⟨rfl, hb⟩
    have HX := Hid.mk' (rowB HX.out hb)
    have HRT := Hid.mk' (rowB HRT.out hb)
    have HR := Hid.mk' (rowB HR.out hb)
    have HS := Hid.mk' (HS.out.below hb)
    have HT := Hid.mk' (HT.out.below hb)
    have HB := Hid.mk' (HN.out.trans (hb.mono HN.out.size))
    have KT0 := l4Fault_any t (xb + 1) q c' w1 HRT.out HT.out hc' hn hm
    rw [h4] at KT0
    have KT := Hid.mk' KT0
    clear hb KF KT0 h4
    go_wp2_with fail
    refine KT.out.mono ?_
    rintro e w2 ⟨rfl, hb⟩
    have HX := Hid.mk' (rowB HX.out hb)
    have HRT := Hid.mk' (rowB HRT.out hb)
    have HR := Hid.mk' (rowB HR.out hb)
    have HS := Hid.mk' (HS.out.below hb)
    have HT := Hid.mk' (HT.out.below hb)
    have HB := Hid.mk' (HB.out.trans (hb.mono HB.out.size))
    obtain ⟨x0, x1, x2, x3⟩ := cells3 HX.out
    have KN := Hid.mk' (copyState_any s a p c d w2 HS.out GS0.out (by omega))
    clear hb KT
    go_wp2_with fail
    refine KN.out.mono ?_
    rintro e w3 ⟨τ, vn, vo, va, vt, us, rfl, hns, hop, hb⟩
    have hz := ZS.boxed (T := 33) hns hop hb hb.size
    obtain ⟨pn, cn, en, _⟩ := own_len hns.row
    obtain ⟨po, co, eo, _⟩ := hop.row
    subst en eo
    obtain ⟨gt, hgt⟩ : ∃ gt, w3.heap.size = gt := ⟨_, rfl⟩
    rw [hgt] at hz
    have KP := Hid.mk' (putS_any w2 w2.heap.size gt (xb + 1) s t q c' _ hz GS0.out rfl HRT.out HT.out hm (fun _ => BY.out))
    clear hz hns hop hb KN x0 x1 x2 x3
    go_wp2_with fail
    refine KP.out.mono ?_
    rintro e w4 ⟨⟨ve, rfl⟩, τ, vn, vo, va, vt, us, hz⟩
    obtain ⟨s2, hs2⟩ : ∃ s2, putX s t = s2 := ⟨_, rfl⟩
    rw [hs2] at hz E3
    obtain ⟨pn, cn, en, _⟩ := own_len hz.ns.row
    obtain ⟨po, co, eo, _⟩ := hz.op.row
    subst en eo
    have HZ := Hid.mk' hz
    obtain ⟨x0, x1, x2, x3⟩ := cells3 hz.box
    have R1 := rowB HR.out hz.bl
    have rlt : xb + 1 + 1 < w2.heap.size := HR.out.lt
    have HB5 := Hid.mk' (HB.out.trans (hz.bl.mono HB.out.size))
    have LW : Hid (w.heap.size ≤ w2.heap.size) := Hid.mk' HB.out.size
    obtain ⟨b0, b1, b2, b3, b4⟩ := cells4 R1
    obtain ⟨f0, f1, f2, f3⟩ := frz4 R1
    clear hz KP R1 hs2
    go_wp2
    refine bodyPost_ret (v := .agg #[.int .i64 0, .slice pn s2.nd.length cn, .slice po s2.op.length co, .bool s2.lg]) (by simp [results, Tryz.results8, go_sem, *]) rfl ?_
    rw [E2.out, H4.out, E3.out]
    have hx := XB.out
    obtain ⟨τ', hsq, hcap⟩ := sq_spec (lo := w.heap.size) (w8 := (((w4.setCell ⟨xb + 1 + 1, 0, none⟩ (.int .i64 0)).setCell ⟨xb + 1 + 1, 1, none⟩ (.slice pn s2.nd.length cn)).setCell ⟨xb + 1 + 1, 2, none⟩ (.slice po s2.op.length co)).setCell ⟨xb + 1 + 1, 3, none⟩ (.bool s2.lg)) HZ.out LW.out (fun k h1 h2 => blk4 (by omega))
    exact ⟨τ', _, _, va, vt, us, rfl, hsq, fun k hk => hcap k hk (by rw [siz4]; exact Nat.le_refl _), set4 HB5.out (by omega)⟩

end Go.Proofs.YtpcpnfpnkkjkcaaGreat

/- Lists of tokens that lie in memory; their sizes; they are copied, and told to be the same. -/
namespace Go.Proofs.YtpcpnfpnkkjkcaaGreat
open Go.RowKit
set_option linter.unusedVariables false
set_option linter.unusedSimpArgs false

/-- The k-th of tokens. -/
def tkK (l : List TK) (k : Nat) : TK := l.getD k ⟨0, 0, ⟨#[]⟩, [], false⟩

/-- Tokens lie at an address. -/
def TsAt (w : World) (a : Option Addr) (l : List TK) : Prop :=
  l = [] ∨ ∃ b o, a = some ⟨b, o, none⟩ ∧ b < w.heap.size ∧ ∀ k, k < l.length → w.cell? ⟨b, o + k * 5, none⟩ = some (.int .i64 (tkK l k).kd) ∧ w.cell? ⟨b, o + k * 5 + 1, none⟩ = some (.int .i64 (tkK l k).by_) ∧ w.cell? ⟨b, o + k * 5 + 2, none⟩ = some (.string (tkK l k).nm) ∧ (∃ p c, w.cell? ⟨b, o + k * 5 + 3, none⟩ = some (.slice p (tkK l k).at_.length c) ∧ AAt w p (tkK l k).at_) ∧ w.cell? ⟨b, o + k * 5 + 4, none⟩ = some (.bool (tkK l k).sh)

theorem TsAt.below {w w' : World} {a : Option Addr} {l : List TK} (h : TsAt w a l) (hb : Below w.heap.size w w') : TsAt w' a l := by
  rcases h with h | ⟨b, o, e, hs, hc⟩
  · exact .inl h
  · refine .inr ⟨b, o, e, Nat.lt_of_lt_of_le hs hb.size, fun k hk => ?_⟩
    obtain ⟨h1, h2, h3, ⟨p, c, h4, h5⟩, h6⟩ := hc k hk
    exact ⟨(hb.cell hs).trans h1, (hb.cell hs).trans h2, (hb.cell hs).trans h3, ⟨p, c, (hb.cell hs).trans h4, h5.below hb⟩, (hb.cell hs).trans h6⟩

/-- The size of a token, and of tokens. -/
def tsz (t : TK) : Nat := t.nm.size + t.at_.length + asz t.at_
def tssz : List TK → Nat
  | [] => 0
  | x :: r => tsz x + tssz r

theorem tssz_take (l : List TK) : ∀ k, k < l.length → tssz (l.take (k + 1)) = tssz (l.take k) + tsz (tkK l k) := by
  induction l with
  | nil => intro k h; exact absurd h (Nat.not_lt_zero _)
  | cons x r ih =>
    intro k hk
    cases k with
    | zero => simp [tssz, tkK]
    | succ k =>
      have := ih k (by simpa using hk)
      simp only [List.take_succ_cons, tssz]
      rw [this]
      have e : tkK (x :: r) (k + 1) = tkK r k := by simp [tkK]
      rw [e]; omega

theorem tssz_le (l : List TK) (k : Nat) : tssz (l.take k) ≤ tssz l := by
  induction l generalizing k with
  | nil => simp [tssz]
  | cons x r ih =>
    cases k with
    | zero => simp [tssz]
    | succ k => simp only [List.take_succ_cons, tssz]; have := ih k; omega

set_option maxHeartbeats 800000 in
theorem szToken_gen (t : TK) (a : Option Addr) (c : Nat) (z : Int) (w : World) (ha : AAt w a t.at_) (hw : Wide t.at_) (hn : (t.nm.size : Int) ≤ 9223372036854775807) (hl : (t.at_.length : Int) ≤ 9223372036854775807) (h0 : 0 ≤ z) (h1 : z ≤ 1048576) :
    Calls Tryz.prog 7 #[.agg #[.int .i64 t.kd, .int .i64 t.by_, .string t.nm, .slice a t.at_.length c, .bool t.sh], .int .i64 z] w fun e w' => e = .returned (.int .i64 (if z < (tsz t : Int) then -1 else z - tsz t)) ∧ Below w.heap.size w w' := by
  unfold tsz
  by_cases g1 : z < (t.nm.size : Int)
  · rw [if_pos (by omega)]
    go_enter Tryz.func7, Tryz.ntmps7
    go_wp2
    go_ret
    exact ⟨rfl, (Below.refl _ _).alloc (Nat.le_refl _) _⟩
  have N0 := below_new w (.cells #[.int .i64 t.kd, .int .i64 t.by_, .string t.nm, .slice a t.at_.length c, .bool t.sh] 28)
  have KA := Hid.mk' (szAttrS_any a c t.at_ (z - (t.nm.size : Int)) _ (ha.below N0) hw (by omega) (by omega) hl)
  have HB := Hid.mk' N0
  clear N0 ha hw
  by_cases g2 : z - (t.nm.size : Int) < (t.at_.length : Int) + asz t.at_
  · rw [if_pos g2] at KA
    rw [if_pos (by omega)]
    go_enter Tryz.func7, Tryz.ntmps7
    go_wp2_with fail
    refine KA.out.mono ?_
    rintro e w1 ⟨rfl, hb⟩
    have HB := Hid.mk' (HB.out.trans (hb.mono HB.out.size))
    clear hb KA
    go_wp2
    go_ret
    exact ⟨rfl, HB.out⟩
  · rw [if_neg g2] at KA
    rw [if_neg (by omega)]
    go_enter Tryz.func7, Tryz.ntmps7
    go_wp2_with fail
    refine KA.out.mono ?_
    rintro e w1 ⟨rfl, hb⟩
    have HB := Hid.mk' (HB.out.trans (hb.mono HB.out.size))
    clear hb KA
    have gy : ¬ (z - (t.nm.size : Int) - t.at_.length - asz t.at_ < 0) := by omega
    go_wp2
    go_ret
    exact ⟨by congr 2; simp; omega, HB.out⟩

/-- Nothing in them is wider than a machine's. -/
def WideT (l : List TK) : Prop := ∀ k, k < l.length → Wide (tkK l k).at_ ∧ ((tkK l k).nm.size : Int) ≤ 9223372036854775807 ∧ ((tkK l k).at_.length : Int) ≤ 9223372036854775807

set_option maxHeartbeats 1600000 in
theorem szTokenS_any (a : Option Addr) (c : Nat) (l : List TK) (z : Int) (w : World) (ha : TsAt w a l) (hw : WideT l) (h0 : 0 ≤ z) (h1 : z ≤ 1048576) (hl : (l.length : Int) ≤ 9223372036854775807) :
    Calls Tryz.prog 19 #[.slice a l.length c, .int .i64 z] w fun e w' => e = .returned (.int .i64 (if z < (l.length : Int) + tssz l then -1 else z - l.length - tssz l)) ∧ Below w.heap.size w w' := by
  by_cases g1 : z < (l.length : Int)
  · rw [if_pos (by omega)]
    go_enter Tryz.func19, Tryz.ntmps19
    go_wp2
    go_ret
    exact ⟨rfl, Below.refl _ _⟩
  have HA := Hid.mk' ha
  have HW := Hid.mk' hw
  clear ha hw
  go_enter Tryz.func19, Tryz.ntmps19
  go_wp2
  go_loopw [1, 5] (fun x i wr => ∃ k : Nat, k ≤ l.length ∧ i = .int .i64 k ∧ x = .int .i64 (z - (l.length : Int) - (tssz (l.take k) : Int)) ∧ (tssz (l.take k) : Int) ≤ z - l.length ∧ Below w.heap.size w wr) (fun _ i _ => l.length - (intOf i).toNat)
  case atStart => exact ⟨0, Nat.zero_le _, rfl, by simp [tssz], by simp [tssz]; omega, Below.refl _ _⟩
  case round =>
    obtain ⟨k, hk, rfl, rfl, hz, hbl⟩ := hrel
    have HB := Hid.mk' hbl
    clear hbl
    by_cases hlt : k < l.length
    · have ci : (k : Int) < (l.length : Int) := by omega
      rcases HA.out.below HB.out with ha | ⟨b, o, rfl, hbs, hc⟩
      · exact absurd hlt (by rw [ha]; exact Nat.not_lt_zero _)
      obtain ⟨q1, q2, q3, ⟨p, d, q4, q5⟩, q6⟩ := hc k hlt
      obtain ⟨w1, w2, w3⟩ := HW.out k hlt
      have st := tssz_take l k hlt
      have KA := Hid.mk' (szToken_gen (tkK l k) p d (z - (l.length : Int) - (tssz (l.take k) : Int)) wr q5 w1 w2 w3 (by omega) (by omega))
      generalize hy : z - (l.length : Int) - (tssz (l.take k) : Int) = y at *
      clear hc q5
      by_cases g2 : y < (tsz (tkK l k) : Int)
      · rw [if_pos g2] at KA
        have gz : z < (l.length : Int) + tssz l := by have := tssz_le l (k + 1); omega
        go_wp2_with fail
        refine KA.out.mono ?_
        rintro e w1 ⟨rfl, hb⟩
        have HB := Hid.mk' (HB.out.trans (hb.mono HB.out.size))
        clear hb KA
        go_wp2
        go_ret
        exact ⟨by first | rfl | (rw [if_pos gz]; rfl), HB.out⟩
      · rw [if_neg g2] at KA
        have gy : ¬ (y - (tsz (tkK l k) : Int) < 0) := by omega
        go_wp2_with fail
        refine KA.out.mono ?_
        rintro e w1 ⟨rfl, hb⟩
        have HB := Hid.mk' (HB.out.trans (hb.mono HB.out.size))
        clear hb KA
        go_wp2
        go_roundw
        case rel => exact ⟨k + 1, by omega, by go_num, by congr 1; omega, by omega, HB.out⟩
        case measure => simp [intOf]; omega
    · have ci : ¬ (k : Int) < (l.length : Int) := by omega
      have e : k = l.length := by omega
      subst e
      rw [List.take_length] at hz
      go_wp2
      go_ret
      exact ⟨by first | rfl | (simp; done) | (rw [if_neg (by omega)]; simp), HB.out⟩

end Go.Proofs.YtpcpnfpnkkjkcaaGreat

/- What the law on PutToken holds on to, and the marks of what it gave. -/
namespace Go.Proofs.YtpcpnfpnkkjkcaaGreat
open Go.RowKit
set_option linter.unusedVariables false
set_option linter.unusedSimpArgs false

theorem SQ.sat {τ : Nat → Nat} {lo : Nat} {w : World} {pn pa : Option Addr} {n m cn cp : Nat} {s : BS} {va vt : Nat → Value} {us : Nat → List Value} (h : SQ τ lo w (.slice pn n cn) (.slice pa m cp) s va vt us) : SAt w pn pa s := by
  obtain ⟨a, c, p, d, e1, e2, h1⟩ := h.at
  injection e1 with x1 x2 x3
  injection e2 with y1 y2 y3
  rw [x1, y1]; exact h1

theorem putR_le (s : BS) (t : TK) (hl : (s.nd.length : Int) + nssz s.nd + s.op.length ≤ 1048576) (ht : (t.nm.size : Int) + t.at_.length + asz t.at_ ≤ 1048576 - (s.nd.length : Int) - nssz s.nd - s.op.length) : ((putR s t).nd.length : Int) + nssz (putR s t).nd + (putR s t).op.length ≤ 2000000 ∧ ((putR s t).op.length : Int) ≤ 1048576 := by
  rcases put_cases s t with ⟨_, _, h⟩ | ⟨_, _, _, h⟩ | ⟨h1, _, _, h⟩
  · rw [h]; simp [noS, nssz]
  · rw [h]; simp [noS, nssz]
  · rw [h]
    have g := (gs_put (gs_of h1) t).o
    have n := nS_put s t
    unfold nS tS at n
    omega

/-- The state that the law gave. -/
structure X0P (lo q gn hi go : Nat) (s : BS) (wi : World) : Prop where
  box : wi.rowIs q 33 3 (r3 (.slice (some ⟨gn, 0, none⟩) s.nd.length s.nd.length) (.slice (some ⟨go, 0, none⟩) s.op.length s.op.length) (.bool s.lg))
  nx : NX gn hi s.nd wi
  rw_ : wi.rowIs go 2 s.op.length (iv s.op)
  l1 : lo ≤ gn
  l2 : hi ≤ go
  l3 : go < q

theorem X0P.below {lo q gn hi go : Nat} {s : BS} {wi wj : World} (h : X0P lo q gn hi go s wi) (hb : Below wi.heap.size wi wj) : X0P lo q gn hi go s wj := ⟨rowB h.box hb, h.nx.below hb, rowB h.rw_ hb, h.l1, h.l2, h.l3⟩

theorem iv_at {g : Nat} {l : List Int} {w : World} (h : w.rowIs g 2 l.length (iv l)) : OI w (.slice (some ⟨g, 0, none⟩) l.length l.length) l := .inr ⟨g, _, _, _, rfl, h, Nat.le_refl _, fun _ _ => rfl⟩

theorem X0P.at {lo q gn hi go : Nat} {s : BS} {wi : World} (h : X0P lo q gn hi go s wi) : SAt wi (some ⟨gn, 0, none⟩) (some ⟨go, 0, none⟩) s := by
  refine ⟨h.nx.at, ?_⟩
  obtain ⟨a, c, e, hi⟩ := (iv_at h.rw_).len
  injection e with e1 _ _
  rw [e1]; exact hi

/-- The token that the law gave. -/
structure X1P (lo q g : Nat) (t : TK) (wi : World) : Prop where
  box : wi.rowIs q 40 5 (r5 (.int .i64 t.kd) (.int .i64 t.by_) (.string t.nm) (.slice (some ⟨g, 0, none⟩) t.at_.length t.at_.length) (.bool t.sh))
  own : AO g t.at_ wi
  mr : MR g q t.at_ wi
  l1 : lo ≤ g

theorem X1P.below {lo q g : Nat} {t : TK} {wi wj : World} (h : X1P lo q g t wi) (hb : Below wi.heap.size wi wj) : X1P lo q g t wj := ⟨rowB h.box hb, h.own.below hb, h.mr.below hb, h.l1⟩

/-- What the law got. -/
structure GP (lo q : Nat) (τ : Nat → Nat) (vn vo : Value) (va vt : Nat → Value) (us : Nat → List Value) (C : Int) (lg : Bool) (R : BS) (wi : World) : Prop where
  box : wi.rowIs q 35 4 (r4 (.int .i64 C) vn vo (.bool lg))
  sq : SQ τ lo wi vn vo R va vt us
  cap : ∀ k, ¬ (lo ≤ k ∧ k < q) → τ k = 2
  lq : lo ≤ q

theorem GP.below {lo q : Nat} {τ : Nat → Nat} {vn vo : Value} {va vt : Nat → Value} {us : Nat → List Value} {C : Int} {lg : Bool} {R : BS} {wi wj : World} (h : GP lo q τ vn vo va vt us C lg R wi) (hb : Below wi.heap.size wi wj) : GP lo q τ vn vo va vt us C lg R wj := ⟨rowB h.box hb, h.sq.below hb, h.cap, h.lq⟩

theorem GP.kept {lo q lo' hi' : Nat} {τ : Nat → Nat} {vn vo : Value} {va vt : Nat → Value} {us : Nat → List Value} {C : Int} {lg : Bool} {R : BS} {wi wj : World} (h : GP lo q τ vn vo va vt us C lg R wi) (hk : KeptIn lo' hi' wi wj) (hd : hi' ≤ lo) : GP lo q τ vn vo va vt us C lg R wj :=
  ⟨rowK h.box hk (.inr (Nat.le_trans hd h.lq)), h.sq.keep (Kp.of_kept hk (fun k e => by
    have : lo ≤ k ∧ k < q := Classical.byContradiction (fun hn => e (h.cap k hn))
    omega)), h.cap, h.lq⟩

set_option maxHeartbeats 1600000 in
theorem markBS_bd (gn hi go : Nat) (s : BS) (w : World) (h1 : NX gn hi s.nd w) (h2 : w.rowIs go 2 s.op.length (iv s.op)) (h3 : hi ≤ go) (hl : (s.nd.length : Int) + nssz s.nd + s.op.length ≤ 1048576) :
    Calls Tryz.prog 15 #[.agg #[.slice (some ⟨gn, 0, none⟩) s.nd.length s.nd.length, .slice (some ⟨go, 0, none⟩) s.op.length s.op.length, .bool s.lg], .int .i64 1] w fun e w' => (∃ z : Nat, e = .returned (.int .i64 (z : Int)) ∧ 0 < z ∧ z ≤ 4000000) ∧ KeptIn gn (go + 1) w w' := by
  have N0 := below_new w (.cells #[.slice (some ⟨gn, 0, none⟩) s.nd.length s.nd.length, .slice (some ⟨go, 0, none⟩) s.op.length s.op.length, .bool s.lg] 33)
  have KN := Hid.mk' (markNodeS_bd gn hi s.nd.length s.nd _ (h1.below N0).nm (by omega))
  have RB := Hid.mk' (row3 w 33 (.slice (some ⟨gn, 0, none⟩) s.nd.length s.nd.length) (.slice (some ⟨go, 0, none⟩) s.op.length s.op.length) (.bool s.lg))
  have HK : Hid (KeptIn gn (go + 1) w (w.alloc (.cells #[.slice (some ⟨gn, 0, none⟩) s.nd.length s.nd.length, .slice (some ⟨go, 0, none⟩) s.op.length s.op.length, .bool s.lg] 33))) := Hid.mk' (KeptIn.of_below N0)
  have H2 := Hid.mk' (rowB h2 N0)
  have glt := h2.lt
  have hlt := h1.lt
  clear h1 N0 h2
  generalize hW : w.alloc (.cells #[.slice (some ⟨gn, 0, none⟩) s.nd.length s.nd.length, .slice (some ⟨go, 0, none⟩) s.op.length s.op.length, .bool s.lg] 33) = W at *
  obtain ⟨x0, x1, x2, x3⟩ := cells3 RB.out
  go_enter Tryz.func15, Tryz.ntmps15
  go_wp2_with fail
  clear hW
  refine KN.out.mono ?_
  rintro e w1 ⟨⟨z, rfl, z0, z1⟩, hk⟩
  have KI := Hid.mk' (markInt64S_is z (.slice (some ⟨go, 0, none⟩) s.op.length s.op.length) s.op w1 (iv_at (rowK H2.out hk (.inr h3))) (by omega) (by omega))
  have R1 := rowK RB.out hk (.inr (by omega))
  have HK := Hid.mk' (HK.out.trans (hk.mono (Nat.le_refl _) (by omega)))
  clear KN hk x0 x1 x2 x3
  obtain ⟨x0, x1, x2, x3⟩ := cells3 R1
  clear R1
  go_wp2_with fail
  refine KI.out.mono ?_
  rintro e w2 ⟨rfl, _, t2⟩
  have HK := Hid.mk' (HK.out.trans (t2.kept (lo := gn) (hi := go + 1) (fun k e => by simp [Value.ownBlock] at e; omega)))
  clear t2 KI
  go_wp2
  go_ret
  exact ⟨⟨z + s.op.length, by simp, by omega, by omega⟩, HK.out⟩

set_option maxHeartbeats 1600000 in
theorem markToken_gen (t : TK) (g hi c z : Nat) (w : World) (h : MR g hi t.at_ w) (hhi : hi ≤ w.heap.size) (hl : (t.at_.length : Int) + asz t.at_ ≤ 1048576) (z0 : 0 < z) (z1 : z ≤ 10000000) :
    Calls Tryz.prog 16 #[.agg #[.int .i64 t.kd, .int .i64 t.by_, .string t.nm, .slice (some ⟨g, 0, none⟩) t.at_.length c, .bool t.sh], .int .i64 (z : Int)] w fun e w' => e = .returned (.int .i64 ((z : Int) + (t.at_.length : Int) + (vsz t.at_ : Int))) ∧ KeptIn g hi w w' := by
  have N0 := below_new w (.cells #[.int .i64 t.kd, .int .i64 t.by_, .string t.nm, .slice (some ⟨g, 0, none⟩) t.at_.length c, .bool t.sh] 40)
  have KA := Hid.mk' (markAttrS_gen g hi c z t.at_ _ (h.below N0) (Nat.le_trans hhi N0.size) hl z0 z1)
  have HK : Hid (KeptIn g hi w (w.alloc (.cells #[.int .i64 t.kd, .int .i64 t.by_, .string t.nm, .slice (some ⟨g, 0, none⟩) t.at_.length c, .bool t.sh] 40))) := Hid.mk' (KeptIn.of_below N0)
  clear h N0
  go_enter Tryz.func16, Tryz.ntmps16
  go_wp2_with fail
  refine KA.out.mono ?_
  rintro e w1 ⟨rfl, _, hk⟩
  have HK := Hid.mk' (HK.out.trans hk)
  clear hk KA
  go_wp2
  go_ret
  exact ⟨rfl, HK.out⟩

end Go.Proofs.YtpcpnfpnkkjkcaaGreat

/- A token at any place of a row: the model's fault of it. -/
namespace Go.Proofs.YtpcpnfpnkkjkcaaGreat
open Go.RowKit
set_option linter.unusedVariables false
set_option linter.unusedSimpArgs false

/-- A token's five cells at a place of a row. -/
def T5 (w : World) (g o : Nat) (t : TK) (a : Option Addr) (c : Nat) : Prop :=
  w.cell? ⟨g, o, none⟩ = some (.int .i64 t.kd) ∧ w.cell? ⟨g, o + 1, none⟩ = some (.int .i64 t.by_) ∧ w.cell? ⟨g, o + 2, none⟩ = some (.string t.nm) ∧ w.cell? ⟨g, o + 3, none⟩ = some (.slice a t.at_.length c) ∧ w.cell? ⟨g, o + 4, none⟩ = some (.bool t.sh) ∧ g < w.heap.size

theorem T5.below {w w' : World} {g o : Nat} {t : TK} {a : Option Addr} {c : Nat} (h : T5 w g o t a c) (hb : Below w.heap.size w w') : T5 w' g o t a c :=
  ⟨(hb.cell h.2.2.2.2.2).trans h.1, (hb.cell h.2.2.2.2.2).trans h.2.1, (hb.cell h.2.2.2.2.2).trans h.2.2.1, (hb.cell h.2.2.2.2.2).trans h.2.2.2.1, (hb.cell h.2.2.2.2.2).trans h.2.2.2.2.1, Nat.lt_of_lt_of_le h.2.2.2.2.2 hb.size⟩

set_option maxHeartbeats 3200000 in
set_option maxHeartbeats 3200000 in
theorem l4FormE (t : TK) (g o : Nat) (a : Option Addr) (c : Nat) (w : World) (h : T5 w g o t a c) :
    Calls Tryz.prog 59 #[.pointer (some ⟨g, o, none⟩)] w fun e w' => e = .returned (.bool (tform t)) ∧ w' = w := by
  have K := l1In_any t.kd 1 4 w
  obtain ⟨c0, c1, c2, c3, c4, c5⟩ := id h
  clear h
  by_cases k1 : 1 ≤ t.kd ∧ t.kd ≤ 4
  · have kk : t.kd = 1 ∨ t.kd = 2 ∨ t.kd = 3 ∨ t.kd = 4 := by omega
    rw [show (decide (1 ≤ t.kd) && decide (t.kd ≤ 4)) = true by simp [k1]] at K
    rcases kk with e | e | e | e
    all_goals
      rw [e] at c0 K
      have K := Hid.mk' K
      have E := Hid.mk' e
      clear e k1
      go_enter Tryz.func59, Tryz.ntmps59
      go_wp2_with (first | go_big_skip | (go_at_call 60; refine K.out.mono ?_; rintro e w1 ⟨rfl, rfl⟩))
    all_goals go_ret
    all_goals
      have e := E.out
      exact ⟨by simp [tform, *], rfl⟩
  · rw [show (decide (1 ≤ t.kd) && decide (t.kd ≤ 4)) = false by simp; omega] at K
    have K := Hid.mk' K
    have E : Hid (tform t = false) := Hid.mk' (by
      unfold tform
      rw [show (decide (1 ≤ t.kd) && decide (t.kd ≤ 4)) = false by simp; omega]
      simp)
    have n1 : ¬ t.kd = 1 := by omega
    have n2 : ¬ t.kd = 2 := by omega
    have n3 : ¬ t.kd = 3 := by omega
    clear k1
    go_enter Tryz.func59, Tryz.ntmps59
    go_wp2_with (first | go_big_skip | (go_at_call 60; refine K.out.mono ?_; rintro e w1 ⟨rfl, rfl⟩))
    all_goals go_ret
    all_goals exact ⟨by rw [E.out]; rfl, rfl⟩

set_option maxHeartbeats 3200000 in
theorem l4FaultE (t : TK) (g o : Nat) (a : Option Addr) (c : Nat) (w : World) (h : T5 w g o t a c) (ha : AAt w a t.at_) (hc : t.at_.length ≤ c) (hn : (t.nm.size : Int) ≤ 1048576) (hl : (t.at_.length : Int) + asz t.at_ ≤ 1048576) :
    Calls Tryz.prog 34 #[.pointer (some ⟨g, o, none⟩)] w fun e w' => e = .returned (.int .i64 (tfault t)) ∧ Below w.heap.size w w' := by
  have KF := l4FormE t g o a c w h
  have KI := l1In_any t.by_ 0 255 w
  have KN := l4Name_any t.nm w (by omega)
  have KA := Hid.mk' (l4Attrs_any a c t.at_ w ha hc hl)
  obtain ⟨c0, c1, c2, c3, c4, c5⟩ := id h
  clear h ha
  cases hf : tform t with
  | false =>
    rw [hf] at KF
    have KF := Hid.mk' KF
    have E : Hid (tfault t = 1) := Hid.mk' (by unfold tfault; rw [hf]; rfl)
    clear KI KN
    go_enter Tryz.func34, Tryz.ntmps34
    go_wp2_with fail
    refine KF.out.mono ?_
    rintro e w1 ⟨rfl, rfl⟩
    go_wp2
    go_ret
    exact ⟨by rw [E.out]; rfl, Below.refl _ _⟩
  | true =>
    rw [hf] at KF
    have KF := Hid.mk' KF
    by_cases hb : 0 ≤ t.by_ ∧ t.by_ ≤ 255
    · rw [show (decide (0 ≤ t.by_) && decide (t.by_ ≤ 255)) = true by simp [hb]] at KI
      have KI := Hid.mk' KI
      by_cases hk : t.kd = 2 ∨ t.kd = 3
      · cases hnm : nmB t.nm with
        | false =>
          rw [hnm] at KN
          have KN := Hid.mk' KN
          have E : Hid (tfault t = 5) := Hid.mk' (by unfold tfault; rw [if_pos hf, if_pos hb, if_pos ⟨hk, hnm⟩])
          clear hb
          rcases hk with e | e
          all_goals
            rw [e] at c0
            clear e
            go_enter Tryz.func34, Tryz.ntmps34
            go_wp2_with (first | go_big_skip | (go_at_call 59; refine KF.out.mono ?_; rintro e w1 ⟨rfl, rfl⟩) | (go_at_call 60; refine KI.out.mono ?_; rintro e w1 ⟨rfl, rfl⟩) | (go_at_call 61; refine KN.out.mono ?_; rintro e w1 ⟨rfl, rfl⟩))
            go_ret
            exact ⟨by rw [E.out]; rfl, Below.refl _ _⟩
        | true =>
          rw [hnm] at KN
          have KN := Hid.mk' KN
          have E : Hid (tfault t = afault t.at_) := Hid.mk' (by unfold tfault; rw [if_pos hf, if_pos hb, if_neg (by rw [hnm]; simp)])
          clear hb
          rcases hk with e | e
          all_goals
            rw [e] at c0
            clear e
            go_enter Tryz.func34, Tryz.ntmps34
            go_wp2_with (first | go_big_skip | (go_at_call 59; refine KF.out.mono ?_; rintro e w1 ⟨rfl, rfl⟩) | (go_at_call 60; refine KI.out.mono ?_; rintro e w1 ⟨rfl, rfl⟩) | (go_at_call 61; refine KN.out.mono ?_; rintro e w1 ⟨rfl, rfl⟩) | (go_at_call 62; refine KA.out.mono ?_; rintro e w1 ⟨rfl, hbb⟩; have HB := Hid.mk' hbb; clear hbb))
            go_ret
            exact ⟨by rw [E.out]; rfl, HB.out⟩
      · have n2 : ¬ t.kd = 2 := fun e => hk (.inl e)
        have n3 : ¬ t.kd = 3 := fun e => hk (.inr e)
        have E : Hid (tfault t = afault t.at_) := Hid.mk' (by unfold tfault; rw [if_pos hf, if_pos hb, if_neg (fun h => hk h.1)])
        clear hb hk KN
        go_enter Tryz.func34, Tryz.ntmps34
        go_wp2_with (first | go_big_skip | (go_at_call 59; refine KF.out.mono ?_; rintro e w1 ⟨rfl, rfl⟩) | (go_at_call 60; refine KI.out.mono ?_; rintro e w1 ⟨rfl, rfl⟩) | (go_at_call 62; refine KA.out.mono ?_; rintro e w1 ⟨rfl, hbb⟩; have HB := Hid.mk' hbb; clear hbb))
        go_ret
        exact ⟨by rw [E.out]; rfl, HB.out⟩
    · rw [show (decide (0 ≤ t.by_) && decide (t.by_ ≤ 255)) = false by simp; omega] at KI
      have KI := Hid.mk' KI
      have E : Hid (tfault t = 3) := Hid.mk' (by unfold tfault; rw [if_pos hf, if_neg hb])
      clear hb KN
      go_enter Tryz.func34, Tryz.ntmps34
      go_wp2_with (first | (go_at_call 59; refine KF.out.mono ?_; rintro e w1 ⟨rfl, rfl⟩) | (go_at_call 60; refine KI.out.mono ?_; rintro e w1 ⟨rfl, rfl⟩))
      go_ret
      exact ⟨by rw [E.out]; rfl, Below.refl _ _⟩

end Go.Proofs.YtpcpnfpnkkjkcaaGreat
