/- A node is put behind the others: the model's l7Add, the program's putNode. -/
import Derived.Test.YthcajggbcanmdaaGreatDoorU14
set_option linter.unusedVariables false
set_option linter.unusedSimpArgs false
namespace Go.Proofs.YthcajggbcanmdaaGreatDoor
open Go.RowKit

theorem OpP.row {τ : Nat → Nat} {lo : Nat} {w : World} {nd : List ND} {op : List Int} {v : Value} (h : OpP false τ lo w nd op v) : ∃ p d, v = .slice p op.length d ∧ IAt w p op := (OI.of_own h.1).len

set_option maxHeartbeats 800000 in
theorem up_any (τ : Nat → Nat) (lo : Nat) (nd : List ND) (op : List Int) (k : Nat) (v : Value) (w : World) (h : OE τ lo w nd op k v) :
    Calls Tryz.prog 173 #[v] w fun e w' => e = .returned (.int .i64 (aheadI op k)) ∧ w' = w := by
  cases k with
  | zero =>
    have e : v = .pointer none := h
    subst e
    go_enter Tryz.func173, Tryz.ntmps173
    go_wp2
    go_ret
    exact ⟨rfl, rfl⟩
  | succ k =>
    obtain ⟨b, u, rfl, _, _, hr, _, _⟩ := h
    obtain ⟨c0, c1, c2, c3⟩ := cells3 hr
    have E := Hid.mk' (aheadI_succ op k)
    clear hr
    go_enter Tryz.func173, Tryz.ntmps173
    go_wp2
    go_ret
    exact ⟨by rw [E.out]; rfl, rfl⟩

theorem OpP.iat {τ : Nat → Nat} {lo : Nat} {w : World} {nd : List ND} {op : List Int} {p : Option Addr} {d : Nat} (h : OpP false τ lo w nd op (.slice p op.length d)) : IAt w p op := by
  obtain ⟨p', d', e, hi⟩ := h.row
  cases e
  exact hi

theorem frz3' {w : World} {g : Nat} {T : TypeId} {f : Nat → Value} (h : w.rowIs g T 3 f) : w.frozen? ⟨g, 0, none⟩ = false ∧ w.frozen? ⟨g, 1, none⟩ = false ∧ w.frozen? ⟨g, 2, none⟩ = false := ⟨h.frozen 0, h.frozen 1, h.frozen 2⟩

theorem becomeLargeF_any (Tb : TypeId) (hT : Tb = 138) (w0 : World) (lo g : Nat) (s : BS) (w : World) (τ : Nat → Nat) (vn vo : Value) (va vt : Nat → Value) (us : Nat → List Value) (h : ZS true Tb w0 lo g s w τ vn vo va vt us) :
    Calls Tryz.prog 175 #[.pointer (some ⟨g, 0, none⟩)] w fun e w' => (∃ v, e = .returned v) ∧ ZB true Tb w0 lo g bigS w' ∧ Kp (fun k => τ k = 2 ∧ ¬ k = g) w w' := by
  have HB := Hid.mk' h.big
  obtain ⟨c0, c1, c2, c3⟩ := cells3 h.box
  obtain ⟨f0, f1, f2⟩ := frz3' h.box
  clear h
  go_enter Tryz.func175, Tryz.ntmps175
  go_wp2
  go_end0
  exact ⟨⟨_, rfl⟩, HB.out, (((Kp.refl _ _).setCell (q := ⟨g, 0, none⟩) (fun e => e.2 rfl) _).setCell (q := ⟨g, 1, none⟩) (fun e => e.2 rfl) _).setCell (q := ⟨g, 2, none⟩) (fun e => e.2 rfl) _⟩

theorem becomeLarge_any (Tb : TypeId) (hT : Tb = 138) (w0 : World) (lo g : Nat) (s : BS) (w : World) (τ : Nat → Nat) (vn vo : Value) (va vt : Nat → Value) (us : Nat → List Value) (h : ZS true Tb w0 lo g s w τ vn vo va vt us) :
    Calls Tryz.prog 175 #[.pointer (some ⟨g, 0, none⟩)] w fun e w' => (∃ v, e = .returned v) ∧ ZB true Tb w0 lo g bigS w' :=
  (becomeLargeF_any Tb hT w0 lo g s w τ vn vo va vt us h).mono fun e w' h => ⟨h.1, h.2.1⟩

set_option maxRecDepth 100000 in
set_option maxHeartbeats 12800000 in
theorem addSF_any (w0 : World) (lo g : Nat) (s : BS) (wa : World) (τ : Nat → Nat) (vn vo : Value) (va vt : Nat → Value) (us : Nat → List Value) (h : ZS false 85 w0 lo g s wa τ vn vo va vt us) (hs : GS s) (lo1 : Nat) (tg : ByteArray) (at_ : List AT) (tx : List Int) (a x : Value) (u : List Value) (u0 : Int) (w : World) (hb : Below wa.heap.size wa w) (ha : OA lo1 w a at_ u) (h1 : wa.heap.size ≤ lo1) (hx : w.ownsRow lo1 5 1 x tx.length (bcs tx)) (hap : ∀ k, x.ownBlock = some k → a.ownBlock ≠ some k ∧ ∀ i, i < at_.length → (u.getD i undef).ownBlock ≠ some k) :
    Calls Tryz.prog 132 #[.pointer (some ⟨g, 0, none⟩), .agg #[.int .i64 u0, .string tg, a, x]] w fun e w' => (∃ v, e = .returned v) ∧ ZB false 85 w0 lo g (addX s tg at_ tx) w' ∧ Kp (fun k => τ k = 2 ∧ ¬ k = g) w w' := by
  obtain ⟨pa, ca, ea, _⟩ := own_len ha.row
  subst ea
  obtain ⟨px, cx, ex, _⟩ := own_len hx
  subst ex
  obtain ⟨pn, cn, en, _⟩ := own_len h.ns.row
  subst en
  obtain ⟨po, co, eo, _⟩ := h.op.row
  subst eo
  have n60 := hs.n
  have N0 := below_new w (.cells #[.int .i64 u0, .string tg, .slice pa at_.length ca, .slice px tx.length cx] 91)
  have M0 := hb.trans (N0.mono hb.size)
  have NW := Hid.mk' N0
  have Z0 := h.below M0
  have RB := row4 w 91 (.int .i64 u0) (.string tg) (.slice pa at_.length ca) (.slice px tx.length cx)
  have gx : g < w.heap.size := Nat.lt_of_lt_of_le h.box.lt hb.size
  have HZ := Hid.mk' h
  have HS := Hid.mk' hs
  have HAP := Hid.mk' hap
  have AN : Hid (∀ j, (Value.slice pa at_.length ca).ownBlock = some j → ¬ j = w.heap.size) := Hid.mk' (fun j e ej => by have := (ha.row.lt j e).2; omega)
  have UN : Hid (∀ i, i < at_.length → ∀ j, (u.getD i undef).ownBlock = some j → ¬ j = w.heap.size) := Hid.mk' (fun i hi j e ej => by have := (ha.val i hi).lt j e; omega)
  have XN : Hid (∀ j, (Value.slice px tx.length cx).ownBlock = some j → ¬ j = w.heap.size) := Hid.mk' (fun j e ej => by have := (hx.lt j e).2; omega)
  have HAA := Hid.mk' (ha.below N0)
  have HXX := Hid.mk' (own_keep hx N0)
  have HM := Hid.mk' M0
  have HZ0 := Hid.mk' Z0
  have HRB := Hid.mk' RB
  have szw : wa.heap.size ≤ w.heap.size := hb.size
  clear h hs hap ha hx hb N0 M0 Z0 RB
  generalize hW : w.alloc (.cells #[.int .i64 u0, .string tg, .slice pa at_.length ca, .slice px tx.length cx] 91) = W at *
  obtain ⟨c0, c1, c2, c3⟩ := cells3 HZ0.out.box
  by_cases h6 : 60 ≤ s.nd.length
  · have E : Hid (addX s tg at_ tx = bigS) := Hid.mk' (by unfold addX; rw [if_pos h6])
    have h6' : (s.nd.length : Int) ≥ 60 := by omega
    have HBG := Hid.mk' HZ0.out.big
    obtain ⟨f0, f1, f2⟩ := frz3' HZ0.out.box
    go_enter Tryz.func132, Tryz.ntmps132
    go_wp2
    clear hW
    (try simp only [Exit.inBlock, Exit.then])
    refine bodyPost_ret (results_none rfl _ _ _) rfl ?_
    exact ⟨⟨_, rfl⟩, by rw [E.out]; exact HBG.out, (((Kp.of_below NW.out).setCell (q := ⟨g, 0, none⟩) (fun e => e.2 rfl) _).setCell (q := ⟨g, 1, none⟩) (fun e => e.2 rfl) _).setCell (q := ⟨g, 2, none⟩) (fun e => e.2 rfl) _⟩
  have h6' : ¬ (s.nd.length : Int) ≥ 60 := by omega
  have KT := Hid.mk' (l7Top_any po co s.op W HZ0.out.op.iat (by have := HS.out.o; omega))
  obtain ⟨tp, htp⟩ : ∃ tp, aheadI s.op s.op.length = tp := ⟨_, rfl⟩
  have TP := Hid.mk' htp
  rw [htp] at KT
  clear htp
  obtain ⟨d0, d1, d2, d3, d4⟩ := cells4 HRB.out
  have e0 := HRB.out.frozen 0
  have KK := (Kp.refl (fun j => ¬ j = w.heap.size) W).setCell (q := ⟨w.heap.size, 0, none⟩) (fun e => e rfl) (.int .i64 tp)
  have BB : Below w.heap.size W (W.setCell ⟨w.heap.size, 0, none⟩ (.int .i64 tp)) := (Below.refl _ _).setCell (p := ⟨w.heap.size, 0, none⟩) (Nat.le_refl _) _
  have HM2 : Hid (Below wa.heap.size wa (W.setCell ⟨w.heap.size, 0, none⟩ (.int .i64 tp))) := Hid.mk' (HM.out.trans (BB.mono szw))
  have HZ1 := Hid.mk' (HZ.out.below HM2.out)
  have HAA := Hid.mk' (HAA.out.keepOf (w' := W.setCell ⟨w.heap.size, 0, none⟩ (.int .i64 tp)) (fun j e hl => KK.block j hl (AN.out j e)) (fun i hi j e hl => KK.block j hl (UN.out i hi j e)))
  have HXX := Hid.mk' (own_of (w' := W.setCell ⟨w.heap.size, 0, none⟩ (.int .i64 tp)) HXX.out (Nat.le_refl _) (fun j e _ => KK.block j (HXX.out.lt j e).2 (XN.out j e)))
  have HR1 := Hid.mk' ((HRB.out.set 0 (.int .i64 tp)).congr (g := r4 (.int .i64 tp) (.string tg) (.slice pa at_.length ca) (.slice px tx.length cx)) (fun i hi => by have h4 : i = 0 ∨ i = 1 ∨ i = 2 ∨ i = 3 := (by omega); rcases h4 with rfl | rfl | rfl | rfl <;> rfl))
  have NV : Hid (Below w.heap.size w (W.setCell ⟨w.heap.size, 0, none⟩ (.int .i64 tp))) := Hid.mk' (NW.out.trans BB)
  clear KK BB
  go_enter Tryz.func132, Tryz.ntmps132
  go_wp2_with fail
  clear hW
  refine KT.out.mono ?_
  rintro e w1 ⟨rfl, hw1⟩
  obtain rfl := hw1.symm
  clear KT
  generalize hV : W.setCell ⟨w.heap.size, 0, none⟩ (.int .i64 tp) = V at *
  go_wp2_with fail
  clear hV c0 c1 c2 c3 d0 d1 d2 d3 d4 e0
  obtain ⟨b0, b1, b2, b3⟩ := cells3 HZ1.out.box
  obtain ⟨d0, d1, d2, d3, d4⟩ := cells4 HR1.out
  have xn0 := World.new_ne V ⟨g, 0, none⟩ b0
  have xn1 := World.new_ne V ⟨w.heap.size, 3, none⟩ d3
  dsimp only at xn0 xn1
  have VB := below_new V (.cells #[.int .i64 tp, .string tg, .slice pa at_.length ca, .slice px tx.length cx] 91)
  have HM3 := Hid.mk' (HM2.out.trans (VB.drew.mono HM2.out.size))
  have HZ2 := Hid.mk' (HZ1.out.below VB.drew)
  have NV2 := Hid.mk' (NV.out.trans (VB.drew.mono NV.out.size))
  have HA2 := Hid.mk' (HAA.out.below VB.drew)
  have HX2 := Hid.mk' (own_keep HXX.out VB.drew)
  have HR2 := Hid.mk' (rowB HR1.out VB.drew)
  have NC := Hid.mk' (one_node V 91 (.int .i64 tp) (.string tg) (.slice pa at_.length ca) (.slice px tx.length cx) V.heap.size rfl)
  clear VB
  refine wp_region_held_drew (S := fun w' => w'.cell? ⟨w.heap.size, 0, none⟩ = some (.int .i64 tp) ∧ w'.cell? ⟨w.heap.size, 1, none⟩ = some (.string tg) ∧ w'.cell? ⟨w.heap.size, 2, none⟩ = some (.slice pa at_.length ca) ∧ w'.cell? ⟨w.heap.size, 3, none⟩ = some (.slice px tx.length cx)) (by kernel_rfl) (by simp [*]) (fun hHeld => ?_)
  refine wpAnyH_take (i := 0) (oi := ⟨_, _, _, _, _, _⟩) (v := ?_) rfl (by kernel_rfl) (by kernel_rfl) (by kernel_rfl) (fun _ _ _ h => h) (Or.inl ⟨by rfl, ?_⟩) (by assumption) ?_
  rotate_left
  · (intro w hSw; (try dsimp only at hSw); go_simp; (try with_reducible rfl))
  try simp only [Act.put, zA, zB, zC]
  refine wpAnyH_take (i := 1) (oi := ⟨_, _, _, _, _, _⟩) (v := ?_) rfl (by kernel_rfl) (by kernel_rfl) (by kernel_rfl) (fun _ _ _ h => h) (Or.inl ⟨by rfl, ?_⟩) (by assumption) ?_
  rotate_left
  · (intro w hSw; (try dsimp only at hSw); go_simp; (try with_reducible rfl))
  try simp only [Act.put, zA, zB, zC]
  refine wpAnyH_take (i := 2) (oi := ⟨_, _, _, _, _, _⟩) (v := ?_) rfl (by kernel_rfl) (by kernel_rfl) (by kernel_rfl) (fun _ _ _ h => h) (Or.inl ⟨by rfl, ?_⟩) (by assumption) ?_
  rotate_left
  · (intro w hSw; (try dsimp only at hSw); go_simp; (try with_reducible rfl))
  try simp only [Act.put, zA, zB, zC]
  refine wpAnyH_take (i := 3) (oi := ⟨_, _, _, _, _, _⟩) (v := ?_) rfl (by kernel_rfl) (by kernel_rfl) (by kernel_rfl) (fun _ _ _ h => h) (Or.inl ⟨by rfl, ?_⟩) (by assumption) ?_
  rotate_left
  · (intro w hSw; (try dsimp only at hSw); go_simp; (try with_reducible rfl))
  try simp only [Act.put, zA, zB, zC]
  refine wpAnyH_take (i := 5) (oi := ⟨_, _, _, _, _, _⟩) (v := ?_) rfl (by kernel_rfl) (by kernel_rfl) (by kernel_rfl) (fun _ _ _ h => h) (Or.inl ⟨by rfl, ?_⟩) (by assumption) ?_
  rotate_left
  · (intro w hSw; (try dsimp only at hSw); go_simp; (try with_reducible rfl))
  try simp only [Act.put, zA, zB, zC]
  refine wpAnyH_ready (rs := [4, 6]) (by kernel_rfl) (by simp) ?_
  refine AllReadyH.cons (o := ⟨_, _, _, _, _, _⟩) rfl (fun K hK => ?_) (AllReadyH.cons (o := ⟨_, _, _, _, _, _⟩) rfl (fun K hK => ?_) AllReadyH.nil)
  · go_simp
    refine hK.out _ _ (by (try dsimp only); go_keep) (fun hHeld => ?_)
    clear hK K
    try simp only [Act.put, zA, zB, zC]
    refine wpAnyH_ready (rs := [6]) (by kernel_rfl) (by simp) ?_
    refine AllReadyH.cons (o := ⟨_, _, _, _, _, _⟩) rfl (fun K hK => ?_) AllReadyH.nil
    go_simp
    refine hK.out _ _ (by (try dsimp only); go_keep) (fun hHeld => ?_)
    clear hK K
    try simp only [Act.put, zA, zB, zC]
    refine wpAnyH_ready (rs := [7]) (by kernel_rfl) (by simp) ?_
    refine AllReadyH.cons (o := ⟨_, _, _, _, _, _⟩) rfl (fun K hK => ?_) AllReadyH.nil
    refine step_append_at rfl (.tmp 23) (.tmp 25) 41 rfl lo 91 (.agg #[.int .i64 0, .string ⟨#[]⟩, .slice none 0 0, .slice none 0 0]) 4 72 Tryz.underlying41 Tryz.info91 rfl (by decide) _ _ _ rfl HZ2.out.ns.row _ 1 _ [.int .i64 tp, .string tg, .slice pa at_.length ca, .slice px tx.length cx] rfl rfl (.inr ⟨_, rfl, NC.out⟩) (by simp [Value.oneCell']) (by unfold maxLen; omega) (by omega) HZ2.out.sz ?_
    intro v2 w2 ho hgr hat
    obtain ⟨av2, cv2, ev', _⟩ := own_len ho
    subst ev'
    have ho' := ho
    rw [← TP.out] at ho'
    have HQ := Hid.mk' (HZ.out.add HS.out (by omega) HM3.out HA2.out h1 HX2.out HAP.out ho' hgr hat)
    have vne : ∀ j, (Value.slice pn s.nd.length cn).ownBlock = some j → ¬ j = g ∧ ¬ j = w.heap.size := fun j e => ⟨fun ej => by have h8 := HZ.out.ns.rl j e; have h9 := HZ.out.gl; rw [← ej] at h9; omega, fun ej => by have := (HZ.out.ns.row.lt j e).2; omega⟩
    have HKF := Hid.mk' (((Kp.of_below (p := fun k => τ k = 2 ∧ ¬ k = g) NV2.out).trans (Kp.of_grown hgr (fun k e e2 => by have := HZ.out.ns.rl k e2.symm; omega))).setCell (q := ⟨g, 0, none⟩) (fun e => e.2 rfl) (.slice av2 (s.nd.length + 1) cv2))
    have z0 := hgr.cell (a := ⟨g, 0, none⟩) (cells3 HZ2.out.box).1 (fun e => (vne _ e.symm).1 rfl)
    have z1 : w2.frozen? ⟨g, 0, none⟩ = false := (HZ2.out.box.of_block (hgr.block g HZ2.out.box.lt (fun e => (vne _ e.symm).1 rfl))).frozen 0
    obtain ⟨t0, t1, t2, t3, t4⟩ := cells4 (HR2.out.of_block (hgr.block w.heap.size HR2.out.lt (fun e => (vne _ e.symm).2 rfl)))
    clear ho ho' hgr hat
    refine hK.out _ _ (by (try dsimp only); go_keep) (fun hHeld => ?_)
    clear hK K
    try simp only [Act.put, zA, zB, zC]
    refine wpAnyH_take (i := 8) (oi := ⟨_, _, _, _, _, _⟩) (v := ?_) rfl (by kernel_rfl) (by kernel_rfl) (by kernel_rfl) (fun _ _ _ h => h) (Or.inl ⟨by rfl, ?_⟩) (by assumption) ?_
    rotate_left
    · (intro w hSw; (try dsimp only at hSw); go_simp; (try with_reducible rfl))
    try simp only [Act.put, zA, zB, zC]
    refine wpAnyH_take (i := 9) (oi := ⟨_, _, _, _, _, _⟩) (v := ?_) rfl (by kernel_rfl) (by kernel_rfl) (by kernel_rfl) (fun _ _ _ h => h) (Or.inl ⟨by rfl, ?_⟩) (by assumption) ?_
    rotate_left
    · (intro w hSw; (try dsimp only at hSw); go_simp; (try with_reducible rfl))
    try simp only [Act.put, zA, zB, zC]
    refine wpAnyH_ready (rs := [10]) (by kernel_rfl) (by simp) ?_
    refine AllReadyH.cons (o := ⟨_, _, _, _, _, _⟩) rfl (fun K hK => ?_) AllReadyH.nil
    go_simp
    have gx' : g ≠ w.heap.size := Nat.ne_of_lt gx
    refine hK.out _ _ (by (try dsimp only); go_keep) (fun hHeld => ?_)
    clear hK K
    try simp only [Act.put, zA, zB, zC]
    refine wpAnyH_done (by kernel_rfl) ?_ _
    go_end0
    exact ⟨⟨_, rfl⟩, HQ.out, HKF.out⟩
  · go_simp
    refine hK.out _ _ (by (try dsimp only); go_keep) (fun hHeld => ?_)
    clear hK K
    try simp only [Act.put, zA, zB, zC]
    refine wpAnyH_ready (rs := [4]) (by kernel_rfl) (by simp) ?_
    refine AllReadyH.cons (o := ⟨_, _, _, _, _, _⟩) rfl (fun K hK => ?_) AllReadyH.nil
    go_simp
    refine hK.out _ _ (by (try dsimp only); go_keep) (fun hHeld => ?_)
    clear hK K
    try simp only [Act.put, zA, zB, zC]
    refine wpAnyH_ready (rs := [7]) (by kernel_rfl) (by simp) ?_
    refine AllReadyH.cons (o := ⟨_, _, _, _, _, _⟩) rfl (fun K hK => ?_) AllReadyH.nil
    refine step_append_at rfl (.tmp 23) (.tmp 25) 41 rfl lo 91 (.agg #[.int .i64 0, .string ⟨#[]⟩, .slice none 0 0, .slice none 0 0]) 4 72 Tryz.underlying41 Tryz.info91 rfl (by decide) _ _ _ rfl HZ2.out.ns.row _ 1 _ [.int .i64 tp, .string tg, .slice pa at_.length ca, .slice px tx.length cx] rfl rfl (.inr ⟨_, rfl, NC.out⟩) (by simp [Value.oneCell']) (by unfold maxLen; omega) (by omega) HZ2.out.sz ?_
    intro v2 w2 ho hgr hat
    obtain ⟨av2, cv2, ev', _⟩ := own_len ho
    subst ev'
    have ho' := ho
    rw [← TP.out] at ho'
    have HQ := Hid.mk' (HZ.out.add HS.out (by omega) HM3.out HA2.out h1 HX2.out HAP.out ho' hgr hat)
    have vne : ∀ j, (Value.slice pn s.nd.length cn).ownBlock = some j → ¬ j = g ∧ ¬ j = w.heap.size := fun j e => ⟨fun ej => by have h8 := HZ.out.ns.rl j e; have h9 := HZ.out.gl; rw [← ej] at h9; omega, fun ej => by have := (HZ.out.ns.row.lt j e).2; omega⟩
    have HKF := Hid.mk' (((Kp.of_below (p := fun k => τ k = 2 ∧ ¬ k = g) NV2.out).trans (Kp.of_grown hgr (fun k e e2 => by have := HZ.out.ns.rl k e2.symm; omega))).setCell (q := ⟨g, 0, none⟩) (fun e => e.2 rfl) (.slice av2 (s.nd.length + 1) cv2))
    have z0 := hgr.cell (a := ⟨g, 0, none⟩) (cells3 HZ2.out.box).1 (fun e => (vne _ e.symm).1 rfl)
    have z1 : w2.frozen? ⟨g, 0, none⟩ = false := (HZ2.out.box.of_block (hgr.block g HZ2.out.box.lt (fun e => (vne _ e.symm).1 rfl))).frozen 0
    obtain ⟨t0, t1, t2, t3, t4⟩ := cells4 (HR2.out.of_block (hgr.block w.heap.size HR2.out.lt (fun e => (vne _ e.symm).2 rfl)))
    clear ho ho' hgr hat
    refine hK.out _ _ (by (try dsimp only); go_keep) (fun hHeld => ?_)
    clear hK K
    try simp only [Act.put, zA, zB, zC]
    refine wpAnyH_take (i := 8) (oi := ⟨_, _, _, _, _, _⟩) (v := ?_) rfl (by kernel_rfl) (by kernel_rfl) (by kernel_rfl) (fun _ _ _ h => h) (Or.inl ⟨by rfl, ?_⟩) (by assumption) ?_
    rotate_left
    · (intro w hSw; (try dsimp only at hSw); go_simp; (try with_reducible rfl))
    try simp only [Act.put, zA, zB, zC]
    refine wpAnyH_take (i := 9) (oi := ⟨_, _, _, _, _, _⟩) (v := ?_) rfl (by kernel_rfl) (by kernel_rfl) (by kernel_rfl) (fun _ _ _ h => h) (Or.inl ⟨by rfl, ?_⟩) (by assumption) ?_
    rotate_left
    · (intro w hSw; (try dsimp only at hSw); go_simp; (try with_reducible rfl))
    try simp only [Act.put, zA, zB, zC]
    refine wpAnyH_ready (rs := [10]) (by kernel_rfl) (by simp) ?_
    refine AllReadyH.cons (o := ⟨_, _, _, _, _, _⟩) rfl (fun K hK => ?_) AllReadyH.nil
    go_simp
    have gx' : g ≠ w.heap.size := Nat.ne_of_lt gx
    refine hK.out _ _ (by (try dsimp only); go_keep) (fun hHeld => ?_)
    clear hK K
    try simp only [Act.put, zA, zB, zC]
    refine wpAnyH_done (by kernel_rfl) ?_ _
    go_end0
    exact ⟨⟨_, rfl⟩, HQ.out, HKF.out⟩

theorem addS_any (w0 : World) (lo g : Nat) (s : BS) (wa : World) (τ : Nat → Nat) (vn vo : Value) (va vt : Nat → Value) (us : Nat → List Value) (h : ZS false 85 w0 lo g s wa τ vn vo va vt us) (hs : GS s) (lo1 : Nat) (tg : ByteArray) (at_ : List AT) (tx : List Int) (a x : Value) (u : List Value) (u0 : Int) (w : World) (hb : Below wa.heap.size wa w) (ha : OA lo1 w a at_ u) (h1 : wa.heap.size ≤ lo1) (hx : w.ownsRow lo1 5 1 x tx.length (bcs tx)) (hap : ∀ k, x.ownBlock = some k → a.ownBlock ≠ some k ∧ ∀ i, i < at_.length → (u.getD i undef).ownBlock ≠ some k) :
    Calls Tryz.prog 132 #[.pointer (some ⟨g, 0, none⟩), .agg #[.int .i64 u0, .string tg, a, x]] w fun e w' => (∃ v, e = .returned v) ∧ ZB false 85 w0 lo g (addX s tg at_ tx) w' :=
  (addSF_any w0 lo g s wa τ vn vo va vt us h hs lo1 tg at_ tx a x u u0 w hb ha h1 hx hap).mono fun e w' h => ⟨h.1, h.2.1⟩

set_option maxRecDepth 100000 in
set_option maxHeartbeats 12800000 in
theorem addIF_any (w0 : World) (lo g : Nat) (s : BS) (wa : World) (τ : Nat → Nat) (vn vo : Value) (va vt : Nat → Value) (us : Nat → List Value) (h : ZS true 138 w0 lo g s wa τ vn vo va vt us) (hs : GS s) (lo1 : Nat) (tg : ByteArray) (at_ : List AT) (tx : List Int) (a x : Value) (u : List Value) (u0 : Int) (w : World) (hb : Below wa.heap.size wa w) (ha : OA lo1 w a at_ u) (h1 : wa.heap.size ≤ lo1) (hx : w.ownsRow lo1 5 1 x tx.length (bcs tx)) (hap : ∀ k, x.ownBlock = some k → a.ownBlock ≠ some k ∧ ∀ i, i < at_.length → (u.getD i undef).ownBlock ≠ some k) :
    Calls Tryz.prog 174 #[.pointer (some ⟨g, 0, none⟩), .agg #[.int .i64 u0, .string tg, a, x]] w fun e w' => (∃ v, e = .returned v) ∧ ZB true 138 w0 lo g (addX s tg at_ tx) w' ∧ Kp (fun k => τ k = 2 ∧ ¬ k = g) w w' := by
  obtain ⟨pa, ca, ea, _⟩ := own_len ha.row
  subst ea
  obtain ⟨px, cx, ex, _⟩ := own_len hx
  subst ex
  obtain ⟨pn, cn, en, _⟩ := own_len h.ns.row
  subst en
  obtain ⟨po, eo⟩ := OE.ptr h.op
  subst eo
  have n60 := hs.n
  have N0 := below_new w (.cells #[.int .i64 u0, .string tg, .slice pa at_.length ca, .slice px tx.length cx] 91)
  have M0 := hb.trans (N0.mono hb.size)
  have NW := Hid.mk' N0
  have Z0 := h.below M0
  have RB := row4 w 91 (.int .i64 u0) (.string tg) (.slice pa at_.length ca) (.slice px tx.length cx)
  have gx : g < w.heap.size := Nat.lt_of_lt_of_le h.box.lt hb.size
  have HZ := Hid.mk' h
  have HS := Hid.mk' hs
  have HAP := Hid.mk' hap
  have AN : Hid (∀ j, (Value.slice pa at_.length ca).ownBlock = some j → ¬ j = w.heap.size) := Hid.mk' (fun j e ej => by have := (ha.row.lt j e).2; omega)
  have UN : Hid (∀ i, i < at_.length → ∀ j, (u.getD i undef).ownBlock = some j → ¬ j = w.heap.size) := Hid.mk' (fun i hi j e ej => by have := (ha.val i hi).lt j e; omega)
  have XN : Hid (∀ j, (Value.slice px tx.length cx).ownBlock = some j → ¬ j = w.heap.size) := Hid.mk' (fun j e ej => by have := (hx.lt j e).2; omega)
  have HAA := Hid.mk' (ha.below N0)
  have HXX := Hid.mk' (own_keep hx N0)
  have HM := Hid.mk' M0
  have HZ0 := Hid.mk' Z0
  have HRB := Hid.mk' RB
  have szw : wa.heap.size ≤ w.heap.size := hb.size
  clear h hs hap ha hx hb N0 M0 Z0 RB
  generalize hW : w.alloc (.cells #[.int .i64 u0, .string tg, .slice pa at_.length ca, .slice px tx.length cx] 91) = W at *
  obtain ⟨c0, c1, c2, c3⟩ := cells3 HZ0.out.box
  by_cases h6 : 60 ≤ s.nd.length
  · have E : Hid (addX s tg at_ tx = bigS) := Hid.mk' (by unfold addX; rw [if_pos h6])
    have h6' : (s.nd.length : Int) ≥ 60 := by omega
    have KL := Hid.mk' (becomeLargeF_any _ rfl w0 lo g s W τ (.slice pn s.nd.length cn) (.pointer po) va vt us HZ0.out)
    go_enter Tryz.func174, Tryz.ntmps174
    go_wp2_with fail
    clear hW
    refine KL.out.mono ?_
    rintro e w1 ⟨⟨v9, rfl⟩, hz, hkf⟩
    have HZ1 := Hid.mk' hz
    have HKF := Hid.mk' ((Kp.of_below NW.out).trans hkf)
    clear hz KL hkf
    go_wp2
    (try simp only [Exit.inBlock, Exit.then])
    refine bodyPost_ret (results_none rfl _ _ _) rfl ?_
    exact ⟨⟨_, rfl⟩, by rw [E.out]; exact HZ1.out, HKF.out⟩
  have h6' : ¬ (s.nd.length : Int) ≥ 60 := by omega
  have KT := Hid.mk' (up_any τ lo s.nd s.op s.op.length (.pointer po) W HZ0.out.op)
  obtain ⟨tp, htp⟩ : ∃ tp, aheadI s.op s.op.length = tp := ⟨_, rfl⟩
  have TP := Hid.mk' htp
  rw [htp] at KT
  clear htp
  obtain ⟨d0, d1, d2, d3, d4⟩ := cells4 HRB.out
  have e0 := HRB.out.frozen 0
  have KK := (Kp.refl (fun j => ¬ j = w.heap.size) W).setCell (q := ⟨w.heap.size, 0, none⟩) (fun e => e rfl) (.int .i64 tp)
  have BB : Below w.heap.size W (W.setCell ⟨w.heap.size, 0, none⟩ (.int .i64 tp)) := (Below.refl _ _).setCell (p := ⟨w.heap.size, 0, none⟩) (Nat.le_refl _) _
  have HM2 : Hid (Below wa.heap.size wa (W.setCell ⟨w.heap.size, 0, none⟩ (.int .i64 tp))) := Hid.mk' (HM.out.trans (BB.mono szw))
  have HZ1 := Hid.mk' (HZ.out.below HM2.out)
  have HAA := Hid.mk' (HAA.out.keepOf (w' := W.setCell ⟨w.heap.size, 0, none⟩ (.int .i64 tp)) (fun j e hl => KK.block j hl (AN.out j e)) (fun i hi j e hl => KK.block j hl (UN.out i hi j e)))
  have HXX := Hid.mk' (own_of (w' := W.setCell ⟨w.heap.size, 0, none⟩ (.int .i64 tp)) HXX.out (Nat.le_refl _) (fun j e _ => KK.block j (HXX.out.lt j e).2 (XN.out j e)))
  have HR1 := Hid.mk' ((HRB.out.set 0 (.int .i64 tp)).congr (g := r4 (.int .i64 tp) (.string tg) (.slice pa at_.length ca) (.slice px tx.length cx)) (fun i hi => by have h4 : i = 0 ∨ i = 1 ∨ i = 2 ∨ i = 3 := (by omega); rcases h4 with rfl | rfl | rfl | rfl <;> rfl))
  have NV : Hid (Below w.heap.size w (W.setCell ⟨w.heap.size, 0, none⟩ (.int .i64 tp))) := Hid.mk' (NW.out.trans BB)
  clear KK BB
  go_enter Tryz.func174, Tryz.ntmps174
  go_wp2_with fail
  clear hW
  refine KT.out.mono ?_
  rintro e w1 ⟨rfl, hw1⟩
  obtain rfl := hw1.symm
  clear KT
  generalize hV : W.setCell ⟨w.heap.size, 0, none⟩ (.int .i64 tp) = V at *
  go_wp2_with fail
  clear hV c0 c1 c2 c3 d0 d1 d2 d3 d4 e0
  obtain ⟨b0, b1, b2, b3⟩ := cells3 HZ1.out.box
  obtain ⟨d0, d1, d2, d3, d4⟩ := cells4 HR1.out
  have xn0 := World.new_ne V ⟨g, 0, none⟩ b0
  have xn1 := World.new_ne V ⟨w.heap.size, 3, none⟩ d3
  dsimp only at xn0 xn1
  have VB := below_new V (.cells #[.int .i64 tp, .string tg, .slice pa at_.length ca, .slice px tx.length cx] 91)
  have HM3 := Hid.mk' (HM2.out.trans (VB.drew.mono HM2.out.size))
  have HZ2 := Hid.mk' (HZ1.out.below VB.drew)
  have NV2 := Hid.mk' (NV.out.trans (VB.drew.mono NV.out.size))
  have HA2 := Hid.mk' (HAA.out.below VB.drew)
  have HX2 := Hid.mk' (own_keep HXX.out VB.drew)
  have HR2 := Hid.mk' (rowB HR1.out VB.drew)
  have NC := Hid.mk' (one_node V 91 (.int .i64 tp) (.string tg) (.slice pa at_.length ca) (.slice px tx.length cx) V.heap.size rfl)
  clear VB
  refine wp_region_held_drew (S := fun w' => w'.cell? ⟨w.heap.size, 0, none⟩ = some (.int .i64 tp) ∧ w'.cell? ⟨w.heap.size, 1, none⟩ = some (.string tg) ∧ w'.cell? ⟨w.heap.size, 2, none⟩ = some (.slice pa at_.length ca) ∧ w'.cell? ⟨w.heap.size, 3, none⟩ = some (.slice px tx.length cx)) (by kernel_rfl) (by simp [*]) (fun hHeld => ?_)
  refine wpAnyH_take (i := 0) (oi := ⟨_, _, _, _, _, _⟩) (v := ?_) rfl (by kernel_rfl) (by kernel_rfl) (by kernel_rfl) (fun _ _ _ h => h) (Or.inl ⟨by rfl, ?_⟩) (by assumption) ?_
  rotate_left
  · (intro w hSw; (try dsimp only at hSw); go_simp; (try with_reducible rfl))
  try simp only [Act.put, zA, zB, zC]
  refine wpAnyH_take (i := 1) (oi := ⟨_, _, _, _, _, _⟩) (v := ?_) rfl (by kernel_rfl) (by kernel_rfl) (by kernel_rfl) (fun _ _ _ h => h) (Or.inl ⟨by rfl, ?_⟩) (by assumption) ?_
  rotate_left
  · (intro w hSw; (try dsimp only at hSw); go_simp; (try with_reducible rfl))
  try simp only [Act.put, zA, zB, zC]
  refine wpAnyH_take (i := 2) (oi := ⟨_, _, _, _, _, _⟩) (v := ?_) rfl (by kernel_rfl) (by kernel_rfl) (by kernel_rfl) (fun _ _ _ h => h) (Or.inl ⟨by rfl, ?_⟩) (by assumption) ?_
  rotate_left
  · (intro w hSw; (try dsimp only at hSw); go_simp; (try with_reducible rfl))
  try simp only [Act.put, zA, zB, zC]
  refine wpAnyH_take (i := 3) (oi := ⟨_, _, _, _, _, _⟩) (v := ?_) rfl (by kernel_rfl) (by kernel_rfl) (by kernel_rfl) (fun _ _ _ h => h) (Or.inl ⟨by rfl, ?_⟩) (by assumption) ?_
  rotate_left
  · (intro w hSw; (try dsimp only at hSw); go_simp; (try with_reducible rfl))
  try simp only [Act.put, zA, zB, zC]
  refine wpAnyH_take (i := 5) (oi := ⟨_, _, _, _, _, _⟩) (v := ?_) rfl (by kernel_rfl) (by kernel_rfl) (by kernel_rfl) (fun _ _ _ h => h) (Or.inl ⟨by rfl, ?_⟩) (by assumption) ?_
  rotate_left
  · (intro w hSw; (try dsimp only at hSw); go_simp; (try with_reducible rfl))
  try simp only [Act.put, zA, zB, zC]
  refine wpAnyH_ready (rs := [4, 6]) (by kernel_rfl) (by simp) ?_
  refine AllReadyH.cons (o := ⟨_, _, _, _, _, _⟩) rfl (fun K hK => ?_) (AllReadyH.cons (o := ⟨_, _, _, _, _, _⟩) rfl (fun K hK => ?_) AllReadyH.nil)
  · go_simp
    refine hK.out _ _ (by (try dsimp only); go_keep) (fun hHeld => ?_)
    clear hK K
    try simp only [Act.put, zA, zB, zC]
    refine wpAnyH_ready (rs := [6]) (by kernel_rfl) (by simp) ?_
    refine AllReadyH.cons (o := ⟨_, _, _, _, _, _⟩) rfl (fun K hK => ?_) AllReadyH.nil
    go_simp
    refine hK.out _ _ (by (try dsimp only); go_keep) (fun hHeld => ?_)
    clear hK K
    try simp only [Act.put, zA, zB, zC]
    refine wpAnyH_ready (rs := [7]) (by kernel_rfl) (by simp) ?_
    refine AllReadyH.cons (o := ⟨_, _, _, _, _, _⟩) rfl (fun K hK => ?_) AllReadyH.nil
    refine step_append_at rfl (.tmp 22) (.tmp 24) 41 rfl lo 91 (.agg #[.int .i64 0, .string ⟨#[]⟩, .slice none 0 0, .slice none 0 0]) 4 72 Tryz.underlying41 Tryz.info91 rfl (by decide) _ _ _ rfl HZ2.out.ns.row _ 1 _ [.int .i64 tp, .string tg, .slice pa at_.length ca, .slice px tx.length cx] rfl rfl (.inr ⟨_, rfl, NC.out⟩) (by simp [Value.oneCell']) (by unfold maxLen; omega) (by omega) HZ2.out.sz ?_
    intro v2 w2 ho hgr hat
    obtain ⟨av2, cv2, ev', _⟩ := own_len ho
    subst ev'
    have ho' := ho
    rw [← TP.out] at ho'
    have HQ := Hid.mk' (HZ.out.add HS.out (by omega) HM3.out HA2.out h1 HX2.out HAP.out ho' hgr hat)
    have vne : ∀ j, (Value.slice pn s.nd.length cn).ownBlock = some j → ¬ j = g ∧ ¬ j = w.heap.size := fun j e => ⟨fun ej => by have h8 := HZ.out.ns.rl j e; have h9 := HZ.out.gl; rw [← ej] at h9; omega, fun ej => by have := (HZ.out.ns.row.lt j e).2; omega⟩
    have HKF := Hid.mk' (((Kp.of_below (p := fun k => τ k = 2 ∧ ¬ k = g) NV2.out).trans (Kp.of_grown hgr (fun k e e2 => by have := HZ.out.ns.rl k e2.symm; omega))).setCell (q := ⟨g, 0, none⟩) (fun e => e.2 rfl) (.slice av2 (s.nd.length + 1) cv2))
    have z0 := hgr.cell (a := ⟨g, 0, none⟩) (cells3 HZ2.out.box).1 (fun e => (vne _ e.symm).1 rfl)
    have z1 : w2.frozen? ⟨g, 0, none⟩ = false := (HZ2.out.box.of_block (hgr.block g HZ2.out.box.lt (fun e => (vne _ e.symm).1 rfl))).frozen 0
    obtain ⟨t0, t1, t2, t3, t4⟩ := cells4 (HR2.out.of_block (hgr.block w.heap.size HR2.out.lt (fun e => (vne _ e.symm).2 rfl)))
    clear ho ho' hgr hat
    refine hK.out _ _ (by (try dsimp only); go_keep) (fun hHeld => ?_)
    clear hK K
    try simp only [Act.put, zA, zB, zC]
    refine wpAnyH_take (i := 8) (oi := ⟨_, _, _, _, _, _⟩) (v := ?_) rfl (by kernel_rfl) (by kernel_rfl) (by kernel_rfl) (fun _ _ _ h => h) (Or.inl ⟨by rfl, ?_⟩) (by assumption) ?_
    rotate_left
    · (intro w hSw; (try dsimp only at hSw); go_simp; (try with_reducible rfl))
    try simp only [Act.put, zA, zB, zC]
    refine wpAnyH_take (i := 9) (oi := ⟨_, _, _, _, _, _⟩) (v := ?_) rfl (by kernel_rfl) (by kernel_rfl) (by kernel_rfl) (fun _ _ _ h => h) (Or.inl ⟨by rfl, ?_⟩) (by assumption) ?_
    rotate_left
    · (intro w hSw; (try dsimp only at hSw); go_simp; (try with_reducible rfl))
    try simp only [Act.put, zA, zB, zC]
    refine wpAnyH_ready (rs := [10]) (by kernel_rfl) (by simp) ?_
    refine AllReadyH.cons (o := ⟨_, _, _, _, _, _⟩) rfl (fun K hK => ?_) AllReadyH.nil
    go_simp
    have gx' : g ≠ w.heap.size := Nat.ne_of_lt gx
    refine hK.out _ _ (by (try dsimp only); go_keep) (fun hHeld => ?_)
    clear hK K
    try simp only [Act.put, zA, zB, zC]
    refine wpAnyH_done (by kernel_rfl) ?_ _
    go_end0
    exact ⟨⟨_, rfl⟩, HQ.out, HKF.out⟩
  · go_simp
    refine hK.out _ _ (by (try dsimp only); go_keep) (fun hHeld => ?_)
    clear hK K
    try simp only [Act.put, zA, zB, zC]
    refine wpAnyH_ready (rs := [4]) (by kernel_rfl) (by simp) ?_
    refine AllReadyH.cons (o := ⟨_, _, _, _, _, _⟩) rfl (fun K hK => ?_) AllReadyH.nil
    go_simp
    refine hK.out _ _ (by (try dsimp only); go_keep) (fun hHeld => ?_)
    clear hK K
    try simp only [Act.put, zA, zB, zC]
    refine wpAnyH_ready (rs := [7]) (by kernel_rfl) (by simp) ?_
    refine AllReadyH.cons (o := ⟨_, _, _, _, _, _⟩) rfl (fun K hK => ?_) AllReadyH.nil
    refine step_append_at rfl (.tmp 22) (.tmp 24) 41 rfl lo 91 (.agg #[.int .i64 0, .string ⟨#[]⟩, .slice none 0 0, .slice none 0 0]) 4 72 Tryz.underlying41 Tryz.info91 rfl (by decide) _ _ _ rfl HZ2.out.ns.row _ 1 _ [.int .i64 tp, .string tg, .slice pa at_.length ca, .slice px tx.length cx] rfl rfl (.inr ⟨_, rfl, NC.out⟩) (by simp [Value.oneCell']) (by unfold maxLen; omega) (by omega) HZ2.out.sz ?_
    intro v2 w2 ho hgr hat
    obtain ⟨av2, cv2, ev', _⟩ := own_len ho
    subst ev'
    have ho' := ho
    rw [← TP.out] at ho'
    have HQ := Hid.mk' (HZ.out.add HS.out (by omega) HM3.out HA2.out h1 HX2.out HAP.out ho' hgr hat)
    have vne : ∀ j, (Value.slice pn s.nd.length cn).ownBlock = some j → ¬ j = g ∧ ¬ j = w.heap.size := fun j e => ⟨fun ej => by have h8 := HZ.out.ns.rl j e; have h9 := HZ.out.gl; rw [← ej] at h9; omega, fun ej => by have := (HZ.out.ns.row.lt j e).2; omega⟩
    have HKF := Hid.mk' (((Kp.of_below (p := fun k => τ k = 2 ∧ ¬ k = g) NV2.out).trans (Kp.of_grown hgr (fun k e e2 => by have := HZ.out.ns.rl k e2.symm; omega))).setCell (q := ⟨g, 0, none⟩) (fun e => e.2 rfl) (.slice av2 (s.nd.length + 1) cv2))
    have z0 := hgr.cell (a := ⟨g, 0, none⟩) (cells3 HZ2.out.box).1 (fun e => (vne _ e.symm).1 rfl)
    have z1 : w2.frozen? ⟨g, 0, none⟩ = false := (HZ2.out.box.of_block (hgr.block g HZ2.out.box.lt (fun e => (vne _ e.symm).1 rfl))).frozen 0
    obtain ⟨t0, t1, t2, t3, t4⟩ := cells4 (HR2.out.of_block (hgr.block w.heap.size HR2.out.lt (fun e => (vne _ e.symm).2 rfl)))
    clear ho ho' hgr hat
    refine hK.out _ _ (by (try dsimp only); go_keep) (fun hHeld => ?_)
    clear hK K
    try simp only [Act.put, zA, zB, zC]
    refine wpAnyH_take (i := 8) (oi := ⟨_, _, _, _, _, _⟩) (v := ?_) rfl (by kernel_rfl) (by kernel_rfl) (by kernel_rfl) (fun _ _ _ h => h) (Or.inl ⟨by rfl, ?_⟩) (by assumption) ?_
    rotate_left
    · (intro w hSw; (try dsimp only at hSw); go_simp; (try with_reducible rfl))
    try simp only [Act.put, zA, zB, zC]
    refine wpAnyH_take (i := 9) (oi := ⟨_, _, _, _, _, _⟩) (v := ?_) rfl (by kernel_rfl) (by kernel_rfl) (by kernel_rfl) (fun _ _ _ h => h) (Or.inl ⟨by rfl, ?_⟩) (by assumption) ?_
    rotate_left
    · (intro w hSw; (try dsimp only at hSw); go_simp; (try with_reducible rfl))
    try simp only [Act.put, zA, zB, zC]
    refine wpAnyH_ready (rs := [10]) (by kernel_rfl) (by simp) ?_
    refine AllReadyH.cons (o := ⟨_, _, _, _, _, _⟩) rfl (fun K hK => ?_) AllReadyH.nil
    go_simp
    have gx' : g ≠ w.heap.size := Nat.ne_of_lt gx
    refine hK.out _ _ (by (try dsimp only); go_keep) (fun hHeld => ?_)
    clear hK K
    try simp only [Act.put, zA, zB, zC]
    refine wpAnyH_done (by kernel_rfl) ?_ _
    go_end0
    exact ⟨⟨_, rfl⟩, HQ.out, HKF.out⟩

theorem addI_any (w0 : World) (lo g : Nat) (s : BS) (wa : World) (τ : Nat → Nat) (vn vo : Value) (va vt : Nat → Value) (us : Nat → List Value) (h : ZS true 138 w0 lo g s wa τ vn vo va vt us) (hs : GS s) (lo1 : Nat) (tg : ByteArray) (at_ : List AT) (tx : List Int) (a x : Value) (u : List Value) (u0 : Int) (w : World) (hb : Below wa.heap.size wa w) (ha : OA lo1 w a at_ u) (h1 : wa.heap.size ≤ lo1) (hx : w.ownsRow lo1 5 1 x tx.length (bcs tx)) (hap : ∀ k, x.ownBlock = some k → a.ownBlock ≠ some k ∧ ∀ i, i < at_.length → (u.getD i undef).ownBlock ≠ some k) :
    Calls Tryz.prog 174 #[.pointer (some ⟨g, 0, none⟩), .agg #[.int .i64 u0, .string tg, a, x]] w fun e w' => (∃ v, e = .returned v) ∧ ZB true 138 w0 lo g (addX s tg at_ tx) w' :=
  (addIF_any w0 lo g s wa τ vn vo va vt us h hs lo1 tg at_ tx a x u u0 w hb ha h1 hx hap).mono fun e w' h => ⟨h.1, h.2.1⟩

end Go.Proofs.YthcajggbcanmdaaGreatDoor

namespace Go.Proofs.YthcajggbcanmdaaGreatDoor
open Go.RowKit

def NamedP (τ : Nat → Nat) (lo : Nat) (w : World) (nd : List ND) (op : List Int) (nm : ByteArray) (k : Nat) (v : Value) : Prop :=
  (clK nd op nm k = none ∧ v = .pointer none) ∨ ∃ i, clK nd op nm k = some i ∧ i < k ∧ OE τ lo w nd op (i + 1) v

set_option maxHeartbeats 1600000 in
theorem named_any (τ : Nat → Nat) (lo : Nat) (nd : List ND) (op : List Int) (nm : ByteArray) (n : Nat) (v : Value) (w : World) (h : OE τ lo w nd op n v) :
    Calls Tryz.prog 177 #[v, .string nm] w fun e w' => ∃ v', e = .returned v' ∧ NamedP τ lo w nd op nm n v' ∧ w' = w := by
  have H := Hid.mk' h
  obtain ⟨p0, rfl⟩ := h.ptr
  clear h
  go_enter Tryz.func177, Tryz.ntmps177
  go_wp2
  go_loop [0] (fun x => ∃ k, k ≤ n ∧ OE τ lo w nd op k x ∧ clK nd op nm n = clK nd op nm k) (fun x => ptB x)
  case atStart => exact ⟨n, Nat.le_refl _, H.out, rfl⟩
  case round =>
    obtain ⟨k, hk, ho, hc⟩ := hrel
    have HC := Hid.mk' hc
    have HO := Hid.mk' ho
    cases k with
    | zero =>
      have e : _ = Value.pointer none := ho
      subst e
      clear ho hc
      go_wp2_with (first | go_big_skip)
      go_ret
      exact ⟨_, rfl, .inl ⟨HC.out, rfl⟩, rfl⟩
    | succ k =>
      obtain ⟨b, u, e, h1, h2, h3, h4, h5⟩ := ho
      subst e
      obtain ⟨c0, c1, c2, c3⟩ := cells3 h3
      obtain ⟨pu, eu⟩ := OE.ptr h5
      have H5 := Hid.mk' h5
      have HP := Hid.mk' h4
      subst eu
      clear h1 h2 h3 h4 h5 hc
      generalize ht : (ndK nd (wv op k).toNat).tg = tg at *
      have HT := Hid.mk' ht
      clear ht
      cases e1 : (tg.toList == nm.toList) with
      | true =>
        have E : Hid (clK nd op nm (k + 1) = some k) := Hid.mk' (by unfold clK; rw [HT.out, if_pos e1])
        go_wp2_with (first | go_big_skip)
        go_ret
        exact ⟨_, rfl, .inr ⟨k, by rw [HC.out, E.out], by omega, HO.out⟩, rfl⟩
      | false =>
        have E : Hid (clK nd op nm (k + 1) = clK nd op nm k) := Hid.mk' (by
          show (if _ then _ else _) = _
          rw [HT.out, if_neg (by rw [e1]; decide)])
        go_wp2_with (first | go_big_skip)
        go_round
        case rel => exact ⟨k, by omega, H5.out, by rw [HC.out, E.out]⟩
        case measure => exact Nat.lt_succ_of_le HP.out

theorem ZS.takeI2 {Tb : TypeId} {w0 : World} {lo g k : Nat} {s : BS} {w : World} {τ : Nat → Nat} {vn vo v' : Value} {va vt : Nat → Value} {us : Nat → List Value} (h : ZS true Tb w0 lo g s w τ vn vo va vt us) (hk : k ≤ s.op.length) (ho : OE τ lo w s.nd s.op k v') :
    ZS true Tb w0 lo g ⟨s.nd, s.op.take k, s.lg⟩ (w.setCell ⟨g, 1, none⟩ v') τ vn v' va vt us := by
  have g2 := h.gl
  refine ⟨r3_set1 h.box, ?_, ?_, g2, h.bl.setCell (p := ⟨g, 1, none⟩) h.glo _, by have := h.sz; simp [World.setCell]; omega, h.glo⟩
  · exact h.ns.keep ((Kp.refl _ _).setCell (q := ⟨g, 1, none⟩) (by show ¬ (τ g = 0 ∨ 3 ≤ τ g); omega) _)
  · show OE _ lo _ s.nd (s.op.take k) (s.op.take k).length _
    rw [show (s.op.take k).length = k by rw [List.length_take]; omega]
    exact OE.congr (fun j hj => ⟨wv_take hj, rfl⟩) (OE.keep ((Kp.refl _ _).setCell (q := ⟨g, 1, none⟩) (by show ¬ τ g = 1; omega) _) ho)

set_option maxHeartbeats 1600000 in
theorem closeIF_any (w0 : World) (lo g : Nat) (s : BS) (nm : ByteArray) (w : World) (τ : Nat → Nat) (vn vo : Value) (va vt : Nat → Value) (us : Nat → List Value) (hz : ZS true 138 w0 lo g s w τ vn vo va vt us) :
    Calls Tryz.prog 148 #[.pointer (some ⟨g, 0, none⟩), .string nm] w fun e w' => (∃ v, e = .returned v) ∧ (∃ vo', ZS true 138 w0 lo g (closeX s nm) w' τ vn vo' va vt us) ∧ Kp (fun k => ¬ k = g) w w' := by
  have KN := Hid.mk' (named_any τ lo s.nd s.op nm s.op.length vo w hz.op)
  have HZ := Hid.mk' hz
  obtain ⟨po, eo⟩ := OE.ptr hz.op
  subst eo
  obtain ⟨pn, cn, en, _⟩ := own_len hz.ns.row
  subst en
  obtain ⟨c0, c1, c2, c3⟩ := cells3 hz.box
  have f1 := hz.box.frozen 1
  clear hz
  go_enter Tryz.func148, Tryz.ntmps148
  go_wp2_with fail
  refine KN.out.mono ?_
  rintro e w1 ⟨v', rfl, hP, hw⟩
  obtain rfl := hw.symm
  rcases hP with ⟨hn, rfl⟩ | ⟨i, hi, hlt, hoe⟩
  · have E : Hid (closeX s nm = s) := Hid.mk' (by unfold closeX; rw [hn])
    clear KN hn
    go_wp2
    go_end0
    exact ⟨⟨_, rfl⟩, ⟨_, by rw [E.out]; exact HZ.out⟩, Kp.refl _ _⟩
  · have E : Hid (closeX s nm = ⟨s.nd, s.op.take i, s.lg⟩) := Hid.mk' (by unfold closeX; rw [hi])
    obtain ⟨b, u, e, h1, h2, h3, h4, h5⟩ := hoe
    subst e
    obtain ⟨pu, eu⟩ := OE.ptr h5
    subst eu
    obtain ⟨d0, d1, d2, d3⟩ := cells3 h3
    have HQ := Hid.mk' (HZ.out.takeI2 (k := i) (by omega) h5)
    clear KN hi h1 h2 h3 h4 h5
    go_wp2
    go_end0
    exact ⟨⟨_, rfl⟩, ⟨_, by rw [E.out]; exact HQ.out⟩, (Kp.refl _ _).setCell (q := ⟨g, 1, none⟩) (fun e => e rfl) _⟩

theorem closeI_any (w0 : World) (lo g : Nat) (s : BS) (nm : ByteArray) (w : World) (h : ZB true 138 w0 lo g s w) :
    Calls Tryz.prog 148 #[.pointer (some ⟨g, 0, none⟩), .string nm] w fun e w' => (∃ v, e = .returned v) ∧ ZB true 138 w0 lo g (closeX s nm) w' := by
  obtain ⟨τ, vn, vo, va, vt, us, hz⟩ := h
  exact (closeIF_any w0 lo g s nm w τ vn vo va vt us hz).mono fun e w' h => ⟨h.1, h.2.1.elim fun v' z => z.zb⟩

set_option maxHeartbeats 800000 in
theorem count_any (τ : Nat → Nat) (lo : Nat) (nd : List ND) (op : List Int) (n : Nat) (v : Value) (w : World) (h : OE τ lo w nd op n v) (hn : n ≤ 1000) :
    Calls Tryz.prog 176 #[v] w fun e w' => e = .returned (.int .i64 (n : Int)) ∧ w' = w := by
  have H := Hid.mk' h
  obtain ⟨p0, rfl⟩ := h.ptr
  clear h
  go_enter Tryz.func176, Tryz.ntmps176
  go_wp2
  go_loop [0, 3] (fun x c => ∃ k : Nat, k ≤ n ∧ OE τ lo w nd op k x ∧ c = .int .i64 ((n : Int) - (k : Int))) (fun x _ => ptB x)
  case atStart => exact ⟨n, Nat.le_refl _, H.out, by congr 1; omega⟩
  case round =>
    obtain ⟨k, hk, ho, rfl⟩ := hrel
    cases k with
    | zero =>
      have e : _ = Value.pointer none := ho
      subst e
      clear ho
      go_wp2
      go_ret
      exact ⟨by congr 2, rfl⟩
    | succ k =>
      obtain ⟨b, u, e, h1, h2, h3, h4, h5⟩ := ho
      subst e
      obtain ⟨c0, c1, c2, c3⟩ := cells3 h3
      obtain ⟨pu, eu⟩ := OE.ptr h5
      have H5 := Hid.mk' h5
      have HP := Hid.mk' h4
      subst eu
      have b1 : 0 ≤ (n : Int) - ((k + 1 : Nat) : Int) := by omega
      have b2 : (n : Int) - ((k + 1 : Nat) : Int) ≤ 1000 := by omega
      clear h1 h2 h3 h4 h5
      go_wp2
      go_round
      case rel => exact ⟨k, by omega, H5.out, by congr 1; omega⟩
      case measure => exact Nat.lt_succ_of_le HP.out

end Go.Proofs.YthcajggbcanmdaaGreatDoor

namespace Go.Proofs.YthcajggbcanmdaaGreatDoor
open Go.RowKit

theorem NS.spot {τ : Nat → Nat} {lo : Nat} {w : World} {v : Value} {l : List ND} {va vt : Nat → Value} {us : Nat → List Value} (h : NS τ lo w v l va vt us) (h0 : 0 < l.length) : ∃ g cap, v = .slice (some ⟨g, 0, none⟩) l.length cap ∧ lo ≤ g ∧ g < w.heap.size ∧ (∀ k i, k < l.length → i < 4 → w.cell? ⟨g, k * 4 + i, none⟩ = ([.int .i64 (ndK l k).up, .string (ndK l k).tg, va k, vt k] : List Value)[i]?) ∧ ∀ i, w.frozen? ⟨g, i, none⟩ = false := h.nq.spot h0

set_option maxRecDepth 100000 in
set_option maxHeartbeats 6400000 in
theorem openI_any (w0 : World) (lo g : Nat) (s : BS) (m : Nat) (w : World) (h : ZB true 138 w0 lo g s w) (hm : m < s.nd.length) (hs : GS s) :
    Calls Tryz.prog 110 #[.pointer (some ⟨g, 0, none⟩), .int .i64 (m : Int)] w fun e w' => (∃ v, e = .returned v) ∧ ZB true 138 w0 lo g ⟨s.nd, s.op ++ [(m : Int)], s.lg⟩ w' := by
  obtain ⟨τ, vn, vo, va, vt, us, hz⟩ := h
  have n60 := hs.n
  obtain ⟨gn, cn, en, n1, n2, hcell, hfr⟩ := hz.ns.spot (by omega)
  subst en
  obtain ⟨po, eo⟩ := OE.ptr hz.op
  subst eo
  have t1 : w.cell? ⟨gn, m * 4 + 1, none⟩ = some (.string (ndK s.nd m).tg) := hcell m 1 hm (by omega)
  have mi_ : (m : Int) < (s.nd.length : Int) := by omega
  obtain ⟨c0, c1, c2, c3⟩ := cells3 hz.box
  have f1 := hz.box.frozen 1
  have VB := below_new w (.cells #[.int .i64 (m : Int), .string (ndK s.nd m).tg, .pointer po] 174)
  have RB := row3 w 174 (.int .i64 (m : Int)) (.string (ndK s.nd m).tg) (.pointer po)
  have HQ := Hid.mk' (hz.pushI (b := w.heap.size) (m : Int) VB.drew (Nat.le_refl _) (by rw [Int.toNat_natCast]; exact (rowB RB (Below.refl _ _).drew)))
  rw [World.setCell_drew, World.setCell_alloc_past _ _ _ _ c3] at HQ
  have xn1 := World.new_ne w ⟨g, 1, none⟩ c1
  have xn2 := World.new_ne w ⟨gn, m * 4 + 1, none⟩ t1
  dsimp only at xn1 xn2
  have gne : ¬ gn = g := fun e => by have h1 := hz.ns.rl gn rfl; have h2 := hz.gl; rw [e] at h1; omega
  clear hz VB RB hcell hfr n1
  go_enter Tryz.func110, Tryz.ntmps110
  go_wp2_with fail
  refine wp_region_held_drew (S := fun w' => w'.cell? ⟨g, 0, none⟩ = some (.slice (some ⟨gn, 0, none⟩) s.nd.length cn) ∧ w'.cell? ⟨gn, m * 4 + 1, none⟩ = some (.string (ndK s.nd m).tg)) (by kernel_rfl) (by simp [*]) (fun hHeld => ?_)
  refine wpAnyH_take (i := 0) (oi := ⟨_, _, _, _, _, _⟩) (v := ?_) rfl (by kernel_rfl) (by kernel_rfl) (by kernel_rfl) (fun _ _ _ h => h) (Or.inl ⟨by rfl, ?_⟩) (by assumption) ?_
  rotate_left
  · (intro w hSw; (try dsimp only at hSw); go_simp; (try with_reducible rfl))
  try simp only [Act.put, zA, zB, zC]
  refine wpAnyH_take (i := 1) (oi := ⟨_, _, _, _, _, _⟩) (v := ?_) rfl (by kernel_rfl) (by kernel_rfl) (by kernel_rfl) (fun _ _ _ h => h) (Or.inl ⟨by rfl, ?_⟩) (by assumption) ?_
  rotate_left
  · (intro w hSw; (try dsimp only at hSw); go_simp; (try with_reducible rfl))
  try simp only [Act.put, zA, zB, zC]
  refine wpAnyH_take (i := 2) (oi := ⟨_, _, _, _, _, _⟩) (v := ?_) rfl (by kernel_rfl) (by kernel_rfl) (by kernel_rfl) (fun _ _ _ h => h) (Or.inl ⟨by rfl, ?_⟩) (by assumption) ?_
  rotate_left
  · (intro w hSw; (try dsimp only at hSw); go_simp; (try with_reducible rfl))
  try simp only [Act.put, zA, zB, zC]
  refine wpAnyH_take (i := 3) (oi := ⟨_, _, _, _, _, _⟩) (v := ?_) rfl (by kernel_rfl) (by kernel_rfl) (by kernel_rfl) (fun _ _ _ h => h) (Or.inl ⟨by rfl, ?_⟩) (by assumption) ?_
  rotate_left
  · (intro w hSw; (try dsimp only at hSw); go_simp; (try with_reducible rfl))
  try simp only [Act.put, zA, zB, zC]
  refine wpAnyH_take (i := 4) (oi := ⟨_, _, _, _, _, _⟩) (v := ?_) rfl (by kernel_rfl) (by kernel_rfl) (by kernel_rfl) (fun _ _ _ h => h) (Or.inl ⟨by rfl, ?_⟩) (by assumption) ?_
  rotate_left
  · (intro w hSw; (try dsimp only at hSw); go_simp; (try with_reducible rfl))
  try simp only [Act.put, zA, zB, zC]
  refine wpAnyH_take (i := 5) (oi := ⟨_, _, _, _, _, _⟩) (v := ?_) rfl (by kernel_rfl) (by kernel_rfl) (by kernel_rfl) (fun _ _ _ h => h) (Or.inl ⟨by rfl, ?_⟩) (by assumption) ?_
  rotate_left
  · (intro w hSw; (try dsimp only at hSw); go_simp; (try with_reducible rfl))
  try simp only [Act.put, zA, zB, zC]
  refine wpAnyH_take (i := 6) (oi := ⟨_, _, _, _, _, _⟩) (v := ?_) rfl (by kernel_rfl) (by kernel_rfl) (by kernel_rfl) (fun _ _ _ h => h) (Or.inl ⟨by rfl, ?_⟩) (by assumption) ?_
  rotate_left
  · (intro w hSw; (try dsimp only at hSw); go_simp; (try with_reducible rfl))
  try simp only [Act.put, zA, zB, zC]
  refine wpAnyH_take (i := 7) (oi := ⟨_, _, _, _, _, _⟩) (v := ?_) rfl (by kernel_rfl) (by kernel_rfl) (by kernel_rfl) (fun _ _ _ h => h) (Or.inl ⟨by rfl, ?_⟩) (by assumption) ?_
  rotate_left
  · (intro w hSw; (try dsimp only at hSw); go_simp; (try with_reducible rfl))
  try simp only [Act.put, zA, zB, zC]
  refine wpAnyH_take (i := 8) (oi := ⟨_, _, _, _, _, _⟩) (v := ?_) rfl (by kernel_rfl) (by kernel_rfl) (by kernel_rfl) (fun _ _ _ h => h) (Or.inl ⟨by rfl, ?_⟩) (by assumption) ?_
  rotate_left
  · (intro w hSw; (try dsimp only at hSw); go_simp; (try with_reducible rfl))
  try simp only [Act.put, zA, zB, zC]
  refine wpAnyH_take (i := 9) (oi := ⟨_, _, _, _, _, _⟩) (v := ?_) rfl (by kernel_rfl) (by kernel_rfl) (by kernel_rfl) (fun _ _ _ h => h) (Or.inl ⟨by rfl, ?_⟩) (by assumption) ?_
  rotate_left
  · (intro w hSw; (try dsimp only at hSw); go_simp; (try with_reducible rfl))
  try simp only [Act.put, zA, zB, zC]
  refine wpAnyH_take (i := 10) (oi := ⟨_, _, _, _, _, _⟩) (v := ?_) rfl (by kernel_rfl) (by kernel_rfl) (by kernel_rfl) (fun _ _ _ h => h) (Or.inl ⟨by rfl, ?_⟩) (by assumption) ?_
  rotate_left
  · (intro w hSw; (try dsimp only at hSw); go_simp; (try with_reducible rfl))
  try simp only [Act.put, zA, zB, zC]
  refine wpAnyH_take (i := 11) (oi := ⟨_, _, _, _, _, _⟩) (v := ?_) rfl (by kernel_rfl) (by kernel_rfl) (by kernel_rfl) (fun _ _ _ h => h) (Or.inl ⟨by rfl, ?_⟩) (by assumption) ?_
  rotate_left
  · (intro w hSw; (try dsimp only at hSw); go_simp; (try with_reducible rfl))
  try simp only [Act.put, zA, zB, zC]
  refine wpAnyH_take (i := 12) (oi := ⟨_, _, _, _, _, _⟩) (v := ?_) rfl (by kernel_rfl) (by kernel_rfl) (by kernel_rfl) (fun _ _ _ h => h) (Or.inl ⟨by rfl, ?_⟩) (by assumption) ?_
  rotate_left
  · (intro w hSw; (try dsimp only at hSw); go_simp; (try with_reducible rfl))
  try simp only [Act.put, zA, zB, zC]
  refine wpAnyH_ready (rs := [13]) (by kernel_rfl) (by simp) ?_
  refine AllReadyH.cons (o := ⟨_, _, _, _, _, _⟩) rfl (fun K hK => ?_) AllReadyH.nil
  go_simp
  refine hK.out _ _ (by (try dsimp only); go_keep) (fun hHeld => ?_)
  clear hK K
  try simp only [Act.put, zA, zB, zC]
  refine wpAnyH_take (i := 14) (oi := ⟨_, _, _, _, _, _⟩) (v := ?_) rfl (by kernel_rfl) (by kernel_rfl) (by kernel_rfl) (fun _ _ _ h => h) (Or.inl ⟨by rfl, ?_⟩) (by assumption) ?_
  rotate_left
  · (intro w hSw; (try dsimp only at hSw); go_simp; (try with_reducible rfl))
  try simp only [Act.put, zA, zB, zC]
  refine wpAnyH_ready (rs := [15]) (by kernel_rfl) (by simp) ?_
  refine AllReadyH.cons (o := ⟨_, _, _, _, _, _⟩) rfl (fun K hK => ?_) AllReadyH.nil
  go_simp
  refine hK.out _ _ (by (try dsimp only); go_keep) (fun hHeld => ?_)
  clear hK K
  try simp only [Act.put, zA, zB, zC]
  refine wpAnyH_take (i := 16) (oi := ⟨_, _, _, _, _, _⟩) (v := ?_) rfl (by kernel_rfl) (by kernel_rfl) (by kernel_rfl) (fun _ _ _ h => h) (Or.inl ⟨by rfl, ?_⟩) (by assumption) ?_
  rotate_left
  · (intro w hSw; (try dsimp only at hSw); go_simp; (try with_reducible rfl))
  try simp only [Act.put, zA, zB, zC]
  refine wpAnyH_take (i := 17) (oi := ⟨_, _, _, _, _, _⟩) (v := ?_) rfl (by kernel_rfl) (by kernel_rfl) (by kernel_rfl) (fun _ _ _ h => h) (Or.inl ⟨by rfl, ?_⟩) (by assumption) ?_
  rotate_left
  · (intro w hSw; (try dsimp only at hSw); go_simp; (try with_reducible rfl))
  try simp only [Act.put, zA, zB, zC]
  refine wpAnyH_ready (rs := [18]) (by kernel_rfl) (by simp) ?_
  refine AllReadyH.cons (o := ⟨_, _, _, _, _, _⟩) rfl (fun K hK => ?_) AllReadyH.nil
  go_simp
  have gne' : g ≠ gn := fun e => gne e.symm
  refine hK.out _ _ ⟨((below_new _ _).cell (p := ⟨g, 0, none⟩) (by rw [World.heap_size_setCell']; exact c3)).trans ((World.cell?_setCell_other _ _ _ _ (by simp)).trans c0), ((below_new _ _).cell (p := ⟨gn, m * 4 + 1, none⟩) (by rw [World.heap_size_setCell']; exact n2)).trans ((World.cell?_setCell_other _ _ _ _ (by simp [gne, gne'])).trans t1)⟩ (fun hHeld => ?_)
  clear hK K
  try simp only [Act.put, zA, zB, zC]
  refine wpAnyH_done (by kernel_rfl) ?_ _
  go_end0
  exact ⟨⟨_, rfl⟩, HQ.out⟩

theorem clK_congr {nd : List ND} {op : List Int} {a b : ByteArray} (h : a.toList = b.toList) : ∀ k, clK nd op a k = clK nd op b k
  | 0 => rfl
  | k + 1 => by unfold clK; rw [h, clK_congr h k]

theorem closeX_congr {s : BS} {a b : ByteArray} (h : a.toList = b.toList) : closeX s a = closeX s b := by unfold closeX; rw [clK_congr h]

set_option maxRecDepth 100000 in
set_option maxHeartbeats 6400000 in
theorem closeS_any (w0 : World) (lo g : Nat) (s : BS) (nm : ByteArray) (w : World) (h : ZB false 85 w0 lo g s w) (hs : GS s) :
    Calls Tryz.prog 106 #[.pointer (some ⟨g, 0, none⟩), .string nm] w fun e w' => (∃ v, e = .returned v) ∧ ZB false 85 w0 lo g (closeX s nm) w' := by
  obtain ⟨τ, vn, vo, va, vt, us, hz⟩ := h
  have HZ := Hid.mk' hz
  have HS := Hid.mk' hs
  have o7 := hs.o
  have n60 := hs.n
  obtain ⟨po, co, eo, _⟩ := hz.op.row
  subst eo
  obtain ⟨pn, cn, en, _⟩ := own_len hz.ns.row
  subst en
  obtain ⟨c0, c1, c2, c3⟩ := cells3 hz.box
  clear hz hs
  go_enter Tryz.func106, Tryz.ntmps106
  go_wp2
  go_loopw [4] (fun i wr => ∃ k : Nat, k ≤ s.op.length ∧ i = .int .i64 ((k : Int) - 1) ∧ clK s.nd s.op nm s.op.length = clK s.nd s.op nm k ∧ Below w.heap.size w wr) (fun i _ => (intOf i + 1).toNat)
  case atStart => exact ⟨s.op.length, Nat.le_refl _, rfl, rfl, Below.refl _ _⟩
  case round =>
    obtain ⟨k, hk, rfl, hc, hbl⟩ := hrel
    have HC := Hid.mk' hc
    have HB := Hid.mk' hbl
    have HZ1 := Hid.mk' (HZ.out.below hbl)
    clear c0 c1 c2 c3 hc
    obtain ⟨c0, c1, c2, c3⟩ := cells3 HZ1.out.box
    cases k with
    | zero =>
      have E : Hid (closeX s nm = s) := Hid.mk' (by unfold closeX; rw [HC.out]; rfl)
      have k0 : ¬ ((0 : Nat) : Int) - 1 ≥ 0 := by omega
      go_wp2
      go_end0
      exact ⟨⟨_, rfl⟩, by rw [E.out]; exact HZ1.out.zb⟩
    | succ k =>
      have k0 : ((k + 1 : Nat) : Int) - 1 = (k : Int) := by omega
      rw [k0]
      obtain ⟨p', d', e', hia⟩ := HZ1.out.op.row
      cases e'
      rcases hia with h0 | ⟨b1, o1, rfl, s1, hc1⟩
      · exact absurd hk (by rw [h0]; simp)
      have x0 := hc1 k (by omega)
      obtain ⟨hp1, hp2⟩ := HS.out.pl k (by omega)
      obtain ⟨m, hm⟩ : ∃ m : Nat, wv s.op k = (m : Int) := ⟨(wv s.op k).toNat, by omega⟩
      rw [hm] at x0 hp2
      have hml : m < s.nd.length := by omega
      have mi_ : (m : Int) < (s.nd.length : Int) := by omega
      have ki_ : (k : Int) < (s.op.length : Int) := by omega
      obtain ⟨gn, cn', en, n1, n2, hcell, hfr⟩ := HZ1.out.ns.spot (by omega)
      cases en
      have t1 : wr.cell? ⟨gn, m * 4 + 1, none⟩ = some (.string (ndK s.nd m).tg) := hcell m 1 hml (by omega)
      have HM := Hid.mk' hm
      clear hm hcell hfr n1 hbl hp1
      generalize ht : (ndK s.nd m).tg = tg at *
      have HT : Hid ((ndK s.nd (wv s.op k).toNat).tg = tg) := Hid.mk' (by rw [HM.out, Int.toNat_natCast]; exact ht)
      clear ht
      cases e1 : (tg.toList == nm.toList) with
      | false =>
        have E : Hid (clK s.nd s.op nm (k + 1) = clK s.nd s.op nm k) := Hid.mk' (by
          show (if _ then _ else _) = _
          rw [HT.out, if_neg (by rw [e1]; decide)])
        clear hc1
        go_wp2
        go_quiet (fail)
        go_wp2
        go_roundw
        case rel => exact ⟨k, by omega, rfl, by rw [HC.out, E.out], below_drewN HB.out _⟩
        case measure => first | (simp [intOf]; done) | (simp [intOf]; omega)
      | true =>
        have E : Hid (clK s.nd s.op nm (k + 1) = some k) := Hid.mk' (by unfold clK; rw [HT.out, if_pos e1])
        have EX : Hid (closeX s nm = ⟨s.nd, s.op.take k, s.lg⟩) := Hid.mk' (by unfold closeX; rw [HC.out, E.out])
        have lc := HZ1.out.op.1.lt
        obtain ⟨a9, c9, e9, hcap⟩ := own_len HZ1.out.op.1
        cases e9
        have d0 : (0 : Int) ≤ (k : Int) := by omega
        have d1 : (k : Int) ≤ (co : Int) := by omega
        have ln : (s.op.take k).length = k := by rw [List.length_take]; omega
        have src : ∀ n j q, (ics (s.op.take k))[j]? = some q → ((wr.drewN n).alloc (.cells #[] 2)).cell? ((⟨b1, o1, none⟩ : Addr).add j) = some q := fun n j q hj => by
          have hjl : j < k := by
            rcases Nat.lt_or_ge j k with h | h
            · exact h
            · rw [List.getElem?_eq_none (by simp [ics, ln]; omega)] at hj; cases hj
          rw [ics_get _ _ (by omega), wv_take hjl] at hj
          have hb9 : Below wr.heap.size wr ((wr.drewN n).alloc (.cells #[] 2)) := (below_drewN (Below.refl _ _) _).alloc (by simp) _
          rw [Addr.add_mid]
          rw [hb9.cell (p := ⟨b1, o1 + j, none⟩) s1, hc1 j (by omega)]
          exact hj
        have SRC := Hid.mk' src
        clear src hc1 lc
        have xn1 := World.new_ne wr ⟨g, 1, none⟩ c1
        dsimp only at xn1
        go_wp2
        go_quiet (fail)
        rename_i nq
        have SR := Hid.mk' (SRC.out nq)
        have HZ2 := Hid.mk' (HZ1.out.below (below_drewN (Below.refl _ _) nq))
        have V0 : Hid (Below w.heap.size w (wr.drewN nq)) := Hid.mk' (below_drewN HB.out _)
        clear SRC HZ1 c0 c1 c2 c3 x0 t1 xn1
        generalize hY : wr.drewN nq = Y at *
        clear hY
        obtain ⟨c0, c1, c2, c3⟩ := cells3 HZ2.out.box
        have f1 := HZ2.out.box.frozen 1
        have V1 := below_new Y (.cells #[] 2)
        have HV := Hid.mk' (V0.out.trans (V1.mono V0.out.size))
        have HL := Hid.mk' (World.ownsRow_lit (base := Y.heap.size) (e := 2) (size := 1) Y #[] 0 (Nat.le_refl _) (by decide) rfl)
        have HB1 := Hid.mk' V1
        have xn1 := World.new_ne Y ⟨g, 1, none⟩ c1
        dsimp only at xn1
        clear V1
        go_wp2_with (at_builtin; refine wpList_append_any _ rfl (.tmp 32) (.tmp 38) 74 rfl Y.heap.size 2 (.int .i64 0) 1 8 Tryz.underlying74 Tryz.info2 rfl (by decide) _ 0 [] rfl HL.out _ k _ (ics (s.op.take k)) rfl (by rw [ics_len, ln]) (.inr ⟨_, rfl, SR.out⟩) (ics_one _) (by unfold maxLen; omega) (by omega) (by simp) ?_; intro v' w3 ho hgr; rw [Nat.zero_add, List.nil_append] at ho; obtain ⟨av3, cv3, ev3, _⟩ := own_len ho; subst ev3; have z1 := hgr.cell (a := ⟨g, 1, none⟩) ((HB1.out.cell c3).trans c1) (fun e => by simp [Act.eval, Value.ownBlock] at e; omega); have z2 : w3.frozen? ⟨g, 1, none⟩ = false := ((rowB HZ2.out.box HB1.out).of_block (hgr.block g (rowB HZ2.out.box HB1.out).lt (fun e => by simp [Act.eval, Value.ownBlock] at e; omega))).frozen 1; have BG := HB1.out.grown hgr (by simp) (fun j e => by simp [Act.eval, Value.ownBlock] at e; omega); have HQ := Hid.mk' (HZ2.out.takeS (s.op.take k) (by rw [ln]; exact ho) BG); clear ho hgr BG)
        (try simp only [Exit.inBlock, Exit.then])
        refine bodyPost_ret (results_none rfl _ _ _) rfl ?_
        exact ⟨⟨_, rfl⟩, by rw [EX.out]; exact HQ.out⟩

end Go.Proofs.YthcajggbcanmdaaGreatDoor
