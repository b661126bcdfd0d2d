/- A token at any place of a row is put: the model's l7Start and l7Put. -/
import Derived.Test.YtpcpnfpnkkjkcaaGreatU12
import Derived.BigGuard
import Derived.Laws.BytesString
import Derived.Laws.IdiomStrings
namespace Go.Proofs.YtpcpnfpnkkjkcaaGreat
open Go.RowKit
set_option linter.unusedVariables false
set_option linter.unusedSimpArgs false

set_option maxRecDepth 100000 in
set_option maxHeartbeats 12800000 in
theorem startE (w0 : World) (lo g gt og : Nat) (s : BS) (t : TK) (a : Option Addr) (c : Nat) (w : World) (h : ZB false 33 w0 lo g s w) (hs : GS s) (hlg : s.lg = false) (hlo : lo = w0.heap.size) (ht : T5 w0 gt og t a c) (ha : AAt w0 a t.at_) (hl : (t.at_.length : Int) + asz t.at_ ≤ 1048576) :
    Calls Tryz.prog 65 #[.pointer (some ⟨g, 0, none⟩), .pointer (some ⟨gt, og, none⟩)] w fun e w' => (∃ v, e = .returned v) ∧ ZB false 33 w0 lo g (startX s t.nm t.at_ t.sh) w' := by
  subst hlo
  have TK_ : Hid (∀ W, Below w0.heap.size w0 W → T5 W gt og t a c ∧ AAt W a t.at_) := fun W hb => ⟨ht.below hb, ha.below hb⟩
  have HZ := Hid.mk' h
  have HS := Hid.mk' hs
  obtain ⟨τ, vn, vo, va, vt, us, hz⟩ := id h
  obtain ⟨k0, k1, k2, k3, k4, k5⟩ := (TK_.out w hz.bl).1
  have GS0 := Hid.mk' (gs_start0 hs t.nm)
  have LG0 := Hid.mk' ((start0_nd s t.nm).2.trans hlg)
  clear ht ha hz h hs
  cases hp : (t.nm.toList == [112]) with
  | true =>
    have E0 : Hid (start0 s t.nm = closeX s ⟨#[112]⟩) := Hid.mk' (by unfold start0 pB; rw [hp, if_pos rfl]; exact closeX_congr (by rw [p_list]; exact eq_of_beq hp))
    have KC := Hid.mk' (closeS_any w0 w0.heap.size g s ⟨#[112]⟩ w HZ.out HS.out)
    rw [← E0.out] at KC
    go_enter Tryz.func65, Tryz.ntmps65
    go_wp2_with fail
    refine KC.out.mono ?_
    rintro e W ⟨⟨v9, rfl⟩, hz1⟩
    have HZ1 := Hid.mk' hz1
    clear hz1 KC k0 k1 k2 k3 k4 k5
    obtain ⟨s1, hs1⟩ : ∃ s1, start0 s t.nm = s1 := ⟨_, rfl⟩
    have ES := Hid.mk' hs1
    rw [hs1] at HZ1 GS0 LG0
    clear hs1
    have n60 := GS0.out.n
    have o7 := GS0.out.o
    obtain ⟨τ1, vn1, vo1, va1, vt1, us1, hz1⟩ := HZ1.out
    obtain ⟨po, co, eo, _⟩ := hz1.op.row
    subst eo
    obtain ⟨pn, cn, en, _⟩ := own_len hz1.ns.row
    subst en
    obtain ⟨c0, c1, c2, c3⟩ := cells3 hz1.box
    obtain ⟨hrow, haa⟩ := TK_.out W hz1.bl
    obtain ⟨k0, k1, k2, k3, k4, k5⟩ := id hrow
    have HZ2 := Hid.mk' hz1
    have HR := Hid.mk' hrow
    have HAA := Hid.mk' haa
    clear hz1 hrow haa
    by_cases h7 : 7 ≤ s1.op.length
    · have E : Hid (startX s t.nm t.at_ t.sh = s1) := Hid.mk' (by rw [startX_deep (by rw [ES.out]; exact h7), ES.out])
      have h7' : (s1.op.length : Int) ≥ 7 := by omega
      clear HAA
      go_wp2
      (try simp only [Exit.inBlock, Exit.then])
      refine bodyPost_ret (results_none rfl _ _ _) rfl ?_
      exact ⟨⟨_, rfl⟩, by rw [E.out]; exact HZ2.out.zb⟩
    have EP : Hid (startX s t.nm t.at_ t.sh = openX (addX s1 t.nm t.at_ []) t.nm t.sh s1.nd.length) := Hid.mk' (by rw [startX_put (by rw [ES.out]; exact h7), ES.out])
    have h7' : ¬ (s1.op.length : Int) ≥ 7 := by omega
    clear h7
    go_wp2_with fail
    refine wp_region_held_drew (S := fun w' => w'.cell? ⟨gt, og + 2, none⟩ = some (.string t.nm) ∧ w'.cell? ⟨gt, og + 3, none⟩ = some (.slice a t.at_.length c)) (by kernel_rfl) (by simp [*]) (fun hHeld => ?_)
    refine wpAnyH_take (i := 0) (oi := ⟨_, _, _, _, _, _⟩) (v := ?_) rfl (by kernel_rfl) (by kernel_rfl) (by kernel_rfl) (fun _ _ _ h => h) (Or.inl ⟨by rfl, ?_⟩) (by assumption) ?_
    rotate_left
    · (intro w hSw; (try dsimp only at hSw); go_simp; (try with_reducible rfl))
    try simp only [Act.put, List.setIfInBounds_toArray, List.set_cons_zero, List.set_cons_succ]
    refine wpAnyH_take (i := 1) (oi := ⟨_, _, _, _, _, _⟩) (v := ?_) rfl (by kernel_rfl) (by kernel_rfl) (by kernel_rfl) (fun _ _ _ h => h) (Or.inl ⟨by rfl, ?_⟩) (by assumption) ?_
    rotate_left
    · (intro w hSw; (try dsimp only at hSw); go_simp; (try with_reducible rfl))
    try simp only [Act.put, List.setIfInBounds_toArray, List.set_cons_zero, List.set_cons_succ]
    refine wpAnyH_take (i := 2) (oi := ⟨_, _, _, _, _, _⟩) (v := ?_) rfl (by kernel_rfl) (by kernel_rfl) (by kernel_rfl) (fun _ _ _ h => h) (Or.inl ⟨by rfl, ?_⟩) (by assumption) ?_
    rotate_left
    · (intro w hSw; (try dsimp only at hSw); go_simp; (try with_reducible rfl))
    try simp only [Act.put, List.setIfInBounds_toArray, List.set_cons_zero, List.set_cons_succ]
    refine wpAnyH_take (i := 3) (oi := ⟨_, _, _, _, _, _⟩) (v := ?_) rfl (by kernel_rfl) (by kernel_rfl) (by kernel_rfl) (fun _ _ _ h => h) (Or.inl ⟨by rfl, ?_⟩) (by assumption) ?_
    rotate_left
    · (intro w hSw; (try dsimp only at hSw); go_simp; (try with_reducible rfl))
    try simp only [Act.put, List.setIfInBounds_toArray, List.set_cons_zero, List.set_cons_succ]
    refine wpAnyH_take (i := 4) (oi := ⟨_, _, _, _, _, _⟩) (v := ?_) rfl (by kernel_rfl) (by kernel_rfl) (by kernel_rfl) (fun _ _ _ h => h) (Or.inl ⟨by rfl, ?_⟩) (by assumption) ?_
    rotate_left
    · (intro w hSw; (try dsimp only at hSw); go_simp; (try with_reducible rfl))
    try simp only [Act.put, List.setIfInBounds_toArray, List.set_cons_zero, List.set_cons_succ]
    refine wpAnyH_take (i := 5) (oi := ⟨_, _, _, _, _, _⟩) (v := ?_) rfl (by kernel_rfl) (by kernel_rfl) (by kernel_rfl) (fun _ _ _ h => h) (Or.inl ⟨by rfl, ?_⟩) (by assumption) ?_
    rotate_left
    · (intro w hSw; (try dsimp only at hSw); go_simp; (try with_reducible rfl))
    try simp only [Act.put, List.setIfInBounds_toArray, List.set_cons_zero, List.set_cons_succ]
    refine wpAnyH_take (i := 6) (oi := ⟨_, _, _, _, _, _⟩) (v := ?_) rfl (by kernel_rfl) (by kernel_rfl) (by kernel_rfl) (fun _ _ _ h => h) (Or.inl ⟨by rfl, ?_⟩) (by assumption) ?_
    rotate_left
    · (intro w hSw; (try dsimp only at hSw); go_simp; (try with_reducible rfl))
    try simp only [Act.put, List.setIfInBounds_toArray, List.set_cons_zero, List.set_cons_succ]
    refine wpAnyH_take (i := 7) (oi := ⟨_, _, _, _, _, _⟩) (v := ?_) rfl (by kernel_rfl) (by kernel_rfl) (by kernel_rfl) (fun _ _ _ h => h) (Or.inl ⟨by rfl, ?_⟩) (by assumption) ?_
    rotate_left
    · (intro w hSw; (try dsimp only at hSw); go_simp; (try with_reducible rfl))
    try simp only [Act.put, List.setIfInBounds_toArray, List.set_cons_zero, List.set_cons_succ]
    refine wpAnyH_take (i := 8) (oi := ⟨_, _, _, _, _, _⟩) (v := ?_) rfl (by kernel_rfl) (by kernel_rfl) (by kernel_rfl) (fun _ _ _ h => h) (Or.inl ⟨by rfl, ?_⟩) (by assumption) ?_
    rotate_left
    · (intro w hSw; (try dsimp only at hSw); go_simp; (try with_reducible rfl))
    try simp only [Act.put, List.setIfInBounds_toArray, List.set_cons_zero, List.set_cons_succ]
    refine wpAnyH_ready (rs := [9]) (by kernel_rfl) (by simp) ?_
    refine AllReadyH.cons (o := ⟨_, _, _, _, _, _⟩) rfl (fun K hK => ?_) AllReadyH.nil
    go_simp
    go_at_call 88
    refine (l4CopyAttrs_own a c t.at_ W.drew (HAA.out.below (Below.refl _ _).drew) (by omega)).mono ?_
    rintro e w2 ⟨va_, us_, rfl, hoa, hb2⟩
    obtain ⟨pa, ca, ea, _⟩ := own_len hoa.row
    subst ea
    replace hb2 := undrew hb2
    have B2 := Hid.mk' hb2
    have HOA : Hid (OA W.heap.size w2 (.slice pa t.at_.length ca) t.at_ us_) := Hid.mk' hoa
    have y2 := (hb2.cell k5).trans k2
    have y3 := (hb2.cell k5).trans k3
    clear hb2 hoa
    refine hK.out _ _ ⟨y2, y3⟩ (fun hHeld => ?_)
    clear hK K
    try simp only [Act.put, List.setIfInBounds_toArray, List.set_cons_zero, List.set_cons_succ]
    refine wpAnyH_take (i := 10) (oi := ⟨_, _, _, _, _, _⟩) (v := ?_) rfl (by kernel_rfl) (by kernel_rfl) (by kernel_rfl) (fun _ _ _ h => h) (Or.inl ⟨by rfl, ?_⟩) (by assumption) ?_
    rotate_left
    · (intro w hSw; (try dsimp only at hSw); go_simp; (try with_reducible rfl))
    try simp only [Act.put, List.setIfInBounds_toArray, List.set_cons_zero, List.set_cons_succ]
    refine wpAnyH_ready (rs := [11]) (by kernel_rfl) (by simp) ?_
    refine AllReadyH.cons (o := ⟨_, _, _, _, _, _⟩) rfl (fun K hK => ?_) AllReadyH.nil
    go_simp
    go_at_call 90
    refine (addS_any w0 w0.heap.size g s1 W τ1 _ _ va1 vt1 us1 HZ2.out GS0.out W.heap.size t.nm t.at_ [] (.slice pa t.at_.length ca) (.slice none 0 0) us_ 0 w2 B2.out HOA.out (Nat.le_refl _) ⟨rfl, .inl ⟨rfl, rfl⟩⟩ (fun k e => by simp [Value.ownBlock] at e)).mono ?_
    rintro e w3 ⟨⟨v8, rfl⟩, hz3⟩
    have HZ3 := Hid.mk' hz3
    obtain ⟨τ3, vn3, vo3, va3, vt3, us3, hz3⟩ := hz3
    obtain ⟨j0, j1, j2, j3, j4, j5⟩ := (TK_.out w3 hz3.bl).1
    clear hz3
    refine hK.out _ _ ⟨j2, j3⟩ (fun hHeld => ?_)
    clear hK K
    try simp only [Act.put, List.setIfInBounds_toArray, List.set_cons_zero, List.set_cons_succ]
    refine wpAnyH_done (by kernel_rfl) ?_ _
    have GS3 := Hid.mk' (gs_add GS0.out LG0.out (tg := t.nm) (at_ := t.at_) (tx := []) (by simp))
    obtain ⟨s3, hs3⟩ : ∃ s3, addX s1 t.nm t.at_ [] = s3 := ⟨_, rfl⟩
    rw [hs3] at HZ3 EP GS3
    clear hs3
    obtain ⟨τ4, vn4, vo4, va4, vt4, us4, hz4⟩ := HZ3.out
    obtain ⟨po4, co4, eo4, _⟩ := hz4.op.row
    subst eo4
    obtain ⟨pn4, cn4, en4, _⟩ := own_len hz4.ns.row
    subst en4
    clear c0 c1 c2 c3 k0 k1 k2 k3 k4 k5
    obtain ⟨c0, c1, c2, c3⟩ := cells3 hz4.box
    have f1 := hz4.box.frozen 1
    have HZ4 := Hid.mk' hz4
    have o74 := GS3.out.o
    have KV := l6Void_any t.nm w3
    clear hz4
    cases hl3 : s3.lg with
    | true =>
      have E : Hid (startX s t.nm t.at_ t.sh = s3) := Hid.mk' (by rw [EP.out]; exact openX_no (by rw [hl3]; simp))
      rw [hl3] at c2
      clear hl3 KV
      go_wp2_with (first | go_big_skip)
      go_end0
      exact ⟨⟨_, rfl⟩, by rw [E.out]; exact HZ4.out.zb⟩
    | false =>
      have L3 := Hid.mk' hl3
      rw [hl3] at c2
      clear hl3
      cases hv : voidB t.nm with
      | true =>
        have E : Hid (startX s t.nm t.at_ t.sh = s3) := Hid.mk' (by rw [EP.out]; exact openX_no (by rw [hv]; simp))
        rw [hv] at KV
        have KV := Hid.mk' KV
        clear hv
        go_wp2_with (first | go_big_skip | (go_at_call 85; refine KV.out.mono ?_; rintro e w9 ⟨rfl, hw9⟩; obtain rfl := hw9.symm))
        go_end0
        exact ⟨⟨_, rfl⟩, by rw [E.out]; exact HZ4.out.zb⟩
      | false =>
        rw [hv] at KV
        have KV := Hid.mk' KV
        have VV := Hid.mk' hv
        clear hv
        cases hsh : t.sh with
        | true =>
          have E : Hid (startX s t.nm t.at_ t.sh = s3) := Hid.mk' (by rw [EP.out]; exact openX_no (by rw [hsh]; simp))
          rw [hsh] at j4
          clear hsh
          go_wp2_with (first | go_big_skip | (go_at_call 85; refine KV.out.mono ?_; rintro e w9 ⟨rfl, hw9⟩; obtain rfl := hw9.symm))
          go_end0
          exact ⟨⟨_, rfl⟩, by rw [E.out]; exact HZ4.out.zb⟩
        | false =>
          have E : Hid (startX s t.nm t.at_ t.sh = ⟨s3.nd, s3.op ++ [(s1.nd.length : Int)], s3.lg⟩) := Hid.mk' (by rw [EP.out]; exact openX_yes L3.out VV.out hsh)
          rw [hsh] at j4
          clear hsh
          have VB := below_new w3 (.cells #[.int .i64 (s1.nd.length : Int)] 2)
          have HZ5 := Hid.mk' (HZ4.out.below VB)
          have NC := Hid.mk' (new_cells w3 2 [.int .i64 (s1.nd.length : Int)] w3.heap.size rfl)
          have b1 := (cells3 HZ5.out.box).2.1
          clear VB
          go_wp2_with (first | go_big_skip | (go_at_call 85; refine KV.out.mono ?_; rintro e w9 ⟨rfl, hw9⟩; obtain rfl := hw9.symm) | (at_builtin; refine wpList_append_at _ rfl (.tmp 59) (.tmp 61) 23 rfl w0.heap.size 2 (.int .i64 0) 1 8 Tryz.underlying23 Tryz.info2 rfl (by decide) _ _ _ rfl HZ5.out.op.1 _ 1 _ (ics [(s1.nd.length : Int)]) rfl (by simp [ics]) (.inr ⟨_, rfl, NC.out⟩) (ics_one _) (by unfold maxLen; omega) (by omega) HZ5.out.sz ?_; intro v' w5 ho hgr hat; obtain ⟨av5, cv5, ev5, _⟩ := own_len ho; subst ev5; have gnl : ∀ j, (Value.slice po4 s3.op.length co4).ownBlock = some j → ¬ j = g := (fun j e ej => by have h1 := HZ5.out.op.2 j e; have h2 := HZ5.out.gl; rw [ej] at h1; omega); have z1 := hgr.cell (a := ⟨g, 1, none⟩) b1 (fun e => gnl _ e.symm rfl); have z2 : w5.frozen? ⟨g, 1, none⟩ = false := (HZ5.out.box.of_block (hgr.block g HZ5.out.box.lt (fun e => gnl _ e.symm rfl))).frozen 1; have HQ := Hid.mk' (HZ5.out.pushS (wa := w3) (s1.nd.length : Int) ho hgr hat); clear ho hgr hat gnl))
          go_end0
          exact ⟨⟨_, rfl⟩, by rw [E.out]; exact HQ.out⟩
  | false =>
    have E0 : Hid (start0 s t.nm = s) := Hid.mk' (by unfold start0 pB; rw [hp]; rfl)
    have HZ1 : Hid (ZB false 33 w0 w0.heap.size g (start0 s t.nm) w) := Hid.mk' (by rw [E0.out]; exact HZ.out)
    clear k0 k1 k2 k3 k4 k5
    go_enter Tryz.func65, Tryz.ntmps65
    obtain ⟨s1, hs1⟩ : ∃ s1, start0 s t.nm = s1 := ⟨_, rfl⟩
    have ES := Hid.mk' hs1
    rw [hs1] at HZ1 GS0 LG0
    clear hs1
    have n60 := GS0.out.n
    have o7 := GS0.out.o
    obtain ⟨τ1, vn1, vo1, va1, vt1, us1, hz1⟩ := HZ1.out
    obtain ⟨po, co, eo, _⟩ := hz1.op.row
    subst eo
    obtain ⟨pn, cn, en, _⟩ := own_len hz1.ns.row
    subst en
    obtain ⟨c0, c1, c2, c3⟩ := cells3 hz1.box
    obtain ⟨hrow, haa⟩ := TK_.out w hz1.bl
    obtain ⟨k0, k1, k2, k3, k4, k5⟩ := id hrow
    have HZ2 := Hid.mk' hz1
    have HR := Hid.mk' hrow
    have HAA := Hid.mk' haa
    clear hz1 hrow haa
    by_cases h7 : 7 ≤ s1.op.length
    · have E : Hid (startX s t.nm t.at_ t.sh = s1) := Hid.mk' (by rw [startX_deep (by rw [ES.out]; exact h7), ES.out])
      have h7' : (s1.op.length : Int) ≥ 7 := by omega
      clear HAA
      go_wp2
      (try simp only [Exit.inBlock, Exit.then])
      refine bodyPost_ret (results_none rfl _ _ _) rfl ?_
      exact ⟨⟨_, rfl⟩, by rw [E.out]; exact HZ2.out.zb⟩
    have EP : Hid (startX s t.nm t.at_ t.sh = openX (addX s1 t.nm t.at_ []) t.nm t.sh s1.nd.length) := Hid.mk' (by rw [startX_put (by rw [ES.out]; exact h7), ES.out])
    have h7' : ¬ (s1.op.length : Int) ≥ 7 := by omega
    clear h7
    go_wp2_with fail
    refine wp_region_held_drew (S := fun w' => w'.cell? ⟨gt, og + 2, none⟩ = some (.string t.nm) ∧ w'.cell? ⟨gt, og + 3, none⟩ = some (.slice a t.at_.length c)) (by kernel_rfl) (by simp [*]) (fun hHeld => ?_)
    refine wpAnyH_take (i := 0) (oi := ⟨_, _, _, _, _, _⟩) (v := ?_) rfl (by kernel_rfl) (by kernel_rfl) (by kernel_rfl) (fun _ _ _ h => h) (Or.inl ⟨by rfl, ?_⟩) (by assumption) ?_
    rotate_left
    · (intro w hSw; (try dsimp only at hSw); go_simp; (try with_reducible rfl))
    try simp only [Act.put, List.setIfInBounds_toArray, List.set_cons_zero, List.set_cons_succ]
    refine wpAnyH_take (i := 1) (oi := ⟨_, _, _, _, _, _⟩) (v := ?_) rfl (by kernel_rfl) (by kernel_rfl) (by kernel_rfl) (fun _ _ _ h => h) (Or.inl ⟨by rfl, ?_⟩) (by assumption) ?_
    rotate_left
    · (intro w hSw; (try dsimp only at hSw); go_simp; (try with_reducible rfl))
    try simp only [Act.put, List.setIfInBounds_toArray, List.set_cons_zero, List.set_cons_succ]
    refine wpAnyH_take (i := 2) (oi := ⟨_, _, _, _, _, _⟩) (v := ?_) rfl (by kernel_rfl) (by kernel_rfl) (by kernel_rfl) (fun _ _ _ h => h) (Or.inl ⟨by rfl, ?_⟩) (by assumption) ?_
    rotate_left
    · (intro w hSw; (try dsimp only at hSw); go_simp; (try with_reducible rfl))
    try simp only [Act.put, List.setIfInBounds_toArray, List.set_cons_zero, List.set_cons_succ]
    refine wpAnyH_take (i := 3) (oi := ⟨_, _, _, _, _, _⟩) (v := ?_) rfl (by kernel_rfl) (by kernel_rfl) (by kernel_rfl) (fun _ _ _ h => h) (Or.inl ⟨by rfl, ?_⟩) (by assumption) ?_
    rotate_left
    · (intro w hSw; (try dsimp only at hSw); go_simp; (try with_reducible rfl))
    try simp only [Act.put, List.setIfInBounds_toArray, List.set_cons_zero, List.set_cons_succ]
    refine wpAnyH_take (i := 4) (oi := ⟨_, _, _, _, _, _⟩) (v := ?_) rfl (by kernel_rfl) (by kernel_rfl) (by kernel_rfl) (fun _ _ _ h => h) (Or.inl ⟨by rfl, ?_⟩) (by assumption) ?_
    rotate_left
    · (intro w hSw; (try dsimp only at hSw); go_simp; (try with_reducible rfl))
    try simp only [Act.put, List.setIfInBounds_toArray, List.set_cons_zero, List.set_cons_succ]
    refine wpAnyH_take (i := 5) (oi := ⟨_, _, _, _, _, _⟩) (v := ?_) rfl (by kernel_rfl) (by kernel_rfl) (by kernel_rfl) (fun _ _ _ h => h) (Or.inl ⟨by rfl, ?_⟩) (by assumption) ?_
    rotate_left
    · (intro w hSw; (try dsimp only at hSw); go_simp; (try with_reducible rfl))
    try simp only [Act.put, List.setIfInBounds_toArray, List.set_cons_zero, List.set_cons_succ]
    refine wpAnyH_take (i := 6) (oi := ⟨_, _, _, _, _, _⟩) (v := ?_) rfl (by kernel_rfl) (by kernel_rfl) (by kernel_rfl) (fun _ _ _ h => h) (Or.inl ⟨by rfl, ?_⟩) (by assumption) ?_
    rotate_left
    · (intro w hSw; (try dsimp only at hSw); go_simp; (try with_reducible rfl))
    try simp only [Act.put, List.setIfInBounds_toArray, List.set_cons_zero, List.set_cons_succ]
    refine wpAnyH_take (i := 7) (oi := ⟨_, _, _, _, _, _⟩) (v := ?_) rfl (by kernel_rfl) (by kernel_rfl) (by kernel_rfl) (fun _ _ _ h => h) (Or.inl ⟨by rfl, ?_⟩) (by assumption) ?_
    rotate_left
    · (intro w hSw; (try dsimp only at hSw); go_simp; (try with_reducible rfl))
    try simp only [Act.put, List.setIfInBounds_toArray, List.set_cons_zero, List.set_cons_succ]
    refine wpAnyH_take (i := 8) (oi := ⟨_, _, _, _, _, _⟩) (v := ?_) rfl (by kernel_rfl) (by kernel_rfl) (by kernel_rfl) (fun _ _ _ h => h) (Or.inl ⟨by rfl, ?_⟩) (by assumption) ?_
    rotate_left
    · (intro w hSw; (try dsimp only at hSw); go_simp; (try with_reducible rfl))
    try simp only [Act.put, List.setIfInBounds_toArray, List.set_cons_zero, List.set_cons_succ]
    refine wpAnyH_ready (rs := [9]) (by kernel_rfl) (by simp) ?_
    refine AllReadyH.cons (o := ⟨_, _, _, _, _, _⟩) rfl (fun K hK => ?_) AllReadyH.nil
    go_simp
    go_at_call 88
    refine (l4CopyAttrs_own a c t.at_ w.drew (HAA.out.below (Below.refl _ _).drew) (by omega)).mono ?_
    rintro e w2 ⟨va_, us_, rfl, hoa, hb2⟩
    obtain ⟨pa, ca, ea, _⟩ := own_len hoa.row
    subst ea
    replace hb2 := undrew hb2
    have B2 := Hid.mk' hb2
    have HOA : Hid (OA w.heap.size w2 (.slice pa t.at_.length ca) t.at_ us_) := Hid.mk' hoa
    have y2 := (hb2.cell k5).trans k2
    have y3 := (hb2.cell k5).trans k3
    clear hb2 hoa
    refine hK.out _ _ ⟨y2, y3⟩ (fun hHeld => ?_)
    clear hK K
    try simp only [Act.put, List.setIfInBounds_toArray, List.set_cons_zero, List.set_cons_succ]
    refine wpAnyH_take (i := 10) (oi := ⟨_, _, _, _, _, _⟩) (v := ?_) rfl (by kernel_rfl) (by kernel_rfl) (by kernel_rfl) (fun _ _ _ h => h) (Or.inl ⟨by rfl, ?_⟩) (by assumption) ?_
    rotate_left
    · (intro w hSw; (try dsimp only at hSw); go_simp; (try with_reducible rfl))
    try simp only [Act.put, List.setIfInBounds_toArray, List.set_cons_zero, List.set_cons_succ]
    refine wpAnyH_ready (rs := [11]) (by kernel_rfl) (by simp) ?_
    refine AllReadyH.cons (o := ⟨_, _, _, _, _, _⟩) rfl (fun K hK => ?_) AllReadyH.nil
    go_simp
    go_at_call 90
    refine (addS_any w0 w0.heap.size g s1 w τ1 _ _ va1 vt1 us1 HZ2.out GS0.out w.heap.size t.nm t.at_ [] (.slice pa t.at_.length ca) (.slice none 0 0) us_ 0 w2 B2.out HOA.out (Nat.le_refl _) ⟨rfl, .inl ⟨rfl, rfl⟩⟩ (fun k e => by simp [Value.ownBlock] at e)).mono ?_
    rintro e w3 ⟨⟨v8, rfl⟩, hz3⟩
    have HZ3 := Hid.mk' hz3
    obtain ⟨τ3, vn3, vo3, va3, vt3, us3, hz3⟩ := hz3
    obtain ⟨j0, j1, j2, j3, j4, j5⟩ := (TK_.out w3 hz3.bl).1
    clear hz3
    refine hK.out _ _ ⟨j2, j3⟩ (fun hHeld => ?_)
    clear hK K
    try simp only [Act.put, List.setIfInBounds_toArray, List.set_cons_zero, List.set_cons_succ]
    refine wpAnyH_done (by kernel_rfl) ?_ _
    have GS3 := Hid.mk' (gs_add GS0.out LG0.out (tg := t.nm) (at_ := t.at_) (tx := []) (by simp))
    obtain ⟨s3, hs3⟩ : ∃ s3, addX s1 t.nm t.at_ [] = s3 := ⟨_, rfl⟩
    rw [hs3] at HZ3 EP GS3
    clear hs3
    obtain ⟨τ4, vn4, vo4, va4, vt4, us4, hz4⟩ := HZ3.out
    obtain ⟨po4, co4, eo4, _⟩ := hz4.op.row
    subst eo4
    obtain ⟨pn4, cn4, en4, _⟩ := own_len hz4.ns.row
    subst en4
    clear c0 c1 c2 c3 k0 k1 k2 k3 k4 k5
    obtain ⟨c0, c1, c2, c3⟩ := cells3 hz4.box
    have f1 := hz4.box.frozen 1
    have HZ4 := Hid.mk' hz4
    have o74 := GS3.out.o
    have KV := l6Void_any t.nm w3
    clear hz4
    cases hl3 : s3.lg with
    | true =>
      have E : Hid (startX s t.nm t.at_ t.sh = s3) := Hid.mk' (by rw [EP.out]; exact openX_no (by rw [hl3]; simp))
      rw [hl3] at c2
      clear hl3 KV
      go_wp2_with (first | go_big_skip)
      go_end0
      exact ⟨⟨_, rfl⟩, by rw [E.out]; exact HZ4.out.zb⟩
    | false =>
      have L3 := Hid.mk' hl3
      rw [hl3] at c2
      clear hl3
      cases hv : voidB t.nm with
      | true =>
        have E : Hid (startX s t.nm t.at_ t.sh = s3) := Hid.mk' (by rw [EP.out]; exact openX_no (by rw [hv]; simp))
        rw [hv] at KV
        have KV := Hid.mk' KV
        clear hv
        go_wp2_with (first | go_big_skip | (go_at_call 85; refine KV.out.mono ?_; rintro e w9 ⟨rfl, hw9⟩; obtain rfl := hw9.symm))
        go_end0
        exact ⟨⟨_, rfl⟩, by rw [E.out]; exact HZ4.out.zb⟩
      | false =>
        rw [hv] at KV
        have KV := Hid.mk' KV
        have VV := Hid.mk' hv
        clear hv
        cases hsh : t.sh with
        | true =>
          have E : Hid (startX s t.nm t.at_ t.sh = s3) := Hid.mk' (by rw [EP.out]; exact openX_no (by rw [hsh]; simp))
          rw [hsh] at j4
          clear hsh
          go_wp2_with (first | go_big_skip | (go_at_call 85; refine KV.out.mono ?_; rintro e w9 ⟨rfl, hw9⟩; obtain rfl := hw9.symm))
          go_end0
          exact ⟨⟨_, rfl⟩, by rw [E.out]; exact HZ4.out.zb⟩
        | false =>
          have E : Hid (startX s t.nm t.at_ t.sh = ⟨s3.nd, s3.op ++ [(s1.nd.length : Int)], s3.lg⟩) := Hid.mk' (by rw [EP.out]; exact openX_yes L3.out VV.out hsh)
          rw [hsh] at j4
          clear hsh
          have VB := below_new w3 (.cells #[.int .i64 (s1.nd.length : Int)] 2)
          have HZ5 := Hid.mk' (HZ4.out.below VB)
          have NC := Hid.mk' (new_cells w3 2 [.int .i64 (s1.nd.length : Int)] w3.heap.size rfl)
          have b1 := (cells3 HZ5.out.box).2.1
          clear VB
          go_wp2_with (first | go_big_skip | (go_at_call 85; refine KV.out.mono ?_; rintro e w9 ⟨rfl, hw9⟩; obtain rfl := hw9.symm) | (at_builtin; refine wpList_append_at _ rfl (.tmp 59) (.tmp 61) 23 rfl w0.heap.size 2 (.int .i64 0) 1 8 Tryz.underlying23 Tryz.info2 rfl (by decide) _ _ _ rfl HZ5.out.op.1 _ 1 _ (ics [(s1.nd.length : Int)]) rfl (by simp [ics]) (.inr ⟨_, rfl, NC.out⟩) (ics_one _) (by unfold maxLen; omega) (by omega) HZ5.out.sz ?_; intro v' w5 ho hgr hat; obtain ⟨av5, cv5, ev5, _⟩ := own_len ho; subst ev5; have gnl : ∀ j, (Value.slice po4 s3.op.length co4).ownBlock = some j → ¬ j = g := (fun j e ej => by have h1 := HZ5.out.op.2 j e; have h2 := HZ5.out.gl; rw [ej] at h1; omega); have z1 := hgr.cell (a := ⟨g, 1, none⟩) b1 (fun e => gnl _ e.symm rfl); have z2 : w5.frozen? ⟨g, 1, none⟩ = false := (HZ5.out.box.of_block (hgr.block g HZ5.out.box.lt (fun e => gnl _ e.symm rfl))).frozen 1; have HQ := Hid.mk' (HZ5.out.pushS (wa := w3) (s1.nd.length : Int) ho hgr hat); clear ho hgr hat gnl))
          go_end0
          exact ⟨⟨_, rfl⟩, by rw [E.out]; exact HQ.out⟩

set_option maxRecDepth 100000 in
set_option maxHeartbeats 3200000 in
theorem putE (w0 : World) (lo g gt og : Nat) (s : BS) (t : TK) (a : Option Addr) (c : Nat) (w : World) (h : ZB false 33 w0 lo g s w) (hs : GS s) (hlo : lo = w0.heap.size) (ht : T5 w0 gt og t a c) (ha : AAt w0 a t.at_) (hl : (t.at_.length : Int) + asz t.at_ ≤ 1048576) (hby : t.kd = 1 → 0 ≤ t.by_ ∧ t.by_ ≤ 255) :
    Calls Tryz.prog 36 #[.pointer (some ⟨g, 0, none⟩), .pointer (some ⟨gt, og, none⟩)] w fun e w' => (∃ v, e = .returned v) ∧ ZB false 33 w0 lo g (putX s t) w' := by
  subst hlo
  obtain ⟨τ, vn, vo, va, vt, us, hz⟩ := id h
  have HZ := Hid.mk' h
  obtain ⟨po, co, eo, _⟩ := hz.op.row
  subst eo
  obtain ⟨pn, cn, en, _⟩ := own_len hz.ns.row
  subst en
  obtain ⟨c0, c1, c2, c3⟩ := cells3 hz.box
  obtain ⟨k0, k1, k2, k3, k4, k5⟩ := ht.below hz.bl
  clear hz h
  cases hlg : s.lg with
  | true =>
    have E := Hid.mk' (putX_large (t := t) hlg)
    rw [hlg] at c2
    clear hlg
    go_enter Tryz.func36, Tryz.ntmps36
    go_wp2
    (try simp only [Exit.inBlock, Exit.then])
    refine bodyPost_ret (results_none rfl _ _ _) rfl ?_
    exact ⟨⟨_, rfl⟩, by rw [E.out]; exact HZ.out⟩
  | false =>
    by_cases q1 : t.kd = 1
    · have E := Hid.mk' (putX_byte hlg q1)
      obtain ⟨y0, y1⟩ := hby q1
      have KB := Hid.mk' (byteS_any w0 w0.heap.size g s t.by_ w HZ.out hs)
      rw [hlg] at c2
      rw [q1] at k0
      have yw : IntKind.u8.wrap t.by_ = t.by_ := by rw [IntKind.wrap_u8]; omega
      clear hlg q1 hby
      go_enter Tryz.func36, Tryz.ntmps36
      go_wp2_with fail
      refine KB.out.mono ?_
      rintro e w1 ⟨⟨v9, rfl⟩, hz1⟩
      have HZ1 := Hid.mk' hz1
      clear hz1 KB
      go_wp2
      go_end0
      exact ⟨⟨_, rfl⟩, by rw [E.out]; exact HZ1.out⟩
    by_cases q2 : t.kd = 2
    · have E := Hid.mk' (putX_start hlg q2)
      have KB := Hid.mk' (startE w0 w0.heap.size g gt og s t a c w HZ.out hs hlg rfl ht ha hl)
      rw [hlg] at c2
      rw [q2] at k0
      clear hlg q1 q2 hby ht ha
      go_enter Tryz.func36, Tryz.ntmps36
      go_wp2_with fail
      refine KB.out.mono ?_
      rintro e w1 ⟨⟨v9, rfl⟩, hz1⟩
      have HZ1 := Hid.mk' hz1
      clear hz1 KB
      go_wp2
      go_end0
      exact ⟨⟨_, rfl⟩, by rw [E.out]; exact HZ1.out⟩
    by_cases q3 : t.kd = 3
    · have E := Hid.mk' (putX_end hlg q3)
      have KB := Hid.mk' (closeS_any w0 w0.heap.size g s t.nm w HZ.out hs)
      rw [hlg] at c2
      rw [q3] at k0
      clear hlg q1 q2 q3 hby ht ha
      go_enter Tryz.func36, Tryz.ntmps36
      go_wp2_with fail
      refine KB.out.mono ?_
      rintro e w1 ⟨⟨v9, rfl⟩, hz1⟩
      have HZ1 := Hid.mk' hz1
      clear hz1 KB
      go_wp2
      go_end0
      exact ⟨⟨_, rfl⟩, by rw [E.out]; exact HZ1.out⟩
    have E := Hid.mk' (putX_note hlg q1 q2 q3)
    rw [hlg] at c2
    have r1 : (t.kd == 1) = false := by simpa using q1
    have r2 : (t.kd == 2) = false := by simpa using q2
    have r3' : (t.kd == 3) = false := by simpa using q3
    clear hlg q1 q2 q3 hby ht ha
    go_enter Tryz.func36, Tryz.ntmps36
    go_wp2
    go_end0
    exact ⟨⟨_, rfl⟩, by rw [E.out]; exact HZ.out⟩

end Go.Proofs.YtpcpnfpnkkjkcaaGreat

/- Walks: lists of tokens copied, and told to be the same. -/
namespace Go.Proofs.YtpcpnfpnkkjkcaaGreat
open Go.RowKit
set_option linter.unusedVariables false
set_option linter.unusedSimpArgs false

theorem Tryz.info40 : (Tryz.prog.info? 40).map (fun i => (i.zero, i.size, i.bytes)) = some (some (.agg #[.int .i64 0, .int .i64 0, .string ⟨#[]⟩, .slice none 0 0, .bool false]), 5, 64) := by kernel_rfl

theorem make_tokens {P : Program} (t e : TypeId) (ht : P.underlying t = some (.slice e)) (hinfo : (P.info? e).map (fun i => (i.zero, i.size, i.bytes)) = some (some (.agg #[.int .i64 0, .int .i64 0, .string ⟨#[]⟩, .slice none 0 0, .bool false]), 5, 64))
    (n : Nat) (hn : (n : Int) ≤ 1048576) (w : World) :
    (Instr.makeSlice t (.int .i64 (n : Int)) (.int .i64 (n : Int))).run P w = .ok (.slice (some ⟨w.heap.size, 0, none⟩) n n) (w.alloc (.cells (madeCells #[.int .i64 0, .int .i64 0, .string ⟨#[]⟩, .slice none 0 0, .bool false] (n * 5)) e)) := by
  obtain ⟨i, hi, hzz⟩ := Option.map_eq_some_iff.1 hinfo
  simp only [Prod.mk.injEq] at hzz
  obtain ⟨hz, hs, hb⟩ := hzz
  have hr := run_make (P := P) w t e i _ ht hi hz .i64 .i64 n n (by omega) (Int.le_refl _) (by rw [hb]; omega) (by omega)
  simp only [Int.toNat_natCast, hs] at hr
  exact hr

theorem AO.kept {g lo hi : Nat} {l : List AT} {w w1 : World} (h : AO g l w) (hk : KeptIn lo hi w w1) (hg : hi ≤ g) : AO g l w1 := by
  obtain ⟨f, hf, hj⟩ := h
  refine ⟨f, rowK hf hk (.inr hg), fun j hjl => ?_⟩
  obtain ⟨h1, b, h2, h3, h4⟩ := hj j hjl
  exact ⟨h1, b, h2, h3, rowK h4 hk (.inr (by omega))⟩

/-- Tokens being copied into a row of one's own: k of them are there. -/
structure TR (w : World) (l : List TK) (k : Nat) (wr : World) : Prop where
  bl : Below w.heap.size w wr
  row : ∃ f, wr.rowIs w.heap.size 40 (l.length * 5) f ∧ ∀ j, j < k → f (j * 5) = .int .i64 (tkK l j).kd ∧ f (j * 5 + 1) = .int .i64 (tkK l j).by_ ∧ f (j * 5 + 2) = .string (tkK l j).nm ∧ (∃ g, f (j * 5 + 3) = .slice (some ⟨g, 0, none⟩) (tkK l j).at_.length (tkK l j).at_.length ∧ w.heap.size < g ∧ AO g (tkK l j).at_ wr) ∧ f (j * 5 + 4) = .bool (tkK l j).sh

theorem TR.start (w : World) (l : List TK) : TR w l 0 (w.alloc (.cells (madeCells #[.int .i64 0, .int .i64 0, .string ⟨#[]⟩, .slice none 0 0, .bool false] (l.length * 5)) 40)) := by
  refine ⟨(Below.refl _ _).alloc (Nat.le_refl _) _, fun i => r5 (.int .i64 0) (.int .i64 0) (.string ⟨#[]⟩) (.slice none 0 0) (.bool false) (i % 5), ?_, fun j hj => absurd hj (Nat.not_lt_zero _)⟩
  refine ⟨_, Deep.blk_alloc_new _ _, size_madeCells _ _, fun i hi => ?_⟩
  have h : i % 5 = 0 ∨ i % 5 = 1 ∨ i % 5 = 2 ∨ i % 5 = 3 ∨ i % 5 = 4 := by omega
  rcases h with h | h | h | h | h <;> simp [madeCells, hi, h, r5]

theorem TR.below {w wr w1 : World} {l : List TK} {k : Nat} (h : TR w l k wr) (hb : Below wr.heap.size wr w1) : TR w l k w1 := by
  obtain ⟨f, hf, hj⟩ := h.row
  refine ⟨h.bl.trans (hb.mono h.bl.size), f, rowB hf hb, fun j hk => ?_⟩
  obtain ⟨h1, h2, h3, ⟨g, h4, h5, h6⟩, h7⟩ := hj j hk
  exact ⟨h1, h2, h3, ⟨g, h4, h5, h6.below hb⟩, h7⟩

theorem TR.step {w wr : World} {l : List TK} {k g : Nat} (h : TR w l k wr) (hg : w.heap.size < g) (hao : AO g (tkK l k).at_ wr) :
    TR w l (k + 1) (((((wr.setCell ⟨w.heap.size, k * 5, none⟩ (.int .i64 (tkK l k).kd)).setCell ⟨w.heap.size, k * 5 + 1, none⟩ (.int .i64 (tkK l k).by_)).setCell ⟨w.heap.size, k * 5 + 2, none⟩ (.string (tkK l k).nm)).setCell ⟨w.heap.size, k * 5 + 3, none⟩ (.slice (some ⟨g, 0, none⟩) (tkK l k).at_.length (tkK l k).at_.length)).setCell ⟨w.heap.size, k * 5 + 4, none⟩ (.bool (tkK l k).sh)) := by
  obtain ⟨f, hf, hj⟩ := h.row
  have K := (((((KeptIn.refl w.heap.size (w.heap.size + 1) wr).setCell (p := ⟨w.heap.size, k * 5, none⟩) (Nat.le_refl _) (Nat.lt_succ_self _) (.int .i64 (tkK l k).kd)).setCell (p := ⟨w.heap.size, k * 5 + 1, none⟩) (Nat.le_refl _) (Nat.lt_succ_self _) (.int .i64 (tkK l k).by_)).setCell (p := ⟨w.heap.size, k * 5 + 2, none⟩) (Nat.le_refl _) (Nat.lt_succ_self _) (.string (tkK l k).nm)).setCell (p := ⟨w.heap.size, k * 5 + 3, none⟩) (Nat.le_refl _) (Nat.lt_succ_self _) (.slice (some ⟨g, 0, none⟩) (tkK l k).at_.length (tkK l k).at_.length)).setCell (p := ⟨w.heap.size, k * 5 + 4, none⟩) (Nat.le_refl _) (Nat.lt_succ_self _) (.bool (tkK l k).sh)
  refine ⟨h.bl.trans (K.below (Nat.le_refl _) h.bl.size), _, ((((hf.set (k * 5) _).set (k * 5 + 1) _).set (k * 5 + 2) _).set (k * 5 + 3) _).set (k * 5 + 4) _, fun j hk => ?_⟩
  by_cases e : j = k
  · subst e
    refine ⟨?_, ?_, ?_, ⟨g, ?_, hg, hao.kept K hg⟩, ?_⟩
    · rw [if_neg (by omega), if_neg (by omega), if_neg (by omega), if_neg (by omega), if_pos rfl]
    · rw [if_neg (by omega), if_neg (by omega), if_neg (by omega), if_pos rfl]
    · rw [if_neg (by omega), if_neg (by omega), if_pos rfl]
    · rw [if_neg (by omega), if_pos rfl]
    · rw [if_pos rfl]
  · obtain ⟨h1, h2, h3, ⟨g', h4, h5, h6⟩, h7⟩ := hj j (by omega)
    refine ⟨?_, ?_, ?_, ⟨g', ?_, h5, h6.kept K h5⟩, ?_⟩
    · rw [if_neg (by omega), if_neg (by omega), if_neg (by omega), if_neg (by omega), if_neg (by omega)]; exact h1
    · rw [if_neg (by omega), if_neg (by omega), if_neg (by omega), if_neg (by omega), if_neg (by omega)]; exact h2
    · rw [if_neg (by omega), if_neg (by omega), if_neg (by omega), if_neg (by omega), if_neg (by omega)]; exact h3
    · rw [if_neg (by omega), if_neg (by omega), if_neg (by omega), if_neg (by omega), if_neg (by omega)]; exact h4
    · rw [if_neg (by omega), if_neg (by omega), if_neg (by omega), if_neg (by omega), if_neg (by omega)]; exact h7

theorem TR.at {w wr : World} {l : List TK} (h : TR w l l.length wr) : TsAt wr (some ⟨w.heap.size, 0, none⟩) l := by
  obtain ⟨f, hf, hj⟩ := h.row
  refine .inr ⟨_, _, rfl, hf.lt, fun k hk => ?_⟩
  obtain ⟨h1, h2, h3, ⟨g, h4, h5, h6⟩, h7⟩ := hj k hk
  have c := fun i (hi : i < 5) => hf.cell (show k * 5 + i < l.length * 5 by omega)
  refine ⟨by rw [Nat.zero_add]; exact (c 0 (by omega)).trans (by rw [Nat.add_zero, h1]), by rw [Nat.zero_add, c 1 (by omega), h2], by rw [Nat.zero_add, c 2 (by omega), h3], ⟨_, _, by rw [Nat.zero_add, c 3 (by omega), h4], h6.at⟩, by rw [Nat.zero_add, c 4 (by omega), h7]⟩

set_option maxHeartbeats 1600000 in
theorem toTokenS_any (a : Option Addr) (c : Nat) (l : List TK) (w : World) (ha : TsAt w a l) (hl : (l.length : Int) + tssz l ≤ 1048576) :
    Calls Tryz.prog 21 #[.slice a l.length c] w fun e w' => e = .returned (.slice (some ⟨w.heap.size, 0, none⟩) l.length l.length) ∧ TR w l l.length w' := by
  have hmk := make_tokens (P := Tryz.prog) 52 40 Tryz.underlying52 Tryz.info40 l.length (by omega)
  have HA := Hid.mk' ha
  clear ha
  go_enter Tryz.func21, Tryz.ntmps21
  go_wp2
  go_loopw [4] (fun i wr => ∃ k : Nat, k ≤ l.length ∧ i = .int .i64 k ∧ TR w l k wr) (fun i _ => l.length - (intOf i).toNat)
  case atStart => exact ⟨0, Nat.zero_le _, rfl, TR.start w l⟩
  case round =>
    obtain ⟨k, hk, rfl, hr⟩ := hrel
    have HR := Hid.mk' hr
    clear hr hmk
    by_cases hlt : k < l.length
    · have ci : (k : Int) < (l.length : Int) := by omega
      rcases HA.out with ha | ⟨b, o, rfl, hbs, hc⟩
      · exact absurd hlt (by rw [ha]; exact Nat.not_lt_zero _)
      obtain ⟨q1, q2, q3, ⟨p, d, q4, q5⟩, q6⟩ := hc k hlt
      have h1 := (HR.out.bl.cell hbs).trans q1
      have h2 := (HR.out.bl.cell hbs).trans q2
      have h3 := (HR.out.bl.cell hbs).trans q3
      have h4 := (HR.out.bl.cell hbs).trans q4
      have h6 := (HR.out.bl.cell hbs).trans q6
      have st := tssz_take l k hlt
      have sl := tssz_le l (k + 1)
      unfold tsz at st
      have KA := Hid.mk' (toToken_any (tkK l k) p d wr (q5.below HR.out.bl) (by omega))
      clear q1 q2 q3 q4 q5 q6 hc st sl
      go_wp2_with fail
      refine KA.out.mono ?_
      rintro e w1 ⟨g, rfl, hg, hao, hbl⟩
      have hr1 := HR.out.below hbl
      obtain ⟨f, hf, _⟩ := hr1.row
      have f0 := hf.frozen (k * 5)
      have f1 := hf.frozen (k * 5 + 1)
      have f2 := hf.frozen (k * 5 + 2)
      have f3 := hf.frozen (k * 5 + 3)
      have f4 := hf.frozen (k * 5 + 4)
      obtain ⟨v0, g0⟩ : ∃ v, w1.cell? ⟨w.heap.size, k * 5, none⟩ = some v := ⟨_, hf.cell (by omega)⟩
      obtain ⟨v1, g1⟩ : ∃ v, w1.cell? ⟨w.heap.size, k * 5 + 1, none⟩ = some v := ⟨_, hf.cell (by omega)⟩
      obtain ⟨v2, g2⟩ : ∃ v, w1.cell? ⟨w.heap.size, k * 5 + 2, none⟩ = some v := ⟨_, hf.cell (by omega)⟩
      obtain ⟨v3, g3⟩ : ∃ v, w1.cell? ⟨w.heap.size, k * 5 + 3, none⟩ = some v := ⟨_, hf.cell (by omega)⟩
      obtain ⟨v4, g4⟩ : ∃ v, w1.cell? ⟨w.heap.size, k * 5 + 4, none⟩ = some v := ⟨_, hf.cell (by omega)⟩
      have hgl : w.heap.size < g := by obtain ⟨f', hf', _⟩ := HR.out.row; have := hf'.lt; omega
      have R1 := Hid.mk' (hr1.step hgl hao)
      clear hr1 hf hao hbl KA h1 h2 h3 h4 h6 hg
      go_wp2
      go_roundw
      case rel => exact ⟨k + 1, by omega, by go_num, R1.out⟩
      case measure => simp [intOf]; omega
    · have ci : ¬ (k : Int) < (l.length : Int) := by omega
      have e : k = l.length := by omega
      subst e
      go_wp2
      go_ret
      exact ⟨rfl, HR.out⟩

end Go.Proofs.YtpcpnfpnkkjkcaaGreat

/- The program's PutAll. -/
namespace Go.Proofs.YtpcpnfpnkkjkcaaGreat
open Go.RowKit
set_option linter.unusedVariables false
set_option linter.unusedSimpArgs false

/-- The code of the first token that has one. -/
def firstT : List TK → Int
  | [] => 0
  | t :: l => if tfault t = 0 then firstT l else tfault t

theorem firstT_none : ∀ (l : List TK), (∀ j, j < l.length → tfault (tkK l j) = 0) → firstT l = 0
  | [], _ => rfl
  | t :: l, h => by
    have h0 : tfault t = 0 := h 0 (by simp)
    unfold firstT
    rw [if_pos h0]
    exact firstT_none l (fun j hj => h (j + 1) (by simpa using hj))

theorem firstT_some : ∀ (l : List TK) (k : Nat), k < l.length → (∀ j, j < k → tfault (tkK l j) = 0) → ¬ tfault (tkK l k) = 0 → firstT l = tfault (tkK l k)
  | [], k, hk, _, _ => absurd hk (Nat.not_lt_zero _)
  | t :: l, 0, _, _, h => by
    unfold firstT
    rw [if_neg (show ¬ tfault t = 0 from h)]; rfl
  | t :: l, k + 1, hk, h0, h => by
    unfold firstT
    rw [if_pos (show tfault t = 0 from h0 0 (by omega))]
    exact firstT_some l k (by simpa using hk) (fun j hj => h0 (j + 1) (by omega)) h

/-- A state after tokens. -/
def foldX (s : BS) (l : List TK) : BS := l.foldl putX s

theorem foldX_take (s : BS) (l : List TK) (k : Nat) (hk : k < l.length) : foldX s (l.take (k + 1)) = putX (foldX s (l.take k)) (tkK l k) := by
  unfold foldX
  rw [List.take_add_one, List.foldl_append, List.getElem?_eq_getElem hk]
  simp [tkK, hk]

theorem gs_fold {s : BS} (h : GS s) : ∀ (l : List TK), GS (foldX s l) := by
  intro l
  induction l generalizing s with
  | nil => exact h
  | cons t l ih => exact ih (gs_put h t)

theorem nS_fold : ∀ (l : List TK) (s : BS), nS (foldX s l) ≤ nS s + 2 * l.length + tssz l
  | [], s => by simp [foldX, tssz]
  | t :: l, s => by
    have h := nS_fold l (putX s t)
    have h2 := nS_put s t
    have e : tS t = tsz t := rfl
    have e2 : foldX s (t :: l) = foldX (putX s t) l := rfl
    rw [e2]
    simp only [List.length_cons, tssz]
    omega

/-- The code of tokens put into a state, and the state. -/
def pallC (s : BS) (l : List TK) : Int := if bldF s = 0 then (if 300 < l.length then 2 else firstT l) else bldF s
def pallR (s : BS) (l : List TK) : BS := if pallC s l = 0 then foldX s l else noS

theorem pall_cases (s : BS) (l : List TK) : (¬ bldF s = 0 ∧ pallC s l = bldF s ∧ pallR s l = noS) ∨ (bldF s = 0 ∧ 300 < l.length ∧ pallC s l = 2 ∧ pallR s l = noS) ∨ (bldF s = 0 ∧ ¬ 300 < l.length ∧ pallC s l = firstT l) := by
  by_cases h : bldF s = 0
  · by_cases h2 : 300 < l.length
    · have e : pallC s l = 2 := by unfold pallC; rw [if_pos h, if_pos h2]
      exact .inr (.inl ⟨h, h2, e, by unfold pallR; rw [e, if_neg (by decide)]⟩)
    · exact .inr (.inr ⟨h, h2, by unfold pallC; rw [if_pos h, if_neg h2]⟩)
  · have e : pallC s l = bldF s := by unfold pallC; rw [if_neg h]
    exact .inl ⟨h, e, by unfold pallR; rw [e, if_neg h]⟩

theorem pallR_bad {s : BS} {l : List TK} (h : ¬ pallC s l = 0) : pallR s l = noS := by unfold pallR; rw [if_neg h]
theorem pallR_good {s : BS} {l : List TK} (h : pallC s l = 0) : pallR s l = foldX s l := by unfold pallR; rw [if_pos h]

/-- The boxes of PutAll. -/
theorem boxesA (w : World) (x0 x1 x2 : Value) :
    let W := (w.alloc (.cells #[x0, x1, x2] 33)).alloc (.cells #[.int .i64 0, .slice none 0 0, .slice none 0 0, .bool false] 35)
    Below w.heap.size w W ∧ W.rowIs w.heap.size 33 3 (r3 x0 x1 x2) ∧ W.rowIs (w.heap.size + 1) 35 4 (r4 (.int .i64 0) (.slice none 0 0) (.slice none 0 0) (.bool false)) := by
  refine ⟨(below_new w _).alloc (by simp) _, (row3 w _ x0 x1 x2).alloc _, ?_⟩
  have := row4 (w.alloc (.cells #[x0, x1, x2] 33)) 35 (.int .i64 0) (.slice none 0 0) (.slice none 0 0) (.bool false)
  rw [show (w.alloc (.cells #[x0, x1, x2] 33)).heap.size = w.heap.size + 1 by simp] at this
  exact this

set_option maxRecDepth 100000 in
set_option maxHeartbeats 6400000 in
theorem implAll_any (s : BS) (l : List TK) (a p q : Option Addr) (c d c' : Nat) (w : World) (ha : SAt w a p s) (ht : TsAt w q l) (hl : (s.nd.length : Int) + nssz s.nd + s.op.length ≤ 1048576) (hm : (l.length : Int) + tssz l ≤ 1048576) :
    Calls Tryz.prog 22 #[.agg #[.slice a s.nd.length c, .slice p s.op.length d, .bool s.lg], .slice q l.length c'] w fun e w' => PutP (pallC s l) (pallR s l) w e w' := by
  obtain ⟨N0, RX, RR⟩ := boxesA w (.slice a s.nd.length c) (.slice p s.op.length d) (.bool s.lg)
  have KF := implBF_any s a p c d _ (ha.below N0) hl
  have HS := Hid.mk' (ha.below N0)
  have HT := Hid.mk' (ht.below N0)
  have HN := Hid.mk' N0
  have HX := Hid.mk' RX
  have HR := Hid.mk' RR
  clear ha ht N0 RX RR
  obtain ⟨xb, hxb⟩ : ∃ xb, w.heap.size = xb := ⟨_, rfl⟩
  rw [hxb] at HX HR
  have XB := Hid.mk' hxb
  generalize hW : (w.alloc (.cells #[.slice a s.nd.length c, .slice p s.op.length d, .bool s.lg] 33)).alloc (.cells #[.int .i64 0, .slice none 0 0, .slice none 0 0, .bool false] 35) = W at *
  obtain ⟨x0, x1, x2, x3⟩ := cells3 HX.out
  rcases pall_cases s l with ⟨h1, h2, h3⟩ | ⟨h1, h4, h2, h3⟩ | ⟨h1, h4, h2⟩
  · have E2 := Hid.mk' h2
    have E3 := Hid.mk' h3
    have KF := Hid.mk' KF
    clear h2 h3
    generalize bldF s = bf at *
    go_enter Tryz.func22, Tryz.ntmps22
    go_wp2_with fail
    clear hW hxb
    refine KF.out.mono ?_
    rintro e w1 ⟨rfl, hb⟩
    have R1 := rowB HR.out hb
    have HB := Hid.mk' (HN.out.trans (hb.mono HN.out.size))
    obtain ⟨b0, b1, b2, b3, b4⟩ := cells4 R1
    obtain ⟨f0, f1, f2, f3⟩ := frz4 R1
    clear hb KF R1
    go_wp2
    refine bodyPost_ret (v := .agg #[.int .i64 bf, .slice none 0 0, .slice none 0 0, .bool false]) (by simp [results, Tryz.results22, go_sem, *]) rfl ?_
    rw [E2.out, E3.out]
    exact PutP.err (set4 HB.out (by have := XB.out; omega))
  · rw [h1] at KF
    have KF := Hid.mk' KF
    have E2 := Hid.mk' h2
    have E3 := Hid.mk' h3
    have h4' : (l.length : Int) > 300 := by omega
    clear h2 h3 h1
    go_enter Tryz.func22, Tryz.ntmps22
    go_wp2_with fail
    clear hW hxb
    refine KF.out.mono ?_
    rintro e w1 ⟨rfl, hb⟩
    have R1 := rowB HR.out hb
    have HB := Hid.mk' (HN.out.trans (hb.mono HN.out.size))
    obtain ⟨b0, b1, b2, b3, b4⟩ := cells4 R1
    obtain ⟨f0, f1, f2, f3⟩ := frz4 R1
    clear hb KF R1
    go_wp2
    refine bodyPost_ret (v := .agg #[.int .i64 2, .slice none 0 0, .slice none 0 0, .bool false]) (by simp [results, Tryz.results22, go_sem, *]) rfl ?_
    rw [E2.out, E3.out]
    exact PutP.err (set4 HB.out (by have := XB.out; omega))
  · have GS0 := Hid.mk' (gs_of h1)
    rw [h1] at KF
    have KF := Hid.mk' KF
    have E2 := Hid.mk' h2
    have h4' : ¬ (l.length : Int) > 300 := by omega
    clear h2 h1
    go_enter Tryz.func22, Tryz.ntmps22
    go_wp2_with fail
    clear hW hxb
    refine KF.out.mono ?_
    rintro e w1 ⟨rfl, hb⟩
    have HX := Hid.mk' (rowB HX.out hb)
    have HR := Hid.mk' (rowB HR.out hb)
    have HS := Hid.mk' (HS.out.below hb)
    have HT := Hid.mk' (HT.out.below hb)
    have HB := Hid.mk' (HN.out.trans (hb.mono HN.out.size))
    clear hb KF x0 x1 x2 x3
    obtain ⟨x0, x1, x2, x3⟩ := cells3 HX.out
    have KN := Hid.mk' (newBuilder_any s a p c d w1 HS.out GS0.out (by omega))
    go_wp2_with fail
    refine KN.out.mono ?_
    rintro e w2 ⟨g, rfl, hz⟩
    have HZ := Hid.mk' hz
    clear hz KN x0 x1 x2 x3
    go_wp2
    go_loopw [24] (fun i wr => ∃ k : Nat, k ≤ l.length ∧ i = .int .i64 k ∧ (∀ j, j < k → tfault (tkK l j) = 0) ∧ ZB true 117 w1 w1.heap.size g (foldX s (l.take k)) wr) (fun i _ => l.length - (intOf i).toNat)
    case atStart => exact ⟨0, Nat.zero_le _, rfl, fun j hj => absurd hj (Nat.not_lt_zero _), by simpa [foldX] using HZ.out⟩
    case round =>
      obtain ⟨k, hk, rfl, hz0, hzk⟩ := hrel
      have hbl : Below w1.heap.size w1 wr := by obtain ⟨_, _, _, _, _, _, z⟩ := id hzk; exact z.bl
      have HZ := Hid.mk' hzk
      have HZ0 := Hid.mk' hz0
      have HBL := Hid.mk' hbl
      clear hzk hz0
      by_cases hlt : k < l.length
      · have ci : (k : Int) < (l.length : Int) := by omega
        rcases HT.out with h0 | ⟨b1, o1, rfl, s0, hc1⟩
        · exact absurd hlt (by rw [h0]; exact Nat.not_lt_zero _)
        obtain ⟨h1, h2, h3, ⟨p1, d1, h5, h6⟩, h7⟩ := hc1 k hlt
        have AT := Hid.mk' h6
        replace h1 := (hbl.cell s0).trans h1
        replace h2 := (hbl.cell s0).trans h2
        replace h3 := (hbl.cell s0).trans h3
        replace h5 := (hbl.cell s0).trans h5
        replace h7 := (hbl.cell s0).trans h7
        have s1 := Nat.lt_of_lt_of_le s0 hbl.size
        have st := tssz_take l k hlt
        have sl := tssz_le l (k + 1)
        have et : tsz (tkK l k) = (tkK l k).nm.size + (tkK l k).at_.length + asz (tkK l k).at_ := rfl
        have FT := Hid.mk' (foldX_take s l k hlt)
        have FSx := Hid.mk' (firstT_some l k hlt HZ0.out)
        obtain ⟨t, ht⟩ : ∃ t, tkK l k = t := ⟨_, rfl⟩
        have HTK := Hid.mk' ht
        rw [ht] at h1 h2 h3 h5 h7 AT st et FT FSx
        have N1 := below_new wr (.cells #[.int .i64 t.kd, .int .i64 t.by_, .string t.nm, .slice p1 t.at_.length d1, .bool t.sh] 40)
        have RB := Hid.mk' (row5 wr 40 (.int .i64 t.kd) (.int .i64 t.by_) (.string t.nm) (.slice p1 t.at_.length d1) (.bool t.sh))
        have KT := take_any w1 w1.heap.size g (foldX s (l.take k)) t p1 d1 _ (HZ.out.below N1) (gs_fold GS0.out _) rfl AT.out (by omega) (by omega)
        have HBN := Hid.mk' (HBL.out.trans (N1.mono HBL.out.size))
        clear hc1 h6 hbl ht N1 st sl et
        generalize hW : wr.alloc (.cells #[.int .i64 t.kd, .int .i64 t.by_, .string t.nm, .slice p1 t.at_.length d1, .bool t.sh] 40) = W2 at *
        obtain ⟨y0, y1, y2, y3, y4, y5⟩ := cells5 RB.out
        by_cases hf : tfault t = 0
        · rw [if_pos hf, hf] at KT
          have KT := Hid.mk' KT
          have HF := Hid.mk' hf
          clear hf
          go_wp2_with fail
          clear hW h1 h2 h3 h5 h7
          refine KT.out.mono ?_
          rintro e w3 ⟨rfl, hz3⟩
          have HZ3 := Hid.mk' hz3
          clear hz3 KT y0 y1 y2 y3 y4 y5
          go_wp2
          go_roundw
          case rel =>
            refine ⟨k + 1, by omega, by go_num, fun j hj => ?_, by rw [FT.out]; exact HZ3.out⟩
            by_cases e : j = k
            · rw [e, HTK.out]; exact HF.out
            · exact HZ0.out j (by omega)
          case measure => simp [intOf]; omega
        · rw [if_neg hf] at KT
          have KT := Hid.mk' KT
          have EF := Hid.mk' (FSx.out hf)
          have HF := Hid.mk' hf
          clear hf
          generalize tfault t = tf at *
          have tfn : ¬ tf = 0 := HF.out
          go_wp2_with fail
          clear hW h1 h2 h3 h5 h7
          refine KT.out.mono ?_
          rintro e w3 ⟨rfl, hz3⟩
          have hb3 : Below w1.heap.size w1 w3 := by obtain ⟨_, _, _, _, _, _, z⟩ := hz3; exact z.bl
          have R1 := rowB HR.out hb3
          have HB := Hid.mk' (HB.out.trans (hb3.mono HB.out.size))
          obtain ⟨b0, b1', b2, b3, b4⟩ := cells4 R1
          obtain ⟨f0, f1, f2, f3⟩ := frz4 R1
          clear hz3 hb3 KT R1 y0 y1 y2 y3 y4 y5
          go_wp2
          refine bodyPost_ret (v := .agg #[.int .i64 tf, .slice none 0 0, .slice none 0 0, .bool false]) (by simp [results, Tryz.results22, go_sem, *]) rfl ?_
          have ec : pallC s l = tf := E2.out.trans EF.out
          rw [pallR_bad (by rw [ec]; exact HF.out), ec]
          exact PutP.err (set4 HB.out (by have := XB.out; omega))
      · have ci : ¬ (k : Int) < (l.length : Int) := by omega
        have ek : k = l.length := by omega
        have E0 : Hid (pallC s l = 0) := Hid.mk' (E2.out.trans (firstT_none l (fun j hj => HZ0.out j (by omega))))
        have HZ := Hid.mk' (show ZB true 117 w1 w1.heap.size g (foldX s l) wr by have := HZ.out; rw [ek, List.take_length] at this; exact this)
        have E3 := Hid.mk' (pallR_good E0.out)
        have GS1 := Hid.mk' (gs_fold GS0.out l)
        obtain ⟨s2, hs2⟩ : ∃ s2, foldX s l = s2 := ⟨_, rfl⟩
        rw [hs2] at HZ E3 GS1
        obtain ⟨τ, vn, vo, va, vt, us, hz3⟩ := HZ.out
        have KS := Hid.mk' (state_any w1 w1.heap.size g s2 wr τ vn vo va vt us hz3 GS1.out)
        have HZ3 := Hid.mk' hz3
        clear hs2 hz3 hbl ek
        go_wp2_with fail
        refine KS.out.mono ?_
        rintro e w4 ⟨vp, rfl, ho, hp, hb4⟩
        obtain ⟨ap, cp, ep, _⟩ := ho.len
        subst ep
        obtain ⟨pn, cn, en, _⟩ := own_len HZ3.out.ns.row
        subst en
        have hb3 := HZ3.out.bl
        have hb5 := hb3.trans (hb4.mono hb3.size)
        have R1 := rowB HR.out hb5
        have rlt : xb + 1 < w1.heap.size := HR.out.lt
        have HB5 := Hid.mk' (HB.out.trans (hb5.mono HB.out.size))
        obtain ⟨b0, b1, b2, b3, b4⟩ := cells4 R1
        obtain ⟨f0, f1, f2, f3⟩ := frz4 R1
        have HO := Hid.mk' ho
        have HPP := Hid.mk' hp
        have HB4 := Hid.mk' hb4
        have LW : Hid (w.heap.size ≤ w1.heap.size) := Hid.mk' HB.out.size
        have L3 : Hid (w1.heap.size ≤ wr.heap.size) := Hid.mk' hb3.size
        clear ho hp hb4 hb3 hb5 KS R1
        go_wp2
        refine bodyPost_ret (v := .agg #[.int .i64 0, .slice pn s2.nd.length cn, .slice ap s2.op.length cp, .bool s2.lg]) (by simp [results, Tryz.results22, go_sem, *]) rfl ?_
        rw [E0.out, E3.out]
        have hx := XB.out
        obtain ⟨τ', hsq, hcap⟩ := sq_impl (lo := w.heap.size) (w8 := (((w4.setCell ⟨xb + 1, 0, none⟩ (.int .i64 0)).setCell ⟨xb + 1, 1, none⟩ (.slice pn s2.nd.length cn)).setCell ⟨xb + 1, 2, none⟩ (.slice ap s2.op.length cp)).setCell ⟨xb + 1, 3, none⟩ (.bool s2.lg)) HZ3.out.ns LW.out L3.out (fun k h1 h2 => by rw [blk4 (by omega)]; exact HB4.out.block k h2) (HO.out.keep (fun k e hl' => blk4 (by have := HPP.out k e; have := L3.out; omega))) (fun k e => HPP.out k e)
        exact ⟨τ', _, _, va, vt, us, rfl, hsq, fun k hk => hcap k hk (by rw [siz4]; exact HB4.out.size), set4 HB5.out (by omega)⟩

end Go.Proofs.YtpcpnfpnkkjkcaaGreat

/- The model's PutAll. -/
namespace Go.Proofs.YtpcpnfpnkkjkcaaGreat
open Go.RowKit
set_option linter.unusedVariables false
set_option linter.unusedSimpArgs false

/-- Tokens lie at an address, their attributes within their room. -/
def TsB (w : World) (a : Option Addr) (l : List TK) : Prop :=
  l = [] ∨ ∃ b o, a = some ⟨b, o, none⟩ ∧ b < w.heap.size ∧ ∀ k, k < l.length → ∃ p c, T5 w b (o + k * 5) (tkK l k) p c ∧ AAt w p (tkK l k).at_ ∧ (tkK l k).at_.length ≤ c

theorem TsB.below {w w' : World} {a : Option Addr} {l : List TK} (h : TsB w a l) (hb : Below w.heap.size w w') : TsB w' a l := by
  rcases h with h | ⟨b, o, e, hs, hc⟩
  · exact .inl h
  · refine .inr ⟨b, o, e, Nat.lt_of_lt_of_le hs hb.size, fun k hk => ?_⟩
    obtain ⟨p, c, h1, h2, h3⟩ := hc k hk
    exact ⟨p, c, h1.below hb, h2.below hb, h3⟩

theorem TR.atB {w wr : World} {l : List TK} (h : TR w l l.length wr) : TsB wr (some ⟨w.heap.size, 0, none⟩) l := by
  obtain ⟨f, hf, hj⟩ := h.row
  refine .inr ⟨_, _, rfl, hf.lt, fun k hk => ?_⟩
  obtain ⟨h1, h2, h3, ⟨g, h4, h5, h6⟩, h7⟩ := hj k hk
  have c := fun i (hi : i < 5) => hf.cell (show k * 5 + i < l.length * 5 by omega)
  exact ⟨some ⟨g, 0, none⟩, (tkK l k).at_.length, ⟨by rw [Nat.zero_add]; exact (c 0 (by omega)).trans (by rw [Nat.add_zero, h1]), by rw [Nat.zero_add, c 1 (by omega), h2], by rw [Nat.zero_add, c 2 (by omega), h3], by rw [Nat.zero_add, c 3 (by omega), h4], by rw [Nat.zero_add, c 4 (by omega), h7], hf.lt⟩, h6.at, Nat.le_refl _⟩

set_option maxRecDepth 100000 in
set_option maxHeartbeats 6400000 in
theorem specAll_any (s : BS) (l : List TK) (a p q : Option Addr) (c d c' : Nat) (w : World) (ha : SAt w a p s) (ht : TsB w q l) (hl : (s.nd.length : Int) + nssz s.nd + s.op.length ≤ 1048576) (hm : (l.length : Int) + tssz l ≤ 1048576) :
    Calls Tryz.prog 20 #[.agg #[.slice a s.nd.length c, .slice p s.op.length d, .bool s.lg], .slice q l.length c'] w fun e w' => PutP (pallC s l) (pallR s l) w e w' := by
  obtain ⟨N0, RX, RR⟩ := boxesA w (.slice a s.nd.length c) (.slice p s.op.length d) (.bool s.lg)
  have KF := l7Fault_any s w.heap.size a p c d _ RX (ha.below N0) hl
  have HS := Hid.mk' (ha.below N0)
  have HT := Hid.mk' (ht.below N0)
  have HN := Hid.mk' N0
  have HX := Hid.mk' RX
  have HR := Hid.mk' RR
  clear ha ht N0 RX RR
  obtain ⟨xb, hxb⟩ : ∃ xb, w.heap.size = xb := ⟨_, rfl⟩
  rw [hxb] at HX HR KF
  have XB := Hid.mk' hxb
  generalize hW : (w.alloc (.cells #[.slice a s.nd.length c, .slice p s.op.length d, .bool s.lg] 33)).alloc (.cells #[.int .i64 0, .slice none 0 0, .slice none 0 0, .bool false] 35) = W at *
  rcases pall_cases s l with ⟨h1, h2, h3⟩ | ⟨h1, h4, h2, h3⟩ | ⟨h1, h4, h2⟩
  · have E2 := Hid.mk' h2
    have E3 := Hid.mk' h3
    have KF := Hid.mk' KF
    clear h2 h3
    generalize bldF s = bf at *
    go_enter Tryz.func20, Tryz.ntmps20
    go_wp2_with fail
    clear hW hxb
    refine KF.out.mono ?_
    rintro e w1 ⟨rfl, hb⟩
    have R1 := rowB HR.out hb
    have HB := Hid.mk' (HN.out.trans (hb.mono HN.out.size))
    obtain ⟨b0, b1, b2, b3, b4⟩ := cells4 R1
    obtain ⟨f0, f1, f2, f3⟩ := frz4 R1
    clear hb KF R1
    go_wp2
    refine bodyPost_ret (v := .agg #[.int .i64 bf, .slice none 0 0, .slice none 0 0, .bool false]) (by simp [results, Tryz.results20, go_sem, *]) rfl ?_
    rw [E2.out, E3.out]
    exact PutP.err (set4 HB.out (by have := XB.out; omega))
  · rw [h1] at KF
    have KF := Hid.mk' KF
    have E2 := Hid.mk' h2
    have E3 := Hid.mk' h3
    have h4' : (l.length : Int) > 300 := by omega
    clear h2 h3 h1
    go_enter Tryz.func20, Tryz.ntmps20
    go_wp2_with fail
    clear hW hxb
    refine KF.out.mono ?_
    rintro e w1 ⟨rfl, hb⟩
    have R1 := rowB HR.out hb
    have HB := Hid.mk' (HN.out.trans (hb.mono HN.out.size))
    obtain ⟨b0, b1, b2, b3, b4⟩ := cells4 R1
    obtain ⟨f0, f1, f2, f3⟩ := frz4 R1
    clear hb KF R1
    go_wp2
    refine bodyPost_ret (v := .agg #[.int .i64 2, .slice none 0 0, .slice none 0 0, .bool false]) (by simp [results, Tryz.results20, go_sem, *]) rfl ?_
    rw [E2.out, E3.out]
    exact PutP.err (set4 HB.out (by have := XB.out; omega))
  · have GS0 := Hid.mk' (gs_of h1)
    rw [h1] at KF
    have KF := Hid.mk' KF
    have E2 := Hid.mk' h2
    have h4' : ¬ (l.length : Int) > 300 := by omega
    clear h2 h1
    go_enter Tryz.func20, Tryz.ntmps20
    go_wp2_with fail
    clear hW hxb
    refine KF.out.mono ?_
    rintro e w1 ⟨rfl, hb⟩
    have HX := Hid.mk' (rowB HX.out hb)
    have HR := Hid.mk' (rowB HR.out hb)
    have HS := Hid.mk' (HS.out.below hb)
    have HT := Hid.mk' (HT.out.below hb)
    have HB := Hid.mk' (HN.out.trans (hb.mono HN.out.size))
    clear hb KF
    obtain ⟨x0, x1, x2, x3⟩ := cells3 HX.out
    have KN := Hid.mk' (copyState_any s a p c d w1 HS.out GS0.out (by omega))
    go_wp2_with fail
    refine KN.out.mono ?_
    rintro e w3 ⟨τ, vn, vo, va, vt, us, rfl, hns, hop, hb⟩
    have hz := ZS.boxed (T := 33) hns hop hb hb.size
    obtain ⟨pn, cn, en, _⟩ := own_len hns.row
    obtain ⟨po, co, eo, _⟩ := hop.row
    subst en eo
    obtain ⟨g, hgt⟩ : ∃ g, w3.heap.size = g := ⟨_, rfl⟩
    rw [hgt] at hz
    have HZ := Hid.mk' hz
    clear hz hns hop hb KN x0 x1 x2 x3
    generalize hW3 : w3.alloc (.cells #[.slice pn s.nd.length cn, .slice po s.op.length co, .bool s.lg] 33) = W3 at *
    go_wp2
    clear hW3 hgt
    go_loopw [7] (fun i wr => ∃ k : Nat, k ≤ l.length ∧ i = .int .i64 k ∧ (∀ j, j < k → tfault (tkK l j) = 0) ∧ ZB false 33 w1 w1.heap.size g (foldX s (l.take k)) wr) (fun i _ => l.length - (intOf i).toNat)
    case atStart => exact ⟨0, Nat.zero_le _, rfl, fun j hj => absurd hj (Nat.not_lt_zero _), by simpa [foldX] using HZ.out⟩
    case round =>
      obtain ⟨k, hk, rfl, hz0, hzk⟩ := hrel
      have hbl : Below w1.heap.size w1 wr := by obtain ⟨_, _, _, _, _, _, z⟩ := id hzk; exact z.bl
      have HZ := Hid.mk' hzk
      have HZ0 := Hid.mk' hz0
      have HBL := Hid.mk' hbl
      clear hzk hz0
      by_cases hlt : k < l.length
      · have ci : (k : Int) < (l.length : Int) := by omega
        rcases HT.out with h0 | ⟨b1, o1, rfl, s0, hc1⟩
        · exact absurd hlt (by rw [h0]; exact Nat.not_lt_zero _)
        obtain ⟨p1, d1, h1, h6, h7⟩ := hc1 k hlt
        have s1 := Nat.lt_of_lt_of_le s0 hbl.size
        have st := tssz_take l k hlt
        have sl := tssz_le l (k + 1)
        have et : tsz (tkK l k) = (tkK l k).nm.size + (tkK l k).at_.length + asz (tkK l k).at_ := rfl
        have FT := Hid.mk' (foldX_take s l k hlt)
        have FSx := Hid.mk' (firstT_some l k hlt HZ0.out)
        obtain ⟨t, ht⟩ : ∃ t, tkK l k = t := ⟨_, rfl⟩
        have HTK := Hid.mk' ht
        rw [ht] at h1 h6 h7 st et FT FSx
        have T5H := Hid.mk' h1
        have ATH := Hid.mk' h6
        have KF := l4FaultE t b1 (o1 + k * 5) p1 d1 wr (h1.below hbl) (h6.below hbl) h7 (by omega) (by omega)
        have tl : (t.at_.length : Int) + asz t.at_ ≤ 1048576 := by omega
        clear hc1 h6 h1 hbl ht st sl et
        by_cases hf : tfault t = 0
        · rw [hf] at KF
          have KF := Hid.mk' KF
          have BY := Hid.mk' (tf_byte hf)
          have HF := Hid.mk' hf
          clear hf
          go_wp2_with fail
          refine KF.out.mono ?_
          rintro e w4 ⟨rfl, hb4⟩
          have KP := Hid.mk' (putE w1 w1.heap.size g b1 (o1 + k * 5) (foldX s (l.take k)) t p1 d1 w4 (HZ.out.below hb4) (gs_fold GS0.out _) rfl T5H.out ATH.out tl (fun _ => BY.out))
          clear hb4 KF
          go_wp2_with fail
          refine KP.out.mono ?_
          rintro e w5 ⟨⟨ve, rfl⟩, hz5⟩
          have HZ5 := Hid.mk' hz5
          clear hz5 KP
          go_wp2
          go_roundw
          case rel =>
            refine ⟨k + 1, by omega, by go_num, fun j hj => ?_, by rw [FT.out]; exact HZ5.out⟩
            by_cases e : j = k
            · rw [e, HTK.out]; exact HF.out
            · exact HZ0.out j (by omega)
          case measure => simp [intOf]; omega
        · have EF := Hid.mk' (FSx.out hf)
          have HF := Hid.mk' hf
          have KF := Hid.mk' KF
          clear hf
          generalize tfault t = tf at *
          have tfn : ¬ tf = 0 := HF.out
          go_wp2_with fail
          refine KF.out.mono ?_
          rintro e w4 ⟨rfl, hb4⟩
          have hb3 := HBL.out.trans (hb4.mono HBL.out.size)
          have R1 := rowB HR.out hb3
          have HB := Hid.mk' (HB.out.trans (hb3.mono HB.out.size))
          obtain ⟨b0, b1', b2, b3, b4⟩ := cells4 R1
          obtain ⟨f0, f1, f2, f3⟩ := frz4 R1
          clear hb4 hb3 KF R1
          go_wp2
          refine bodyPost_ret (v := .agg #[.int .i64 tf, .slice none 0 0, .slice none 0 0, .bool false]) (by simp [results, Tryz.results20, go_sem, *]) rfl ?_
          have ec : pallC s l = tf := E2.out.trans EF.out
          rw [pallR_bad (by rw [ec]; exact HF.out), ec]
          exact PutP.err (set4 HB.out (by have := XB.out; omega))
      · have ci : ¬ (k : Int) < (l.length : Int) := by omega
        have ek : k = l.length := by omega
        have E0 : Hid (pallC s l = 0) := Hid.mk' (E2.out.trans (firstT_none l (fun j hj => HZ0.out j (by omega))))
        have HZ := Hid.mk' (show ZB false 33 w1 w1.heap.size g (foldX s l) wr by have := HZ.out; rw [ek, List.take_length] at this; exact this)
        have E3 := Hid.mk' (pallR_good E0.out)
        obtain ⟨s2, hs2⟩ : ∃ s2, foldX s l = s2 := ⟨_, rfl⟩
        rw [hs2] at HZ E3
        obtain ⟨τ, vn, vo, va, vt, us, hz⟩ := HZ.out
        obtain ⟨pn, cn, en, _⟩ := own_len hz.ns.row
        obtain ⟨po, co, eo, _⟩ := hz.op.row
        subst en eo
        have HZ3 := Hid.mk' hz
        obtain ⟨x0, x1, x2, x3⟩ := cells3 hz.box
        have R1 := rowB HR.out hz.bl
        have rlt : xb + 1 < w1.heap.size := HR.out.lt
        have HB5 := Hid.mk' (HB.out.trans (hz.bl.mono HB.out.size))
        have LW : Hid (w.heap.size ≤ w1.heap.size) := Hid.mk' HB.out.size
        obtain ⟨b0, b1, b2, b3, b4⟩ := cells4 R1
        obtain ⟨f0, f1, f2, f3⟩ := frz4 R1
        clear hz hs2 hbl ek R1
        go_wp2
        refine bodyPost_ret (v := .agg #[.int .i64 0, .slice pn s2.nd.length cn, .slice po s2.op.length co, .bool s2.lg]) (by simp [results, Tryz.results20, go_sem, *]) rfl ?_
        rw [E0.out, E3.out]
        have hx := XB.out
        obtain ⟨τ', hsq, hcap⟩ := sq_spec (lo := w.heap.size) (w8 := (((wr.setCell ⟨xb + 1, 0, none⟩ (.int .i64 0)).setCell ⟨xb + 1, 1, none⟩ (.slice pn s2.nd.length cn)).setCell ⟨xb + 1, 2, none⟩ (.slice po s2.op.length co)).setCell ⟨xb + 1, 3, none⟩ (.bool s2.lg)) HZ3.out LW.out (fun k h1 h2 => blk4 (by omega))
        exact ⟨τ', _, _, va, vt, us, rfl, hsq, fun k hk => hcap k hk (by rw [siz4]; exact Nat.le_refl _), set4 HB5.out (by omega)⟩

end Go.Proofs.YtpcpnfpnkkjkcaaGreat

/- Tokens copied, the attributes of each behind those of the one ahead; their marks. -/
namespace Go.Proofs.YtpcpnfpnkkjkcaaGreat
open Go.RowKit
set_option linter.unusedVariables false
set_option linter.unusedSimpArgs false

/-- A token copied; its attributes lie from lo on and below hi. -/
def TO (lo hi : Nat) (t : TK) (f : Nat → Value) (j : Nat) (w : World) : Prop :=
  f (j * 5) = .int .i64 t.kd ∧ f (j * 5 + 1) = .int .i64 t.by_ ∧ f (j * 5 + 2) = .string t.nm ∧ (∃ g, f (j * 5 + 3) = .slice (some ⟨g, 0, none⟩) t.at_.length t.at_.length ∧ lo ≤ g ∧ AOh hi g t.at_ w) ∧ f (j * 5 + 4) = .bool t.sh

/-- Tokens being copied: k of them are there. -/
structure TW (w : World) (l : List TK) (k : Nat) (wr : World) : Prop where
  bl : Below w.heap.size w wr
  row : ∃ (f : Nat → Value) (s : Nat → Nat), wr.rowIs w.heap.size 40 (l.length * 5) f ∧ w.heap.size < s 0 ∧ s k ≤ wr.heap.size ∧ (∀ j, j < k → s j ≤ s (j + 1)) ∧ ∀ j, j < k → TO (s j) (s (j + 1)) (tkK l j) f j wr

theorem TW.start (w : World) (l : List TK) : TW w l 0 (w.alloc (.cells (madeCells #[.int .i64 0, .int .i64 0, .string ⟨#[]⟩, .slice none 0 0, .bool false] (l.length * 5)) 40)) := by
  have h := TR.start w l
  obtain ⟨f, hf, _⟩ := h.row
  exact ⟨h.bl, f, fun _ => w.heap.size + 1, hf, Nat.lt_succ_self _, by simp, fun j hj => absurd hj (Nat.not_lt_zero _), fun j hj => absurd hj (Nat.not_lt_zero _)⟩

theorem TW.step {w wr w1 : World} {l : List TK} {k g : Nat} (h : TW w l k wr) (hb1 : Below wr.heap.size wr w1) (hg : wr.heap.size ≤ g) (hao : AO g (tkK l k).at_ w1) :
    TW w l (k + 1) (((((w1.setCell ⟨w.heap.size, k * 5, none⟩ (.int .i64 (tkK l k).kd)).setCell ⟨w.heap.size, k * 5 + 1, none⟩ (.int .i64 (tkK l k).by_)).setCell ⟨w.heap.size, k * 5 + 2, none⟩ (.string (tkK l k).nm)).setCell ⟨w.heap.size, k * 5 + 3, none⟩ (.slice (some ⟨g, 0, none⟩) (tkK l k).at_.length (tkK l k).at_.length)).setCell ⟨w.heap.size, k * 5 + 4, none⟩ (.bool (tkK l k).sh)) := by
  obtain ⟨f, s, hf, h0, h1, h2, hj⟩ := h.row
  have K := (((((KeptIn.refl w.heap.size (w.heap.size + 1) w1).setCell (p := ⟨w.heap.size, k * 5, none⟩) (Nat.le_refl _) (Nat.lt_succ_self _) (.int .i64 (tkK l k).kd)).setCell (p := ⟨w.heap.size, k * 5 + 1, none⟩) (Nat.le_refl _) (Nat.lt_succ_self _) (.int .i64 (tkK l k).by_)).setCell (p := ⟨w.heap.size, k * 5 + 2, none⟩) (Nat.le_refl _) (Nat.lt_succ_self _) (.string (tkK l k).nm)).setCell (p := ⟨w.heap.size, k * 5 + 3, none⟩) (Nat.le_refl _) (Nat.lt_succ_self _) (.slice (some ⟨g, 0, none⟩) (tkK l k).at_.length (tkK l k).at_.length)).setCell (p := ⟨w.heap.size, k * 5 + 4, none⟩) (Nat.le_refl _) (Nat.lt_succ_self _) (.bool (tkK l k).sh)
  have hf1 := rowB hf hb1
  have hsz := hb1.size
  have hwl : w.heap.size < wr.heap.size := hf.lt
  have mono := fun j (hj' : j ≤ k) => mono_s2 (n := k) h2 (i := 0) j (Nat.zero_le _) hj'
  have monk := fun j (hj' : j ≤ k) => mono_s2 (n := k) h2 (i := j) k hj' (Nat.le_refl _)
  refine ⟨(h.bl.trans (hb1.mono h.bl.size)).trans (K.below (Nat.le_refl _) (Nat.le_trans h.bl.size hsz)), _, fun i => if i ≤ k then s i else w1.heap.size, ((((hf1.set (k * 5) _).set (k * 5 + 1) _).set (k * 5 + 2) _).set (k * 5 + 3) _).set (k * 5 + 4) _, ?_, ?_, fun j hj' => ?_, fun j hj' => ?_⟩
  · dsimp only; rw [if_pos (Nat.zero_le _)]; exact h0
  · dsimp only; rw [if_neg (by omega)]; exact K.size
  · dsimp only
    by_cases e : j = k
    · subst e; rw [if_pos (Nat.le_refl _), if_neg (by omega)]; omega
    · rw [if_pos (by omega), if_pos (by omega)]; exact h2 j (by omega)
  · by_cases e : j = k
    · subst e
      dsimp only
      rw [if_pos (Nat.le_refl _), if_neg (by omega)]
      refine ⟨?_, ?_, ?_, ⟨g, ?_, by omega, (hao.h (Nat.le_refl _)).kept K (.inr (by omega))⟩, ?_⟩
      · dsimp only; rw [if_neg (by omega), if_neg (by omega), if_neg (by omega), if_neg (by omega), if_pos rfl]
      · dsimp only; rw [if_neg (by omega), if_neg (by omega), if_neg (by omega), if_pos rfl]
      · dsimp only; rw [if_neg (by omega), if_neg (by omega), if_pos rfl]
      · dsimp only; rw [if_neg (by omega), if_pos rfl]
      · dsimp only; rw [if_pos rfl]
    · dsimp only
      rw [if_pos (by omega), if_pos (by omega)]
      have m1 := mono j (by omega)
      obtain ⟨e1, e2, e3, ⟨g', e4, e5, e6⟩, e7⟩ := hj j (by omega)
      refine ⟨?_, ?_, ?_, ⟨g', ?_, e5, (e6.below hb1).kept K (.inr (by omega))⟩, ?_⟩
      · dsimp only; rw [if_neg (by omega), if_neg (by omega), if_neg (by omega), if_neg (by omega), if_neg (by omega)]; exact e1
      · dsimp only; rw [if_neg (by omega), if_neg (by omega), if_neg (by omega), if_neg (by omega), if_neg (by omega)]; exact e2
      · dsimp only; rw [if_neg (by omega), if_neg (by omega), if_neg (by omega), if_neg (by omega), if_neg (by omega)]; exact e3
      · dsimp only; rw [if_neg (by omega), if_neg (by omega), if_neg (by omega), if_neg (by omega), if_neg (by omega)]; exact e4
      · dsimp only; rw [if_neg (by omega), if_neg (by omega), if_neg (by omega), if_neg (by omega), if_neg (by omega)]; exact e7

theorem TW.tr {w wr : World} {l : List TK} {k : Nat} (h : TW w l k wr) : TR w l k wr := by
  obtain ⟨f, s, hf, h0, h1, h2, hj⟩ := h.row
  refine ⟨h.bl, f, hf, fun j hk => ?_⟩
  have m1 := mono_s2 (n := k) h2 (i := 0) j (Nat.zero_le _) (by omega)
  obtain ⟨e1, e2, e3, ⟨g', e4, e5, e6⟩, e7⟩ := hj j hk
  exact ⟨e1, e2, e3, ⟨g', e4, by omega, e6.ao⟩, e7⟩

set_option maxHeartbeats 1600000 in
theorem toTokenW (a : Option Addr) (c : Nat) (l : List TK) (w : World) (ha : TsAt w a l) (hl : (l.length : Int) + tssz l ≤ 1048576) :
    Calls Tryz.prog 21 #[.slice a l.length c] w fun e w' => e = .returned (.slice (some ⟨w.heap.size, 0, none⟩) l.length l.length) ∧ TW w l l.length w' := by
  have hmk := make_tokens (P := Tryz.prog) 52 40 Tryz.underlying52 Tryz.info40 l.length (by omega)
  have HA := Hid.mk' ha
  clear ha
  go_enter Tryz.func21, Tryz.ntmps21
  go_wp2
  go_loopw [4] (fun i wr => ∃ k : Nat, k ≤ l.length ∧ i = .int .i64 k ∧ TW w l k wr) (fun i _ => l.length - (intOf i).toNat)
  case atStart => exact ⟨0, Nat.zero_le _, rfl, TW.start w l⟩
  case round =>
    obtain ⟨k, hk, rfl, hr⟩ := hrel
    have HR := Hid.mk' hr
    clear hr hmk
    by_cases hlt : k < l.length
    · have ci : (k : Int) < (l.length : Int) := by omega
      rcases HA.out with ha | ⟨b, o, rfl, hbs, hc⟩
      · exact absurd hlt (by rw [ha]; exact Nat.not_lt_zero _)
      obtain ⟨q1, q2, q3, ⟨p, d, q4, q5⟩, q6⟩ := hc k hlt
      have h1 := (HR.out.bl.cell hbs).trans q1
      have h2 := (HR.out.bl.cell hbs).trans q2
      have h3 := (HR.out.bl.cell hbs).trans q3
      have h4 := (HR.out.bl.cell hbs).trans q4
      have h6 := (HR.out.bl.cell hbs).trans q6
      have st := tssz_take l k hlt
      have sl := tssz_le l (k + 1)
      unfold tsz at st
      have KA := Hid.mk' (toToken_any (tkK l k) p d wr (q5.below HR.out.bl) (by omega))
      clear q1 q2 q3 q4 q5 q6 hc st sl
      go_wp2_with fail
      refine KA.out.mono ?_
      rintro e w1 ⟨g, rfl, hg, hao, hbl⟩
      obtain ⟨f00, s00, hf00, _⟩ := HR.out.row
      have hf := rowB hf00 hbl
      have f0 := hf.frozen (k * 5)
      have f1 := hf.frozen (k * 5 + 1)
      have f2 := hf.frozen (k * 5 + 2)
      have f3 := hf.frozen (k * 5 + 3)
      have f4 := hf.frozen (k * 5 + 4)
      obtain ⟨v0, g0⟩ : ∃ v, w1.cell? ⟨w.heap.size, k * 5, none⟩ = some v := ⟨_, hf.cell (by omega)⟩
      obtain ⟨v1, g1⟩ : ∃ v, w1.cell? ⟨w.heap.size, k * 5 + 1, none⟩ = some v := ⟨_, hf.cell (by omega)⟩
      obtain ⟨v2, g2⟩ : ∃ v, w1.cell? ⟨w.heap.size, k * 5 + 2, none⟩ = some v := ⟨_, hf.cell (by omega)⟩
      obtain ⟨v3, g3⟩ : ∃ v, w1.cell? ⟨w.heap.size, k * 5 + 3, none⟩ = some v := ⟨_, hf.cell (by omega)⟩
      obtain ⟨v4, g4⟩ : ∃ v, w1.cell? ⟨w.heap.size, k * 5 + 4, none⟩ = some v := ⟨_, hf.cell (by omega)⟩
      have R1 := Hid.mk' (HR.out.step hbl hg hao)
      clear hf hf00 hao hbl KA h1 h2 h3 h4 h6 hg
      go_wp2
      go_roundw
      case rel => exact ⟨k + 1, by omega, by go_num, R1.out⟩
      case measure => simp [intOf]; omega
    · have ci : ¬ (k : Int) < (l.length : Int) := by omega
      have e : k = l.length := by omega
      subst e
      go_wp2
      go_ret
      exact ⟨rfl, HR.out⟩

/-- Tokens of one's own at g, whatever they hold; hi: behind all their rows. -/
def TM (g hi : Nat) (l : List TK) (w : World) : Prop := ∃ (f : Nat → Value) (s : Nat → Nat), w.rowIs g 40 (l.length * 5) f ∧ g < s 0 ∧ s l.length = hi ∧ hi ≤ w.heap.size ∧ (∀ j, j < l.length → s j ≤ s (j + 1)) ∧ ∀ j, j < l.length → ∃ ga, f (j * 5 + 3) = .slice (some ⟨ga, 0, none⟩) (tkK l j).at_.length (tkK l j).at_.length ∧ s j ≤ ga ∧ MR ga (s (j + 1)) (tkK l j).at_ w

theorem TW.tm {w wr : World} {l : List TK} (h : TW w l l.length wr) : ∃ hi, w.heap.size < hi ∧ hi ≤ wr.heap.size ∧ TM w.heap.size hi l wr := by
  obtain ⟨f, s, hf, h0, h1, h2, hj⟩ := h.row
  refine ⟨s l.length, Nat.lt_of_lt_of_le h0 (mono_s2 h2 (i := 0) _ (Nat.zero_le _) (Nat.le_refl _)), h1, f, s, hf, h0, rfl, h1, h2, fun j hk => ?_⟩
  obtain ⟨_, _, _, ⟨g', e4, e5, e6⟩, _⟩ := hj j hk
  exact ⟨g', e4, e5, e6.mr⟩

theorem TM.lt {g hi : Nat} {l : List TK} {w : World} (h : TM g hi l w) : g < hi ∧ hi ≤ w.heap.size := by
  obtain ⟨f, s, _, h0, h1, h2, h3, _⟩ := h
  have := mono_s2 h3 (i := 0) l.length (Nat.zero_le _) (Nat.le_refl _)
  exact ⟨by omega, h2⟩

theorem TM.keep {g hi : Nat} {l : List TK} {w w' : World} (h : TM g hi l w) (hs : w.heap.size ≤ w'.heap.size) (hk : ∀ k, g ≤ k → k < hi → k < w.heap.size → w'.heap[k]? = w.heap[k]?) : TM g hi l w' := by
  obtain ⟨f, s, hf, h0, h1, h2, h3, hj⟩ := h
  have m0 := mono_s2 h3 (i := 0) l.length (by omega) (Nat.le_refl _)
  refine ⟨f, s, hf.of_block (hk g (Nat.le_refl _) (by omega) hf.lt), h0, h1, Nat.le_trans h2 hs, h3, fun j hl => ?_⟩
  obtain ⟨ga, e, hlo, hm⟩ := hj j hl
  have m1 := mono_s2 h3 (i := 0) j (by omega) (by omega)
  have m2 := mono_s2 h3 (i := j + 1) l.length (by omega) (Nat.le_refl _)
  exact ⟨ga, e, hlo, hm.keep (fun i a c d => hk i (by omega) (by omega) d)⟩

/-- A cell of the row is turned that is not the attributes'. -/
theorem TM.cell {g hi k i : Nat} {l : List TK} {w : World} {v : Value} (h : TM g hi l w) (hk : k < l.length) (hi2 : i < 5) (hv : ¬ i = 3) : TM g hi l (w.setCell ⟨g, k * 5 + i, none⟩ v) := by
  obtain ⟨f, s, hf, h0, h1, h2, h3, hj⟩ := h
  have K : KeptIn g (g + 1) w (w.setCell ⟨g, k * 5 + i, none⟩ v) := (KeptIn.refl _ _ w).setCell (p := ⟨g, k * 5 + i, none⟩) (Nat.le_refl _) (Nat.lt_succ_self _) _
  refine ⟨_, s, hf.set (k * 5 + i) v, h0, h1, by simpa [World.setCell] using h2, h3, fun j hl => ?_⟩
  have m1 := mono_s2 h3 (i := 0) j (by omega) (by omega)
  obtain ⟨ga, e, hlo, hm⟩ := hj j hl
  exact ⟨ga, by rw [if_neg (by omega)]; exact e, hlo, hm.keep (fun q a c d => K.block q d (by omega))⟩

theorem TM.attrs {g hi k : Nat} {l : List TK} {w : World} (h : TM g hi l w) (hk : k < l.length) : ∃ ga b, w.cell? ⟨g, k * 5 + 3, none⟩ = some (.slice (some ⟨ga, 0, none⟩) (tkK l k).at_.length (tkK l k).at_.length) ∧ g < ga ∧ b ≤ hi ∧ MR ga b (tkK l k).at_ w ∧ ∀ w', KeptIn ga b w w' → MR ga b (tkK l k).at_ w' → TM g hi l w' := by
  obtain ⟨f, s, hf, h0, h1, h2, h3, hj⟩ := h
  obtain ⟨ga, e, hlo, hm⟩ := hj k hk
  have m0 := mono_s2 h3 (i := 0) k (by omega) (by omega)
  have m2 := mono_s2 h3 (i := k + 1) l.length (by omega) (Nat.le_refl _)
  refine ⟨ga, s (k + 1), by rw [hf.cell (by omega), e], by omega, by omega, hm, fun w' K hM => ?_⟩
  refine ⟨f, s, rowK hf K (.inl (by omega)), h0, h1, Nat.le_trans h2 K.size, h3, fun j hl => ?_⟩
  by_cases e' : j = k
  · subst e'; exact ⟨ga, e, hlo, hM⟩
  · obtain ⟨gb, e2, hlo2, hm2⟩ := hj j hl
    refine ⟨gb, e2, hlo2, hm2.keep (fun q x y z => K.block q z ?_)⟩
    rcases Nat.lt_or_gt_of_ne e' with hlt' | hgt
    · have := mono_s2 h3 (i := j + 1) k (by omega) (by omega); omega
    · have := mono_s2 h3 (i := k + 1) j (by omega) (by omega); omega

end Go.Proofs.YtpcpnfpnkkjkcaaGreat

/- Marks in tokens of one's own. -/
namespace Go.Proofs.YtpcpnfpnkkjkcaaGreat
open Go.RowKit
set_option linter.unusedVariables false
set_option linter.unusedSimpArgs false

set_option maxRecDepth 100000 in
set_option maxHeartbeats 3200000 in
theorem markTokenS_bd (g hi c y : Nat) (l : List TK) (w : World) (h : TM g hi l w) (hl : (l.length : Int) + tssz l ≤ 1048576) (y0 : 0 < y) (y1 : y ≤ 4000000) :
    Calls Tryz.prog 24 #[.slice (some ⟨g, 0, none⟩) l.length c, .int .i64 (y : Int)] w fun e w' => (∃ z : Nat, e = .returned (.int .i64 (z : Int)) ∧ 0 < z ∧ z ≤ y + 4 * l.length + tssz l) ∧ KeptIn g hi w w' := by
  have HM := Hid.mk' h
  clear h
  go_enter Tryz.func24, Tryz.ntmps24
  go_wp2
  go_loopw [1, 5] (fun x i wr => ∃ k z : Nat, k ≤ l.length ∧ i = .int .i64 k ∧ x = .int .i64 (z : Int) ∧ 0 < z ∧ z ≤ y + 4 * k + tssz (l.take k) ∧ TM g hi l wr ∧ KeptIn g hi w wr) (fun _ i _ => l.length - (intOf i).toNat)
  case atStart => exact ⟨0, y, Nat.zero_le _, rfl, rfl, y0, by omega, HM.out, KeptIn.refl _ _ _⟩
  case round =>
    obtain ⟨k, z, hk, rfl, rfl, z0, z1, hnm, hkp⟩ := hrel
    by_cases hlt : k < l.length
    · have ci : (k : Int) < (l.length : Int) := by omega
      have st := tssz_take l k hlt
      have sl := tssz_le l (k + 1)
      unfold tsz at st
      have vz := vsz_asz (tkK l k).at_
      have gh := hnm.lt
      have hn1 : TM g hi l ((wr.setCell ⟨g, k * 5, none⟩ (.int .i64 (z : Int))).setCell ⟨g, k * 5 + 1, none⟩ (.int .i64 ((z : Int) + 1))) := (hnm.cell (i := 0) hlt (by omega) (by omega)).cell (i := 1) hlt (by omega) (by omega)
      have hk1 : KeptIn g hi w ((wr.setCell ⟨g, k * 5, none⟩ (.int .i64 (z : Int))).setCell ⟨g, k * 5 + 1, none⟩ (.int .i64 ((z : Int) + 1))) := (hkp.setCell (p := ⟨g, k * 5, none⟩) (Nat.le_refl _) gh.1 _).setCell (p := ⟨g, k * 5 + 1, none⟩) (Nat.le_refl _) gh.1 _
      obtain ⟨f, _, hf, _⟩ := id hnm
      have f0 := hf.frozen (k * 5)
      have f1 := hf.frozen (k * 5 + 1)
      obtain ⟨v0, g0⟩ : ∃ v, wr.cell? ⟨g, k * 5, none⟩ = some v := ⟨_, hf.cell (by omega)⟩
      obtain ⟨v1, g1⟩ : ∃ v, wr.cell? ⟨g, k * 5 + 1, none⟩ = some v := ⟨_, hf.cell (by omega)⟩
      have HN := Hid.mk' hn1
      have HK := Hid.mk' hk1
      have KT := Hid.mk' (markText_any (z + 1 + 1) ((wr.setCell ⟨g, k * 5, none⟩ (.int .i64 (z : Int))).setCell ⟨g, k * 5 + 1, none⟩ (.int .i64 ((z : Int) + 1))) (by omega) (by omega))
      clear hn1 hk1 hnm hkp hf
      generalize hV : (wr.setCell ⟨g, k * 5, none⟩ (.int .i64 (z : Int))).setCell ⟨g, k * 5 + 1, none⟩ (.int .i64 ((z : Int) + 1)) = V at *
      go_wp2_with fail
      clear hV
      refine KT.out.mono ?_
      rintro e w1 ⟨sx, rfl, hb⟩
      have hn2 := HN.out.keep hb.size (fun q _ _ hq => hb.block q hq)
      have hn3 : TM g hi l (w1.setCell ⟨g, k * 5 + 2, none⟩ (.string sx)) := hn2.cell (i := 2) hlt (by omega) (by omega)
      have hk3 : KeptIn g hi w (w1.setCell ⟨g, k * 5 + 2, none⟩ (.string sx)) := (HK.out.trans (KeptIn.of_below hb)).setCell (p := ⟨g, k * 5 + 2, none⟩) (Nat.le_refl _) gh.1 _
      obtain ⟨ff, _, hf2, _⟩ := id hn2
      have f2 := hf2.frozen (k * 5 + 2)
      obtain ⟨v2, g2⟩ : ∃ v, w1.cell? ⟨g, k * 5 + 2, none⟩ = some v := ⟨_, hf2.cell (by omega)⟩
      obtain ⟨ga, b, a1, a3, a5, a7, a9⟩ := hn3.attrs hlt
      have gh3 := hn3.lt
      have KA := Hid.mk' (markAttrS_gen ga b (tkK l k).at_.length (z + 1 + 1 + 1) (tkK l k).at_ _ a7 (by omega) (by omega) (by omega) (by omega))
      have HA := Hid.mk' a9
      have HK := Hid.mk' hk3
      clear hn2 hn3 hk3 hb hf2 KT HN a7 a9 gh3
      generalize hV2 : w1.setCell ⟨g, k * 5 + 2, none⟩ (.string sx) = V2 at *
      go_wp2_with fail
      clear hV2
      refine KA.out.mono ?_
      rintro e w2 ⟨rfl, hmr, hkk⟩
      have hn4 := HA.out w2 hkk hmr
      have HK := Hid.mk' (HK.out.trans (hkk.mono (by omega) (by omega)))
      obtain ⟨z2, hz2⟩ : ∃ z2 : Nat, z + 1 + 1 + 1 + (tkK l k).at_.length + vsz (tkK l k).at_ = z2 := ⟨_, rfl⟩
      have ez : ((z + 1 + 1 + 1 : Nat) : Int) + ((tkK l k).at_.length : Int) + (vsz (tkK l k).at_ : Int) = (z2 : Int) := by omega
      rw [ez]
      obtain ⟨f4, _, hf4, _⟩ := id hn4
      have f4' := hf4.frozen (k * 5 + 4)
      obtain ⟨v4, g4⟩ : ∃ v, w2.cell? ⟨g, k * 5 + 4, none⟩ = some v := ⟨_, hf4.cell (by omega)⟩
      have HN5 : Hid (∀ v, TM g hi l (w2.setCell ⟨g, k * 5 + 4, none⟩ v)) := Hid.mk' (fun v => hn4.cell (i := 4) hlt (by omega) (by omega))
      have HK5 : Hid (∀ v, KeptIn g hi w (w2.setCell ⟨g, k * 5 + 4, none⟩ v)) := Hid.mk' (fun v => HK.out.setCell (p := ⟨g, k * 5 + 4, none⟩) (Nat.le_refl _) gh.1 _)
      clear hkk hmr KA HA hn4 hf4 a1 ez
      go_wp2
      go_roundw
      case rel => exact ⟨k + 1, z2 + 1, by omega, by go_num, by simp, by omega, by omega, HN5.out _, HK5.out _⟩
      case measure => simp [intOf]; omega
    · have ci : ¬ (k : Int) < (l.length : Int) := by omega
      have HK := Hid.mk' hkp
      have e9 : k = l.length := by omega
      have zb : z ≤ y + 4 * l.length + tssz l := by rw [e9, List.take_length] at z1; exact z1
      clear hnm hkp
      go_wp2
      go_ret
      exact ⟨⟨z, rfl, z0, zb⟩, HK.out⟩

end Go.Proofs.YtpcpnfpnkkjkcaaGreat

/- Walks: lists of tokens that are the same are told so; the model's SameTokens. -/
namespace Go.Proofs.YtpcpnfpnkkjkcaaGreat
open Go.RowKit
set_option linter.unusedVariables false
set_option linter.unusedSimpArgs false

set_option maxHeartbeats 1600000 in
theorem eqTokenS_any (a b : Option Addr) (c d : Nat) (l : List TK) (w : World) (ha : TsAt w a l) (hb : TsAt w b l) (hl : (l.length : Int) + tssz l ≤ 1048576) :
    Calls Tryz.prog 23 #[.slice a l.length c, .slice b l.length d] w fun e w' => e = .returned (.bool true) ∧ Below w.heap.size w w' := by
  have HA := Hid.mk' ha
  have HB := Hid.mk' hb
  clear ha hb
  go_enter Tryz.func23, Tryz.ntmps23
  go_wp2
  go_loopw [5] (fun i wr => ∃ k : Nat, k ≤ l.length ∧ i = .int .i64 k ∧ Below w.heap.size w wr) (fun i _ => l.length - (intOf i).toNat)
  case atStart => exact ⟨0, Nat.zero_le _, rfl, Below.refl _ _⟩
  case round =>
    obtain ⟨k, hk, rfl, hbl⟩ := hrel
    have R2 := Hid.mk' hbl
    by_cases hlt : k < l.length
    · have ci : (k : Int) < (l.length : Int) := by omega
      rcases HA.out.below hbl with ha | ⟨b1, o1, rfl, s1, hc1⟩
      · exact absurd hlt (by rw [ha]; exact Nat.not_lt_zero _)
      rcases HB.out.below hbl with hb | ⟨b2, o2, rfl, s2, hc2⟩
      · exact absurd hlt (by rw [hb]; exact Nat.not_lt_zero _)
      obtain ⟨x1, x2, x3, ⟨p1, d1, x4, x5⟩, x6⟩ := hc1 k hlt
      obtain ⟨y1, y2, y3, ⟨p2_, d2, y4, y5⟩, y6⟩ := hc2 k hlt
      have st := tssz_take l k hlt
      have sl := tssz_le l (k + 1)
      unfold tsz at st
      have KE := Hid.mk' (eqToken_any (tkK l k) p1 p2_ d1 d2 wr.drew (x5.below (Below.refl _ _).drew) (y5.below (Below.refl _ _).drew) (by omega))
      clear hbl hc1 hc2 x5 y5 st sl
      go_wp2
      go_region_held3 (fun w' => w'.cell? ⟨b1, o1 + k * 5, none⟩ = some (.int .i64 (tkK l k).kd) ∧ w'.cell? ⟨b1, o1 + k * 5 + 1, none⟩ = some (.int .i64 (tkK l k).by_) ∧ w'.cell? ⟨b1, o1 + k * 5 + 2, none⟩ = some (.string (tkK l k).nm) ∧ w'.cell? ⟨b1, o1 + k * 5 + 3, none⟩ = some (.slice p1 (tkK l k).at_.length d1) ∧ w'.cell? ⟨b1, o1 + k * 5 + 4, none⟩ = some (.bool (tkK l k).sh) ∧ w'.cell? ⟨b2, o2 + k * 5, none⟩ = some (.int .i64 (tkK l k).kd) ∧ w'.cell? ⟨b2, o2 + k * 5 + 1, none⟩ = some (.int .i64 (tkK l k).by_) ∧ w'.cell? ⟨b2, o2 + k * 5 + 2, none⟩ = some (.string (tkK l k).nm) ∧ w'.cell? ⟨b2, o2 + k * 5 + 3, none⟩ = some (.slice p2_ (tkK l k).at_.length d2) ∧ w'.cell? ⟨b2, o2 + k * 5 + 4, none⟩ = some (.bool (tkK l k).sh)) (simp [*])
        ((go_at_call 14; refine KE.out.mono ?_; rintro e w1 ⟨rfl, hb1⟩; replace hb1 := undrew hb1; obtain ⟨hx1, hx2⟩ := bcell hb1))
      go_wp2
      go_roundw
      case rel => exact ⟨k + 1, by omega, by go_num, R2.out.trans (hb1.mono R2.out.size)⟩
      case measure => simp [intOf]; omega
    · have ci : ¬ (k : Int) < (l.length : Int) := by omega
      go_wp2
      go_ret
      exact ⟨rfl, R2.out⟩

end Go.Proofs.YtpcpnfpnkkjkcaaGreat
