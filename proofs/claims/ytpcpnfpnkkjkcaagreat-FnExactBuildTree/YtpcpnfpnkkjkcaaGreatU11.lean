/- A start is put: the model's l7Start, the program's putStart. -/
import Derived.Test.YtpcpnfpnkkjkcaaGreatU9
import Derived.Test.YtpcpnfpnkkjkcaaGreatU10
namespace Go.Proofs.YtpcpnfpnkkjkcaaGreat
open Go.RowKit
set_option linter.unusedVariables false
set_option linter.unusedSimpArgs false

theorem startX_deep {s : BS} {nm : ByteArray} {at_ : List AT} {sh : Bool} (h : 7 ≤ (start0 s nm).op.length) : startX s nm at_ sh = start0 s nm := by unfold startX; rw [if_pos h]
theorem startX_put {s : BS} {nm : ByteArray} {at_ : List AT} {sh : Bool} (h : ¬ 7 ≤ (start0 s nm).op.length) : startX s nm at_ sh = openX (addX (start0 s nm) nm at_ []) nm sh (start0 s nm).nd.length := by unfold startX; rw [if_neg h]
theorem openX_no {s : BS} {nm : ByteArray} {sh : Bool} {n : Nat} (h : ¬ (s.lg = false ∧ voidB nm = false ∧ sh = false)) : openX s nm sh n = s := by unfold openX; rw [if_neg h]
theorem openX_yes {s : BS} {nm : ByteArray} {sh : Bool} {n : Nat} (h1 : s.lg = false) (h2 : voidB nm = false) (h3 : sh = false) : openX s nm sh n = ⟨s.nd, s.op ++ [(n : Int)], s.lg⟩ := by unfold openX; rw [if_pos ⟨h1, h2, h3⟩]
theorem add_len {s : BS} {tg : ByteArray} {at_ : List AT} {tx : List Int} (h : (addX s tg at_ tx).lg = false) : (addX s tg at_ tx).nd.length = s.nd.length + 1 := by
  unfold addX at h ⊢
  by_cases h6 : 60 ≤ s.nd.length
  · rw [if_pos h6] at h; simp [bigS] at h
  · rw [if_neg h6]; simp
theorem p_list : (⟨#[112]⟩ : ByteArray).toList = [112] := by rw [toList_data]

/-- New blocks may have the label of none. -/
theorem ZS.fresh {im : Bool} {Tb : TypeId} {w0 : World} {lo g : Nat} {s : BS} {w w' : World} {τ : Nat → Nat} {vn vo : Value} {va vt : Nat → Value} {us : Nat → List Value} (h : ZS im Tb w0 lo g s w τ vn vo va vt us) (hb : Below w.heap.size w w') : ∃ τ', ZS im Tb w0 lo g s w' τ' vn vo va vt us ∧ ∀ k, w.heap.size ≤ k → τ' k = 2 := by
  have ht : ∀ k, k < w.heap.size → (fun k => if k < w.heap.size then τ k else 2) k = τ k := fun k hk => if_pos hk
  refine ⟨fun k => if k < w.heap.size then τ k else 2, ⟨rowB h.box hb, (h.ns.relabel (fun k _ hk => ht k hk)).below hb, h.op.move (fun k hk _ => hb.block k hk) ht, (ht g h.box.lt).trans h.gl, h.bl.trans (hb.mono h.sz), Nat.le_trans h.sz hb.size, h.glo⟩, fun k hk => if_neg (by omega)⟩

set_option maxRecDepth 100000 in
set_option maxHeartbeats 12800000 in
theorem startS_any (w0 : World) (lo g gt : Nat) (s : BS) (t : TK) (a : Option Addr) (c : Nat) (w : World) (h : ZB false 33 w0 lo g s w) (hs : GS s) (hlg : s.lg = false) (hlo : lo = w0.heap.size) (ht : w0.rowIs gt 40 5 (r5 (.int .i64 t.kd) (.int .i64 t.by_) (.string t.nm) (.slice a t.at_.length c) (.bool t.sh))) (ha : AAt w0 a t.at_) (hl : (t.at_.length : Int) + asz t.at_ ≤ 1048576) :
    Calls Tryz.prog 65 #[.pointer (some ⟨g, 0, none⟩), .pointer (some ⟨gt, 0, none⟩)] w fun e w' => (∃ v, e = .returned v) ∧ ZB false 33 w0 lo g (startX s t.nm t.at_ t.sh) w' := by
  subst hlo
  have TK_ : Hid (∀ W, Below w0.heap.size w0 W → W.rowIs gt 40 5 (r5 (.int .i64 t.kd) (.int .i64 t.by_) (.string t.nm) (.slice a t.at_.length c) (.bool t.sh)) ∧ AAt W a t.at_) := fun W hb => ⟨rowB ht hb, ha.below hb⟩
  have HZ := Hid.mk' h
  have HS := Hid.mk' hs
  obtain ⟨τ, vn, vo, va, vt, us, hz⟩ := id h
  obtain ⟨k0, k1, k2, k3, k4, k5⟩ := cells5 (TK_.out w hz.bl).1
  have GS0 := Hid.mk' (gs_start0 hs t.nm)
  have LG0 := Hid.mk' ((start0_nd s t.nm).2.trans hlg)
  clear ht ha hz h hs
  cases hp : (t.nm.toList == [112]) with
  | true =>
    have E0 : Hid (start0 s t.nm = closeX s ⟨#[112]⟩) := Hid.mk' (by unfold start0 pB; rw [hp, if_pos rfl]; exact closeX_congr (by rw [p_list]; exact eq_of_beq hp))
    have KC := Hid.mk' (closeS_any w0 w0.heap.size g s ⟨#[112]⟩ w HZ.out HS.out)
    rw [← E0.out] at KC
    go_enter Tryz.func65, Tryz.ntmps65
    go_wp2_with fail
    refine KC.out.mono ?_
    rintro e W ⟨⟨v9, rfl⟩, hz1⟩
    have HZ1 := Hid.mk' hz1
    clear hz1 KC k0 k1 k2 k3 k4 k5
    obtain ⟨s1, hs1⟩ : ∃ s1, start0 s t.nm = s1 := ⟨_, rfl⟩
    have ES := Hid.mk' hs1
    rw [hs1] at HZ1 GS0 LG0
    clear hs1
    have n60 := GS0.out.n
    have o7 := GS0.out.o
    obtain ⟨τ1, vn1, vo1, va1, vt1, us1, hz1⟩ := HZ1.out
    obtain ⟨po, co, eo, _⟩ := hz1.op.row
    subst eo
    obtain ⟨pn, cn, en, _⟩ := own_len hz1.ns.row
    subst en
    obtain ⟨c0, c1, c2, c3⟩ := cells3 hz1.box
    obtain ⟨hrow, haa⟩ := TK_.out W hz1.bl
    obtain ⟨k0, k1, k2, k3, k4, k5⟩ := cells5 hrow
    have HZ2 := Hid.mk' hz1
    have HR := Hid.mk' hrow
    have HAA := Hid.mk' haa
    clear hz1 hrow haa
    by_cases h7 : 7 ≤ s1.op.length
    · have E : Hid (startX s t.nm t.at_ t.sh = s1) := Hid.mk' (by rw [startX_deep (by rw [ES.out]; exact h7), ES.out])
      have h7' : (s1.op.length : Int) ≥ 7 := by omega
      clear HAA
      go_wp2
      (try simp only [Exit.inBlock, Exit.then])
      refine bodyPost_ret (results_none rfl _ _ _) rfl ?_
      exact ⟨⟨_, rfl⟩, by rw [E.out]; exact HZ2.out.zb⟩
    have EP : Hid (startX s t.nm t.at_ t.sh = openX (addX s1 t.nm t.at_ []) t.nm t.sh s1.nd.length) := Hid.mk' (by rw [startX_put (by rw [ES.out]; exact h7), ES.out])
    have h7' : ¬ (s1.op.length : Int) ≥ 7 := by omega
    clear h7
    go_wp2_with fail
    refine wp_region_held_drew (S := fun w' => w'.cell? ⟨gt, 2, none⟩ = some (.string t.nm) ∧ w'.cell? ⟨gt, 3, none⟩ = some (.slice a t.at_.length c)) (by kernel_rfl) (by simp [*]) (fun hHeld => ?_)
    refine wpAnyH_take (i := 0) (oi := ⟨_, _, _, _, _, _⟩) (v := ?_) rfl (by kernel_rfl) (by kernel_rfl) (by kernel_rfl) (fun _ _ _ h => h) (Or.inl ⟨by rfl, ?_⟩) (by assumption) ?_
    rotate_left
    · (intro w hSw; (try dsimp only at hSw); go_simp; (try with_reducible rfl))
    try simp only [Act.put, List.setIfInBounds_toArray, List.set_cons_zero, List.set_cons_succ]
    refine wpAnyH_take (i := 1) (oi := ⟨_, _, _, _, _, _⟩) (v := ?_) rfl (by kernel_rfl) (by kernel_rfl) (by kernel_rfl) (fun _ _ _ h => h) (Or.inl ⟨by rfl, ?_⟩) (by assumption) ?_
    rotate_left
    · (intro w hSw; (try dsimp only at hSw); go_simp; (try with_reducible rfl))
    try simp only [Act.put, List.setIfInBounds_toArray, List.set_cons_zero, List.set_cons_succ]
    refine wpAnyH_take (i := 2) (oi := ⟨_, _, _, _, _, _⟩) (v := ?_) rfl (by kernel_rfl) (by kernel_rfl) (by kernel_rfl) (fun _ _ _ h => h) (Or.inl ⟨by rfl, ?_⟩) (by assumption) ?_
    rotate_left
    · (intro w hSw; (try dsimp only at hSw); go_simp; (try with_reducible rfl))
    try simp only [Act.put, List.setIfInBounds_toArray, List.set_cons_zero, List.set_cons_succ]
    refine wpAnyH_take (i := 3) (oi := ⟨_, _, _, _, _, _⟩) (v := ?_) rfl (by kernel_rfl) (by kernel_rfl) (by kernel_rfl) (fun _ _ _ h => h) (Or.inl ⟨by rfl, ?_⟩) (by assumption) ?_
    rotate_left
    · (intro w hSw; (try dsimp only at hSw); go_simp; (try with_reducible rfl))
    try simp only [Act.put, List.setIfInBounds_toArray, List.set_cons_zero, List.set_cons_succ]
    refine wpAnyH_take (i := 4) (oi := ⟨_, _, _, _, _, _⟩) (v := ?_) rfl (by kernel_rfl) (by kernel_rfl) (by kernel_rfl) (fun _ _ _ h => h) (Or.inl ⟨by rfl, ?_⟩) (by assumption) ?_
    rotate_left
    · (intro w hSw; (try dsimp only at hSw); go_simp; (try with_reducible rfl))
    try simp only [Act.put, List.setIfInBounds_toArray, List.set_cons_zero, List.set_cons_succ]
    refine wpAnyH_take (i := 5) (oi := ⟨_, _, _, _, _, _⟩) (v := ?_) rfl (by kernel_rfl) (by kernel_rfl) (by kernel_rfl) (fun _ _ _ h => h) (Or.inl ⟨by rfl, ?_⟩) (by assumption) ?_
    rotate_left
    · (intro w hSw; (try dsimp only at hSw); go_simp; (try with_reducible rfl))
    try simp only [Act.put, List.setIfInBounds_toArray, List.set_cons_zero, List.set_cons_succ]
    refine wpAnyH_take (i := 6) (oi := ⟨_, _, _, _, _, _⟩) (v := ?_) rfl (by kernel_rfl) (by kernel_rfl) (by kernel_rfl) (fun _ _ _ h => h) (Or.inl ⟨by rfl, ?_⟩) (by assumption) ?_
    rotate_left
    · (intro w hSw; (try dsimp only at hSw); go_simp; (try with_reducible rfl))
    try simp only [Act.put, List.setIfInBounds_toArray, List.set_cons_zero, List.set_cons_succ]
    refine wpAnyH_take (i := 7) (oi := ⟨_, _, _, _, _, _⟩) (v := ?_) rfl (by kernel_rfl) (by kernel_rfl) (by kernel_rfl) (fun _ _ _ h => h) (Or.inl ⟨by rfl, ?_⟩) (by assumption) ?_
    rotate_left
    · (intro w hSw; (try dsimp only at hSw); go_simp; (try with_reducible rfl))
    try simp only [Act.put, List.setIfInBounds_toArray, List.set_cons_zero, List.set_cons_succ]
    refine wpAnyH_take (i := 8) (oi := ⟨_, _, _, _, _, _⟩) (v := ?_) rfl (by kernel_rfl) (by kernel_rfl) (by kernel_rfl) (fun _ _ _ h => h) (Or.inl ⟨by rfl, ?_⟩) (by assumption) ?_
    rotate_left
    · (intro w hSw; (try dsimp only at hSw); go_simp; (try with_reducible rfl))
    try simp only [Act.put, List.setIfInBounds_toArray, List.set_cons_zero, List.set_cons_succ]
    refine wpAnyH_ready (rs := [9]) (by kernel_rfl) (by simp) ?_
    refine AllReadyH.cons (o := ⟨_, _, _, _, _, _⟩) rfl (fun K hK => ?_) AllReadyH.nil
    go_simp
    go_at_call 88
    refine (l4CopyAttrs_own a c t.at_ W.drew (HAA.out.below (Below.refl _ _).drew) (by omega)).mono ?_
    rintro e w2 ⟨va_, us_, rfl, hoa, hb2⟩
    obtain ⟨pa, ca, ea, _⟩ := own_len hoa.row
    subst ea
    replace hb2 := undrew hb2
    have B2 := Hid.mk' hb2
    have HOA : Hid (OA W.heap.size w2 (.slice pa t.at_.length ca) t.at_ us_) := Hid.mk' hoa
    have y2 := (hb2.cell k5).trans k2
    have y3 := (hb2.cell k5).trans k3
    clear hb2 hoa
    refine hK.out _ _ ⟨y2, y3⟩ (fun hHeld => ?_)
    clear hK K
    try simp only [Act.put, List.setIfInBounds_toArray, List.set_cons_zero, List.set_cons_succ]
    refine wpAnyH_take (i := 10) (oi := ⟨_, _, _, _, _, _⟩) (v := ?_) rfl (by kernel_rfl) (by kernel_rfl) (by kernel_rfl) (fun _ _ _ h => h) (Or.inl ⟨by rfl, ?_⟩) (by assumption) ?_
    rotate_left
    · (intro w hSw; (try dsimp only at hSw); go_simp; (try with_reducible rfl))
    try simp only [Act.put, List.setIfInBounds_toArray, List.set_cons_zero, List.set_cons_succ]
    refine wpAnyH_ready (rs := [11]) (by kernel_rfl) (by simp) ?_
    refine AllReadyH.cons (o := ⟨_, _, _, _, _, _⟩) rfl (fun K hK => ?_) AllReadyH.nil
    go_simp
    go_at_call 90
    refine (addS_any w0 w0.heap.size g s1 W τ1 _ _ va1 vt1 us1 HZ2.out GS0.out W.heap.size t.nm t.at_ [] (.slice pa t.at_.length ca) (.slice none 0 0) us_ 0 w2 B2.out HOA.out (Nat.le_refl _) ⟨rfl, .inl ⟨rfl, rfl⟩⟩ (fun k e => by simp [Value.ownBlock] at e)).mono ?_
    rintro e w3 ⟨⟨v8, rfl⟩, hz3⟩
    have HZ3 := Hid.mk' hz3
    obtain ⟨τ3, vn3, vo3, va3, vt3, us3, hz3⟩ := hz3
    obtain ⟨j0, j1, j2, j3, j4, j5⟩ := cells5 (TK_.out w3 hz3.bl).1
    clear hz3
    refine hK.out _ _ ⟨j2, j3⟩ (fun hHeld => ?_)
    clear hK K
    try simp only [Act.put, List.setIfInBounds_toArray, List.set_cons_zero, List.set_cons_succ]
    refine wpAnyH_done (by kernel_rfl) ?_ _
    have GS3 := Hid.mk' (gs_add GS0.out LG0.out (tg := t.nm) (at_ := t.at_) (tx := []) (by simp))
    obtain ⟨s3, hs3⟩ : ∃ s3, addX s1 t.nm t.at_ [] = s3 := ⟨_, rfl⟩
    rw [hs3] at HZ3 EP GS3
    clear hs3
    obtain ⟨τ4, vn4, vo4, va4, vt4, us4, hz4⟩ := HZ3.out
    obtain ⟨po4, co4, eo4, _⟩ := hz4.op.row
    subst eo4
    obtain ⟨pn4, cn4, en4, _⟩ := own_len hz4.ns.row
    subst en4
    clear c0 c1 c2 c3 k0 k1 k2 k3 k4 k5
    obtain ⟨c0, c1, c2, c3⟩ := cells3 hz4.box
    have f1 := hz4.box.frozen 1
    have HZ4 := Hid.mk' hz4
    have o74 := GS3.out.o
    have KV := l6Void_any t.nm w3
    clear hz4
    cases hl3 : s3.lg with
    | true =>
      have E : Hid (startX s t.nm t.at_ t.sh = s3) := Hid.mk' (by rw [EP.out]; exact openX_no (by rw [hl3]; simp))
      rw [hl3] at c2
      clear hl3 KV
      go_wp2_with (first | go_big_skip)
      go_end0
      exact ⟨⟨_, rfl⟩, by rw [E.out]; exact HZ4.out.zb⟩
    | false =>
      have L3 := Hid.mk' hl3
      rw [hl3] at c2
      clear hl3
      cases hv : voidB t.nm with
      | true =>
        have E : Hid (startX s t.nm t.at_ t.sh = s3) := Hid.mk' (by rw [EP.out]; exact openX_no (by rw [hv]; simp))
        rw [hv] at KV
        have KV := Hid.mk' KV
        clear hv
        go_wp2_with (first | go_big_skip | (go_at_call 85; refine KV.out.mono ?_; rintro e w9 ⟨rfl, hw9⟩; obtain rfl := hw9.symm))
        go_end0
        exact ⟨⟨_, rfl⟩, by rw [E.out]; exact HZ4.out.zb⟩
      | false =>
        rw [hv] at KV
        have KV := Hid.mk' KV
        have VV := Hid.mk' hv
        clear hv
        cases hsh : t.sh with
        | true =>
          have E : Hid (startX s t.nm t.at_ t.sh = s3) := Hid.mk' (by rw [EP.out]; exact openX_no (by rw [hsh]; simp))
          rw [hsh] at j4
          clear hsh
          go_wp2_with (first | go_big_skip | (go_at_call 85; refine KV.out.mono ?_; rintro e w9 ⟨rfl, hw9⟩; obtain rfl := hw9.symm))
          go_end0
          exact ⟨⟨_, rfl⟩, by rw [E.out]; exact HZ4.out.zb⟩
        | false =>
          have E : Hid (startX s t.nm t.at_ t.sh = ⟨s3.nd, s3.op ++ [(s1.nd.length : Int)], s3.lg⟩) := Hid.mk' (by rw [EP.out]; exact openX_yes L3.out VV.out hsh)
          rw [hsh] at j4
          clear hsh
          have VB := below_new w3 (.cells #[.int .i64 (s1.nd.length : Int)] 2)
          have HZ5 := Hid.mk' (HZ4.out.below VB)
          have NC := Hid.mk' (new_cells w3 2 [.int .i64 (s1.nd.length : Int)] w3.heap.size rfl)
          have b1 := (cells3 HZ5.out.box).2.1
          clear VB
          go_wp2_with (first | go_big_skip | (go_at_call 85; refine KV.out.mono ?_; rintro e w9 ⟨rfl, hw9⟩; obtain rfl := hw9.symm) | (at_builtin; refine wpList_append_at _ rfl (.tmp 59) (.tmp 61) 23 rfl w0.heap.size 2 (.int .i64 0) 1 8 Tryz.underlying23 Tryz.info2 rfl (by decide) _ _ _ rfl HZ5.out.op.1 _ 1 _ (ics [(s1.nd.length : Int)]) rfl (by simp [ics]) (.inr ⟨_, rfl, NC.out⟩) (ics_one _) (by unfold maxLen; omega) (by omega) HZ5.out.sz ?_; intro v' w5 ho hgr hat; obtain ⟨av5, cv5, ev5, _⟩ := own_len ho; subst ev5; have gnl : ∀ j, (Value.slice po4 s3.op.length co4).ownBlock = some j → ¬ j = g := (fun j e ej => by have h1 := HZ5.out.op.2 j e; have h2 := HZ5.out.gl; rw [ej] at h1; omega); have z1 := hgr.cell (a := ⟨g, 1, none⟩) b1 (fun e => gnl _ e.symm rfl); have z2 : w5.frozen? ⟨g, 1, none⟩ = false := (HZ5.out.box.of_block (hgr.block g HZ5.out.box.lt (fun e => gnl _ e.symm rfl))).frozen 1; have HQ := Hid.mk' (HZ5.out.pushS (wa := w3) (s1.nd.length : Int) ho hgr hat); clear ho hgr hat gnl))
          go_end0
          exact ⟨⟨_, rfl⟩, by rw [E.out]; exact HQ.out⟩
  | false =>
    have E0 : Hid (start0 s t.nm = s) := Hid.mk' (by unfold start0 pB; rw [hp]; rfl)
    have HZ1 : Hid (ZB false 33 w0 w0.heap.size g (start0 s t.nm) w) := Hid.mk' (by rw [E0.out]; exact HZ.out)
    clear k0 k1 k2 k3 k4 k5
    go_enter Tryz.func65, Tryz.ntmps65
    obtain ⟨s1, hs1⟩ : ∃ s1, start0 s t.nm = s1 := ⟨_, rfl⟩
    have ES := Hid.mk' hs1
    rw [hs1] at HZ1 GS0 LG0
    clear hs1
    have n60 := GS0.out.n
    have o7 := GS0.out.o
    obtain ⟨τ1, vn1, vo1, va1, vt1, us1, hz1⟩ := HZ1.out
    obtain ⟨po, co, eo, _⟩ := hz1.op.row
    subst eo
    obtain ⟨pn, cn, en, _⟩ := own_len hz1.ns.row
    subst en
    obtain ⟨c0, c1, c2, c3⟩ := cells3 hz1.box
    obtain ⟨hrow, haa⟩ := TK_.out w hz1.bl
    obtain ⟨k0, k1, k2, k3, k4, k5⟩ := cells5 hrow
    have HZ2 := Hid.mk' hz1
    have HR := Hid.mk' hrow
    have HAA := Hid.mk' haa
    clear hz1 hrow haa
    by_cases h7 : 7 ≤ s1.op.length
    · have E : Hid (startX s t.nm t.at_ t.sh = s1) := Hid.mk' (by rw [startX_deep (by rw [ES.out]; exact h7), ES.out])
      have h7' : (s1.op.length : Int) ≥ 7 := by omega
      clear HAA
      go_wp2
      (try simp only [Exit.inBlock, Exit.then])
      refine bodyPost_ret (results_none rfl _ _ _) rfl ?_
      exact ⟨⟨_, rfl⟩, by rw [E.out]; exact HZ2.out.zb⟩
    have EP : Hid (startX s t.nm t.at_ t.sh = openX (addX s1 t.nm t.at_ []) t.nm t.sh s1.nd.length) := Hid.mk' (by rw [startX_put (by rw [ES.out]; exact h7), ES.out])
    have h7' : ¬ (s1.op.length : Int) ≥ 7 := by omega
    clear h7
    go_wp2_with fail
    refine wp_region_held_drew (S := fun w' => w'.cell? ⟨gt, 2, none⟩ = some (.string t.nm) ∧ w'.cell? ⟨gt, 3, none⟩ = some (.slice a t.at_.length c)) (by kernel_rfl) (by simp [*]) (fun hHeld => ?_)
    refine wpAnyH_take (i := 0) (oi := ⟨_, _, _, _, _, _⟩) (v := ?_) rfl (by kernel_rfl) (by kernel_rfl) (by kernel_rfl) (fun _ _ _ h => h) (Or.inl ⟨by rfl, ?_⟩) (by assumption) ?_
    rotate_left
    · (intro w hSw; (try dsimp only at hSw); go_simp; (try with_reducible rfl))
    try simp only [Act.put, List.setIfInBounds_toArray, List.set_cons_zero, List.set_cons_succ]
    refine wpAnyH_take (i := 1) (oi := ⟨_, _, _, _, _, _⟩) (v := ?_) rfl (by kernel_rfl) (by kernel_rfl) (by kernel_rfl) (fun _ _ _ h => h) (Or.inl ⟨by rfl, ?_⟩) (by assumption) ?_
    rotate_left
    · (intro w hSw; (try dsimp only at hSw); go_simp; (try with_reducible rfl))
    try simp only [Act.put, List.setIfInBounds_toArray, List.set_cons_zero, List.set_cons_succ]
    refine wpAnyH_take (i := 2) (oi := ⟨_, _, _, _, _, _⟩) (v := ?_) rfl (by kernel_rfl) (by kernel_rfl) (by kernel_rfl) (fun _ _ _ h => h) (Or.inl ⟨by rfl, ?_⟩) (by assumption) ?_
    rotate_left
    · (intro w hSw; (try dsimp only at hSw); go_simp; (try with_reducible rfl))
    try simp only [Act.put, List.setIfInBounds_toArray, List.set_cons_zero, List.set_cons_succ]
    refine wpAnyH_take (i := 3) (oi := ⟨_, _, _, _, _, _⟩) (v := ?_) rfl (by kernel_rfl) (by kernel_rfl) (by kernel_rfl) (fun _ _ _ h => h) (Or.inl ⟨by rfl, ?_⟩) (by assumption) ?_
    rotate_left
    · (intro w hSw; (try dsimp only at hSw); go_simp; (try with_reducible rfl))
    try simp only [Act.put, List.setIfInBounds_toArray, List.set_cons_zero, List.set_cons_succ]
    refine wpAnyH_take (i := 4) (oi := ⟨_, _, _, _, _, _⟩) (v := ?_) rfl (by kernel_rfl) (by kernel_rfl) (by kernel_rfl) (fun _ _ _ h => h) (Or.inl ⟨by rfl, ?_⟩) (by assumption) ?_
    rotate_left
    · (intro w hSw; (try dsimp only at hSw); go_simp; (try with_reducible rfl))
    try simp only [Act.put, List.setIfInBounds_toArray, List.set_cons_zero, List.set_cons_succ]
    refine wpAnyH_take (i := 5) (oi := ⟨_, _, _, _, _, _⟩) (v := ?_) rfl (by kernel_rfl) (by kernel_rfl) (by kernel_rfl) (fun _ _ _ h => h) (Or.inl ⟨by rfl, ?_⟩) (by assumption) ?_
    rotate_left
    · (intro w hSw; (try dsimp only at hSw); go_simp; (try with_reducible rfl))
    try simp only [Act.put, List.setIfInBounds_toArray, List.set_cons_zero, List.set_cons_succ]
    refine wpAnyH_take (i := 6) (oi := ⟨_, _, _, _, _, _⟩) (v := ?_) rfl (by kernel_rfl) (by kernel_rfl) (by kernel_rfl) (fun _ _ _ h => h) (Or.inl ⟨by rfl, ?_⟩) (by assumption) ?_
    rotate_left
    · (intro w hSw; (try dsimp only at hSw); go_simp; (try with_reducible rfl))
    try simp only [Act.put, List.setIfInBounds_toArray, List.set_cons_zero, List.set_cons_succ]
    refine wpAnyH_take (i := 7) (oi := ⟨_, _, _, _, _, _⟩) (v := ?_) rfl (by kernel_rfl) (by kernel_rfl) (by kernel_rfl) (fun _ _ _ h => h) (Or.inl ⟨by rfl, ?_⟩) (by assumption) ?_
    rotate_left
    · (intro w hSw; (try dsimp only at hSw); go_simp; (try with_reducible rfl))
    try simp only [Act.put, List.setIfInBounds_toArray, List.set_cons_zero, List.set_cons_succ]
    refine wpAnyH_take (i := 8) (oi := ⟨_, _, _, _, _, _⟩) (v := ?_) rfl (by kernel_rfl) (by kernel_rfl) (by kernel_rfl) (fun _ _ _ h => h) (Or.inl ⟨by rfl, ?_⟩) (by assumption) ?_
    rotate_left
    · (intro w hSw; (try dsimp only at hSw); go_simp; (try with_reducible rfl))
    try simp only [Act.put, List.setIfInBounds_toArray, List.set_cons_zero, List.set_cons_succ]
    refine wpAnyH_ready (rs := [9]) (by kernel_rfl) (by simp) ?_
    refine AllReadyH.cons (o := ⟨_, _, _, _, _, _⟩) rfl (fun K hK => ?_) AllReadyH.nil
    go_simp
    go_at_call 88
    refine (l4CopyAttrs_own a c t.at_ w.drew (HAA.out.below (Below.refl _ _).drew) (by omega)).mono ?_
    rintro e w2 ⟨va_, us_, rfl, hoa, hb2⟩
    obtain ⟨pa, ca, ea, _⟩ := own_len hoa.row
    subst ea
    replace hb2 := undrew hb2
    have B2 := Hid.mk' hb2
    have HOA : Hid (OA w.heap.size w2 (.slice pa t.at_.length ca) t.at_ us_) := Hid.mk' hoa
    have y2 := (hb2.cell k5).trans k2
    have y3 := (hb2.cell k5).trans k3
    clear hb2 hoa
    refine hK.out _ _ ⟨y2, y3⟩ (fun hHeld => ?_)
    clear hK K
    try simp only [Act.put, List.setIfInBounds_toArray, List.set_cons_zero, List.set_cons_succ]
    refine wpAnyH_take (i := 10) (oi := ⟨_, _, _, _, _, _⟩) (v := ?_) rfl (by kernel_rfl) (by kernel_rfl) (by kernel_rfl) (fun _ _ _ h => h) (Or.inl ⟨by rfl, ?_⟩) (by assumption) ?_
    rotate_left
    · (intro w hSw; (try dsimp only at hSw); go_simp; (try with_reducible rfl))
    try simp only [Act.put, List.setIfInBounds_toArray, List.set_cons_zero, List.set_cons_succ]
    refine wpAnyH_ready (rs := [11]) (by kernel_rfl) (by simp) ?_
    refine AllReadyH.cons (o := ⟨_, _, _, _, _, _⟩) rfl (fun K hK => ?_) AllReadyH.nil
    go_simp
    go_at_call 90
    refine (addS_any w0 w0.heap.size g s1 w τ1 _ _ va1 vt1 us1 HZ2.out GS0.out w.heap.size t.nm t.at_ [] (.slice pa t.at_.length ca) (.slice none 0 0) us_ 0 w2 B2.out HOA.out (Nat.le_refl _) ⟨rfl, .inl ⟨rfl, rfl⟩⟩ (fun k e => by simp [Value.ownBlock] at e)).mono ?_
    rintro e w3 ⟨⟨v8, rfl⟩, hz3⟩
    have HZ3 := Hid.mk' hz3
    obtain ⟨τ3, vn3, vo3, va3, vt3, us3, hz3⟩ := hz3
    obtain ⟨j0, j1, j2, j3, j4, j5⟩ := cells5 (TK_.out w3 hz3.bl).1
    clear hz3
    refine hK.out _ _ ⟨j2, j3⟩ (fun hHeld => ?_)
    clear hK K
    try simp only [Act.put, List.setIfInBounds_toArray, List.set_cons_zero, List.set_cons_succ]
    refine wpAnyH_done (by kernel_rfl) ?_ _
    have GS3 := Hid.mk' (gs_add GS0.out LG0.out (tg := t.nm) (at_ := t.at_) (tx := []) (by simp))
    obtain ⟨s3, hs3⟩ : ∃ s3, addX s1 t.nm t.at_ [] = s3 := ⟨_, rfl⟩
    rw [hs3] at HZ3 EP GS3
    clear hs3
    obtain ⟨τ4, vn4, vo4, va4, vt4, us4, hz4⟩ := HZ3.out
    obtain ⟨po4, co4, eo4, _⟩ := hz4.op.row
    subst eo4
    obtain ⟨pn4, cn4, en4, _⟩ := own_len hz4.ns.row
    subst en4
    clear c0 c1 c2 c3 k0 k1 k2 k3 k4 k5
    obtain ⟨c0, c1, c2, c3⟩ := cells3 hz4.box
    have f1 := hz4.box.frozen 1
    have HZ4 := Hid.mk' hz4
    have o74 := GS3.out.o
    have KV := l6Void_any t.nm w3
    clear hz4
    cases hl3 : s3.lg with
    | true =>
      have E : Hid (startX s t.nm t.at_ t.sh = s3) := Hid.mk' (by rw [EP.out]; exact openX_no (by rw [hl3]; simp))
      rw [hl3] at c2
      clear hl3 KV
      go_wp2_with (first | go_big_skip)
      go_end0
      exact ⟨⟨_, rfl⟩, by rw [E.out]; exact HZ4.out.zb⟩
    | false =>
      have L3 := Hid.mk' hl3
      rw [hl3] at c2
      clear hl3
      cases hv : voidB t.nm with
      | true =>
        have E : Hid (startX s t.nm t.at_ t.sh = s3) := Hid.mk' (by rw [EP.out]; exact openX_no (by rw [hv]; simp))
        rw [hv] at KV
        have KV := Hid.mk' KV
        clear hv
        go_wp2_with (first | go_big_skip | (go_at_call 85; refine KV.out.mono ?_; rintro e w9 ⟨rfl, hw9⟩; obtain rfl := hw9.symm))
        go_end0
        exact ⟨⟨_, rfl⟩, by rw [E.out]; exact HZ4.out.zb⟩
      | false =>
        rw [hv] at KV
        have KV := Hid.mk' KV
        have VV := Hid.mk' hv
        clear hv
        cases hsh : t.sh with
        | true =>
          have E : Hid (startX s t.nm t.at_ t.sh = s3) := Hid.mk' (by rw [EP.out]; exact openX_no (by rw [hsh]; simp))
          rw [hsh] at j4
          clear hsh
          go_wp2_with (first | go_big_skip | (go_at_call 85; refine KV.out.mono ?_; rintro e w9 ⟨rfl, hw9⟩; obtain rfl := hw9.symm))
          go_end0
          exact ⟨⟨_, rfl⟩, by rw [E.out]; exact HZ4.out.zb⟩
        | false =>
          have E : Hid (startX s t.nm t.at_ t.sh = ⟨s3.nd, s3.op ++ [(s1.nd.length : Int)], s3.lg⟩) := Hid.mk' (by rw [EP.out]; exact openX_yes L3.out VV.out hsh)
          rw [hsh] at j4
          clear hsh
          have VB := below_new w3 (.cells #[.int .i64 (s1.nd.length : Int)] 2)
          have HZ5 := Hid.mk' (HZ4.out.below VB)
          have NC := Hid.mk' (new_cells w3 2 [.int .i64 (s1.nd.length : Int)] w3.heap.size rfl)
          have b1 := (cells3 HZ5.out.box).2.1
          clear VB
          go_wp2_with (first | go_big_skip | (go_at_call 85; refine KV.out.mono ?_; rintro e w9 ⟨rfl, hw9⟩; obtain rfl := hw9.symm) | (at_builtin; refine wpList_append_at _ rfl (.tmp 59) (.tmp 61) 23 rfl w0.heap.size 2 (.int .i64 0) 1 8 Tryz.underlying23 Tryz.info2 rfl (by decide) _ _ _ rfl HZ5.out.op.1 _ 1 _ (ics [(s1.nd.length : Int)]) rfl (by simp [ics]) (.inr ⟨_, rfl, NC.out⟩) (ics_one _) (by unfold maxLen; omega) (by omega) HZ5.out.sz ?_; intro v' w5 ho hgr hat; obtain ⟨av5, cv5, ev5, _⟩ := own_len ho; subst ev5; have gnl : ∀ j, (Value.slice po4 s3.op.length co4).ownBlock = some j → ¬ j = g := (fun j e ej => by have h1 := HZ5.out.op.2 j e; have h2 := HZ5.out.gl; rw [ej] at h1; omega); have z1 := hgr.cell (a := ⟨g, 1, none⟩) b1 (fun e => gnl _ e.symm rfl); have z2 : w5.frozen? ⟨g, 1, none⟩ = false := (HZ5.out.box.of_block (hgr.block g HZ5.out.box.lt (fun e => gnl _ e.symm rfl))).frozen 1; have HQ := Hid.mk' (HZ5.out.pushS (wa := w3) (s1.nd.length : Int) ho hgr hat); clear ho hgr hat gnl))
          go_end0
          exact ⟨⟨_, rfl⟩, by rw [E.out]; exact HQ.out⟩

end Go.Proofs.YtpcpnfpnkkjkcaaGreat

/- A start is put: the program's putStart. -/
namespace Go.Proofs.YtpcpnfpnkkjkcaaGreat
open Go.RowKit
set_option linter.unusedVariables false
set_option linter.unusedSimpArgs false

set_option maxRecDepth 100000 in
set_option maxHeartbeats 12800000 in
theorem startI_any (w0 : World) (lo g : Nat) (s : BS) (t : TK) (a : Option Addr) (c : Nat) (w : World) (h : ZB true 117 w0 lo g s w) (hs : GS s) (hlg : s.lg = false) (hlo : lo = w0.heap.size) (ha : AAt w0 a t.at_) (hn : (t.nm.size : Int) ≤ 1048576) (hl : (t.at_.length : Int) + asz t.at_ ≤ 1048576) :
    Calls Tryz.prog 106 #[.pointer (some ⟨g, 0, none⟩), .agg #[.string t.nm, .slice a t.at_.length c, .bool t.sh]] w fun e w' => (∃ v, e = .returned v) ∧ ZB true 117 w0 lo g (startX s t.nm t.at_ t.sh) w' := by
  subst hlo
  have HA : Hid (∀ W, Below w0.heap.size w0 W → AAt W a t.at_) := fun W hb => ha.below hb
  obtain ⟨τ0, vn, vo, va, vt, us, hz0⟩ := h
  have N0 := below_new w (.cells #[.string t.nm, .slice a t.at_.length c, .bool t.sh] 153)
  obtain ⟨τ, hz, hfr⟩ := hz0.fresh N0
  have RF0 := Hid.mk' (row3 w 153 (.string t.nm) (.slice a t.at_.length c) (.bool t.sh))
  have F2 : Hid (τ w.heap.size = 2) := Hid.mk' (hfr _ (Nat.le_refl _))
  have gw : ¬ w.heap.size = g := fun e => by have := hz0.box.lt; omega
  have GS0 := Hid.mk' (gs_start0 hs t.nm)
  have LG0 := Hid.mk' ((start0_nd s t.nm).2.trans hlg)
  have HZ := Hid.mk' hz
  clear ha hz hz0 hs N0 hfr
  generalize hfb : w.heap.size = fb at *
  generalize hW0 : w.alloc (.cells #[.string t.nm, .slice a t.at_.length c, .bool t.sh] 153) = W0 at *
  obtain ⟨d0, d1, d2, d3⟩ := cells3 RF0.out
  cases hp : (t.nm.toList == [112]) with
  | true =>
    have E0 : Hid (start0 s t.nm = closeX s t.nm) := Hid.mk' (by unfold start0 pB; rw [hp, if_pos rfl])
    have KC := Hid.mk' (closeIF_any w0 w0.heap.size g s t.nm W0 τ vn vo va vt us HZ.out)
    rw [← E0.out] at KC
    go_enter Tryz.func106, Tryz.ntmps106
    go_wp2_with fail
    clear hW0
    refine KC.out.mono ?_
    rintro e W ⟨⟨v9, rfl⟩, ⟨vo1, hz1⟩, hk1⟩
    have HZ1 := Hid.mk' hz1
    have RF := Hid.mk' (RF0.out.of_block (hk1.block fb d3 gw))
    clear hz1 KC d0 d1 d2 d3 hk1
    obtain ⟨d0, d1, d2, d3⟩ := cells3 RF.out
    obtain ⟨s1, hs1⟩ : ∃ s1, start0 s t.nm = s1 := ⟨_, rfl⟩
    have ES := Hid.mk' hs1
    rw [hs1] at HZ1 GS0 LG0
    clear hs1
    have n60 := GS0.out.n
    have o7 := GS0.out.o
    have KN := Hid.mk' (count_any τ w0.heap.size s1.nd s1.op s1.op.length vo1 W HZ1.out.op (by omega))
    obtain ⟨po, eo⟩ := OE.ptr HZ1.out.op
    subst eo
    obtain ⟨pn, cn, en, _⟩ := own_len HZ1.out.ns.row
    subst en
    obtain ⟨c0, c1, c2, c3⟩ := cells3 HZ1.out.box
    have HAA := Hid.mk' (HA.out W HZ1.out.bl)
    by_cases h7 : 7 ≤ s1.op.length
    · have E : Hid (startX s t.nm t.at_ t.sh = s1) := Hid.mk' (by rw [startX_deep (by rw [ES.out]; exact h7), ES.out])
      have h7' : (s1.op.length : Int) ≥ 7 := by omega
      clear HAA
      go_wp2_with fail
      try clear hW0
      refine KN.out.mono ?_
      rintro e w9 ⟨rfl, hw9⟩
      obtain rfl := hw9.symm
      go_wp2
      (try simp only [Exit.inBlock, Exit.then])
      refine bodyPost_ret (results_none rfl _ _ _) rfl ?_
      exact ⟨⟨_, rfl⟩, by rw [E.out]; exact HZ1.out.zb⟩
    have EP : Hid (startX s t.nm t.at_ t.sh = openX (addX s1 t.nm t.at_ []) t.nm t.sh s1.nd.length) := Hid.mk' (by rw [startX_put (by rw [ES.out]; exact h7), ES.out])
    have h7' : ¬ (s1.op.length : Int) ≥ 7 := by omega
    clear h7
    go_wp2_with fail
    try clear hW0
    refine KN.out.mono ?_
    rintro e w9 ⟨rfl, hw9⟩
    obtain rfl := hw9.symm
    clear KN
    go_wp2_with fail
    refine wp_region_held_drew (S := fun w' => w'.cell? ⟨fb, 0, none⟩ = some (.string t.nm) ∧ w'.cell? ⟨fb, 1, none⟩ = some (.slice a t.at_.length c)) (by kernel_rfl) (by simp [*]) (fun hHeld => ?_)
    refine wpAnyH_take (i := 0) (oi := ⟨_, _, _, _, _, _⟩) (v := ?_) rfl (by kernel_rfl) (by kernel_rfl) (by kernel_rfl) (fun _ _ _ h => h) (Or.inl ⟨by rfl, ?_⟩) (by assumption) ?_
    rotate_left
    · (intro w hSw; (try dsimp only at hSw); go_simp; (try with_reducible rfl))
    try simp only [Act.put, List.setIfInBounds_toArray, List.set_cons_zero, List.set_cons_succ]
    refine wpAnyH_take (i := 1) (oi := ⟨_, _, _, _, _, _⟩) (v := ?_) rfl (by kernel_rfl) (by kernel_rfl) (by kernel_rfl) (fun _ _ _ h => h) (Or.inl ⟨by rfl, ?_⟩) (by assumption) ?_
    rotate_left
    · (intro w hSw; (try dsimp only at hSw); go_simp; (try with_reducible rfl))
    try simp only [Act.put, List.setIfInBounds_toArray, List.set_cons_zero, List.set_cons_succ]
    refine wpAnyH_take (i := 2) (oi := ⟨_, _, _, _, _, _⟩) (v := ?_) rfl (by kernel_rfl) (by kernel_rfl) (by kernel_rfl) (fun _ _ _ h => h) (Or.inl ⟨by rfl, ?_⟩) (by assumption) ?_
    rotate_left
    · (intro w hSw; (try dsimp only at hSw); go_simp; (try with_reducible rfl))
    try simp only [Act.put, List.setIfInBounds_toArray, List.set_cons_zero, List.set_cons_succ]
    refine wpAnyH_take (i := 4) (oi := ⟨_, _, _, _, _, _⟩) (v := ?_) rfl (by kernel_rfl) (by kernel_rfl) (by kernel_rfl) (fun _ _ _ h => h) (Or.inl ⟨by rfl, ?_⟩) (by assumption) ?_
    rotate_left
    · (intro w hSw; (try dsimp only at hSw); go_simp; (try with_reducible rfl))
    try simp only [Act.put, List.setIfInBounds_toArray, List.set_cons_zero, List.set_cons_succ]
    refine wpAnyH_take (i := 5) (oi := ⟨_, _, _, _, _, _⟩) (v := ?_) rfl (by kernel_rfl) (by kernel_rfl) (by kernel_rfl) (fun _ _ _ h => h) (Or.inl ⟨by rfl, ?_⟩) (by assumption) ?_
    rotate_left
    · (intro w hSw; (try dsimp only at hSw); go_simp; (try with_reducible rfl))
    try simp only [Act.put, List.setIfInBounds_toArray, List.set_cons_zero, List.set_cons_succ]
    refine wpAnyH_ready (rs := [3]) (by kernel_rfl) (by simp) ?_
    refine AllReadyH.cons (o := ⟨_, _, _, _, _, _⟩) rfl (fun K hK => ?_) AllReadyH.nil
    go_simp
    go_at_call 99
    refine (clone_any t.nm W.drew (by omega)).mono ?_
    rintro e w1 ⟨rfl, hb1⟩
    replace hb1 := undrew hb1
    have B1 := Hid.mk' hb1
    have y0 := (hb1.cell d3).trans d0
    have y1 := (hb1.cell d3).trans d1
    have y9 := Nat.lt_of_lt_of_le d3 hb1.size
    clear hb1
    refine hK.out _ _ ⟨y0, y1⟩ (fun hHeld => ?_)
    clear hK K
    try simp only [Act.put, List.setIfInBounds_toArray, List.set_cons_zero, List.set_cons_succ]
    refine wpAnyH_ready (rs := [6]) (by kernel_rfl) (by simp) ?_
    refine AllReadyH.cons (o := ⟨_, _, _, _, _, _⟩) rfl (fun K hK => ?_) AllReadyH.nil
    go_simp
    go_at_call 100
    refine (copyAttrs_own a c t.at_ w1 (HAA.out.below B1.out) (by omega)).mono ?_
    rintro e w2 ⟨va_, us_, rfl, hoa, hb2⟩
    obtain ⟨pa, ca, ea, _⟩ := own_len hoa.row
    subst ea
    have B2 := Hid.mk' (B1.out.trans (hb2.mono B1.out.size))
    have L1 : Hid (W.heap.size ≤ w1.heap.size) := Hid.mk' B1.out.size
    have HOA := Hid.mk' hoa
    have z0 := (hb2.cell y9).trans y0
    have z1 := (hb2.cell y9).trans y1
    have RF2 := Hid.mk' (rowB RF.out B2.out)
    clear hb2 hoa
    refine hK.out _ _ ⟨z0, z1⟩ (fun hHeld => ?_)
    clear hK K
    try simp only [Act.put, List.setIfInBounds_toArray, List.set_cons_zero, List.set_cons_succ]
    refine wpAnyH_take (i := 7) (oi := ⟨_, _, _, _, _, _⟩) (v := ?_) rfl (by kernel_rfl) (by kernel_rfl) (by kernel_rfl) (fun _ _ _ h => h) (Or.inl ⟨by rfl, ?_⟩) (by assumption) ?_
    rotate_left
    · (intro w hSw; (try dsimp only at hSw); go_simp; (try with_reducible rfl))
    try simp only [Act.put, List.setIfInBounds_toArray, List.set_cons_zero, List.set_cons_succ]
    refine wpAnyH_ready (rs := [8]) (by kernel_rfl) (by simp) ?_
    refine AllReadyH.cons (o := ⟨_, _, _, _, _, _⟩) rfl (fun K hK => ?_) AllReadyH.nil
    go_simp
    go_at_call 119
    refine (addIF_any w0 w0.heap.size g s1 W τ _ _ va vt us HZ1.out GS0.out w1.heap.size t.nm t.at_ [] (.slice pa t.at_.length ca) (.slice none 0 0) us_ 0 w2 B2.out HOA.out L1.out ⟨rfl, .inl ⟨rfl, rfl⟩⟩ (fun k e => by simp [Value.ownBlock] at e)).mono ?_
    rintro e w3 ⟨⟨v8, rfl⟩, hz3, hkf⟩
    have HZ3 := Hid.mk' hz3
    have RF3 := Hid.mk' (RF2.out.of_block (hkf.block fb RF2.out.lt ⟨F2.out, gw⟩))
    obtain ⟨j0, j1, j2, j3⟩ := cells3 RF3.out
    clear hz3 hkf
    refine hK.out _ _ ⟨j0, j1⟩ (fun hHeld => ?_)
    clear hK K
    try simp only [Act.put, List.setIfInBounds_toArray, List.set_cons_zero, List.set_cons_succ]
    refine wpAnyH_done (by kernel_rfl) ?_ _
    have GS3 := Hid.mk' (gs_add GS0.out LG0.out (tg := t.nm) (at_ := t.at_) (tx := []) (by simp))
    have AL : Hid ((addX s1 t.nm t.at_ []).lg = false → (addX s1 t.nm t.at_ []).nd.length = s1.nd.length + 1) := Hid.mk' (fun h => add_len h)
    obtain ⟨s3, hs3⟩ : ∃ s3, addX s1 t.nm t.at_ [] = s3 := ⟨_, rfl⟩
    rw [hs3] at HZ3 EP GS3 AL
    clear hs3
    obtain ⟨τ4, vn4, vo4, va4, vt4, us4, hz4⟩ := HZ3.out
    obtain ⟨po4, eo4⟩ := OE.ptr hz4.op
    subst eo4
    obtain ⟨pn4, cn4, en4, _⟩ := own_len hz4.ns.row
    subst en4
    clear c0 c1 c2 c3 d0 d1 d2 d3
    obtain ⟨c0, c1, c2, c3⟩ := cells3 hz4.box
    have KV := implVoid_any t.nm w3
    clear hz4
    cases hl3 : s3.lg with
    | true =>
      have E : Hid (startX s t.nm t.at_ t.sh = s3) := Hid.mk' (by rw [EP.out]; exact openX_no (by rw [hl3]; simp))
      rw [hl3] at c2
      clear hl3 KV
      go_wp2_with (first | go_big_skip)
      go_end0
      exact ⟨⟨_, rfl⟩, by rw [E.out]; exact HZ3.out⟩
    | false =>
      have L3 := Hid.mk' hl3
      rw [hl3] at c2
      clear hl3
      cases hsh : t.sh with
      | true =>
        have E : Hid (startX s t.nm t.at_ t.sh = s3) := Hid.mk' (by rw [EP.out]; exact openX_no (by rw [hsh]; simp))
        rw [hsh] at j2
        clear hsh KV
        go_wp2_with (first | go_big_skip)
        go_end0
        exact ⟨⟨_, rfl⟩, by rw [E.out]; exact HZ3.out⟩
      | false =>
        have SH := Hid.mk' hsh
        rw [hsh] at j2
        clear hsh
        cases hv : voidB t.nm with
        | true =>
          have E : Hid (startX s t.nm t.at_ t.sh = s3) := Hid.mk' (by rw [EP.out]; exact openX_no (by rw [hv]; simp))
          rw [hv] at KV
          have KV := Hid.mk' KV
          clear hv
          go_wp2_with (first | go_big_skip | (go_at_call 115; refine KV.out.mono ?_; rintro e w9 ⟨rfl, hw9⟩; obtain rfl := hw9.symm))
          go_end0
          exact ⟨⟨_, rfl⟩, by rw [E.out]; exact HZ3.out⟩
        | false =>
          have E : Hid (startX s t.nm t.at_ t.sh = ⟨s3.nd, s3.op ++ [(s1.nd.length : Int)], s3.lg⟩) := Hid.mk' (by rw [EP.out]; exact openX_yes L3.out hv SH.out)
          rw [hv] at KV
          have KV := Hid.mk' KV
          clear hv
          have al := AL.out L3.out
          have KO := Hid.mk' (openI_any w0 w0.heap.size g s3 s1.nd.length w3 HZ3.out (by omega) GS3.out)
          have hm1 : (s3.nd.length : Int) - 1 = (s1.nd.length : Int) := by omega
          have ALH := Hid.mk' al
          clear al AL
          go_wp2_with (first | go_big_skip | (go_at_call 115; refine KV.out.mono ?_; rintro e w9 ⟨rfl, hw9⟩; obtain rfl := hw9.symm))
          refine KO.out.mono ?_
          rintro e w4 ⟨⟨v7, rfl⟩, hz5⟩
          have HZ5 := Hid.mk' hz5
          clear hz5 KO
          go_wp2
          go_end0
          exact ⟨⟨_, rfl⟩, by rw [E.out]; exact HZ5.out⟩
  | false =>
    have E0 : Hid (start0 s t.nm = s) := Hid.mk' (by unfold start0 pB; rw [hp]; rfl)
    obtain ⟨vo1, hvo⟩ : ∃ v, v = vo := ⟨_, rfl⟩
    have HZ1 : Hid (ZS true 117 w0 w0.heap.size g (start0 s t.nm) W0 τ vn vo1 va vt us) := Hid.mk' (by rw [E0.out, hvo]; exact HZ.out)
    have RF := RF0
    clear hvo
    go_enter Tryz.func106, Tryz.ntmps106
    obtain ⟨s1, hs1⟩ : ∃ s1, start0 s t.nm = s1 := ⟨_, rfl⟩
    have ES := Hid.mk' hs1
    rw [hs1] at HZ1 GS0 LG0
    clear hs1
    have n60 := GS0.out.n
    have o7 := GS0.out.o
    have KN := Hid.mk' (count_any τ w0.heap.size s1.nd s1.op s1.op.length vo1 W0 HZ1.out.op (by omega))
    obtain ⟨po, eo⟩ := OE.ptr HZ1.out.op
    subst eo
    obtain ⟨pn, cn, en, _⟩ := own_len HZ1.out.ns.row
    subst en
    obtain ⟨c0, c1, c2, c3⟩ := cells3 HZ1.out.box
    have HAA := Hid.mk' (HA.out W0 HZ1.out.bl)
    by_cases h7 : 7 ≤ s1.op.length
    · have E : Hid (startX s t.nm t.at_ t.sh = s1) := Hid.mk' (by rw [startX_deep (by rw [ES.out]; exact h7), ES.out])
      have h7' : (s1.op.length : Int) ≥ 7 := by omega
      clear HAA
      go_wp2_with fail
      try clear hW0
      refine KN.out.mono ?_
      rintro e w9 ⟨rfl, hw9⟩
      obtain rfl := hw9.symm
      go_wp2
      (try simp only [Exit.inBlock, Exit.then])
      refine bodyPost_ret (results_none rfl _ _ _) rfl ?_
      exact ⟨⟨_, rfl⟩, by rw [E.out]; exact HZ1.out.zb⟩
    have EP : Hid (startX s t.nm t.at_ t.sh = openX (addX s1 t.nm t.at_ []) t.nm t.sh s1.nd.length) := Hid.mk' (by rw [startX_put (by rw [ES.out]; exact h7), ES.out])
    have h7' : ¬ (s1.op.length : Int) ≥ 7 := by omega
    clear h7
    go_wp2_with fail
    try clear hW0
    refine KN.out.mono ?_
    rintro e w9 ⟨rfl, hw9⟩
    obtain rfl := hw9.symm
    clear KN
    go_wp2_with fail
    refine wp_region_held_drew (S := fun w' => w'.cell? ⟨fb, 0, none⟩ = some (.string t.nm) ∧ w'.cell? ⟨fb, 1, none⟩ = some (.slice a t.at_.length c)) (by kernel_rfl) (by simp [*]) (fun hHeld => ?_)
    refine wpAnyH_take (i := 0) (oi := ⟨_, _, _, _, _, _⟩) (v := ?_) rfl (by kernel_rfl) (by kernel_rfl) (by kernel_rfl) (fun _ _ _ h => h) (Or.inl ⟨by rfl, ?_⟩) (by assumption) ?_
    rotate_left
    · (intro w hSw; (try dsimp only at hSw); go_simp; (try with_reducible rfl))
    try simp only [Act.put, List.setIfInBounds_toArray, List.set_cons_zero, List.set_cons_succ]
    refine wpAnyH_take (i := 1) (oi := ⟨_, _, _, _, _, _⟩) (v := ?_) rfl (by kernel_rfl) (by kernel_rfl) (by kernel_rfl) (fun _ _ _ h => h) (Or.inl ⟨by rfl, ?_⟩) (by assumption) ?_
    rotate_left
    · (intro w hSw; (try dsimp only at hSw); go_simp; (try with_reducible rfl))
    try simp only [Act.put, List.setIfInBounds_toArray, List.set_cons_zero, List.set_cons_succ]
    refine wpAnyH_take (i := 2) (oi := ⟨_, _, _, _, _, _⟩) (v := ?_) rfl (by kernel_rfl) (by kernel_rfl) (by kernel_rfl) (fun _ _ _ h => h) (Or.inl ⟨by rfl, ?_⟩) (by assumption) ?_
    rotate_left
    · (intro w hSw; (try dsimp only at hSw); go_simp; (try with_reducible rfl))
    try simp only [Act.put, List.setIfInBounds_toArray, List.set_cons_zero, List.set_cons_succ]
    refine wpAnyH_take (i := 4) (oi := ⟨_, _, _, _, _, _⟩) (v := ?_) rfl (by kernel_rfl) (by kernel_rfl) (by kernel_rfl) (fun _ _ _ h => h) (Or.inl ⟨by rfl, ?_⟩) (by assumption) ?_
    rotate_left
    · (intro w hSw; (try dsimp only at hSw); go_simp; (try with_reducible rfl))
    try simp only [Act.put, List.setIfInBounds_toArray, List.set_cons_zero, List.set_cons_succ]
    refine wpAnyH_take (i := 5) (oi := ⟨_, _, _, _, _, _⟩) (v := ?_) rfl (by kernel_rfl) (by kernel_rfl) (by kernel_rfl) (fun _ _ _ h => h) (Or.inl ⟨by rfl, ?_⟩) (by assumption) ?_
    rotate_left
    · (intro w hSw; (try dsimp only at hSw); go_simp; (try with_reducible rfl))
    try simp only [Act.put, List.setIfInBounds_toArray, List.set_cons_zero, List.set_cons_succ]
    refine wpAnyH_ready (rs := [3]) (by kernel_rfl) (by simp) ?_
    refine AllReadyH.cons (o := ⟨_, _, _, _, _, _⟩) rfl (fun K hK => ?_) AllReadyH.nil
    go_simp
    go_at_call 99
    refine (clone_any t.nm W0.drew (by omega)).mono ?_
    rintro e w1 ⟨rfl, hb1⟩
    replace hb1 := undrew hb1
    have B1 := Hid.mk' hb1
    have y0 := (hb1.cell d3).trans d0
    have y1 := (hb1.cell d3).trans d1
    have y9 := Nat.lt_of_lt_of_le d3 hb1.size
    clear hb1
    refine hK.out _ _ ⟨y0, y1⟩ (fun hHeld => ?_)
    clear hK K
    try simp only [Act.put, List.setIfInBounds_toArray, List.set_cons_zero, List.set_cons_succ]
    refine wpAnyH_ready (rs := [6]) (by kernel_rfl) (by simp) ?_
    refine AllReadyH.cons (o := ⟨_, _, _, _, _, _⟩) rfl (fun K hK => ?_) AllReadyH.nil
    go_simp
    go_at_call 100
    refine (copyAttrs_own a c t.at_ w1 (HAA.out.below B1.out) (by omega)).mono ?_
    rintro e w2 ⟨va_, us_, rfl, hoa, hb2⟩
    obtain ⟨pa, ca, ea, _⟩ := own_len hoa.row
    subst ea
    have B2 := Hid.mk' (B1.out.trans (hb2.mono B1.out.size))
    have L1 : Hid (W0.heap.size ≤ w1.heap.size) := Hid.mk' B1.out.size
    have HOA := Hid.mk' hoa
    have z0 := (hb2.cell y9).trans y0
    have z1 := (hb2.cell y9).trans y1
    have RF2 := Hid.mk' (rowB RF.out B2.out)
    clear hb2 hoa
    refine hK.out _ _ ⟨z0, z1⟩ (fun hHeld => ?_)
    clear hK K
    try simp only [Act.put, List.setIfInBounds_toArray, List.set_cons_zero, List.set_cons_succ]
    refine wpAnyH_take (i := 7) (oi := ⟨_, _, _, _, _, _⟩) (v := ?_) rfl (by kernel_rfl) (by kernel_rfl) (by kernel_rfl) (fun _ _ _ h => h) (Or.inl ⟨by rfl, ?_⟩) (by assumption) ?_
    rotate_left
    · (intro w hSw; (try dsimp only at hSw); go_simp; (try with_reducible rfl))
    try simp only [Act.put, List.setIfInBounds_toArray, List.set_cons_zero, List.set_cons_succ]
    refine wpAnyH_ready (rs := [8]) (by kernel_rfl) (by simp) ?_
    refine AllReadyH.cons (o := ⟨_, _, _, _, _, _⟩) rfl (fun K hK => ?_) AllReadyH.nil
    go_simp
    go_at_call 119
    refine (addIF_any w0 w0.heap.size g s1 W0 τ _ _ va vt us HZ1.out GS0.out w1.heap.size t.nm t.at_ [] (.slice pa t.at_.length ca) (.slice none 0 0) us_ 0 w2 B2.out HOA.out L1.out ⟨rfl, .inl ⟨rfl, rfl⟩⟩ (fun k e => by simp [Value.ownBlock] at e)).mono ?_
    rintro e w3 ⟨⟨v8, rfl⟩, hz3, hkf⟩
    have HZ3 := Hid.mk' hz3
    have RF3 := Hid.mk' (RF2.out.of_block (hkf.block fb RF2.out.lt ⟨F2.out, gw⟩))
    obtain ⟨j0, j1, j2, j3⟩ := cells3 RF3.out
    clear hz3 hkf
    refine hK.out _ _ ⟨j0, j1⟩ (fun hHeld => ?_)
    clear hK K
    try simp only [Act.put, List.setIfInBounds_toArray, List.set_cons_zero, List.set_cons_succ]
    refine wpAnyH_done (by kernel_rfl) ?_ _
    have GS3 := Hid.mk' (gs_add GS0.out LG0.out (tg := t.nm) (at_ := t.at_) (tx := []) (by simp))
    have AL : Hid ((addX s1 t.nm t.at_ []).lg = false → (addX s1 t.nm t.at_ []).nd.length = s1.nd.length + 1) := Hid.mk' (fun h => add_len h)
    obtain ⟨s3, hs3⟩ : ∃ s3, addX s1 t.nm t.at_ [] = s3 := ⟨_, rfl⟩
    rw [hs3] at HZ3 EP GS3 AL
    clear hs3
    obtain ⟨τ4, vn4, vo4, va4, vt4, us4, hz4⟩ := HZ3.out
    obtain ⟨po4, eo4⟩ := OE.ptr hz4.op
    subst eo4
    obtain ⟨pn4, cn4, en4, _⟩ := own_len hz4.ns.row
    subst en4
    clear c0 c1 c2 c3 d0 d1 d2 d3
    obtain ⟨c0, c1, c2, c3⟩ := cells3 hz4.box
    have KV := implVoid_any t.nm w3
    clear hz4
    cases hl3 : s3.lg with
    | true =>
      have E : Hid (startX s t.nm t.at_ t.sh = s3) := Hid.mk' (by rw [EP.out]; exact openX_no (by rw [hl3]; simp))
      rw [hl3] at c2
      clear hl3 KV
      go_wp2_with (first | go_big_skip)
      go_end0
      exact ⟨⟨_, rfl⟩, by rw [E.out]; exact HZ3.out⟩
    | false =>
      have L3 := Hid.mk' hl3
      rw [hl3] at c2
      clear hl3
      cases hsh : t.sh with
      | true =>
        have E : Hid (startX s t.nm t.at_ t.sh = s3) := Hid.mk' (by rw [EP.out]; exact openX_no (by rw [hsh]; simp))
        rw [hsh] at j2
        clear hsh KV
        go_wp2_with (first | go_big_skip)
        go_end0
        exact ⟨⟨_, rfl⟩, by rw [E.out]; exact HZ3.out⟩
      | false =>
        have SH := Hid.mk' hsh
        rw [hsh] at j2
        clear hsh
        cases hv : voidB t.nm with
        | true =>
          have E : Hid (startX s t.nm t.at_ t.sh = s3) := Hid.mk' (by rw [EP.out]; exact openX_no (by rw [hv]; simp))
          rw [hv] at KV
          have KV := Hid.mk' KV
          clear hv
          go_wp2_with (first | go_big_skip | (go_at_call 115; refine KV.out.mono ?_; rintro e w9 ⟨rfl, hw9⟩; obtain rfl := hw9.symm))
          go_end0
          exact ⟨⟨_, rfl⟩, by rw [E.out]; exact HZ3.out⟩
        | false =>
          have E : Hid (startX s t.nm t.at_ t.sh = ⟨s3.nd, s3.op ++ [(s1.nd.length : Int)], s3.lg⟩) := Hid.mk' (by rw [EP.out]; exact openX_yes L3.out hv SH.out)
          rw [hv] at KV
          have KV := Hid.mk' KV
          clear hv
          have al := AL.out L3.out
          have KO := Hid.mk' (openI_any w0 w0.heap.size g s3 s1.nd.length w3 HZ3.out (by omega) GS3.out)
          have hm1 : (s3.nd.length : Int) - 1 = (s1.nd.length : Int) := by omega
          have ALH := Hid.mk' al
          clear al AL
          go_wp2_with (first | go_big_skip | (go_at_call 115; refine KV.out.mono ?_; rintro e w9 ⟨rfl, hw9⟩; obtain rfl := hw9.symm))
          refine KO.out.mono ?_
          rintro e w4 ⟨⟨v7, rfl⟩, hz5⟩
          have HZ5 := Hid.mk' hz5
          clear hz5 KO
          go_wp2
          go_end0
          exact ⟨⟨_, rfl⟩, by rw [E.out]; exact HZ5.out⟩

end Go.Proofs.YtpcpnfpnkkjkcaaGreat

/- A token is put: the model's l7Put. -/
namespace Go.Proofs.YtpcpnfpnkkjkcaaGreat
open Go.RowKit
set_option linter.unusedVariables false
set_option linter.unusedSimpArgs false

theorem putX_large {s : BS} {t : TK} (h : s.lg = true) : putX s t = s := by unfold putX; rw [if_pos h]
theorem putX_byte {s : BS} {t : TK} (h : s.lg = false) (k : t.kd = 1) : putX s t = byteX s t.by_ := by unfold putX; rw [if_neg (by rw [h]; decide), if_pos k]
theorem putX_start {s : BS} {t : TK} (h : s.lg = false) (k : t.kd = 2) : putX s t = startX s t.nm t.at_ t.sh := by unfold putX; rw [if_neg (by rw [h]; decide), if_neg (by omega), if_pos k]
theorem putX_end {s : BS} {t : TK} (h : s.lg = false) (k : t.kd = 3) : putX s t = closeX s t.nm := by unfold putX; rw [if_neg (by rw [h]; decide), if_neg (by omega), if_neg (by omega), if_pos k]
theorem putX_note {s : BS} {t : TK} (h : s.lg = false) (k1 : ¬ t.kd = 1) (k2 : ¬ t.kd = 2) (k3 : ¬ t.kd = 3) : putX s t = s := by unfold putX; rw [if_neg (by rw [h]; decide), if_neg k1, if_neg k2, if_neg k3]

set_option maxRecDepth 100000 in
set_option maxHeartbeats 3200000 in
theorem putS_any (w0 : World) (lo g gt : Nat) (s : BS) (t : TK) (a : Option Addr) (c : Nat) (w : World) (h : ZB false 33 w0 lo g s w) (hs : GS s) (hlo : lo = w0.heap.size) (ht : w0.rowIs gt 40 5 (r5 (.int .i64 t.kd) (.int .i64 t.by_) (.string t.nm) (.slice a t.at_.length c) (.bool t.sh))) (ha : AAt w0 a t.at_) (hl : (t.at_.length : Int) + asz t.at_ ≤ 1048576) (hby : t.kd = 1 → 0 ≤ t.by_ ∧ t.by_ ≤ 255) :
    Calls Tryz.prog 36 #[.pointer (some ⟨g, 0, none⟩), .pointer (some ⟨gt, 0, none⟩)] w fun e w' => (∃ v, e = .returned v) ∧ ZB false 33 w0 lo g (putX s t) w' := by
  subst hlo
  obtain ⟨τ, vn, vo, va, vt, us, hz⟩ := id h
  have HZ := Hid.mk' h
  obtain ⟨po, co, eo, _⟩ := hz.op.row
  subst eo
  obtain ⟨pn, cn, en, _⟩ := own_len hz.ns.row
  subst en
  obtain ⟨c0, c1, c2, c3⟩ := cells3 hz.box
  obtain ⟨k0, k1, k2, k3, k4, k5⟩ := cells5 (rowB ht hz.bl)
  clear hz h
  cases hlg : s.lg with
  | true =>
    have E := Hid.mk' (putX_large (t := t) hlg)
    rw [hlg] at c2
    clear hlg
    go_enter Tryz.func36, Tryz.ntmps36
    go_wp2
    (try simp only [Exit.inBlock, Exit.then])
    refine bodyPost_ret (results_none rfl _ _ _) rfl ?_
    exact ⟨⟨_, rfl⟩, by rw [E.out]; exact HZ.out⟩
  | false =>
    by_cases q1 : t.kd = 1
    · have E := Hid.mk' (putX_byte hlg q1)
      obtain ⟨y0, y1⟩ := hby q1
      have KB := Hid.mk' (byteS_any w0 w0.heap.size g s t.by_ w HZ.out hs)
      rw [hlg] at c2
      rw [q1] at k0
      have yw : IntKind.u8.wrap t.by_ = t.by_ := by rw [IntKind.wrap_u8]; omega
      clear hlg q1 hby
      go_enter Tryz.func36, Tryz.ntmps36
      go_wp2_with fail
      refine KB.out.mono ?_
      rintro e w1 ⟨⟨v9, rfl⟩, hz1⟩
      have HZ1 := Hid.mk' hz1
      clear hz1 KB
      go_wp2
      go_end0
      exact ⟨⟨_, rfl⟩, by rw [E.out]; exact HZ1.out⟩
    by_cases q2 : t.kd = 2
    · have E := Hid.mk' (putX_start hlg q2)
      have KB := Hid.mk' (startS_any w0 w0.heap.size g gt s t a c w HZ.out hs hlg rfl ht ha hl)
      rw [hlg] at c2
      rw [q2] at k0
      clear hlg q1 q2 hby ht ha
      go_enter Tryz.func36, Tryz.ntmps36
      go_wp2_with fail
      refine KB.out.mono ?_
      rintro e w1 ⟨⟨v9, rfl⟩, hz1⟩
      have HZ1 := Hid.mk' hz1
      clear hz1 KB
      go_wp2
      go_end0
      exact ⟨⟨_, rfl⟩, by rw [E.out]; exact HZ1.out⟩
    by_cases q3 : t.kd = 3
    · have E := Hid.mk' (putX_end hlg q3)
      have KB := Hid.mk' (closeS_any w0 w0.heap.size g s t.nm w HZ.out hs)
      rw [hlg] at c2
      rw [q3] at k0
      clear hlg q1 q2 q3 hby ht ha
      go_enter Tryz.func36, Tryz.ntmps36
      go_wp2_with fail
      refine KB.out.mono ?_
      rintro e w1 ⟨⟨v9, rfl⟩, hz1⟩
      have HZ1 := Hid.mk' hz1
      clear hz1 KB
      go_wp2
      go_end0
      exact ⟨⟨_, rfl⟩, by rw [E.out]; exact HZ1.out⟩
    have E := Hid.mk' (putX_note hlg q1 q2 q3)
    rw [hlg] at c2
    have r1 : (t.kd == 1) = false := by simpa using q1
    have r2 : (t.kd == 2) = false := by simpa using q2
    have r3' : (t.kd == 3) = false := by simpa using q3
    clear hlg q1 q2 q3 hby ht ha
    go_enter Tryz.func36, Tryz.ntmps36
    go_wp2
    go_end0
    exact ⟨⟨_, rfl⟩, by rw [E.out]; exact HZ.out⟩

end Go.Proofs.YtpcpnfpnkkjkcaaGreat

/- A token is put: the program's formOf, put and take. -/
namespace Go.Proofs.YtpcpnfpnkkjkcaaGreat
open Go.RowKit
set_option linter.unusedVariables false
set_option linter.unusedSimpArgs false

theorem ta_byte (v : Value) (w : World) : (Instr.typeAssert (.iface 150 v) 121 150 true).run Tryz.prog w = .ok (.tuple #[v, .bool true]) w := by
  simp [Instr.typeAssert, run_underlying Tryz.underlying150, go_sem, Result.andThen]

theorem ta_start (v : Value) (w : World) : (Instr.typeAssert (.iface 153 v) 121 153 true).run Tryz.prog w = .ok (.tuple #[v, .bool true]) w := by
  simp [Instr.typeAssert, run_underlying Tryz.underlying153, go_sem, Result.andThen]

theorem ta_end (v : Value) (w : World) : (Instr.typeAssert (.iface 156 v) 121 156 true).run Tryz.prog w = .ok (.tuple #[v, .bool true]) w := by
  simp [Instr.typeAssert, run_underlying Tryz.underlying156, go_sem, Result.andThen]

theorem ta_note (v : Value) (w : World) : (Instr.typeAssert (.iface 159 v) 121 159 true).run Tryz.prog w = .ok (.tuple #[v, .bool true]) w := by
  simp [Instr.typeAssert, run_underlying Tryz.underlying159, go_sem, Result.andThen]

theorem ta_nbyte (t : TypeId) (h : ¬ t = 150) (v : Value) (w : World) : (Instr.typeAssert (.iface t v) 121 150 true).run Tryz.prog w = .ok (.tuple #[.agg #[.int .u8 0], .bool false]) w := by
  simp [Instr.typeAssert, run_underlying Tryz.underlying150, go_sem, Result.andThen, h]

theorem ta_nstart (t : TypeId) (h : ¬ t = 153) (v : Value) (w : World) : (Instr.typeAssert (.iface t v) 121 153 true).run Tryz.prog w = .ok (.tuple #[.agg #[.string ⟨#[]⟩, .slice none 0 0, .bool false], .bool false]) w := by
  simp [Instr.typeAssert, run_underlying Tryz.underlying153, go_sem, Result.andThen, h]

theorem ta_nend (t : TypeId) (h : ¬ t = 156) (v : Value) (w : World) : (Instr.typeAssert (.iface t v) 121 156 true).run Tryz.prog w = .ok (.tuple #[.agg #[.string ⟨#[]⟩], .bool false]) w := by
  simp [Instr.typeAssert, run_underlying Tryz.underlying156, go_sem, Result.andThen, h]

/-- A token as a form. -/
def formV (t : TK) (a : Option Addr) (c : Nat) : Value :=
  if t.kd = 1 then .iface 150 (.agg #[.int .u8 t.by_]) else if t.kd = 2 then .iface 153 (.agg #[.string t.nm, .slice a t.at_.length c, .bool t.sh]) else if t.kd = 3 then .iface 156 (.agg #[.string t.nm]) else .iface 159 (.agg #[])

set_option maxRecDepth 100000 in
set_option maxHeartbeats 1600000 in
theorem formOf_any (t : TK) (a : Option Addr) (c : Nat) (w : World) (hby : t.kd = 1 → 0 ≤ t.by_ ∧ t.by_ ≤ 255) :
    Calls Tryz.prog 75 #[.agg #[.int .i64 t.kd, .int .i64 t.by_, .string t.nm, .slice a t.at_.length c, .bool t.sh]] w fun e w' => e = .returned (formV t a c) ∧ Below w.heap.size w w' := by
  have p1 : Tryz.prog.concrete 150 = true := by kernel_rfl
  have p2 : Tryz.prog.concrete 153 = true := by kernel_rfl
  have p3 : Tryz.prog.concrete 156 = true := by kernel_rfl
  have p4 : Tryz.prog.concrete 159 = true := by kernel_rfl
  by_cases q1 : t.kd = 1
  · have E : Hid (formV t a c = .iface 150 (.agg #[.int .u8 t.by_])) := Hid.mk' (by unfold formV; rw [if_pos q1])
    obtain ⟨y0, y1⟩ := hby q1
    have yw : IntKind.u8.wrap t.by_ = t.by_ := by rw [IntKind.wrap_u8]; omega
    have r1 : (t.kd == 1) = true := by simpa using q1
    clear q1 hby
    go_enter Tryz.func75, Tryz.ntmps75
    go_wp2
    go_ret
    exact ⟨by rw [E.out]; rfl, below_new _ _⟩
  by_cases q2 : t.kd = 2
  · have E : Hid (formV t a c = .iface 153 (.agg #[.string t.nm, .slice a t.at_.length c, .bool t.sh])) := Hid.mk' (by unfold formV; rw [if_neg q1, if_pos q2])
    have r1 : (t.kd == 1) = false := by simpa using q1
    have r2 : (t.kd == 2) = true := by simpa using q2
    clear q1 q2 hby
    go_enter Tryz.func75, Tryz.ntmps75
    go_wp2
    go_ret
    exact ⟨by rw [E.out]; rfl, below_new _ _⟩
  by_cases q3 : t.kd = 3
  · have E : Hid (formV t a c = .iface 156 (.agg #[.string t.nm])) := Hid.mk' (by unfold formV; rw [if_neg q1, if_neg q2, if_pos q3])
    have r1 : (t.kd == 1) = false := by simpa using q1
    have r2 : (t.kd == 2) = false := by simpa using q2
    have r3' : (t.kd == 3) = true := by simpa using q3
    clear q1 q2 q3 hby
    go_enter Tryz.func75, Tryz.ntmps75
    go_wp2
    go_ret
    exact ⟨by rw [E.out]; rfl, below_new _ _⟩
  have E : Hid (formV t a c = .iface 159 (.agg #[])) := Hid.mk' (by unfold formV; rw [if_neg q1, if_neg q2, if_neg q3])
  have r1 : (t.kd == 1) = false := by simpa using q1
  have r2 : (t.kd == 2) = false := by simpa using q2
  have r3' : (t.kd == 3) = false := by simpa using q3
  clear q1 q2 q3 hby
  go_enter Tryz.func75, Tryz.ntmps75
  go_wp2
  go_ret
  exact ⟨by rw [E.out]; rfl, below_new _ _⟩

set_option maxRecDepth 100000 in
set_option maxHeartbeats 3200000 in
theorem putI_any (w0 : World) (lo g : Nat) (s : BS) (t : TK) (a : Option Addr) (c : Nat) (w : World) (h : ZB true 117 w0 lo g s w) (hs : GS s) (hlg : s.lg = false) (hlo : lo = w0.heap.size) (ha : AAt w0 a t.at_) (hn : (t.nm.size : Int) ≤ 1048576) (hl : (t.at_.length : Int) + asz t.at_ ≤ 1048576) :
    Calls Tryz.prog 74 #[.pointer (some ⟨g, 0, none⟩), formV t a c] w fun e w' => (∃ v, e = .returned v) ∧ ZB true 117 w0 lo g (putX s t) w' := by
  have HZ := Hid.mk' h
  have HS := Hid.mk' hs
  by_cases q1 : t.kd = 1
  · have E := Hid.mk' (putX_byte hlg q1)
    have EF : formV t a c = .iface 150 (.agg #[.int .u8 t.by_]) := by unfold formV; rw [if_pos q1]
    rw [EF]
    have N1 := below_new w (.cells #[.int .u8 t.by_] 150)
    have KB := Hid.mk' (byteI_any w0 lo g s t.by_ _ (HZ.out.below N1) HS.out)
    have hta := ta_byte (.agg #[.int .u8 t.by_])
    clear EF N1 q1 h hs ha hlo hlg
    go_enter Tryz.func74, Tryz.ntmps74
    go_wp2_with fail
    refine KB.out.mono ?_
    rintro e w1 ⟨⟨v9, rfl⟩, hz1⟩
    have HZ1 := Hid.mk' hz1
    clear hz1 KB
    go_wp2
    go_end0
    exact ⟨⟨_, rfl⟩, by rw [E.out]; exact HZ1.out⟩
  by_cases q2 : t.kd = 2
  · have E := Hid.mk' (putX_start hlg q2)
    have EF : formV t a c = .iface 153 (.agg #[.string t.nm, .slice a t.at_.length c, .bool t.sh]) := by unfold formV; rw [if_neg q1, if_pos q2]
    rw [EF]
    have N1 := below_new w (.cells #[.string t.nm, .slice a t.at_.length c, .bool t.sh] 153)
    have KB := Hid.mk' (startI_any w0 lo g s t a c _ (HZ.out.below N1) HS.out hlg hlo ha hn hl)
    have hta := ta_start (.agg #[.string t.nm, .slice a t.at_.length c, .bool t.sh])
    have htn := ta_nbyte 153 (by decide) (.agg #[.string t.nm, .slice a t.at_.length c, .bool t.sh])
    clear EF N1 q1 q2 h hs ha hlo hlg
    go_enter Tryz.func74, Tryz.ntmps74
    go_wp2_with fail
    refine KB.out.mono ?_
    rintro e w1 ⟨⟨v9, rfl⟩, hz1⟩
    have HZ1 := Hid.mk' hz1
    clear hz1 KB
    go_wp2
    go_end0
    exact ⟨⟨_, rfl⟩, by rw [E.out]; exact HZ1.out⟩
  by_cases q3 : t.kd = 3
  · have E := Hid.mk' (putX_end hlg q3)
    have EF : formV t a c = .iface 156 (.agg #[.string t.nm]) := by unfold formV; rw [if_neg q1, if_neg q2, if_pos q3]
    rw [EF]
    have N1 := below_new w (.cells #[.string t.nm] 156)
    have KB := Hid.mk' (closeI_any w0 lo g s t.nm _ (HZ.out.below N1))
    have hta := ta_end (.agg #[.string t.nm])
    have htn := ta_nbyte 156 (by decide) (.agg #[.string t.nm])
    have htm := ta_nstart 156 (by decide) (.agg #[.string t.nm])
    clear EF N1 q1 q2 q3 h hs ha hlo hlg
    go_enter Tryz.func74, Tryz.ntmps74
    go_wp2_with fail
    refine KB.out.mono ?_
    rintro e w1 ⟨⟨v9, rfl⟩, hz1⟩
    have HZ1 := Hid.mk' hz1
    clear hz1 KB
    go_wp2
    go_end0
    exact ⟨⟨_, rfl⟩, by rw [E.out]; exact HZ1.out⟩
  have E := Hid.mk' (putX_note hlg q1 q2 q3)
  have EF : formV t a c = .iface 159 (.agg #[]) := by unfold formV; rw [if_neg q1, if_neg q2, if_neg q3]
  rw [EF]
  have HN := Hid.mk' (HZ.out.below (below_new w (.cells #[] 159)))
  have hta := ta_note (.agg #[])
  have htn := ta_nbyte 159 (by decide) (.agg #[])
  have htm := ta_nstart 159 (by decide) (.agg #[])
  have hto := ta_nend 159 (by decide) (.agg #[])
  clear EF q1 q2 q3 h hs ha hlo hlg
  go_enter Tryz.func74, Tryz.ntmps74
  go_wp2
  go_end0
  exact ⟨⟨_, rfl⟩, by rw [E.out]; exact HN.out⟩

/-- Of a token without a fault the byte is one. -/
theorem tf_byte {t : TK} (h : tfault t = 0) : 0 ≤ t.by_ ∧ t.by_ ≤ 255 := by
  unfold tfault at h
  split at h
  · split at h
    · assumption
    · exact absurd h (by decide)
  · exact absurd h (by decide)

set_option maxRecDepth 100000 in
set_option maxHeartbeats 3200000 in
theorem take_any (w0 : World) (lo g : Nat) (s : BS) (t : TK) (a : Option Addr) (c : Nat) (w : World) (h : ZB true 117 w0 lo g s w) (hs : GS s) (hlo : lo = w0.heap.size) (ha : AAt w0 a t.at_) (hn : (t.nm.size : Int) ≤ 1048576) (hl : (t.at_.length : Int) + asz t.at_ ≤ 1048576) :
    Calls Tryz.prog 42 #[.pointer (some ⟨g, 0, none⟩), .agg #[.int .i64 t.kd, .int .i64 t.by_, .string t.nm, .slice a t.at_.length c, .bool t.sh]] w fun e w' => e = .returned (.int .i64 (tfault t)) ∧ ZB true 117 w0 lo g (if tfault t = 0 then putX s t else s) w' := by
  have N0 := below_new w (.cells #[.int .i64 t.kd, .int .i64 t.by_, .string t.nm, .slice a t.at_.length c, .bool t.sh] 40)
  have Z0 := h.below N0
  have hb0 : Below w0.heap.size w0 (w.alloc (.cells #[.int .i64 t.kd, .int .i64 t.by_, .string t.nm, .slice a t.at_.length c, .bool t.sh] 40)) := by
    obtain ⟨_, _, _, _, _, _, hz⟩ := Z0; rw [← hlo]; exact hz.bl
  have KF := implTF_any t a c _ (ha.below hb0) hn hl
  have RB := Hid.mk' (row5 w 40 (.int .i64 t.kd) (.int .i64 t.by_) (.string t.nm) (.slice a t.at_.length c) (.bool t.sh))
  have HZ := Hid.mk' Z0
  have HS := Hid.mk' hs
  have HA := Hid.mk' ha
  have HL := Hid.mk' hlo
  clear h hs N0 Z0 hb0 ha hlo
  generalize hW : w.alloc (.cells #[.int .i64 t.kd, .int .i64 t.by_, .string t.nm, .slice a t.at_.length c, .bool t.sh] 40) = W at *
  obtain ⟨d0, d1, d2, d3, d4, d5⟩ := cells5 RB.out
  by_cases h0 : tfault t = 0
  rotate_left
  · rw [if_neg h0]
    have KF := Hid.mk' KF
    generalize tfault t = tf at *
    go_enter Tryz.func42, Tryz.ntmps42
    go_wp2_with fail
    clear hW
    refine KF.out.mono ?_
    rintro e w1 ⟨rfl, hb⟩
    have HZ1 := Hid.mk' (HZ.out.below hb)
    clear hb KF
    go_wp2
    go_ret
    exact ⟨rfl, HZ1.out⟩
  rw [if_pos h0]
  rw [h0] at KF ⊢
  have KF := Hid.mk' KF
  have BY := Hid.mk' (tf_byte h0)
  clear h0
  go_enter Tryz.func42, Tryz.ntmps42
  go_wp2_with fail
  clear hW
  refine KF.out.mono ?_
  rintro e w1 ⟨rfl, hb⟩
  have HZ1 := Hid.mk' (HZ.out.below hb)
  have RB1 := Hid.mk' (rowB RB.out hb)
  clear hb KF d0 d1 d2 d3 d4 d5
  obtain ⟨d0, d1, d2, d3, d4, d5⟩ := cells5 RB1.out
  obtain ⟨τ, vn, vo, va, vt, us, hz⟩ := HZ1.out
  obtain ⟨po, eo⟩ := OE.ptr hz.op
  subst eo
  obtain ⟨pn, cn, en, _⟩ := own_len hz.ns.row
  subst en
  obtain ⟨c0, c1, c2, c3⟩ := cells3 hz.box
  clear hz
  cases hlg : s.lg with
  | true =>
    have E := Hid.mk' (putX_large (t := t) hlg)
    rw [hlg] at c2
    clear hlg
    go_wp2
    go_ret
    exact ⟨rfl, by rw [E.out]; exact HZ1.out⟩
  | false =>
    have LG := Hid.mk' hlg
    rw [hlg] at c2
    clear hlg
    have KO := Hid.mk' (formOf_any t a c w1 (fun _ => BY.out))
    go_wp2_with fail
    refine KO.out.mono ?_
    rintro e w2 ⟨rfl, hb⟩
    have KP := Hid.mk' (putI_any w0 lo g s t a c w2 (HZ1.out.below hb) HS.out LG.out HL.out HA.out hn hl)
    generalize formV t a c = fv at *
    clear hb KO
    go_wp2_with fail
    refine KP.out.mono ?_
    rintro e w3 ⟨⟨v9, rfl⟩, hz3⟩
    have HZ3 := Hid.mk' hz3
    clear hz3 KP
    go_wp2
    go_ret
    exact ⟨rfl, HZ3.out⟩

end Go.Proofs.YtpcpnfpnkkjkcaaGreat

/- The program's state: places, the outermost first. -/
namespace Go.Proofs.YtpcpnfpnkkjkcaaGreat
open Go.RowKit
set_option linter.unusedVariables false
set_option linter.unusedSimpArgs false

theorem wv_rev {l : List Int} {x : Nat} (h : x < l.length) : wv l.reverse x = wv l (l.length - 1 - x) := by
  unfold wv
  rw [List.getD_eq_getElem?_getD, List.getElem?_reverse h, ← List.getD_eq_getElem?_getD]

/-- A row of which k at either end are turned round. -/
def revF (l : List Int) (f : Nat → Value) (k x : Nat) : Value := if x < l.length ∧ (x < k ∨ l.length - 1 - x < k) then .int .i64 (wv l (l.length - 1 - x)) else f x

theorem revF_zero (l : List Int) (f : Nat → Value) (x : Nat) : revF l f 0 x = f x := by unfold revF; rw [if_neg (by omega)]

set_option maxRecDepth 100000 in
set_option maxHeartbeats 6400000 in
theorem reverse_any (v : Value) (l : List Int) (w : World) (h : OI w v l) (hl : (l.length : Int) ≤ 1048576) :
    Calls Tryz.prog 108 #[v] w fun e w' => (∃ u, e = .returned u) ∧ OI w' v l.reverse ∧ Turned v w w' := by
  rcases h with ⟨rfl, rfl⟩ | ⟨g, cap, cn, f, rfl, hr, hle, hf⟩
  · go_enter Tryz.func108, Tryz.ntmps108
    go_wp2
    go_loopw [2, 3] (fun i j wr => i = .int .i64 0 ∧ j = .int .i64 (-1) ∧ wr = w) (fun _ _ _ => 0)
    case atStart => exact ⟨rfl, rfl, rfl⟩
    case round =>
      obtain ⟨rfl, rfl, rfl⟩ := hrel
      go_wp2
      go_end0
      exact ⟨⟨_, rfl⟩, .inl ⟨rfl, rfl⟩, Turned.refl _ _⟩
  have HF := Hid.mk' hf
  clear hf
  go_enter Tryz.func108, Tryz.ntmps108
  go_wp2
  go_loopw [2, 3] (fun i j wr => ∃ k : Nat, k ≤ l.length ∧ i = .int .i64 k ∧ j = .int .i64 ((l.length : Int) - 1 - (k : Int)) ∧ wr.rowIs g 2 cn (revF l f k) ∧ KeptIn g (g + 1) w wr) (fun i _ _ => l.length - (intOf i).toNat)
  case atStart => exact ⟨0, Nat.zero_le _, rfl, by congr 1; omega, hr.congr (fun x _ => (revF_zero l f x).symm), KeptIn.refl _ _ _⟩
  case round =>
    obtain ⟨k, hk, rfl, rfl, hrow, hkp⟩ := hrel
    by_cases hlt : 2 * k + 1 < l.length
    · obtain ⟨q, hq⟩ : ∃ q : Nat, l.length - 1 - k = q := ⟨_, rfl⟩
      have hq' : (l.length : Int) - 1 - (k : Int) = (q : Int) := by omega
      rw [hq']
      have c1 : (k : Int) < (q : Int) := by omega
      have c2 : (k : Int) < (l.length : Int) := by omega
      have c3 : (q : Int) < (l.length : Int) := by omega
      have e1 : revF l f k k = .int .i64 (wv l k) := by unfold revF; rw [if_neg (by omega)]; exact HF.out k (by omega)
      have e2 : revF l f k q = .int .i64 (wv l q) := by unfold revF; rw [if_neg (by omega)]; exact HF.out q (by omega)
      have x1 : wr.cell? ⟨g, k, none⟩ = some (.int .i64 (wv l k)) := by rw [hrow.cell (by omega), e1]
      have x2 : wr.cell? ⟨g, q, none⟩ = some (.int .i64 (wv l q)) := by rw [hrow.cell (by omega), e2]
      have f1 := hrow.frozen k
      have f2 := hrow.frozen q
      have kq : ¬ k = q := by omega
      have qk : ¬ q = k := by omega
      have CG : ∀ x, x < cn → (if x = q then .int .i64 (wv l k) else if x = k then .int .i64 (wv l q) else revF l f k x) = revF l f (k + 1) x := fun x hx => by
        by_cases a1 : x = q
        · rw [if_pos a1]; unfold revF; rw [if_pos (by omega), show l.length - 1 - x = k by omega]
        · rw [if_neg a1]
          by_cases a2 : x = k
          · rw [if_pos a2]; unfold revF; rw [if_pos (by omega), show l.length - 1 - x = q by omega]
          · rw [if_neg a2]; unfold revF
            by_cases a3 : x < l.length ∧ (x < k ∨ l.length - 1 - x < k)
            · rw [if_pos a3, if_pos (by omega)]
            · rw [if_neg a3, if_neg (by omega)]
      have R1 := Hid.mk' (((hrow.set k (.int .i64 (wv l q))).set q (.int .i64 (wv l k))).congr (g := revF l f (k + 1)) CG)
      have K1 := Hid.mk' ((hkp.setCell (p := ⟨g, k, none⟩) (Nat.le_refl _) (Nat.lt_succ_self _) (.int .i64 (wv l q))).setCell (p := ⟨g, q, none⟩) (Nat.le_refl _) (Nat.lt_succ_self _) (.int .i64 (wv l k)))
      have NQ_ : Hid ((l.length : Int) - 1 - ((k + 1 : Nat) : Int) = (q : Int) - 1) := Hid.mk' (by omega)
      clear hrow CG e1 e2 hq hq' hkp
      generalize wv l k = A at *
      generalize wv l q = B at *
      go_wp2
      go_region
      have RR := Hid.mk' (R1.out.of_block (w' := (((wr.setCell ⟨g, k, none⟩ (.int .i64 B)).setCell ⟨g, q, none⟩ (.int .i64 A)).drew)) rfl)
      have KR := Hid.mk' (K1.out.trans (KeptIn.of_below (lo := g) (hi := g + 1) (Below.refl _ _).drew))
      go_wp2
      go_roundw
      case rel => exact ⟨k + 1, by omega, by go_num, by congr 1; have := NQ_.out; omega, RR.out, KR.out⟩
      case measure => simp [intOf]; omega
    · obtain ⟨hx⟩ : Nonempty (¬ (k : Int) < (l.length : Int) - 1 - (k : Int)) := ⟨by omega⟩
      have HO : Hid (OI wr (.slice (some ⟨g, 0, none⟩) l.length cap) l.reverse) := Hid.mk' (.inr ⟨g, cap, cn, _, by rw [List.length_reverse], hrow, by rw [List.length_reverse]; exact hle, fun i hi => by
        rw [List.length_reverse] at hi
        rw [wv_rev hi]
        unfold revF
        by_cases a3 : i < l.length ∧ (i < k ∨ l.length - 1 - i < k)
        · rw [if_pos a3]
        · rw [if_neg a3, HF.out i hi, show l.length - 1 - i = i by omega]⟩)
      have HT := Hid.mk' (Turned.of_kept (n := l.length) (c := cap) hkp)
      clear hrow hkp
      go_wp2
      go_end0
      exact ⟨⟨_, rfl⟩, HO.out, HT.out⟩

end Go.Proofs.YtpcpnfpnkkjkcaaGreat
