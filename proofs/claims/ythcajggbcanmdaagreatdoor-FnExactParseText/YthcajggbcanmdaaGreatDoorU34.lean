/- A start is put: the model's l7Start, the program's putStart. -/
import Derived.Test.YthcajggbcanmdaaGreatDoorU32
import Derived.Test.YthcajggbcanmdaaGreatDoorU33
set_option linter.unusedVariables false
set_option linter.unusedSimpArgs false
namespace Go.Proofs.YthcajggbcanmdaaGreatDoor
open Go.RowKit

theorem startX_deep {s : BS} {nm : ByteArray} {at_ : List AT} {sh : Bool} (h : 7 ≤ (start0 s nm).op.length) : startX s nm at_ sh = start0 s nm := by unfold startX; rw [if_pos h]
theorem startX_put {s : BS} {nm : ByteArray} {at_ : List AT} {sh : Bool} (h : ¬ 7 ≤ (start0 s nm).op.length) : startX s nm at_ sh = openX (addX (start0 s nm) nm at_ []) nm sh (start0 s nm).nd.length := by unfold startX; rw [if_neg h]
theorem openX_no {s : BS} {nm : ByteArray} {sh : Bool} {n : Nat} (h : ¬ (s.lg = false ∧ voidB nm = false ∧ sh = false)) : openX s nm sh n = s := by unfold openX; rw [if_neg h]
theorem openX_yes {s : BS} {nm : ByteArray} {sh : Bool} {n : Nat} (h1 : s.lg = false) (h2 : voidB nm = false) (h3 : sh = false) : openX s nm sh n = ⟨s.nd, s.op ++ [(n : Int)], s.lg⟩ := by unfold openX; rw [if_pos ⟨h1, h2, h3⟩]
theorem add_len {s : BS} {tg : ByteArray} {at_ : List AT} {tx : List Int} (h : (addX s tg at_ tx).lg = false) : (addX s tg at_ tx).nd.length = s.nd.length + 1 := by
  unfold addX at h ⊢
  by_cases h6 : 60 ≤ s.nd.length
  · rw [if_pos h6] at h; simp [bigS] at h
  · rw [if_neg h6]; simp
theorem p_list : (⟨#[112]⟩ : ByteArray).toList = [112] := by rw [toList_data]

theorem ZS.fresh {im : Bool} {Tb : TypeId} {w0 : World} {lo g : Nat} {s : BS} {w w' : World} {τ : Nat → Nat} {vn vo : Value} {va vt : Nat → Value} {us : Nat → List Value} (h : ZS im Tb w0 lo g s w τ vn vo va vt us) (hb : Below w.heap.size w w') : ∃ τ', ZS im Tb w0 lo g s w' τ' vn vo va vt us ∧ ∀ k, w.heap.size ≤ k → τ' k = 2 := by
  have ht : ∀ k, k < w.heap.size → (fun k => if k < w.heap.size then τ k else 2) k = τ k := fun k hk => if_pos hk
  refine ⟨fun k => if k < w.heap.size then τ k else 2, ⟨rowB h.box hb, (h.ns.relabel (fun k _ hk => ht k hk)).below hb, h.op.move (fun k hk _ => hb.block k hk) ht, (ht g h.box.lt).trans h.gl, h.bl.trans (hb.mono h.sz), Nat.le_trans h.sz hb.size, h.glo⟩, fun k hk => if_neg (by omega)⟩

end Go.Proofs.YthcajggbcanmdaaGreatDoor

namespace Go.Proofs.YthcajggbcanmdaaGreatDoor
open Go.RowKit

set_option maxRecDepth 100000 in
set_option maxHeartbeats 12800000 in
theorem startI_any (w0 : World) (lo g : Nat) (s : BS) (t : TK) (a : Option Addr) (c : Nat) (w : World) (h : ZB true 138 w0 lo g s w) (hs : GS s) (hlg : s.lg = false) (hlo : lo = w0.heap.size) (ha : AAt w0 a t.at_) (hn : (t.nm.size : Int) ≤ 1048576) (hl : (t.at_.length : Int) + asz t.at_ ≤ 1048576) :
    Calls Tryz.prog 147 #[.pointer (some ⟨g, 0, none⟩), .agg #[.string t.nm, .slice a t.at_.length c, .bool t.sh]] w fun e w' => (∃ v, e = .returned v) ∧ ZB true 138 w0 lo g (startX s t.nm t.at_ t.sh) w' := by
  subst hlo
  have HA : Hid (∀ W, Below w0.heap.size w0 W → AAt W a t.at_) := fun W hb => ha.below hb
  obtain ⟨τ0, vn, vo, va, vt, us, hz0⟩ := h
  have N0 := below_new w (.cells #[.string t.nm, .slice a t.at_.length c, .bool t.sh] 179)
  obtain ⟨τ, hz, hfr⟩ := hz0.fresh N0
  have RF0 := Hid.mk' (row3 w 179 (.string t.nm) (.slice a t.at_.length c) (.bool t.sh))
  have F2 : Hid (τ w.heap.size = 2) := Hid.mk' (hfr _ (Nat.le_refl _))
  have gw : ¬ w.heap.size = g := fun e => by have := hz0.box.lt; omega
  have GS0 := Hid.mk' (gs_start0 hs t.nm)
  have LG0 := Hid.mk' ((start0_nd s t.nm).2.trans hlg)
  have HZ := Hid.mk' hz
  clear ha hz hz0 hs N0 hfr
  generalize hfb : w.heap.size = fb at *
  generalize hW0 : w.alloc (.cells #[.string t.nm, .slice a t.at_.length c, .bool t.sh] 179) = W0 at *
  obtain ⟨d0, d1, d2, d3⟩ := cells3 RF0.out
  cases hp : (t.nm.toList == [112]) with
  | true =>
    have E0 : Hid (start0 s t.nm = closeX s t.nm) := Hid.mk' (by unfold start0 pBt; rw [hp, if_pos rfl])
    have KC := Hid.mk' (closeIF_any w0 w0.heap.size g s t.nm W0 τ vn vo va vt us HZ.out)
    rw [← E0.out] at KC
    go_enter Tryz.func147, Tryz.ntmps147
    go_wp2_with fail
    clear hW0
    refine KC.out.mono ?_
    rintro e W ⟨⟨v9, rfl⟩, ⟨vo1, hz1⟩, hk1⟩
    have HZ1 := Hid.mk' hz1
    have RF := Hid.mk' (RF0.out.of_block (hk1.block fb d3 gw))
    clear hz1 KC d0 d1 d2 d3 hk1
    obtain ⟨d0, d1, d2, d3⟩ := cells3 RF.out
    obtain ⟨s1, hs1⟩ : ∃ s1, start0 s t.nm = s1 := ⟨_, rfl⟩
    have ES := Hid.mk' hs1
    rw [hs1] at HZ1 GS0 LG0
    clear hs1
    have n60 := GS0.out.n
    have o7 := GS0.out.o
    have KN := Hid.mk' (count_any τ w0.heap.size s1.nd s1.op s1.op.length vo1 W HZ1.out.op (by omega))
    obtain ⟨po, eo⟩ := OE.ptr HZ1.out.op
    subst eo
    obtain ⟨pn, cn, en, _⟩ := own_len HZ1.out.ns.row
    subst en
    obtain ⟨c0, c1, c2, c3⟩ := cells3 HZ1.out.box
    have HAA := Hid.mk' (HA.out W HZ1.out.bl)
    by_cases h7 : 7 ≤ s1.op.length
    · have E : Hid (startX s t.nm t.at_ t.sh = s1) := Hid.mk' (by rw [startX_deep (by rw [ES.out]; exact h7), ES.out])
      have h7' : (s1.op.length : Int) ≥ 7 := by omega
      clear HAA
      go_wp2_with fail
      try clear hW0
      refine KN.out.mono ?_
      rintro e w9 ⟨rfl, hw9⟩
      obtain rfl := hw9.symm
      go_wp2
      (try simp only [Exit.inBlock, Exit.then])
      refine bodyPost_ret (results_none rfl _ _ _) rfl ?_
      exact ⟨⟨_, rfl⟩, by rw [E.out]; exact HZ1.out.zb⟩
    have EP : Hid (startX s t.nm t.at_ t.sh = openX (addX s1 t.nm t.at_ []) t.nm t.sh s1.nd.length) := Hid.mk' (by rw [startX_put (by rw [ES.out]; exact h7), ES.out])
    have h7' : ¬ (s1.op.length : Int) ≥ 7 := by omega
    clear h7
    go_wp2_with fail
    try clear hW0
    refine KN.out.mono ?_
    rintro e w9 ⟨rfl, hw9⟩
    obtain rfl := hw9.symm
    clear KN
    go_wp2_with fail
    refine wp_region_held_drew (S := fun w' => w'.cell? ⟨fb, 0, none⟩ = some (.string t.nm) ∧ w'.cell? ⟨fb, 1, none⟩ = some (.slice a t.at_.length c)) (by kernel_rfl) (by simp [*]) (fun hHeld => ?_)
    refine wpAnyH_take (i := 0) (oi := ⟨_, _, _, _, _, _⟩) (v := ?_) rfl (by kernel_rfl) (by kernel_rfl) (by kernel_rfl) (fun _ _ _ h => h) (Or.inl ⟨by rfl, ?_⟩) (by assumption) ?_
    rotate_left
    · (intro w hSw; (try dsimp only at hSw); go_simp; (try with_reducible rfl))
    try simp only [Act.put, zA, zB, zC]
    refine wpAnyH_take (i := 1) (oi := ⟨_, _, _, _, _, _⟩) (v := ?_) rfl (by kernel_rfl) (by kernel_rfl) (by kernel_rfl) (fun _ _ _ h => h) (Or.inl ⟨by rfl, ?_⟩) (by assumption) ?_
    rotate_left
    · (intro w hSw; (try dsimp only at hSw); go_simp; (try with_reducible rfl))
    try simp only [Act.put, zA, zB, zC]
    refine wpAnyH_take (i := 2) (oi := ⟨_, _, _, _, _, _⟩) (v := ?_) rfl (by kernel_rfl) (by kernel_rfl) (by kernel_rfl) (fun _ _ _ h => h) (Or.inl ⟨by rfl, ?_⟩) (by assumption) ?_
    rotate_left
    · (intro w hSw; (try dsimp only at hSw); go_simp; (try with_reducible rfl))
    try simp only [Act.put, zA, zB, zC]
    refine wpAnyH_take (i := 4) (oi := ⟨_, _, _, _, _, _⟩) (v := ?_) rfl (by kernel_rfl) (by kernel_rfl) (by kernel_rfl) (fun _ _ _ h => h) (Or.inl ⟨by rfl, ?_⟩) (by assumption) ?_
    rotate_left
    · (intro w hSw; (try dsimp only at hSw); go_simp; (try with_reducible rfl))
    try simp only [Act.put, zA, zB, zC]
    refine wpAnyH_take (i := 5) (oi := ⟨_, _, _, _, _, _⟩) (v := ?_) rfl (by kernel_rfl) (by kernel_rfl) (by kernel_rfl) (fun _ _ _ h => h) (Or.inl ⟨by rfl, ?_⟩) (by assumption) ?_
    rotate_left
    · (intro w hSw; (try dsimp only at hSw); go_simp; (try with_reducible rfl))
    try simp only [Act.put, zA, zB, zC]
    refine wpAnyH_ready (rs := [3]) (by kernel_rfl) (by simp) ?_
    refine AllReadyH.cons (o := ⟨_, _, _, _, _, _⟩) rfl (fun K hK => ?_) AllReadyH.nil
    go_simp
    go_at_call 140
    refine (cloneS_any t.nm W.drew (by omega)).mono ?_
    rintro e w1 ⟨rfl, hb1⟩
    replace hb1 := undrew hb1
    have B1 := Hid.mk' hb1
    have y0 := (hb1.cell d3).trans d0
    have y1 := (hb1.cell d3).trans d1
    have y9 := Nat.lt_of_lt_of_le d3 hb1.size
    clear hb1
    refine hK.out _ _ ⟨y0, y1⟩ (fun hHeld => ?_)
    clear hK K
    try simp only [Act.put, zA, zB, zC]
    refine wpAnyH_ready (rs := [6]) (by kernel_rfl) (by simp) ?_
    refine AllReadyH.cons (o := ⟨_, _, _, _, _, _⟩) rfl (fun K hK => ?_) AllReadyH.nil
    go_simp
    go_at_call 141
    refine (copyAttrs_own a c t.at_ w1 (HAA.out.below B1.out) (by omega)).mono ?_
    rintro e w2 ⟨va_, us_, rfl, hoa, hb2⟩
    obtain ⟨pa, ca, ea, _⟩ := own_len hoa.row
    subst ea
    have B2 := Hid.mk' (B1.out.trans (hb2.mono B1.out.size))
    have L1 : Hid (W.heap.size ≤ w1.heap.size) := Hid.mk' B1.out.size
    have HOA := Hid.mk' hoa
    have z0 := (hb2.cell y9).trans y0
    have z1 := (hb2.cell y9).trans y1
    have RF2 := Hid.mk' (rowB RF.out B2.out)
    clear hb2 hoa
    refine hK.out _ _ ⟨z0, z1⟩ (fun hHeld => ?_)
    clear hK K
    try simp only [Act.put, zA, zB, zC]
    refine wpAnyH_take (i := 7) (oi := ⟨_, _, _, _, _, _⟩) (v := ?_) rfl (by kernel_rfl) (by kernel_rfl) (by kernel_rfl) (fun _ _ _ h => h) (Or.inl ⟨by rfl, ?_⟩) (by assumption) ?_
    rotate_left
    · (intro w hSw; (try dsimp only at hSw); go_simp; (try with_reducible rfl))
    try simp only [Act.put, zA, zB, zC]
    refine wpAnyH_ready (rs := [8]) (by kernel_rfl) (by simp) ?_
    refine AllReadyH.cons (o := ⟨_, _, _, _, _, _⟩) rfl (fun K hK => ?_) AllReadyH.nil
    go_simp
    go_at_call 174
    refine (addIF_any w0 w0.heap.size g s1 W τ _ _ va vt us HZ1.out GS0.out w1.heap.size t.nm t.at_ [] (.slice pa t.at_.length ca) (.slice none 0 0) us_ 0 w2 B2.out HOA.out L1.out ⟨rfl, .inl ⟨rfl, rfl⟩⟩ (fun k e => by simp [Value.ownBlock] at e)).mono ?_
    rintro e w3 ⟨⟨v8, rfl⟩, hz3, hkf⟩
    have HZ3 := Hid.mk' hz3
    have RF3 := Hid.mk' (RF2.out.of_block (hkf.block fb RF2.out.lt ⟨F2.out, gw⟩))
    obtain ⟨j0, j1, j2, j3⟩ := cells3 RF3.out
    clear hz3 hkf
    refine hK.out _ _ ⟨j0, j1⟩ (fun hHeld => ?_)
    clear hK K
    try simp only [Act.put, zA, zB, zC]
    refine wpAnyH_done (by kernel_rfl) ?_ _
    have GS3 := Hid.mk' (gs_add GS0.out LG0.out (tg := t.nm) (at_ := t.at_) (tx := []) (by simp))
    have AL : Hid ((addX s1 t.nm t.at_ []).lg = false → (addX s1 t.nm t.at_ []).nd.length = s1.nd.length + 1) := Hid.mk' (fun h => add_len h)
    obtain ⟨s3, hs3⟩ : ∃ s3, addX s1 t.nm t.at_ [] = s3 := ⟨_, rfl⟩
    rw [hs3] at HZ3 EP GS3 AL
    clear hs3
    obtain ⟨τ4, vn4, vo4, va4, vt4, us4, hz4⟩ := HZ3.out
    obtain ⟨po4, eo4⟩ := OE.ptr hz4.op
    subst eo4
    obtain ⟨pn4, cn4, en4, _⟩ := own_len hz4.ns.row
    subst en4
    clear c0 c1 c2 c3 d0 d1 d2 d3
    obtain ⟨c0, c1, c2, c3⟩ := cells3 hz4.box
    have KV := implVoid_any t.nm w3
    clear hz4
    cases hl3 : s3.lg with
    | true =>
      have E : Hid (startX s t.nm t.at_ t.sh = s3) := Hid.mk' (by rw [EP.out]; exact openX_no (by rw [hl3]; simp))
      rw [hl3] at c2
      clear hl3 KV
      go_wp2_with (first | go_big_skip)
      go_end0
      exact ⟨⟨_, rfl⟩, by rw [E.out]; exact HZ3.out⟩
    | false =>
      have L3 := Hid.mk' hl3
      rw [hl3] at c2
      clear hl3
      cases hsh : t.sh with
      | true =>
        have E : Hid (startX s t.nm t.at_ t.sh = s3) := Hid.mk' (by rw [EP.out]; exact openX_no (by rw [hsh]; simp))
        rw [hsh] at j2
        clear hsh KV
        go_wp2_with (first | go_big_skip)
        go_end0
        exact ⟨⟨_, rfl⟩, by rw [E.out]; exact HZ3.out⟩
      | false =>
        have SH := Hid.mk' hsh
        rw [hsh] at j2
        clear hsh
        cases hv : voidB t.nm with
        | true =>
          have E : Hid (startX s t.nm t.at_ t.sh = s3) := Hid.mk' (by rw [EP.out]; exact openX_no (by rw [hv]; simp))
          rw [hv] at KV
          have KV := Hid.mk' KV
          clear hv
          go_wp2_with (first | go_big_skip | (go_at_call 170; refine KV.out.mono ?_; rintro e w9 ⟨rfl, hw9⟩; obtain rfl := hw9.symm))
          go_end0
          exact ⟨⟨_, rfl⟩, by rw [E.out]; exact HZ3.out⟩
        | false =>
          have E : Hid (startX s t.nm t.at_ t.sh = ⟨s3.nd, s3.op ++ [(s1.nd.length : Int)], s3.lg⟩) := Hid.mk' (by rw [EP.out]; exact openX_yes L3.out hv SH.out)
          rw [hv] at KV
          have KV := Hid.mk' KV
          clear hv
          have al := AL.out L3.out
          have KO := Hid.mk' (openI_any w0 w0.heap.size g s3 s1.nd.length w3 HZ3.out (by omega) GS3.out)
          have hm1 : (s3.nd.length : Int) - 1 = (s1.nd.length : Int) := by omega
          have ALH := Hid.mk' al
          clear al AL
          go_wp2_with (first | go_big_skip | (go_at_call 170; refine KV.out.mono ?_; rintro e w9 ⟨rfl, hw9⟩; obtain rfl := hw9.symm))
          refine KO.out.mono ?_
          rintro e w4 ⟨⟨v7, rfl⟩, hz5⟩
          have HZ5 := Hid.mk' hz5
          clear hz5 KO
          go_wp2
          go_end0
          exact ⟨⟨_, rfl⟩, by rw [E.out]; exact HZ5.out⟩
  | false =>
    have E0 : Hid (start0 s t.nm = s) := Hid.mk' (by unfold start0 pBt; rw [hp]; rfl)
    obtain ⟨vo1, hvo⟩ : ∃ v, v = vo := ⟨_, rfl⟩
    have HZ1 : Hid (ZS true 138 w0 w0.heap.size g (start0 s t.nm) W0 τ vn vo1 va vt us) := Hid.mk' (by rw [E0.out, hvo]; exact HZ.out)
    have RF := RF0
    clear hvo
    go_enter Tryz.func147, Tryz.ntmps147
    obtain ⟨s1, hs1⟩ : ∃ s1, start0 s t.nm = s1 := ⟨_, rfl⟩
    have ES := Hid.mk' hs1
    rw [hs1] at HZ1 GS0 LG0
    clear hs1
    have n60 := GS0.out.n
    have o7 := GS0.out.o
    have KN := Hid.mk' (count_any τ w0.heap.size s1.nd s1.op s1.op.length vo1 W0 HZ1.out.op (by omega))
    obtain ⟨po, eo⟩ := OE.ptr HZ1.out.op
    subst eo
    obtain ⟨pn, cn, en, _⟩ := own_len HZ1.out.ns.row
    subst en
    obtain ⟨c0, c1, c2, c3⟩ := cells3 HZ1.out.box
    have HAA := Hid.mk' (HA.out W0 HZ1.out.bl)
    by_cases h7 : 7 ≤ s1.op.length
    · have E : Hid (startX s t.nm t.at_ t.sh = s1) := Hid.mk' (by rw [startX_deep (by rw [ES.out]; exact h7), ES.out])
      have h7' : (s1.op.length : Int) ≥ 7 := by omega
      clear HAA
      go_wp2_with fail
      try clear hW0
      refine KN.out.mono ?_
      rintro e w9 ⟨rfl, hw9⟩
      obtain rfl := hw9.symm
      go_wp2
      (try simp only [Exit.inBlock, Exit.then])
      refine bodyPost_ret (results_none rfl _ _ _) rfl ?_
      exact ⟨⟨_, rfl⟩, by rw [E.out]; exact HZ1.out.zb⟩
    have EP : Hid (startX s t.nm t.at_ t.sh = openX (addX s1 t.nm t.at_ []) t.nm t.sh s1.nd.length) := Hid.mk' (by rw [startX_put (by rw [ES.out]; exact h7), ES.out])
    have h7' : ¬ (s1.op.length : Int) ≥ 7 := by omega
    clear h7
    go_wp2_with fail
    try clear hW0
    refine KN.out.mono ?_
    rintro e w9 ⟨rfl, hw9⟩
    obtain rfl := hw9.symm
    clear KN
    go_wp2_with fail
    refine wp_region_held_drew (S := fun w' => w'.cell? ⟨fb, 0, none⟩ = some (.string t.nm) ∧ w'.cell? ⟨fb, 1, none⟩ = some (.slice a t.at_.length c)) (by kernel_rfl) (by simp [*]) (fun hHeld => ?_)
    refine wpAnyH_take (i := 0) (oi := ⟨_, _, _, _, _, _⟩) (v := ?_) rfl (by kernel_rfl) (by kernel_rfl) (by kernel_rfl) (fun _ _ _ h => h) (Or.inl ⟨by rfl, ?_⟩) (by assumption) ?_
    rotate_left
    · (intro w hSw; (try dsimp only at hSw); go_simp; (try with_reducible rfl))
    try simp only [Act.put, zA, zB, zC]
    refine wpAnyH_take (i := 1) (oi := ⟨_, _, _, _, _, _⟩) (v := ?_) rfl (by kernel_rfl) (by kernel_rfl) (by kernel_rfl) (fun _ _ _ h => h) (Or.inl ⟨by rfl, ?_⟩) (by assumption) ?_
    rotate_left
    · (intro w hSw; (try dsimp only at hSw); go_simp; (try with_reducible rfl))
    try simp only [Act.put, zA, zB, zC]
    refine wpAnyH_take (i := 2) (oi := ⟨_, _, _, _, _, _⟩) (v := ?_) rfl (by kernel_rfl) (by kernel_rfl) (by kernel_rfl) (fun _ _ _ h => h) (Or.inl ⟨by rfl, ?_⟩) (by assumption) ?_
    rotate_left
    · (intro w hSw; (try dsimp only at hSw); go_simp; (try with_reducible rfl))
    try simp only [Act.put, zA, zB, zC]
    refine wpAnyH_take (i := 4) (oi := ⟨_, _, _, _, _, _⟩) (v := ?_) rfl (by kernel_rfl) (by kernel_rfl) (by kernel_rfl) (fun _ _ _ h => h) (Or.inl ⟨by rfl, ?_⟩) (by assumption) ?_
    rotate_left
    · (intro w hSw; (try dsimp only at hSw); go_simp; (try with_reducible rfl))
    try simp only [Act.put, zA, zB, zC]
    refine wpAnyH_take (i := 5) (oi := ⟨_, _, _, _, _, _⟩) (v := ?_) rfl (by kernel_rfl) (by kernel_rfl) (by kernel_rfl) (fun _ _ _ h => h) (Or.inl ⟨by rfl, ?_⟩) (by assumption) ?_
    rotate_left
    · (intro w hSw; (try dsimp only at hSw); go_simp; (try with_reducible rfl))
    try simp only [Act.put, zA, zB, zC]
    refine wpAnyH_ready (rs := [3]) (by kernel_rfl) (by simp) ?_
    refine AllReadyH.cons (o := ⟨_, _, _, _, _, _⟩) rfl (fun K hK => ?_) AllReadyH.nil
    go_simp
    go_at_call 140
    refine (cloneS_any t.nm W0.drew (by omega)).mono ?_
    rintro e w1 ⟨rfl, hb1⟩
    replace hb1 := undrew hb1
    have B1 := Hid.mk' hb1
    have y0 := (hb1.cell d3).trans d0
    have y1 := (hb1.cell d3).trans d1
    have y9 := Nat.lt_of_lt_of_le d3 hb1.size
    clear hb1
    refine hK.out _ _ ⟨y0, y1⟩ (fun hHeld => ?_)
    clear hK K
    try simp only [Act.put, zA, zB, zC]
    refine wpAnyH_ready (rs := [6]) (by kernel_rfl) (by simp) ?_
    refine AllReadyH.cons (o := ⟨_, _, _, _, _, _⟩) rfl (fun K hK => ?_) AllReadyH.nil
    go_simp
    go_at_call 141
    refine (copyAttrs_own a c t.at_ w1 (HAA.out.below B1.out) (by omega)).mono ?_
    rintro e w2 ⟨va_, us_, rfl, hoa, hb2⟩
    obtain ⟨pa, ca, ea, _⟩ := own_len hoa.row
    subst ea
    have B2 := Hid.mk' (B1.out.trans (hb2.mono B1.out.size))
    have L1 : Hid (W0.heap.size ≤ w1.heap.size) := Hid.mk' B1.out.size
    have HOA := Hid.mk' hoa
    have z0 := (hb2.cell y9).trans y0
    have z1 := (hb2.cell y9).trans y1
    have RF2 := Hid.mk' (rowB RF.out B2.out)
    clear hb2 hoa
    refine hK.out _ _ ⟨z0, z1⟩ (fun hHeld => ?_)
    clear hK K
    try simp only [Act.put, zA, zB, zC]
    refine wpAnyH_take (i := 7) (oi := ⟨_, _, _, _, _, _⟩) (v := ?_) rfl (by kernel_rfl) (by kernel_rfl) (by kernel_rfl) (fun _ _ _ h => h) (Or.inl ⟨by rfl, ?_⟩) (by assumption) ?_
    rotate_left
    · (intro w hSw; (try dsimp only at hSw); go_simp; (try with_reducible rfl))
    try simp only [Act.put, zA, zB, zC]
    refine wpAnyH_ready (rs := [8]) (by kernel_rfl) (by simp) ?_
    refine AllReadyH.cons (o := ⟨_, _, _, _, _, _⟩) rfl (fun K hK => ?_) AllReadyH.nil
    go_simp
    go_at_call 174
    refine (addIF_any w0 w0.heap.size g s1 W0 τ _ _ va vt us HZ1.out GS0.out w1.heap.size t.nm t.at_ [] (.slice pa t.at_.length ca) (.slice none 0 0) us_ 0 w2 B2.out HOA.out L1.out ⟨rfl, .inl ⟨rfl, rfl⟩⟩ (fun k e => by simp [Value.ownBlock] at e)).mono ?_
    rintro e w3 ⟨⟨v8, rfl⟩, hz3, hkf⟩
    have HZ3 := Hid.mk' hz3
    have RF3 := Hid.mk' (RF2.out.of_block (hkf.block fb RF2.out.lt ⟨F2.out, gw⟩))
    obtain ⟨j0, j1, j2, j3⟩ := cells3 RF3.out
    clear hz3 hkf
    refine hK.out _ _ ⟨j0, j1⟩ (fun hHeld => ?_)
    clear hK K
    try simp only [Act.put, zA, zB, zC]
    refine wpAnyH_done (by kernel_rfl) ?_ _
    have GS3 := Hid.mk' (gs_add GS0.out LG0.out (tg := t.nm) (at_ := t.at_) (tx := []) (by simp))
    have AL : Hid ((addX s1 t.nm t.at_ []).lg = false → (addX s1 t.nm t.at_ []).nd.length = s1.nd.length + 1) := Hid.mk' (fun h => add_len h)
    obtain ⟨s3, hs3⟩ : ∃ s3, addX s1 t.nm t.at_ [] = s3 := ⟨_, rfl⟩
    rw [hs3] at HZ3 EP GS3 AL
    clear hs3
    obtain ⟨τ4, vn4, vo4, va4, vt4, us4, hz4⟩ := HZ3.out
    obtain ⟨po4, eo4⟩ := OE.ptr hz4.op
    subst eo4
    obtain ⟨pn4, cn4, en4, _⟩ := own_len hz4.ns.row
    subst en4
    clear c0 c1 c2 c3 d0 d1 d2 d3
    obtain ⟨c0, c1, c2, c3⟩ := cells3 hz4.box
    have KV := implVoid_any t.nm w3
    clear hz4
    cases hl3 : s3.lg with
    | true =>
      have E : Hid (startX s t.nm t.at_ t.sh = s3) := Hid.mk' (by rw [EP.out]; exact openX_no (by rw [hl3]; simp))
      rw [hl3] at c2
      clear hl3 KV
      go_wp2_with (first | go_big_skip)
      go_end0
      exact ⟨⟨_, rfl⟩, by rw [E.out]; exact HZ3.out⟩
    | false =>
      have L3 := Hid.mk' hl3
      rw [hl3] at c2
      clear hl3
      cases hsh : t.sh with
      | true =>
        have E : Hid (startX s t.nm t.at_ t.sh = s3) := Hid.mk' (by rw [EP.out]; exact openX_no (by rw [hsh]; simp))
        rw [hsh] at j2
        clear hsh KV
        go_wp2_with (first | go_big_skip)
        go_end0
        exact ⟨⟨_, rfl⟩, by rw [E.out]; exact HZ3.out⟩
      | false =>
        have SH := Hid.mk' hsh
        rw [hsh] at j2
        clear hsh
        cases hv : voidB t.nm with
        | true =>
          have E : Hid (startX s t.nm t.at_ t.sh = s3) := Hid.mk' (by rw [EP.out]; exact openX_no (by rw [hv]; simp))
          rw [hv] at KV
          have KV := Hid.mk' KV
          clear hv
          go_wp2_with (first | go_big_skip | (go_at_call 170; refine KV.out.mono ?_; rintro e w9 ⟨rfl, hw9⟩; obtain rfl := hw9.symm))
          go_end0
          exact ⟨⟨_, rfl⟩, by rw [E.out]; exact HZ3.out⟩
        | false =>
          have E : Hid (startX s t.nm t.at_ t.sh = ⟨s3.nd, s3.op ++ [(s1.nd.length : Int)], s3.lg⟩) := Hid.mk' (by rw [EP.out]; exact openX_yes L3.out hv SH.out)
          rw [hv] at KV
          have KV := Hid.mk' KV
          clear hv
          have al := AL.out L3.out
          have KO := Hid.mk' (openI_any w0 w0.heap.size g s3 s1.nd.length w3 HZ3.out (by omega) GS3.out)
          have hm1 : (s3.nd.length : Int) - 1 = (s1.nd.length : Int) := by omega
          have ALH := Hid.mk' al
          clear al AL
          go_wp2_with (first | go_big_skip | (go_at_call 170; refine KV.out.mono ?_; rintro e w9 ⟨rfl, hw9⟩; obtain rfl := hw9.symm))
          refine KO.out.mono ?_
          rintro e w4 ⟨⟨v7, rfl⟩, hz5⟩
          have HZ5 := Hid.mk' hz5
          clear hz5 KO
          go_wp2
          go_end0
          exact ⟨⟨_, rfl⟩, by rw [E.out]; exact HZ5.out⟩

end Go.Proofs.YthcajggbcanmdaaGreatDoor

namespace Go.Proofs.YthcajggbcanmdaaGreatDoor
open Go.RowKit

theorem putX_large {s : BS} {t : TK} (h : s.lg = true) : putX s t = s := by unfold putX; rw [if_pos h]
theorem putX_byte {s : BS} {t : TK} (h : s.lg = false) (k : t.kd = 1) : putX s t = byteX s t.by_ := by unfold putX; rw [if_neg (by rw [h]; decide), if_pos k]
theorem putX_start {s : BS} {t : TK} (h : s.lg = false) (k : t.kd = 2) : putX s t = startX s t.nm t.at_ t.sh := by unfold putX; rw [if_neg (by rw [h]; decide), if_neg (by omega), if_pos k]
theorem putX_end {s : BS} {t : TK} (h : s.lg = false) (k : t.kd = 3) : putX s t = closeX s t.nm := by unfold putX; rw [if_neg (by rw [h]; decide), if_neg (by omega), if_neg (by omega), if_pos k]
theorem putX_note {s : BS} {t : TK} (h : s.lg = false) (k1 : ¬ t.kd = 1) (k2 : ¬ t.kd = 2) (k3 : ¬ t.kd = 3) : putX s t = s := by unfold putX; rw [if_neg (by rw [h]; decide), if_neg k1, if_neg k2, if_neg k3]

end Go.Proofs.YthcajggbcanmdaaGreatDoor

namespace Go.Proofs.YthcajggbcanmdaaGreatDoor
open Go.RowKit

theorem ta_byte (v : Value) (w : World) : (Instr.typeAssert (.iface 177 v) 142 177 true).run Tryz.prog w = .ok (.tuple #[v, .bool true]) w := by
  simp [Instr.typeAssert, run_underlying Tryz.underlying177, go_sem, Result.andThen]

theorem ta_start (v : Value) (w : World) : (Instr.typeAssert (.iface 179 v) 142 179 true).run Tryz.prog w = .ok (.tuple #[v, .bool true]) w := by
  simp [Instr.typeAssert, run_underlying Tryz.underlying179, go_sem, Result.andThen]

theorem ta_end (v : Value) (w : World) : (Instr.typeAssert (.iface 182 v) 142 182 true).run Tryz.prog w = .ok (.tuple #[v, .bool true]) w := by
  simp [Instr.typeAssert, run_underlying Tryz.underlying182, go_sem, Result.andThen]

theorem ta_note (v : Value) (w : World) : (Instr.typeAssert (.iface 185 v) 142 185 true).run Tryz.prog w = .ok (.tuple #[v, .bool true]) w := by
  simp [Instr.typeAssert, run_underlying Tryz.underlying185, go_sem, Result.andThen]

theorem ta_nbyte (t : TypeId) (h : ¬ t = 177) (v : Value) (w : World) : (Instr.typeAssert (.iface t v) 142 177 true).run Tryz.prog w = .ok (.tuple #[.agg #[.int .u8 0], .bool false]) w := by
  simp [Instr.typeAssert, run_underlying Tryz.underlying177, go_sem, Result.andThen, h]

theorem ta_nstart (t : TypeId) (h : ¬ t = 179) (v : Value) (w : World) : (Instr.typeAssert (.iface t v) 142 179 true).run Tryz.prog w = .ok (.tuple #[.agg #[.string ⟨#[]⟩, .slice none 0 0, .bool false], .bool false]) w := by
  simp [Instr.typeAssert, run_underlying Tryz.underlying179, go_sem, Result.andThen, h]

theorem ta_nend (t : TypeId) (h : ¬ t = 182) (v : Value) (w : World) : (Instr.typeAssert (.iface t v) 142 182 true).run Tryz.prog w = .ok (.tuple #[.agg #[.string ⟨#[]⟩], .bool false]) w := by
  simp [Instr.typeAssert, run_underlying Tryz.underlying182, go_sem, Result.andThen, h]

def formV (t : TK) (a : Option Addr) (c : Nat) : Value :=
  if t.kd = 1 then .iface 177 (.agg #[.int .u8 t.by_]) else if t.kd = 2 then .iface 179 (.agg #[.string t.nm, .slice a t.at_.length c, .bool t.sh]) else if t.kd = 3 then .iface 182 (.agg #[.string t.nm]) else .iface 185 (.agg #[])

set_option maxRecDepth 100000 in
set_option maxHeartbeats 1600000 in
theorem formOf_any (t : TK) (a : Option Addr) (c : Nat) (w : World) (hby : t.kd = 1 → 0 ≤ t.by_ ∧ t.by_ ≤ 255) :
    Calls Tryz.prog 113 #[.agg #[.int .i64 t.kd, .int .i64 t.by_, .string t.nm, .slice a t.at_.length c, .bool t.sh]] w fun e w' => e = .returned (formV t a c) ∧ Below w.heap.size w w' := by
  have p1 : Tryz.prog.concrete 177 = true := by kernel_rfl
  have p2 : Tryz.prog.concrete 179 = true := by kernel_rfl
  have p3 : Tryz.prog.concrete 182 = true := by kernel_rfl
  have p4 : Tryz.prog.concrete 185 = true := by kernel_rfl
  by_cases q1 : t.kd = 1
  · have E : Hid (formV t a c = .iface 177 (.agg #[.int .u8 t.by_])) := Hid.mk' (by unfold formV; rw [if_pos q1])
    obtain ⟨y0, y1⟩ := hby q1
    have yw : IntKind.u8.wrap t.by_ = t.by_ := by rw [IntKind.wrap_u8]; omega
    have r1 : (t.kd == 1) = true := by simpa using q1
    clear q1 hby
    go_enter Tryz.func113, Tryz.ntmps113
    go_wp2
    go_ret
    exact ⟨by rw [E.out]; rfl, below_new _ _⟩
  by_cases q2 : t.kd = 2
  · have E : Hid (formV t a c = .iface 179 (.agg #[.string t.nm, .slice a t.at_.length c, .bool t.sh])) := Hid.mk' (by unfold formV; rw [if_neg q1, if_pos q2])
    have r1 : (t.kd == 1) = false := by simpa using q1
    have r2 : (t.kd == 2) = true := by simpa using q2
    clear q1 q2 hby
    go_enter Tryz.func113, Tryz.ntmps113
    go_wp2
    go_ret
    exact ⟨by rw [E.out]; rfl, below_new _ _⟩
  by_cases q3 : t.kd = 3
  · have E : Hid (formV t a c = .iface 182 (.agg #[.string t.nm])) := Hid.mk' (by unfold formV; rw [if_neg q1, if_neg q2, if_pos q3])
    have r1 : (t.kd == 1) = false := by simpa using q1
    have r2 : (t.kd == 2) = false := by simpa using q2
    have r3' : (t.kd == 3) = true := by simpa using q3
    clear q1 q2 q3 hby
    go_enter Tryz.func113, Tryz.ntmps113
    go_wp2
    go_ret
    exact ⟨by rw [E.out]; rfl, below_new _ _⟩
  have E : Hid (formV t a c = .iface 185 (.agg #[])) := Hid.mk' (by unfold formV; rw [if_neg q1, if_neg q2, if_neg q3])
  have r1 : (t.kd == 1) = false := by simpa using q1
  have r2 : (t.kd == 2) = false := by simpa using q2
  have r3' : (t.kd == 3) = false := by simpa using q3
  clear q1 q2 q3 hby
  go_enter Tryz.func113, Tryz.ntmps113
  go_wp2
  go_ret
  exact ⟨by rw [E.out]; rfl, below_new _ _⟩

set_option maxRecDepth 100000 in
set_option maxHeartbeats 3200000 in
theorem putI_any (w0 : World) (lo g : Nat) (s : BS) (t : TK) (a : Option Addr) (c : Nat) (w : World) (h : ZB true 138 w0 lo g s w) (hs : GS s) (hlg : s.lg = false) (hlo : lo = w0.heap.size) (ha : AAt w0 a t.at_) (hn : (t.nm.size : Int) ≤ 1048576) (hl : (t.at_.length : Int) + asz t.at_ ≤ 1048576) :
    Calls Tryz.prog 112 #[.pointer (some ⟨g, 0, none⟩), formV t a c] w fun e w' => (∃ v, e = .returned v) ∧ ZB true 138 w0 lo g (putX s t) w' := by
  have HZ := Hid.mk' h
  have HS := Hid.mk' hs
  by_cases q1 : t.kd = 1
  · have E := Hid.mk' (putX_byte hlg q1)
    have EF : formV t a c = .iface 177 (.agg #[.int .u8 t.by_]) := by unfold formV; rw [if_pos q1]
    rw [EF]
    have N1 := below_new w (.cells #[.int .u8 t.by_] 177)
    have KB := Hid.mk' (byteI_any w0 lo g s t.by_ _ (HZ.out.below N1) HS.out)
    have hta := ta_byte (.agg #[.int .u8 t.by_])
    clear EF N1 q1 h hs ha hlo hlg
    go_enter Tryz.func112, Tryz.ntmps112
    go_wp2_with fail
    refine KB.out.mono ?_
    rintro e w1 ⟨⟨v9, rfl⟩, hz1⟩
    have HZ1 := Hid.mk' hz1
    clear hz1 KB
    go_wp2
    go_end0
    exact ⟨⟨_, rfl⟩, by rw [E.out]; exact HZ1.out⟩
  by_cases q2 : t.kd = 2
  · have E := Hid.mk' (putX_start hlg q2)
    have EF : formV t a c = .iface 179 (.agg #[.string t.nm, .slice a t.at_.length c, .bool t.sh]) := by unfold formV; rw [if_neg q1, if_pos q2]
    rw [EF]
    have N1 := below_new w (.cells #[.string t.nm, .slice a t.at_.length c, .bool t.sh] 179)
    have KB := Hid.mk' (startI_any w0 lo g s t a c _ (HZ.out.below N1) HS.out hlg hlo ha hn hl)
    have hta := ta_start (.agg #[.string t.nm, .slice a t.at_.length c, .bool t.sh])
    have htn := ta_nbyte 179 (by decide) (.agg #[.string t.nm, .slice a t.at_.length c, .bool t.sh])
    clear EF N1 q1 q2 h hs ha hlo hlg
    go_enter Tryz.func112, Tryz.ntmps112
    go_wp2_with fail
    refine KB.out.mono ?_
    rintro e w1 ⟨⟨v9, rfl⟩, hz1⟩
    have HZ1 := Hid.mk' hz1
    clear hz1 KB
    go_wp2
    go_end0
    exact ⟨⟨_, rfl⟩, by rw [E.out]; exact HZ1.out⟩
  by_cases q3 : t.kd = 3
  · have E := Hid.mk' (putX_end hlg q3)
    have EF : formV t a c = .iface 182 (.agg #[.string t.nm]) := by unfold formV; rw [if_neg q1, if_neg q2, if_pos q3]
    rw [EF]
    have N1 := below_new w (.cells #[.string t.nm] 182)
    have KB := Hid.mk' (closeI_any w0 lo g s t.nm _ (HZ.out.below N1))
    have hta := ta_end (.agg #[.string t.nm])
    have htn := ta_nbyte 182 (by decide) (.agg #[.string t.nm])
    have htm := ta_nstart 182 (by decide) (.agg #[.string t.nm])
    clear EF N1 q1 q2 q3 h hs ha hlo hlg
    go_enter Tryz.func112, Tryz.ntmps112
    go_wp2_with fail
    refine KB.out.mono ?_
    rintro e w1 ⟨⟨v9, rfl⟩, hz1⟩
    have HZ1 := Hid.mk' hz1
    clear hz1 KB
    go_wp2
    go_end0
    exact ⟨⟨_, rfl⟩, by rw [E.out]; exact HZ1.out⟩
  have E := Hid.mk' (putX_note hlg q1 q2 q3)
  have EF : formV t a c = .iface 185 (.agg #[]) := by unfold formV; rw [if_neg q1, if_neg q2, if_neg q3]
  rw [EF]
  have HN := Hid.mk' (HZ.out.below (below_new w (.cells #[] 185)))
  have hta := ta_note (.agg #[])
  have htn := ta_nbyte 185 (by decide) (.agg #[])
  have htm := ta_nstart 185 (by decide) (.agg #[])
  have hto := ta_nend 185 (by decide) (.agg #[])
  clear EF q1 q2 q3 h hs ha hlo hlg
  go_enter Tryz.func112, Tryz.ntmps112
  go_wp2
  go_end0
  exact ⟨⟨_, rfl⟩, by rw [E.out]; exact HN.out⟩

theorem tf_byte {t : TK} (h : tfault t = 0) : 0 ≤ t.by_ ∧ t.by_ ≤ 255 := by
  unfold tfault at h
  split at h
  · split at h
    · assumption
    · exact absurd h (by decide)
  · exact absurd h (by decide)

set_option maxRecDepth 100000 in
set_option maxHeartbeats 3200000 in
theorem take_any (w0 : World) (lo g : Nat) (s : BS) (t : TK) (a : Option Addr) (c : Nat) (w : World) (h : ZB true 138 w0 lo g s w) (hs : GS s) (hlo : lo = w0.heap.size) (ha : AAt w0 a t.at_) (hn : (t.nm.size : Int) ≤ 1048576) (hl : (t.at_.length : Int) + asz t.at_ ≤ 1048576) :
    Calls Tryz.prog 84 #[.pointer (some ⟨g, 0, none⟩), .agg #[.int .i64 t.kd, .int .i64 t.by_, .string t.nm, .slice a t.at_.length c, .bool t.sh]] w fun e w' => e = .returned (.int .i64 (tfault t)) ∧ ZB true 138 w0 lo g (if tfault t = 0 then putX s t else s) w' := by
  have N0 := below_new w (.cells #[.int .i64 t.kd, .int .i64 t.by_, .string t.nm, .slice a t.at_.length c, .bool t.sh] 37)
  have Z0 := h.below N0
  have hb0 : Below w0.heap.size w0 (w.alloc (.cells #[.int .i64 t.kd, .int .i64 t.by_, .string t.nm, .slice a t.at_.length c, .bool t.sh] 37)) := by
    obtain ⟨_, _, _, _, _, _, hz⟩ := Z0; rw [← hlo]; exact hz.bl
  have KF := implTF_any t a c _ (ha.below hb0) hn hl
  have RB := Hid.mk' (row5 w 37 (.int .i64 t.kd) (.int .i64 t.by_) (.string t.nm) (.slice a t.at_.length c) (.bool t.sh))
  have HZ := Hid.mk' Z0
  have HS := Hid.mk' hs
  have HA := Hid.mk' ha
  have HL := Hid.mk' hlo
  clear h hs N0 Z0 hb0 ha hlo
  generalize hW : w.alloc (.cells #[.int .i64 t.kd, .int .i64 t.by_, .string t.nm, .slice a t.at_.length c, .bool t.sh] 37) = W at *
  obtain ⟨d0, d1, d2, d3, d4, d5⟩ := cells5 RB.out
  by_cases h0 : tfault t = 0
  rotate_left
  · rw [if_neg h0]
    have KF := Hid.mk' KF
    generalize tfault t = tf at *
    go_enter Tryz.func84, Tryz.ntmps84
    go_wp2_with fail
    clear hW
    refine KF.out.mono ?_
    rintro e w1 ⟨rfl, hb⟩
    have HZ1 := Hid.mk' (HZ.out.below hb)
    clear hb KF
    go_wp2
    go_ret
    exact ⟨rfl, HZ1.out⟩
  rw [if_pos h0]
  rw [h0] at KF ⊢
  have KF := Hid.mk' KF
  have BY := Hid.mk' (tf_byte h0)
  clear h0
  go_enter Tryz.func84, Tryz.ntmps84
  go_wp2_with fail
  clear hW
  refine KF.out.mono ?_
  rintro e w1 ⟨rfl, hb⟩
  have HZ1 := Hid.mk' (HZ.out.below hb)
  have RB1 := Hid.mk' (rowB RB.out hb)
  clear hb KF d0 d1 d2 d3 d4 d5
  obtain ⟨d0, d1, d2, d3, d4, d5⟩ := cells5 RB1.out
  obtain ⟨τ, vn, vo, va, vt, us, hz⟩ := HZ1.out
  obtain ⟨po, eo⟩ := OE.ptr hz.op
  subst eo
  obtain ⟨pn, cn, en, _⟩ := own_len hz.ns.row
  subst en
  obtain ⟨c0, c1, c2, c3⟩ := cells3 hz.box
  clear hz
  cases hlg : s.lg with
  | true =>
    have E := Hid.mk' (putX_large (t := t) hlg)
    rw [hlg] at c2
    clear hlg
    go_wp2
    go_ret
    exact ⟨rfl, by rw [E.out]; exact HZ1.out⟩
  | false =>
    have LG := Hid.mk' hlg
    rw [hlg] at c2
    clear hlg
    have KO := Hid.mk' (formOf_any t a c w1 (fun _ => BY.out))
    go_wp2_with fail
    refine KO.out.mono ?_
    rintro e w2 ⟨rfl, hb⟩
    have KP := Hid.mk' (putI_any w0 lo g s t a c w2 (HZ1.out.below hb) HS.out LG.out HL.out HA.out hn hl)
    generalize formV t a c = fv at *
    clear hb KO
    go_wp2_with fail
    refine KP.out.mono ?_
    rintro e w3 ⟨⟨v9, rfl⟩, hz3⟩
    have HZ3 := Hid.mk' hz3
    clear hz3 KP
    go_wp2
    go_ret
    exact ⟨rfl, HZ3.out⟩

end Go.Proofs.YthcajggbcanmdaaGreatDoor

namespace Go.Proofs.YthcajggbcanmdaaGreatDoor
open Go.RowKit

theorem wv_rev {l : List Int} {x : Nat} (h : x < l.length) : wv l.reverse x = wv l (l.length - 1 - x) := by
  unfold wv
  rw [List.getD_eq_getElem?_getD, List.getElem?_reverse h, ← List.getD_eq_getElem?_getD]

def revF (l : List Int) (f : Nat → Value) (k x : Nat) : Value := if x < l.length ∧ (x < k ∨ l.length - 1 - x < k) then .int .i64 (wv l (l.length - 1 - x)) else f x

theorem revF_zero (l : List Int) (f : Nat → Value) (x : Nat) : revF l f 0 x = f x := by unfold revF; rw [if_neg (by omega)]

set_option maxRecDepth 100000 in
set_option maxHeartbeats 6400000 in
theorem reverse_any (v : Value) (l : List Int) (w : World) (h : OI w v l) (hl : (l.length : Int) ≤ 1048576) :
    Calls Tryz.prog 149 #[v] w fun e w' => (∃ u, e = .returned u) ∧ OI w' v l.reverse ∧ Turned v w w' := by
  rcases h with ⟨rfl, rfl⟩ | ⟨g, cap, cn, f, rfl, hr, hle, hf⟩
  · go_enter Tryz.func149, Tryz.ntmps149
    go_wp2
    go_loopw [2, 3] (fun i j wr => i = .int .i64 0 ∧ j = .int .i64 (-1) ∧ wr = w) (fun _ _ _ => 0)
    case atStart => exact ⟨rfl, rfl, rfl⟩
    case round =>
      obtain ⟨rfl, rfl, rfl⟩ := hrel
      go_wp2
      go_end0
      exact ⟨⟨_, rfl⟩, .inl ⟨rfl, rfl⟩, Turned.refl _ _⟩
  have HF := Hid.mk' hf
  clear hf
  go_enter Tryz.func149, Tryz.ntmps149
  go_wp2
  go_loopw [2, 3] (fun i j wr => ∃ k : Nat, k ≤ l.length ∧ i = .int .i64 k ∧ j = .int .i64 ((l.length : Int) - 1 - (k : Int)) ∧ wr.rowIs g 2 cn (revF l f k) ∧ KeptIn g (g + 1) w wr) (fun i _ _ => l.length - (intOf i).toNat)
  case atStart => exact ⟨0, Nat.zero_le _, rfl, by congr 1; omega, hr.congr (fun x _ => (revF_zero l f x).symm), KeptIn.refl _ _ _⟩
  case round =>
    obtain ⟨k, hk, rfl, rfl, hrow, hkp⟩ := hrel
    by_cases hlt : 2 * k + 1 < l.length
    · obtain ⟨q, hq⟩ : ∃ q : Nat, l.length - 1 - k = q := ⟨_, rfl⟩
      have hq' : (l.length : Int) - 1 - (k : Int) = (q : Int) := by omega
      rw [hq']
      have c1 : (k : Int) < (q : Int) := by omega
      have c2 : (k : Int) < (l.length : Int) := by omega
      have c3 : (q : Int) < (l.length : Int) := by omega
      have e1 : revF l f k k = .int .i64 (wv l k) := by unfold revF; rw [if_neg (by omega)]; exact HF.out k (by omega)
      have e2 : revF l f k q = .int .i64 (wv l q) := by unfold revF; rw [if_neg (by omega)]; exact HF.out q (by omega)
      have x1 : wr.cell? ⟨g, k, none⟩ = some (.int .i64 (wv l k)) := by rw [hrow.cell (by omega), e1]
      have x2 : wr.cell? ⟨g, q, none⟩ = some (.int .i64 (wv l q)) := by rw [hrow.cell (by omega), e2]
      have f1 := hrow.frozen k
      have f2 := hrow.frozen q
      have kq : ¬ k = q := by omega
      have qk : ¬ q = k := by omega
      have CG : ∀ x, x < cn → (if x = q then .int .i64 (wv l k) else if x = k then .int .i64 (wv l q) else revF l f k x) = revF l f (k + 1) x := fun x hx => by
        by_cases a1 : x = q
        · rw [if_pos a1]; unfold revF; rw [if_pos (by omega), show l.length - 1 - x = k by omega]
        · rw [if_neg a1]
          by_cases a2 : x = k
          · rw [if_pos a2]; unfold revF; rw [if_pos (by omega), show l.length - 1 - x = q by omega]
          · rw [if_neg a2]; unfold revF
            by_cases a3 : x < l.length ∧ (x < k ∨ l.length - 1 - x < k)
            · rw [if_pos a3, if_pos (by omega)]
            · rw [if_neg a3, if_neg (by omega)]
      have R1 := Hid.mk' (((hrow.set k (.int .i64 (wv l q))).set q (.int .i64 (wv l k))).congr (g := revF l f (k + 1)) CG)
      have K1 := Hid.mk' ((hkp.setCell (p := ⟨g, k, none⟩) (Nat.le_refl _) (Nat.lt_succ_self _) (.int .i64 (wv l q))).setCell (p := ⟨g, q, none⟩) (Nat.le_refl _) (Nat.lt_succ_self _) (.int .i64 (wv l k)))
      have NQ_ : Hid ((l.length : Int) - 1 - ((k + 1 : Nat) : Int) = (q : Int) - 1) := Hid.mk' (by omega)
      clear hrow CG e1 e2 hq hq' hkp
      generalize wv l k = A at *
      generalize wv l q = B at *
      go_wp2
      go_region
      have RR := Hid.mk' (R1.out.of_block (w' := (((wr.setCell ⟨g, k, none⟩ (.int .i64 B)).setCell ⟨g, q, none⟩ (.int .i64 A)).drew)) rfl)
      have KR := Hid.mk' (K1.out.trans (KeptIn.of_below (lo := g) (hi := g + 1) (Below.refl _ _).drew))
      go_wp2
      go_roundw
      case rel => exact ⟨k + 1, by omega, by go_num, by congr 1; have := NQ_.out; omega, RR.out, KR.out⟩
      case measure => simp [intOf]; omega
    · obtain ⟨hx⟩ : Nonempty (¬ (k : Int) < (l.length : Int) - 1 - (k : Int)) := ⟨by omega⟩
      have HO : Hid (OI wr (.slice (some ⟨g, 0, none⟩) l.length cap) l.reverse) := Hid.mk' (.inr ⟨g, cap, cn, _, by rw [List.length_reverse], hrow, by rw [List.length_reverse]; exact hle, fun i hi => by
        rw [List.length_reverse] at hi
        rw [wv_rev hi]
        unfold revF
        by_cases a3 : i < l.length ∧ (i < k ∨ l.length - 1 - i < k)
        · rw [if_pos a3]
        · rw [if_neg a3, HF.out i hi, show l.length - 1 - i = i by omega]⟩)
      have HT := Hid.mk' (Turned.of_kept (n := l.length) (c := cap) hkp)
      clear hrow hkp
      go_wp2
      go_end0
      exact ⟨⟨_, rfl⟩, HO.out, HT.out⟩

end Go.Proofs.YthcajggbcanmdaaGreatDoor

namespace Go.Proofs.YthcajggbcanmdaaGreatDoor
open Go.RowKit

theorem drop_rev {op : List Int} {k : Nat} (h : k < op.length) : (op.drop k).reverse = (op.drop (k + 1)).reverse ++ [wv op k] := by
  rw [List.drop_eq_getElem_cons h, List.reverse_cons]
  congr 2
  simp [wv, h]

theorem ics_app (l m : List Int) : ics (l ++ m) = ics l ++ ics m := by simp [ics]

theorem turned_below {v : Value} {w w1 : World} {B : Nat} (t : Turned v w w1) (hv : ∀ k, v.ownBlock = some k → B ≤ k) (hB : B ≤ w.heap.size) : Below B w w1 :=
  ⟨t.os, t.tape, t.output, t.size, fun k hk => t.block k (by omega) (fun e => by have := hv k e; omega)⟩

set_option maxRecDepth 100000 in
set_option maxHeartbeats 3200000 in
theorem places_any (τ : Nat → Nat) (lo : Nat) (nd : List ND) (op : List Int) (v : Value) (w : World) (h : OE τ lo w nd op op.length v) (hn : op.length ≤ 1000) :
    Calls Tryz.prog 114 #[v] w fun e w' => ∃ vp, e = .returned vp ∧ OI w' vp op ∧ (∀ j, vp.ownBlock = some j → w.heap.size ≤ j) ∧ Below w.heap.size w w' := by
  have H := Hid.mk' h
  obtain ⟨p0, rfl⟩ := h.ptr
  clear h
  go_enter Tryz.func114, Tryz.ntmps114
  go_wp2
  go_loopw [0, 3] (fun x vp wr => ∃ k : Nat, k ≤ op.length ∧ OE τ lo w nd op k x ∧ wr.ownsRow w.heap.size 2 1 vp (op.length - k) (ics (op.drop k).reverse) ∧ Below w.heap.size w wr) (fun x _ _ => ptB x)
  case atStart => exact ⟨op.length, Nat.le_refl _, H.out, by simpa [ics] using World.ownsRow_nil w w.heap.size 2 1, Below.refl _ _⟩
  case round =>
    obtain ⟨k, hk, ho, hown, hbl⟩ := hrel
    have HB := Hid.mk' hbl
    have HW := Hid.mk' hown
    obtain ⟨av, cv, ev, _⟩ := own_len hown
    subst ev
    cases k with
    | zero =>
      have e : _ = Value.pointer none := ho
      subst e
      have hoi : OI wr (.slice av (op.length - 0) cv) op.reverse := by
        have := HW.out
        rw [List.drop_zero] at this
        exact OI.of_own (by rw [List.length_reverse]; exact this)
      have KR := Hid.mk' (reverse_any _ _ wr hoi (by rw [List.length_reverse]; omega))
      clear ho hown hoi
      go_wp2_with fail
      refine KR.out.mono ?_
      rintro e w1 ⟨⟨u9, rfl⟩, h1, h2⟩
      rw [List.reverse_reverse] at h1
      have H1 := Hid.mk' h1
      have B1 := Hid.mk' (HB.out.trans ((turned_below h2 (own_lo HW.out) HB.out.size)))
      clear h1 h2 KR hbl
      go_wp2
      go_ret
      exact ⟨_, rfl, H1.out, own_lo HW.out, B1.out⟩
    | succ k =>
      obtain ⟨b, u, e, h1, h2, h3, h4, h5⟩ := ho
      subst e
      obtain ⟨c0, c1, c2, c3⟩ := cells3 (rowB h3 hbl)
      have blt := h3.lt
      have w2 := (cells3 h3).2.2.1
      obtain ⟨pu, eu⟩ := OE.ptr h5
      have H5 := Hid.mk' h5
      have HP := Hid.mk' h4
      subst eu
      have VB := below_new wr (.cells #[.int .i64 (wv op k)] 2)
      have OV := Hid.mk' (own_keep HW.out VB)
      have NC := Hid.mk' (new_cells wr 2 [.int .i64 (wv op k)] wr.heap.size rfl)
      have HB2 := Hid.mk' (HB.out.trans (VB.mono HB.out.size))
      have E := Hid.mk' (drop_rev (show k < op.length by omega))
      have W2 := Hid.mk' w2
      clear h1 h2 h3 h4 h5 hown hbl VB w2
      go_wp2_with (at_builtin; refine wpList_append_at _ rfl (.tmp 10) (.tmp 15) 74 rfl w.heap.size 2 (.int .i64 0) 1 8 Tryz.underlying74 Tryz.info2 rfl (by decide) _ _ _ rfl OV.out _ 1 _ (ics [wv op k]) rfl (by simp [ics]) (.inr ⟨_, rfl, NC.out⟩) (ics_one _) (by unfold maxLen; omega) (by omega) HB2.out.size ?_; intro v' w3 ho hgr hat; obtain ⟨av3, cv3, ev3, _⟩ := own_len ho; subst ev3; have BG := Hid.mk' (HB2.out.grown hgr HB2.out.size (own_lo OV.out)); have z2 := (BG.out.cell blt).trans W2.out; have z3 := Nat.lt_of_lt_of_le blt BG.out.size; have HO3 := Hid.mk' ho; clear ho hgr hat)
      go_roundw
      case rel => exact ⟨k, by omega, H5.out, by rw [E.out, ics_app, show op.length - k = op.length - (k + 1) + 1 by omega]; exact HO3.out, BG.out⟩
      case measure => exact Nat.lt_succ_of_le HP.out

def StP (vn : Value) (s : BS) (w : World) (e : Ending) (w' : World) : Prop := ∃ vp, e = .returned (.agg #[vn, vp, .bool s.lg]) ∧ OI w' vp s.op ∧ (∀ j, vp.ownBlock = some j → w.heap.size ≤ j) ∧ Below w.heap.size w w'

set_option maxRecDepth 100000 in
set_option maxHeartbeats 3200000 in
theorem state_any (w0 : World) (lo g : Nat) (s : BS) (w : World) (τ : Nat → Nat) (vn vo : Value) (va vt : Nat → Value) (us : Nat → List Value) (h : ZS true 138 w0 lo g s w τ vn vo va vt us) (hs : GS s) :
    Calls Tryz.prog 85 #[.pointer (some ⟨g, 0, none⟩)] w fun e w' => StP vn s w e w' := by
  have o7 := hs.o
  have N0 := below_new w (.cells #[.slice none 0 0, .slice none 0 0, .bool false] 85)
  have RB := Hid.mk' (row3 w 85 (.slice none 0 0) (.slice none 0 0) (.bool false))
  have KP := Hid.mk' (places_any τ lo s.nd s.op vo _ ((h.below N0).below (Below.refl _ _).drew).op (by omega))
  have HZ := Hid.mk' (h.below N0)
  have HN := Hid.mk' N0
  have glt := h.box.lt
  obtain ⟨po, eo⟩ := OE.ptr h.op
  subst eo
  obtain ⟨pn, cn, en, _⟩ := own_len h.ns.row
  subst en
  clear h hs N0
  obtain ⟨rc, hrc⟩ : ∃ rc, w.heap.size = rc := ⟨_, rfl⟩
  rw [hrc] at RB HN glt
  have RC := Hid.mk' hrc
  generalize hW : w.alloc (.cells #[.slice none 0 0, .slice none 0 0, .bool false] 85) = W at *
  obtain ⟨c0, c1, c2, c3⟩ := cells3 HZ.out.box
  obtain ⟨r0, r1, r2, r3_⟩ := cells3 RB.out
  go_enter Tryz.func85, Tryz.ntmps85
  go_wp2_with fail
  clear hW hrc
  refine wp_region_held_drew (S := fun w' => w'.cell? ⟨g, 0, none⟩ = some (.slice pn s.nd.length cn) ∧ w'.cell? ⟨g, 1, none⟩ = some (.pointer po) ∧ w'.cell? ⟨g, 2, none⟩ = some (.bool s.lg)) (by kernel_rfl) (by simp [*]) (fun hHeld => ?_)
  refine wpAnyH_take (i := 0) (oi := ⟨_, _, _, _, _, _⟩) (v := ?_) rfl (by kernel_rfl) (by kernel_rfl) (by kernel_rfl) (fun _ _ _ h => h) (Or.inl ⟨by rfl, ?_⟩) (by assumption) ?_
  rotate_left
  · (intro w hSw; (try dsimp only at hSw); go_simp; (try with_reducible rfl))
  try simp only [Act.put, zA, zB, zC]
  refine wpAnyH_take (i := 1) (oi := ⟨_, _, _, _, _, _⟩) (v := ?_) rfl (by kernel_rfl) (by kernel_rfl) (by kernel_rfl) (fun _ _ _ h => h) (Or.inl ⟨by rfl, ?_⟩) (by assumption) ?_
  rotate_left
  · (intro w hSw; (try dsimp only at hSw); go_simp; (try with_reducible rfl))
  try simp only [Act.put, zA, zB, zC]
  refine wpAnyH_take (i := 2) (oi := ⟨_, _, _, _, _, _⟩) (v := ?_) rfl (by kernel_rfl) (by kernel_rfl) (by kernel_rfl) (fun _ _ _ h => h) (Or.inl ⟨by rfl, ?_⟩) (by assumption) ?_
  rotate_left
  · (intro w hSw; (try dsimp only at hSw); go_simp; (try with_reducible rfl))
  try simp only [Act.put, zA, zB, zC]
  refine wpAnyH_take (i := 3) (oi := ⟨_, _, _, _, _, _⟩) (v := ?_) rfl (by kernel_rfl) (by kernel_rfl) (by kernel_rfl) (fun _ _ _ h => h) (Or.inl ⟨by rfl, ?_⟩) (by assumption) ?_
  rotate_left
  · (intro w hSw; (try dsimp only at hSw); go_simp; (try with_reducible rfl))
  try simp only [Act.put, zA, zB, zC]
  refine wpAnyH_take (i := 4) (oi := ⟨_, _, _, _, _, _⟩) (v := ?_) rfl (by kernel_rfl) (by kernel_rfl) (by kernel_rfl) (fun _ _ _ h => h) (Or.inl ⟨by rfl, ?_⟩) (by assumption) ?_
  rotate_left
  · (intro w hSw; (try dsimp only at hSw); go_simp; (try with_reducible rfl))
  try simp only [Act.put, zA, zB, zC]
  refine wpAnyH_take (i := 5) (oi := ⟨_, _, _, _, _, _⟩) (v := ?_) rfl (by kernel_rfl) (by kernel_rfl) (by kernel_rfl) (fun _ _ _ h => h) (Or.inl ⟨by rfl, ?_⟩) (by assumption) ?_
  rotate_left
  · (intro w hSw; (try dsimp only at hSw); go_simp; (try with_reducible rfl))
  try simp only [Act.put, zA, zB, zC]
  refine wpAnyH_take (i := 6) (oi := ⟨_, _, _, _, _, _⟩) (v := ?_) rfl (by kernel_rfl) (by kernel_rfl) (by kernel_rfl) (fun _ _ _ h => h) (Or.inl ⟨by rfl, ?_⟩) (by assumption) ?_
  rotate_left
  · (intro w hSw; (try dsimp only at hSw); go_simp; (try with_reducible rfl))
  try simp only [Act.put, zA, zB, zC]
  refine wpAnyH_take (i := 7) (oi := ⟨_, _, _, _, _, _⟩) (v := ?_) rfl (by kernel_rfl) (by kernel_rfl) (by kernel_rfl) (fun _ _ _ h => h) (Or.inl ⟨by rfl, ?_⟩) (by assumption) ?_
  rotate_left
  · (intro w hSw; (try dsimp only at hSw); go_simp; (try with_reducible rfl))
  try simp only [Act.put, zA, zB, zC]
  refine wpAnyH_take (i := 9) (oi := ⟨_, _, _, _, _, _⟩) (v := ?_) rfl (by kernel_rfl) (by kernel_rfl) (by kernel_rfl) (fun _ _ _ h => h) (Or.inl ⟨by rfl, ?_⟩) (by assumption) ?_
  rotate_left
  · (intro w hSw; (try dsimp only at hSw); go_simp; (try with_reducible rfl))
  try simp only [Act.put, zA, zB, zC]
  refine wpAnyH_take (i := 10) (oi := ⟨_, _, _, _, _, _⟩) (v := ?_) rfl (by kernel_rfl) (by kernel_rfl) (by kernel_rfl) (fun _ _ _ h => h) (Or.inl ⟨by rfl, ?_⟩) (by assumption) ?_
  rotate_left
  · (intro w hSw; (try dsimp only at hSw); go_simp; (try with_reducible rfl))
  try simp only [Act.put, zA, zB, zC]
  refine wpAnyH_take (i := 11) (oi := ⟨_, _, _, _, _, _⟩) (v := ?_) rfl (by kernel_rfl) (by kernel_rfl) (by kernel_rfl) (fun _ _ _ h => h) (Or.inl ⟨by rfl, ?_⟩) (by assumption) ?_
  rotate_left
  · (intro w hSw; (try dsimp only at hSw); go_simp; (try with_reducible rfl))
  try simp only [Act.put, zA, zB, zC]
  refine wpAnyH_take (i := 12) (oi := ⟨_, _, _, _, _, _⟩) (v := ?_) rfl (by kernel_rfl) (by kernel_rfl) (by kernel_rfl) (fun _ _ _ h => h) (Or.inl ⟨by rfl, ?_⟩) (by assumption) ?_
  rotate_left
  · (intro w hSw; (try dsimp only at hSw); go_simp; (try with_reducible rfl))
  try simp only [Act.put, zA, zB, zC]
  refine wpAnyH_ready (rs := [8]) (by kernel_rfl) (by simp) ?_
  refine AllReadyH.cons (o := ⟨_, _, _, _, _, _⟩) rfl (fun K hK => ?_) AllReadyH.nil
  go_simp
  go_at_call 114
  refine KP.out.mono ?_
  rintro e w1 ⟨vp, rfl, h1, h2, hb⟩
  replace hb := undrew hb
  obtain ⟨ap, cp, ep, _⟩ := h1.len
  subst ep
  have H1 := Hid.mk' h1
  have H2 : Hid (∀ j, (Value.slice ap s.op.length cp).ownBlock = some j → W.heap.size ≤ j) := Hid.mk' h2
  have HB := Hid.mk' hb
  have y0 := (hb.cell c3).trans c0
  have y1 := (hb.cell c3).trans c1
  have y2 := (hb.cell c3).trans c2
  have R1 := Hid.mk' (rowB RB.out hb)
  obtain ⟨s0, s1, s2, s3⟩ := cells3 R1.out
  obtain ⟨f0, f1, f2⟩ := frz3' R1.out
  clear hb h1 h2
  refine hK.out _ _ ⟨y0, y1, y2⟩ (fun hHeld => ?_)
  clear hK K
  try simp only [Act.put, zA, zB, zC]
  refine wpAnyH_take (i := 13) (oi := ⟨_, _, _, _, _, _⟩) (v := ?_) rfl (by kernel_rfl) (by kernel_rfl) (by kernel_rfl) (fun _ _ _ h => h) (Or.inl ⟨by rfl, ?_⟩) (by assumption) ?_
  rotate_left
  · (intro w hSw; (try dsimp only at hSw); go_simp; (try with_reducible rfl))
  try simp only [Act.put, zA, zB, zC]
  refine wpAnyH_ready (rs := [14]) (by kernel_rfl) (by simp) ?_
  refine AllReadyH.cons (o := ⟨_, _, _, _, _, _⟩) rfl (fun K hK => ?_) AllReadyH.nil
  go_simp
  have gne : g ≠ rc := by omega
  refine hK.out _ _ ⟨(by (try dsimp only); rw [World.cell?_setCell_other _ _ _ _ (by first | (simp; done) | (simp; omega)), World.cell?_setCell_other _ _ _ _ (by first | (simp; done) | (simp; omega)), World.cell?_setCell_other _ _ _ _ (by first | (simp; done) | (simp; omega))]; exact y0), (by (try dsimp only); rw [World.cell?_setCell_other _ _ _ _ (by first | (simp; done) | (simp; omega)), World.cell?_setCell_other _ _ _ _ (by first | (simp; done) | (simp; omega)), World.cell?_setCell_other _ _ _ _ (by first | (simp; done) | (simp; omega))]; exact y1), (by (try dsimp only); rw [World.cell?_setCell_other _ _ _ _ (by first | (simp; done) | (simp; omega)), World.cell?_setCell_other _ _ _ _ (by first | (simp; done) | (simp; omega)), World.cell?_setCell_other _ _ _ _ (by first | (simp; done) | (simp; omega))]; exact y2)⟩ (fun hHeld => ?_)
  clear hK K
  try simp only [Act.put, zA, zB, zC]
  refine wpAnyH_done (by kernel_rfl) ?_ _
  go_wp2
  refine bodyPost_ret (v := .agg #[.slice pn s.nd.length cn, .slice ap s.op.length cp, .bool s.lg]) (by simp [results, Tryz.results85, go_sem, *]) rfl ?_
  have KK := (((Kp.refl (fun j => ¬ j = rc) w1).setCell (q := ⟨rc, 0, none⟩) (fun e => e rfl) (.slice pn s.nd.length cn)).setCell (q := ⟨rc, 1, none⟩) (fun e => e rfl) (.slice ap s.op.length cp)).setCell (q := ⟨rc, 2, none⟩) (fun e => e rfl) (.bool s.lg)
  have LW : rc < W.heap.size := RB.out.lt
  have HRC := RC.out
  refine ⟨_, rfl, H1.out.keep (fun j e hl => KK.block j hl (fun ej => by have := H2.out j e; omega)), fun j e => by have := H2.out j e; omega, ?_⟩
  have BB := HN.out.trans (HB.out.mono (show rc ≤ W.heap.size by omega))
  rw [HRC]
  exact ((BB.setCell (p := ⟨rc, 0, none⟩) (Nat.le_refl _) _).setCell (p := ⟨rc, 1, none⟩) (Nat.le_refl _) _).setCell (p := ⟨rc, 2, none⟩) (Nat.le_refl _) _

theorem NS.down {τ : Nat → Nat} {lo lo' : Nat} {w : World} {v : Value} {l : List ND} {va vt : Nat → Value} {us : Nat → List Value} (h : NS τ lo w v l va vt us) (hl : lo' ≤ lo) : NS τ lo' w v l va vt us :=
  ⟨own_of h.row hl (fun _ _ _ => rfl), fun j hj => (h.att j hj).down hl, fun j hj => own_of (h.txt j hj) hl (fun _ _ _ => rfl), h.rl, h.al, h.ul, h.tl⟩

theorem gs_take {s : BS} (h : GS s) (k : Nat) : GS ⟨s.nd, s.op.take k, s.lg⟩ := by
  refine ⟨h.n, by have := h.o; rw [List.length_take]; omega, fun j hj => ?_, h.tx, fun hl => ?_⟩
  · rw [List.length_take] at hj
    show 0 ≤ wv (s.op.take k) j ∧ wv (s.op.take k) j < _
    rw [wv_take (by omega)]; exact h.pl j (by omega)
  · obtain ⟨h1, h2⟩ := h.lg hl
    exact ⟨h1, by rw [h2]; simp⟩

theorem op_take {op : List Int} {k : Nat} (h : k < op.length) : op.take (k + 1) = op.take k ++ [wv op k] := by
  rw [List.take_add_one, List.getElem?_eq_getElem h]
  simp [wv, h]

def NbP (s : BS) (w : World) (e : Ending) (w' : World) : Prop := ∃ g, e = .returned (.pointer (some ⟨g, 0, none⟩)) ∧ ZB true 138 w w.heap.size g s w'

set_option maxRecDepth 100000 in
set_option maxHeartbeats 6400000 in
theorem newBuilder_any (s : BS) (a p : Option Addr) (c d : Nat) (w : World) (ha : SAt w a p s) (hs : GS s) (hl : (s.nd.length : Int) + nssz s.nd ≤ 1048576) :
    Calls Tryz.prog 83 #[.agg #[.slice a s.nd.length c, .slice p s.op.length d, .bool s.lg]] w fun e w' => NbP s w e w' := by
  have N0 := below_new w (.cells #[.slice a s.nd.length c, .slice p s.op.length d, .bool s.lg] 85)
  have RB := Hid.mk' (row3 w 85 (.slice a s.nd.length c) (.slice p s.op.length d) (.bool s.lg))
  have KC := Hid.mk' (copyNodes_own a c s.nd _ ((ha.1.below N0).below (Below.refl _ _).drew) hl)
  have HN := Hid.mk' N0
  have HP := Hid.mk' ha.2
  have HS := Hid.mk' hs
  have o7 := hs.o
  have n60 := hs.n
  have sz0 : Hid (w.heap.size ≤ (w.alloc (.cells #[.slice a s.nd.length c, .slice p s.op.length d, .bool s.lg] 85)).heap.size) := Hid.mk' N0.size
  clear ha hs N0
  obtain ⟨xb, hxb⟩ : ∃ xb, w.heap.size = xb := ⟨_, rfl⟩
  rw [hxb] at RB
  have XB := Hid.mk' hxb
  generalize hW : w.alloc (.cells #[.slice a s.nd.length c, .slice p s.op.length d, .bool s.lg] 85) = W at *
  obtain ⟨c0, c1, c2, c3⟩ := cells3 RB.out
  go_enter Tryz.func83, Tryz.ntmps83
  go_wp2_with fail
  clear hW hxb
  refine wp_region_held_drew (S := fun w' => w'.cell? ⟨xb, 0, none⟩ = some (.slice a s.nd.length c) ∧ w'.cell? ⟨xb, 2, none⟩ = some (.bool s.lg)) (by kernel_rfl) (by simp [*]) (fun hHeld => ?_)
  refine wpAnyH_take (i := 0) (oi := ⟨_, _, _, _, _, _⟩) (v := ?_) rfl (by kernel_rfl) (by kernel_rfl) (by kernel_rfl) (fun _ _ _ h => h) (Or.inl ⟨by rfl, ?_⟩) (by assumption) ?_
  rotate_left
  · (intro w hSw; (try dsimp only at hSw); go_simp; (try with_reducible rfl))
  try simp only [Act.put, zA, zB, zC]
  refine wpAnyH_take (i := 1) (oi := ⟨_, _, _, _, _, _⟩) (v := ?_) rfl (by kernel_rfl) (by kernel_rfl) (by kernel_rfl) (fun _ _ _ h => h) (Or.inl ⟨by rfl, ?_⟩) (by assumption) ?_
  rotate_left
  · (intro w hSw; (try dsimp only at hSw); go_simp; (try with_reducible rfl))
  try simp only [Act.put, zA, zB, zC]
  refine wpAnyH_take (i := 3) (oi := ⟨_, _, _, _, _, _⟩) (v := ?_) rfl (by kernel_rfl) (by kernel_rfl) (by kernel_rfl) (fun _ _ _ h => h) (Or.inl ⟨by rfl, ?_⟩) (by assumption) ?_
  rotate_left
  · (intro w hSw; (try dsimp only at hSw); go_simp; (try with_reducible rfl))
  try simp only [Act.put, zA, zB, zC]
  refine wpAnyH_take (i := 4) (oi := ⟨_, _, _, _, _, _⟩) (v := ?_) rfl (by kernel_rfl) (by kernel_rfl) (by kernel_rfl) (fun _ _ _ h => h) (Or.inl ⟨by rfl, ?_⟩) (by assumption) ?_
  rotate_left
  · (intro w hSw; (try dsimp only at hSw); go_simp; (try with_reducible rfl))
  try simp only [Act.put, zA, zB, zC]
  refine wpAnyH_ready (rs := [2]) (by kernel_rfl) (by simp) ?_
  refine AllReadyH.cons (o := ⟨_, _, _, _, _, _⟩) rfl (fun K hK => ?_) AllReadyH.nil
  go_simp
  go_at_call 109
  refine KC.out.mono ?_
  rintro e w1 ⟨vn, τ, va, vt, us, rfl, hns, hb⟩
  replace hb := undrew hb
  obtain ⟨pn, cn, en, _⟩ := own_len hns.row
  subst en
  have HNS : Hid (NS τ W.heap.size w1 (.slice pn s.nd.length cn) s.nd va vt us) := Hid.mk' hns
  have HB := Hid.mk' hb
  have y0 := (hb.cell c3).trans c0
  have y1 := (hb.cell c3).trans c1
  have y2 := (hb.cell c3).trans c2
  have y3 := Nat.lt_of_lt_of_le c3 hb.size
  clear hb hns
  refine hK.out _ _ ⟨y0, y2⟩ (fun hHeld => ?_)
  clear hK K
  try simp only [Act.put, zA, zB, zC]
  refine wpAnyH_take (i := 5) (oi := ⟨_, _, _, _, _, _⟩) (v := ?_) rfl (by kernel_rfl) (by kernel_rfl) (by kernel_rfl) (fun _ _ _ h => h) (Or.inl ⟨by rfl, ?_⟩) (by assumption) ?_
  rotate_left
  · (intro w hSw; (try dsimp only at hSw); go_simp; (try with_reducible rfl))
  try simp only [Act.put, zA, zB, zC]
  refine wpAnyH_ready (rs := [6]) (by kernel_rfl) (by simp) ?_
  refine AllReadyH.cons (o := ⟨_, _, _, _, _, _⟩) rfl (fun K hK => ?_) AllReadyH.nil
  go_simp
  have NN := below_new w1 (.cells #[.slice pn s.nd.length cn, .pointer none, .bool s.lg] 138)
  have RG := Hid.mk' (row3 w1 138 (.slice pn s.nd.length cn) (.pointer none) (.bool s.lg))
  have HNN := Hid.mk' NN
  have q0 := (NN.cell y3).trans y0
  have q1 := (NN.cell y3).trans y1
  have q2 := (NN.cell y3).trans y2
  have q3 := Nat.lt_of_lt_of_le y3 NN.size
  clear NN
  refine hK.out _ _ ⟨q0, q2⟩ (fun hHeld => ?_)
  clear hK K
  try simp only [Act.put, zA, zB, zC]
  refine wpAnyH_take (i := 7) (oi := ⟨_, _, _, _, _, _⟩) (v := ?_) rfl (by kernel_rfl) (by kernel_rfl) (by kernel_rfl) (fun _ _ _ h => h) (Or.inl ⟨by rfl, ?_⟩) (by assumption) ?_
  rotate_left
  · (intro w hSw; (try dsimp only at hSw); go_simp; (try with_reducible rfl))
  try simp only [Act.put, zA, zB, zC]
  refine wpAnyH_done (by kernel_rfl) ?_ _
  have ZI : Hid (ZB true 138 w w.heap.size w1.heap.size ⟨s.nd, s.op.take 0, s.lg⟩ (w1.alloc (.cells #[.slice pn s.nd.length cn, .pointer none, .bool s.lg] 138))) := Hid.mk' (by
    have n1 := (HNS.out.below HNN.out).down sz0.out
    have n2 : NS (fun k => if k < w1.heap.size then τ k else 2) w.heap.size _ (.slice pn s.nd.length cn) s.nd va vt us := (((HNS.out.down sz0.out).relabel (τ' := fun k => if k < w1.heap.size then τ k else 2) (fun k _ hk => if_pos hk)).below HNN.out)
    have bw : Below w.heap.size w w1 := HN.out.trans (HB.out.mono HN.out.size)
    refine ⟨fun k => if k < w1.heap.size then τ k else 2, .slice pn s.nd.length cn, .pointer none, va, vt, us, RG.out, n2, (by rw [show s.op.take 0 = [] from rfl]; exact OpP.nil true _ _ _ _), if_neg (by omega), bw.trans (HNN.out.mono bw.size), Nat.le_trans bw.size HNN.out.size, bw.size⟩)
  obtain ⟨g, hg⟩ : ∃ g, w1.heap.size = g := ⟨_, rfl⟩
  rw [hg] at ZI ⊢
  have q1' := q1
  clear q0 q2 y0 y1 y2 y3 c0 c1 c2 c3 HNN RG KC hg HNS
  generalize hV : w1.alloc (.cells #[.slice pn s.nd.length cn, .pointer none, .bool s.lg] 138) = V at *
  clear hV
  go_wp2
  go_loopw [16] (fun i wr => ∃ k : Nat, k ≤ s.op.length ∧ i = .int .i64 k ∧ ZB true 138 w w.heap.size g ⟨s.nd, s.op.take k, s.lg⟩ wr) (fun i _ => s.op.length - (intOf i).toNat)
  case atStart => exact ⟨0, Nat.zero_le _, rfl, ZI.out⟩
  case round =>
    obtain ⟨k, hk, rfl, hzb⟩ := hrel
    have HZ := Hid.mk' hzb
    by_cases hlt : k < s.op.length
    · have ci : (k : Int) < (s.op.length : Int) := by omega
      have hbw : Below w.heap.size w wr := by obtain ⟨_, _, _, _, _, _, z⟩ := hzb; exact z.bl
      rcases HP.out.below hbw with h0 | ⟨b1, o1, rfl, s1, hc1⟩
      · exact absurd hlt (by rw [h0]; exact Nat.not_lt_zero _)
      have x0 := hc1 k hlt
      obtain ⟨hp1, hp2⟩ := HS.out.pl k hlt
      obtain ⟨m, hm⟩ : ∃ m : Nat, wv s.op k = (m : Int) := ⟨(wv s.op k).toNat, by omega⟩
      have E := Hid.mk' (op_take hlt)
      rw [hm] at x0 hp2 E
      have KO := Hid.mk' (openI_any w w.heap.size g ⟨s.nd, s.op.take k, s.lg⟩ m wr HZ.out (by dsimp only; omega) (gs_take HS.out k))
      clear hm hc1 hbw hzb hp1
      go_wp2_with fail
      refine KO.out.mono ?_
      rintro e w3 ⟨⟨v9, rfl⟩, hz3⟩
      have HZ3 : Hid (ZB true 138 w w.heap.size g ⟨s.nd, s.op.take (k + 1), s.lg⟩ w3) := Hid.mk' (by rw [E.out]; exact hz3)
      clear hz3 KO
      go_wp2
      go_roundw
      case rel => exact ⟨k + 1, by omega, by go_num, HZ3.out⟩
      case measure => simp [intOf]; omega
    · have ci : ¬ (k : Int) < (s.op.length : Int) := by omega
      have e : k = s.op.length := by omega
      subst e
      have HZ3 : Hid (ZB true 138 w w.heap.size g s wr) := Hid.mk' (by have := HZ.out; rw [List.take_length] at this; exact this)
      clear hzb
      go_wp2
      go_ret
      exact ⟨g, rfl, HZ3.out⟩

end Go.Proofs.YthcajggbcanmdaaGreatDoor

namespace Go.Proofs.YthcajggbcanmdaaGreatDoor
open Go.RowKit

def CsP (s : BS) (w : World) (e : Ending) (w' : World) : Prop := ∃ τ vn vo va vt us, e = .returned (.agg #[vn, vo, .bool s.lg]) ∧ NS τ w.heap.size w' vn s.nd va vt us ∧ OpP false τ w.heap.size w' s.nd s.op vo ∧ Below w.heap.size w w'

theorem IAt.src {w : World} {a : Option Addr} {l : List Int} (h : IAt w a l) : l.length = 0 ∨ ∃ ad, a = some ad ∧ ∀ j u, (ics l)[j]? = some u → w.cell? (ad.add j) = some u := by
  rcases h with h | ⟨b, o, rfl, hb, hc⟩
  · exact .inl (by rw [h]; rfl)
  · refine .inr ⟨_, rfl, fun j u hj => ?_⟩
    have hl : j < l.length := by
      rcases Nat.lt_or_ge j l.length with h | h
      · exact h
      · rw [List.getElem?_eq_none (by simp [ics]; omega)] at hj; cases hj
    rw [ics_get l j hl] at hj
    rw [Addr.add_mid, hc j hl]; exact hj

theorem NS.around {τ : Nat → Nat} {lo lo' hi : Nat} {w w' : World} {v : Value} {l : List ND} {va vt : Nat → Value} {us : Nat → List Value} (h : NS τ lo w v l va vt us) (hl : lo' ≤ lo) (hh : w.heap.size = hi) (hb : ∀ k, lo ≤ k → k < w.heap.size → w'.heap[k]? = w.heap[k]?) : NS (fun k => if lo ≤ k ∧ k < hi then τ k else 1) lo' w' v l va vt us := by
  have n1 : NS (fun k => if lo ≤ k ∧ k < hi then τ k else 1) lo w v l va vt us := h.relabel (fun k h1 h2 => if_pos ⟨h1, by omega⟩)
  refine NS.down ?_ hl
  exact ⟨own_of n1.row (Nat.le_refl _) (fun k e h2 => hb k h2 (n1.row.lt k e).2), fun j hj => (n1.att j hj).keep (Nat.le_refl _) (fun k h1 h2 => hb k h1 h2), fun j hj => own_of (n1.txt j hj) (Nat.le_refl _) (fun k e h2 => hb k h2 ((n1.txt j hj).lt k e).2), n1.rl, n1.al, n1.ul, n1.tl⟩

set_option maxRecDepth 100000 in
set_option maxHeartbeats 6400000 in
theorem copyState_any (s : BS) (a p : Option Addr) (c d : Nat) (w : World) (ha : SAt w a p s) (hs : GS s) (hl : (s.nd.length : Int) + nssz s.nd ≤ 1048576) :
    Calls Tryz.prog 79 #[.agg #[.slice a s.nd.length c, .slice p s.op.length d, .bool s.lg]] w fun e w' => CsP s w e w' := by
  have N0 := (below_new w (.cells #[.slice a s.nd.length c, .slice p s.op.length d, .bool s.lg] 85)).alloc (by simp) (.cells #[.slice none 0 0, .slice none 0 0, .bool false] 85)
  have RB := Hid.mk' ((row3 w 85 (.slice a s.nd.length c) (.slice p s.op.length d) (.bool s.lg)).alloc (.cells #[.slice none 0 0, .slice none 0 0, .bool false] 85))
  have RC0 := row3 (w.alloc (.cells #[.slice a s.nd.length c, .slice p s.op.length d, .bool s.lg] 85)) 85 (.slice none 0 0) (.slice none 0 0) (.bool false)
  rw [show (w.alloc (.cells #[.slice a s.nd.length c, .slice p s.op.length d, .bool s.lg] 85)).heap.size = w.heap.size + 1 by simp] at RC0
  have RC := Hid.mk' RC0
  have HA := Hid.mk' (ha.1.below N0)
  have HP := Hid.mk' (ha.2.below N0)
  have HN := Hid.mk' N0
  have o7 := hs.o
  clear ha hs N0 RC0
  obtain ⟨xb, hxb⟩ : ∃ xb, w.heap.size = xb := ⟨_, rfl⟩
  rw [hxb] at RB RC
  have XB := Hid.mk' hxb
  generalize hW : (w.alloc (.cells #[.slice a s.nd.length c, .slice p s.op.length d, .bool s.lg] 85)).alloc (.cells #[.slice none 0 0, .slice none 0 0, .bool false] 85) = W at *
  obtain ⟨c0, c1, c2, c3⟩ := cells3 RB.out
  obtain ⟨r0, r1, r2, r3_⟩ := cells3 RC.out
  go_enter Tryz.func79, Tryz.ntmps79
  go_wp2_with fail
  clear hW hxb
  refine wp_region_held_drew (S := fun w' => w'.cell? ⟨xb, 0, none⟩ = some (.slice a s.nd.length c) ∧ w'.cell? ⟨xb, 1, none⟩ = some (.slice p s.op.length d) ∧ w'.cell? ⟨xb, 2, none⟩ = some (.bool s.lg)) (by kernel_rfl) (by simp [*]) (fun hHeld => ?_)
  refine wpAnyH_take (i := 0) (oi := ⟨_, _, _, _, _, _⟩) (v := ?_) rfl (by kernel_rfl) (by kernel_rfl) (by kernel_rfl) (fun _ _ _ h => h) (Or.inl ⟨by rfl, ?_⟩) (by assumption) ?_
  rotate_left
  · (intro w hSw; (try dsimp only at hSw); go_simp; (try with_reducible rfl))
  try simp only [Act.put, zA, zB, zC]
  refine wpAnyH_take (i := 1) (oi := ⟨_, _, _, _, _, _⟩) (v := ?_) rfl (by kernel_rfl) (by kernel_rfl) (by kernel_rfl) (fun _ _ _ h => h) (Or.inl ⟨by rfl, ?_⟩) (by assumption) ?_
  rotate_left
  · (intro w hSw; (try dsimp only at hSw); go_simp; (try with_reducible rfl))
  try simp only [Act.put, zA, zB, zC]
  refine wpAnyH_take (i := 4) (oi := ⟨_, _, _, _, _, _⟩) (v := ?_) rfl (by kernel_rfl) (by kernel_rfl) (by kernel_rfl) (fun _ _ _ h => h) (Or.inl ⟨by rfl, ?_⟩) (by assumption) ?_
  rotate_left
  · (intro w hSw; (try dsimp only at hSw); go_simp; (try with_reducible rfl))
  try simp only [Act.put, zA, zB, zC]
  refine wpAnyH_take (i := 5) (oi := ⟨_, _, _, _, _, _⟩) (v := ?_) rfl (by kernel_rfl) (by kernel_rfl) (by kernel_rfl) (fun _ _ _ h => h) (Or.inl ⟨by rfl, ?_⟩) (by assumption) ?_
  rotate_left
  · (intro w hSw; (try dsimp only at hSw); go_simp; (try with_reducible rfl))
  try simp only [Act.put, zA, zB, zC]
  refine wpAnyH_take (i := 7) (oi := ⟨_, _, _, _, _, _⟩) (v := ?_) rfl (by kernel_rfl) (by kernel_rfl) (by kernel_rfl) (fun _ _ _ h => h) (Or.inl ⟨by rfl, ?_⟩) (by assumption) ?_
  rotate_left
  · (intro w hSw; (try dsimp only at hSw); go_simp; (try with_reducible rfl))
  try simp only [Act.put, zA, zB, zC]
  refine wpAnyH_take (i := 8) (oi := ⟨_, _, _, _, _, _⟩) (v := ?_) rfl (by kernel_rfl) (by kernel_rfl) (by kernel_rfl) (fun _ _ _ h => h) (Or.inl ⟨by rfl, ?_⟩) (by assumption) ?_
  rotate_left
  · (intro w hSw; (try dsimp only at hSw); go_simp; (try with_reducible rfl))
  try simp only [Act.put, zA, zB, zC]
  refine wpAnyH_ready (rs := [2, 3]) (by kernel_rfl) (by simp) ?_
  refine AllReadyH.cons (o := ⟨_, _, _, _, _, _⟩) rfl (fun K hK => ?_) (AllReadyH.cons (o := ⟨_, _, _, _, _, _⟩) rfl (fun K hK => ?_) AllReadyH.nil)
  · go_simp
    go_at_call 99
    refine (l6Copy_own a c s.nd W.drew (HA.out.below (Below.refl _ _).drew) hl).mono ?_
    rintro e w1 ⟨vn, τ, va, vt, us, rfl, hns, hb⟩
    replace hb := undrew hb
    obtain ⟨pn, cn, en, _⟩ := own_len hns.row
    subst en
    have HNS : Hid (NS τ W.heap.size w1 (.slice pn s.nd.length cn) s.nd va vt us) := Hid.mk' hns
    have HB := Hid.mk' hb
    have y0 := (hb.cell c3).trans c0
    have y1 := (hb.cell c3).trans c1
    have y2 := (hb.cell c3).trans c2
    have y3 := Nat.lt_of_lt_of_le c3 hb.size
    have RC1 := Hid.mk' (rowB RC.out hb)
    clear hb hns
    refine hK.out _ _ ⟨y0, y1, y2⟩ (fun hHeld => ?_)
    clear hK K
    try simp only [Act.put, zA, zB, zC]
    refine wpAnyH_ready (rs := [3]) (by kernel_rfl) (by simp) ?_
    refine AllReadyH.cons (o := ⟨_, _, _, _, _, _⟩) rfl (fun K hK => ?_) AllReadyH.nil
    go_simp
    have NN := below_new w1 (.cells #[] 2)
    have AW_ : ∃ A, A = w1.alloc (.cells #[] 2) := ⟨_, rfl⟩
    have k0 := (NN.cell y3).trans y0
    have k1 := (NN.cell y3).trans y1
    have k2 := (NN.cell y3).trans y2
    have k9 := Nat.lt_of_lt_of_le y3 NN.size
    have RCA := Hid.mk' (rowB RC1.out NN)
    have LIT := Hid.mk' (World.ownsRow_lit (base := w1.heap.size) (e := 2) (size := 1) w1 #[] 0 (Nat.le_refl _) (by decide) rfl)
    have SRC := Hid.mk' ((HP.out.below (HB.out.trans (NN.mono HB.out.size))).src)
    have LSZ : Hid (w1.heap.size ≤ (w1.alloc (.cells #[] 2)).heap.size) := Hid.mk' NN.size
    have b0 := HN.out.trans (HB.out.mono HN.out.size)
    have BW : Hid (Below xb w _) := Hid.mk' (XB.out ▸ (b0.trans (NN.mono b0.size)))
    have LSW : Hid (xb ≤ (w1.alloc (.cells #[] 2)).heap.size) := Hid.mk' (by omega)
    have W1S := HB.out.size
    have XW : xb + 1 < W.heap.size := RC.out.lt
    have LOL : Hid (w.heap.size ≤ W.heap.size) := Hid.mk' HN.out.size
    have LOX : Hid (xb + 1 < W.heap.size) := Hid.mk' XW
    have NNB := Hid.mk' NN
    clear NN AW_ b0
    refine hK.out _ _ ⟨k0, k1, k2⟩ (fun hHeld => ?_)
    clear hK K
    try simp only [Act.put, zA, zB, zC]
    refine wpAnyH_ready (rs := [6]) (by kernel_rfl) (by simp) ?_
    refine AllReadyH.cons (o := ⟨_, _, _, _, _, _⟩) rfl (fun K hK => ?_) AllReadyH.nil
    refine step_append_at rfl (.tmp 6) (.tmp 8) 74 rfl w1.heap.size 2 (.int .i64 0) 1 8 Tryz.underlying74 Tryz.info2 rfl (by decide) _ 0 [] rfl LIT.out _ s.op.length _ (ics s.op) rfl (ics_len _) SRC.out (ics_one _) (by unfold maxLen; omega) (by omega) LSZ.out ?_
    intro v' w5 ho hgr hat
    rw [Nat.zero_add, List.nil_append] at ho
    obtain ⟨av5, cv5, ev5, _⟩ := own_len ho
    subst ev5
    have gr : ∀ k, ¬ k = w1.heap.size → k < (w1.alloc (.cells #[] 2)).heap.size → w5.heap[k]? = (w1.alloc (.cells #[] 2)).heap[k]? := fun k hk hl' => hgr.block k hl' (fun e => by simp [Act.eval, Value.ownBlock] at e; omega)
    have HO5 := Hid.mk' ho
    have HG := Hid.mk' gr
    have LB : Hid (∀ k, (Value.slice av5 s.op.length cv5).ownBlock = some k → k = w1.heap.size ∨ (w1.alloc (.cells #[] 2)).heap.size ≤ k) := Hid.mk' (fun k e => by rcases hat with h1 | h1 <;> rw [h1] at e <;> simp [Act.eval, Value.ownBlock] at e <;> first | omega | (simp; omega))
    have SG : Hid ((w1.alloc (.cells #[] 2)).heap.size ≤ w5.heap.size) := Hid.mk' hgr.size
    have BG := Hid.mk' (BW.out.grown hgr LSW.out (fun k e => by simp [Act.eval, Value.ownBlock] at e; omega))
    have m0 := (World.cell?_of_block (a := ⟨xb, 0, none⟩) (gr xb (by omega) k9)).trans k0
    have m1 := (World.cell?_of_block (a := ⟨xb, 1, none⟩) (gr xb (by omega) k9)).trans k1
    have m2 := (World.cell?_of_block (a := ⟨xb, 2, none⟩) (gr xb (by omega) k9)).trans k2
    have RC5 := Hid.mk' (RCA.out.of_block (gr (xb + 1) (by omega) RCA.out.lt))
    obtain ⟨u0, u1, u2, u3⟩ := cells3 RC5.out
    obtain ⟨f0, f1, f2⟩ := frz3' RC5.out
    clear ho hgr hat gr
    refine hK.out _ _ ⟨m0, m1, m2⟩ (fun hHeld => ?_)
    clear hK K
    try simp only [Act.put, zA, zB, zC]
    have NSK : Hid (∀ k, W.heap.size ≤ k → k < w1.heap.size → w5.heap[k]? = w1.heap[k]?) := Hid.mk' (fun k h1 h2 => (HG.out k (by omega) (by have := NNB.out.size; omega)).trans (NNB.out.block k h2))
    have LBS : Hid (w.heap.size ≤ w1.heap.size) := Hid.mk' (by have := LOL.out; omega)
    have LOY : Hid (∀ k, (Value.slice av5 s.op.length cv5).ownBlock = some k → w1.heap.size ≤ k → xb + 1 < k) := Hid.mk' (fun k _ hk => by omega)
    have LBN : Hid (∀ k, k = w1.heap.size ∨ (w1.alloc (.cells #[] 2)).heap.size ≤ k → ¬ (W.heap.size ≤ k ∧ k < w1.heap.size)) := Hid.mk' (fun k h => by simp at h; omega)
    refine wpAnyH_take (i := 9) (oi := ⟨_, _, _, _, _, _⟩) (v := ?_) rfl (by kernel_rfl) (by kernel_rfl) (by kernel_rfl) (fun _ _ _ h => h) (Or.inl ⟨by rfl, ?_⟩) (by assumption) ?_
    rotate_left
    · (intro w hSw; (try dsimp only at hSw); go_simp; (try with_reducible rfl))
    try simp only [Act.put, zA, zB, zC]
    refine wpAnyH_ready (rs := [10]) (by kernel_rfl) (by simp) ?_
    refine AllReadyH.cons (o := ⟨_, _, _, _, _, _⟩) rfl (fun K hK => ?_) AllReadyH.nil
    go_simp
    have xx : xb ≠ xb + 1 := by omega
    refine hK.out _ _ ⟨(by (try dsimp only); rw [World.cell?_setCell_other _ _ _ _ (by first | (simp; done) | (simp; omega)), World.cell?_setCell_other _ _ _ _ (by first | (simp; done) | (simp; omega)), World.cell?_setCell_other _ _ _ _ (by first | (simp; done) | (simp; omega))]; exact m0), (by (try dsimp only); rw [World.cell?_setCell_other _ _ _ _ (by first | (simp; done) | (simp; omega)), World.cell?_setCell_other _ _ _ _ (by first | (simp; done) | (simp; omega)), World.cell?_setCell_other _ _ _ _ (by first | (simp; done) | (simp; omega))]; exact m1), (by (try dsimp only); rw [World.cell?_setCell_other _ _ _ _ (by first | (simp; done) | (simp; omega)), World.cell?_setCell_other _ _ _ _ (by first | (simp; done) | (simp; omega)), World.cell?_setCell_other _ _ _ _ (by first | (simp; done) | (simp; omega))]; exact m2)⟩ (fun hHeld => ?_)
    clear hK K
    try simp only [Act.put, zA, zB, zC]
    refine wpAnyH_done (by kernel_rfl) ?_ _
    go_wp2
    refine bodyPost_ret (v := .agg #[.slice pn s.nd.length cn, .slice av5 s.op.length cv5, .bool s.lg]) (by simp [results, Tryz.results79, go_sem, *]) rfl ?_
    have hx := XB.out
    have KK : ∀ k, ¬ k = xb + 1 → (((w5.setCell ⟨xb + 1, 0, none⟩ (.slice pn s.nd.length cn)).setCell ⟨xb + 1, 1, none⟩ (.slice av5 s.op.length cv5)).setCell ⟨xb + 1, 2, none⟩ (.bool s.lg)).heap[k]? = w5.heap[k]? := fun k hk => by
      rw [Below.heap_setCell _ _ _ _ (by dsimp only; omega), Below.heap_setCell _ _ _ _ (by dsimp only; omega), Below.heap_setCell _ _ _ _ (by dsimp only; omega)]
    refine ⟨_, .slice pn s.nd.length cn, .slice av5 s.op.length cv5, va, vt, us, rfl, (HNS.out.around (w' := ((w5.setCell ⟨xb + 1, 0, none⟩ (.slice pn s.nd.length cn)).setCell ⟨xb + 1, 1, none⟩ (.slice av5 s.op.length cv5)).setCell ⟨xb + 1, 2, none⟩ (.bool s.lg)) LOL.out rfl (fun k h1 h2 => by rw [KK k (by have := LOX.out; omega)]; exact NSK.out k h1 h2)), ⟨own_of HO5.out LBS.out (fun k e hk => KK k (by have := LOY.out k e hk; omega)), fun k e => ?_⟩, ?_⟩
    · exact if_neg (LBN.out k (LB.out k e))
    · rw [hx]
      exact ((BG.out.setCell (p := ⟨xb + 1, 0, none⟩) (by dsimp only; omega) _).setCell (p := ⟨xb + 1, 1, none⟩) (by dsimp only; omega) _).setCell (p := ⟨xb + 1, 2, none⟩) (by dsimp only; omega) _
  · go_simp
    have NN := below_new W (.cells #[] 2)
    have z0 := (NN.cell c3).trans c0
    have z1 := (NN.cell c3).trans c1
    have z2 := (NN.cell c3).trans c2
    have z3 := Nat.lt_of_lt_of_le c3 NN.size
    have RCL := Hid.mk' (rowB RC.out NN)
    have LIT0 := Hid.mk' (World.ownsRow_lit (base := W.heap.size) (e := 2) (size := 1) W #[] 0 (Nat.le_refl _) (by decide) rfl)
    have HNN := Hid.mk' NN
    clear NN
    refine hK.out _ _ ⟨z0, z1, z2⟩ (fun hHeld => ?_)
    clear hK K
    try simp only [Act.put, zA, zB, zC]
    refine wpAnyH_ready (rs := [2]) (by kernel_rfl) (by simp) ?_
    refine AllReadyH.cons (o := ⟨_, _, _, _, _, _⟩) rfl (fun K hK => ?_) AllReadyH.nil
    go_simp
    go_at_call 99
    refine (l6Copy_own a c s.nd _ ((HA.out.below HNN.out).below (Below.refl _ _).drew) hl).mono ?_
    rintro e w1 ⟨vn, τ, va, vt, us, rfl, hns, hb⟩
    replace hb := undrew hb
    obtain ⟨pn, cn, en, _⟩ := own_len hns.row
    subst en
    have HNS : Hid (NS τ (W.alloc (.cells #[] 2)).heap.size w1 (.slice pn s.nd.length cn) s.nd va vt us) := Hid.mk' hns
    have k0 := (hb.cell z3).trans z0
    have k1 := (hb.cell z3).trans z1
    have k2 := (hb.cell z3).trans z2
    have k9 := Nat.lt_of_lt_of_le z3 hb.size
    have RCA := Hid.mk' (rowB RCL.out hb)
    have LIT := Hid.mk' (own_keep LIT0.out hb)
    have SRC := Hid.mk' (((HP.out.below HNN.out).below hb).src)
    have ZL : (W.alloc (.cells #[] 2)).heap.size = W.heap.size + 1 := by simp
    have W1S := hb.size
    have LSZ : Hid (W.heap.size ≤ w1.heap.size) := Hid.mk' (by omega)
    have b0 := HN.out.trans (HNN.out.mono HN.out.size)
    have BW : Hid (Below xb w w1) := Hid.mk' (XB.out ▸ (b0.trans (hb.mono b0.size)))
    have XW : xb + 1 < W.heap.size := RC.out.lt
    have LSW : Hid (xb ≤ w1.heap.size) := Hid.mk' (by omega)
    have LOL : Hid (w.heap.size ≤ (W.alloc (.cells #[] 2)).heap.size) := Hid.mk' b0.size
    have LOX : Hid (xb + 1 < (W.alloc (.cells #[] 2)).heap.size) := Hid.mk' (by omega)
    have WLO : Hid (w.heap.size ≤ W.heap.size) := Hid.mk' HN.out.size
    clear hb hns b0
    refine hK.out _ _ ⟨k0, k1, k2⟩ (fun hHeld => ?_)
    clear hK K
    try simp only [Act.put, zA, zB, zC]
    refine wpAnyH_ready (rs := [6]) (by kernel_rfl) (by simp) ?_
    refine AllReadyH.cons (o := ⟨_, _, _, _, _, _⟩) rfl (fun K hK => ?_) AllReadyH.nil
    refine step_append_at rfl (.tmp 6) (.tmp 8) 74 rfl W.heap.size 2 (.int .i64 0) 1 8 Tryz.underlying74 Tryz.info2 rfl (by decide) _ 0 [] rfl LIT.out _ s.op.length _ (ics s.op) rfl (ics_len _) SRC.out (ics_one _) (by unfold maxLen; omega) (by omega) LSZ.out ?_
    intro v' w5 ho hgr hat
    rw [Nat.zero_add, List.nil_append] at ho
    obtain ⟨av5, cv5, ev5, _⟩ := own_len ho
    subst ev5
    have gr : ∀ k, ¬ k = W.heap.size → k < w1.heap.size → w5.heap[k]? = w1.heap[k]? := fun k hk hl' => hgr.block k hl' (fun e => by simp [Act.eval, Value.ownBlock] at e; omega)
    have HO5 := Hid.mk' ho
    have HG := Hid.mk' gr
    have LB : Hid (∀ k, (Value.slice av5 s.op.length cv5).ownBlock = some k → k = W.heap.size ∨ w1.heap.size ≤ k) := Hid.mk' (fun k e => by rcases hat with h1 | h1 <;> rw [h1] at e <;> simp [Act.eval, Value.ownBlock] at e <;> first | omega | (simp; omega))
    have SG : Hid (w1.heap.size ≤ w5.heap.size) := Hid.mk' hgr.size
    have BG := Hid.mk' (BW.out.grown hgr LSW.out (fun k e => by simp [Act.eval, Value.ownBlock] at e; omega))
    have m0 := (World.cell?_of_block (a := ⟨xb, 0, none⟩) (gr xb (by omega) k9)).trans k0
    have m1 := (World.cell?_of_block (a := ⟨xb, 1, none⟩) (gr xb (by omega) k9)).trans k1
    have m2 := (World.cell?_of_block (a := ⟨xb, 2, none⟩) (gr xb (by omega) k9)).trans k2
    have RC5 := Hid.mk' (RCA.out.of_block (gr (xb + 1) (by omega) RCA.out.lt))
    obtain ⟨u0, u1, u2, u3⟩ := cells3 RC5.out
    obtain ⟨f0, f1, f2⟩ := frz3' RC5.out
    clear ho hgr hat gr
    refine hK.out _ _ ⟨m0, m1, m2⟩ (fun hHeld => ?_)
    clear hK K
    try simp only [Act.put, zA, zB, zC]
    have NSK : Hid (∀ k, (W.alloc (.cells #[] 2)).heap.size ≤ k → k < w1.heap.size → w5.heap[k]? = w1.heap[k]?) := Hid.mk' (fun k h1 h2 => HG.out k (by omega) h2)
    have LBS : Hid (w.heap.size ≤ W.heap.size) := WLO
    have LOY : Hid (∀ k, (Value.slice av5 s.op.length cv5).ownBlock = some k → W.heap.size ≤ k → xb + 1 < k) := Hid.mk' (fun k _ hk => by omega)
    have LBN : Hid (∀ k, k = W.heap.size ∨ w1.heap.size ≤ k → ¬ ((W.alloc (.cells #[] 2)).heap.size ≤ k ∧ k < w1.heap.size)) := Hid.mk' (fun k h => by omega)
    refine wpAnyH_take (i := 9) (oi := ⟨_, _, _, _, _, _⟩) (v := ?_) rfl (by kernel_rfl) (by kernel_rfl) (by kernel_rfl) (fun _ _ _ h => h) (Or.inl ⟨by rfl, ?_⟩) (by assumption) ?_
    rotate_left
    · (intro w hSw; (try dsimp only at hSw); go_simp; (try with_reducible rfl))
    try simp only [Act.put, zA, zB, zC]
    refine wpAnyH_ready (rs := [10]) (by kernel_rfl) (by simp) ?_
    refine AllReadyH.cons (o := ⟨_, _, _, _, _, _⟩) rfl (fun K hK => ?_) AllReadyH.nil
    go_simp
    have xx : xb ≠ xb + 1 := by omega
    refine hK.out _ _ ⟨(by (try dsimp only); rw [World.cell?_setCell_other _ _ _ _ (by first | (simp; done) | (simp; omega)), World.cell?_setCell_other _ _ _ _ (by first | (simp; done) | (simp; omega)), World.cell?_setCell_other _ _ _ _ (by first | (simp; done) | (simp; omega))]; exact m0), (by (try dsimp only); rw [World.cell?_setCell_other _ _ _ _ (by first | (simp; done) | (simp; omega)), World.cell?_setCell_other _ _ _ _ (by first | (simp; done) | (simp; omega)), World.cell?_setCell_other _ _ _ _ (by first | (simp; done) | (simp; omega))]; exact m1), (by (try dsimp only); rw [World.cell?_setCell_other _ _ _ _ (by first | (simp; done) | (simp; omega)), World.cell?_setCell_other _ _ _ _ (by first | (simp; done) | (simp; omega)), World.cell?_setCell_other _ _ _ _ (by first | (simp; done) | (simp; omega))]; exact m2)⟩ (fun hHeld => ?_)
    clear hK K
    try simp only [Act.put, zA, zB, zC]
    refine wpAnyH_done (by kernel_rfl) ?_ _
    go_wp2
    refine bodyPost_ret (v := .agg #[.slice pn s.nd.length cn, .slice av5 s.op.length cv5, .bool s.lg]) (by simp [results, Tryz.results79, go_sem, *]) rfl ?_
    have hx := XB.out
    have KK : ∀ k, ¬ k = xb + 1 → (((w5.setCell ⟨xb + 1, 0, none⟩ (.slice pn s.nd.length cn)).setCell ⟨xb + 1, 1, none⟩ (.slice av5 s.op.length cv5)).setCell ⟨xb + 1, 2, none⟩ (.bool s.lg)).heap[k]? = w5.heap[k]? := fun k hk => by
      rw [Below.heap_setCell _ _ _ _ (by dsimp only; omega), Below.heap_setCell _ _ _ _ (by dsimp only; omega), Below.heap_setCell _ _ _ _ (by dsimp only; omega)]
    refine ⟨_, .slice pn s.nd.length cn, .slice av5 s.op.length cv5, va, vt, us, rfl, (HNS.out.around (w' := ((w5.setCell ⟨xb + 1, 0, none⟩ (.slice pn s.nd.length cn)).setCell ⟨xb + 1, 1, none⟩ (.slice av5 s.op.length cv5)).setCell ⟨xb + 1, 2, none⟩ (.bool s.lg)) LOL.out rfl (fun k h1 h2 => by rw [KK k (by have := LOX.out; omega)]; exact NSK.out k h1 h2)), ⟨own_of HO5.out LBS.out (fun k e hk => KK k (by have := LOY.out k e hk; omega)), fun k e => ?_⟩, ?_⟩
    · exact if_neg (LBN.out k (LB.out k e))
    · rw [hx]
      exact ((BG.out.setCell (p := ⟨xb + 1, 0, none⟩) (by dsimp only; omega) _).setCell (p := ⟨xb + 1, 1, none⟩) (by dsimp only; omega) _).setCell (p := ⟨xb + 1, 2, none⟩) (by dsimp only; omega) _

end Go.Proofs.YthcajggbcanmdaaGreatDoor

namespace Go.Proofs.YthcajggbcanmdaaGreatDoor
open Go.RowKit

def PutP (c : Int) (s : BS) (w : World) (e : Ending) (w' : World) : Prop := ∃ τ vn vo va vt us, e = .returned (.agg #[.int .i64 c, vn, vo, .bool s.lg]) ∧ SQ τ w.heap.size w' vn vo s va vt us ∧ (∀ k, ¬ (w.heap.size ≤ k ∧ k < w'.heap.size) → τ k = 2) ∧ Below w.heap.size w w'

def noS : BS := ⟨[], [], false⟩

theorem PutP.err {c : Int} {w w' : World} (hb : Below w.heap.size w w') : PutP c noS w (.returned (.agg #[.int .i64 c, .slice none 0 0, .slice none 0 0, .bool false])) w' :=
  ⟨fun _ => 2, _, _, fun _ => undef, fun _ => undef, fun _ => [], rfl, ⟨(NS.nil _ _ _ _ _ _).nq, .inl ⟨rfl, rfl⟩, fun k e => by simp [Value.ownBlock] at e⟩, fun _ _ => rfl, hb⟩

theorem NQ.keepLo {τ : Nat → Nat} {lo lo' : Nat} {w w' : World} {v : Value} {l : List ND} {va vt : Nat → Value} {us : Nat → List Value} (h : NQ τ lo w v l va vt us) (hT : ∀ j, j < l.length → ∀ k, (vt j).ownBlock = some k → lo ≤ k) (hl : lo' ≤ lo) (τ' : Nat → Nat) (ht : ∀ k, lo ≤ k → k < w.heap.size → τ' k = τ k) (hb : ∀ k, lo ≤ k → k < w.heap.size → w'.heap[k]? = w.heap[k]?) : NQ τ' lo' w' v l va vt us := by
  refine ⟨own_of h.row hl (fun k e h2 => hb k h2 (h.row.lt k e).2), fun j hj => (h.att j hj).keep hl (fun k h1 h2 => hb k h1 h2), fun j hj => (h.txt j hj).keep (fun k e h2 => hb k (hT j hj k e) h2), fun k e => ?_, fun j hj k e => ?_, fun j hj i hi k e => ?_, fun j hj k e => ?_⟩
  · have := h.row.lt k e; rw [ht k this.1 this.2]; exact h.rl k e
  · have := (h.att j hj).row.lt k e; rw [ht k this.1 this.2]; exact h.al j hj k e
  · rw [ht k ((h.att j hj).vlo i hi k e) (((h.att j hj).val i hi).lt k e)]; exact h.ul j hj i hi k e
  · rw [ht k (hT j hj k e) ((h.txt j hj).lt k e)]; exact h.tl j hj k e

theorem sq_impl {τ : Nat → Nat} {lo lo0 : Nat} {w6 w8 : World} {vn vp : Value} {s : BS} {va vt : Nat → Value} {us : Nat → List Value} (h : NS τ lo0 w6 vn s.nd va vt us) (hl : lo ≤ lo0) (h06 : lo0 ≤ w6.heap.size) (hk : ∀ k, lo0 ≤ k → k < w6.heap.size → w8.heap[k]? = w6.heap[k]?) (ho : OI w8 vp s.op) (hp : ∀ k, vp.ownBlock = some k → w6.heap.size ≤ k) :
    ∃ τ', SQ τ' lo w8 vn vp s va vt us ∧ ∀ k, ¬ (lo ≤ k ∧ k < w8.heap.size) → (w6.heap.size ≤ w8.heap.size) → τ' k = 2 := by
  refine ⟨fun k => if lo0 ≤ k ∧ k < w6.heap.size then τ k else if w6.heap.size ≤ k ∧ k < w8.heap.size then 1 else 2, ⟨h.nq.keepLo (fun j hj k e => ((h.txt j hj).lt k e).1) hl _ (fun k h1 h2 => if_pos ⟨h1, h2⟩) hk, ho, fun k e => ?_⟩, fun k hn hs => ?_⟩
  · have h1 := hp k e
    have h2 := ho.lt k e
    refine ⟨by omega, ?_⟩
    show (if _ then _ else _) = _
    rw [if_neg (by omega), if_pos ⟨h1, h2⟩]
  · show (if _ then _ else _) = _
    rw [if_neg (by omega), if_neg (by omega)]

theorem sq_spec {τ : Nat → Nat} {lo lo0 g : Nat} {Tb : TypeId} {w0 w6 w8 : World} {vn vo : Value} {s : BS} {va vt : Nat → Value} {us : Nat → List Value} (h : ZS false Tb w0 lo0 g s w6 τ vn vo va vt us) (hl : lo ≤ lo0) (hk : ∀ k, lo0 ≤ k → k < w6.heap.size → w8.heap[k]? = w6.heap[k]?) :
    ∃ τ', SQ τ' lo w8 vn vo s va vt us ∧ ∀ k, ¬ (lo ≤ k ∧ k < w8.heap.size) → (w6.heap.size ≤ w8.heap.size) → τ' k = 2 := by
  refine ⟨fun k => if lo0 ≤ k ∧ k < w6.heap.size then τ k else 2, ⟨h.ns.nq.keepLo (fun j hj k e => ((h.ns.txt j hj).lt k e).1) hl _ (fun k h1 h2 => if_pos ⟨h1, h2⟩) hk, (OI.of_own h.op.1).keep (fun k e h2 => hk k (h.op.1.lt k e).1 h2), fun k e => ?_⟩, fun k hn hs => ?_⟩
  · have h1 := h.op.1.lt k e
    refine ⟨by omega, ?_⟩
    show (if _ then _ else _) = _
    rw [if_pos h1]; exact h.op.2 k e
  · show (if _ then _ else _) = _
    rw [if_neg (by omega)]

theorem frz4 {w : World} {g : Nat} {T : TypeId} {f : Nat → Value} (h : w.rowIs g T 4 f) : w.frozen? ⟨g, 0, none⟩ = false ∧ w.frozen? ⟨g, 1, none⟩ = false ∧ w.frozen? ⟨g, 2, none⟩ = false ∧ w.frozen? ⟨g, 3, none⟩ = false := ⟨h.frozen 0, h.frozen 1, h.frozen 2, h.frozen 3⟩

theorem set4 {w w1 : World} {B r : Nat} {v0 v1 v2 v3 : Value} (h : Below B w w1) (hr : B ≤ r) : Below B w ((((w1.setCell ⟨r, 0, none⟩ v0).setCell ⟨r, 1, none⟩ v1).setCell ⟨r, 2, none⟩ v2).setCell ⟨r, 3, none⟩ v3) :=
  (((h.setCell (p := ⟨r, 0, none⟩) hr v0).setCell (p := ⟨r, 1, none⟩) hr v1).setCell (p := ⟨r, 2, none⟩) hr v2).setCell (p := ⟨r, 3, none⟩) hr v3

theorem blk4 {w : World} {r k : Nat} {v0 v1 v2 v3 : Value} (h : ¬ k = r) : ((((w.setCell ⟨r, 0, none⟩ v0).setCell ⟨r, 1, none⟩ v1).setCell ⟨r, 2, none⟩ v2).setCell ⟨r, 3, none⟩ v3).heap[k]? = w.heap[k]? := by
  rw [Below.heap_setCell _ _ _ _ (by dsimp only; omega), Below.heap_setCell _ _ _ _ (by dsimp only; omega), Below.heap_setCell _ _ _ _ (by dsimp only; omega), Below.heap_setCell _ _ _ _ (by dsimp only; omega)]

theorem siz4 {w : World} {r : Nat} {v0 v1 v2 v3 : Value} : ((((w.setCell ⟨r, 0, none⟩ v0).setCell ⟨r, 1, none⟩ v1).setCell ⟨r, 2, none⟩ v2).setCell ⟨r, 3, none⟩ v3).heap.size = w.heap.size := by simp [World.setCell]

end Go.Proofs.YthcajggbcanmdaaGreatDoor
