/- The model's PutToken. -/
import Derived.Test.YthcajggbcanmdaaGreatDoorU17
import Derived.Test.YthcajggbcanmdaaGreatDoorU6
import Derived.BigGuard
import Derived.Laws.BytesString
import Derived.Laws.IdiomStrings
import Derived.Test.YthcajggbcanmdaaGreatDoorU9
set_option linter.unusedVariables false
set_option linter.unusedSimpArgs false
namespace Go.Proofs.YthcajggbcanmdaaGreatDoor
open Go.RowKit

theorem ZS.boxed {τ : Nat → Nat} {lo : Nat} {w0 w1 : World} {vn vo : Value} {s : BS} {va vt : Nat → Value} {us : Nat → List Value} {T : TypeId} (hn : NS τ lo w1 vn s.nd va vt us) (ho : OpP false τ lo w1 s.nd s.op vo) (hb : Below lo w0 w1) (hl : lo ≤ w1.heap.size) :
    ZB false T w0 lo w1.heap.size s (w1.alloc (.cells #[vn, vo, .bool s.lg] T)) := by
  have n1 : NS (fun k => if k < w1.heap.size then τ k else 2) lo w1 vn s.nd va vt us := hn.relabel (fun k _ h2 => if_pos h2)
  have o1 : OpP false (fun k => if k < w1.heap.size then τ k else 2) lo w1 s.nd s.op vo := ho.relabel (fun k _ h2 => if_pos h2)
  have nb := below_new w1 (.cells #[vn, vo, .bool s.lg] T)
  exact ⟨_, vn, vo, va, vt, us, row3 w1 T vn vo (.bool s.lg), n1.below nb, o1.keep (Kp.of_below nb), if_neg (Nat.lt_irrefl _), hb.trans (nb.mono hl), Nat.le_trans hl nb.size, hl⟩

end Go.Proofs.YthcajggbcanmdaaGreatDoor

namespace Go.Proofs.YthcajggbcanmdaaGreatDoor
open Go.RowKit

end Go.Proofs.YthcajggbcanmdaaGreatDoor

namespace Go.Proofs.YthcajggbcanmdaaGreatDoor
open Go.RowKit

def T5 (w : World) (g o : Nat) (t : TK) (a : Option Addr) (c : Nat) : Prop :=
  w.cell? ⟨g, o, none⟩ = some (.int .i64 t.kd) ∧ w.cell? ⟨g, o + 1, none⟩ = some (.int .i64 t.by_) ∧ w.cell? ⟨g, o + 2, none⟩ = some (.string t.nm) ∧ w.cell? ⟨g, o + 3, none⟩ = some (.slice a t.at_.length c) ∧ w.cell? ⟨g, o + 4, none⟩ = some (.bool t.sh) ∧ g < w.heap.size

theorem T5.below {w w' : World} {g o : Nat} {t : TK} {a : Option Addr} {c : Nat} (h : T5 w g o t a c) (hb : Below w.heap.size w w') : T5 w' g o t a c :=
  ⟨(hb.cell h.2.2.2.2.2).trans h.1, (hb.cell h.2.2.2.2.2).trans h.2.1, (hb.cell h.2.2.2.2.2).trans h.2.2.1, (hb.cell h.2.2.2.2.2).trans h.2.2.2.1, (hb.cell h.2.2.2.2.2).trans h.2.2.2.2.1, Nat.lt_of_lt_of_le h.2.2.2.2.2 hb.size⟩

set_option maxHeartbeats 3200000 in
set_option maxHeartbeats 3200000 in
theorem l4FormE (t : TK) (g o : Nat) (a : Option Addr) (c : Nat) (w : World) (h : T5 w g o t a c) :
    Calls Tryz.prog 100 #[.pointer (some ⟨g, o, none⟩)] w fun e w' => e = .returned (.bool (tform t)) ∧ w' = w := by
  have K := l1In_any t.kd 1 4 w
  obtain ⟨c0, c1, c2, c3, c4, c5⟩ := id h
  clear h
  by_cases k1 : 1 ≤ t.kd ∧ t.kd ≤ 4
  · have kk : t.kd = 1 ∨ t.kd = 2 ∨ t.kd = 3 ∨ t.kd = 4 := by omega
    rw [show (decide (1 ≤ t.kd) && decide (t.kd ≤ 4)) = true by simp [k1]] at K
    rcases kk with e | e | e | e
    all_goals
      rw [e] at c0 K
      have K := Hid.mk' K
      have E := Hid.mk' e
      clear e k1
      go_enter Tryz.func100, Tryz.ntmps100
      go_wp2_with (first | go_big_skip | (go_at_call 101; refine K.out.mono ?_; rintro e w1 ⟨rfl, rfl⟩))
    all_goals go_ret
    all_goals
      have e := E.out
      exact ⟨by simp [tform, *], rfl⟩
  · rw [show (decide (1 ≤ t.kd) && decide (t.kd ≤ 4)) = false by simp; omega] at K
    have K := Hid.mk' K
    have E : Hid (tform t = false) := Hid.mk' (by
      unfold tform
      rw [show (decide (1 ≤ t.kd) && decide (t.kd ≤ 4)) = false by simp; omega]
      simp)
    have n1 : ¬ t.kd = 1 := by omega
    have n2 : ¬ t.kd = 2 := by omega
    have n3 : ¬ t.kd = 3 := by omega
    clear k1
    go_enter Tryz.func100, Tryz.ntmps100
    go_wp2_with (first | go_big_skip | (go_at_call 101; refine K.out.mono ?_; rintro e w1 ⟨rfl, rfl⟩))
    all_goals go_ret
    all_goals exact ⟨by rw [E.out]; rfl, rfl⟩

set_option maxHeartbeats 3200000 in
theorem l4FaultE (t : TK) (g o : Nat) (a : Option Addr) (c : Nat) (w : World) (h : T5 w g o t a c) (ha : AAt w a t.at_) (hc : t.at_.length ≤ c) (hn : (t.nm.size : Int) ≤ 1048576) (hl : (t.at_.length : Int) + asz t.at_ ≤ 1048576) :
    Calls Tryz.prog 80 #[.pointer (some ⟨g, o, none⟩)] w fun e w' => e = .returned (.int .i64 (tfault t)) ∧ Below w.heap.size w w' := by
  have KF := l4FormE t g o a c w h
  have KI := l1In_any t.by_ 0 255 w
  have KN := l4Name_any t.nm w (by omega)
  have KA := Hid.mk' (l4Attrs_any a c t.at_ w ha hc hl)
  obtain ⟨c0, c1, c2, c3, c4, c5⟩ := id h
  clear h ha
  cases hf : tform t with
  | false =>
    rw [hf] at KF
    have KF := Hid.mk' KF
    have E : Hid (tfault t = 1) := Hid.mk' (by unfold tfault; rw [hf]; rfl)
    clear KI KN
    go_enter Tryz.func80, Tryz.ntmps80
    go_wp2_with fail
    refine KF.out.mono ?_
    rintro e w1 ⟨rfl, rfl⟩
    go_wp2
    go_ret
    exact ⟨by rw [E.out]; rfl, Below.refl _ _⟩
  | true =>
    rw [hf] at KF
    have KF := Hid.mk' KF
    by_cases hb : 0 ≤ t.by_ ∧ t.by_ ≤ 255
    · rw [show (decide (0 ≤ t.by_) && decide (t.by_ ≤ 255)) = true by simp [hb]] at KI
      have KI := Hid.mk' KI
      by_cases hk : t.kd = 2 ∨ t.kd = 3
      · cases hnm : nmB t.nm with
        | false =>
          rw [hnm] at KN
          have KN := Hid.mk' KN
          have E : Hid (tfault t = 5) := Hid.mk' (by unfold tfault; rw [if_pos hf, if_pos hb, if_pos ⟨hk, hnm⟩])
          clear hb
          rcases hk with e | e
          all_goals
            rw [e] at c0
            clear e
            go_enter Tryz.func80, Tryz.ntmps80
            go_wp2_with (first | go_big_skip | (go_at_call 100; refine KF.out.mono ?_; rintro e w1 ⟨rfl, rfl⟩) | (go_at_call 101; refine KI.out.mono ?_; rintro e w1 ⟨rfl, rfl⟩) | (go_at_call 102; refine KN.out.mono ?_; rintro e w1 ⟨rfl, rfl⟩))
            go_ret
            exact ⟨by rw [E.out]; rfl, Below.refl _ _⟩
        | true =>
          rw [hnm] at KN
          have KN := Hid.mk' KN
          have E : Hid (tfault t = afault t.at_) := Hid.mk' (by unfold tfault; rw [if_pos hf, if_pos hb, if_neg (by rw [hnm]; simp)])
          clear hb
          rcases hk with e | e
          all_goals
            rw [e] at c0
            clear e
            go_enter Tryz.func80, Tryz.ntmps80
            go_wp2_with (first | go_big_skip | (go_at_call 100; refine KF.out.mono ?_; rintro e w1 ⟨rfl, rfl⟩) | (go_at_call 101; refine KI.out.mono ?_; rintro e w1 ⟨rfl, rfl⟩) | (go_at_call 102; refine KN.out.mono ?_; rintro e w1 ⟨rfl, rfl⟩) | (go_at_call 103; refine KA.out.mono ?_; rintro e w1 ⟨rfl, hbb⟩; have HB := Hid.mk' hbb; clear hbb))
            go_ret
            exact ⟨by rw [E.out]; rfl, HB.out⟩
      · have n2 : ¬ t.kd = 2 := fun e => hk (.inl e)
        have n3 : ¬ t.kd = 3 := fun e => hk (.inr e)
        have E : Hid (tfault t = afault t.at_) := Hid.mk' (by unfold tfault; rw [if_pos hf, if_pos hb, if_neg (fun h => hk h.1)])
        clear hb hk KN
        go_enter Tryz.func80, Tryz.ntmps80
        go_wp2_with (first | go_big_skip | (go_at_call 100; refine KF.out.mono ?_; rintro e w1 ⟨rfl, rfl⟩) | (go_at_call 101; refine KI.out.mono ?_; rintro e w1 ⟨rfl, rfl⟩) | (go_at_call 103; refine KA.out.mono ?_; rintro e w1 ⟨rfl, hbb⟩; have HB := Hid.mk' hbb; clear hbb))
        go_ret
        exact ⟨by rw [E.out]; rfl, HB.out⟩
    · rw [show (decide (0 ≤ t.by_) && decide (t.by_ ≤ 255)) = false by simp; omega] at KI
      have KI := Hid.mk' KI
      have E : Hid (tfault t = 3) := Hid.mk' (by unfold tfault; rw [if_pos hf, if_neg hb])
      clear hb KN
      go_enter Tryz.func80, Tryz.ntmps80
      go_wp2_with (first | (go_at_call 100; refine KF.out.mono ?_; rintro e w1 ⟨rfl, rfl⟩) | (go_at_call 101; refine KI.out.mono ?_; rintro e w1 ⟨rfl, rfl⟩))
      go_ret
      exact ⟨by rw [E.out]; rfl, Below.refl _ _⟩

end Go.Proofs.YthcajggbcanmdaaGreatDoor

namespace Go.Proofs.YthcajggbcanmdaaGreatDoor
open Go.RowKit

set_option maxRecDepth 100000 in
set_option maxHeartbeats 12800000 in
theorem startE (w0 : World) (lo g gt og : Nat) (s : BS) (t : TK) (a : Option Addr) (c : Nat) (w : World) (h : ZB false 85 w0 lo g s w) (hs : GS s) (hlg : s.lg = false) (hlo : lo = w0.heap.size) (ht : T5 w0 gt og t a c) (ha : AAt w0 a t.at_) (hl : (t.at_.length : Int) + asz t.at_ ≤ 1048576) :
    Calls Tryz.prog 105 #[.pointer (some ⟨g, 0, none⟩), .pointer (some ⟨gt, og, none⟩)] w fun e w' => (∃ v, e = .returned v) ∧ ZB false 85 w0 lo g (startX s t.nm t.at_ t.sh) w' := by
  subst hlo
  have TK_ : Hid (∀ W, Below w0.heap.size w0 W → T5 W gt og t a c ∧ AAt W a t.at_) := fun W hb => ⟨ht.below hb, ha.below hb⟩
  have HZ := Hid.mk' h
  have HS := Hid.mk' hs
  obtain ⟨τ, vn, vo, va, vt, us, hz⟩ := id h
  obtain ⟨k0, k1, k2, k3, k4, k5⟩ := (TK_.out w hz.bl).1
  have GS0 := Hid.mk' (gs_start0 hs t.nm)
  have LG0 := Hid.mk' ((start0_nd s t.nm).2.trans hlg)
  clear ht ha hz h hs
  cases hp : (t.nm.toList == [112]) with
  | true =>
    have E0 : Hid (start0 s t.nm = closeX s ⟨#[112]⟩) := Hid.mk' (by unfold start0 pBt; rw [hp, if_pos rfl]; exact closeX_congr (by rw [p_list]; exact eq_of_beq hp))
    have KC := Hid.mk' (closeS_any w0 w0.heap.size g s ⟨#[112]⟩ w HZ.out HS.out)
    rw [← E0.out] at KC
    go_enter Tryz.func105, Tryz.ntmps105
    go_wp2_with fail
    refine KC.out.mono ?_
    rintro e W ⟨⟨v9, rfl⟩, hz1⟩
    have HZ1 := Hid.mk' hz1
    clear hz1 KC k0 k1 k2 k3 k4 k5
    obtain ⟨s1, hs1⟩ : ∃ s1, start0 s t.nm = s1 := ⟨_, rfl⟩
    have ES := Hid.mk' hs1
    rw [hs1] at HZ1 GS0 LG0
    clear hs1
    have n60 := GS0.out.n
    have o7 := GS0.out.o
    obtain ⟨τ1, vn1, vo1, va1, vt1, us1, hz1⟩ := HZ1.out
    obtain ⟨po, co, eo, _⟩ := hz1.op.row
    subst eo
    obtain ⟨pn, cn, en, _⟩ := own_len hz1.ns.row
    subst en
    obtain ⟨c0, c1, c2, c3⟩ := cells3 hz1.box
    obtain ⟨hrow, haa⟩ := TK_.out W hz1.bl
    obtain ⟨k0, k1, k2, k3, k4, k5⟩ := id hrow
    have HZ2 := Hid.mk' hz1
    have HR := Hid.mk' hrow
    have HAA := Hid.mk' haa
    clear hz1 hrow haa
    by_cases h7 : 7 ≤ s1.op.length
    · have E : Hid (startX s t.nm t.at_ t.sh = s1) := Hid.mk' (by rw [startX_deep (by rw [ES.out]; exact h7), ES.out])
      have h7' : (s1.op.length : Int) ≥ 7 := by omega
      clear HAA
      go_wp2
      (try simp only [Exit.inBlock, Exit.then])
      refine bodyPost_ret (results_none rfl _ _ _) rfl ?_
      exact ⟨⟨_, rfl⟩, by rw [E.out]; exact HZ2.out.zb⟩
    have EP : Hid (startX s t.nm t.at_ t.sh = openX (addX s1 t.nm t.at_ []) t.nm t.sh s1.nd.length) := Hid.mk' (by rw [startX_put (by rw [ES.out]; exact h7), ES.out])
    have h7' : ¬ (s1.op.length : Int) ≥ 7 := by omega
    clear h7
    go_wp2_with fail
    refine wp_region_held_drew (S := fun w' => w'.cell? ⟨gt, og + 2, none⟩ = some (.string t.nm) ∧ w'.cell? ⟨gt, og + 3, none⟩ = some (.slice a t.at_.length c)) (by kernel_rfl) (by simp [*]) (fun hHeld => ?_)
    refine wpAnyH_take (i := 0) (oi := ⟨_, _, _, _, _, _⟩) (v := ?_) rfl (by kernel_rfl) (by kernel_rfl) (by kernel_rfl) (fun _ _ _ h => h) (Or.inl ⟨by rfl, ?_⟩) (by assumption) ?_
    rotate_left
    · (intro w hSw; (try dsimp only at hSw); go_simp; (try with_reducible rfl))
    try simp only [Act.put, zA, zB, zC]
    refine wpAnyH_take (i := 1) (oi := ⟨_, _, _, _, _, _⟩) (v := ?_) rfl (by kernel_rfl) (by kernel_rfl) (by kernel_rfl) (fun _ _ _ h => h) (Or.inl ⟨by rfl, ?_⟩) (by assumption) ?_
    rotate_left
    · (intro w hSw; (try dsimp only at hSw); go_simp; (try with_reducible rfl))
    try simp only [Act.put, zA, zB, zC]
    refine wpAnyH_take (i := 2) (oi := ⟨_, _, _, _, _, _⟩) (v := ?_) rfl (by kernel_rfl) (by kernel_rfl) (by kernel_rfl) (fun _ _ _ h => h) (Or.inl ⟨by rfl, ?_⟩) (by assumption) ?_
    rotate_left
    · (intro w hSw; (try dsimp only at hSw); go_simp; (try with_reducible rfl))
    try simp only [Act.put, zA, zB, zC]
    refine wpAnyH_take (i := 3) (oi := ⟨_, _, _, _, _, _⟩) (v := ?_) rfl (by kernel_rfl) (by kernel_rfl) (by kernel_rfl) (fun _ _ _ h => h) (Or.inl ⟨by rfl, ?_⟩) (by assumption) ?_
    rotate_left
    · (intro w hSw; (try dsimp only at hSw); go_simp; (try with_reducible rfl))
    try simp only [Act.put, zA, zB, zC]
    refine wpAnyH_take (i := 4) (oi := ⟨_, _, _, _, _, _⟩) (v := ?_) rfl (by kernel_rfl) (by kernel_rfl) (by kernel_rfl) (fun _ _ _ h => h) (Or.inl ⟨by rfl, ?_⟩) (by assumption) ?_
    rotate_left
    · (intro w hSw; (try dsimp only at hSw); go_simp; (try with_reducible rfl))
    try simp only [Act.put, zA, zB, zC]
    refine wpAnyH_take (i := 5) (oi := ⟨_, _, _, _, _, _⟩) (v := ?_) rfl (by kernel_rfl) (by kernel_rfl) (by kernel_rfl) (fun _ _ _ h => h) (Or.inl ⟨by rfl, ?_⟩) (by assumption) ?_
    rotate_left
    · (intro w hSw; (try dsimp only at hSw); go_simp; (try with_reducible rfl))
    try simp only [Act.put, zA, zB, zC]
    refine wpAnyH_take (i := 6) (oi := ⟨_, _, _, _, _, _⟩) (v := ?_) rfl (by kernel_rfl) (by kernel_rfl) (by kernel_rfl) (fun _ _ _ h => h) (Or.inl ⟨by rfl, ?_⟩) (by assumption) ?_
    rotate_left
    · (intro w hSw; (try dsimp only at hSw); go_simp; (try with_reducible rfl))
    try simp only [Act.put, zA, zB, zC]
    refine wpAnyH_take (i := 7) (oi := ⟨_, _, _, _, _, _⟩) (v := ?_) rfl (by kernel_rfl) (by kernel_rfl) (by kernel_rfl) (fun _ _ _ h => h) (Or.inl ⟨by rfl, ?_⟩) (by assumption) ?_
    rotate_left
    · (intro w hSw; (try dsimp only at hSw); go_simp; (try with_reducible rfl))
    try simp only [Act.put, zA, zB, zC]
    refine wpAnyH_take (i := 8) (oi := ⟨_, _, _, _, _, _⟩) (v := ?_) rfl (by kernel_rfl) (by kernel_rfl) (by kernel_rfl) (fun _ _ _ h => h) (Or.inl ⟨by rfl, ?_⟩) (by assumption) ?_
    rotate_left
    · (intro w hSw; (try dsimp only at hSw); go_simp; (try with_reducible rfl))
    try simp only [Act.put, zA, zB, zC]
    refine wpAnyH_ready (rs := [9]) (by kernel_rfl) (by simp) ?_
    refine AllReadyH.cons (o := ⟨_, _, _, _, _, _⟩) rfl (fun K hK => ?_) AllReadyH.nil
    go_simp
    go_at_call 130
    refine (l4CopyAttrs_own a c t.at_ W.drew (HAA.out.below (Below.refl _ _).drew) (by omega)).mono ?_
    rintro e w2 ⟨va_, us_, rfl, hoa, hb2⟩
    obtain ⟨pa, ca, ea, _⟩ := own_len hoa.row
    subst ea
    replace hb2 := undrew hb2
    have B2 := Hid.mk' hb2
    have HOA : Hid (OA W.heap.size w2 (.slice pa t.at_.length ca) t.at_ us_) := Hid.mk' hoa
    have y2 := (hb2.cell k5).trans k2
    have y3 := (hb2.cell k5).trans k3
    clear hb2 hoa
    refine hK.out _ _ ⟨y2, y3⟩ (fun hHeld => ?_)
    clear hK K
    try simp only [Act.put, zA, zB, zC]
    refine wpAnyH_take (i := 10) (oi := ⟨_, _, _, _, _, _⟩) (v := ?_) rfl (by kernel_rfl) (by kernel_rfl) (by kernel_rfl) (fun _ _ _ h => h) (Or.inl ⟨by rfl, ?_⟩) (by assumption) ?_
    rotate_left
    · (intro w hSw; (try dsimp only at hSw); go_simp; (try with_reducible rfl))
    try simp only [Act.put, zA, zB, zC]
    refine wpAnyH_ready (rs := [11]) (by kernel_rfl) (by simp) ?_
    refine AllReadyH.cons (o := ⟨_, _, _, _, _, _⟩) rfl (fun K hK => ?_) AllReadyH.nil
    go_simp
    go_at_call 132
    refine (addS_any w0 w0.heap.size g s1 W τ1 _ _ va1 vt1 us1 HZ2.out GS0.out W.heap.size t.nm t.at_ [] (.slice pa t.at_.length ca) (.slice none 0 0) us_ 0 w2 B2.out HOA.out (Nat.le_refl _) ⟨rfl, .inl ⟨rfl, rfl⟩⟩ (fun k e => by simp [Value.ownBlock] at e)).mono ?_
    rintro e w3 ⟨⟨v8, rfl⟩, hz3⟩
    have HZ3 := Hid.mk' hz3
    obtain ⟨τ3, vn3, vo3, va3, vt3, us3, hz3⟩ := hz3
    obtain ⟨j0, j1, j2, j3, j4, j5⟩ := (TK_.out w3 hz3.bl).1
    clear hz3
    refine hK.out _ _ ⟨j2, j3⟩ (fun hHeld => ?_)
    clear hK K
    try simp only [Act.put, zA, zB, zC]
    refine wpAnyH_done (by kernel_rfl) ?_ _
    have GS3 := Hid.mk' (gs_add GS0.out LG0.out (tg := t.nm) (at_ := t.at_) (tx := []) (by simp))
    obtain ⟨s3, hs3⟩ : ∃ s3, addX s1 t.nm t.at_ [] = s3 := ⟨_, rfl⟩
    rw [hs3] at HZ3 EP GS3
    clear hs3
    obtain ⟨τ4, vn4, vo4, va4, vt4, us4, hz4⟩ := HZ3.out
    obtain ⟨po4, co4, eo4, _⟩ := hz4.op.row
    subst eo4
    obtain ⟨pn4, cn4, en4, _⟩ := own_len hz4.ns.row
    subst en4
    clear c0 c1 c2 c3 k0 k1 k2 k3 k4 k5
    obtain ⟨c0, c1, c2, c3⟩ := cells3 hz4.box
    have f1 := hz4.box.frozen 1
    have HZ4 := Hid.mk' hz4
    have o74 := GS3.out.o
    have KV := l6Void_any t.nm w3
    clear hz4
    cases hl3 : s3.lg with
    | true =>
      have E : Hid (startX s t.nm t.at_ t.sh = s3) := Hid.mk' (by rw [EP.out]; exact openX_no (by rw [hl3]; simp))
      rw [hl3] at c2
      clear hl3 KV
      go_wp2_with (first | go_big_skip)
      go_end0
      exact ⟨⟨_, rfl⟩, by rw [E.out]; exact HZ4.out.zb⟩
    | false =>
      have L3 := Hid.mk' hl3
      rw [hl3] at c2
      clear hl3
      cases hv : voidB t.nm with
      | true =>
        have E : Hid (startX s t.nm t.at_ t.sh = s3) := Hid.mk' (by rw [EP.out]; exact openX_no (by rw [hv]; simp))
        rw [hv] at KV
        have KV := Hid.mk' KV
        clear hv
        go_wp2_with (first | go_big_skip | (go_at_call 129; refine KV.out.mono ?_; rintro e w9 ⟨rfl, hw9⟩; obtain rfl := hw9.symm))
        go_end0
        exact ⟨⟨_, rfl⟩, by rw [E.out]; exact HZ4.out.zb⟩
      | false =>
        rw [hv] at KV
        have KV := Hid.mk' KV
        have VV := Hid.mk' hv
        clear hv
        cases hsh : t.sh with
        | true =>
          have E : Hid (startX s t.nm t.at_ t.sh = s3) := Hid.mk' (by rw [EP.out]; exact openX_no (by rw [hsh]; simp))
          rw [hsh] at j4
          clear hsh
          go_wp2_with (first | go_big_skip | (go_at_call 129; refine KV.out.mono ?_; rintro e w9 ⟨rfl, hw9⟩; obtain rfl := hw9.symm))
          go_end0
          exact ⟨⟨_, rfl⟩, by rw [E.out]; exact HZ4.out.zb⟩
        | false =>
          have E : Hid (startX s t.nm t.at_ t.sh = ⟨s3.nd, s3.op ++ [(s1.nd.length : Int)], s3.lg⟩) := Hid.mk' (by rw [EP.out]; exact openX_yes L3.out VV.out hsh)
          rw [hsh] at j4
          clear hsh
          have VB := below_new w3 (.cells #[.int .i64 (s1.nd.length : Int)] 2)
          have HZ5 := Hid.mk' (HZ4.out.below VB)
          have NC := Hid.mk' (new_cells w3 2 [.int .i64 (s1.nd.length : Int)] w3.heap.size rfl)
          have b1 := (cells3 HZ5.out.box).2.1
          clear VB
          go_wp2_with (first | go_big_skip | (go_at_call 129; refine KV.out.mono ?_; rintro e w9 ⟨rfl, hw9⟩; obtain rfl := hw9.symm) | (at_builtin; refine wpList_append_at _ rfl (.tmp 59) (.tmp 61) 74 rfl w0.heap.size 2 (.int .i64 0) 1 8 Tryz.underlying74 Tryz.info2 rfl (by decide) _ _ _ rfl HZ5.out.op.1 _ 1 _ (ics [(s1.nd.length : Int)]) rfl (by simp [ics]) (.inr ⟨_, rfl, NC.out⟩) (ics_one _) (by unfold maxLen; omega) (by omega) HZ5.out.sz ?_; intro v' w5 ho hgr hat; obtain ⟨av5, cv5, ev5, _⟩ := own_len ho; subst ev5; have gnl : ∀ j, (Value.slice po4 s3.op.length co4).ownBlock = some j → ¬ j = g := (fun j e ej => by have h1 := HZ5.out.op.2 j e; have h2 := HZ5.out.gl; rw [ej] at h1; omega); have z1 := hgr.cell (a := ⟨g, 1, none⟩) b1 (fun e => gnl _ e.symm rfl); have z2 : w5.frozen? ⟨g, 1, none⟩ = false := (HZ5.out.box.of_block (hgr.block g HZ5.out.box.lt (fun e => gnl _ e.symm rfl))).frozen 1; have HQ := Hid.mk' (HZ5.out.pushS (wa := w3) (s1.nd.length : Int) ho hgr hat); clear ho hgr hat gnl))
          go_end0
          exact ⟨⟨_, rfl⟩, by rw [E.out]; exact HQ.out⟩
  | false =>
    have E0 : Hid (start0 s t.nm = s) := Hid.mk' (by unfold start0 pBt; rw [hp]; rfl)
    have HZ1 : Hid (ZB false 85 w0 w0.heap.size g (start0 s t.nm) w) := Hid.mk' (by rw [E0.out]; exact HZ.out)
    clear k0 k1 k2 k3 k4 k5
    go_enter Tryz.func105, Tryz.ntmps105
    obtain ⟨s1, hs1⟩ : ∃ s1, start0 s t.nm = s1 := ⟨_, rfl⟩
    have ES := Hid.mk' hs1
    rw [hs1] at HZ1 GS0 LG0
    clear hs1
    have n60 := GS0.out.n
    have o7 := GS0.out.o
    obtain ⟨τ1, vn1, vo1, va1, vt1, us1, hz1⟩ := HZ1.out
    obtain ⟨po, co, eo, _⟩ := hz1.op.row
    subst eo
    obtain ⟨pn, cn, en, _⟩ := own_len hz1.ns.row
    subst en
    obtain ⟨c0, c1, c2, c3⟩ := cells3 hz1.box
    obtain ⟨hrow, haa⟩ := TK_.out w hz1.bl
    obtain ⟨k0, k1, k2, k3, k4, k5⟩ := id hrow
    have HZ2 := Hid.mk' hz1
    have HR := Hid.mk' hrow
    have HAA := Hid.mk' haa
    clear hz1 hrow haa
    by_cases h7 : 7 ≤ s1.op.length
    · have E : Hid (startX s t.nm t.at_ t.sh = s1) := Hid.mk' (by rw [startX_deep (by rw [ES.out]; exact h7), ES.out])
      have h7' : (s1.op.length : Int) ≥ 7 := by omega
      clear HAA
      go_wp2
      (try simp only [Exit.inBlock, Exit.then])
      refine bodyPost_ret (results_none rfl _ _ _) rfl ?_
      exact ⟨⟨_, rfl⟩, by rw [E.out]; exact HZ2.out.zb⟩
    have EP : Hid (startX s t.nm t.at_ t.sh = openX (addX s1 t.nm t.at_ []) t.nm t.sh s1.nd.length) := Hid.mk' (by rw [startX_put (by rw [ES.out]; exact h7), ES.out])
    have h7' : ¬ (s1.op.length : Int) ≥ 7 := by omega
    clear h7
    go_wp2_with fail
    refine wp_region_held_drew (S := fun w' => w'.cell? ⟨gt, og + 2, none⟩ = some (.string t.nm) ∧ w'.cell? ⟨gt, og + 3, none⟩ = some (.slice a t.at_.length c)) (by kernel_rfl) (by simp [*]) (fun hHeld => ?_)
    refine wpAnyH_take (i := 0) (oi := ⟨_, _, _, _, _, _⟩) (v := ?_) rfl (by kernel_rfl) (by kernel_rfl) (by kernel_rfl) (fun _ _ _ h => h) (Or.inl ⟨by rfl, ?_⟩) (by assumption) ?_
    rotate_left
    · (intro w hSw; (try dsimp only at hSw); go_simp; (try with_reducible rfl))
    try simp only [Act.put, zA, zB, zC]
    refine wpAnyH_take (i := 1) (oi := ⟨_, _, _, _, _, _⟩) (v := ?_) rfl (by kernel_rfl) (by kernel_rfl) (by kernel_rfl) (fun _ _ _ h => h) (Or.inl ⟨by rfl, ?_⟩) (by assumption) ?_
    rotate_left
    · (intro w hSw; (try dsimp only at hSw); go_simp; (try with_reducible rfl))
    try simp only [Act.put, zA, zB, zC]
    refine wpAnyH_take (i := 2) (oi := ⟨_, _, _, _, _, _⟩) (v := ?_) rfl (by kernel_rfl) (by kernel_rfl) (by kernel_rfl) (fun _ _ _ h => h) (Or.inl ⟨by rfl, ?_⟩) (by assumption) ?_
    rotate_left
    · (intro w hSw; (try dsimp only at hSw); go_simp; (try with_reducible rfl))
    try simp only [Act.put, zA, zB, zC]
    refine wpAnyH_take (i := 3) (oi := ⟨_, _, _, _, _, _⟩) (v := ?_) rfl (by kernel_rfl) (by kernel_rfl) (by kernel_rfl) (fun _ _ _ h => h) (Or.inl ⟨by rfl, ?_⟩) (by assumption) ?_
    rotate_left
    · (intro w hSw; (try dsimp only at hSw); go_simp; (try with_reducible rfl))
    try simp only [Act.put, zA, zB, zC]
    refine wpAnyH_take (i := 4) (oi := ⟨_, _, _, _, _, _⟩) (v := ?_) rfl (by kernel_rfl) (by kernel_rfl) (by kernel_rfl) (fun _ _ _ h => h) (Or.inl ⟨by rfl, ?_⟩) (by assumption) ?_
    rotate_left
    · (intro w hSw; (try dsimp only at hSw); go_simp; (try with_reducible rfl))
    try simp only [Act.put, zA, zB, zC]
    refine wpAnyH_take (i := 5) (oi := ⟨_, _, _, _, _, _⟩) (v := ?_) rfl (by kernel_rfl) (by kernel_rfl) (by kernel_rfl) (fun _ _ _ h => h) (Or.inl ⟨by rfl, ?_⟩) (by assumption) ?_
    rotate_left
    · (intro w hSw; (try dsimp only at hSw); go_simp; (try with_reducible rfl))
    try simp only [Act.put, zA, zB, zC]
    refine wpAnyH_take (i := 6) (oi := ⟨_, _, _, _, _, _⟩) (v := ?_) rfl (by kernel_rfl) (by kernel_rfl) (by kernel_rfl) (fun _ _ _ h => h) (Or.inl ⟨by rfl, ?_⟩) (by assumption) ?_
    rotate_left
    · (intro w hSw; (try dsimp only at hSw); go_simp; (try with_reducible rfl))
    try simp only [Act.put, zA, zB, zC]
    refine wpAnyH_take (i := 7) (oi := ⟨_, _, _, _, _, _⟩) (v := ?_) rfl (by kernel_rfl) (by kernel_rfl) (by kernel_rfl) (fun _ _ _ h => h) (Or.inl ⟨by rfl, ?_⟩) (by assumption) ?_
    rotate_left
    · (intro w hSw; (try dsimp only at hSw); go_simp; (try with_reducible rfl))
    try simp only [Act.put, zA, zB, zC]
    refine wpAnyH_take (i := 8) (oi := ⟨_, _, _, _, _, _⟩) (v := ?_) rfl (by kernel_rfl) (by kernel_rfl) (by kernel_rfl) (fun _ _ _ h => h) (Or.inl ⟨by rfl, ?_⟩) (by assumption) ?_
    rotate_left
    · (intro w hSw; (try dsimp only at hSw); go_simp; (try with_reducible rfl))
    try simp only [Act.put, zA, zB, zC]
    refine wpAnyH_ready (rs := [9]) (by kernel_rfl) (by simp) ?_
    refine AllReadyH.cons (o := ⟨_, _, _, _, _, _⟩) rfl (fun K hK => ?_) AllReadyH.nil
    go_simp
    go_at_call 130
    refine (l4CopyAttrs_own a c t.at_ w.drew (HAA.out.below (Below.refl _ _).drew) (by omega)).mono ?_
    rintro e w2 ⟨va_, us_, rfl, hoa, hb2⟩
    obtain ⟨pa, ca, ea, _⟩ := own_len hoa.row
    subst ea
    replace hb2 := undrew hb2
    have B2 := Hid.mk' hb2
    have HOA : Hid (OA w.heap.size w2 (.slice pa t.at_.length ca) t.at_ us_) := Hid.mk' hoa
    have y2 := (hb2.cell k5).trans k2
    have y3 := (hb2.cell k5).trans k3
    clear hb2 hoa
    refine hK.out _ _ ⟨y2, y3⟩ (fun hHeld => ?_)
    clear hK K
    try simp only [Act.put, zA, zB, zC]
    refine wpAnyH_take (i := 10) (oi := ⟨_, _, _, _, _, _⟩) (v := ?_) rfl (by kernel_rfl) (by kernel_rfl) (by kernel_rfl) (fun _ _ _ h => h) (Or.inl ⟨by rfl, ?_⟩) (by assumption) ?_
    rotate_left
    · (intro w hSw; (try dsimp only at hSw); go_simp; (try with_reducible rfl))
    try simp only [Act.put, zA, zB, zC]
    refine wpAnyH_ready (rs := [11]) (by kernel_rfl) (by simp) ?_
    refine AllReadyH.cons (o := ⟨_, _, _, _, _, _⟩) rfl (fun K hK => ?_) AllReadyH.nil
    go_simp
    go_at_call 132
    refine (addS_any w0 w0.heap.size g s1 w τ1 _ _ va1 vt1 us1 HZ2.out GS0.out w.heap.size t.nm t.at_ [] (.slice pa t.at_.length ca) (.slice none 0 0) us_ 0 w2 B2.out HOA.out (Nat.le_refl _) ⟨rfl, .inl ⟨rfl, rfl⟩⟩ (fun k e => by simp [Value.ownBlock] at e)).mono ?_
    rintro e w3 ⟨⟨v8, rfl⟩, hz3⟩
    have HZ3 := Hid.mk' hz3
    obtain ⟨τ3, vn3, vo3, va3, vt3, us3, hz3⟩ := hz3
    obtain ⟨j0, j1, j2, j3, j4, j5⟩ := (TK_.out w3 hz3.bl).1
    clear hz3
    refine hK.out _ _ ⟨j2, j3⟩ (fun hHeld => ?_)
    clear hK K
    try simp only [Act.put, zA, zB, zC]
    refine wpAnyH_done (by kernel_rfl) ?_ _
    have GS3 := Hid.mk' (gs_add GS0.out LG0.out (tg := t.nm) (at_ := t.at_) (tx := []) (by simp))
    obtain ⟨s3, hs3⟩ : ∃ s3, addX s1 t.nm t.at_ [] = s3 := ⟨_, rfl⟩
    rw [hs3] at HZ3 EP GS3
    clear hs3
    obtain ⟨τ4, vn4, vo4, va4, vt4, us4, hz4⟩ := HZ3.out
    obtain ⟨po4, co4, eo4, _⟩ := hz4.op.row
    subst eo4
    obtain ⟨pn4, cn4, en4, _⟩ := own_len hz4.ns.row
    subst en4
    clear c0 c1 c2 c3 k0 k1 k2 k3 k4 k5
    obtain ⟨c0, c1, c2, c3⟩ := cells3 hz4.box
    have f1 := hz4.box.frozen 1
    have HZ4 := Hid.mk' hz4
    have o74 := GS3.out.o
    have KV := l6Void_any t.nm w3
    clear hz4
    cases hl3 : s3.lg with
    | true =>
      have E : Hid (startX s t.nm t.at_ t.sh = s3) := Hid.mk' (by rw [EP.out]; exact openX_no (by rw [hl3]; simp))
      rw [hl3] at c2
      clear hl3 KV
      go_wp2_with (first | go_big_skip)
      go_end0
      exact ⟨⟨_, rfl⟩, by rw [E.out]; exact HZ4.out.zb⟩
    | false =>
      have L3 := Hid.mk' hl3
      rw [hl3] at c2
      clear hl3
      cases hv : voidB t.nm with
      | true =>
        have E : Hid (startX s t.nm t.at_ t.sh = s3) := Hid.mk' (by rw [EP.out]; exact openX_no (by rw [hv]; simp))
        rw [hv] at KV
        have KV := Hid.mk' KV
        clear hv
        go_wp2_with (first | go_big_skip | (go_at_call 129; refine KV.out.mono ?_; rintro e w9 ⟨rfl, hw9⟩; obtain rfl := hw9.symm))
        go_end0
        exact ⟨⟨_, rfl⟩, by rw [E.out]; exact HZ4.out.zb⟩
      | false =>
        rw [hv] at KV
        have KV := Hid.mk' KV
        have VV := Hid.mk' hv
        clear hv
        cases hsh : t.sh with
        | true =>
          have E : Hid (startX s t.nm t.at_ t.sh = s3) := Hid.mk' (by rw [EP.out]; exact openX_no (by rw [hsh]; simp))
          rw [hsh] at j4
          clear hsh
          go_wp2_with (first | go_big_skip | (go_at_call 129; refine KV.out.mono ?_; rintro e w9 ⟨rfl, hw9⟩; obtain rfl := hw9.symm))
          go_end0
          exact ⟨⟨_, rfl⟩, by rw [E.out]; exact HZ4.out.zb⟩
        | false =>
          have E : Hid (startX s t.nm t.at_ t.sh = ⟨s3.nd, s3.op ++ [(s1.nd.length : Int)], s3.lg⟩) := Hid.mk' (by rw [EP.out]; exact openX_yes L3.out VV.out hsh)
          rw [hsh] at j4
          clear hsh
          have VB := below_new w3 (.cells #[.int .i64 (s1.nd.length : Int)] 2)
          have HZ5 := Hid.mk' (HZ4.out.below VB)
          have NC := Hid.mk' (new_cells w3 2 [.int .i64 (s1.nd.length : Int)] w3.heap.size rfl)
          have b1 := (cells3 HZ5.out.box).2.1
          clear VB
          go_wp2_with (first | go_big_skip | (go_at_call 129; refine KV.out.mono ?_; rintro e w9 ⟨rfl, hw9⟩; obtain rfl := hw9.symm) | (at_builtin; refine wpList_append_at _ rfl (.tmp 59) (.tmp 61) 74 rfl w0.heap.size 2 (.int .i64 0) 1 8 Tryz.underlying74 Tryz.info2 rfl (by decide) _ _ _ rfl HZ5.out.op.1 _ 1 _ (ics [(s1.nd.length : Int)]) rfl (by simp [ics]) (.inr ⟨_, rfl, NC.out⟩) (ics_one _) (by unfold maxLen; omega) (by omega) HZ5.out.sz ?_; intro v' w5 ho hgr hat; obtain ⟨av5, cv5, ev5, _⟩ := own_len ho; subst ev5; have gnl : ∀ j, (Value.slice po4 s3.op.length co4).ownBlock = some j → ¬ j = g := (fun j e ej => by have h1 := HZ5.out.op.2 j e; have h2 := HZ5.out.gl; rw [ej] at h1; omega); have z1 := hgr.cell (a := ⟨g, 1, none⟩) b1 (fun e => gnl _ e.symm rfl); have z2 : w5.frozen? ⟨g, 1, none⟩ = false := (HZ5.out.box.of_block (hgr.block g HZ5.out.box.lt (fun e => gnl _ e.symm rfl))).frozen 1; have HQ := Hid.mk' (HZ5.out.pushS (wa := w3) (s1.nd.length : Int) ho hgr hat); clear ho hgr hat gnl))
          go_end0
          exact ⟨⟨_, rfl⟩, by rw [E.out]; exact HQ.out⟩

set_option maxRecDepth 100000 in
set_option maxHeartbeats 3200000 in
theorem putE (w0 : World) (lo g gt og : Nat) (s : BS) (t : TK) (a : Option Addr) (c : Nat) (w : World) (h : ZB false 85 w0 lo g s w) (hs : GS s) (hlo : lo = w0.heap.size) (ht : T5 w0 gt og t a c) (ha : AAt w0 a t.at_) (hl : (t.at_.length : Int) + asz t.at_ ≤ 1048576) (hby : t.kd = 1 → 0 ≤ t.by_ ∧ t.by_ ≤ 255) :
    Calls Tryz.prog 81 #[.pointer (some ⟨g, 0, none⟩), .pointer (some ⟨gt, og, none⟩)] w fun e w' => (∃ v, e = .returned v) ∧ ZB false 85 w0 lo g (putX s t) w' := by
  subst hlo
  obtain ⟨τ, vn, vo, va, vt, us, hz⟩ := id h
  have HZ := Hid.mk' h
  obtain ⟨po, co, eo, _⟩ := hz.op.row
  subst eo
  obtain ⟨pn, cn, en, _⟩ := own_len hz.ns.row
  subst en
  obtain ⟨c0, c1, c2, c3⟩ := cells3 hz.box
  obtain ⟨k0, k1, k2, k3, k4, k5⟩ := ht.below hz.bl
  clear hz h
  cases hlg : s.lg with
  | true =>
    have E := Hid.mk' (putX_large (t := t) hlg)
    rw [hlg] at c2
    clear hlg
    go_enter Tryz.func81, Tryz.ntmps81
    go_wp2
    (try simp only [Exit.inBlock, Exit.then])
    refine bodyPost_ret (results_none rfl _ _ _) rfl ?_
    exact ⟨⟨_, rfl⟩, by rw [E.out]; exact HZ.out⟩
  | false =>
    by_cases q1 : t.kd = 1
    · have E := Hid.mk' (putX_byte hlg q1)
      obtain ⟨y0, y1⟩ := hby q1
      have KB := Hid.mk' (byteS_any w0 w0.heap.size g s t.by_ w HZ.out hs)
      rw [hlg] at c2
      rw [q1] at k0
      have yw : IntKind.u8.wrap t.by_ = t.by_ := by rw [IntKind.wrap_u8]; omega
      clear hlg q1 hby
      go_enter Tryz.func81, Tryz.ntmps81
      go_wp2_with fail
      refine KB.out.mono ?_
      rintro e w1 ⟨⟨v9, rfl⟩, hz1⟩
      have HZ1 := Hid.mk' hz1
      clear hz1 KB
      go_wp2
      go_end0
      exact ⟨⟨_, rfl⟩, by rw [E.out]; exact HZ1.out⟩
    by_cases q2 : t.kd = 2
    · have E := Hid.mk' (putX_start hlg q2)
      have KB := Hid.mk' (startE w0 w0.heap.size g gt og s t a c w HZ.out hs hlg rfl ht ha hl)
      rw [hlg] at c2
      rw [q2] at k0
      clear hlg q1 q2 hby ht ha
      go_enter Tryz.func81, Tryz.ntmps81
      go_wp2_with fail
      refine KB.out.mono ?_
      rintro e w1 ⟨⟨v9, rfl⟩, hz1⟩
      have HZ1 := Hid.mk' hz1
      clear hz1 KB
      go_wp2
      go_end0
      exact ⟨⟨_, rfl⟩, by rw [E.out]; exact HZ1.out⟩
    by_cases q3 : t.kd = 3
    · have E := Hid.mk' (putX_end hlg q3)
      have KB := Hid.mk' (closeS_any w0 w0.heap.size g s t.nm w HZ.out hs)
      rw [hlg] at c2
      rw [q3] at k0
      clear hlg q1 q2 q3 hby ht ha
      go_enter Tryz.func81, Tryz.ntmps81
      go_wp2_with fail
      refine KB.out.mono ?_
      rintro e w1 ⟨⟨v9, rfl⟩, hz1⟩
      have HZ1 := Hid.mk' hz1
      clear hz1 KB
      go_wp2
      go_end0
      exact ⟨⟨_, rfl⟩, by rw [E.out]; exact HZ1.out⟩
    have E := Hid.mk' (putX_note hlg q1 q2 q3)
    rw [hlg] at c2
    have r1 : (t.kd == 1) = false := by simpa using q1
    have r2 : (t.kd == 2) = false := by simpa using q2
    have r3' : (t.kd == 3) = false := by simpa using q3
    clear hlg q1 q2 q3 hby ht ha
    go_enter Tryz.func81, Tryz.ntmps81
    go_wp2
    go_end0
    exact ⟨⟨_, rfl⟩, by rw [E.out]; exact HZ.out⟩

end Go.Proofs.YthcajggbcanmdaaGreatDoor

namespace Go.Proofs.YthcajggbcanmdaaGreatDoor
open Go.RowKit

def firstT : List TK → Int
  | [] => 0
  | t :: l => if tfault t = 0 then firstT l else tfault t

theorem firstT_none : ∀ (l : List TK), (∀ j, j < l.length → tfault (tkK l j) = 0) → firstT l = 0
  | [], _ => rfl
  | t :: l, h => by
    have h0 : tfault t = 0 := h 0 (by simp)
    unfold firstT
    rw [if_pos h0]
    exact firstT_none l (fun j hj => h (j + 1) (by simpa using hj))

theorem firstT_some : ∀ (l : List TK) (k : Nat), k < l.length → (∀ j, j < k → tfault (tkK l j) = 0) → ¬ tfault (tkK l k) = 0 → firstT l = tfault (tkK l k)
  | [], k, hk, _, _ => absurd hk (Nat.not_lt_zero _)
  | t :: l, 0, _, _, h => by
    unfold firstT
    rw [if_neg (show ¬ tfault t = 0 from h)]; rfl
  | t :: l, k + 1, hk, h0, h => by
    unfold firstT
    rw [if_pos (show tfault t = 0 from h0 0 (by omega))]
    exact firstT_some l k (by simpa using hk) (fun j hj => h0 (j + 1) (by omega)) h

def foldX (s : BS) (l : List TK) : BS := l.foldl putX s

theorem foldX_take (s : BS) (l : List TK) (k : Nat) (hk : k < l.length) : foldX s (l.take (k + 1)) = putX (foldX s (l.take k)) (tkK l k) := by
  unfold foldX
  rw [List.take_add_one, List.foldl_append, List.getElem?_eq_getElem hk]
  simp [tkK, hk]

theorem gs_fold {s : BS} (h : GS s) : ∀ (l : List TK), GS (foldX s l) := by
  intro l
  induction l generalizing s with
  | nil => exact h
  | cons t l ih => exact ih (gs_put h t)

theorem nS_fold : ∀ (l : List TK) (s : BS), nS (foldX s l) ≤ nS s + 2 * l.length + tssz l
  | [], s => by simp [foldX, tssz]
  | t :: l, s => by
    have h := nS_fold l (putX s t)
    have h2 := nS_put s t
    have e : tS t = tsz t := rfl
    have e2 : foldX s (t :: l) = foldX (putX s t) l := rfl
    rw [e2]
    simp only [List.length_cons, tssz]
    omega

def pallC (s : BS) (l : List TK) : Int := if bldF s = 0 then (if 300 < l.length then 2 else firstT l) else bldF s
def pallR (s : BS) (l : List TK) : BS := if pallC s l = 0 then foldX s l else noS

theorem pall_cases (s : BS) (l : List TK) : (¬ bldF s = 0 ∧ pallC s l = bldF s ∧ pallR s l = noS) ∨ (bldF s = 0 ∧ 300 < l.length ∧ pallC s l = 2 ∧ pallR s l = noS) ∨ (bldF s = 0 ∧ ¬ 300 < l.length ∧ pallC s l = firstT l) := by
  by_cases h : bldF s = 0
  · by_cases h2 : 300 < l.length
    · have e : pallC s l = 2 := by unfold pallC; rw [if_pos h, if_pos h2]
      exact .inr (.inl ⟨h, h2, e, by unfold pallR; rw [e, if_neg (by decide)]⟩)
    · exact .inr (.inr ⟨h, h2, by unfold pallC; rw [if_pos h, if_neg h2]⟩)
  · have e : pallC s l = bldF s := by unfold pallC; rw [if_neg h]
    exact .inl ⟨h, e, by unfold pallR; rw [e, if_neg h]⟩

theorem pallR_bad {s : BS} {l : List TK} (h : ¬ pallC s l = 0) : pallR s l = noS := by unfold pallR; rw [if_neg h]
theorem pallR_good {s : BS} {l : List TK} (h : pallC s l = 0) : pallR s l = foldX s l := by unfold pallR; rw [if_pos h]

theorem boxesA (w : World) (x0 x1 x2 : Value) :
    let W := (w.alloc (.cells #[x0, x1, x2] 85)).alloc (.cells #[.int .i64 0, .slice none 0 0, .slice none 0 0, .bool false] 87)
    Below w.heap.size w W ∧ W.rowIs w.heap.size 85 3 (r3 x0 x1 x2) ∧ W.rowIs (w.heap.size + 1) 87 4 (r4 (.int .i64 0) (.slice none 0 0) (.slice none 0 0) (.bool false)) := by
  refine ⟨(below_new w _).alloc (by simp) _, (row3 w _ x0 x1 x2).alloc _, ?_⟩
  have := row4 (w.alloc (.cells #[x0, x1, x2] 85)) 87 (.int .i64 0) (.slice none 0 0) (.slice none 0 0) (.bool false)
  rw [show (w.alloc (.cells #[x0, x1, x2] 85)).heap.size = w.heap.size + 1 by simp] at this
  exact this

set_option maxRecDepth 100000 in
set_option maxHeartbeats 6400000 in
theorem implAll_any (s : BS) (l : List TK) (a p q : Option Addr) (c d c' : Nat) (w : World) (ha : SAt w a p s) (ht : TsAt w q l) (hl : (s.nd.length : Int) + nssz s.nd + s.op.length ≤ 1048576) (hm : (l.length : Int) + tssz l ≤ 1048576) :
    Calls Tryz.prog 66 #[.agg #[.slice a s.nd.length c, .slice p s.op.length d, .bool s.lg], .slice q l.length c'] w fun e w' => PutP (pallC s l) (pallR s l) w e w' := by
  obtain ⟨N0, RX, RR⟩ := boxesA w (.slice a s.nd.length c) (.slice p s.op.length d) (.bool s.lg)
  have KF := implBF_any s a p c d _ (ha.below N0) hl
  have HS := Hid.mk' (ha.below N0)
  have HT := Hid.mk' (ht.below N0)
  have HN := Hid.mk' N0
  have HX := Hid.mk' RX
  have HR := Hid.mk' RR
  clear ha ht N0 RX RR
  obtain ⟨xb, hxb⟩ : ∃ xb, w.heap.size = xb := ⟨_, rfl⟩
  rw [hxb] at HX HR
  have XB := Hid.mk' hxb
  generalize hW : (w.alloc (.cells #[.slice a s.nd.length c, .slice p s.op.length d, .bool s.lg] 85)).alloc (.cells #[.int .i64 0, .slice none 0 0, .slice none 0 0, .bool false] 87) = W at *
  obtain ⟨x0, x1, x2, x3⟩ := cells3 HX.out
  rcases pall_cases s l with ⟨h1, h2, h3⟩ | ⟨h1, h4, h2, h3⟩ | ⟨h1, h4, h2⟩
  · have E2 := Hid.mk' h2
    have E3 := Hid.mk' h3
    have KF := Hid.mk' KF
    clear h2 h3
    generalize bldF s = bf at *
    go_enter Tryz.func66, Tryz.ntmps66
    go_wp2_with fail
    clear hW hxb
    refine KF.out.mono ?_
    rintro e w1 ⟨rfl, hb⟩
    have R1 := rowB HR.out hb
    have HB := Hid.mk' (HN.out.trans (hb.mono HN.out.size))
    obtain ⟨b0, b1, b2, b3, b4⟩ := cells4 R1
    obtain ⟨f0, f1, f2, f3⟩ := frz4 R1
    clear hb KF R1
    go_wp2
    refine bodyPost_ret (v := .agg #[.int .i64 bf, .slice none 0 0, .slice none 0 0, .bool false]) (by simp [results, Tryz.results66, go_sem, *]) rfl ?_
    rw [E2.out, E3.out]
    exact PutP.err (set4 HB.out (by have := XB.out; omega))
  · rw [h1] at KF
    have KF := Hid.mk' KF
    have E2 := Hid.mk' h2
    have E3 := Hid.mk' h3
    have h4' : (l.length : Int) > 300 := by omega
    clear h2 h3 h1
    go_enter Tryz.func66, Tryz.ntmps66
    go_wp2_with fail
    clear hW hxb
    refine KF.out.mono ?_
    rintro e w1 ⟨rfl, hb⟩
    have R1 := rowB HR.out hb
    have HB := Hid.mk' (HN.out.trans (hb.mono HN.out.size))
    obtain ⟨b0, b1, b2, b3, b4⟩ := cells4 R1
    obtain ⟨f0, f1, f2, f3⟩ := frz4 R1
    clear hb KF R1
    go_wp2
    refine bodyPost_ret (v := .agg #[.int .i64 2, .slice none 0 0, .slice none 0 0, .bool false]) (by simp [results, Tryz.results66, go_sem, *]) rfl ?_
    rw [E2.out, E3.out]
    exact PutP.err (set4 HB.out (by have := XB.out; omega))
  · have GS0 := Hid.mk' (gs_of h1)
    rw [h1] at KF
    have KF := Hid.mk' KF
    have E2 := Hid.mk' h2
    have h4' : ¬ (l.length : Int) > 300 := by omega
    clear h2 h1
    go_enter Tryz.func66, Tryz.ntmps66
    go_wp2_with fail
    clear hW hxb
    refine KF.out.mono ?_
    rintro e w1 ⟨rfl, hb⟩
    have HX := Hid.mk' (rowB HX.out hb)
    have HR := Hid.mk' (rowB HR.out hb)
    have HS := Hid.mk' (HS.out.below hb)
    have HT := Hid.mk' (HT.out.below hb)
    have HB := Hid.mk' (HN.out.trans (hb.mono HN.out.size))
    clear hb KF x0 x1 x2 x3
    obtain ⟨x0, x1, x2, x3⟩ := cells3 HX.out
    have KN := Hid.mk' (newBuilder_any s a p c d w1 HS.out GS0.out (by omega))
    go_wp2_with fail
    refine KN.out.mono ?_
    rintro e w2 ⟨g, rfl, hz⟩
    have HZ := Hid.mk' hz
    clear hz KN x0 x1 x2 x3
    go_wp2
    go_loopw [24] (fun i wr => ∃ k : Nat, k ≤ l.length ∧ i = .int .i64 k ∧ (∀ j, j < k → tfault (tkK l j) = 0) ∧ ZB true 138 w1 w1.heap.size g (foldX s (l.take k)) wr) (fun i _ => l.length - (intOf i).toNat)
    case atStart => exact ⟨0, Nat.zero_le _, rfl, fun j hj => absurd hj (Nat.not_lt_zero _), by simpa [foldX] using HZ.out⟩
    case round =>
      obtain ⟨k, hk, rfl, hz0, hzk⟩ := hrel
      have hbl : Below w1.heap.size w1 wr := by obtain ⟨_, _, _, _, _, _, z⟩ := id hzk; exact z.bl
      have HZ := Hid.mk' hzk
      have HZ0 := Hid.mk' hz0
      have HBL := Hid.mk' hbl
      clear hzk hz0
      by_cases hlt : k < l.length
      · have ci : (k : Int) < (l.length : Int) := by omega
        rcases HT.out with h0 | ⟨b1, o1, rfl, s0, hc1⟩
        · exact absurd hlt (by rw [h0]; exact Nat.not_lt_zero _)
        obtain ⟨h1, h2, h3, ⟨p1, d1, h5, h6⟩, h7⟩ := hc1 k hlt
        have AT := Hid.mk' h6
        replace h1 := (hbl.cell s0).trans h1
        replace h2 := (hbl.cell s0).trans h2
        replace h3 := (hbl.cell s0).trans h3
        replace h5 := (hbl.cell s0).trans h5
        replace h7 := (hbl.cell s0).trans h7
        have s1 := Nat.lt_of_lt_of_le s0 hbl.size
        have st := tssz_take l k hlt
        have sl := tssz_le l (k + 1)
        have et : tsz (tkK l k) = (tkK l k).nm.size + (tkK l k).at_.length + asz (tkK l k).at_ := rfl
        have FT := Hid.mk' (foldX_take s l k hlt)
        have FSx := Hid.mk' (firstT_some l k hlt HZ0.out)
        obtain ⟨t, ht⟩ : ∃ t, tkK l k = t := ⟨_, rfl⟩
        have HTK := Hid.mk' ht
        rw [ht] at h1 h2 h3 h5 h7 AT st et FT FSx
        have N1 := below_new wr (.cells #[.int .i64 t.kd, .int .i64 t.by_, .string t.nm, .slice p1 t.at_.length d1, .bool t.sh] 37)
        have RB := Hid.mk' (row5 wr 37 (.int .i64 t.kd) (.int .i64 t.by_) (.string t.nm) (.slice p1 t.at_.length d1) (.bool t.sh))
        have KT := take_any w1 w1.heap.size g (foldX s (l.take k)) t p1 d1 _ (HZ.out.below N1) (gs_fold GS0.out _) rfl AT.out (by omega) (by omega)
        have HBN := Hid.mk' (HBL.out.trans (N1.mono HBL.out.size))
        clear hc1 h6 hbl ht N1 st sl et
        generalize hW : wr.alloc (.cells #[.int .i64 t.kd, .int .i64 t.by_, .string t.nm, .slice p1 t.at_.length d1, .bool t.sh] 37) = W2 at *
        obtain ⟨y0, y1, y2, y3, y4, y5⟩ := cells5 RB.out
        by_cases hf : tfault t = 0
        · rw [if_pos hf, hf] at KT
          have KT := Hid.mk' KT
          have HF := Hid.mk' hf
          clear hf
          go_wp2_with fail
          clear hW h1 h2 h3 h5 h7
          refine KT.out.mono ?_
          rintro e w3 ⟨rfl, hz3⟩
          have HZ3 := Hid.mk' hz3
          clear hz3 KT y0 y1 y2 y3 y4 y5
          go_wp2
          go_roundw
          case rel =>
            refine ⟨k + 1, by omega, by go_num, fun j hj => ?_, by rw [FT.out]; exact HZ3.out⟩
            by_cases e : j = k
            · rw [e, HTK.out]; exact HF.out
            · exact HZ0.out j (by omega)
          case measure => simp [intOf]; omega
        · rw [if_neg hf] at KT
          have KT := Hid.mk' KT
          have EF := Hid.mk' (FSx.out hf)
          have HF := Hid.mk' hf
          clear hf
          generalize tfault t = tf at *
          have tfn : ¬ tf = 0 := HF.out
          go_wp2_with fail
          clear hW h1 h2 h3 h5 h7
          refine KT.out.mono ?_
          rintro e w3 ⟨rfl, hz3⟩
          have hb3 : Below w1.heap.size w1 w3 := by obtain ⟨_, _, _, _, _, _, z⟩ := hz3; exact z.bl
          have R1 := rowB HR.out hb3
          have HB := Hid.mk' (HB.out.trans (hb3.mono HB.out.size))
          obtain ⟨b0, b1', b2, b3, b4⟩ := cells4 R1
          obtain ⟨f0, f1, f2, f3⟩ := frz4 R1
          clear hz3 hb3 KT R1 y0 y1 y2 y3 y4 y5
          go_wp2
          refine bodyPost_ret (v := .agg #[.int .i64 tf, .slice none 0 0, .slice none 0 0, .bool false]) (by simp [results, Tryz.results66, go_sem, *]) rfl ?_
          have ec : pallC s l = tf := E2.out.trans EF.out
          rw [pallR_bad (by rw [ec]; exact HF.out), ec]
          exact PutP.err (set4 HB.out (by have := XB.out; omega))
      · have ci : ¬ (k : Int) < (l.length : Int) := by omega
        have ek : k = l.length := by omega
        have E0 : Hid (pallC s l = 0) := Hid.mk' (E2.out.trans (firstT_none l (fun j hj => HZ0.out j (by omega))))
        have HZ := Hid.mk' (show ZB true 138 w1 w1.heap.size g (foldX s l) wr by have := HZ.out; rw [ek, List.take_length] at this; exact this)
        have E3 := Hid.mk' (pallR_good E0.out)
        have GS1 := Hid.mk' (gs_fold GS0.out l)
        obtain ⟨s2, hs2⟩ : ∃ s2, foldX s l = s2 := ⟨_, rfl⟩
        rw [hs2] at HZ E3 GS1
        obtain ⟨τ, vn, vo, va, vt, us, hz3⟩ := HZ.out
        have KS := Hid.mk' (state_any w1 w1.heap.size g s2 wr τ vn vo va vt us hz3 GS1.out)
        have HZ3 := Hid.mk' hz3
        clear hs2 hz3 hbl ek
        go_wp2_with fail
        refine KS.out.mono ?_
        rintro e w4 ⟨vp, rfl, ho, hp, hb4⟩
        obtain ⟨ap, cp, ep, _⟩ := ho.len
        subst ep
        obtain ⟨pn, cn, en, _⟩ := own_len HZ3.out.ns.row
        subst en
        have hb3 := HZ3.out.bl
        have hb5 := hb3.trans (hb4.mono hb3.size)
        have R1 := rowB HR.out hb5
        have rlt : xb + 1 < w1.heap.size := HR.out.lt
        have HB5 := Hid.mk' (HB.out.trans (hb5.mono HB.out.size))
        obtain ⟨b0, b1, b2, b3, b4⟩ := cells4 R1
        obtain ⟨f0, f1, f2, f3⟩ := frz4 R1
        have HO := Hid.mk' ho
        have HPP := Hid.mk' hp
        have HB4 := Hid.mk' hb4
        have LW : Hid (w.heap.size ≤ w1.heap.size) := Hid.mk' HB.out.size
        have L3 : Hid (w1.heap.size ≤ wr.heap.size) := Hid.mk' hb3.size
        clear ho hp hb4 hb3 hb5 KS R1
        go_wp2
        refine bodyPost_ret (v := .agg #[.int .i64 0, .slice pn s2.nd.length cn, .slice ap s2.op.length cp, .bool s2.lg]) (by simp [results, Tryz.results66, go_sem, *]) rfl ?_
        rw [E0.out, E3.out]
        have hx := XB.out
        obtain ⟨τ', hsq, hcap⟩ := sq_impl (lo := w.heap.size) (w8 := (((w4.setCell ⟨xb + 1, 0, none⟩ (.int .i64 0)).setCell ⟨xb + 1, 1, none⟩ (.slice pn s2.nd.length cn)).setCell ⟨xb + 1, 2, none⟩ (.slice ap s2.op.length cp)).setCell ⟨xb + 1, 3, none⟩ (.bool s2.lg)) HZ3.out.ns LW.out L3.out (fun k h1 h2 => by rw [blk4 (by omega)]; exact HB4.out.block k h2) (HO.out.keep (fun k e hl' => blk4 (by have := HPP.out k e; have := L3.out; omega))) (fun k e => HPP.out k e)
        exact ⟨τ', _, _, va, vt, us, rfl, hsq, fun k hk => hcap k hk (by rw [siz4]; exact HB4.out.size), set4 HB5.out (by omega)⟩

end Go.Proofs.YthcajggbcanmdaaGreatDoor

namespace Go.Proofs.YthcajggbcanmdaaGreatDoor
open Go.RowKit

def TsB (w : World) (a : Option Addr) (l : List TK) : Prop :=
  l = [] ∨ ∃ b o, a = some ⟨b, o, none⟩ ∧ b < w.heap.size ∧ ∀ k, k < l.length → ∃ p c, T5 w b (o + k * 5) (tkK l k) p c ∧ AAt w p (tkK l k).at_ ∧ (tkK l k).at_.length ≤ c

theorem TsB.below {w w' : World} {a : Option Addr} {l : List TK} (h : TsB w a l) (hb : Below w.heap.size w w') : TsB w' a l := by
  rcases h with h | ⟨b, o, e, hs, hc⟩
  · exact .inl h
  · refine .inr ⟨b, o, e, Nat.lt_of_lt_of_le hs hb.size, fun k hk => ?_⟩
    obtain ⟨p, c, h1, h2, h3⟩ := hc k hk
    exact ⟨p, c, h1.below hb, h2.below hb, h3⟩

set_option maxRecDepth 100000 in
set_option maxHeartbeats 6400000 in
theorem specAll_any (s : BS) (l : List TK) (a p q : Option Addr) (c d c' : Nat) (w : World) (ha : SAt w a p s) (ht : TsB w q l) (hl : (s.nd.length : Int) + nssz s.nd + s.op.length ≤ 1048576) (hm : (l.length : Int) + tssz l ≤ 1048576) :
    Calls Tryz.prog 65 #[.agg #[.slice a s.nd.length c, .slice p s.op.length d, .bool s.lg], .slice q l.length c'] w fun e w' => PutP (pallC s l) (pallR s l) w e w' := by
  obtain ⟨N0, RX, RR⟩ := boxesA w (.slice a s.nd.length c) (.slice p s.op.length d) (.bool s.lg)
  have KF := l7Fault_any s w.heap.size a p c d _ RX (ha.below N0) hl
  have HS := Hid.mk' (ha.below N0)
  have HT := Hid.mk' (ht.below N0)
  have HN := Hid.mk' N0
  have HX := Hid.mk' RX
  have HR := Hid.mk' RR
  clear ha ht N0 RX RR
  obtain ⟨xb, hxb⟩ : ∃ xb, w.heap.size = xb := ⟨_, rfl⟩
  rw [hxb] at HX HR KF
  have XB := Hid.mk' hxb
  generalize hW : (w.alloc (.cells #[.slice a s.nd.length c, .slice p s.op.length d, .bool s.lg] 85)).alloc (.cells #[.int .i64 0, .slice none 0 0, .slice none 0 0, .bool false] 87) = W at *
  rcases pall_cases s l with ⟨h1, h2, h3⟩ | ⟨h1, h4, h2, h3⟩ | ⟨h1, h4, h2⟩
  · have E2 := Hid.mk' h2
    have E3 := Hid.mk' h3
    have KF := Hid.mk' KF
    clear h2 h3
    generalize bldF s = bf at *
    go_enter Tryz.func65, Tryz.ntmps65
    go_wp2_with fail
    clear hW hxb
    refine KF.out.mono ?_
    rintro e w1 ⟨rfl, hb⟩
    have R1 := rowB HR.out hb
    have HB := Hid.mk' (HN.out.trans (hb.mono HN.out.size))
    obtain ⟨b0, b1, b2, b3, b4⟩ := cells4 R1
    obtain ⟨f0, f1, f2, f3⟩ := frz4 R1
    clear hb KF R1
    go_wp2
    refine bodyPost_ret (v := .agg #[.int .i64 bf, .slice none 0 0, .slice none 0 0, .bool false]) (by simp [results, Tryz.results65, go_sem, *]) rfl ?_
    rw [E2.out, E3.out]
    exact PutP.err (set4 HB.out (by have := XB.out; omega))
  · rw [h1] at KF
    have KF := Hid.mk' KF
    have E2 := Hid.mk' h2
    have E3 := Hid.mk' h3
    have h4' : (l.length : Int) > 300 := by omega
    clear h2 h3 h1
    go_enter Tryz.func65, Tryz.ntmps65
    go_wp2_with fail
    clear hW hxb
    refine KF.out.mono ?_
    rintro e w1 ⟨rfl, hb⟩
    have R1 := rowB HR.out hb
    have HB := Hid.mk' (HN.out.trans (hb.mono HN.out.size))
    obtain ⟨b0, b1, b2, b3, b4⟩ := cells4 R1
    obtain ⟨f0, f1, f2, f3⟩ := frz4 R1
    clear hb KF R1
    go_wp2
    refine bodyPost_ret (v := .agg #[.int .i64 2, .slice none 0 0, .slice none 0 0, .bool false]) (by simp [results, Tryz.results65, go_sem, *]) rfl ?_
    rw [E2.out, E3.out]
    exact PutP.err (set4 HB.out (by have := XB.out; omega))
  · have GS0 := Hid.mk' (gs_of h1)
    rw [h1] at KF
    have KF := Hid.mk' KF
    have E2 := Hid.mk' h2
    have h4' : ¬ (l.length : Int) > 300 := by omega
    clear h2 h1
    go_enter Tryz.func65, Tryz.ntmps65
    go_wp2_with fail
    clear hW hxb
    refine KF.out.mono ?_
    rintro e w1 ⟨rfl, hb⟩
    have HX := Hid.mk' (rowB HX.out hb)
    have HR := Hid.mk' (rowB HR.out hb)
    have HS := Hid.mk' (HS.out.below hb)
    have HT := Hid.mk' (HT.out.below hb)
    have HB := Hid.mk' (HN.out.trans (hb.mono HN.out.size))
    clear hb KF
    obtain ⟨x0, x1, x2, x3⟩ := cells3 HX.out
    have KN := Hid.mk' (copyState_any s a p c d w1 HS.out GS0.out (by omega))
    go_wp2_with fail
    refine KN.out.mono ?_
    rintro e w3 ⟨τ, vn, vo, va, vt, us, rfl, hns, hop, hb⟩
    have hz := ZS.boxed (T := 85) hns hop hb hb.size
    obtain ⟨pn, cn, en, _⟩ := own_len hns.row
    obtain ⟨po, co, eo, _⟩ := hop.row
    subst en eo
    obtain ⟨g, hgt⟩ : ∃ g, w3.heap.size = g := ⟨_, rfl⟩
    rw [hgt] at hz
    have HZ := Hid.mk' hz
    clear hz hns hop hb KN x0 x1 x2 x3
    generalize hW3 : w3.alloc (.cells #[.slice pn s.nd.length cn, .slice po s.op.length co, .bool s.lg] 85) = W3 at *
    go_wp2
    clear hW3 hgt
    go_loopw [7] (fun i wr => ∃ k : Nat, k ≤ l.length ∧ i = .int .i64 k ∧ (∀ j, j < k → tfault (tkK l j) = 0) ∧ ZB false 85 w1 w1.heap.size g (foldX s (l.take k)) wr) (fun i _ => l.length - (intOf i).toNat)
    case atStart => exact ⟨0, Nat.zero_le _, rfl, fun j hj => absurd hj (Nat.not_lt_zero _), by simpa [foldX] using HZ.out⟩
    case round =>
      obtain ⟨k, hk, rfl, hz0, hzk⟩ := hrel
      have hbl : Below w1.heap.size w1 wr := by obtain ⟨_, _, _, _, _, _, z⟩ := id hzk; exact z.bl
      have HZ := Hid.mk' hzk
      have HZ0 := Hid.mk' hz0
      have HBL := Hid.mk' hbl
      clear hzk hz0
      by_cases hlt : k < l.length
      · have ci : (k : Int) < (l.length : Int) := by omega
        rcases HT.out with h0 | ⟨b1, o1, rfl, s0, hc1⟩
        · exact absurd hlt (by rw [h0]; exact Nat.not_lt_zero _)
        obtain ⟨p1, d1, h1, h6, h7⟩ := hc1 k hlt
        have s1 := Nat.lt_of_lt_of_le s0 hbl.size
        have st := tssz_take l k hlt
        have sl := tssz_le l (k + 1)
        have et : tsz (tkK l k) = (tkK l k).nm.size + (tkK l k).at_.length + asz (tkK l k).at_ := rfl
        have FT := Hid.mk' (foldX_take s l k hlt)
        have FSx := Hid.mk' (firstT_some l k hlt HZ0.out)
        obtain ⟨t, ht⟩ : ∃ t, tkK l k = t := ⟨_, rfl⟩
        have HTK := Hid.mk' ht
        rw [ht] at h1 h6 h7 st et FT FSx
        have T5H := Hid.mk' h1
        have ATH := Hid.mk' h6
        have KF := l4FaultE t b1 (o1 + k * 5) p1 d1 wr (h1.below hbl) (h6.below hbl) h7 (by omega) (by omega)
        have tl : (t.at_.length : Int) + asz t.at_ ≤ 1048576 := by omega
        clear hc1 h6 h1 hbl ht st sl et
        by_cases hf : tfault t = 0
        · rw [hf] at KF
          have KF := Hid.mk' KF
          have BY := Hid.mk' (tf_byte hf)
          have HF := Hid.mk' hf
          clear hf
          go_wp2_with fail
          refine KF.out.mono ?_
          rintro e w4 ⟨rfl, hb4⟩
          have KP := Hid.mk' (putE w1 w1.heap.size g b1 (o1 + k * 5) (foldX s (l.take k)) t p1 d1 w4 (HZ.out.below hb4) (gs_fold GS0.out _) rfl T5H.out ATH.out tl (fun _ => BY.out))
          clear hb4 KF
          go_wp2_with fail
          refine KP.out.mono ?_
          rintro e w5 ⟨⟨ve, rfl⟩, hz5⟩
          have HZ5 := Hid.mk' hz5
          clear hz5 KP
          go_wp2
          go_roundw
          case rel =>
            refine ⟨k + 1, by omega, by go_num, fun j hj => ?_, by rw [FT.out]; exact HZ5.out⟩
            by_cases e : j = k
            · rw [e, HTK.out]; exact HF.out
            · exact HZ0.out j (by omega)
          case measure => simp [intOf]; omega
        · have EF := Hid.mk' (FSx.out hf)
          have HF := Hid.mk' hf
          have KF := Hid.mk' KF
          clear hf
          generalize tfault t = tf at *
          have tfn : ¬ tf = 0 := HF.out
          go_wp2_with fail
          refine KF.out.mono ?_
          rintro e w4 ⟨rfl, hb4⟩
          have hb3 := HBL.out.trans (hb4.mono HBL.out.size)
          have R1 := rowB HR.out hb3
          have HB := Hid.mk' (HB.out.trans (hb3.mono HB.out.size))
          obtain ⟨b0, b1', b2, b3, b4⟩ := cells4 R1
          obtain ⟨f0, f1, f2, f3⟩ := frz4 R1
          clear hb4 hb3 KF R1
          go_wp2
          refine bodyPost_ret (v := .agg #[.int .i64 tf, .slice none 0 0, .slice none 0 0, .bool false]) (by simp [results, Tryz.results65, go_sem, *]) rfl ?_
          have ec : pallC s l = tf := E2.out.trans EF.out
          rw [pallR_bad (by rw [ec]; exact HF.out), ec]
          exact PutP.err (set4 HB.out (by have := XB.out; omega))
      · have ci : ¬ (k : Int) < (l.length : Int) := by omega
        have ek : k = l.length := by omega
        have E0 : Hid (pallC s l = 0) := Hid.mk' (E2.out.trans (firstT_none l (fun j hj => HZ0.out j (by omega))))
        have HZ := Hid.mk' (show ZB false 85 w1 w1.heap.size g (foldX s l) wr by have := HZ.out; rw [ek, List.take_length] at this; exact this)
        have E3 := Hid.mk' (pallR_good E0.out)
        obtain ⟨s2, hs2⟩ : ∃ s2, foldX s l = s2 := ⟨_, rfl⟩
        rw [hs2] at HZ E3
        obtain ⟨τ, vn, vo, va, vt, us, hz⟩ := HZ.out
        obtain ⟨pn, cn, en, _⟩ := own_len hz.ns.row
        obtain ⟨po, co, eo, _⟩ := hz.op.row
        subst en eo
        have HZ3 := Hid.mk' hz
        obtain ⟨x0, x1, x2, x3⟩ := cells3 hz.box
        have R1 := rowB HR.out hz.bl
        have rlt : xb + 1 < w1.heap.size := HR.out.lt
        have HB5 := Hid.mk' (HB.out.trans (hz.bl.mono HB.out.size))
        have LW : Hid (w.heap.size ≤ w1.heap.size) := Hid.mk' HB.out.size
        obtain ⟨b0, b1, b2, b3, b4⟩ := cells4 R1
        obtain ⟨f0, f1, f2, f3⟩ := frz4 R1
        clear hz hs2 hbl ek R1
        go_wp2
        refine bodyPost_ret (v := .agg #[.int .i64 0, .slice pn s2.nd.length cn, .slice po s2.op.length co, .bool s2.lg]) (by simp [results, Tryz.results65, go_sem, *]) rfl ?_
        rw [E0.out, E3.out]
        have hx := XB.out
        obtain ⟨τ', hsq, hcap⟩ := sq_spec (lo := w.heap.size) (w8 := (((wr.setCell ⟨xb + 1, 0, none⟩ (.int .i64 0)).setCell ⟨xb + 1, 1, none⟩ (.slice pn s2.nd.length cn)).setCell ⟨xb + 1, 2, none⟩ (.slice po s2.op.length co)).setCell ⟨xb + 1, 3, none⟩ (.bool s2.lg)) HZ3.out LW.out (fun k h1 h2 => blk4 (by omega))
        exact ⟨τ', _, _, va, vt, us, rfl, hsq, fun k hk => hcap k hk (by rw [siz4]; exact Nat.le_refl _), set4 HB5.out (by omega)⟩

end Go.Proofs.YthcajggbcanmdaaGreatDoor

namespace Go.Proofs.YthcajggbcanmdaaGreatDoor
open Go.RowKit

end Go.Proofs.YthcajggbcanmdaaGreatDoor

namespace Go.Proofs.YthcajggbcanmdaaGreatDoor
open Go.RowKit

end Go.Proofs.YthcajggbcanmdaaGreatDoor

namespace Go.Proofs.YthcajggbcanmdaaGreatDoor
open Go.RowKit

end Go.Proofs.YthcajggbcanmdaaGreatDoor

namespace Go.Proofs.YthcajggbcanmdaaGreatDoor
open Go.RowKit

theorem pallR_le (s : BS) (l : List TK) (hl : (s.nd.length : Int) + nssz s.nd + s.op.length ≤ 1048576) (ht : (l.length : Int) + tssz l ≤ 1048576 - (s.nd.length : Int) - nssz s.nd - s.op.length) : ((pallR s l).nd.length : Int) + nssz (pallR s l).nd + (pallR s l).op.length ≤ 2000000 ∧ ((pallR s l).op.length : Int) ≤ 1048576 := by
  by_cases h0 : pallC s l = 0
  · rw [pallR_good h0]
    rcases pall_cases s l with ⟨h1, h2, _⟩ | ⟨_, _, h2, _⟩ | ⟨h1, h4, _⟩
    · exact absurd (h2.symm.trans h0) h1
    · rw [h2] at h0; exact absurd h0 (by decide)
    · have g := (gs_fold (gs_of h1) l).o
      have n := nS_fold l s
      unfold nS at n
      omega
  · rw [pallR_bad h0]; simp [noS, nssz]

end Go.Proofs.YthcajggbcanmdaaGreatDoor

namespace Go.Proofs.YthcajggbcanmdaaGreatDoor
open Go.RowKit

def btC (l : List TK) : Int := if pallC noS l = 0 then (if (pallR noS l).lg = true then 6 else 0) else pallC noS l
def btN (l : List TK) : List ND := if pallC noS l = 0 then (if (pallR noS l).lg = true then [] else (pallR noS l).nd) else []

theorem bt_cases (l : List TK) : (¬ pallC noS l = 0 ∧ btC l = pallC noS l ∧ btN l = []) ∨ (pallC noS l = 0 ∧ (pallR noS l).lg = true ∧ btC l = 6 ∧ btN l = []) ∨ (pallC noS l = 0 ∧ (pallR noS l).lg = false ∧ btC l = 0 ∧ btN l = (pallR noS l).nd) := by
  unfold btC btN
  by_cases h : pallC noS l = 0
  · rw [if_pos h, if_pos h]
    cases hl : (pallR noS l).lg with
    | true => exact .inr (.inl ⟨h, rfl, by simp, by simp⟩)
    | false => exact .inr (.inr ⟨h, rfl, by simp, by simp⟩)
  · rw [if_neg h, if_neg h]
    exact .inl ⟨h, rfl, rfl⟩

def TreeQ (c : Int) (nd : List ND) (w : World) (e : Ending) (w' : World) : Prop := ∃ τ vn va vt us, e = .returned (.agg #[.int .i64 c, vn]) ∧ NQ τ w.heap.size w' vn nd va vt us ∧ (∀ k, ¬ (w.heap.size ≤ k ∧ k < w'.heap.size) → τ k = 2) ∧ Below w.heap.size w w'

theorem TreeQ.err {c : Int} {w w' : World} (hb : Below w.heap.size w w') : TreeQ c [] w (.returned (.agg #[.int .i64 c, .slice none 0 0])) w' :=
  ⟨fun _ => 2, _, fun _ => undef, fun _ => undef, fun _ => [], rfl, (NS.nil _ _ _ _ _ _).nq, fun _ _ => rfl, hb⟩

theorem NQ.lo {τ : Nat → Nat} {lo lo' : Nat} {w : World} {v : Value} {l : List ND} {va vt : Nat → Value} {us : Nat → List Value} (h : NQ τ lo w v l va vt us) (hl : lo' ≤ lo) : NQ τ lo' w v l va vt us :=
  ⟨own_of h.row hl (fun _ _ _ => rfl), fun j hj => (h.att j hj).keep hl (fun _ _ _ => rfl), h.txt, h.rl, h.al, h.ul, h.tl⟩

set_option maxRecDepth 100000 in
set_option maxHeartbeats 3200000 in
theorem implBT_any (l : List TK) (q : Option Addr) (c' : Nat) (w : World) (ht : TsAt w q l) (hm : (l.length : Int) + tssz l ≤ 1048576) :
    Calls Tryz.prog 43 #[.slice q l.length c'] w fun e w' => TreeQ (btC l) (btN l) w e w' := by
  have N0 := below_new w (.cells #[.int .i64 0, .slice none 0 0] 43)
  have KP0 : Calls Tryz.prog 66 #[.agg #[.slice none 0 0, .slice none 0 0, .bool false], .slice q l.length c'] _ fun e w' => PutP (pallC noS l) (pallR noS l) _ e w' := implAll_any noS l none none q 0 0 c' _ ⟨.inl rfl, .inl rfl⟩ (ht.below N0) (by simp [noS, nssz]) hm
  have HR := Hid.mk' (rowQ2 w 43 (.int .i64 0) (.slice none 0 0))
  have HN := Hid.mk' N0
  have HC := Hid.mk' (bt_cases l)
  have KP := Hid.mk' KP0
  clear ht N0 KP0
  obtain ⟨xb, hxb⟩ : ∃ xb, w.heap.size = xb := ⟨_, rfl⟩
  rw [hxb] at HR
  have XB := Hid.mk' hxb
  obtain ⟨C, hC⟩ : ∃ C, pallC noS l = C := ⟨_, rfl⟩
  obtain ⟨R, hR⟩ : ∃ R, pallR noS l = R := ⟨_, rfl⟩
  rw [hC, hR] at KP HC
  clear hC hR
  generalize hW : w.alloc (.cells #[.int .i64 0, .slice none 0 0] 43) = W at *
  go_enter Tryz.func43, Tryz.ntmps43
  go_wp2_with fail
  clear hW hxb
  refine KP.out.mono ?_
  rintro e w1 ⟨τ, vn, vo, va, vt, us, rfl, hq, hcap, hb⟩
  obtain ⟨an, cn, po, dn, rfl, rfl, hs⟩ := hq.at
  have N1 := below_new w1 (.cells #[.int .i64 C, .slice an R.nd.length cn, .slice po R.op.length dn, .bool R.lg] 87)
  have M1 := hb.trans (N1.mono hb.size)
  have R1 := rowB HR.out M1
  have RB := row4 w1 87 (.int .i64 C) (.slice an R.nd.length cn) (.slice po R.op.length dn) (.bool R.lg)
  have HQz := Hid.mk' (hq.ns.below N1)
  have HB := Hid.mk' (HN.out.trans (M1.mono HN.out.size))
  have CAP := Hid.mk' hcap
  have LT : Hid (xb < W.heap.size ∧ W.heap.size ≤ w1.heap.size) := Hid.mk' ⟨HR.out.lt, hb.size⟩
  have ZZ : Hid ((w1.alloc (.cells #[.int .i64 C, .slice an R.nd.length cn, .slice po R.op.length dn, .bool R.lg] 87)).heap.size = w1.heap.size + 1) := Hid.mk' (by simp)
  obtain ⟨x0, x1, x2⟩ := cellsQ2 R1
  obtain ⟨f0, f1⟩ := frzQ2 R1
  obtain ⟨y0, y1, y2, y3, y4⟩ := cells4 RB
  clear hq hcap hb hs N1 M1 R1 RB KP
  generalize hW1 : w1.alloc (.cells #[.int .i64 C, .slice an R.nd.length cn, .slice po R.op.length dn, .bool R.lg] 87) = W1 at *
  have hx := XB.out
  have KS : ∀ (u0 u1 : Value), KeptIn xb (xb + 1) W1 ((W1.setCell ⟨xb, 0, none⟩ u0).setCell ⟨xb, 1, none⟩ u1) := fun u0 u1 => ((KeptIn.refl _ _ W1).setCell (p := ⟨xb, 0, none⟩) (by simp) (by simp) u0).setCell (p := ⟨xb, 1, none⟩) (by simp) (by simp) u1
  have HKS := Hid.mk' KS
  have HXX := Hid.mk' hx
  clear KS hx
  rcases HC.out with ⟨h1, h2, h3⟩ | ⟨h1, h4, h2, h3⟩ | ⟨h1, h4, h2, h3⟩
  · have E2 := Hid.mk' h2
    have E3 := Hid.mk' h3
    clear h2 h3 HC
    go_wp2
    clear hW1
    refine bodyPost_ret (v := .agg #[.int .i64 C, .slice none 0 0]) (by simp [results, Tryz.results43, go_sem, *]) rfl ?_
    rw [E2.out, E3.out]
    exact TreeQ.err (HB.out.trans ((HKS.out _ _).below (by have := HXX.out; omega) HB.out.size))
  · have E2 := Hid.mk' h2
    have E3 := Hid.mk' h3
    rw [h4] at y3
    clear h2 h3 HC h4
    subst h1
    go_wp2
    clear hW1
    refine bodyPost_ret (v := .agg #[.int .i64 6, .slice none 0 0]) (by simp [results, Tryz.results43, go_sem, *]) rfl ?_
    rw [E2.out, E3.out]
    exact TreeQ.err (HB.out.trans ((HKS.out _ _).below (by have := HXX.out; omega) HB.out.size))
  · have E2 := Hid.mk' h2
    have E3 := Hid.mk' h3
    rw [h4] at y3
    clear h2 h3 HC h4
    subst h1
    go_wp2
    clear hW1
    refine bodyPost_ret (v := .agg #[.int .i64 0, .slice an R.nd.length cn]) (by simp [results, Tryz.results43, go_sem, *]) rfl ?_
    rw [E2.out, E3.out]
    have hx := HXX.out
    have lt := LT.out
    have zz := ZZ.out
    have KK := HKS.out (.int .i64 0) (.slice an R.nd.length cn)
    refine ⟨τ, _, va, vt, us, rfl, ((HQz.out.keep (Kp.of_kept KK (fun k e => ?_))).lo (by omega)), fun k hk => CAP.out k ?_, HB.out.trans (KK.below (by omega) HB.out.size)⟩
    · by_cases hk : k = xb
      · have := CAP.out k (by omega)
        omega
      · omega
    · have := KK.size
      omega

set_option maxRecDepth 100000 in
set_option maxHeartbeats 3200000 in
theorem specBT_any (l : List TK) (q : Option Addr) (c' : Nat) (w : World) (ht : TsB w q l) (hm : (l.length : Int) + tssz l ≤ 1048576) :
    Calls Tryz.prog 42 #[.slice q l.length c'] w fun e w' => TreeQ (btC l) (btN l) w e w' := by
  have N0 := below_new w (.cells #[.int .i64 0, .slice none 0 0] 43)
  have KP0 : Calls Tryz.prog 65 #[.agg #[.slice none 0 0, .slice none 0 0, .bool false], .slice q l.length c'] _ fun e w' => PutP (pallC noS l) (pallR noS l) _ e w' := specAll_any noS l none none q 0 0 c' _ ⟨.inl rfl, .inl rfl⟩ (ht.below N0) (by simp [noS, nssz]) hm
  have HR := Hid.mk' (rowQ2 w 43 (.int .i64 0) (.slice none 0 0))
  have HN := Hid.mk' N0
  have HC := Hid.mk' (bt_cases l)
  have KP := Hid.mk' KP0
  clear ht N0 KP0
  obtain ⟨xb, hxb⟩ : ∃ xb, w.heap.size = xb := ⟨_, rfl⟩
  rw [hxb] at HR
  have XB := Hid.mk' hxb
  obtain ⟨C, hC⟩ : ∃ C, pallC noS l = C := ⟨_, rfl⟩
  obtain ⟨R, hR⟩ : ∃ R, pallR noS l = R := ⟨_, rfl⟩
  rw [hC, hR] at KP HC
  clear hC hR
  generalize hW : w.alloc (.cells #[.int .i64 0, .slice none 0 0] 43) = W at *
  go_enter Tryz.func42, Tryz.ntmps42
  go_wp2_with fail
  clear hW hxb
  refine KP.out.mono ?_
  rintro e w1 ⟨τ, vn, vo, va, vt, us, rfl, hq, hcap, hb⟩
  obtain ⟨an, cn, po, dn, rfl, rfl, hs⟩ := hq.at
  have N1 := below_new w1 (.cells #[.int .i64 C, .slice an R.nd.length cn, .slice po R.op.length dn, .bool R.lg] 87)
  have M1 := hb.trans (N1.mono hb.size)
  have R1 := rowB HR.out M1
  have RB := row4 w1 87 (.int .i64 C) (.slice an R.nd.length cn) (.slice po R.op.length dn) (.bool R.lg)
  have HQz := Hid.mk' (hq.ns.below N1)
  have HB := Hid.mk' (HN.out.trans (M1.mono HN.out.size))
  have CAP := Hid.mk' hcap
  have LT : Hid (xb < W.heap.size ∧ W.heap.size ≤ w1.heap.size) := Hid.mk' ⟨HR.out.lt, hb.size⟩
  have ZZ : Hid ((w1.alloc (.cells #[.int .i64 C, .slice an R.nd.length cn, .slice po R.op.length dn, .bool R.lg] 87)).heap.size = w1.heap.size + 1) := Hid.mk' (by simp)
  obtain ⟨x0, x1, x2⟩ := cellsQ2 R1
  obtain ⟨f0, f1⟩ := frzQ2 R1
  obtain ⟨y0, y1, y2, y3, y4⟩ := cells4 RB
  clear hq hcap hb hs N1 M1 R1 RB KP
  generalize hW1 : w1.alloc (.cells #[.int .i64 C, .slice an R.nd.length cn, .slice po R.op.length dn, .bool R.lg] 87) = W1 at *
  have hx := XB.out
  have KS : ∀ (u0 u1 : Value), KeptIn xb (xb + 1) W1 ((W1.setCell ⟨xb, 0, none⟩ u0).setCell ⟨xb, 1, none⟩ u1) := fun u0 u1 => ((KeptIn.refl _ _ W1).setCell (p := ⟨xb, 0, none⟩) (by simp) (by simp) u0).setCell (p := ⟨xb, 1, none⟩) (by simp) (by simp) u1
  have HKS := Hid.mk' KS
  have HXX := Hid.mk' hx
  clear KS hx
  rcases HC.out with ⟨h1, h2, h3⟩ | ⟨h1, h4, h2, h3⟩ | ⟨h1, h4, h2, h3⟩
  · have E2 := Hid.mk' h2
    have E3 := Hid.mk' h3
    clear h2 h3 HC
    go_wp2
    clear hW1
    refine bodyPost_ret (v := .agg #[.int .i64 C, .slice none 0 0]) (by simp [results, Tryz.results42, go_sem, *]) rfl ?_
    rw [E2.out, E3.out]
    exact TreeQ.err (HB.out.trans ((HKS.out _ _).below (by have := HXX.out; omega) HB.out.size))
  · have E2 := Hid.mk' h2
    have E3 := Hid.mk' h3
    rw [h4] at y3
    clear h2 h3 HC h4
    subst h1
    go_wp2
    clear hW1
    refine bodyPost_ret (v := .agg #[.int .i64 6, .slice none 0 0]) (by simp [results, Tryz.results42, go_sem, *]) rfl ?_
    rw [E2.out, E3.out]
    exact TreeQ.err (HB.out.trans ((HKS.out _ _).below (by have := HXX.out; omega) HB.out.size))
  · have E2 := Hid.mk' h2
    have E3 := Hid.mk' h3
    rw [h4] at y3
    clear h2 h3 HC h4
    subst h1
    go_wp2
    clear hW1
    refine bodyPost_ret (v := .agg #[.int .i64 0, .slice an R.nd.length cn]) (by simp [results, Tryz.results42, go_sem, *]) rfl ?_
    rw [E2.out, E3.out]
    have hx := HXX.out
    have lt := LT.out
    have zz := ZZ.out
    have KK := HKS.out (.int .i64 0) (.slice an R.nd.length cn)
    refine ⟨τ, _, va, vt, us, rfl, ((HQz.out.keep (Kp.of_kept KK (fun k e => ?_))).lo (by omega)), fun k hk => CAP.out k ?_, HB.out.trans (KK.below (by omega) HB.out.size)⟩
    · by_cases hk : k = xb
      · have := CAP.out k (by omega)
        omega
      · omega
    · have := KK.size
      omega

end Go.Proofs.YthcajggbcanmdaaGreatDoor

namespace Go.Proofs.YthcajggbcanmdaaGreatDoor
open Go.RowKit

theorem row_toks {w : World} {lo : Nat} {v : Value} {ts : List TK} {us : List Value} (hl : us.length = ts.length) (h : w.ownsRow lo 37 5 v ts.length (tcs ts us)) (ha : ∀ j, j < ts.length → ∃ p c, us.getD j undef = .slice p (tkK ts j).at_.length c ∧ AAt w p (tkK ts j).at_ ∧ (tkK ts j).at_.length ≤ c) : ∃ a c, v = .slice a ts.length c ∧ TsB w a ts := by
  rcases h.2 with ⟨rfl, h0⟩ | ⟨g, cap, cur, rfl, hg, hh, hc, hm, hs, ht⟩
  · exact ⟨none, 0, by rw [h0], .inl (List.eq_nil_of_length_eq_zero h0)⟩
  · have glt : g < w.heap.size := Nat.lt_of_not_le fun hn => by rw [Array.getElem?_eq_none hn] at hh; cases hh
    refine ⟨_, _, rfl, .inr ⟨g, 0, rfl, glt, fun k hk => ?_⟩⟩
    have q : ∀ i, w.cell? ⟨g, i, none⟩ = cur[i]? := fun i => Lib.cell_of_heap hh i
    have cc : ∀ i, i < 5 → w.cell? ⟨g, k * 5 + i, none⟩ = ([.int .i64 (tkK ts k).kd, .int .i64 (tkK ts k).by_, .string (tkK ts k).nm, us.getD k undef, .bool (tkK ts k).sh] : List Value)[i]? := fun i hi => by
      rw [q, ← tcs_get ts us k i hl hk hi, ← ht, List.getElem?_take_of_lt (by omega)]
      simp
    obtain ⟨p, c, e, haa, hcc⟩ := ha k hk
    simp only [Nat.zero_add]
    refine ⟨p, c, ⟨cc 0 (by omega), cc 1 (by omega), cc 2 (by omega), ?_, cc 4 (by omega), glt⟩, haa, hcc⟩
    rw [cc 3 (by omega), ← e]; rfl

theorem OA.room {lo : Nat} {w : World} {v : Value} {l : List AT} {us : List Value} (h : OA lo w v l us) : ∃ a c, v = .slice a l.length c ∧ AAt w a l ∧ l.length ≤ c := by
  obtain ⟨a, c, e, ha⟩ := h.at
  obtain ⟨a', c', e', hc⟩ := own_cap h.row
  rw [e] at e'
  injection e' with e1 e2 e3
  exact ⟨a, c, e, ha, by omega⟩

theorem TP.tsB {lo : Nat} {w : World} {tv : Value} {ts : List TK} {us : List Value} {rs : Nat → List Value} {bl bh : Nat → Nat} (h : TP lo w tv ts us rs bl bh) : ∃ a c, tv = .slice a ts.length c ∧ TsB w a ts :=
  row_toks h.ta.len h.row (fun j hj => (h.ta.att j hj).room)

theorem TokS.tsB {base : Nat} {w : World} {v : Value} {ts : List TK} {us : List Value} (h : TokS base w v ts us) : ∃ a c, v = .slice a ts.length c ∧ TsB w a ts :=
  row_toks h.len h.row (fun j hj => by
    have h1 : ts[j]? = some (tkK ts j) := by simp [tkK, List.getD_eq_getElem?_getD, hj]
    have h2 : us[j]? = some (us.getD j undef) := by simp [List.getD_eq_getElem?_getD, h.len, hj]
    obtain ⟨rs, ho⟩ := (h.all j _ _ h1 h2).held
    exact ho.room)

theorem TsB.at {w : World} {a : Option Addr} {l : List TK} (h : TsB w a l) : TsAt w a l := by
  rcases h with h | ⟨b, o, e, hs, hc⟩
  · exact .inl h
  · refine .inr ⟨b, o, e, hs, fun k hk => ?_⟩
    obtain ⟨p, c, ⟨h1, h2, h3, h4, h5, _⟩, ha, _⟩ := hc k hk
    exact ⟨h1, h2, h3, ⟨p, c, h4, ha⟩, h5⟩

def ptC (d : List Int) : Int := if 240 < d.length then 6 else btC (lexX d)
def ptN (d : List Int) : List ND := if 240 < d.length then [] else btN (lexX d)

theorem lex_room (d : List Int) (h : ¬ 240 < d.length) : ((lexX d).length : Int) + tssz (lexX d) ≤ 1048576 := by
  have := lex_fits d
  unfold wei at this
  omega

theorem TreeQ.boxed {c : Int} {nd : List ND} {w V w3 : World} {vn : Value} {τ : Nat → Nat} {va vt : Nat → Value} {us : Nat → List Value} (hq : NQ τ V.heap.size w3 vn nd va vt us) (hcap : ∀ k, ¬ (V.heap.size ≤ k ∧ k < w3.heap.size) → τ k = 2) (h3 : Below w.heap.size w w3) (hV : w.heap.size < V.heap.size) :
    TreeQ c nd w (.returned (.agg #[.int .i64 c, vn])) ((w3.setCell ⟨w.heap.size, 0, none⟩ (.int .i64 c)).setCell ⟨w.heap.size, 1, none⟩ vn) := by
  have KK : KeptIn w.heap.size (w.heap.size + 1) w3 ((w3.setCell ⟨w.heap.size, 0, none⟩ (.int .i64 c)).setCell ⟨w.heap.size, 1, none⟩ vn) := ((KeptIn.refl _ _ w3).setCell (p := ⟨w.heap.size, 0, none⟩) (by simp) (by simp) _).setCell (p := ⟨w.heap.size, 1, none⟩) (by simp) (by simp) _
  have sz : ((w3.setCell ⟨w.heap.size, 0, none⟩ (.int .i64 c)).setCell ⟨w.heap.size, 1, none⟩ vn).heap.size = w3.heap.size := by simp [World.setCell]
  refine ⟨τ, vn, va, vt, us, rfl, (hq.keep (Kp.of_kept KK (fun k e => ?_))).lo (by omega), fun k hk => hcap k (by rw [sz] at hk; omega), h3.trans (KK.below (Nat.le_refl _) h3.size)⟩
  by_cases hk : k = w.heap.size
  · have := hcap k (by omega)
    omega
  · omega

set_option maxRecDepth 100000 in
set_option maxHeartbeats 3200000 in
theorem implPX_any (tp : TypeId) (pv : Value) (d : List Int) (ad : Option Addr) (cd : Nat) (w : World) (hE : Env w.heap.size tp pv w) (hd : BAt w ad d) (hu : Byt d) (hl : (d.length : Int) ≤ 9223372036854775807) :
    Calls Tryz.prog 20 #[.slice ad d.length cd] w fun e w' => TreeQ (ptC d) (ptN d) w e w' := by
  have N0 := below_new w (.cells #[.int .i64 0, .slice none 0 0] 43)
  have HR := Hid.mk' (rowQ2 w 43 (.int .i64 0) (.slice none 0 0))
  have KL := Hid.mk' (implLT_any tp pv d ad cd _ ((hE.keep N0).up N0.size (Nat.le_refl _)) (hd.below N0) hu hl)
  have HB := Hid.mk' N0
  clear N0 hd hE
  generalize hW : w.alloc (.cells #[.int .i64 0, .slice none 0 0] 43) = W at *
  go_enter Tryz.func20, Tryz.ntmps20
  go_wp2_with fail
  clear hW
  refine KL.out.mono ?_
  rintro e w1 (⟨h6, rfl, hb1⟩ | ⟨h6, tv, us, rs, bl, bh, rfl, ht, hb1⟩)
  · have E1 : Hid (ptC d = 6) := Hid.mk' (by unfold ptC; rw [if_pos h6])
    have E2 : Hid (ptN d = []) := Hid.mk' (by unfold ptN; rw [if_pos h6])
    have N1 := below_new w1 (.cells #[.int .i64 6, .slice none 0 0, .slice none 0 0] 27)
    have M1 := hb1.trans (N1.mono hb1.size)
    have B1 := Hid.mk' (HB.out.trans (M1.mono HB.out.size))
    have R1 := rowB HR.out M1
    obtain ⟨y0, y1, y2⟩ := cellsQ2 R1
    obtain ⟨f0, f1⟩ := frzQ2 R1
    obtain ⟨z0, z1, z2, z3⟩ := cells3 (row3 w1 27 (.int .i64 6) (.slice none 0 0) (.slice none 0 0))
    clear hb1 R1 N1 M1 KL
    go_wp2
    refine bodyPost_ret (v := .agg #[.int .i64 6, .slice none 0 0]) (by simp [results, Tryz.results20, go_sem, *]) rfl ?_
    rw [E1.out, E2.out]
    exact TreeQ.err ((B1.out.setCell (p := ⟨w.heap.size, 0, none⟩) (by simp) _).setCell (p := ⟨w.heap.size, 1, none⟩) (by simp) _)
  · have E1 : Hid (ptC d = btC (lexX d)) := Hid.mk' (by unfold ptC; rw [if_neg h6])
    have E2 : Hid (ptN d = btN (lexX d)) := Hid.mk' (by unfold ptN; rw [if_neg h6])
    have lr := lex_room d h6
    obtain ⟨a1, c1, rfl, hts⟩ := ht.tsB
    have N1 := below_new w1 (.cells #[.int .i64 0, .slice a1 (lexX d).length c1, .slice none 0 0] 27)
    have M1 := hb1.trans (N1.mono hb1.size)
    have B1 := Hid.mk' (HB.out.trans (M1.mono HB.out.size))
    have R1 := Hid.mk' (rowB HR.out M1)
    obtain ⟨z0, z1, z2, z3⟩ := cells3 (row3 w1 27 (.int .i64 0) (.slice a1 (lexX d).length c1) (.slice none 0 0))
    have KB := Hid.mk' (implBT_any (lexX d) a1 c1 _ (hts.below N1).at lr)
    have L1 := Hid.mk' (show w.heap.size < w1.heap.size by have := HR.out.lt; have := hb1.size; omega)
    clear hb1 N1 M1 KL ht hts lr
    generalize lexX d = X at *
    generalize btC X = C at *
    generalize btN X = R at *
    go_wp2_with fail
    generalize hV : w1.alloc (.cells #[.int .i64 0, .slice a1 X.length c1, .slice none 0 0] 27) = V at *
    clear hV
    refine KB.out.mono ?_
    rintro e w2 ⟨τ, vn, va, vt, us2, rfl, hq, hcap, hb2⟩
    obtain ⟨an, cn, rfl, _⟩ := own_len hq.row
    have B2 := Hid.mk' (B1.out.trans (hb2.mono B1.out.size))
    have R2 := rowB R1.out hb2
    obtain ⟨y0, y1, y2⟩ := cellsQ2 R2
    obtain ⟨f0, f1⟩ := frzQ2 R2
    have HQ2 := Hid.mk' hq
    have CAP := Hid.mk' hcap
    have LV : Hid (w.heap.size < V.heap.size) := Hid.mk' (by have := L1.out; omega)
    clear hb2 R2 hq hcap KB z0 z1 z2 z3
    go_wp2
    refine bodyPost_ret (v := .agg #[.int .i64 C, .slice an R.length cn]) (by simp [results, Tryz.results20, go_sem, *]) rfl ?_
    rw [E1.out, E2.out]
    exact TreeQ.boxed HQ2.out CAP.out B2.out LV.out

set_option maxRecDepth 100000 in
set_option maxHeartbeats 3200000 in
theorem specPX_any (d : List Int) (ad : Option Addr) (cd : Nat) (w : World) (hd : BAt w ad d) (hu : Byt d) (hl : (d.length : Int) ≤ 9223372036854775807) :
    Calls Tryz.prog 19 #[.slice ad d.length cd] w fun e w' => TreeQ (ptC d) (ptN d) w e w' := by
  have N0 := below_new w (.cells #[.int .i64 0, .slice none 0 0] 43)
  have HR := Hid.mk' (rowQ2 w 43 (.int .i64 0) (.slice none 0 0))
  have KL := Hid.mk' (specLT_any d ad cd _ (hd.below N0) hu hl)
  have HB := Hid.mk' N0
  clear N0 hd
  generalize hW : w.alloc (.cells #[.int .i64 0, .slice none 0 0] 43) = W at *
  go_enter Tryz.func19, Tryz.ntmps19
  go_wp2_with fail
  clear hW
  refine KL.out.mono ?_
  rintro e w1 (⟨h6, rfl, hb1⟩ | ⟨h6, tv, us, rfl, ht, hb1⟩)
  · have E1 : Hid (ptC d = 6) := Hid.mk' (by unfold ptC; rw [if_pos h6])
    have E2 : Hid (ptN d = []) := Hid.mk' (by unfold ptN; rw [if_pos h6])
    have N1 := below_new w1 (.cells #[.int .i64 6, .slice none 0 0, .slice none 0 0] 27)
    have M1 := hb1.trans (N1.mono hb1.size)
    have B1 := Hid.mk' (HB.out.trans (M1.mono HB.out.size))
    have R1 := rowB HR.out M1
    obtain ⟨y0, y1, y2⟩ := cellsQ2 R1
    obtain ⟨f0, f1⟩ := frzQ2 R1
    obtain ⟨z0, z1, z2, z3⟩ := cells3 (row3 w1 27 (.int .i64 6) (.slice none 0 0) (.slice none 0 0))
    clear hb1 R1 N1 M1 KL
    go_wp2
    refine bodyPost_ret (v := .agg #[.int .i64 6, .slice none 0 0]) (by simp [results, Tryz.results19, go_sem, *]) rfl ?_
    rw [E1.out, E2.out]
    exact TreeQ.err ((B1.out.setCell (p := ⟨w.heap.size, 0, none⟩) (by simp) _).setCell (p := ⟨w.heap.size, 1, none⟩) (by simp) _)
  · have E1 : Hid (ptC d = btC (lexX d)) := Hid.mk' (by unfold ptC; rw [if_neg h6])
    have E2 : Hid (ptN d = btN (lexX d)) := Hid.mk' (by unfold ptN; rw [if_neg h6])
    have lr := lex_room d h6
    obtain ⟨a1, c1, rfl, hts⟩ := ht.tsB
    have N1 := below_new w1 (.cells #[.int .i64 0, .slice a1 (lexX d).length c1, .slice none 0 0] 27)
    have M1 := hb1.trans (N1.mono hb1.size)
    have B1 := Hid.mk' (HB.out.trans (M1.mono HB.out.size))
    have R1 := Hid.mk' (rowB HR.out M1)
    obtain ⟨z0, z1, z2, z3⟩ := cells3 (row3 w1 27 (.int .i64 0) (.slice a1 (lexX d).length c1) (.slice none 0 0))
    have KB := Hid.mk' (specBT_any (lexX d) a1 c1 _ (hts.below N1) lr)
    have L1 := Hid.mk' (show w.heap.size < w1.heap.size by have := HR.out.lt; have := hb1.size; omega)
    clear hb1 N1 M1 KL ht hts lr
    generalize lexX d = X at *
    generalize btC X = C at *
    generalize btN X = R at *
    go_wp2_with fail
    generalize hV : w1.alloc (.cells #[.int .i64 0, .slice a1 X.length c1, .slice none 0 0] 27) = V at *
    clear hV
    refine KB.out.mono ?_
    rintro e w2 ⟨τ, vn, va, vt, us2, rfl, hq, hcap, hb2⟩
    obtain ⟨an, cn, rfl, _⟩ := own_len hq.row
    have B2 := Hid.mk' (B1.out.trans (hb2.mono B1.out.size))
    have R2 := rowB R1.out hb2
    obtain ⟨y0, y1, y2⟩ := cellsQ2 R2
    obtain ⟨f0, f1⟩ := frzQ2 R2
    have HQ2 := Hid.mk' hq
    have CAP := Hid.mk' hcap
    have LV : Hid (w.heap.size < V.heap.size) := Hid.mk' (by have := L1.out; omega)
    clear hb2 R2 hq hcap KB z0 z1 z2 z3
    go_wp2
    refine bodyPost_ret (v := .agg #[.int .i64 C, .slice an R.length cn]) (by simp [results, Tryz.results19, go_sem, *]) rfl ?_
    rw [E1.out, E2.out]
    exact TreeQ.boxed HQ2.out CAP.out B2.out LV.out

end Go.Proofs.YthcajggbcanmdaaGreatDoor

namespace Go.Proofs.YthcajggbcanmdaaGreatDoor
open Go.RowKit

set_option maxHeartbeats 1600000 in
theorem eqNRes_is (cc : Int) (l : List ND) (a b : Option Addr) (c d : Nat) (w : World) (ha : NsAt w a l) (hb : NsAt w b l) (hl : (l.length : Int) + nssz l ≤ 2000000) :
    Calls Tryz.prog 21 #[.agg #[.int .i64 cc, .slice a l.length c], .agg #[.int .i64 cc, .slice b l.length d]] w fun e w' => e = .returned (.bool true) ∧ Below w.heap.size w w' := by
  have B0 := (below_new w (.cells #[.int .i64 cc, .slice a l.length c] 43)).alloc (by simp) (.cells #[.int .i64 cc, .slice b l.length d] 43)
  have KK := Hid.mk' (eqNodeS_big a b c d l _ (ha.below B0) (hb.below B0) hl)
  have BB := Hid.mk' B0
  clear ha hb B0
  go_enter Tryz.func21, Tryz.ntmps21
  go_wp2_with fail
  refine KK.out.mono ?_
  rintro e w1 ⟨rfl, hb⟩
  have HB := Hid.mk' (BB.out.trans (hb.mono BB.out.size))
  clear hb KK
  go_wp2
  go_ret
  exact ⟨rfl, HB.out⟩

set_option maxHeartbeats 1600000 in
theorem markNRes_is (cc : Int) (τ : Nat → Nat) (lo : Nat) (vn : Value) (l : List ND) (va vt : Nat → Value) (us : Nat → List Value) (w : World) (h : NQ τ lo w vn l va vt us) (hlo : lo ≤ w.heap.size) (hl : (l.length : Int) + nssz l ≤ 2000000) :
    Calls Tryz.prog 22 #[.agg #[.int .i64 cc, vn], .int .i64 1] w fun e w' => e = .returned (.int .i64 ((1 + cnN l : Nat) : Int)) ∧ NQ τ lo w' vn (mkN 1 l) va vt us ∧ Kp (fun k => τ k = 2) w w' := by
  have N0 := below_new w (.cells #[.int .i64 cc, vn] 43)
  have KN := Hid.mk' (markNodeS_is τ 1 lo vn l va vt us _ (h.below N0) (Nat.le_trans hlo N0.size) (by omega) (by omega) hl)
  have HN := Hid.mk' N0
  obtain ⟨a, c, e1, _⟩ := h.at
  subst e1
  clear h N0
  go_enter Tryz.func22, Tryz.ntmps22
  go_wp2_with fail
  refine KN.out.mono ?_
  rintro e w1 ⟨rfl, h1, k1⟩
  have H1 := Hid.mk' h1
  have K1 : Hid (Kp (fun k => τ k = 2) w w1) := Hid.mk' ((Kp.of_below HN.out).trans (k1.mono (fun k e => .inr e)))
  clear h1 k1 KN
  go_wp2
  go_ret
  exact ⟨rfl, H1.out, K1.out⟩

set_option maxHeartbeats 1600000 in
theorem heldNRes_is (cc : Int) (l : List ND) (a : Option Addr) (c : Nat) (w : World) (h : NsAt w a (mkN 1 l)) (hl : (l.length : Int) + nssz l ≤ 2000000) :
    Calls Tryz.prog 23 #[.agg #[.int .i64 cc, .slice a l.length c], .int .i64 1] w fun e w' => e = .returned (.int .i64 ((1 + cnN l : Nat) : Int)) ∧ Below w.heap.size w w' := by
  have N0 := below_new w (.cells #[.int .i64 cc, .slice a l.length c] 43)
  have KN := Hid.mk' (heldNodeS_is 1 a c l _ (h.below N0) (by omega) (by omega) hl)
  have HN := Hid.mk' N0
  have z2 : ¬ (((1 + cnN l : Nat) : Int) < 0) := by omega
  clear h N0
  go_enter Tryz.func23, Tryz.ntmps23
  go_wp2_with fail
  refine KN.out.mono ?_
  rintro e w1 ⟨rfl, hb⟩
  have HB := Hid.mk' (HN.out.trans (hb.mono HN.out.size))
  clear hb KN
  go_wp2
  go_ret
  exact ⟨rfl, HB.out⟩

structure GN (lo q : Nat) (τ : Nat → Nat) (vn : Value) (va vt : Nat → Value) (us : Nat → List Value) (C : Int) (R : List ND) (wi : World) : Prop where
  box : wi.rowIs q 43 2 (q2 (.int .i64 C) vn)
  sq : NQ τ lo wi vn R va vt us
  cap : ∀ k, ¬ (lo ≤ k ∧ k < q) → τ k = 2
  lq : lo ≤ q

theorem GN.below {lo q : Nat} {τ : Nat → Nat} {vn : Value} {va vt : Nat → Value} {us : Nat → List Value} {C : Int} {R : List ND} {wi wj : World} (h : GN lo q τ vn va vt us C R wi) (hb : Below wi.heap.size wi wj) : GN lo q τ vn va vt us C R wj := ⟨rowB h.box hb, h.sq.below hb, h.cap, h.lq⟩

theorem GN.kept {lo q lo' hi' : Nat} {τ : Nat → Nat} {vn : Value} {va vt : Nat → Value} {us : Nat → List Value} {C : Int} {R : List ND} {wi wj : World} (h : GN lo q τ vn va vt us C R wi) (hk : KeptIn lo' hi' wi wj) (hd : hi' ≤ lo) : GN lo q τ vn va vt us C R wj :=
  ⟨rowK h.box hk (.inr (Nat.le_trans hd h.lq)), h.sq.keep (Kp.of_kept hk (fun k e => by
    have : lo ≤ k ∧ k < q := Classical.byContradiction (fun hn => by have := h.cap k hn; omega)
    omega)), h.cap, h.lq⟩

theorem GN.mk2 {lo q : Nat} {τ : Nat → Nat} {a : Option Addr} {c : Nat} {va vt : Nat → Value} {us : Nat → List Value} {C : Int} {R R' : List ND} {n : Nat} {wi : World} (h : GN lo q τ (.slice a n c) va vt us C R wi) (e : n = R.length) : NsAt wi a R := by
  obtain ⟨a', c', e', h'⟩ := h.sq.at
  injection e' with e1 e2 e3
  rw [e1]; exact h'

theorem bt_le (l : List TK) (hm : (l.length : Int) + tssz l ≤ 1048576) : ((btN l).length : Int) + nssz (btN l) ≤ 2000000 := by
  have h := (pallR_le noS l (by simp [noS, nssz]) (by simp [noS, nssz]; omega)).1
  rcases bt_cases l with ⟨_, _, e⟩ | ⟨_, _, _, e⟩ | ⟨_, _, _, e⟩
  · rw [e]; simp [nssz]
  · rw [e]; simp [nssz]
  · rw [e]; omega

end Go.Proofs.YthcajggbcanmdaaGreatDoor
