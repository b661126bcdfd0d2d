/- The program's takeAttr and withAttr. -/
import Derived.Test.YtgkdplooocbonaaGreatDoorXZf
namespace Go.Proofs.YtgkdplooocbonaaGreatDoor
open Go.RowKit
set_option linter.unusedVariables false
set_option linter.unusedSimpArgs false

/-- The variables that a reader asks, below B. -/
structure Env (B : Nat) (tp : TypeId) (pv : Value) (w : World) : Prop where
  refs : Refs w
  errs : Errs w
  tag : NoTag tp pv w
  hB : B ≤ w.heap.size
  b0 : 1 < B
  b1 : 2 < B
  b2 : 3 < B
  b3 : 4 < B

theorem gSyn : Tryz.prog.globalNamed "strconv.ErrSyntax" = some 3 := by kernel_rfl
theorem gRan : Tryz.prog.globalNamed "strconv.ErrRange" = some 4 := by kernel_rfl

theorem var_same {w w' : World} {n : String} {g : Nat} (hg : Tryz.prog.globalNamed n = some g) (h : w'.heap[g]? = w.heap[g]?) : w'.var? Tryz.prog n = w.var? Tryz.prog n := by
  simp only [World.var?, hg, Option.bind_some]
  rw [h]

theorem Env.keep {B : Nat} {tp : TypeId} {pv : Value} {w w' : World} (h : Env B tp pv w) (hb : Below B w w') : Env B tp pv w' :=
  ⟨fun i hi => by rw [World.cell?_of_block (hb.block _ h.b1)]; exact h.refs i hi,
   ⟨by rw [var_same gSyn (hb.block _ h.b2)]; exact h.errs.1, by rw [var_same gRan (hb.block _ h.b3)]; exact h.errs.2⟩,
   (World.cell?_of_block (hb.block _ h.b0)).trans h.tag, Nat.le_trans h.hB hb.size, h.b0, h.b1, h.b2, h.b3⟩
theorem Env.kept {B lo hi : Nat} {tp : TypeId} {pv : Value} {w w' : World} (h : Env B tp pv w) (hk : KeptIn lo hi w w') (hl : B ≤ lo) : Env B tp pv w' := h.keep (hk.below hl h.hB)

/-- What attrA says, by the reader's steps. -/
theorem attrA_steps (L : List UInt8) : attrA L = (if 1 ≤ spn pL L ∧ spn pL L ≤ 8 then (if Lib.hasPrefix (L.drop (spn pL L)) [61, 34] = true then (if spn pQ (L.drop (spn pL L + 2)) < (L.drop (spn pL L + 2)).length then some (⟨⟨(L.take (spn pL L)).toArray⟩, decode ((L.drop (spn pL L + 2)).take (spn pQ (L.drop (spn pL L + 2))))⟩, spn pL L + 2 + spn pQ (L.drop (spn pL L + 2)) + 1) else none) else none) else none) := by
  unfold attrA
  generalize hn : spn pL L = n
  by_cases h1 : 1 ≤ n ∧ n ≤ 8
  · rw [if_pos h1]
    have hp : Lib.hasPrefix (L.drop n) [61, 34] = true ↔ (n + 1 < L.length ∧ (L.getD n 0).toNat = 61 ∧ (L.getD (n + 1) 0).toNat = 34) := by
      rw [prefix_iff]
      constructor
      · rintro ⟨S, h⟩
        have hl := congrArg List.length h
        simp at hl
        refine ⟨by omega, ?_, ?_⟩
        · have : (L.drop n).getD 0 0 = 61 := by rw [h]; rfl
          rw [getD_drop, Nat.add_zero] at this; rw [this]; rfl
        · have : (L.drop n).getD 1 0 = 34 := by rw [h]; rfl
          rw [getD_drop] at this; rw [this]; rfl
      · rintro ⟨a, b, c⟩
        refine ⟨L.drop (n + 2), ?_⟩
        rw [drop_cons L n (by omega), drop_cons L (n + 1) (by omega)]
        have e1 : L.getD n 0 = 61 := UInt8.toNat_inj.1 (by rw [b]; rfl)
        have e2 : L.getD (n + 1) 0 = 34 := UInt8.toNat_inj.1 (by rw [c]; rfl)
        rw [e1, e2]; rfl
    by_cases h2 : Lib.hasPrefix (L.drop n) [61, 34] = true
    · rw [if_pos h2, if_pos ⟨⟨h1, (hp.1 h2).1⟩, (hp.1 h2).2⟩]
      have hl := (hp.1 h2).1
      by_cases h3 : n + 2 + spn pQ (L.drop (n + 2)) < L.length
      · rw [if_pos h3, if_pos (by rw [List.length_drop]; omega)]
      · rw [if_neg h3, if_neg (by rw [List.length_drop]; omega)]
    · rw [if_neg h2, if_neg (fun h => h2 (hp.2 ⟨h.1.2, h.2⟩))]
  · rw [if_neg h1, if_neg (fun h => h1 h.1.1)]

/-- What takeAttr answers. -/
def TakeP (r : Option (AT × Nat)) (g : Nat) (L : List UInt8) (tp : TypeId) (pv : Value) (w : World) (e : Ending) (w' : World) : Prop := (match r with
      | none => e = boom tp pv
      | some (a, n) => ∃ u, e = .returned (.agg #[.string a.nm, u]) ∧ OB w' u a.vl ∧ In w.heap.size w'.heap.size u ∧ RL g (L.drop n) w') ∧ KeptIn g (g + 1) w w'
theorem TakeP.no {r : Option (AT × Nat)} {g : Nat} {L : List UInt8} {tp : TypeId} {pv : Value} {w w' : World} (h : r = none) (hk : KeptIn g (g + 1) w w') : TakeP r g L tp pv w (boom tp pv) w' := by
  subst h; exact ⟨rfl, hk⟩

set_option maxRecDepth 100000 in
set_option maxHeartbeats 1600000 in
theorem takeAttr_any (B g : Nat) (L : List UInt8) (tp : TypeId) (pv : Value) (w : World) (hE : Env B tp pv w) (hg : B ≤ g) (h : RL g L w) (hL : L.length ≤ 1000) :
    Calls Tryz.prog 60 #[.pointer (some ⟨g, 0, none⟩)] w fun e w' => TakeP (attrA L) g L tp pv w e w' := by
  have hgl := h.cell.2.2
  have b0 := hE.b0
  have N0 := below_new w (.cells #[.string ⟨#[]⟩, .slice none 0 0] 62)
  have RB := Hid.mk' (rowp2 w 62 (.string ⟨#[]⟩) (.slice none 0 0))
  have K0 := Hid.mk' (KeptIn.of_below (lo := g) (hi := g + 1) N0)
  have R0 := Hid.mk' (h.below N0)
  have E0 := Hid.mk' (hE.keep (N0.mono hE.hB))
  have sz0 : (w.alloc (.cells #[.string ⟨#[]⟩, .slice none 0 0] 62)).heap.size = w.heap.size + 1 := by simp
  have ST := Hid.mk' (attrA_steps L)
  clear h hE N0
  generalize hw0 : w.alloc (.cells #[.string ⟨#[]⟩, .slice none 0 0] 62) = w0 at *
  by_cases h1 : 1 ≤ spn pL L ∧ spn pL L ≤ 8
  rotate_left
  · have E : Hid (attrA L = none) := Hid.mk' (by rw [ST.out, if_neg h1])
    have K1 := Hid.mk' (takeName_no g L w0 tp pv R0.out hL h1 E0.out.tag)
    go_enter Tryz.func60, Tryz.ntmps60
    go_wp2_with fail
    clear hw0
    refine K1.out.mono ?_
    rintro e w1 ⟨rfl, hk⟩
    have K2 := Hid.mk' (K0.out.trans hk)
    clear hk
    go_wp2
    exact ⟨rfl, TakeP.no E.out K2.out⟩
  have ST := Hid.mk' (ST.out.trans (if_pos h1))
  have K1 := Hid.mk' (takeName_yes g L w0 R0.out hL h1)
  have le := spn_le pL L
  by_cases h2 : Lib.hasPrefix (L.drop (spn pL L)) [61, 34] = true
  rotate_left
  · have E : Hid (attrA L = none) := Hid.mk' (by rw [ST.out, if_neg h2])
    rw [Bool.not_eq_true] at h2
    have H2 := Hid.mk' h2
    clear h2
    go_enter Tryz.func60, Tryz.ntmps60
    go_wp2_with fail
    clear hw0
    refine K1.out.mono ?_
    rintro e w1 ⟨rfl, hr1, hk1⟩
    have K2 := Hid.mk' (K0.out.trans hk1)
    have E1 := Hid.mk' (E0.out.kept hk1 hg)
    have KT := Hid.mk' (take_no g (L.drop (spn pL L)) [61, 34] w1 tp pv hr1 H2.out (by omega) E1.out.tag)
    clear hk1 hr1
    go_wp2_with fail
    refine KT.out.mono ?_
    rintro e w2 ⟨rfl, hk⟩
    have K3 := Hid.mk' (K2.out.trans hk)
    clear hk
    go_wp2
    exact ⟨rfl, TakeP.no E.out K3.out⟩
  have ST := Hid.mk' (ST.out.trans (if_pos h2))
  have H2 := Hid.mk' h2
  have dl : (L.drop (spn pL L + 2)).length ≤ 1000 := by rw [List.length_drop]; omega
  clear h2
  by_cases h3 : spn pQ (L.drop (spn pL L + 2)) < (L.drop (spn pL L + 2)).length
  rotate_left
  · have E : Hid (attrA L = none) := Hid.mk' (by rw [ST.out, if_neg h3])
    go_enter Tryz.func60, Tryz.ntmps60
    go_wp2_with fail
    clear hw0
    refine K1.out.mono ?_
    rintro e w1 ⟨rfl, hr1, hk1⟩
    have K2 := Hid.mk' (K0.out.trans hk1)
    have E1 := Hid.mk' (E0.out.kept hk1 hg)
    have KT := take_yes g (L.drop (spn pL L)) [61, 34] w1 hr1 H2.out
    rw [trim1 _ _ H2.out, List.drop_drop] at KT
    have KT := Hid.mk' KT
    clear hk1 hr1
    go_wp2_with fail
    refine KT.out.mono ?_
    rintro e w2 ⟨rfl, hr2, hk⟩
    have K3 := Hid.mk' (K2.out.trans hk)
    have E2 := E1.out.kept hk hg
    have hr2 : RL g (L.drop (spn pL L + 2)) w2 := hr2
    obtain ⟨c0, c1, c2⟩ := hr2.cell
    have KC := cut_any (L.drop (spn pL L + 2)) w2 dl
    rw [if_neg h3] at KC
    have KC := Hid.mk' KC
    have t1 := Hid.mk' E2.tag
    have sz2 := E2.hB
    clear hk hr2 KT E2
    go_wp2_with fail
    refine KC.out.mono ?_
    rintro e w3 ⟨rfl, hb⟩
    have K4 := Hid.mk' (K3.out.trans (KeptIn.of_below hb))
    have t3 : w3.cell? ⟨1, 0, none⟩ = some (.iface tp pv) := (hb.cell (p := ⟨1, 0, none⟩) (by show 1 < w2.heap.size; omega)).trans t1.out
    clear hb KC c0 c1
    go_wp2
    exact ⟨rfl, TakeP.no E.out K4.out⟩
  have ST := Hid.mk' (ST.out.trans (if_pos h3))
  generalize hn : spn pL L = n at *
  generalize hq : spn pQ (L.drop (n + 2)) = q at *
  have DL : decV ((L.drop (n + 2)).take q) = decode ((L.drop (n + 2)).take q) := by unfold decV; rw [if_neg (by rw [List.length_take]; omega)]
  have DC : decC ((L.drop (n + 2)).take q) = 0 := by unfold decC; rw [if_neg (by rw [List.length_take]; omega)]
  go_enter Tryz.func60, Tryz.ntmps60
  go_wp2_with fail
  clear hw0
  refine K1.out.mono ?_
  rintro e w1 ⟨rfl, hr1, hk1⟩
  have K2 := Hid.mk' (K0.out.trans hk1)
  have E1 := Hid.mk' (E0.out.kept hk1 hg)
  have RB1 := Hid.mk' (rowK RB.out hk1 (.inr (by omega)))
  have KT := take_yes g (L.drop n) [61, 34] w1 hr1 H2.out
  rw [trim1 _ _ H2.out, List.drop_drop] at KT
  have KT := Hid.mk' KT
  clear hk1 hr1
  go_wp2_with fail
  refine KT.out.mono ?_
  rintro e w2 ⟨rfl, hr2, hk⟩
  have K3 := Hid.mk' (K2.out.trans hk)
  have E2 := Hid.mk' (E1.out.kept hk hg)
  have RB2 := Hid.mk' (rowK RB1.out hk (.inr (by omega)))
  have hr2 : RL g (L.drop (n + 2)) w2 := hr2
  have R2 := Hid.mk' hr2
  obtain ⟨c0, c1, c2⟩ := hr2.cell
  have KC := cut_any (L.drop (n + 2)) w2 dl
  rw [hq, if_pos h3, List.drop_drop] at KC
  have KC := Hid.mk' KC
  clear hk hr2 KT
  go_wp2_with fail
  refine KC.out.mono ?_
  rintro e w3 ⟨rfl, hb⟩
  have K4 := Hid.mk' (K3.out.trans (KeptIn.of_below hb))
  have E3 := Hid.mk' (E2.out.keep (hb.mono E2.out.hB))
  have RB3 := Hid.mk' (rowB RB2.out hb)
  have R3 := R2.out.below hb
  have P3 := R3.put (L.drop (n + 2 + (q + 1)))
  have E4 := Hid.mk' (E3.out.kept P3.2 hg)
  have K5 := Hid.mk' (K4.out.trans P3.2)
  have RB4 := Hid.mk' (rowK RB3.out P3.2 (.inr (by omega)))
  have P4 := Hid.mk' P3.1
  clear c0 c1 c2
  obtain ⟨c0, c1, c2⟩ := R3.cell
  have sz3 : w.heap.size + 1 ≤ w3.heap.size := by have := RB3.out.lt; omega
  clear hb KC P3 R3
  have KD := implDec_any ⟨((L.drop (n + 2)).take q).toArray⟩ (w3.setCell ⟨g, 0, none⟩ (.string ⟨(L.drop (n + 2 + (q + 1))).toArray⟩)) (by rw [list_size, List.length_take]; omega) E4.out.refs E4.out.errs
  rw [list_data, DL, DC] at KD
  have KD := Hid.mk' KD
  go_wp2_with fail
  generalize w3.setCell ⟨g, 0, none⟩ (.string ⟨(L.drop (n + 2 + (q + 1))).toArray⟩) = w4 at *
  refine KD.out.mono ?_
  rintro e w5 ⟨v, rfl, hob, hin, hb⟩
  have RB5 := rowB RB4.out hb
  obtain ⟨d0, d1, d2⟩ := cells2 RB5
  have f0 := RB5.frozen 0
  have f1 := RB5.frozen 1
  have K6 := Hid.mk' (K5.out.trans (KeptIn.of_below hb))
  have R6 := Hid.mk' (P4.out.below hb)
  have s4 : w.heap.size + 1 ≤ w4.heap.size := RB4.out.lt
  obtain ⟨av, cv, rfl, _⟩ := hob.len
  have OBH := Hid.mk' hob
  have INH := Hid.mk' hin
  have szb := hb.size
  have hfl : ∀ (w : World) (a : Option Addr) (m c : Nat), (Instr.field 111 (.agg #[.int .i64 0, .slice a m c]) 1).run Tryz.prog w = .ok (.slice a m c) w := fun _ _ _ _ => by kernel_rfl
  clear hb RB5 hob hin KD c0 c1 c2
  go_wp2
  refine bodyPost_ret (v := .agg #[.string ⟨(L.take n).toArray⟩, .slice av (decode ((L.drop (n + 2)).take q)).length cv]) (by simp [results, Tryz.results60, go_sem, *]) rfl ?_
  unfold TakeP
  rw [ST.out]
  have KB : KeptIn w.heap.size (w.heap.size + 1) w5 ((w5.setCell ⟨w.heap.size, 0, none⟩ (.string ⟨(L.take n).toArray⟩)).setCell ⟨w.heap.size, 1, none⟩ (.slice av (decode ((L.drop (n + 2)).take q)).length cv)) :=
    ((KeptIn.refl _ _ _).setCell (p := ⟨w.heap.size, 0, none⟩) (Nat.le_refl _) (Nat.lt_succ_self _) _).setCell (p := ⟨w.heap.size, 1, none⟩) (Nat.le_refl _) (Nat.lt_succ_self _) _
  refine ⟨⟨_, rfl, OBH.out.keep (fun k e _ => ?_), fun k e => ?_, ?_⟩, ?_⟩
  · rw [Deep.blk_setCell_other _ _ _ _ (by have := INH.out k e; show k ≠ w.heap.size; omega), Deep.blk_setCell_other _ _ _ _ (by have := INH.out k e; show k ≠ w.heap.size; omega)]
  · have := INH.out k e
    simp only [World.heap_size_setCell']; omega
  · have := rowK R6.out KB (.inl (by omega))
    rw [show n + 2 + q + 1 = n + 2 + (q + 1) from by omega]
    exact this
  · exact ⟨K6.out.os, K6.out.tape, K6.out.output, by simp only [World.heap_size_setCell']; exact K6.out.size, fun i hi hx => by
      rw [Deep.blk_setCell_other _ _ _ _ (by show i ≠ w.heap.size; omega), Deep.blk_setCell_other _ _ _ _ (by show i ≠ w.heap.size; omega)]
      exact K6.out.block i hi hx⟩

/-- One more, put behind. -/
theorem OA.app2 {lo : Nat} {w w1 w2 : World} {v v' u : Value} {l : List AT} {us : List Value} {a : AT} (h : OA lo w v l us) (sz : w.heap.size ≤ w1.heap.size) (hw : ∀ k, lo ≤ k → k < w.heap.size → w1.heap[k]? = w.heap[k]?) (hu : OB w1 u a.vl) (hlo : lo ≤ w.heap.size) (hn : ∀ k, u.ownBlock = some k → w.heap.size ≤ k)
    (ho : w2.ownsRow lo 62 2 v' (l.length + 1) (acs l us ++ [.string a.nm, u])) (hg : w1.grownBy w2 v.ownBlock) (hv : v'.ownBlock = v.ownBlock ∨ v'.ownBlock = some w1.heap.size) : OA lo w2 v' (l ++ [a]) (us ++ [u]) := by
  have g1 : ∀ j, j < l.length → (us ++ [u]).getD j undef = us.getD j undef := fun j hj => by simp [List.getD_eq_getElem?_getD, List.getElem?_append_left (h.len.symm ▸ hj)]
  have g2 : (us ++ [u]).getD l.length undef = u := by simp [List.getD_eq_getElem?_getD, ← h.len]
  have a1 : ∀ j, j < l.length → atK (l ++ [a]) j = atK l j := fun j hj => by simp [atK, List.getD_eq_getElem?_getD, List.getElem?_append_left hj]
  have a2 : atK (l ++ [a]) l.length = a := by simp [atK, List.getD_eq_getElem?_getD]
  have old : ∀ j, j < l.length → ∀ k, (us.getD j undef).ownBlock = some k → k < w.heap.size := fun j hj k e => (h.val j hj).lt k e
  have vold : ∀ k, v.ownBlock = some k → k < w.heap.size := fun k e => (h.row.lt k e).2
  have ult : ∀ k, u.ownBlock = some k → k < w1.heap.size := fun k e => hu.lt k e
  have hvl : ∀ j, j < l.length → OB w2 (us.getD j undef) (atK l j).vl := fun j hj =>
    (h.val j hj).keep (fun k e _ => by
      rw [hg.block k (by have := old j hj k e; omega) (fun e2 => h.av j hj k e2.symm e), hw k (h.vlo j hj k e) (old j hj k e)])
  have huv : OB w2 u a.vl :=
    hu.keep (fun k e _ => hg.block k (ult k e) (fun e2 => by have := vold k e2.symm; have := hn k e; omega))
  refine ⟨by simp [h.len], ?_, fun j hj => ?_, fun j hj k e => ?_, fun i j hij hj => ?_, fun j hj => ?_⟩
  · rw [acs_snoc _ _ _ _ h.len, List.length_append]; exact ho
  · rw [List.length_append] at hj
    by_cases e : j = l.length
    · subst e; rw [g2, a2]; exact huv
    · rw [g1 j (by simp at hj; omega), a1 j (by simp at hj; omega)]; exact hvl j (by simp at hj; omega)
  · rw [List.length_append] at hj
    by_cases ej : j = l.length
    · subst ej; rw [g2] at e; have := hn k e; omega
    · rw [g1 j (by simp at hj; omega)] at e; exact h.vlo j (by simp at hj; omega) k e
  · rw [List.length_append] at hj
    rw [g1 i (by simp at hj; omega)]
    by_cases e : j = l.length
    · subst e; rw [g2]; intro k e1 e2; have := old i hij k e1; have := hn k e2; omega
    · rw [g1 j (by simp at hj; omega)]; exact h.ap i j hij (by simp at hj; omega)
  · rw [List.length_append] at hj
    intro k e1 e2
    rcases hv with hv | hv
    · rw [hv] at e1
      by_cases e : j = l.length
      · subst e; rw [g2] at e2; have := vold k e1; have := hn k e2; omega
      · rw [g1 j (by simp at hj; omega)] at e2; exact h.av j (by simp at hj; omega) k e1 e2
    · rw [hv] at e1
      cases e1
      by_cases e : j = l.length
      · subst e; rw [g2] at e2; have := ult _ e2; omega
      · rw [g1 j (by simp at hj; omega)] at e2; have := old j (by simp at hj; omega) _ e2; omega


set_option maxRecDepth 100000 in
set_option maxHeartbeats 1600000 in
theorem withAttr_any (lo : Nat) (wz w : World) (v u : Value) (acc : List AT) (us : List Value) (a : AT) (h : OA lo wz v acc us) (hsz : wz.heap.size ≤ w.heap.size) (hk : ∀ k, lo ≤ k → k < wz.heap.size → w.heap[k]? = wz.heap[k]?) (hu : OB w u a.vl) (hn : ∀ k, u.ownBlock = some k → wz.heap.size ≤ k) (hlo : lo ≤ wz.heap.size) (few : acc.length ≤ 1000) :
    Calls Tryz.prog 59 #[v, .agg #[.string a.nm, u]] w fun e w' => ∃ v' us', e = .returned v' ∧ OA lo w' v' (addA acc a) us' ∧ Below lo w w' := by
  obtain ⟨au, cu, rfl, _⟩ := hu.len
  have N0 := below_new w (.cells #[.string a.nm, .slice au a.vl.length cu] 62)
  have HO := h.keep (Nat.le_refl _) hk
  have H0 := Hid.mk' (HO.below N0)
  have U0 := Hid.mk' (hu.below N0)
  obtain ⟨av, cv, rfl, hAA⟩ := (HO.below N0).at
  have RB := Hid.mk' (rowp2 w 62 (.string a.nm) (.slice au a.vl.length cu))
  have B0 := Hid.mk' N0
  have HZ := Hid.mk' h
  have HK := Hid.mk' hk
  have HN := Hid.mk' hn
  have sz0 : (w.alloc (.cells #[.string a.nm, .slice au a.vl.length cu] 62)).heap.size = w.heap.size + 1 := by simp
  have KP := Hid.mk' (placeOf_any av cv acc a.nm _ hAA (by omega))
  clear HO N0 hAA h hk hn hu
  generalize hw0 : w.alloc (.cells #[.string a.nm, .slice au a.vl.length cu] 62) = w0 at *
  obtain ⟨g0, g1, g2⟩ := cells2 RB.out
  by_cases hp : 0 ≤ posK acc a.nm
  · have E : Hid (addA acc a = acc) := Hid.mk' (by unfold addA; rw [if_pos hp])
    go_enter Tryz.func59, Tryz.ntmps59
    go_wp2_with fail
    clear hw0
    refine KP.out.mono ?_
    rintro e w1 ⟨rfl, hb⟩
    have H1 := Hid.mk' (H0.out.below hb)
    have B1 := Hid.mk' ((B0.out.trans (hb.mono B0.out.size)).mono (show lo ≤ w.heap.size by omega))
    clear hb
    go_wp2
    go_ret
    exact ⟨_, us, rfl, by rw [E.out]; exact H1.out, B1.out⟩
  · have E : Hid (addA acc a = acc ++ [a]) := Hid.mk' (by unfold addA; rw [if_neg hp])
    go_enter Tryz.func59, Tryz.ntmps59
    go_wp2_with fail
    clear hw0
    refine KP.out.mono ?_
    rintro e w1 ⟨rfl, hb⟩
    have RB1 := rowB RB.out hb
    clear g0 g1 g2
    obtain ⟨g0, g1, g2⟩ := cells2 RB1
    have sz1 := hb.size
    have NN := below_new w1 (.cells #[.string a.nm, .slice au a.vl.length cu] 62)
    have M1 := (B0.out.trans (hb.mono B0.out.size)).trans (NN.mono (show w.heap.size ≤ w1.heap.size by omega))
    have OWN := Hid.mk' ((H0.out.below hb).below NN)
    have U1 := Hid.mk' ((U0.out.below hb).below NN)
    have MM := Hid.mk' M1
    clear RB1 hb NN M1
    go_wp2_with (at_builtin; refine wpList_append_at _ rfl (.tmp 11) (.tmp 13) 31 rfl lo 62 (.agg #[.string ⟨#[]⟩, .slice none 0 0]) 2 40 Tryz.underlying31 Tryz.info62 rfl (by decide) _ _ _ rfl OWN.out.row _ 1 _ [.string a.nm, .slice au a.vl.length cu] rfl rfl (.inr ⟨_, rfl, one_attr w1 _ _ _ _ rfl⟩) (by simp [Value.oneCell']) (by unfold maxLen; omega) (by omega) (by simp; omega) ?_; intro v' w4 ho hgr hat)
    have A4 := Hid.mk' (HZ.out.app2 (w1 := w1.alloc (.cells #[.string a.nm, .slice au a.vl.length cu] 62)) (Nat.le_trans hsz MM.out.size) (fun k h1 h2 => by rw [MM.out.block k (by omega)]; exact HK.out k h1 h2) U1.out hlo HN.out ho hgr hat)
    have B4 := Hid.mk' ((MM.out.mono (show lo ≤ w.heap.size by omega)).grown hgr (by have := MM.out.size; omega) (own_lo OWN.out.row))
    clear ho hgr hat
    go_ret
    exact ⟨_, _, rfl, by rw [E.out]; exact A4.out, B4.out⟩

end Go.Proofs.YtgkdplooocbonaaGreatDoor
