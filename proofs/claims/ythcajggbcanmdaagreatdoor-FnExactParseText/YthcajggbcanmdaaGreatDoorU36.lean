/- Walks: lists of tokens that are the same are told so; the model's SameTokens. -/
import Derived.Test.YthcajggbcanmdaaGreatDoorU19
import Derived.BigGuard
import Derived.Laws.BytesString
import Derived.Laws.IdiomStrings
import Derived.Test.YthcajggbcanmdaaGreatDoorU35
import Derived.Test.YthcajggbcanmdaaGreatDoorU24
set_option linter.unusedVariables false
set_option linter.unusedSimpArgs false
namespace Go.Proofs.YthcajggbcanmdaaGreatDoor
open Go.RowKit

end Go.Proofs.YthcajggbcanmdaaGreatDoor

namespace Go.Proofs.YthcajggbcanmdaaGreatDoor
open Go.RowKit

theorem pallR_le (s : BS) (l : List TK) (hl : (s.nd.length : Int) + nssz s.nd + s.op.length ≤ 1048576) (ht : (l.length : Int) + tssz l ≤ 1048576 - (s.nd.length : Int) - nssz s.nd - s.op.length) : ((pallR s l).nd.length : Int) + nssz (pallR s l).nd + (pallR s l).op.length ≤ 2000000 ∧ ((pallR s l).op.length : Int) ≤ 1048576 := by
  by_cases h0 : pallC s l = 0
  · rw [pallR_good h0]
    rcases pall_cases s l with ⟨h1, h2, _⟩ | ⟨_, _, h2, _⟩ | ⟨h1, h4, _⟩
    · exact absurd (h2.symm.trans h0) h1
    · rw [h2] at h0; exact absurd h0 (by decide)
    · have g := (gs_fold (gs_of h1) l).o
      have n := nS_fold l s
      unfold nS at n
      omega
  · rw [pallR_bad h0]; simp [noS, nssz]

end Go.Proofs.YthcajggbcanmdaaGreatDoor

namespace Go.Proofs.YthcajggbcanmdaaGreatDoor
open Go.RowKit

def btC (l : List TK) : Int := if pallC noS l = 0 then (if (pallR noS l).lg = true then 6 else 0) else pallC noS l
def btN (l : List TK) : List ND := if pallC noS l = 0 then (if (pallR noS l).lg = true then [] else (pallR noS l).nd) else []

theorem bt_cases (l : List TK) : (¬ pallC noS l = 0 ∧ btC l = pallC noS l ∧ btN l = []) ∨ (pallC noS l = 0 ∧ (pallR noS l).lg = true ∧ btC l = 6 ∧ btN l = []) ∨ (pallC noS l = 0 ∧ (pallR noS l).lg = false ∧ btC l = 0 ∧ btN l = (pallR noS l).nd) := by
  unfold btC btN
  by_cases h : pallC noS l = 0
  · rw [if_pos h, if_pos h]
    cases hl : (pallR noS l).lg with
    | true => exact .inr (.inl ⟨h, rfl, by simp, by simp⟩)
    | false => exact .inr (.inr ⟨h, rfl, by simp, by simp⟩)
  · rw [if_neg h, if_neg h]
    exact .inl ⟨h, rfl, rfl⟩

def TreeQ (c : Int) (nd : List ND) (w : World) (e : Ending) (w' : World) : Prop := ∃ τ vn va vt us, e = .returned (.agg #[.int .i64 c, vn]) ∧ NQ τ w.heap.size w' vn nd va vt us ∧ (∀ k, ¬ (w.heap.size ≤ k ∧ k < w'.heap.size) → τ k = 2) ∧ Below w.heap.size w w'

theorem TreeQ.err {c : Int} {w w' : World} (hb : Below w.heap.size w w') : TreeQ c [] w (.returned (.agg #[.int .i64 c, .slice none 0 0])) w' :=
  ⟨fun _ => 2, _, fun _ => undef, fun _ => undef, fun _ => [], rfl, (NS.nil _ _ _ _ _ _).nq, fun _ _ => rfl, hb⟩

theorem NQ.lo {τ : Nat → Nat} {lo lo' : Nat} {w : World} {v : Value} {l : List ND} {va vt : Nat → Value} {us : Nat → List Value} (h : NQ τ lo w v l va vt us) (hl : lo' ≤ lo) : NQ τ lo' w v l va vt us :=
  ⟨own_of h.row hl (fun _ _ _ => rfl), fun j hj => (h.att j hj).keep hl (fun _ _ _ => rfl), h.txt, h.rl, h.al, h.ul, h.tl⟩

set_option maxRecDepth 100000 in
set_option maxHeartbeats 3200000 in
theorem implBT_any (l : List TK) (q : Option Addr) (c' : Nat) (w : World) (ht : TsAt w q l) (hm : (l.length : Int) + tssz l ≤ 1048576) :
    Calls Tryz.prog 43 #[.slice q l.length c'] w fun e w' => TreeQ (btC l) (btN l) w e w' := by
  have N0 := below_new w (.cells #[.int .i64 0, .slice none 0 0] 43)
  have KP0 : Calls Tryz.prog 66 #[.agg #[.slice none 0 0, .slice none 0 0, .bool false], .slice q l.length c'] _ fun e w' => PutP (pallC noS l) (pallR noS l) _ e w' := implAll_any noS l none none q 0 0 c' _ ⟨.inl rfl, .inl rfl⟩ (ht.below N0) (by simp [noS, nssz]) hm
  have HR := Hid.mk' (rowQ2 w 43 (.int .i64 0) (.slice none 0 0))
  have HN := Hid.mk' N0
  have HC := Hid.mk' (bt_cases l)
  have KP := Hid.mk' KP0
  clear ht N0 KP0
  obtain ⟨xb, hxb⟩ : ∃ xb, w.heap.size = xb := ⟨_, rfl⟩
  rw [hxb] at HR
  have XB := Hid.mk' hxb
  obtain ⟨C, hC⟩ : ∃ C, pallC noS l = C := ⟨_, rfl⟩
  obtain ⟨R, hR⟩ : ∃ R, pallR noS l = R := ⟨_, rfl⟩
  rw [hC, hR] at KP HC
  clear hC hR
  generalize hW : w.alloc (.cells #[.int .i64 0, .slice none 0 0] 43) = W at *
  go_enter Tryz.func43, Tryz.ntmps43
  go_wp2_with fail
  clear hW hxb
  refine KP.out.mono ?_
  rintro e w1 ⟨τ, vn, vo, va, vt, us, rfl, hq, hcap, hb⟩
  obtain ⟨an, cn, po, dn, rfl, rfl, hs⟩ := hq.at
  have N1 := below_new w1 (.cells #[.int .i64 C, .slice an R.nd.length cn, .slice po R.op.length dn, .bool R.lg] 87)
  have M1 := hb.trans (N1.mono hb.size)
  have R1 := rowB HR.out M1
  have RB := row4 w1 87 (.int .i64 C) (.slice an R.nd.length cn) (.slice po R.op.length dn) (.bool R.lg)
  have HQz := Hid.mk' (hq.ns.below N1)
  have HB := Hid.mk' (HN.out.trans (M1.mono HN.out.size))
  have CAP := Hid.mk' hcap
  have LT : Hid (xb < W.heap.size ∧ W.heap.size ≤ w1.heap.size) := Hid.mk' ⟨HR.out.lt, hb.size⟩
  have ZZ : Hid ((w1.alloc (.cells #[.int .i64 C, .slice an R.nd.length cn, .slice po R.op.length dn, .bool R.lg] 87)).heap.size = w1.heap.size + 1) := Hid.mk' (by simp)
  obtain ⟨x0, x1, x2⟩ := cellsQ2 R1
  obtain ⟨f0, f1⟩ := frzQ2 R1
  obtain ⟨y0, y1, y2, y3, y4⟩ := cells4 RB
  clear hq hcap hb hs N1 M1 R1 RB KP
  generalize hW1 : w1.alloc (.cells #[.int .i64 C, .slice an R.nd.length cn, .slice po R.op.length dn, .bool R.lg] 87) = W1 at *
  have hx := XB.out
  have KS : ∀ (u0 u1 : Value), KeptIn xb (xb + 1) W1 ((W1.setCell ⟨xb, 0, none⟩ u0).setCell ⟨xb, 1, none⟩ u1) := fun u0 u1 => ((KeptIn.refl _ _ W1).setCell (p := ⟨xb, 0, none⟩) (by simp) (by simp) u0).setCell (p := ⟨xb, 1, none⟩) (by simp) (by simp) u1
  have HKS := Hid.mk' KS
  have HXX := Hid.mk' hx
  clear KS hx
  rcases HC.out with ⟨h1, h2, h3⟩ | ⟨h1, h4, h2, h3⟩ | ⟨h1, h4, h2, h3⟩
  · have E2 := Hid.mk' h2
    have E3 := Hid.mk' h3
    clear h2 h3 HC
    go_wp2
    clear hW1
    refine bodyPost_ret (v := .agg #[.int .i64 C, .slice none 0 0]) (by simp [results, Tryz.results43, go_sem, *]) rfl ?_
    rw [E2.out, E3.out]
    exact TreeQ.err (HB.out.trans ((HKS.out _ _).below (by have := HXX.out; omega) HB.out.size))
  · have E2 := Hid.mk' h2
    have E3 := Hid.mk' h3
    rw [h4] at y3
    clear h2 h3 HC h4
    subst h1
    go_wp2
    clear hW1
    refine bodyPost_ret (v := .agg #[.int .i64 6, .slice none 0 0]) (by simp [results, Tryz.results43, go_sem, *]) rfl ?_
    rw [E2.out, E3.out]
    exact TreeQ.err (HB.out.trans ((HKS.out _ _).below (by have := HXX.out; omega) HB.out.size))
  · have E2 := Hid.mk' h2
    have E3 := Hid.mk' h3
    rw [h4] at y3
    clear h2 h3 HC h4
    subst h1
    go_wp2
    clear hW1
    refine bodyPost_ret (v := .agg #[.int .i64 0, .slice an R.nd.length cn]) (by simp [results, Tryz.results43, go_sem, *]) rfl ?_
    rw [E2.out, E3.out]
    have hx := HXX.out
    have lt := LT.out
    have zz := ZZ.out
    have KK := HKS.out (.int .i64 0) (.slice an R.nd.length cn)
    refine ⟨τ, _, va, vt, us, rfl, ((HQz.out.keep (Kp.of_kept KK (fun k e => ?_))).lo (by omega)), fun k hk => CAP.out k ?_, HB.out.trans (KK.below (by omega) HB.out.size)⟩
    · by_cases hk : k = xb
      · have := CAP.out k (by omega)
        omega
      · omega
    · have := KK.size
      omega

set_option maxRecDepth 100000 in
set_option maxHeartbeats 3200000 in
theorem specBT_any (l : List TK) (q : Option Addr) (c' : Nat) (w : World) (ht : TsB w q l) (hm : (l.length : Int) + tssz l ≤ 1048576) :
    Calls Tryz.prog 42 #[.slice q l.length c'] w fun e w' => TreeQ (btC l) (btN l) w e w' := by
  have N0 := below_new w (.cells #[.int .i64 0, .slice none 0 0] 43)
  have KP0 : Calls Tryz.prog 65 #[.agg #[.slice none 0 0, .slice none 0 0, .bool false], .slice q l.length c'] _ fun e w' => PutP (pallC noS l) (pallR noS l) _ e w' := specAll_any noS l none none q 0 0 c' _ ⟨.inl rfl, .inl rfl⟩ (ht.below N0) (by simp [noS, nssz]) hm
  have HR := Hid.mk' (rowQ2 w 43 (.int .i64 0) (.slice none 0 0))
  have HN := Hid.mk' N0
  have HC := Hid.mk' (bt_cases l)
  have KP := Hid.mk' KP0
  clear ht N0 KP0
  obtain ⟨xb, hxb⟩ : ∃ xb, w.heap.size = xb := ⟨_, rfl⟩
  rw [hxb] at HR
  have XB := Hid.mk' hxb
  obtain ⟨C, hC⟩ : ∃ C, pallC noS l = C := ⟨_, rfl⟩
  obtain ⟨R, hR⟩ : ∃ R, pallR noS l = R := ⟨_, rfl⟩
  rw [hC, hR] at KP HC
  clear hC hR
  generalize hW : w.alloc (.cells #[.int .i64 0, .slice none 0 0] 43) = W at *
  go_enter Tryz.func42, Tryz.ntmps42
  go_wp2_with fail
  clear hW hxb
  refine KP.out.mono ?_
  rintro e w1 ⟨τ, vn, vo, va, vt, us, rfl, hq, hcap, hb⟩
  obtain ⟨an, cn, po, dn, rfl, rfl, hs⟩ := hq.at
  have N1 := below_new w1 (.cells #[.int .i64 C, .slice an R.nd.length cn, .slice po R.op.length dn, .bool R.lg] 87)
  have M1 := hb.trans (N1.mono hb.size)
  have R1 := rowB HR.out M1
  have RB := row4 w1 87 (.int .i64 C) (.slice an R.nd.length cn) (.slice po R.op.length dn) (.bool R.lg)
  have HQz := Hid.mk' (hq.ns.below N1)
  have HB := Hid.mk' (HN.out.trans (M1.mono HN.out.size))
  have CAP := Hid.mk' hcap
  have LT : Hid (xb < W.heap.size ∧ W.heap.size ≤ w1.heap.size) := Hid.mk' ⟨HR.out.lt, hb.size⟩
  have ZZ : Hid ((w1.alloc (.cells #[.int .i64 C, .slice an R.nd.length cn, .slice po R.op.length dn, .bool R.lg] 87)).heap.size = w1.heap.size + 1) := Hid.mk' (by simp)
  obtain ⟨x0, x1, x2⟩ := cellsQ2 R1
  obtain ⟨f0, f1⟩ := frzQ2 R1
  obtain ⟨y0, y1, y2, y3, y4⟩ := cells4 RB
  clear hq hcap hb hs N1 M1 R1 RB KP
  generalize hW1 : w1.alloc (.cells #[.int .i64 C, .slice an R.nd.length cn, .slice po R.op.length dn, .bool R.lg] 87) = W1 at *
  have hx := XB.out
  have KS : ∀ (u0 u1 : Value), KeptIn xb (xb + 1) W1 ((W1.setCell ⟨xb, 0, none⟩ u0).setCell ⟨xb, 1, none⟩ u1) := fun u0 u1 => ((KeptIn.refl _ _ W1).setCell (p := ⟨xb, 0, none⟩) (by simp) (by simp) u0).setCell (p := ⟨xb, 1, none⟩) (by simp) (by simp) u1
  have HKS := Hid.mk' KS
  have HXX := Hid.mk' hx
  clear KS hx
  rcases HC.out with ⟨h1, h2, h3⟩ | ⟨h1, h4, h2, h3⟩ | ⟨h1, h4, h2, h3⟩
  · have E2 := Hid.mk' h2
    have E3 := Hid.mk' h3
    clear h2 h3 HC
    go_wp2
    clear hW1
    refine bodyPost_ret (v := .agg #[.int .i64 C, .slice none 0 0]) (by simp [results, Tryz.results42, go_sem, *]) rfl ?_
    rw [E2.out, E3.out]
    exact TreeQ.err (HB.out.trans ((HKS.out _ _).below (by have := HXX.out; omega) HB.out.size))
  · have E2 := Hid.mk' h2
    have E3 := Hid.mk' h3
    rw [h4] at y3
    clear h2 h3 HC h4
    subst h1
    go_wp2
    clear hW1
    refine bodyPost_ret (v := .agg #[.int .i64 6, .slice none 0 0]) (by simp [results, Tryz.results42, go_sem, *]) rfl ?_
    rw [E2.out, E3.out]
    exact TreeQ.err (HB.out.trans ((HKS.out _ _).below (by have := HXX.out; omega) HB.out.size))
  · have E2 := Hid.mk' h2
    have E3 := Hid.mk' h3
    rw [h4] at y3
    clear h2 h3 HC h4
    subst h1
    go_wp2
    clear hW1
    refine bodyPost_ret (v := .agg #[.int .i64 0, .slice an R.nd.length cn]) (by simp [results, Tryz.results42, go_sem, *]) rfl ?_
    rw [E2.out, E3.out]
    have hx := HXX.out
    have lt := LT.out
    have zz := ZZ.out
    have KK := HKS.out (.int .i64 0) (.slice an R.nd.length cn)
    refine ⟨τ, _, va, vt, us, rfl, ((HQz.out.keep (Kp.of_kept KK (fun k e => ?_))).lo (by omega)), fun k hk => CAP.out k ?_, HB.out.trans (KK.below (by omega) HB.out.size)⟩
    · by_cases hk : k = xb
      · have := CAP.out k (by omega)
        omega
      · omega
    · have := KK.size
      omega

end Go.Proofs.YthcajggbcanmdaaGreatDoor

namespace Go.Proofs.YthcajggbcanmdaaGreatDoor
open Go.RowKit

theorem row_toks {w : World} {lo : Nat} {v : Value} {ts : List TK} {us : List Value} (hl : us.length = ts.length) (h : w.ownsRow lo 37 5 v ts.length (tcs ts us)) (ha : ∀ j, j < ts.length → ∃ p c, us.getD j undef = .slice p (tkK ts j).at_.length c ∧ AAt w p (tkK ts j).at_ ∧ (tkK ts j).at_.length ≤ c) : ∃ a c, v = .slice a ts.length c ∧ TsB w a ts := by
  rcases h.2 with ⟨rfl, h0⟩ | ⟨g, cap, cur, rfl, hg, hh, hc, hm, hs, ht⟩
  · exact ⟨none, 0, by rw [h0], .inl (List.eq_nil_of_length_eq_zero h0)⟩
  · have glt : g < w.heap.size := Nat.lt_of_not_le fun hn => by rw [Array.getElem?_eq_none hn] at hh; cases hh
    refine ⟨_, _, rfl, .inr ⟨g, 0, rfl, glt, fun k hk => ?_⟩⟩
    have q : ∀ i, w.cell? ⟨g, i, none⟩ = cur[i]? := fun i => Lib.cell_of_heap hh i
    have cc : ∀ i, i < 5 → w.cell? ⟨g, k * 5 + i, none⟩ = ([.int .i64 (tkK ts k).kd, .int .i64 (tkK ts k).by_, .string (tkK ts k).nm, us.getD k undef, .bool (tkK ts k).sh] : List Value)[i]? := fun i hi => by
      rw [q, ← tcs_get ts us k i hl hk hi, ← ht, List.getElem?_take_of_lt (by omega)]
      simp
    obtain ⟨p, c, e, haa, hcc⟩ := ha k hk
    simp only [Nat.zero_add]
    refine ⟨p, c, ⟨cc 0 (by omega), cc 1 (by omega), cc 2 (by omega), ?_, cc 4 (by omega), glt⟩, haa, hcc⟩
    rw [cc 3 (by omega), ← e]; rfl

theorem OA.room {lo : Nat} {w : World} {v : Value} {l : List AT} {us : List Value} (h : OA lo w v l us) : ∃ a c, v = .slice a l.length c ∧ AAt w a l ∧ l.length ≤ c := by
  obtain ⟨a, c, e, ha⟩ := h.at
  obtain ⟨a', c', e', hc⟩ := own_cap h.row
  rw [e] at e'
  injection e' with e1 e2 e3
  exact ⟨a, c, e, ha, by omega⟩

theorem TP.tsB {lo : Nat} {w : World} {tv : Value} {ts : List TK} {us : List Value} {rs : Nat → List Value} {bl bh : Nat → Nat} (h : TP lo w tv ts us rs bl bh) : ∃ a c, tv = .slice a ts.length c ∧ TsB w a ts :=
  row_toks h.ta.len h.row (fun j hj => (h.ta.att j hj).room)

theorem TokS.tsB {base : Nat} {w : World} {v : Value} {ts : List TK} {us : List Value} (h : TokS base w v ts us) : ∃ a c, v = .slice a ts.length c ∧ TsB w a ts :=
  row_toks h.len h.row (fun j hj => by
    have h1 : ts[j]? = some (tkK ts j) := by simp [tkK, List.getD_eq_getElem?_getD, hj]
    have h2 : us[j]? = some (us.getD j undef) := by simp [List.getD_eq_getElem?_getD, h.len, hj]
    obtain ⟨rs, ho⟩ := (h.all j _ _ h1 h2).held
    exact ho.room)

theorem TsB.at {w : World} {a : Option Addr} {l : List TK} (h : TsB w a l) : TsAt w a l := by
  rcases h with h | ⟨b, o, e, hs, hc⟩
  · exact .inl h
  · refine .inr ⟨b, o, e, hs, fun k hk => ?_⟩
    obtain ⟨p, c, ⟨h1, h2, h3, h4, h5, _⟩, ha, _⟩ := hc k hk
    exact ⟨h1, h2, h3, ⟨p, c, h4, ha⟩, h5⟩

def ptC (d : List Int) : Int := if 240 < d.length then 6 else btC (lexX d)
def ptN (d : List Int) : List ND := if 240 < d.length then [] else btN (lexX d)

theorem lex_room (d : List Int) (h : ¬ 240 < d.length) : ((lexX d).length : Int) + tssz (lexX d) ≤ 1048576 := by
  have := lex_fits d
  unfold wei at this
  omega

theorem TreeQ.boxed {c : Int} {nd : List ND} {w V w3 : World} {vn : Value} {τ : Nat → Nat} {va vt : Nat → Value} {us : Nat → List Value} (hq : NQ τ V.heap.size w3 vn nd va vt us) (hcap : ∀ k, ¬ (V.heap.size ≤ k ∧ k < w3.heap.size) → τ k = 2) (h3 : Below w.heap.size w w3) (hV : w.heap.size < V.heap.size) :
    TreeQ c nd w (.returned (.agg #[.int .i64 c, vn])) ((w3.setCell ⟨w.heap.size, 0, none⟩ (.int .i64 c)).setCell ⟨w.heap.size, 1, none⟩ vn) := by
  have KK : KeptIn w.heap.size (w.heap.size + 1) w3 ((w3.setCell ⟨w.heap.size, 0, none⟩ (.int .i64 c)).setCell ⟨w.heap.size, 1, none⟩ vn) := ((KeptIn.refl _ _ w3).setCell (p := ⟨w.heap.size, 0, none⟩) (by simp) (by simp) _).setCell (p := ⟨w.heap.size, 1, none⟩) (by simp) (by simp) _
  have sz : ((w3.setCell ⟨w.heap.size, 0, none⟩ (.int .i64 c)).setCell ⟨w.heap.size, 1, none⟩ vn).heap.size = w3.heap.size := by simp [World.setCell]
  refine ⟨τ, vn, va, vt, us, rfl, (hq.keep (Kp.of_kept KK (fun k e => ?_))).lo (by omega), fun k hk => hcap k (by rw [sz] at hk; omega), h3.trans (KK.below (Nat.le_refl _) h3.size)⟩
  by_cases hk : k = w.heap.size
  · have := hcap k (by omega)
    omega
  · omega

set_option maxRecDepth 100000 in
set_option maxHeartbeats 3200000 in
theorem implPX_any (tp : TypeId) (pv : Value) (d : List Int) (ad : Option Addr) (cd : Nat) (w : World) (hE : Env w.heap.size tp pv w) (hd : BAt w ad d) (hu : Byt d) (hl : (d.length : Int) ≤ 9223372036854775807) :
    Calls Tryz.prog 20 #[.slice ad d.length cd] w fun e w' => TreeQ (ptC d) (ptN d) w e w' := by
  have N0 := below_new w (.cells #[.int .i64 0, .slice none 0 0] 43)
  have HR := Hid.mk' (rowQ2 w 43 (.int .i64 0) (.slice none 0 0))
  have KL := Hid.mk' (implLT_any tp pv d ad cd _ ((hE.keep N0).up N0.size (Nat.le_refl _)) (hd.below N0) hu hl)
  have HB := Hid.mk' N0
  clear N0 hd hE
  generalize hW : w.alloc (.cells #[.int .i64 0, .slice none 0 0] 43) = W at *
  go_enter Tryz.func20, Tryz.ntmps20
  go_wp2_with fail
  clear hW
  refine KL.out.mono ?_
  rintro e w1 (⟨h6, rfl, hb1⟩ | ⟨h6, tv, us, rs, bl, bh, rfl, ht, hb1⟩)
  · have E1 : Hid (ptC d = 6) := Hid.mk' (by unfold ptC; rw [if_pos h6])
    have E2 : Hid (ptN d = []) := Hid.mk' (by unfold ptN; rw [if_pos h6])
    have N1 := below_new w1 (.cells #[.int .i64 6, .slice none 0 0, .slice none 0 0] 27)
    have M1 := hb1.trans (N1.mono hb1.size)
    have B1 := Hid.mk' (HB.out.trans (M1.mono HB.out.size))
    have R1 := rowB HR.out M1
    obtain ⟨y0, y1, y2⟩ := cellsQ2 R1
    obtain ⟨f0, f1⟩ := frzQ2 R1
    obtain ⟨z0, z1, z2, z3⟩ := cells3 (row3 w1 27 (.int .i64 6) (.slice none 0 0) (.slice none 0 0))
    clear hb1 R1 N1 M1 KL
    go_wp2
    refine bodyPost_ret (v := .agg #[.int .i64 6, .slice none 0 0]) (by simp [results, Tryz.results20, go_sem, *]) rfl ?_
    rw [E1.out, E2.out]
    exact TreeQ.err ((B1.out.setCell (p := ⟨w.heap.size, 0, none⟩) (by simp) _).setCell (p := ⟨w.heap.size, 1, none⟩) (by simp) _)
  · have E1 : Hid (ptC d = btC (lexX d)) := Hid.mk' (by unfold ptC; rw [if_neg h6])
    have E2 : Hid (ptN d = btN (lexX d)) := Hid.mk' (by unfold ptN; rw [if_neg h6])
    have lr := lex_room d h6
    obtain ⟨a1, c1, rfl, hts⟩ := ht.tsB
    have N1 := below_new w1 (.cells #[.int .i64 0, .slice a1 (lexX d).length c1, .slice none 0 0] 27)
    have M1 := hb1.trans (N1.mono hb1.size)
    have B1 := Hid.mk' (HB.out.trans (M1.mono HB.out.size))
    have R1 := Hid.mk' (rowB HR.out M1)
    obtain ⟨z0, z1, z2, z3⟩ := cells3 (row3 w1 27 (.int .i64 0) (.slice a1 (lexX d).length c1) (.slice none 0 0))
    have KB := Hid.mk' (implBT_any (lexX d) a1 c1 _ (hts.below N1).at lr)
    have L1 := Hid.mk' (show w.heap.size < w1.heap.size by have := HR.out.lt; have := hb1.size; omega)
    clear hb1 N1 M1 KL ht hts lr
    generalize lexX d = X at *
    generalize btC X = C at *
    generalize btN X = R at *
    go_wp2_with fail
    generalize hV : w1.alloc (.cells #[.int .i64 0, .slice a1 X.length c1, .slice none 0 0] 27) = V at *
    clear hV
    refine KB.out.mono ?_
    rintro e w2 ⟨τ, vn, va, vt, us2, rfl, hq, hcap, hb2⟩
    obtain ⟨an, cn, rfl, _⟩ := own_len hq.row
    have B2 := Hid.mk' (B1.out.trans (hb2.mono B1.out.size))
    have R2 := rowB R1.out hb2
    obtain ⟨y0, y1, y2⟩ := cellsQ2 R2
    obtain ⟨f0, f1⟩ := frzQ2 R2
    have HQ2 := Hid.mk' hq
    have CAP := Hid.mk' hcap
    have LV : Hid (w.heap.size < V.heap.size) := Hid.mk' (by have := L1.out; omega)
    clear hb2 R2 hq hcap KB z0 z1 z2 z3
    go_wp2
    refine bodyPost_ret (v := .agg #[.int .i64 C, .slice an R.length cn]) (by simp [results, Tryz.results20, go_sem, *]) rfl ?_
    rw [E1.out, E2.out]
    exact TreeQ.boxed HQ2.out CAP.out B2.out LV.out

set_option maxRecDepth 100000 in
set_option maxHeartbeats 3200000 in
theorem specPX_any (d : List Int) (ad : Option Addr) (cd : Nat) (w : World) (hd : BAt w ad d) (hu : Byt d) (hl : (d.length : Int) ≤ 9223372036854775807) :
    Calls Tryz.prog 19 #[.slice ad d.length cd] w fun e w' => TreeQ (ptC d) (ptN d) w e w' := by
  have N0 := below_new w (.cells #[.int .i64 0, .slice none 0 0] 43)
  have HR := Hid.mk' (rowQ2 w 43 (.int .i64 0) (.slice none 0 0))
  have KL := Hid.mk' (specLT_any d ad cd _ (hd.below N0) hu hl)
  have HB := Hid.mk' N0
  clear N0 hd
  generalize hW : w.alloc (.cells #[.int .i64 0, .slice none 0 0] 43) = W at *
  go_enter Tryz.func19, Tryz.ntmps19
  go_wp2_with fail
  clear hW
  refine KL.out.mono ?_
  rintro e w1 (⟨h6, rfl, hb1⟩ | ⟨h6, tv, us, rfl, ht, hb1⟩)
  · have E1 : Hid (ptC d = 6) := Hid.mk' (by unfold ptC; rw [if_pos h6])
    have E2 : Hid (ptN d = []) := Hid.mk' (by unfold ptN; rw [if_pos h6])
    have N1 := below_new w1 (.cells #[.int .i64 6, .slice none 0 0, .slice none 0 0] 27)
    have M1 := hb1.trans (N1.mono hb1.size)
    have B1 := Hid.mk' (HB.out.trans (M1.mono HB.out.size))
    have R1 := rowB HR.out M1
    obtain ⟨y0, y1, y2⟩ := cellsQ2 R1
    obtain ⟨f0, f1⟩ := frzQ2 R1
    obtain ⟨z0, z1, z2, z3⟩ := cells3 (row3 w1 27 (.int .i64 6) (.slice none 0 0) (.slice none 0 0))
    clear hb1 R1 N1 M1 KL
    go_wp2
    refine bodyPost_ret (v := .agg #[.int .i64 6, .slice none 0 0]) (by simp [results, Tryz.results19, go_sem, *]) rfl ?_
    rw [E1.out, E2.out]
    exact TreeQ.err ((B1.out.setCell (p := ⟨w.heap.size, 0, none⟩) (by simp) _).setCell (p := ⟨w.heap.size, 1, none⟩) (by simp) _)
  · have E1 : Hid (ptC d = btC (lexX d)) := Hid.mk' (by unfold ptC; rw [if_neg h6])
    have E2 : Hid (ptN d = btN (lexX d)) := Hid.mk' (by unfold ptN; rw [if_neg h6])
    have lr := lex_room d h6
    obtain ⟨a1, c1, rfl, hts⟩ := ht.tsB
    have N1 := below_new w1 (.cells #[.int .i64 0, .slice a1 (lexX d).length c1, .slice none 0 0] 27)
    have M1 := hb1.trans (N1.mono hb1.size)
    have B1 := Hid.mk' (HB.out.trans (M1.mono HB.out.size))
    have R1 := Hid.mk' (rowB HR.out M1)
    obtain ⟨z0, z1, z2, z3⟩ := cells3 (row3 w1 27 (.int .i64 0) (.slice a1 (lexX d).length c1) (.slice none 0 0))
    have KB := Hid.mk' (specBT_any (lexX d) a1 c1 _ (hts.below N1) lr)
    have L1 := Hid.mk' (show w.heap.size < w1.heap.size by have := HR.out.lt; have := hb1.size; omega)
    clear hb1 N1 M1 KL ht hts lr
    generalize lexX d = X at *
    generalize btC X = C at *
    generalize btN X = R at *
    go_wp2_with fail
    generalize hV : w1.alloc (.cells #[.int .i64 0, .slice a1 X.length c1, .slice none 0 0] 27) = V at *
    clear hV
    refine KB.out.mono ?_
    rintro e w2 ⟨τ, vn, va, vt, us2, rfl, hq, hcap, hb2⟩
    obtain ⟨an, cn, rfl, _⟩ := own_len hq.row
    have B2 := Hid.mk' (B1.out.trans (hb2.mono B1.out.size))
    have R2 := rowB R1.out hb2
    obtain ⟨y0, y1, y2⟩ := cellsQ2 R2
    obtain ⟨f0, f1⟩ := frzQ2 R2
    have HQ2 := Hid.mk' hq
    have CAP := Hid.mk' hcap
    have LV : Hid (w.heap.size < V.heap.size) := Hid.mk' (by have := L1.out; omega)
    clear hb2 R2 hq hcap KB z0 z1 z2 z3
    go_wp2
    refine bodyPost_ret (v := .agg #[.int .i64 C, .slice an R.length cn]) (by simp [results, Tryz.results19, go_sem, *]) rfl ?_
    rw [E1.out, E2.out]
    exact TreeQ.boxed HQ2.out CAP.out B2.out LV.out

end Go.Proofs.YthcajggbcanmdaaGreatDoor

namespace Go.Proofs.YthcajggbcanmdaaGreatDoor
open Go.RowKit

set_option maxHeartbeats 1600000 in
theorem eqNRes_is (cc : Int) (l : List ND) (a b : Option Addr) (c d : Nat) (w : World) (ha : NsAt w a l) (hb : NsAt w b l) (hl : (l.length : Int) + nssz l ≤ 2000000) :
    Calls Tryz.prog 21 #[.agg #[.int .i64 cc, .slice a l.length c], .agg #[.int .i64 cc, .slice b l.length d]] w fun e w' => e = .returned (.bool true) ∧ Below w.heap.size w w' := by
  have B0 := (below_new w (.cells #[.int .i64 cc, .slice a l.length c] 43)).alloc (by simp) (.cells #[.int .i64 cc, .slice b l.length d] 43)
  have KK := Hid.mk' (eqNodeS_big a b c d l _ (ha.below B0) (hb.below B0) hl)
  have BB := Hid.mk' B0
  clear ha hb B0
  go_enter Tryz.func21, Tryz.ntmps21
  go_wp2_with fail
  refine KK.out.mono ?_
  rintro e w1 ⟨rfl, hb⟩
  have HB := Hid.mk' (BB.out.trans (hb.mono BB.out.size))
  clear hb KK
  go_wp2
  go_ret
  exact ⟨rfl, HB.out⟩

set_option maxHeartbeats 1600000 in
theorem markNRes_is (cc : Int) (τ : Nat → Nat) (lo : Nat) (vn : Value) (l : List ND) (va vt : Nat → Value) (us : Nat → List Value) (w : World) (h : NQ τ lo w vn l va vt us) (hlo : lo ≤ w.heap.size) (hl : (l.length : Int) + nssz l ≤ 2000000) :
    Calls Tryz.prog 22 #[.agg #[.int .i64 cc, vn], .int .i64 1] w fun e w' => e = .returned (.int .i64 ((1 + cnN l : Nat) : Int)) ∧ NQ τ lo w' vn (mkN 1 l) va vt us ∧ Kp (fun k => τ k = 2) w w' := by
  have N0 := below_new w (.cells #[.int .i64 cc, vn] 43)
  have KN := Hid.mk' (markNodeS_is τ 1 lo vn l va vt us _ (h.below N0) (Nat.le_trans hlo N0.size) (by omega) (by omega) hl)
  have HN := Hid.mk' N0
  obtain ⟨a, c, e1, _⟩ := h.at
  subst e1
  clear h N0
  go_enter Tryz.func22, Tryz.ntmps22
  go_wp2_with fail
  refine KN.out.mono ?_
  rintro e w1 ⟨rfl, h1, k1⟩
  have H1 := Hid.mk' h1
  have K1 : Hid (Kp (fun k => τ k = 2) w w1) := Hid.mk' ((Kp.of_below HN.out).trans (k1.mono (fun k e => .inr e)))
  clear h1 k1 KN
  go_wp2
  go_ret
  exact ⟨rfl, H1.out, K1.out⟩

set_option maxHeartbeats 1600000 in
theorem heldNRes_is (cc : Int) (l : List ND) (a : Option Addr) (c : Nat) (w : World) (h : NsAt w a (mkN 1 l)) (hl : (l.length : Int) + nssz l ≤ 2000000) :
    Calls Tryz.prog 23 #[.agg #[.int .i64 cc, .slice a l.length c], .int .i64 1] w fun e w' => e = .returned (.int .i64 ((1 + cnN l : Nat) : Int)) ∧ Below w.heap.size w w' := by
  have N0 := below_new w (.cells #[.int .i64 cc, .slice a l.length c] 43)
  have KN := Hid.mk' (heldNodeS_is 1 a c l _ (h.below N0) (by omega) (by omega) hl)
  have HN := Hid.mk' N0
  have z2 : ¬ (((1 + cnN l : Nat) : Int) < 0) := by omega
  clear h N0
  go_enter Tryz.func23, Tryz.ntmps23
  go_wp2_with fail
  refine KN.out.mono ?_
  rintro e w1 ⟨rfl, hb⟩
  have HB := Hid.mk' (HN.out.trans (hb.mono HN.out.size))
  clear hb KN
  go_wp2
  go_ret
  exact ⟨rfl, HB.out⟩

structure GN (lo q : Nat) (τ : Nat → Nat) (vn : Value) (va vt : Nat → Value) (us : Nat → List Value) (C : Int) (R : List ND) (wi : World) : Prop where
  box : wi.rowIs q 43 2 (q2 (.int .i64 C) vn)
  sq : NQ τ lo wi vn R va vt us
  cap : ∀ k, ¬ (lo ≤ k ∧ k < q) → τ k = 2
  lq : lo ≤ q

theorem GN.below {lo q : Nat} {τ : Nat → Nat} {vn : Value} {va vt : Nat → Value} {us : Nat → List Value} {C : Int} {R : List ND} {wi wj : World} (h : GN lo q τ vn va vt us C R wi) (hb : Below wi.heap.size wi wj) : GN lo q τ vn va vt us C R wj := ⟨rowB h.box hb, h.sq.below hb, h.cap, h.lq⟩

theorem GN.kept {lo q lo' hi' : Nat} {τ : Nat → Nat} {vn : Value} {va vt : Nat → Value} {us : Nat → List Value} {C : Int} {R : List ND} {wi wj : World} (h : GN lo q τ vn va vt us C R wi) (hk : KeptIn lo' hi' wi wj) (hd : hi' ≤ lo) : GN lo q τ vn va vt us C R wj :=
  ⟨rowK h.box hk (.inr (Nat.le_trans hd h.lq)), h.sq.keep (Kp.of_kept hk (fun k e => by
    have : lo ≤ k ∧ k < q := Classical.byContradiction (fun hn => by have := h.cap k hn; omega)
    omega)), h.cap, h.lq⟩

theorem GN.mk2 {lo q : Nat} {τ : Nat → Nat} {a : Option Addr} {c : Nat} {va vt : Nat → Value} {us : Nat → List Value} {C : Int} {R R' : List ND} {n : Nat} {wi : World} (h : GN lo q τ (.slice a n c) va vt us C R wi) (e : n = R.length) : NsAt wi a R := by
  obtain ⟨a', c', e', h'⟩ := h.sq.at
  injection e' with e1 e2 e3
  rw [e1]; exact h'

theorem bt_le (l : List TK) (hm : (l.length : Int) + tssz l ≤ 1048576) : ((btN l).length : Int) + nssz (btN l) ≤ 2000000 := by
  have h := (pallR_le noS l (by simp [noS, nssz]) (by simp [noS, nssz]; omega)).1
  rcases bt_cases l with ⟨_, _, e⟩ | ⟨_, _, _, e⟩ | ⟨_, _, _, e⟩
  · rw [e]; simp [nssz]
  · rw [e]; simp [nssz]
  · rw [e]; omega

end Go.Proofs.YthcajggbcanmdaaGreatDoor

namespace Go.Proofs.YthcajggbcanmdaaGreatDoor
open Go.RowKit

theorem pt_le (d : List Int) : ((ptN d).length : Int) + nssz (ptN d) ≤ 2000000 := by
  unfold ptN
  by_cases h : 240 < d.length
  · rw [if_pos h]; simp [nssz]
  · rw [if_neg h]; exact bt_le _ (lex_room d h)

set_option maxRecDepth 100000 in
set_option maxHeartbeats 12000000 in
theorem lawPX_any (q : Option Addr) (c' : Nat) (d : List Int) (tp : TypeId) (pv : Value) (w : World) (hE : Env w.heap.size tp pv w) (hd : BAt w q d) (hu : Byt d) (hl : (d.length : Int) ≤ 9223372036854775807) :
    Calls Tryz.prog 5 #[.slice q d.length c'] w fun e w' => e = .returned (.bool true) ∧ Below w.heap.size w w' := by
  by_cases g2 : 1048576 < (d.length : Int)
  · go_enter Tryz.func5, Tryz.ntmps5
    go_wp2
    go_ret
    exact ⟨rfl, Below.refl _ _⟩
  have ll : (d.length : Int) ≤ 1048576 := by omega
  have nR0 := pt_le d
  have KS0 : Hid (∀ (q' : Option Addr) (c2 : Nat) (w' : World), BAt w' q' d → Calls Tryz.prog 19 #[.slice q' d.length c2] w' fun e w'' => TreeQ (ptC d) (ptN d) w' e w'') := Hid.mk' (fun q' c2 w' h2 => specPX_any d q' c2 w' h2 hu hl)
  have KI0 : Hid (∀ (q' : Option Addr) (c2 : Nat) (w' : World), Env w'.heap.size tp pv w' → BAt w' q' d → Calls Tryz.prog 20 #[.slice q' d.length c2] w' fun e w'' => TreeQ (ptC d) (ptN d) w' e w'') := Hid.mk' (fun q' c2 w' hE h2 => implPX_any tp pv d q' c2 w' hE h2 hu hl)
  have HE := Hid.mk' hE
  have HH := Hid.mk' hd
  generalize ptC d = C at *
  generalize ptN d = R at *
  clear hE hd hu
  go_enter Tryz.func5, Tryz.ntmps5
  go_wp2_with fail
  refine (toByteS_any q c' d w HH.out ll).mono ?_
  rintro e w2 ⟨b2, rfl, l2, r2, hb2⟩
  have B2 := Hid.mk' hb2
  have T2 := Hid.mk' (BAt.of_row r2)
  clear r2 hb2
  go_wp2_with fail
  refine (KS0.out _ _ _ T2.out).mono ?_
  rintro e w5 ⟨τ5, vn5, va5, vt5, us5, rfl, q5, cap5, hb5⟩
  obtain ⟨a5, c5, rfl, s5⟩ := q5.at
  have N5 := below_new w5 (.cells #[.int .i64 C, .slice a5 R.length c5] 43)
  have BX := (B2.out.trans (hb5.mono B2.out.size)).trans (N5.mono (Nat.le_trans B2.out.size hb5.size))
  have HB := Hid.mk' BX
  have RW := Hid.mk' (rowQ2 w5 43 (.int .i64 C) (.slice a5 R.length c5))
  have SW := Hid.mk' (s5.below N5)
  clear BX N5 q5 cap5 hb5 s5 T2 B2 KS0
  generalize hW5 : w5.alloc (.cells #[.int .i64 C, .slice a5 R.length c5] 43) = W6 at *
  go_wp2_with fail
  clear hW5
  refine (toByteS_any q c' d W6 (HH.out.below HB.out) ll).mono ?_
  rintro e w7 ⟨b7, rfl, l7, r7, hb7⟩
  have B5 := Hid.mk' hb7
  have L7 : Hid (W6.heap.size ≤ w7.heap.size) := Hid.mk' hb7.size
  have X1 := Hid.mk' r7
  have LB := Hid.mk' (show W6.heap.size ≤ b7 ∧ b7 + 1 ≤ w7.heap.size from ⟨l7, r7.lt⟩)
  clear hb7 r7 l7
  go_wp2_with fail
  refine (KI0.out _ _ w7 ((HE.out.keep (HB.out.trans (B5.out.mono HB.out.size))).up (Nat.le_trans HB.out.size L7.out) (Nat.le_refl _)) (.of_row X1.out)).mono ?_
  rintro e w8 ⟨τ8, vn8, va8, vt8, us8, rfl, q8, cap8, hb8⟩
  obtain ⟨a8, c8, rfl, s8⟩ := q8.at
  have N8 := below_new w8 (.cells #[.int .i64 C, .slice a8 R.length c8] 43)
  have hb := hb8.trans (N8.mono hb8.size)
  have B5 := Hid.mk' (B5.out.trans (hb.mono B5.out.size))
  have X1 := Hid.mk' (rowB X1.out hb)
  have G : Hid (GN w7.heap.size w8.heap.size τ8 (.slice a8 R.length c8) va8 vt8 us8 C R _) := Hid.mk' ⟨rowQ2 w8 43 (.int .i64 C) (.slice a8 R.length c8), q8.below N8, cap8, hb8.size⟩
  clear q8 cap8 hb8 s8 N8 hb
  generalize hW8 : w8.alloc (.cells #[.int .i64 C, .slice a8 R.length c8] 43) = W8 at *
  obtain ⟨e0, e1, e2⟩ := cellsQ2 G.out.box
  obtain ⟨k0, k1, k2⟩ := cellsQ2 (rowB RW.out B5.out)
  go_wp2_with fail
  clear hW8
  refine (eqNRes_is C R a8 a5 c8 c5 W8 (G.out.mk2 (R' := R) rfl) (SW.out.below B5.out) nR0).mono ?_
  rintro e w9 ⟨rfl, hb⟩
  have B5 := Hid.mk' (B5.out.trans (hb.mono B5.out.size))
  have X1 := Hid.mk' (rowB X1.out hb)
  have G := Hid.mk' (G.out.below hb)
  clear hb e0 e1 e2 k0 k1 k2
  go_wp2_with fail
  refine (toByteS_any q c' d w9 (HH.out.below (HB.out.trans (B5.out.mono HB.out.size))) ll).mono ?_
  rintro e wK ⟨bK, rfl, lK, rK, hb⟩
  have T9 := Hid.mk' rK
  have B5 := Hid.mk' (B5.out.trans (hb.mono B5.out.size))
  have X1 := Hid.mk' (rowB X1.out hb)
  have G := Hid.mk' (G.out.below hb)
  clear hb rK lK
  go_wp2_with fail
  refine (eqByteS_any _ _ _ _ d wK (.of_row X1.out) (.of_row T9.out) ll).mono ?_
  rintro e wB ⟨rfl, hb⟩
  have B5 := Hid.mk' (B5.out.trans (hb.mono B5.out.size))
  have X1 := Hid.mk' (rowB X1.out hb)
  have G := Hid.mk' (G.out.below hb)
  clear hb T9
  go_wp2_with fail
  refine (markByteS_row b7 d.length d.length d.length 1 (bv d) wB X1.out (Nat.le_refl _) (by omega)).mono ?_
  rintro e wD ⟨rfl, _, hk⟩
  have B5 := Hid.mk' (B5.out.trans (hk.below LB.out.1 B5.out.size))
  have G := Hid.mk' (G.out.kept hk LB.out.2)
  clear hk X1
  obtain ⟨e0, e1, e2⟩ := cellsQ2 G.out.box
  obtain ⟨k0, k1, k2⟩ := cellsQ2 (rowB RW.out B5.out)
  have kz : ¬ ((((1 : Nat) : Int) + (d.length : Int)) < 0) := by omega
  have kz' : ¬ ((1 + (d.length : Int)) < 0) := by omega
  go_wp2_with fail
  refine (eqNRes_is C R a8 a5 c8 c5 wD (G.out.mk2 (R' := R) rfl) (SW.out.below B5.out) nR0).mono ?_
  rintro e wE ⟨rfl, hb⟩
  have B5 := Hid.mk' (B5.out.trans (hb.mono B5.out.size))
  have G := Hid.mk' (G.out.below hb)
  clear hb e0 e1 e2 k0 k1 k2 kz kz'
  obtain ⟨e0, e1, e2⟩ := cellsQ2 G.out.box
  go_wp2_with fail
  refine (markNRes_is C τ8 w7.heap.size (.slice a8 R.length c8) R va8 vt8 us8 wE G.out.sq (by have := G.out.box.lt; have := G.out.lq; omega) nR0).mono ?_
  rintro e wF ⟨rfl, q15, kp⟩
  have hk : KeptIn w7.heap.size w8.heap.size wE wF := kp.keptIn (fun k e => G.out.cap k (by omega))
  have GF : Hid (GN w7.heap.size w8.heap.size τ8 (.slice a8 R.length c8) va8 vt8 us8 C (mkN 1 R) wF) := Hid.mk' ⟨rowK G.out.box hk (.inr (Nat.le_refl _)), q15, G.out.cap, G.out.lq⟩
  have B5 := Hid.mk' (B5.out.trans (hk.below L7.out B5.out.size))
  have zm : ¬ (((1 + cnN R : Nat) : Int) < 0) := by omega
  clear q15 kp hk G e0 e1 e2
  obtain ⟨e0, e1, e2⟩ := cellsQ2 GF.out.box
  go_wp2_with fail
  refine (heldNRes_is C R a8 c8 wF (GF.out.mk2 (R' := R) (mkN_len 1 R).symm) nR0).mono ?_
  rintro e wG ⟨rfl, hb⟩
  have B5 := Hid.mk' (B5.out.trans (hb.mono B5.out.size))
  have GF := Hid.mk' (GF.out.below hb)
  clear hb e0 e1 e2
  go_wp2_with fail
  refine (toByteS_any q c' d wG (HH.out.below (HB.out.trans (B5.out.mono HB.out.size))) ll).mono ?_
  rintro e v4 ⟨b4, rfl, l4, r4, hb4⟩
  have HB4 := Hid.mk' hb4
  have T4t := Hid.mk' (BAt.of_row r4)
  have E4 := Hid.mk' ((HE.out.keep ((HB.out.trans (B5.out.mono HB.out.size)).trans (hb4.mono (Nat.le_trans HB.out.size B5.out.size)))).up (Nat.le_trans (Nat.le_trans HB.out.size B5.out.size) hb4.size) (Nat.le_refl _))
  clear hb4 r4 l4
  go_wp2_with fail
  refine (KI0.out _ _ _ E4.out T4t.out).mono ?_
  rintro e wH ⟨τH, vnH, vaH, vtH, usH, rfl, qH, capH, hbH⟩
  obtain ⟨aH, cH, rfl, sH⟩ := qH.at
  have NH := below_new wH (.cells #[.int .i64 C, .slice aH R.length cH] 43)
  have hb35 : Below wG.heap.size wG wH := HB4.out.trans (hbH.mono HB4.out.size)
  have BX := hb35.trans (NH.mono hb35.size)
  have B5 := Hid.mk' (B5.out.trans (BX.mono B5.out.size))
  have GF := Hid.mk' (GF.out.below BX)
  have RHh := Hid.mk' (rowQ2 wH 43 (.int .i64 C) (.slice aH R.length cH))
  have SH := Hid.mk' (sH.below NH)
  clear BX hb35 NH qH capH hbH sH T4t HB4 KI0
  generalize hWH : wH.alloc (.cells #[.int .i64 C, .slice aH R.length cH] 43) = WH at *
  obtain ⟨e0, e1, e2⟩ := cellsQ2 RHh.out
  obtain ⟨k0, k1, k2⟩ := cellsQ2 (rowB RW.out B5.out)
  go_wp2_with fail
  clear hWH
  refine (eqNRes_is C R aH a5 cH c5 WH SH.out (SW.out.below B5.out) nR0).mono ?_
  rintro e wI ⟨rfl, hb⟩
  have B5 := Hid.mk' (B5.out.trans (hb.mono B5.out.size))
  have GF := Hid.mk' (GF.out.below hb)
  clear hb e0 e1 e2 k0 k1 k2
  obtain ⟨e0, e1, e2⟩ := cellsQ2 GF.out.box
  go_wp2_with fail
  refine (heldNRes_is C R a8 c8 wI (GF.out.mk2 (R' := R) (mkN_len 1 R).symm) nR0).mono ?_
  rintro e wJ ⟨rfl, hb⟩
  have B5 := Hid.mk' (B5.out.trans (hb.mono B5.out.size))
  clear hb e0 e1 e2 GF
  go_wp2
  go_ret
  exact ⟨rfl, HB.out.trans (B5.out.mono HB.out.size)⟩

end Go.Proofs.YthcajggbcanmdaaGreatDoor
