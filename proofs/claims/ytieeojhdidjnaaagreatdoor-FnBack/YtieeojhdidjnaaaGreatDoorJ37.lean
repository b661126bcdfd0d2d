/- Ways: the places that a place is in, the outermost first. -/
import Derived.WalkKit
import Derived.Test.YtieeojhdidjnaaaGreatDoorH2
import Derived.Test.YtieeojhdidjnaaaGreatDoorJ14
import Derived.Test.YtieeojhdidjnaaaGreatDoorJ17
import Derived.Test.YtieeojhdidjnaaaGreatDoorJ29
import Derived.Test.YtieeojhdidjnaaaGreatDoorJ31
import Derived.Test.YtieeojhdidjnaaaGreatDoorJ23
import Derived.Test.YtieeojhdidjnaaaGreatDoorJ33
import Derived.Test.YtieeojhdidjnaaaGreatDoorJ36
import Derived.Test.YtieeojhdidjnaaaGreatDoorJ9
import Derived.Test.YtieeojhdidjnaaaGreatDoorJ3
import Derived.Test.YtieeojhdidjnaaaGreatDoorJ32
set_option maxHeartbeats 3200000
set_option maxRecDepth 100000
set_option linter.unusedVariables false
set_option linter.unusedSimpArgs false
namespace Go.Proofs.YtieeojhdidjnaaaGreatDoor

end Go.Proofs.YtieeojhdidjnaaaGreatDoor

namespace Go.Proofs.YtieeojhdidjnaaaGreatDoor
open Go.RowKit
theorem rowT_cell {lo g cap : Nat} {w : World} {ts : List TK} {us : List Value} (hl : us.length = ts.length) (h : w.ownsRow lo 107 5 (.slice (some ⟨g, 0, none⟩) ts.length cap) ts.length (tcs ts us)) {n i : Nat} (hn : n < ts.length) (hi : i < 5) : w.cell? ⟨g, n * 5 + i, none⟩ = ([.int .i64 (tkK ts n).kd, .int .i64 (tkK ts n).by_, .string (tkK ts n).nm, us.getD n undef, .bool (tkK ts n).sh] : List Value)[i]? ∧ w.frozen? ⟨g, n * 5 + i, none⟩ = false := by
 rcases h.2 with ⟨h0, _⟩ | ⟨g', cap', cur, hv, hg, hh, hc, hm, hs', ht⟩
 ·cases h0
 ·cases hv
  refine ⟨?_, Lib.frozen_of_heap hh _⟩
  rw [Lib.cell_of_heap hh, ← tcs_get ts us n i hl hn hi, ← ht, List.getElem?_take_of_lt (by omega)]
  simp
def TFree (v : Value) (n : Nat) (bl bh : Nat → Nat) (k : Nat) : Prop := v.ownBlock ≠ some k ∧ ∀ j, j < n → ¬ (bl j ≤ k ∧ k < bh j)
theorem row_tsAt {w : World} {lo : Nat} {v : Value} {ts : List TK} {us : List Value} (hl : us.length = ts.length) (h : w.ownsRow lo 107 5 v ts.length (tcs ts us)) (ha : ∀ j, j < ts.length → ∃ p c, us.getD j undef = .slice p (tkK ts j).at_.length c ∧ AAt w p (tkK ts j).at_) : ∃ a c, v = .slice a ts.length c ∧ TsAt w a ts := by
 by_cases h0 : ts = []
 ·subst h0
  obtain ⟨a, c, e, _⟩ := own_src h
  exact ⟨a, c, e, .inl rfl⟩
 ·have hp : 0 < ts.length := List.length_pos_iff.2 h0
  rcases h.2 with ⟨rfl, h9⟩ | ⟨g, cap, cur, rfl, hg, hh, hc, hm, hs, ht⟩
  ·omega
  ·have glt : g < w.heap.size := Nat.lt_of_not_le fun hn => by rw [Array.getElem?_eq_none hn] at hh; cases hh
   refine ⟨_, _, rfl, .inr ⟨g, 0, rfl, glt, fun k hk => ?_⟩⟩
   have cc := fun i hi => (rowT_cell hl h hk (i := i) hi).1
   obtain ⟨p, c, e, haa⟩ := ha k hk
   simp only [Nat.zero_add]
   refine ⟨cc 0 (by omega), cc 1 (by omega), cc 2 (by omega), ⟨p, c, ?_, haa⟩, cc 4 (by omega)⟩
   rw [cc 3 (by omega), ← e]; rfl
theorem TP.tsAt {lo : Nat} {w : World} {tv : Value} {ts : List TK} {us : List Value} {rs : Nat → List Value} {bl bh : Nat → Nat} (h : TP lo w tv ts us rs bl bh) : ∃ a c, tv = .slice a ts.length c ∧ TsAt w a ts :=
 row_tsAt h.ta.len h.row (fun j hj => (h.ta.att j hj).at)
theorem TokS.tsAt {base : Nat} {w : World} {v : Value} {ts : List TK} {us : List Value} (h : TokS base w v ts us) : ∃ a c, v = .slice a ts.length c ∧ TsAt w a ts :=
 row_tsAt h.len h.row (fun j hj => by
  have h1 : ts[j]? = some (tkK ts j) := by simp [tkK, List.getD_eq_getElem?_getD, hj]
  have h2 : us[j]? = some (us.getD j undef) := by simp [List.getD_eq_getElem?_getD, h.len, hj]
  obtain ⟨rs, ho⟩ := (h.all j _ _ h1 h2).held
  exact ho.at)
def cvF (l : List CK) (hvs : Nat → Value) (i : Nat) : Value := if i % 3 = 0 then .int .i64 (ckK l (i / 3)).pl else if i % 3 = 1 then .int .i64 (ckK l (i / 3)).ct else hvs (i / 3)
theorem cvF0 (l : List CK) (hvs : Nat → Value) (k : Nat) : cvF l hvs (k * 3) = .int .i64 (ckK l k).pl := by unfold cvF; rw [if_pos (by omega), show k * 3 / 3 = k by omega]
theorem cvF1 (l : List CK) (hvs : Nat → Value) (k : Nat) : cvF l hvs (k * 3 + 1) = .int .i64 (ckK l k).ct := by unfold cvF; rw [if_neg (by omega), if_pos (by omega), show (k * 3 + 1) / 3 = k by omega]
theorem cvF2 (l : List CK) (hvs : Nat → Value) (k : Nat) : cvF l hvs (k * 3 + 2) = hvs k := by unfold cvF; rw [if_neg (by omega), if_neg (by omega), show (k * 3 + 2) / 3 = k by omega]
def OC (w : World) (v : Value) (l : List CK) (hvs : Nat → Value) : Prop := (v = .slice none 0 0 ∧ l = []) ∨
 ∃ g, v = .slice (some ⟨g, 0, none⟩) l.length l.length ∧ w.rowIs g 31 (l.length * 3) (cvF l hvs)
theorem OC.keep {w w' : World} {v : Value} {l : List CK} {hvs : Nat → Value} (h : OC w v l hvs) (hk : ∀ q, v.ownBlock = some q → q < w.heap.size → w'.heap[q]? = w.heap[q]?) : OC w' v l hvs := by
 rcases h with h | ⟨g, rfl, hr⟩
 ·exact .inl h
 ·exact .inr ⟨g, rfl, hr.of_block (hk g rfl hr.lt)⟩
theorem OC.at {w : World} {v : Value} {l : List CK} {hvs : Nat → Value} (h : OC w v l hvs) (ho : ∀ k, k < l.length → OB w (hvs k) (ckK l k).hd) : ∃ a c, v = .slice a l.length c ∧ CsAt w a l := by
 rcases h with ⟨rfl, rfl⟩ | ⟨g, rfl, hr⟩
 ·exact ⟨none, 0, rfl, .inl rfl⟩
 ·refine ⟨_, _, rfl, .inr ⟨g, 0, rfl, hr.lt, fun k hk => ?_⟩⟩
  obtain ⟨p, c, e, hb⟩ := (ho k hk).len
  simp only [Nat.zero_add]
  exact ⟨by rw [hr.cell (by omega), cvF0], by rw [hr.cell (by omega), cvF1], p, c, by rw [hr.cell (by omega), cvF2, e], hb⟩
structure GM (lo hi : Nat) (tau : Nat → Nat) (m : ME) (vd tv hv cv : Value) (us : List Value) (rs : Nat → List Value) (bl bh : Nat → Nat) (hvs : Nat → Value) (w : World) : Prop where
 d : OB w vd m.dt
 t : TP lo w tv m.tk us rs bl bh
 h : OB w hv m.hd
 c : OC w cv m.cs hvs
 k : ∀ i, i < m.cs.length → OB w (hvs i) (ckK m.cs i).hd
 ld : ∀ q, vd.ownBlock = some q → tau q = 0 ∧ lo ≤ q ∧ q < hi
 lt : ∀ q, ¬ TFree tv m.tk.length bl bh q → tau q = 1 ∧ lo ≤ q ∧ q < hi
 lh : ∀ q, hv.ownBlock = some q → tau q = 2 ∧ lo ≤ q ∧ q < hi
 lc : ∀ q, cv.ownBlock = some q → tau q = 3 ∧ lo ≤ q ∧ q < hi
 lk : ∀ i, i < m.cs.length → ∀ q, (hvs i).ownBlock = some q → tau q = 4 + i ∧ lo ≤ q ∧ q < hi
theorem TP.keepF {lo : Nat} {w w' : World} {tv : Value} {ts : List TK} {us : List Value} {rs : Nat → List Value} {bl bh : Nat → Nat} (h : TP lo w tv ts us rs bl bh) (hs : w.heap.size ≤ w'.heap.size) (hk : ∀ q, ¬ TFree tv ts.length bl bh q → q < w.heap.size → w'.heap[q]? = w.heap[q]?) : TP lo w' tv ts us rs bl bh :=
 ⟨own_of h.row (Nat.le_refl _) (fun k e hl => hk k (fun f => f.1 e) (h.row.lt k e).2), (h.ta.keep (fun j hj k h1 h2 h3 => hk k (fun f => f.2 j hj ⟨h1, h2⟩) h3)).widen (Nat.le_refl _) hs, h.vt⟩
theorem GM.below {lo hi : Nat} {tau : Nat → Nat} {m : ME} {vd tv hv cv : Value} {us : List Value} {rs : Nat → List Value} {bl bh : Nat → Nat} {hvs : Nat → Value} {w w' : World} (x : GM lo hi tau m vd tv hv cv us rs bl bh hvs w) (hb : Below w.heap.size w w') : GM lo hi tau m vd tv hv cv us rs bl bh hvs w' :=
 ⟨x.d.below hb, x.t.below hb, x.h.below hb, x.c.keep (fun q _ h => hb.block q h), fun i hi => (x.k i hi).below hb, x.ld, x.lt, x.lh, x.lc, x.lk⟩
theorem GM.at {lo hi : Nat} {tau : Nat → Nat} {m : ME} {vd tv hv cv : Value} {us : List Value} {rs : Nat → List Value} {bl bh : Nat → Nat} {hvs : Nat → Value} {w : World} (x : GM lo hi tau m vd tv hv cv us rs bl bh hvs w) : ∃ a t u c ca ct cu cc, vd = .slice a m.dt.length ca ∧ tv = .slice t m.tk.length ct ∧ hv = .slice u m.hd.length cu ∧ cv = .slice c m.cs.length cc ∧ MAt w a t u c m := by
 obtain ⟨a, ca, e1, h1⟩ := x.d.len
 obtain ⟨t, ct, e2, h2⟩ := x.t.tsAt
 obtain ⟨u, cu, e3, h3⟩ := x.h.len
 obtain ⟨c, cc, e4, h4⟩ := x.c.at x.k
 exact ⟨a, t, u, c, ca, ct, cu, cc, e1, e2, e3, e4, h1, h2, h3, h4⟩
def m0 : ME := ⟨[], 0, [], [], []⟩
def rM (d : List Int) (st : Int) : ME := if askC d st = 0 then memX d st.toNat else m0
def rR (d : List Int) (st : Int) : Int := if askC d st = 0 then (d.length : Int) else 0
theorem GM.none (lo hi : Nat) (w : World) : GM lo hi (fun _ => 0) m0 (.slice none 0 0) (.slice none 0 0) (.slice none 0 0) (.slice none 0 0) [] (fun _ => []) (fun _ => 0) (fun _ => 0) (fun _ => undef) w :=
 ⟨OB.none _, ⟨⟨rfl, .inl ⟨rfl, rfl⟩⟩, TA.nil _ _ _, fun j h => absurd h (Nat.not_lt_zero _)⟩, OB.none _, .inl ⟨rfl, rfl⟩, fun i h => absurd h (Nat.not_lt_zero _),
  fun q h => by simp [Value.ownBlock] at h, fun q h => absurd ⟨by simp [Value.ownBlock], fun j h => absurd h (Nat.not_lt_zero _)⟩ h, fun q h => by simp [Value.ownBlock] at h, fun q h => by simp [Value.ownBlock] at h, fun i h => absurd h (Nat.not_lt_zero _)⟩

open Classical in
noncomputable def tauM (gd gc J : Nat) (hvs : Nat → Value) (q : Nat) : Nat :=
 if q = gd then 0 else if q = gc then 3 else if (hvs J).ownBlock = some q then 2 else if h : ∃ i, i < J ∧ (hvs i).ownBlock = some q then 4 + Classical.choose h else 1
theorem NM.gm {base : Nat} {d : List Int} {s : Nat} {gd gc : Nat} {tv : Value} {hvs : Nat → Value} {us : List Value} {rs : Nat → List Value} {bl bh : Nat → Nat} {w : World} (x : NM base d s gd gc tv hvs us rs bl bh w) (hs : 1 ≤ s) :
  GM base w.heap.size (tauM gd gc (d.length / s + 1) hvs) (memX d s) (.slice (some ⟨gd, 0, none⟩) d.length d.length) tv (hvs (d.length / s + 1)) (.slice (some ⟨gc, 0, none⟩) (d.length / s + 1) (d.length / s + 1)) us rs bl bh hvs w := by
 obtain ⟨v, hv, xv⟩ := x.v1
 have et : tkN d s (d.length / s + 1) = (memX d s).tk := by show (allX [] [] (d.take ((d.length / s + 1) * s))).1 = _; rw [takeM_all d s hs]; rfl
 have eh : hdN d s (d.length / s + 1) = (memX d s).hd := by show (allX [] [] (d.take ((d.length / s + 1) * s))).2 = _; rw [takeM_all d s hs]; rfl
 have ec : (memX d s).cs = cksN d s (d.length / s + 1) := rfl
 have el : (memX d s).cs.length = d.length / s + 1 := by rw [ec, cksN_len]
 have o1 := x.o1
 have o2 := x.o2
 have lc := x.ck.lt
 have hb : ∀ i, i ≤ d.length / s + 1 → ∀ q, (hvs i).ownBlock = some q → base ≤ q ∧ q < gd := fun i hi q e => by
  have := (xv.own i hi).lt q e
  omega
 have tb : ∀ q, ¬ TFree tv (memX d s).tk.length bl bh q → base ≤ q ∧ q < gd ∧ ∀ i, i ≤ d.length / s + 1 → (hvs i).ownBlock ≠ some q := fun q f => by
  by_cases e : tv.ownBlock = some q
  ·have := xv.tp.row.lt q e
   exact ⟨this.1, by omega, fun i hi e' => xv.at_ i hi q e' e⟩
  ·have : ∃ j, j < (memX d s).tk.length ∧ bl j ≤ q ∧ q < bh j := Classical.byContradiction fun g => f ⟨e, fun j hj h => g ⟨j, hj, h⟩⟩
   obtain ⟨j, hj, h1, h2⟩ := this
   rw [← et] at hj
   have := xv.tp.ta.low j hj
   have := xv.tp.ta.top j hj
   exact ⟨by omega, by omega, fun i hi e' => by have := xv.av i hi j hj q e'; omega⟩
 refine ⟨ob_of_row rfl x.dt, by rw [← et]; exact x.rx.tp, ?_, .inr ⟨gc, by rw [el], ?_⟩, fun i hi => ?_, fun q e => ?_, fun q f => ?_, fun q e => ?_, fun q e => ?_, fun i hi q e => ?_⟩
 ·rw [← eh]; exact (OB.of_own (x.rx.own _ (Nat.le_refl _))).1
 ·rw [el]
  refine x.ck.congr (fun i hi => ?_)
  unfold ckV cvF
  rw [if_pos (by omega), ec, cksN_at d s _ _ (by omega)]
  by_cases h0 : i % 3 = 0
  ·rw [h0]; rfl
  ·by_cases h1 : i % 3 = 1
   ·rw [h1]; rfl
   ·rw [if_neg h0, if_neg h1, show i % 3 = 2 by omega]; rfl
 ·rw [el] at hi
  rw [ec, cksN_at d s _ _ hi]
  exact (OB.of_own (x.rx.own i (by omega))).1
 ·simp [Value.ownBlock] at e
  subst e
  exact ⟨by unfold tauM; rw [if_pos rfl], o1, x.dt.lt⟩
 ·obtain ⟨h1, h2, h3⟩ := tb q f
  refine ⟨?_, h1, by have := x.dt.lt; omega⟩
  unfold tauM
  rw [if_neg (by omega), if_neg (by omega), if_neg (h3 _ (Nat.le_refl _)), dif_neg (fun ⟨i, hi, e⟩ => h3 i (by omega) e)]
 ·have := hb _ (Nat.le_refl _) q e
  refine ⟨?_, this.1, by have := x.dt.lt; omega⟩
  unfold tauM
  rw [if_neg (by omega), if_neg (by omega), if_pos e]
 ·simp [Value.ownBlock] at e
  subst e
  exact ⟨by unfold tauM; rw [if_neg (by omega), if_pos rfl], by omega, lc⟩
 ·rw [el] at hi
  have := hb i (by omega) q e
  refine ⟨?_, this.1, by have := x.dt.lt; omega⟩
  unfold tauM
  have hex : ∃ i, i < d.length / s + 1 ∧ (hvs i).ownBlock = some q := ⟨i, hi, e⟩
  rw [if_neg (by omega), if_neg (by omega), if_neg (fun e' => xv.ap i _ hi (Nat.le_refl _) q e e'), dif_pos hex]
  have hc := Classical.choose_spec hex
  have : Classical.choose hex = i := Classical.byContradiction fun hne => by
   rcases Nat.lt_or_gt_of_ne hne with g | g
   ·exact xv.ap _ _ g (by omega) q hc.2 e
   ·exact xv.ap _ _ g (by omega) q e hc.2
  rw [this]
theorem implNM_gm (tp : TypeId) (pv : Value) (d : List Int) (st : Int) (ad : Option Addr) (cd : Nat) (w : World) (hE : Env w.heap.size tp pv w) (hd : BAt w ad d) (hcd : d.length ≤ cd) (hu : Byt d) (hl : (d.length : Int) ≤ 9223372036854775807) :
  Calls Tryz.prog 25 #[.slice ad d.length cd, .int .i64 st] w fun e w' => ∃ tau vd tv hv cv us rs bl bh hvs, e = .returned (.agg #[.int .i64 (askC d st), .int .i64 (rR d st), vd, .int .i64 (rM d st).st, tv, hv, cv]) ∧ GM w.heap.size w'.heap.size tau (rM d st) vd tv hv cv us rs bl bh hvs w' ∧ Below w.heap.size w w' := by
 refine (implNM_any tp pv d st ad cd w hE hd hcd hu hl).mono ?_
 rintro e w' (⟨h1, rfl, hb⟩ | ⟨h1, h2, rfl, hb⟩ | ⟨h1, s, rfl, hs, hs2, gd, gc, tv, hvs, us, rs, bl, bh, rfl, hx, hb⟩)
 ·have e6 : askC d st = 6 := askC_large h1
  have er : rM d st = m0 := by unfold rM; rw [if_neg (by omega)]
  have ev : rR d st = 0 := by unfold rR; rw [if_neg (by omega)]
  exact ⟨_, _, _, _, _, _, _, _, _, _, by rw [e6, er, ev]; rfl, by rw [er]; exact GM.none _ _ _, hb⟩
 ·have e3 : askC d st = 3 := askC_range h1 h2
  have er : rM d st = m0 := by unfold rM; rw [if_neg (by omega)]
  have ev : rR d st = 0 := by unfold rR; rw [if_neg (by omega)]
  exact ⟨_, _, _, _, _, _, _, _, _, _, by rw [e3, er, ev]; rfl, by rw [er]; exact GM.none _ _ _, hb⟩
 ·have e0 : askC d (s : Int) = 0 := askC_good h1 hs hs2
  have er : rM d (s : Int) = memX d s := by unfold rM; rw [if_pos e0]; rfl
  have ev : rR d (s : Int) = d.length := by unfold rR; rw [if_pos e0]
  refine ⟨_, _, _, _, _, _, _, _, _, _, by rw [e0, er, ev]; rfl, by rw [er]; exact (hx.down (Nat.le_succ _)).gm hs, hb⟩
theorem results_cell1 {fn : Func} {p : Tmp} {t1 : TypeId} (h : fn.results = #[.cell p t1]) (tmps : Array Value) (P : Program) (w : World) (g : Addr) (v : Value) (hp : tmps.getD p undef = .pointer (some g)) (hl : (loadVar t1 g).run P w = .ok v w) :
  (results fn tmps).run P w = .ok v w := by
 have e : (results fn tmps).run P w = ((asAddr (tmps.getD p undef)).run P w).andThen fun a w₁ => (loadVar t1 a).run P w₁ := by
  simp only [results, h]
  simp [Sem.run_bind, Result.andThen]
 rw [e, hp]
 simp [asAddr, Result.andThen, hl]
def eM (m : ME) (A N : Int) (p : List Int) : ME := if edC m A N p = 0 then memX (spl m.dt A.toNat N.toNat p) m.st.toNat else m0
def eR (m : ME) (A N : Int) (p : List Int) : Int := if edC m A N p = 0 then mtV m A N p - ((A.toNat / m.st.toNat * m.st.toNat : Nat) : Int) else 0
theorem cell_setRow (w : World) (g : Nat) (cs : Array Value) {p : Addr} (h : p.block ≠ g) : (w.setRow g cs).cell? p = w.cell? p := by
 unfold World.cell?
 rw [setRow_other w g p.block cs h]
theorem boxesM (w : World) (x0 x1 x2 x3 x4 : Value) :
  let W := (w.alloc (.cells #[x0, x1, x2, x3, x4] 27)).alloc (.cells #[.int .i64 0, .int .i64 0, .slice none 0 0, .int .i64 0, .slice none 0 0, .slice none 0 0, .slice none 0 0] 50)
  Below w.heap.size w W ∧ W.rowIs w.heap.size 27 5 (r5 x0 x1 x2 x3 x4) ∧ RowA W (w.heap.size + 1) 50 #[.int .i64 0, .int .i64 0, .slice none 0 0, .int .i64 0, .slice none 0 0, .slice none 0 0, .slice none 0 0] := by
 refine ⟨(below_new w _).alloc (by simp) _, (row5 w 27 x0 x1 x2 x3 x4).alloc _, ?_⟩
 have := RowA.new (w.alloc (.cells #[x0, x1, x2, x3, x4] 27)) 50 #[.int .i64 0, .int .i64 0, .slice none 0 0, .int .i64 0, .slice none 0 0, .slice none 0 0, .slice none 0 0]
 rw [show (w.alloc (.cells #[x0, x1, x2, x3, x4] 27)).heap.size = w.heap.size + 1 by simp] at this
 exact this
structure Src (b : Nat) (l : List Int) (k : Nat) (w : World) : Prop where
 row : ∃ a c, w.rowIs b 116 2 (q2 (.slice a l.length c) (.int .i64 k)) ∧ (l = [] ∨ ∃ g o, a = some ⟨g, o, none⟩ ∧ g < b ∧ ∀ i, i < l.length → w.cell? ⟨g, o + i, none⟩ = some (bv l i))
 u8 : ∀ i, i < l.length → 0 ≤ l.getD i 0 ∧ l.getD i 0 ≤ 255
theorem KeptIn.cell {lo hi : Nat} {w w' : World} (h : KeptIn lo hi w w') {p : Addr} (hp : p.block < w.heap.size) (hd : p.block < lo ∨ hi ≤ p.block) : w'.cell? p = w.cell? p :=
 World.cell?_of_block (h.block p.block hp hd)
theorem KeptIn.grown {lo hi : Nat} {w wr w1 : World} {row : Option Nat} (h : KeptIn lo hi w wr) (hg : wr.grownBy w1 row) (hr : ∀ k, row = some k → w.heap.size ≤ k) : KeptIn lo hi w w1 :=
 ⟨hg.os.trans h.os, hg.tape.trans h.tape, hg.output.trans h.output, Nat.le_trans h.size hg.size, fun k hk hc => (hg.block k (Nat.lt_of_lt_of_le hk h.size) (fun e => by have := hr k e.symm; omega)).trans (h.block k hk hc)⟩
theorem Src.lt {b k : Nat} {l : List Int} {w : World} (h : Src b l k w) : b < w.heap.size := by
 obtain ⟨a, c, hr, _⟩ := h.row
 exact hr.lt
theorem Src.kept {b k lo hi : Nat} {l : List Int} {w w' : World} (h : Src b l k w) (hk : KeptIn lo hi w w') (hb : b < lo) : Src b l k w' := by
 have hl := h.lt
 obtain ⟨a, c, hr, hc⟩ := h.row
 refine ⟨⟨a, c, rowK hr hk (.inl hb), ?_⟩, h.u8⟩
 rcases hc with hc | ⟨g, o, e, hg, hc⟩
 ·exact .inl hc
 ·exact .inr ⟨g, o, e, hg, fun i hi' => (hk.cell (p := ⟨g, o + i, none⟩) (show g < _ by omega) (.inl (show g < _ by omega))).trans (hc i hi')⟩
theorem Src.below {b k : Nat} {l : List Int} {w w' : World} (h : Src b l k w) (hb : Below w.heap.size w w') : Src b l k w' :=
 h.kept (lo := w.heap.size) (hi := w.heap.size) (KeptIn.of_below hb) h.lt
theorem Src.step {b k : Nat} {l : List Int} {w : World} (h : Src b l k w) : Src b l (k + 1) (w.setCell ⟨b, 1, none⟩ (.int .i64 (((k + 1 : Nat)) : Int))) := by
 have hl := h.lt
 obtain ⟨a, c, hr, hc⟩ := h.row
 refine ⟨⟨a, c, (hr.set 1 _).congr (fun i hi => ?_), ?_⟩, h.u8⟩
 ·have : i = 0 ∨ i = 1 := by omega
  rcases this with rfl | rfl <;> simp [q2]
 ·rcases hc with hc | ⟨g, o, e, hg, hc⟩
  ·exact .inl hc
  ·refine .inr ⟨g, o, e, hg, fun i hi' => ?_⟩
   have hk : KeptIn b (b + 1) w (w.setCell ⟨b, 1, none⟩ (.int .i64 (((k + 1 : Nat)) : Int))) := (KeptIn.refl _ _ _).setCell (p := ⟨b, 1, none⟩) (Nat.le_refl _) (Nat.lt_succ_self _) _
   exact (hk.cell (p := ⟨g, o + i, none⟩) (show g < _ by omega) (.inl hg)).trans (hc i hi')
theorem kept_at (w : World) (b : Nat) (v : Value) : KeptIn b (b + 1) w (w.setCell ⟨b, 1, none⟩ v) := (KeptIn.refl _ _ _).setCell (p := ⟨b, 1, none⟩) (Nat.le_refl _) (Nat.lt_succ_self _) _
theorem l1Source_any (a : Option Addr) (c : Nat) (l : List Int) (w : World) (ha : BAt w a l) (hu : ∀ i, i < l.length → 0 ≤ l.getD i 0 ∧ l.getD i 0 ≤ 255) :
  Calls Tryz.prog 40 #[.slice a l.length c] w fun e w' => e = .returned (.pointer (some ⟨w.heap.size, 0, none⟩)) ∧ Src w.heap.size l 0 w' ∧ Below w.heap.size w w' := by
 have N := below_new w (.cells #[.slice a l.length c, .int .i64 0] 116)
 have R := rowQ2 w 116 (.slice a l.length c) (.int .i64 0)
 have S : Hid (Src w.heap.size l 0 (w.alloc (.cells #[.slice a l.length c, .int .i64 0] 116))) := ⟨⟨a, c, R, by
  rcases ha.below N with h | ⟨g, o, e, hg, hc⟩
  ·exact .inl h
  ·rcases ha with h | ⟨g', o', e', hg', hc'⟩
   ·exact .inl h
   ·rw [e'] at e; cases e; exact .inr ⟨_, _, e', hg', hc⟩⟩, hu⟩
 have NN := Hid.mk' N
 clear N R ha
 go_enter Tryz.func40, Tryz.ntmps40
 go_wp2
 go_ret
 exact ⟨rfl, S.out, NN.out⟩
theorem l1Next_any (b k : Nat) (l : List Int) (n : Int) (w : World) (h : Src b l k w) (hk : k ≤ 1000000) (hn : 1 ≤ n) (hn2 : n ≤ 1000000000) (hl : (l.length : Int) ≤ 1048576) :
  Calls Tryz.prog 42 #[.pointer (some ⟨b, 0, none⟩), .int .i64 n] w fun e w' => ∃ v : Int, e = .returned (.int .i64 v) ∧ 0 ≤ v ∧ v < n ∧ Src b l (k + 1) w' ∧ KeptIn b (b + 1) w w' := by
 have S1 := Hid.mk' h.step
 have HK := Hid.mk' (kept_at w b (.int .i64 (((k + 1 : Nat)) : Int)))
 have hlt := h.lt
 have u8 := h.u8
 obtain ⟨a, c, hr, hc⟩ := h.row
 obtain ⟨x0, x1, x2⟩ := cellsQ2 hr
 have f1 := hr.frozen 1
 have e1 : ¬ n < 1 := by omega
 have ek : ((k + 1 : Nat) : Int) = (k : Int) + 1 := by omega
 have n0 : ¬ n = 0 := by omega
 rw [ek] at S1 HK
 clear ek
 by_cases c0 : l = []
 ·subst c0
  clear hc u8 hr h
  have r1 := Int.emod_nonneg ((k : Int) * 7) n0
  have r2 := Int.emod_lt_of_pos ((k : Int) * 7) (show 0 < n by omega)
  have ez : (([] : List Int).length : Int) = 0 := rfl
  go_enter Tryz.func42, Tryz.ntmps42
  go_wp2
  go_ret
  exact ⟨_, rfl, r1, r2, S1.out, HK.out⟩
 ·obtain ⟨g, o, rfl, hg, hcell⟩ : ∃ g o, a = some ⟨g, o, none⟩ ∧ g < b ∧ ∀ i, i < l.length → w.cell? ⟨g, o + i, none⟩ = some (bv l i) := by
   rcases hc with hc | hc
   ·exact absurd hc c0
   ·exact hc
  have lp : 0 < l.length := List.length_pos_iff.2 c0
  obtain ⟨L, hL⟩ : ∃ L, l.length = L := ⟨_, rfl⟩
  rw [hL] at lp hcell x0 hl u8
  obtain ⟨i, hi⟩ : ∃ i, k % L = i := ⟨_, rfl⟩
  obtain ⟨d, hd⟩ : ∃ d, k / L = d := ⟨_, rfl⟩
  obtain ⟨j, hj⟩ : ∃ j, (k + 1) % L = j := ⟨_, rfl⟩
  have il : i < L := by rw [← hi]; exact Nat.mod_lt _ lp
  have jl : j < L := by rw [← hj]; exact Nat.mod_lt _ lp
  have dk : d ≤ k := by rw [← hd]; exact Nat.div_le_self _ _
  have gi := hcell i il
  have gj := hcell j jl
  obtain ⟨xi, hxi⟩ : ∃ x, l.getD i 0 = x := ⟨_, rfl⟩
  obtain ⟨xj, hxj⟩ : ∃ x, l.getD j 0 = x := ⟨_, rfl⟩
  have ui := u8 i il
  have uj := u8 j jl
  unfold bv at gi gj
  rw [hxi] at gi ui
  rw [hxj] at gj uj
  have ei : (k : Int) % (L : Int) = (i : Int) := by rw [← hi]; omega
  have ed : (k : Int) / (L : Int) = (d : Int) := by rw [← hd]; omega
  have ej : ((k : Int) + 1) % (L : Int) = (j : Int) := by subst hj; simp
  have L0 : ¬ (L : Int) = 0 := by omega
  have Lb : ((L : Int) == 0) = false := by rw [beq_eq_false_iff_ne]; exact L0
  have bne : ¬ b = g := by omega
  have gne : ¬ g = b := by omega
  clear hi hd hj hxi hxj hcell hc u8 hr h c0
  by_cases c2 : 200 < n
  ·obtain ⟨v, hv⟩ : ∃ v : Int, (xi + (d : Int) * 37) * 251 + xj * 13 + (k : Int) = v := ⟨_, rfl⟩
   have v0 : 0 ≤ v := by omega
   have v1 : v ≤ 100000000000 := by omega
   have r1 := Int.emod_nonneg v n0
   have r2 := Int.emod_lt_of_pos v (show 0 < n by omega)
   go_enter Tryz.func42, Tryz.ntmps42
   go_wp2
   go_region
   go_wp2
   go_region
   go_wp2
   go_ret
   exact ⟨_, rfl, r1, r2, (S1.out.below (Below.refl _ _).drew).below (Below.refl _ _).drew, ⟨HK.out.os, HK.out.tape, HK.out.output, HK.out.size, HK.out.block⟩⟩
  ·obtain ⟨v, hv⟩ : ∃ v : Int, xi + (d : Int) * 37 = v := ⟨_, rfl⟩
   have v0 : 0 ≤ v := by omega
   have v1 : v ≤ 100000000000 := by omega
   have r1 := Int.emod_nonneg v n0
   have r2 := Int.emod_lt_of_pos v (show 0 < n by omega)
   go_enter Tryz.func42, Tryz.ntmps42
   go_wp2
   go_region
   go_wp2
   go_ret
   exact ⟨_, rfl, r1, r2, S1.out.below (Below.refl _ _).drew, ⟨HK.out.os, HK.out.tape, HK.out.output, HK.out.size, HK.out.block⟩⟩
theorem l1Chance_any (b k : Nat) (l : List Int) (n : Int) (w : World) (h : Src b l k w) (hk : k ≤ 1000000) (hn : 1 ≤ n) (hn2 : n ≤ 1000000000) (hl : (l.length : Int) ≤ 1048576) :
  Calls Tryz.prog 45 #[.pointer (some ⟨b, 0, none⟩), .int .i64 n] w fun e w' => ∃ v : Bool, e = .returned (.bool v) ∧ Src b l (k + 1) w' ∧ KeptIn b (b + 1) w w' := by
 have K := Hid.mk' (l1Next_any b k l n w h hk hn hn2 hl)
 clear h
 go_enter Tryz.func45, Tryz.ntmps45
 go_wp2_with fail
 refine K.out.mono ?_
 rintro e w1 ⟨v, rfl, _, _, hS, hK⟩
 have HS := Hid.mk' hS
 have HK := Hid.mk' hK
 clear K hS hK
 go_wp2
 go_ret
 exact ⟨_, rfl, HS.out, HK.out⟩
def IAt (w : World) (g : Nat) (l : List Int) : Prop := g < w.heap.size ∧ ∀ i, i < l.length → w.cell? ⟨g, i, none⟩ = some (.int .i64 (l.getD i 0))
theorem l1Pick_any (b k g c : Nat) (l xs : List Int) (w : World) (h : Src b l k w) (hx : IAt w g xs) (hg : b ≠ g) (hk : k ≤ 1000000) (hn : 1 ≤ xs.length) (hn2 : xs.length ≤ 1000) (hl : (l.length : Int) ≤ 1048576) :
  Calls Tryz.prog 61 #[.pointer (some ⟨b, 0, none⟩), .slice (some ⟨g, 0, none⟩) xs.length c] w fun e w' => ∃ i, i < xs.length ∧ e = .returned (.int .i64 (xs.getD i 0)) ∧ Src b l (k + 1) w' ∧ KeptIn b (b + 1) w w' := by
 have K := Hid.mk' (l1Next_any b k l xs.length w h hk (by omega) (by omega) hl)
 have HX := Hid.mk' hx
 clear h hx
 obtain ⟨n, hn'⟩ : ∃ n, xs.length = n := ⟨_, rfl⟩
 rw [hn'] at K hn hn2 ⊢
 go_enter Tryz.func61, Tryz.ntmps61
 go_wp2_with fail
 refine K.out.mono ?_
 rintro e w1 ⟨v, rfl, v0, v1, hS, hK⟩
 have HS := Hid.mk' hS
 have HK := Hid.mk' hK
 obtain ⟨i, rfl⟩ : ∃ i : Nat, v = (i : Int) := ⟨v.toNat, by omega⟩
 have il : i < n := by omega
 have hc : w1.cell? ⟨g, i, none⟩ = some (.int .i64 (xs.getD i 0)) := (hK.cell (p := ⟨g, i, none⟩) HX.out.1 (show g < b ∨ b + 1 ≤ g by omega)).trans (HX.out.2 i (by omega))
 generalize hy : xs.getD i 0 = y at hc
 clear K hS hK
 go_wp2
 go_ret
 exact ⟨i, il, by rw [hy]; rfl, HS.out, HK.out⟩
theorem own_kept {w w' : World} {base lo hi : Nat} {e : TypeId} {size : Nat} {v : Value} {n : Nat} {xs : List Value} (h : w.ownsRow base e size v n xs) (hk : KeptIn lo hi w w') (hb : hi ≤ base) : w'.ownsRow base e size v n xs := by
 have hlt := h.lt
 obtain ⟨h0, h | ⟨g, cap, cur, rfl, hg, h1, h2, h3, h4, h5⟩⟩ := h
 ·exact ⟨h0, .inl h⟩
 ·exact ⟨h0, .inr ⟨g, cap, cur, rfl, hg, (hk.block g (hlt g rfl).2 (.inr (by omega))).trans h1, h2, h3, h4, h5⟩⟩
theorem own_form {w : World} {base : Nat} {e : TypeId} {size : Nat} {v : Value} {n : Nat} {xs : List Value} (h : w.ownsRow base e size v n xs) : ∃ a c, v = .slice a n c := by
 obtain ⟨_, ⟨rfl, rfl⟩ | ⟨g, cap, cur, rfl, _⟩⟩ := h
 ·exact ⟨_, _, rfl⟩
 ·exact ⟨_, _, rfl⟩
structure Drawn (w : World) (b : Nat) (l : List Int) (k : Nat) (v : Value) (out : List Int) (wr : World) : Prop where
 own : wr.ownsRow w.heap.size 5 1 v out.length (bcs out)
 u8 : ∀ x ∈ out, 0 ≤ x ∧ x ≤ 255
 src : Src b l k wr
 kept : KeptIn b (b + 1) w wr
theorem Drawn.alloc {w wr : World} {b k : Nat} {l out : List Int} {v : Value} (h : Drawn w b l k v out wr) (o : Obj) : Drawn w b l k v out (wr.alloc o) :=
 ⟨h.own.alloc o, h.u8, h.src.below (below_new _ _), h.kept.alloc o⟩
theorem Drawn.apps {w wr w1 : World} {b k : Nat} {l out more : List Int} {v v' : Value} {n : Nat} (h : Drawn w b l k v out wr) (hbw : b < w.heap.size) (hx : ∀ x ∈ more, 0 ≤ x ∧ x ≤ 255) (hn : more.length = n) (ho : w1.ownsRow w.heap.size 5 1 v' (out.length + n) (bcs out ++ bcs more)) (hg : wr.grownBy w1 v.ownBlock) : Drawn w b l k v' (out ++ more) w1 := by
 subst hn
 have hlo := own_lo h.own
 refine ⟨by rw [List.length_append, bcs_append]; exact ho, fun y hy => ?_, ?_, h.kept.grown hg hlo⟩
 ·rcases List.mem_append.1 hy with hy | hy
  ·exact h.u8 y hy
  ·exact hx y hy
 ·have hk : KeptIn w.heap.size wr.heap.size wr w1 := ⟨hg.os, hg.tape, hg.output, hg.size, fun j hj hc => hg.block j hj (fun e => by have := hlo j e.symm; omega)⟩
  exact h.src.kept hk hbw
theorem Drawn.below {w wr w' : World} {b k : Nat} {l out : List Int} {v : Value} (h : Drawn w b l k v out wr) (hb : Below wr.heap.size wr w') : Drawn w b l k v out w' :=
 ⟨own_keep h.own hb, h.u8, h.src.below hb, h.kept.trans (KeptIn.of_below hb)⟩
theorem iat_lit (w : World) (xs : List Int) : IAt (w.alloc (.cells (xs.map (Value.int .i64)).toArray 2)) w.heap.size xs := by
 refine ⟨by simp, fun i hi => ?_⟩
 rw [World.cell?_alloc_mark]
 simp [hi]
def sB (s : ByteArray) : List Int := s.data.toList.map fun c => (c.toNat : Int)
theorem sB_len (s : ByteArray) : (sB s).length = s.size := by unfold sB; rw [List.length_map, Array.length_toList]; rfl
theorem sB_u8 (s : ByteArray) : ∀ x ∈ sB s, 0 ≤ x ∧ x ≤ 255 := by
 intro x hx
 simp [sB] at hx
 obtain ⟨c, _, rfl⟩ := hx
 have := c.toNat_lt
 omega
theorem row_src (w : World) (s : ByteArray) (cap : Nat) (fz : Nat × Nat) : ∀ j u, (bcs (sB s))[j]? = some u → (w.alloc (.cells (bytesRow s cap) 5 fz)).cell? ((⟨w.heap.size, 0, none⟩ : Addr).add j) = some u := by
 intro j u hj
 have hlt : j < s.size := by
  have := (List.getElem?_eq_some_iff.1 hj).1
  rw [bcs_len, sB_len] at this; omega
 rw [Addr.add_mid, Nat.zero_add, World.cell?_alloc_mark, ← hj]
 have h2 : j < s.data.size := hlt
 unfold bytesRow
 rw [Array.getElem?_append_left (by simpa using h2)]
 simp [bcs, sB]
 rfl
abbrev words25 : Array Value := #[.string ⟨#[60, 112, 62]⟩, .string ⟨#[60, 47, 112, 62]⟩, .string ⟨#[60, 98, 62]⟩, .string ⟨#[60, 47, 98, 62]⟩, .string ⟨#[60, 105, 62]⟩, .string ⟨#[120]⟩, .string ⟨#[121, 60]⟩, .string ⟨#[38, 108, 116, 59]⟩, .string ⟨#[38, 97, 109, 112, 59]⟩, .string ⟨#[38, 35, 54, 53, 59]⟩, .string ⟨#[38, 98, 97, 100, 59]⟩, .string ⟨#[60, 98, 114, 62]⟩, .string ⟨#[60, 97, 32, 104, 114, 101, 102, 61, 34, 104, 116, 116, 112, 58, 120, 34, 62]⟩, .string ⟨#[60, 97, 32, 104, 114, 101, 102, 61, 34, 106, 115, 58, 120, 34, 62]⟩, .string ⟨#[60, 47, 97, 62]⟩, .string ⟨#[60, 115, 99, 114, 105, 112, 116, 62]⟩, .string ⟨#[60, 47, 115, 99, 114, 105, 112, 116, 62]⟩, .string ⟨#[60, 105, 109, 103, 32, 119, 105, 100, 116, 104, 61, 34, 49, 46, 53, 48, 34, 62]⟩, .string ⟨#[60, 117, 62]⟩, .string ⟨#[60, 47, 117, 62]⟩, .string ⟨#[60, 33, 45, 45, 32, 99, 32, 45, 45, 62]⟩, .string ⟨#[34]⟩, .string ⟨#[62]⟩, .string ⟨#[60, 98, 47, 62]⟩, .string ⟨#[38]⟩]
theorem words25_at (w : World) (i : Nat) (hi : i < 25) : ∃ t : ByteArray, (w.alloc (.cells words25 9)).cell? ⟨w.heap.size, i, none⟩ = some (.string t) ∧ t.size ≤ 18 := by
 have hi' : i = 0 ∨ i = 1 ∨ i = 2 ∨ i = 3 ∨ i = 4 ∨ i = 5 ∨ i = 6 ∨ i = 7 ∨ i = 8 ∨ i = 9 ∨ i = 10 ∨ i = 11 ∨ i = 12 ∨ i = 13 ∨ i = 14 ∨ i = 15 ∨ i = 16 ∨ i = 17 ∨ i = 18 ∨ i = 19 ∨ i = 20 ∨ i = 21 ∨ i = 22 ∨ i = 23 ∨ i = 24 := by omega
 rcases hi' with rfl | rfl | rfl | rfl | rfl | rfl | rfl | rfl | rfl | rfl | rfl | rfl | rfl | rfl | rfl | rfl | rfl | rfl | rfl | rfl | rfl | rfl | rfl | rfl | rfl <;> exact ⟨_, by simp [words25]; rfl, by decide⟩
theorem l1Marked_any (b k n : Nat) (l : List Int) (w : World) (h : Src b l k w) (hk : k ≤ 10000) (hn1 : 1 ≤ n) (hn : n ≤ 10) (hl : (l.length : Int) ≤ 1048576) :
  Calls Tryz.prog 60 #[.pointer (some ⟨b, 0, none⟩), .int .i64 (n : Int)] w fun e w' => ∃ v out k', e = .returned v ∧ out.length ≤ 18 * n ∧ k' ≤ k + n ∧ Drawn w b l k' v out w' := by
 have hbw := h.lt
 have K0 := Hid.mk' (l1Next_any b k l n _ (h.below (below_new w (.cells #[] 5))) (by omega) (by omega) (by omega) hl)
 clear h
 go_enter Tryz.func60, Tryz.ntmps60
 go_wp2_with fail
 refine K0.out.mono ?_
 rintro e w0 ⟨c, rfl, c0, c1, hS0, hK0⟩
 have D0 : Hid (Drawn w b l (k + 1) (.slice (some ⟨w.heap.size, 0, none⟩) 0 0) [] w0) := ⟨own_kept (World.ownsRow_lit w #[] 0 (Nat.le_refl _) (by decide) rfl) hK0 (by omega), fun x hx => by simp at hx, hS0, ((KeptIn.refl _ _ _).alloc _).trans hK0⟩
 clear K0 hS0 hK0
 go_wp2
 go_loopw [5, 6] (fun v i wr => ∃ (m k' : Nat) (out : List Int), m < n ∧ i = .int .i64 m ∧ out.length + 18 * m ≤ 18 * n ∧ k' + m ≤ k + n ∧ Drawn w b l k' v out wr) (fun _ i _ => (intOf i).toNat)
 case atStart => exact ⟨c.toNat, k + 1, [], by omega, by rw [Int.toNat_of_nonneg c0], by simp; omega, by omega, D0.out⟩
 case round =>
  obtain ⟨m, k', out, hm, rfl, hlen, hk', hD⟩ := hrel
  by_cases cm : 0 < m
  ·have ci : (0 : Int) < (m : Int) := by omega
   have S1 := hD.src.below (below_new wr (.cells words25 9))
   have K := Hid.mk' (l1Next_any b k' l 25 _ S1 (by omega) (by decide) (by decide) hl)
   have hlt := hD.src.lt
   have hws := hD.kept.size
   have W25 := Hid.mk' (words25_at wr)
   have D1 := Hid.mk' (hD.alloc (.cells words25 9))
   obtain ⟨pv_, qv_, rfl⟩ := own_form hD.own
   clear S1 hD
   go_wp2_with fail
   refine K.out.mono ?_
   rintro e w1 ⟨x, rfl, x0, x1, hS1, hK1⟩
   obtain ⟨i, rfl⟩ : ∃ i : Nat, x = (i : Int) := ⟨x.toNat, by omega⟩
   have il : i < 25 := by omega
   obtain ⟨t, ht, htl⟩ := W25.out i il
   have hc : w1.cell? ⟨wr.heap.size, i, none⟩ = some (.string t) := (hK1.cell (p := ⟨wr.heap.size, i, none⟩) (by simp) (show wr.heap.size < b ∨ b + 1 ≤ wr.heap.size by omega)).trans ht
   have D2 : Hid (Drawn w b l (k' + 1) (.slice pv_ out.length qv_) out w1) := ⟨own_kept D1.out.own hK1 (by omega), D1.out.u8, hS1, D1.out.kept.trans hK1⟩
   have hcv := fun W : World => run_bytes_of_string (P := Tryz.prog) W 9 22 5 t Tryz.underlying9 Tryz.underlying22 Tryz.underlying5
   have l5 : (bcs (sB t)).length = t.size * 1 := by rw [bcs_len, sB_len]
   have ys := hK1.size
   simp at ys
   clear K hS1 hK1 ht W25 D1
   go_wp2_with (at_builtin; refine wpList_append_at _ rfl (.tmp 15) (.tmp 21) 22 rfl w.heap.size 5 (.int .u8 0) 1 1 Tryz.underlying22 Tryz.info5 rfl (by decide) (.slice pv_ out.length qv_) _ _ rfl (own_keep D2.out.own (((Below.refl w1.heap.size w1).alloc (Nat.le_refl _) _).drew)) _ _ _ (bcs (sB t)) rfl l5 (.inr ⟨_, rfl, fun j u hj => row_src w1 t _ _ j u hj⟩) (bcs_one _) (by unfold maxLen; omega) (by omega) (by simp; omega) ?_; intro v' w2 ho hgr hat; have D3 := Hid.mk' ((D2.out.below (((Below.refl w1.heap.size w1).alloc (Nat.le_refl _) _).drew)).apps hbw (sB_u8 t) (sB_len t) ho hgr); clear ho hgr hat)
   go_roundw
   case rel => exact ⟨m - 1, k' + 1, out ++ sB t, by omega, by go_num, by rw [List.length_append, sB_len]; omega, by omega, D3.out⟩
   case measure => simp [intOf]; omega
  ·have e : m = 0 := by omega
   subst e
   have ci : ¬ (0 : Int) < ((0 : Nat) : Int) := by omega
   go_wp2
   go_ret
   exact ⟨_, rfl, out, by omega, k', by omega, hD⟩
theorem aeq_refl (x : AT) : aeq x x = true := by unfold aeq; simp
theorem sameAs_refl (l : List AT) : sameAs l l = true := by unfold sameAs; rw [decide_eq_true rfl, allK_true (fun k _ => aeq_refl _)]; rfl
theorem teq_refl (x : TK) : teq x x = true := by unfold teq; rw [sameAs_refl]; simp
theorem sameTs_refl (l : List TK) : sameTs l l = true := by unfold sameTs; rw [decide_eq_true rfl, allK_true (fun k _ => teq_refl _)]; rfl
theorem lwBigF_any (a : Option Addr) (c n : Nat) (w : World) :
  Calls Tryz.prog 8 #[.slice a n c] w fun e w' => e = .returned (.bool (decide ((1048576 : Int) < (n : Int)))) ∧ w' = w := by
 go_enter Tryz.func8, Tryz.ntmps8
 go_wp2
 go_ret
 exact ⟨rfl, rfl⟩
theorem sameCs_refl (l : List CK) : sameCs l l = true := by
 unfold sameCs
 rw [decide_eq_true rfl, allK_true (fun k _ => by unfold ceq; simp [beqB_refl])]
 rfl
theorem sameR_refl (m : ME) : sameR m m = true := by
 unfold sameR
 rw [sameTs_refl, beqB_refl, sameCs_refl]
 rfl
theorem memF_new {d : List Int} {s : Nat} (hd : d.length ≤ 240) (hs : 1 ≤ s) (hs2 : s ≤ 60) : memF (memX d s) = 0 := by
 have h : memF (memX d s) = (if askC d (s : Int) ≠ 0 then askC d (s : Int) else if sameR (memX d (s : Int).toNat) (memX d s) then 0 else 1) := rfl
 rw [h, askC_good hd hs hs2, if_neg (by decide), Int.toNat_natCast, sameR_refl, if_pos rfl]
theorem spl_back {d p : List Int} {i j : Nat} (h : i + j ≤ d.length) : spl (spl d i j p) i p.length ((d.drop i).take j) = d := by
 unfold spl
 have h1 : (d.take i).length = i := by rw [List.length_take]; omega
 have e1 : (d.take i ++ p ++ d.drop (i + j)).take i = d.take i := by
  rw [List.append_assoc, List.take_append_of_le_length (by omega)]
  exact List.take_of_length_le (by omega)
 have e2 : (d.take i ++ p ++ d.drop (i + j)).drop (i + p.length) = d.drop (i + j) := by
  have h2 : (d.take i ++ p).length = i + p.length := by simp; omega
  exact List.drop_left' h2
 rw [e1, e2, List.append_assoc]
 have e3 : d.drop (i + j) = (d.drop i).drop j := by rw [List.drop_drop]
 rw [e3, List.take_append_drop, List.take_append_drop]
theorem bk_math {m : ME} {A N : Int} {p : List Int} (hf : edC m A N p = 0) : ∃ i j s : Nat, A = (i : Int) ∧ N = (j : Int) ∧ m.st = (s : Int) ∧ 1 ≤ s ∧ s ≤ 60 ∧ i + j ≤ m.dt.length ∧ m.dt.length ≤ 240 ∧ p.length ≤ 240 ∧ (spl m.dt i j p).length ≤ 240 ∧ eM m A N p = memX (spl m.dt i j p) s ∧ edC (memX (spl m.dt i j p) s) (i : Int) (p.length : Int) ((m.dt.drop i).take j) = 0 ∧ eM (memX (spl m.dt i j p) s) (i : Int) (p.length : Int) ((m.dt.drop i).take j) = memX m.dt s ∧ sameM (memX m.dt s) m = true := by
 obtain ⟨hf1, hf2⟩ := edC_ok hf
 obtain ⟨g1, g2, g3, g4⟩ := spC_zero hf2
 obtain ⟨h240, s, hst, hs, hs2, hsame⟩ := memF_ok hf1
 obtain ⟨i, rfl⟩ : ∃ i : Nat, A = (i : Int) := ⟨A.toNat, by omega⟩
 obtain ⟨j, rfl⟩ : ∃ j : Nat, N = (j : Int) := ⟨N.toNat, by omega⟩
 have hat : i + j ≤ m.dt.length := by omega
 have hlen := spl_len (l := m.dt) (at_ := i) (n := j) (p := p) hat
 have hL : (spl m.dt i j p).length ≤ 240 := by omega
 have he : eM m (i : Int) (j : Int) p = memX (spl m.dt i j p) s := by
  unfold eM
  rw [if_pos hf, hst]
  rfl
 have hq : ((m.dt.drop i).take j).length = j := by rw [List.length_take, List.length_drop]; omega
 have hc : edC (memX (spl m.dt i j p) s) (i : Int) (p.length : Int) ((m.dt.drop i).take j) = 0 := by
  have h : edC (memX (spl m.dt i j p) s) (i : Int) (p.length : Int) ((m.dt.drop i).take j) = (if memF (memX (spl m.dt i j p) s) ≠ 0 then memF (memX (spl m.dt i j p) s) else spC (spl m.dt i j p).length (i : Int) (p.length : Int) ((m.dt.drop i).take j).length) := rfl
  rw [h, memF_new hL hs hs2, if_neg (by decide), hq]
  unfold spC
  rw [if_neg (by omega), if_neg (by omega)]
 refine ⟨i, j, s, rfl, rfl, hst, hs, hs2, hat, h240, by omega, hL, he, hc, ?_, ?_⟩
 ·unfold eM
  rw [if_pos hc]
  show memX (spl (spl m.dt i j p) i p.length ((m.dt.drop i).take j)) s = memX m.dt s
  rw [spl_back hat]
 ·unfold sameM
  show (beqB m.dt m.dt && (((s : Int) == m.st) && sameR (memX m.dt s) m)) = true
  rw [beqB_refl, hst, hsame]
  simp
theorem GM.mono {lo hi lo' hi' : Nat} {tau : Nat → Nat} {m : ME} {vd tv hv cv : Value} {us : List Value} {rs : Nat → List Value} {bl bh : Nat → Nat} {hvs : Nat → Value} {w : World} (x : GM lo hi tau m vd tv hv cv us rs bl bh hvs w) (h1 : lo' ≤ lo) (h2 : hi ≤ hi') : GM lo' hi' tau m vd tv hv cv us rs bl bh hvs w :=
 ⟨x.d, x.t.down h1, x.h, x.c, x.k, fun q e => by have := x.ld q e; omega, fun q e => by have := x.lt q e; omega, fun q e => by have := x.lh q e; omega, fun q e => by have := x.lc q e; omega, fun i hi q e => by have := x.lk i hi q e; omega⟩
theorem GM.keepIn {lo hi : Nat} {tau : Nat → Nat} {m : ME} {vd tv hv cv : Value} {us : List Value} {rs : Nat → List Value} {bl bh : Nat → Nat} {hvs : Nat → Value} {w w' : World} (x : GM lo hi tau m vd tv hv cv us rs bl bh hvs w) (hs : w.heap.size ≤ w'.heap.size) (hk : ∀ q, lo ≤ q → q < hi → w'.heap[q]? = w.heap[q]?) : GM lo hi tau m vd tv hv cv us rs bl bh hvs w' :=
 ⟨x.d.keep (fun q e h => hk q (x.ld q e).2.1 (x.ld q e).2.2), x.t.keepF hs (fun q e h => hk q (x.lt q e).2.1 (x.lt q e).2.2), x.h.keep (fun q e h => hk q (x.lh q e).2.1 (x.lh q e).2.2), x.c.keep (fun q e h => hk q (x.lc q e).2.1 (x.lc q e).2.2), fun i hi => (x.k i hi).keep (fun q e h => hk q (x.lk i hi q e).2.1 (x.lk i hi q e).2.2), x.ld, x.lt, x.lh, x.lc, x.lk⟩
theorem OB.lenc {w : World} {v : Value} {l : List Int} (h : OB w v l) : ∃ a c, v = .slice a l.length c ∧ BAt w a l ∧ l.length ≤ c := by
 rcases h with ⟨rfl, rfl⟩ | ⟨g, cap, cn, f, rfl, hca, hr, hl, hf⟩
 ·exact ⟨Option.none, 0, rfl, .inl rfl, Nat.le_refl _⟩
 ·exact ⟨_, _, rfl, .inr ⟨g, 0, rfl, hr.lt, fun k hk => by rw [Nat.zero_add, hr.cell (by omega), hf k hk]⟩, hca⟩
theorem implEM_any (tp : TypeId) (pv : Value) (m : ME) (a t u c : Option Addr) (ca ct cu cc : Nat) (A N : Int) (e : Option Addr) (d : Nat) (p : List Int) (w : World) (hE : Env w.heap.size tp pv w) (h1 : MAt w a t u c m) (hca : m.dt.length ≤ ca) (hub : Byt m.dt) (hpb : Byt p) (hm : (msz m : Int) ≤ 1048576) (he : BAt w e p) (hl : p.length ≤ 1048576) (a1 : -9223372036854775808 ≤ A) (a2 : A ≤ 9223372036854775807) (n1 : -9223372036854775808 ≤ N) (n2 : N ≤ 9223372036854775807) :
  Calls Tryz.prog 23 #[.agg #[.slice a m.dt.length ca, .int .i64 m.st, .slice t m.tk.length ct, .slice u m.hd.length cu, .slice c m.cs.length cc], .int .i64 A, .int .i64 N, .slice e p.length d] w fun ev w' => ∃ tau vd tv hv cv us rs bl bh hvs, ev = .returned (.agg #[.int .i64 (edC m A N p), .int .i64 (eR m A N p), vd, .int .i64 (eM m A N p).st, tv, hv, cv]) ∧ GM w.heap.size w'.heap.size tau (eM m A N p) vd tv hv cv us rs bl bh hvs w' ∧ Below w.heap.size w w' := by
 obtain ⟨B0, R1, R2⟩ := boxesM w (.slice a m.dt.length ca) (.int .i64 m.st) (.slice t m.tk.length ct) (.slice u m.hd.length cu) (.slice c m.cs.length cc)
 have HE := Hid.mk' ((hE.keep B0).up B0.size (Nat.le_refl _))
 have KF := Hid.mk' (newEdit_any tp pv m a t u c ca ct cu cc A N e d p _ ((hE.keep B0).up B0.size (Nat.le_refl _)) (h1.below B0) hca hub hm (he.below B0) hl a1 a2 n1 n2)
 have HB := Hid.mk' B0
 have H2 := Hid.mk' R2
 have HU := Hid.mk' hub
 have HP := Hid.mk' hpb
 obtain ⟨x0, x1, x2, x3, x4, x5⟩ := cells5 R1
 clear B0 R1 R2 h1 hub hpb hm hE he
 generalize hW : (w.alloc (.cells #[.slice a m.dt.length ca, .int .i64 m.st, .slice t m.tk.length ct, .slice u m.hd.length cu, .slice c m.cs.length cc] 27)).alloc (.cells #[.int .i64 0, .int .i64 0, .slice none 0 0, .int .i64 0, .slice none 0 0, .slice none 0 0, .slice none 0 0] 50) = W at *
 go_enter Tryz.func23, Tryz.ntmps23
 go_wp2_with fail
 clear hW x0 x1 x2 x3 x4 x5
 refine KF.out.mono ?_
 rintro e1 w1 (⟨hf, rfl, hb1⟩ | ⟨hf, s, i, j, hst, hs, hs2, rfl, rfl, gd, gc, tv, hvs, us, rs, bl, bh, tx, rfl, hx, ob, hin, hb1⟩)
 ·have EV : Hid (eR m A N p = 0) := Hid.mk' (by unfold eR; rw [if_neg hf])
  have EM : Hid (eM m A N p = m0) := Hid.mk' (by unfold eM; rw [if_neg hf])
  obtain ⟨F, hF⟩ : ∃ F, edC m A N p = F := ⟨_, rfl⟩
  rw [hF] at hf ⊢
  have EC := Hid.mk' hF
  have hne : (F != 0) = true := by simp [hf]
  have N1 := below_new w1 (.cells ed0 86)
  have M1 := hb1.trans (N1.mono hb1.size)
  have HZ := Hid.mk' (H2.out.below M1)
  have B1 := Hid.mk' (HB.out.trans (M1.mono HB.out.size))
  have HS := Hid.mk' (HZ.out.put #[.int .i64 F, .int .i64 0, .slice none 0 0, .int .i64 0, .slice none 0 0, .slice none 0 0, .slice none 0 0])
  have BS := Hid.mk' (RowA.putBelow B1.out (Nat.le_succ w.heap.size) #[.int .i64 F, .int .i64 0, .slice none 0 0, .int .i64 0, .slice none 0 0, .slice none 0 0, .slice none 0 0])
  clear hF N1 M1 hb1
  go_wp2_with (first | ((with_reducible refine wpList_store_row ?_ 86 (.tmp 9) (.tmp 18) ?_ w1.heap.size ed0 ?_ ?_ 86 _ (Deep.blk_alloc_new w1 _) ?_ ?_ ?_ ?_); rfl; rfl; rfl; rfl; kernel_rfl; rfl; exact ed0_one; rw [alloc_setRow]) | ((with_reducible refine wpList_store_row ?_ 50 (.tmp 8) (.tmp 23) ?_ (w.heap.size + 1) #[.int .i64 F, .int .i64 0, .slice none 0 0, .int .i64 0, .slice none 0 0, .slice none 0 0, .slice none 0 0] ?_ ?_ 50 #[.int .i64 0, .int .i64 0, .slice none 0 0, .int .i64 0, .slice none 0 0, .slice none 0 0, .slice none 0 0] ?_ ?_ ?_ ?_ ?_); rfl; rfl; rfl; rfl; exact HZ.out; kernel_rfl; rfl; kernel_rfl) | fail)
  refine bodyPost_ret (v := .agg #[.int .i64 F, .int .i64 0, .slice none 0 0, .int .i64 0, .slice none 0 0, .slice none 0 0, .slice none 0 0]) ?_ ?_ ?_
  ·exact results_cell1 Tryz.results23 _ _ _ ⟨w.heap.size + 1, 0, none⟩ _ rfl (HS.out.load _ Tryz.underlying50 rfl (by kernel_rfl))
  ·rfl
  rw [EM.out, EV.out, EC.out]
  exact ⟨_, _, _, _, _, _, _, _, _, _, rfl, GM.none _ _ _, BS.out⟩
 ·obtain ⟨hf1, hf2⟩ := edC_ok hf
  obtain ⟨g1, g2, g3, g4⟩ := spC_zero hf2
  obtain ⟨h240, -⟩ := memF_ok hf1
  have hij : i + j ≤ m.dt.length := by omega
  have hL : (spl m.dt i j p).length ≤ 240 := by rw [spl_len hij]; omega
  obtain ⟨R, hR⟩ : ∃ R : Nat, meetN (mtF m.dt (spl m.dt i j p) s i j p.length) (spl m.dt i j p).length (i / s * s) = R := ⟨_, rfl⟩
  have EV : Hid (eR m (i : Int) (j : Int) p = (R : Int) - ((i / s * s : Nat) : Int)) := Hid.mk' (by
   unfold eR mtV
   rw [if_pos hf, if_pos hf, hst]
   simp only [Int.toNat_natCast]
   rw [hR])
  have EM : Hid (eM m (i : Int) (j : Int) p = memX (spl m.dt i j p) s) := Hid.mk' (by
   unfold eM
   rw [if_pos hf, hst]
   rfl)
  have EC := Hid.mk' hf
  have hRle : R ≤ 240 := by rw [← hR]; exact Nat.le_trans (meetN_le _ _ rfl) hL
  have hQle : i / s * s ≤ 240 := Nat.le_trans (Nat.div_mul_le_self _ _) (by omega)
  have TB := Hid.mk' (byt_spl HU.out HP.out i j)
  obtain ⟨va, vc, rfl, bt, hvc⟩ := ob.lenc
  obtain ⟨X, hX⟩ : ∃ X : Array Value, X = edV m.dt s i j p gd gc tv hvs (.slice va (spl m.dt i j p).length vc) := ⟨_, rfl⟩
  have X1 : X.all (·.oneCell') = true := by
   rw [hX]
   obtain ⟨ha, hc, eh, -⟩ := own_bat (hx.rx.own (m.dt.length / s + 1) (Nat.le_refl _))
   obtain ⟨ta, tc, rfl, -⟩ := own_src hx.rx.tp.row
   obtain ⟨ka, kc, ek, -⟩ := own_bat (hx.rx.own (i / s) (by have : i / s ≤ m.dt.length / s := Nat.div_le_div_right (by omega); omega))
   unfold edV edX
   rw [eh, ek]
   kernel_rfl
  have X2 : X.size = 10 := by rw [hX]; rfl
  have c1 : X[1]? = some (.int .i64 (s : Int)) := by rw [hX]; rfl
  have c5 : X[5]? = some (.slice va (spl m.dt i j p).length vc) := by rw [hX]; rfl
  have c6 : X[6]? = some (.int .i64 ((i / s * s : Nat) : Int)) := by rw [hX]; rfl
  have N1 := below_new w1 (.cells X 86)
  have M1 := hb1.trans (N1.mono hb1.size)
  have KN := Hid.mk' (implNM_gm tp pv (spl m.dt i j p) (s : Int) va vc (w1.alloc (.cells X 86)) ((HE.out.keep M1).up M1.size (Nat.le_refl _)) (bt.below N1) hvc TB.out (by omega))
  have KM : Hid (∀ z : World, Below (w1.alloc (.cells X 86)).heap.size (w1.alloc (.cells X 86)) z → Calls Tryz.prog 57 #[.agg X] z fun e w' => e = .returned (.int .i64 (R : Int)) ∧ Below z.heap.size z w') := Hid.mk' (fun z hz => by
   have K := editMeet_any tp pv _ m.dt s i j p gd gc tv hvs us rs bl bh (.slice va (spl m.dt i j p).length vc) z ((HE.out.keep (M1.trans (hz.mono M1.size))).up (Nat.le_trans M1.size hz.size) (Nat.le_refl _)) ⟨(hx.below N1).below hz, (ob.below N1).below hz⟩ hs hs2 hij h240 hL HU.out HP.out
   rw [hR, ← hX] at K
   exact K)
  have hX3 : #[.slice (some ⟨gd, 0, none⟩) m.dt.length m.dt.length, .int .i64 (s : Int), tv, hvs (m.dt.length / s + 1), .slice (some ⟨gc, 0, none⟩) (m.dt.length / s + 1) (m.dt.length / s + 1), .slice va (spl m.dt i j p).length vc, .int .i64 ((i / s * s : Nat) : Int), .int .i64 ((tkN m.dt s (i / s)).length : Int), hvs (i / s), .complex .f64 (floatOfInt .f64 ((i : Int) + (p.length : Int))) (floatOfInt .f64 ((i : Int) + (j : Int)))] = X := by
   rw [hX, ← Int.natCast_add, ← Int.natCast_add]
   rfl
  rw [hX3]
  rw [askC_good hL hs hs2, show rM (spl m.dt i j p) (s : Int) = memX (spl m.dt i j p) s by unfold rM; rw [if_pos (askC_good hL hs hs2)]; rfl, show rR (spl m.dt i j p) (s : Int) = ((spl m.dt i j p).length : Int) by unfold rR; rw [if_pos (askC_good hL hs hs2)]] at KN
  have HXR := Hid.mk' (RowA.new w1 86 X)
  have W01 : Hid (w.heap.size + 1 < w1.heap.size) := Hid.mk' (H2.out.below hb1).lt
  have HZ := Hid.mk' (H2.out.below M1)
  have B1 := Hid.mk' (HB.out.trans (M1.mono HB.out.size))
  clear hX3 hX hx hin ob bt hb1 N1 M1 H2 HB HE
  have k1 := HXR.out.cell 1 _ c1
  have k5 := HXR.out.cell 5 _ c5
  generalize spl m.dt i j p = T at *
  generalize i / s * s = Q at *
  go_wp2_with (first | ((with_reducible refine wpList_store_row ?_ 86 (.tmp 9) (.tmp 18) ?_ w1.heap.size X ?_ ?_ 86 _ (Deep.blk_alloc_new w1 _) ?_ ?_ ?_ ?_); rfl; rfl; rfl; rfl; (rw [X2]; kernel_rfl); (rw [X2]; rfl); exact X1; rw [alloc_setRow]) | fail)
  generalize hW2 : w1.alloc (.cells X 86) = w2 at *
  clear hW2 k1 k5
  refine KN.out.mono ?_
  rintro e3 w3 ⟨tau, vd, tv3, hv3, cv3, us3, rs3, bl3, bh3, hvs3, rfl, gm, hb3⟩
  obtain ⟨pa, pt, pu, pc, qa, qt, qu, qc, rfl, rfl, rfl, rfl, -⟩ := gm.at
  have S12 : Hid (w.heap.size + 2 ≤ w2.heap.size) := Hid.mk' (by have := HZ.out.lt; omega)
  have S01 : Hid (w.heap.size + 1 < w1.heap.size) := W01
  have s2 := HXR.out.lt
  have N3 := below_new w3 (.cells #[.int .i64 0, .int .i64 (T.length : Int), .slice pa (memX T s).dt.length qa, .int .i64 (memX T s).st, .slice pt (memX T s).tk.length qt, .slice pu (memX T s).hd.length qu, .slice pc (memX T s).cs.length qc] 50)
  have M3 := hb3.trans (N3.mono hb3.size)
  have HXR := Hid.mk' (HXR.out.below M3)
  have HZ := Hid.mk' (HZ.out.below M3)
  have B1 := Hid.mk' (B1.out.trans (M3.mono B1.out.size))
  have HR := Hid.mk' (RowA.new w3 50 #[.int .i64 0, .int .i64 (T.length : Int), .slice pa (memX T s).dt.length qa, .int .i64 (memX T s).st, .slice pt (memX T s).tk.length qt, .slice pu (memX T s).hd.length qu, .slice pc (memX T s).cs.length qc])
  have GM3 := Hid.mk' (gm.below N3)
  have KM := Hid.mk' (fun z (hz : Below (w3.alloc (.cells #[.int .i64 0, .int .i64 (T.length : Int), .slice pa (memX T s).dt.length qa, .int .i64 (memX T s).st, .slice pt (memX T s).tk.length qt, .slice pu (memX T s).hd.length qu, .slice pc (memX T s).cs.length qc] 50)).heap.size (w3.alloc (.cells #[.int .i64 0, .int .i64 (T.length : Int), .slice pa (memX T s).dt.length qa, .int .i64 (memX T s).st, .slice pt (memX T s).tk.length qt, .slice pu (memX T s).hd.length qu, .slice pc (memX T s).cs.length qc] 50)) z) => KM.out z (M3.trans (hz.mono M3.size)))
  have S13 : Hid (w1.heap.size < w3.heap.size) := Hid.mk' (by have := hb3.size; omega)
  clear KN hb3 N3 M3 gm
  go_wp2_with (first | ((with_reducible refine wpList_store_row ?_ 50 (.tmp 11) (.tmp 28) ?_ w3.heap.size #[.int .i64 0, .int .i64 (T.length : Int), .slice pa (memX T s).dt.length qa, .int .i64 (memX T s).st, .slice pt (memX T s).tk.length qt, .slice pu (memX T s).hd.length qu, .slice pc (memX T s).cs.length qc] ?_ ?_ 50 _ (Deep.blk_alloc_new w3 _) ?_ ?_ ?_ ?_); rfl; rfl; rfl; rfl; kernel_rfl; rfl; kernel_rfl; rw [alloc_setRow]) | fail)
  have k6 := HXR.out.cell 6 _ c6
  have f1 := HR.out.frozen 1
  generalize hV : w3.alloc (.cells #[.int .i64 0, .int .i64 (T.length : Int), .slice pa (memX T s).dt.length qa, .int .i64 (memX T s).st, .slice pt (memX T s).tk.length qt, .slice pu (memX T s).hd.length qu, .slice pc (memX T s).cs.length qc] 50) = V at *
  clear hV
  have hwX : IntKind.i64.wrap ((R : Int) - (Q : Int)) = (R : Int) - (Q : Int) := by rw [IntKind.wrap_i64]; omega
  refine wp_region_held_drew (S := (fun z => Hid (RowA z w1.heap.size 86 X) ∧ z.cell? ⟨w1.heap.size, 6, none⟩ = some (.int .i64 (Q : Int)) ∧ z.frozen? ⟨w3.heap.size, 1, none⟩ = false)) (by kernel_rfl) ⟨Hid.mk' HXR.out.drew, k6, f1⟩ (fun hHeld => ?_)
  refine wpAnyH_take (i := 0) (oi := ⟨_, _, _, _, _, _⟩) (v := ?_) rfl (by kernel_rfl) (by kernel_rfl) (by kernel_rfl) (fun _ _ _ h => h) (Or.inl ⟨by rfl, ?_⟩) (by assumption) ?_
  rotate_left
  ·(intro w' hSw; refine RowA.exec hSw.1.out (.tmp 9) ?_ ?_ _ Tryz.underlying86 ?_ ?_; rfl; rfl; rfl; (rw [X2]; kernel_rfl))
  try simp only [Act.put, zA, zB, zC]
  refine tkY 2 ?_
  refine tkY 3 ?_
  refine tkY 4 ?_
  refine wpAnyH_ready (rs := [1]) (by kernel_rfl) (by simp) ?_
  refine AllReadyH.cons (o := ⟨_, _, _, _, _, _⟩) rfl (fun K9 hK => ?_) AllReadyH.nil
  go_simp
  refine (KM.out _ (Below.refl _ _).drew).mono ?_
  rintro e4 w4 ⟨rfl, hb4⟩
  replace hb4 := undrew hb4
  have HXR := Hid.mk' (HXR.out.below hb4)
  have HZ := Hid.mk' (HZ.out.below hb4)
  have B1 := Hid.mk' (B1.out.trans (hb4.mono B1.out.size))
  have HR := Hid.mk' (HR.out.below hb4)
  have GM4 := Hid.mk' (GM3.out.below hb4)
  have KR4 := Hid.mk' (RowA.setBelow (Below.refl w3.heap.size w4) (Nat.le_refl _) 1 (.int .i64 ((R : Int) - (Q : Int))))
  have S34 := Hid.mk' hb4.size
  clear hb4 GM3 KM k6 f1
  have k6 := HXR.out.cell 6 _ c6
  have f1 := HR.out.frozen 1
  have k1 := HR.out.cell 1 _ rfl
  refine hK.out _ _ ⟨HXR, k6, f1⟩ (fun hHeld => ?_)
  clear hK K9
  try simp only [Act.put, zA, zB, zC]
  refine tkY 5 ?_
  refine tkY 6 ?_
  refine wpAnyH_ready (rs := [7]) (by kernel_rfl) (by simp) ?_
  refine AllReadyH.cons (o := ⟨_, _, _, _, _, _⟩) rfl (fun K9 hK => ?_) AllReadyH.nil
  go_simp
  have S5 : Hid (w1.heap.size < w3.heap.size) := S13
  have hx6 : RowA (w4.setCell ⟨w3.heap.size, 1, none⟩ (.int .i64 ((R : Int) - (Q : Int)))) w1.heap.size 86 X := HXR.out.other (by have := S5.out; simp; omega) _
  have HR5 : Hid (RowA (w4.setCell ⟨w3.heap.size, 1, none⟩ (.int .i64 ((R : Int) - (Q : Int)))) w3.heap.size 50 #[.int .i64 0, .int .i64 ((R : Int) - (Q : Int)), .slice pa (memX T s).dt.length qa, .int .i64 (memX T s).st, .slice pt (memX T s).tk.length qt, .slice pu (memX T s).hd.length qu, .slice pc (memX T s).cs.length qc]) := Hid.mk' (HR.out.set 1 _)
  refine hK.out _ _ ⟨Hid.mk' hx6, hx6.cell 6 _ c6, HR5.out.frozen 1⟩ (fun hHeld => ?_)
  clear hK K9
  try simp only [Act.put, zA, zB, zC]
  refine wpAnyH_done (by kernel_rfl) ?_ _
  have wz : w.heap.size + 1 < w1.heap.size := S01.out
  have HZ5 : Hid (RowA (w4.setCell ⟨w3.heap.size, 1, none⟩ (.int .i64 ((R : Int) - (Q : Int)))) (w.heap.size + 1) 50 #[.int .i64 0, .int .i64 0, .slice none 0 0, .int .i64 0, .slice none 0 0, .slice none 0 0, .slice none 0 0]) := Hid.mk' (HZ.out.other (by have := S5.out; simp; omega) _)
  have B5 := Hid.mk' (RowA.setBelow B1.out (g := w3.heap.size) (by have := S5.out; omega) 1 (.int .i64 ((R : Int) - (Q : Int))))
  have GM5 := Hid.mk' (GM4.out.keepIn (w' := w4.setCell ⟨w3.heap.size, 1, none⟩ (.int .i64 ((R : Int) - (Q : Int)))) KR4.out.size (fun q h1 h2 => KR4.out.block q h2))
  clear hHeld hx6 k6 f1 k1 HXR HZ B1 HR GM4 KR4
  generalize hw5 : w4.setCell ⟨w3.heap.size, 1, none⟩ (.int .i64 ((R : Int) - (Q : Int))) = w5 at *
  clear hw5
  have HZ6 := Hid.mk' (HZ5.out.put #[.int .i64 0, .int .i64 ((R : Int) - (Q : Int)), .slice pa (memX T s).dt.length qa, .int .i64 (memX T s).st, .slice pt (memX T s).tk.length qt, .slice pu (memX T s).hd.length qu, .slice pc (memX T s).cs.length qc])
  have B6 := Hid.mk' (RowA.putBelow B5.out (Nat.le_succ w.heap.size) #[.int .i64 0, .int .i64 ((R : Int) - (Q : Int)), .slice pa (memX T s).dt.length qa, .int .i64 (memX T s).st, .slice pt (memX T s).tk.length qt, .slice pu (memX T s).hd.length qu, .slice pc (memX T s).cs.length qc])
  have GM6 := Hid.mk' (GM5.out.keepIn (w' := w5.setRow (w.heap.size + 1) #[.int .i64 0, .int .i64 ((R : Int) - (Q : Int)), .slice pa (memX T s).dt.length qa, .int .i64 (memX T s).st, .slice pt (memX T s).tk.length qt, .slice pu (memX T s).hd.length qu, .slice pc (memX T s).cs.length qc]) (by rw [setRow_size]; exact Nat.le_refl _) (fun q h1 h2 => setRow_other _ _ _ _ (by have := S12.out; omega)))
  go_wp2_with (first | ((with_reducible refine wpList_load_row ?_ 50 (.tmp 11) ?_ w3.heap.size ?_ 50 #[.int .i64 0, .int .i64 ((R : Int) - (Q : Int)), .slice pa (memX T s).dt.length qa, .int .i64 (memX T s).st, .slice pt (memX T s).tk.length qt, .slice pu (memX T s).hd.length qu, .slice pc (memX T s).cs.length qc] (0, 0) _ ?_ Tryz.underlying50 ?_ ?_ ?_); rfl; rfl; rfl; exact HR5.out; rfl; kernel_rfl) | ((with_reducible refine wpList_store_row ?_ 50 (.tmp 8) (.tmp 37) ?_ (w.heap.size + 1) #[.int .i64 0, .int .i64 ((R : Int) - (Q : Int)), .slice pa (memX T s).dt.length qa, .int .i64 (memX T s).st, .slice pt (memX T s).tk.length qt, .slice pu (memX T s).hd.length qu, .slice pc (memX T s).cs.length qc] ?_ ?_ 50 #[.int .i64 0, .int .i64 0, .slice none 0 0, .int .i64 0, .slice none 0 0, .slice none 0 0, .slice none 0 0] ?_ ?_ ?_ ?_ ?_); rfl; rfl; rfl; rfl; exact HZ5.out; kernel_rfl; rfl; kernel_rfl) | fail)
  refine bodyPost_ret (v := .agg #[.int .i64 0, .int .i64 ((R : Int) - (Q : Int)), .slice pa (memX T s).dt.length qa, .int .i64 (memX T s).st, .slice pt (memX T s).tk.length qt, .slice pu (memX T s).hd.length qu, .slice pc (memX T s).cs.length qc]) ?_ ?_ ?_
  ·exact results_cell1 Tryz.results23 _ _ _ ⟨w.heap.size + 1, 0, none⟩ _ rfl (HZ6.out.load _ Tryz.underlying50 rfl (by kernel_rfl))
  ·rfl
  rw [EM.out, EV.out, EC.out]
  exact ⟨tau, _, _, _, _, us3, rs3, bl3, bh3, hvs3, rfl, GM6.out.mono (by have := S12.out; omega) (by rw [setRow_size]; exact Nat.le_of_lt HR5.out.lt), B6.out⟩
theorem l13TailZ (g : Nat) (m : ME) (a u : Option Addr) (b9 o9 ca cu cc s o n : Nat) (w : World) (hp : P1 g m a none u (some ⟨b9, o9, none⟩) ca 0 cu cc w) (htk : m.tk = []) (hst : m.st = (s : Int)) (hs : 1 ≤ s) (hs2 : s ≤ 60) (hcl : m.cs.length = m.dt.length / s + 1) (ho : o ≤ m.dt.length) (hd : m.dt.length ≤ 240) (hn : (ckK m.cs (o / s)).ct = (n : Int)) (hnl : n ≤ m.tk.length) (hl : (m.tk.length : Int) + tssz m.tk ≤ 1048576) :
  Calls Tryz.prog 92 #[.pointer (some ⟨g, 0, none⟩), .int .i64 (o : Int)] w fun e w' => ∃ v us, e = .returned v ∧ TokS w.heap.size w' v (m.tk.drop n) us ∧ Below w.heap.size w w' := by
 obtain ⟨x0, x1, x2, x3, x4, x5⟩ := cells5 hp.r
 rw [hst] at x1
 have ht0 : m.tk.length = 0 := by rw [htk]; rfl
 rw [ht0] at x2
 have hn0 : n = 0 := by omega
 subst hn0
 have hKJ : o / s < m.cs.length := by rw [hcl]; exact Nat.lt_succ_of_le (Nat.div_le_div_right ho)
 have hq0 : (o : Int) / (s : Int) = ((o / s : Nat) : Int) := by simp
 have hq1 : o / s ≤ o := Nat.div_le_self _ _
 rcases hp.m1.2.2.2 with hnil | ⟨b8, o8, e8, hbs9, hc9⟩
 ·rw [hnil] at hKJ; simp at hKJ
 cases e8
 obtain ⟨p1, p2_, -⟩ := hc9 (o / s) hKJ
 rw [hn] at p2_
 have hz0 : (((0 : Nat) : Int)) = 0 := rfl
 rw [hz0] at p2_
 have hs0 : ¬ s = 0 := by omega
 have KC : ∀ V, Below w.heap.size w V → Calls Tryz.prog 67 #[.slice none 0 0] V fun e w' => ∃ v us, e = .returned v ∧ TokS V.heap.size w' v (m.tk.drop 0) us ∧ Below V.heap.size V w' := fun V hV => by
  rw [htk]
  exact l4Copy_any none 0 [] V (.inl rfl) (by simp [tssz])
 obtain ⟨K, hK⟩ : ∃ K, o / s = K := ⟨_, rfl⟩
 rw [hK] at hKJ hq0 hq1 p2_
 have hwK : IntKind.i64.wrap (K : Int) = (K : Int) := by rw [IntKind.wrap_i64]; omega
 have ck : (K : Int) < (m.cs.length : Int) := by omega
 clear hp hc9 p1 hK hcl hn ht0
 have KC := Hid.mk' KC
 go_enter Tryz.func92, Tryz.ntmps92
 go_wp2
 refine wp_region_held_drew (S := (fun v => v.cell? ⟨g, 1, none⟩ = some (.int .i64 (s : Int)) ∧ v.cell? ⟨g, 2, none⟩ = some (.slice none 0 0) ∧ v.cell? ⟨g, 4, none⟩ = some (.slice (some ⟨b9, o9, none⟩) m.cs.length cc) ∧ v.cell? ⟨b9, o9 + K * 3 + 1, none⟩ = some (.int .i64 0))) (by kernel_rfl) ⟨x1, x2, x4, p2_⟩ (fun hHeld => ?_)
 refine tkY 0 ?_
 refine tkY 1 ?_
 refine tkY 2 ?_
 refine tkY 3 ?_
 refine tkY 4 ?_
 refine tkY 5 ?_
 refine tkY 6 ?_
 refine tkY 7 ?_
 refine tkY 8 ?_
 refine tkY 9 ?_
 refine tkY 10 ?_
 refine tkY 11 ?_
 refine tkY 12 ?_
 refine tkY 13 ?_
 refine tkY 14 ?_
 refine tkY 15 ?_
 refine tkY 16 ?_
 refine tkY 17 ?_
 refine wpAnyH_ready (rs := [18]) (by kernel_rfl) (by simp) ?_
 refine AllReadyH.cons (o := ⟨_, _, _, _, _, _⟩) rfl (fun K hK => ?_) AllReadyH.nil
 go_simp
 refine (KC.out _ (Below.refl _ _).drew).mono ?_
 rintro e w1 ⟨v, us, rfl, tk1, hb1⟩
 replace hb1 := undrew hb1
 refine hK.out _ _ ⟨(hb1.cell x5).trans x1, (hb1.cell x5).trans x2, (hb1.cell x5).trans x4, (hb1.cell hbs9).trans p2_⟩ (fun hHeld => ?_)
 clear hK K
 try simp only [Act.put, zA, zB, zC]
 refine tkY 19 ?_
 refine wpAnyH_done (by kernel_rfl) ?_ _
 have T1 := Hid.mk' tk1
 have B1 := Hid.mk' hb1
 clear tk1 hb1 hHeld
 go_wp2
 go_ret
 exact ⟨_, us, rfl, T1.out, B1.out⟩

end Go.Proofs.YtieeojhdidjnaaaGreatDoor
