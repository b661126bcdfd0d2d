/- Ways: the places that a place is in, the outermost first. -/
import Derived.WalkKit
import Derived.Test.YtlimgcmhidooaaaGreatDoorM2
import Derived.Test.YtlimgcmhidooaaaGreatDoorM14
import Derived.Test.YtlimgcmhidooaaaGreatDoorM17
import Derived.Test.YtlimgcmhidooaaaGreatDoorM26
import Derived.Test.YtlimgcmhidooaaaGreatDoorM22
import Derived.Test.YtlimgcmhidooaaaGreatDoorM28
import Derived.Test.YtlimgcmhidooaaaGreatDoorM30
import Derived.Test.YtlimgcmhidooaaaGreatDoorM27
import Derived.Test.YtlimgcmhidooaaaGreatDoorM15
import Derived.Test.YtlimgcmhidooaaaGreatDoorM9
import Derived.Test.YtlimgcmhidooaaaGreatDoorM3
import Derived.Test.YtlimgcmhidooaaaGreatDoorM16
set_option maxHeartbeats 6400000
set_option maxRecDepth 100000
set_option linter.unusedVariables false
set_option linter.unusedSimpArgs false
namespace Go.Proofs.YtlimgcmhidooaaaGreatDoor

end Go.Proofs.YtlimgcmhidooaaaGreatDoor

namespace Go.Proofs.YtlimgcmhidooaaaGreatDoor
open Go.RowKit
theorem rowT_cell {lo g cap : Nat} {w : World} {ts : List TK} {us : List Value} (hl : us.length = ts.length) (h : w.ownsRow lo 107 5 (.slice (some ⟨g, 0, none⟩) ts.length cap) ts.length (tcs ts us)) {n i : Nat} (hn : n < ts.length) (hi : i < 5) : w.cell? ⟨g, n * 5 + i, none⟩ = ([.int .i64 (tkK ts n).kd, .int .i64 (tkK ts n).by_, .string (tkK ts n).nm, us.getD n undef, .bool (tkK ts n).sh] : List Value)[i]? ∧ w.frozen? ⟨g, n * 5 + i, none⟩ = false := by
 rcases h.2 with ⟨h0, _⟩ | ⟨g', cap', cur, hv, hg, hh, hc, hm, hs', ht⟩
 ·cases h0
 ·cases hv
  refine ⟨?_, Lib.frozen_of_heap hh _⟩
  rw [Lib.cell_of_heap hh, ← tcs_get ts us n i hl hn hi, ← ht, List.getElem?_take_of_lt (by omega)]
  simp
def TFree (v : Value) (n : Nat) (bl bh : Nat → Nat) (k : Nat) : Prop := v.ownBlock ≠ some k ∧ ∀ j, j < n → ¬ (bl j ≤ k ∧ k < bh j)
theorem row_tsAt {w : World} {lo : Nat} {v : Value} {ts : List TK} {us : List Value} (hl : us.length = ts.length) (h : w.ownsRow lo 107 5 v ts.length (tcs ts us)) (ha : ∀ j, j < ts.length → ∃ p c, us.getD j undef = .slice p (tkK ts j).at_.length c ∧ AAt w p (tkK ts j).at_) : ∃ a c, v = .slice a ts.length c ∧ TsAt w a ts := by
 by_cases h0 : ts = []
 ·subst h0
  obtain ⟨a, c, e, _⟩ := own_src h
  exact ⟨a, c, e, .inl rfl⟩
 ·have hp : 0 < ts.length := List.length_pos_iff.2 h0
  rcases h.2 with ⟨rfl, h9⟩ | ⟨g, cap, cur, rfl, hg, hh, hc, hm, hs, ht⟩
  ·omega
  ·have glt : g < w.heap.size := Nat.lt_of_not_le fun hn => by rw [Array.getElem?_eq_none hn] at hh; cases hh
   refine ⟨_, _, rfl, .inr ⟨g, 0, rfl, glt, fun k hk => ?_⟩⟩
   have cc := fun i hi => (rowT_cell hl h hk (i := i) hi).1
   obtain ⟨p, c, e, haa⟩ := ha k hk
   simp only [Nat.zero_add]
   refine ⟨cc 0 (by omega), cc 1 (by omega), cc 2 (by omega), ⟨p, c, ?_, haa⟩, cc 4 (by omega)⟩
   rw [cc 3 (by omega), ← e]; rfl
theorem TP.tsAt {lo : Nat} {w : World} {tv : Value} {ts : List TK} {us : List Value} {rs : Nat → List Value} {bl bh : Nat → Nat} (h : TP lo w tv ts us rs bl bh) : ∃ a c, tv = .slice a ts.length c ∧ TsAt w a ts :=
 row_tsAt h.ta.len h.row (fun j hj => (h.ta.att j hj).at)
theorem TokS.tsAt {base : Nat} {w : World} {v : Value} {ts : List TK} {us : List Value} (h : TokS base w v ts us) : ∃ a c, v = .slice a ts.length c ∧ TsAt w a ts :=
 row_tsAt h.len h.row (fun j hj => by
  have h1 : ts[j]? = some (tkK ts j) := by simp [tkK, List.getD_eq_getElem?_getD, hj]
  have h2 : us[j]? = some (us.getD j undef) := by simp [List.getD_eq_getElem?_getD, h.len, hj]
  obtain ⟨rs, ho⟩ := (h.all j _ _ h1 h2).held
  exact ho.at)
def cvF (l : List CK) (hvs : Nat → Value) (i : Nat) : Value := if i % 3 = 0 then .int .i64 (ckK l (i / 3)).pl else if i % 3 = 1 then .int .i64 (ckK l (i / 3)).ct else hvs (i / 3)
theorem cvF0 (l : List CK) (hvs : Nat → Value) (k : Nat) : cvF l hvs (k * 3) = .int .i64 (ckK l k).pl := by unfold cvF; rw [if_pos (by omega), show k * 3 / 3 = k by omega]
theorem cvF1 (l : List CK) (hvs : Nat → Value) (k : Nat) : cvF l hvs (k * 3 + 1) = .int .i64 (ckK l k).ct := by unfold cvF; rw [if_neg (by omega), if_pos (by omega), show (k * 3 + 1) / 3 = k by omega]
theorem cvF2 (l : List CK) (hvs : Nat → Value) (k : Nat) : cvF l hvs (k * 3 + 2) = hvs k := by unfold cvF; rw [if_neg (by omega), if_neg (by omega), show (k * 3 + 2) / 3 = k by omega]
def OC (w : World) (v : Value) (l : List CK) (hvs : Nat → Value) : Prop := (v = .slice none 0 0 ∧ l = []) ∨
 ∃ g, v = .slice (some ⟨g, 0, none⟩) l.length l.length ∧ w.rowIs g 31 (l.length * 3) (cvF l hvs)
theorem OC.keep {w w' : World} {v : Value} {l : List CK} {hvs : Nat → Value} (h : OC w v l hvs) (hk : ∀ q, v.ownBlock = some q → q < w.heap.size → w'.heap[q]? = w.heap[q]?) : OC w' v l hvs := by
 rcases h with h | ⟨g, rfl, hr⟩
 ·exact .inl h
 ·exact .inr ⟨g, rfl, hr.of_block (hk g rfl hr.lt)⟩
theorem OC.at {w : World} {v : Value} {l : List CK} {hvs : Nat → Value} (h : OC w v l hvs) (ho : ∀ k, k < l.length → OB w (hvs k) (ckK l k).hd) : ∃ a c, v = .slice a l.length c ∧ CsAt w a l := by
 rcases h with ⟨rfl, rfl⟩ | ⟨g, rfl, hr⟩
 ·exact ⟨none, 0, rfl, .inl rfl⟩
 ·refine ⟨_, _, rfl, .inr ⟨g, 0, rfl, hr.lt, fun k hk => ?_⟩⟩
  obtain ⟨p, c, e, hb⟩ := (ho k hk).len
  simp only [Nat.zero_add]
  exact ⟨by rw [hr.cell (by omega), cvF0], by rw [hr.cell (by omega), cvF1], p, c, by rw [hr.cell (by omega), cvF2, e], hb⟩
structure GM (lo hi : Nat) (tau : Nat → Nat) (m : ME) (vd tv hv cv : Value) (us : List Value) (rs : Nat → List Value) (bl bh : Nat → Nat) (hvs : Nat → Value) (w : World) : Prop where
 d : OB w vd m.dt
 t : TP lo w tv m.tk us rs bl bh
 h : OB w hv m.hd
 c : OC w cv m.cs hvs
 k : ∀ i, i < m.cs.length → OB w (hvs i) (ckK m.cs i).hd
 ld : ∀ q, vd.ownBlock = some q → tau q = 0 ∧ lo ≤ q ∧ q < hi
 lt : ∀ q, ¬ TFree tv m.tk.length bl bh q → tau q = 1 ∧ lo ≤ q ∧ q < hi
 lh : ∀ q, hv.ownBlock = some q → tau q = 2 ∧ lo ≤ q ∧ q < hi
 lc : ∀ q, cv.ownBlock = some q → tau q = 3 ∧ lo ≤ q ∧ q < hi
 lk : ∀ i, i < m.cs.length → ∀ q, (hvs i).ownBlock = some q → tau q = 4 + i ∧ lo ≤ q ∧ q < hi
theorem TP.keepF {lo : Nat} {w w' : World} {tv : Value} {ts : List TK} {us : List Value} {rs : Nat → List Value} {bl bh : Nat → Nat} (h : TP lo w tv ts us rs bl bh) (hs : w.heap.size ≤ w'.heap.size) (hk : ∀ q, ¬ TFree tv ts.length bl bh q → q < w.heap.size → w'.heap[q]? = w.heap[q]?) : TP lo w' tv ts us rs bl bh :=
 ⟨own_of h.row (Nat.le_refl _) (fun k e hl => hk k (fun f => f.1 e) (h.row.lt k e).2), (h.ta.keep (fun j hj k h1 h2 h3 => hk k (fun f => f.2 j hj ⟨h1, h2⟩) h3)).widen (Nat.le_refl _) hs, h.vt⟩
theorem GM.below {lo hi : Nat} {tau : Nat → Nat} {m : ME} {vd tv hv cv : Value} {us : List Value} {rs : Nat → List Value} {bl bh : Nat → Nat} {hvs : Nat → Value} {w w' : World} (x : GM lo hi tau m vd tv hv cv us rs bl bh hvs w) (hb : Below w.heap.size w w') : GM lo hi tau m vd tv hv cv us rs bl bh hvs w' :=
 ⟨x.d.below hb, x.t.below hb, x.h.below hb, x.c.keep (fun q _ h => hb.block q h), fun i hi => (x.k i hi).below hb, x.ld, x.lt, x.lh, x.lc, x.lk⟩
theorem GM.at {lo hi : Nat} {tau : Nat → Nat} {m : ME} {vd tv hv cv : Value} {us : List Value} {rs : Nat → List Value} {bl bh : Nat → Nat} {hvs : Nat → Value} {w : World} (x : GM lo hi tau m vd tv hv cv us rs bl bh hvs w) : ∃ a t u c ca ct cu cc, vd = .slice a m.dt.length ca ∧ tv = .slice t m.tk.length ct ∧ hv = .slice u m.hd.length cu ∧ cv = .slice c m.cs.length cc ∧ MAt w a t u c m := by
 obtain ⟨a, ca, e1, h1⟩ := x.d.len
 obtain ⟨t, ct, e2, h2⟩ := x.t.tsAt
 obtain ⟨u, cu, e3, h3⟩ := x.h.len
 obtain ⟨c, cc, e4, h4⟩ := x.c.at x.k
 exact ⟨a, t, u, c, ca, ct, cu, cc, e1, e2, e3, e4, h1, h2, h3, h4⟩
def m0 : ME := ⟨[], 0, [], [], []⟩
def rM (d : List Int) (st : Int) : ME := if askC d st = 0 then memX d st.toNat else m0
def rR (d : List Int) (st : Int) : Int := if askC d st = 0 then (d.length : Int) else 0
theorem GM.none (lo hi : Nat) (w : World) : GM lo hi (fun _ => 0) m0 (.slice none 0 0) (.slice none 0 0) (.slice none 0 0) (.slice none 0 0) [] (fun _ => []) (fun _ => 0) (fun _ => 0) (fun _ => undef) w :=
 ⟨OB.none _, ⟨⟨rfl, .inl ⟨rfl, rfl⟩⟩, TA.nil _ _ _, fun j h => absurd h (Nat.not_lt_zero _)⟩, OB.none _, .inl ⟨rfl, rfl⟩, fun i h => absurd h (Nat.not_lt_zero _),
  fun q h => by simp [Value.ownBlock] at h, fun q h => absurd ⟨by simp [Value.ownBlock], fun j h => absurd h (Nat.not_lt_zero _)⟩ h, fun q h => by simp [Value.ownBlock] at h, fun q h => by simp [Value.ownBlock] at h, fun i h => absurd h (Nat.not_lt_zero _)⟩

open Classical in
noncomputable def tauM (gd gc J : Nat) (hvs : Nat → Value) (q : Nat) : Nat :=
 if q = gd then 0 else if q = gc then 3 else if (hvs J).ownBlock = some q then 2 else if h : ∃ i, i < J ∧ (hvs i).ownBlock = some q then 4 + Classical.choose h else 1
theorem NM.gm {base : Nat} {d : List Int} {s : Nat} {gd gc : Nat} {tv : Value} {hvs : Nat → Value} {us : List Value} {rs : Nat → List Value} {bl bh : Nat → Nat} {w : World} (x : NM base d s gd gc tv hvs us rs bl bh w) (hs : 1 ≤ s) :
  GM base w.heap.size (tauM gd gc (d.length / s + 1) hvs) (memX d s) (.slice (some ⟨gd, 0, none⟩) d.length d.length) tv (hvs (d.length / s + 1)) (.slice (some ⟨gc, 0, none⟩) (d.length / s + 1) (d.length / s + 1)) us rs bl bh hvs w := by
 obtain ⟨v, hv, xv⟩ := x.v1
 have et : tkN d s (d.length / s + 1) = (memX d s).tk := by show (allX [] [] (d.take ((d.length / s + 1) * s))).1 = _; rw [takeM_all d s hs]; rfl
 have eh : hdN d s (d.length / s + 1) = (memX d s).hd := by show (allX [] [] (d.take ((d.length / s + 1) * s))).2 = _; rw [takeM_all d s hs]; rfl
 have ec : (memX d s).cs = cksN d s (d.length / s + 1) := rfl
 have el : (memX d s).cs.length = d.length / s + 1 := by rw [ec, cksN_len]
 have o1 := x.o1
 have o2 := x.o2
 have lc := x.ck.lt
 have hb : ∀ i, i ≤ d.length / s + 1 → ∀ q, (hvs i).ownBlock = some q → base ≤ q ∧ q < gd := fun i hi q e => by
  have := (xv.own i hi).lt q e
  omega
 have tb : ∀ q, ¬ TFree tv (memX d s).tk.length bl bh q → base ≤ q ∧ q < gd ∧ ∀ i, i ≤ d.length / s + 1 → (hvs i).ownBlock ≠ some q := fun q f => by
  by_cases e : tv.ownBlock = some q
  ·have := xv.tp.row.lt q e
   exact ⟨this.1, by omega, fun i hi e' => xv.at_ i hi q e' e⟩
  ·have : ∃ j, j < (memX d s).tk.length ∧ bl j ≤ q ∧ q < bh j := Classical.byContradiction fun g => f ⟨e, fun j hj h => g ⟨j, hj, h⟩⟩
   obtain ⟨j, hj, h1, h2⟩ := this
   rw [← et] at hj
   have := xv.tp.ta.low j hj
   have := xv.tp.ta.top j hj
   exact ⟨by omega, by omega, fun i hi e' => by have := xv.av i hi j hj q e'; omega⟩
 refine ⟨ob_of_row rfl x.dt, by rw [← et]; exact x.rx.tp, ?_, .inr ⟨gc, by rw [el], ?_⟩, fun i hi => ?_, fun q e => ?_, fun q f => ?_, fun q e => ?_, fun q e => ?_, fun i hi q e => ?_⟩
 ·rw [← eh]; exact (OB.of_own (x.rx.own _ (Nat.le_refl _))).1
 ·rw [el]
  refine x.ck.congr (fun i hi => ?_)
  unfold ckV cvF
  rw [if_pos (by omega), ec, cksN_at d s _ _ (by omega)]
  by_cases h0 : i % 3 = 0
  ·rw [h0]; rfl
  ·by_cases h1 : i % 3 = 1
   ·rw [h1]; rfl
   ·rw [if_neg h0, if_neg h1, show i % 3 = 2 by omega]; rfl
 ·rw [el] at hi
  rw [ec, cksN_at d s _ _ hi]
  exact (OB.of_own (x.rx.own i (by omega))).1
 ·simp [Value.ownBlock] at e
  subst e
  exact ⟨by unfold tauM; rw [if_pos rfl], o1, x.dt.lt⟩
 ·obtain ⟨h1, h2, h3⟩ := tb q f
  refine ⟨?_, h1, by have := x.dt.lt; omega⟩
  unfold tauM
  rw [if_neg (by omega), if_neg (by omega), if_neg (h3 _ (Nat.le_refl _)), dif_neg (fun ⟨i, hi, e⟩ => h3 i (by omega) e)]
 ·have := hb _ (Nat.le_refl _) q e
  refine ⟨?_, this.1, by have := x.dt.lt; omega⟩
  unfold tauM
  rw [if_neg (by omega), if_neg (by omega), if_pos e]
 ·simp [Value.ownBlock] at e
  subst e
  exact ⟨by unfold tauM; rw [if_neg (by omega), if_pos rfl], by omega, lc⟩
 ·rw [el] at hi
  have := hb i (by omega) q e
  refine ⟨?_, this.1, by have := x.dt.lt; omega⟩
  unfold tauM
  have hex : ∃ i, i < d.length / s + 1 ∧ (hvs i).ownBlock = some q := ⟨i, hi, e⟩
  rw [if_neg (by omega), if_neg (by omega), if_neg (fun e' => xv.ap i _ hi (Nat.le_refl _) q e e'), dif_pos hex]
  have hc := Classical.choose_spec hex
  have : Classical.choose hex = i := Classical.byContradiction fun hne => by
   rcases Nat.lt_or_gt_of_ne hne with g | g
   ·exact xv.ap _ _ g (by omega) q hc.2 e
   ·exact xv.ap _ _ g (by omega) q e hc.2
  rw [this]
theorem implNM_gm (tp : TypeId) (pv : Value) (d : List Int) (st : Int) (ad : Option Addr) (cd : Nat) (w : World) (hE : Env w.heap.size tp pv w) (hd : BAt w ad d) (hcd : d.length ≤ cd) (hu : Byt d) (hl : (d.length : Int) ≤ 9223372036854775807) :
  Calls Tryz.prog 25 #[.slice ad d.length cd, .int .i64 st] w fun e w' => ∃ tau vd tv hv cv us rs bl bh hvs, e = .returned (.agg #[.int .i64 (askC d st), .int .i64 (rR d st), vd, .int .i64 (rM d st).st, tv, hv, cv]) ∧ GM w.heap.size w'.heap.size tau (rM d st) vd tv hv cv us rs bl bh hvs w' ∧ Below w.heap.size w w' := by
 refine (implNM_any tp pv d st ad cd w hE hd hcd hu hl).mono ?_
 rintro e w' (⟨h1, rfl, hb⟩ | ⟨h1, h2, rfl, hb⟩ | ⟨h1, s, rfl, hs, hs2, gd, gc, tv, hvs, us, rs, bl, bh, rfl, hx, hb⟩)
 ·have e6 : askC d st = 6 := askC_large h1
  have er : rM d st = m0 := by unfold rM; rw [if_neg (by omega)]
  have ev : rR d st = 0 := by unfold rR; rw [if_neg (by omega)]
  exact ⟨_, _, _, _, _, _, _, _, _, _, by rw [e6, er, ev]; rfl, by rw [er]; exact GM.none _ _ _, hb⟩
 ·have e3 : askC d st = 3 := askC_range h1 h2
  have er : rM d st = m0 := by unfold rM; rw [if_neg (by omega)]
  have ev : rR d st = 0 := by unfold rR; rw [if_neg (by omega)]
  exact ⟨_, _, _, _, _, _, _, _, _, _, by rw [e3, er, ev]; rfl, by rw [er]; exact GM.none _ _ _, hb⟩
 ·have e0 : askC d (s : Int) = 0 := askC_good h1 hs hs2
  have er : rM d (s : Int) = memX d s := by unfold rM; rw [if_pos e0]; rfl
  have ev : rR d (s : Int) = d.length := by unfold rR; rw [if_pos e0]
  refine ⟨_, _, _, _, _, _, _, _, _, _, by rw [e0, er, ev]; rfl, by rw [er]; exact (hx.down (Nat.le_succ _)).gm hs, hb⟩
theorem results_cell1 {fn : Func} {p : Tmp} {t1 : TypeId} (h : fn.results = #[.cell p t1]) (tmps : Array Value) (P : Program) (w : World) (g : Addr) (v : Value) (hp : tmps.getD p undef = .pointer (some g)) (hl : (loadVar t1 g).run P w = .ok v w) :
  (results fn tmps).run P w = .ok v w := by
 have e : (results fn tmps).run P w = ((asAddr (tmps.getD p undef)).run P w).andThen fun a w₁ => (loadVar t1 a).run P w₁ := by
  simp only [results, h]
  simp [Sem.run_bind, Result.andThen]
 rw [e, hp]
 simp [asAddr, Result.andThen, hl]
def eM (m : ME) (A N : Int) (p : List Int) : ME := if edC m A N p = 0 then memX (spl m.dt A.toNat N.toNat p) m.st.toNat else m0
def eR (m : ME) (A N : Int) (p : List Int) : Int := if edC m A N p = 0 then mtV m A N p - ((A.toNat / m.st.toNat * m.st.toNat : Nat) : Int) else 0
theorem cell_setRow (w : World) (g : Nat) (cs : Array Value) {p : Addr} (h : p.block ≠ g) : (w.setRow g cs).cell? p = w.cell? p := by
 unfold World.cell?
 rw [setRow_other w g p.block cs h]
theorem boxesM (w : World) (x0 x1 x2 x3 x4 : Value) :
  let W := (w.alloc (.cells #[x0, x1, x2, x3, x4] 27)).alloc (.cells #[.int .i64 0, .int .i64 0, .slice none 0 0, .int .i64 0, .slice none 0 0, .slice none 0 0, .slice none 0 0] 50)
  Below w.heap.size w W ∧ W.rowIs w.heap.size 27 5 (r5 x0 x1 x2 x3 x4) ∧ RowA W (w.heap.size + 1) 50 #[.int .i64 0, .int .i64 0, .slice none 0 0, .int .i64 0, .slice none 0 0, .slice none 0 0, .slice none 0 0] := by
 refine ⟨(below_new w _).alloc (by simp) _, (row5 w 27 x0 x1 x2 x3 x4).alloc _, ?_⟩
 have := RowA.new (w.alloc (.cells #[x0, x1, x2, x3, x4] 27)) 50 #[.int .i64 0, .int .i64 0, .slice none 0 0, .int .i64 0, .slice none 0 0, .slice none 0 0, .slice none 0 0]
 rw [show (w.alloc (.cells #[x0, x1, x2, x3, x4] 27)).heap.size = w.heap.size + 1 by simp] at this
 exact this
structure Src (b : Nat) (l : List Int) (k : Nat) (w : World) : Prop where
 row : ∃ a c, w.rowIs b 116 2 (q2 (.slice a l.length c) (.int .i64 k)) ∧ (l = [] ∨ ∃ g o, a = some ⟨g, o, none⟩ ∧ g < b ∧ ∀ i, i < l.length → w.cell? ⟨g, o + i, none⟩ = some (bv l i))
 u8 : ∀ i, i < l.length → 0 ≤ l.getD i 0 ∧ l.getD i 0 ≤ 255
theorem KeptIn.cell {lo hi : Nat} {w w' : World} (h : KeptIn lo hi w w') {p : Addr} (hp : p.block < w.heap.size) (hd : p.block < lo ∨ hi ≤ p.block) : w'.cell? p = w.cell? p :=
 World.cell?_of_block (h.block p.block hp hd)
theorem KeptIn.grown {lo hi : Nat} {w wr w1 : World} {row : Option Nat} (h : KeptIn lo hi w wr) (hg : wr.grownBy w1 row) (hr : ∀ k, row = some k → w.heap.size ≤ k) : KeptIn lo hi w w1 :=
 ⟨hg.os.trans h.os, hg.tape.trans h.tape, hg.output.trans h.output, Nat.le_trans h.size hg.size, fun k hk hc => (hg.block k (Nat.lt_of_lt_of_le hk h.size) (fun e => by have := hr k e.symm; omega)).trans (h.block k hk hc)⟩
theorem Src.lt {b k : Nat} {l : List Int} {w : World} (h : Src b l k w) : b < w.heap.size := by
 obtain ⟨a, c, hr, _⟩ := h.row
 exact hr.lt
theorem Src.kept {b k lo hi : Nat} {l : List Int} {w w' : World} (h : Src b l k w) (hk : KeptIn lo hi w w') (hb : b < lo) : Src b l k w' := by
 have hl := h.lt
 obtain ⟨a, c, hr, hc⟩ := h.row
 refine ⟨⟨a, c, rowK hr hk (.inl hb), ?_⟩, h.u8⟩
 rcases hc with hc | ⟨g, o, e, hg, hc⟩
 ·exact .inl hc
 ·exact .inr ⟨g, o, e, hg, fun i hi' => (hk.cell (p := ⟨g, o + i, none⟩) (show g < _ by omega) (.inl (show g < _ by omega))).trans (hc i hi')⟩
theorem Src.below {b k : Nat} {l : List Int} {w w' : World} (h : Src b l k w) (hb : Below w.heap.size w w') : Src b l k w' :=
 h.kept (lo := w.heap.size) (hi := w.heap.size) (KeptIn.of_below hb) h.lt
theorem Src.step {b k : Nat} {l : List Int} {w : World} (h : Src b l k w) : Src b l (k + 1) (w.setCell ⟨b, 1, none⟩ (.int .i64 (((k + 1 : Nat)) : Int))) := by
 have hl := h.lt
 obtain ⟨a, c, hr, hc⟩ := h.row
 refine ⟨⟨a, c, (hr.set 1 _).congr (fun i hi => ?_), ?_⟩, h.u8⟩
 ·have : i = 0 ∨ i = 1 := by omega
  rcases this with rfl | rfl <;> simp [q2]
 ·rcases hc with hc | ⟨g, o, e, hg, hc⟩
  ·exact .inl hc
  ·refine .inr ⟨g, o, e, hg, fun i hi' => ?_⟩
   have hk : KeptIn b (b + 1) w (w.setCell ⟨b, 1, none⟩ (.int .i64 (((k + 1 : Nat)) : Int))) := (KeptIn.refl _ _ _).setCell (p := ⟨b, 1, none⟩) (Nat.le_refl _) (Nat.lt_succ_self _) _
   exact (hk.cell (p := ⟨g, o + i, none⟩) (show g < _ by omega) (.inl hg)).trans (hc i hi')
theorem kept_at (w : World) (b : Nat) (v : Value) : KeptIn b (b + 1) w (w.setCell ⟨b, 1, none⟩ v) := (KeptIn.refl _ _ _).setCell (p := ⟨b, 1, none⟩) (Nat.le_refl _) (Nat.lt_succ_self _) _
theorem l1Source_any (a : Option Addr) (c : Nat) (l : List Int) (w : World) (ha : BAt w a l) (hu : ∀ i, i < l.length → 0 ≤ l.getD i 0 ∧ l.getD i 0 ≤ 255) :
  Calls Tryz.prog 40 #[.slice a l.length c] w fun e w' => e = .returned (.pointer (some ⟨w.heap.size, 0, none⟩)) ∧ Src w.heap.size l 0 w' ∧ Below w.heap.size w w' := by
 have N := below_new w (.cells #[.slice a l.length c, .int .i64 0] 116)
 have R := rowQ2 w 116 (.slice a l.length c) (.int .i64 0)
 have S : Hid (Src w.heap.size l 0 (w.alloc (.cells #[.slice a l.length c, .int .i64 0] 116))) := ⟨⟨a, c, R, by
  rcases ha.below N with h | ⟨g, o, e, hg, hc⟩
  ·exact .inl h
  ·rcases ha with h | ⟨g', o', e', hg', hc'⟩
   ·exact .inl h
   ·rw [e'] at e; cases e; exact .inr ⟨_, _, e', hg', hc⟩⟩, hu⟩
 have NN := Hid.mk' N
 clear N R ha
 go_enter Tryz.func40, Tryz.ntmps40
 go_wp2
 go_ret
 exact ⟨rfl, S.out, NN.out⟩
theorem l1Next_any (b k : Nat) (l : List Int) (n : Int) (w : World) (h : Src b l k w) (hk : k ≤ 1000000) (hn : 1 ≤ n) (hn2 : n ≤ 1000000000) (hl : (l.length : Int) ≤ 1048576) :
  Calls Tryz.prog 42 #[.pointer (some ⟨b, 0, none⟩), .int .i64 n] w fun e w' => ∃ v : Int, e = .returned (.int .i64 v) ∧ 0 ≤ v ∧ v < n ∧ Src b l (k + 1) w' ∧ KeptIn b (b + 1) w w' := by
 have S1 := Hid.mk' h.step
 have HK := Hid.mk' (kept_at w b (.int .i64 (((k + 1 : Nat)) : Int)))
 have hlt := h.lt
 have u8 := h.u8
 obtain ⟨a, c, hr, hc⟩ := h.row
 obtain ⟨x0, x1, x2⟩ := cellsQ2 hr
 have f1 := hr.frozen 1
 have e1 : ¬ n < 1 := by omega
 have ek : ((k + 1 : Nat) : Int) = (k : Int) + 1 := by omega
 have n0 : ¬ n = 0 := by omega
 rw [ek] at S1 HK
 clear ek
 by_cases c0 : l = []
 ·subst c0
  clear hc u8 hr h
  have r1 := Int.emod_nonneg ((k : Int) * 7) n0
  have r2 := Int.emod_lt_of_pos ((k : Int) * 7) (show 0 < n by omega)
  have ez : (([] : List Int).length : Int) = 0 := rfl
  go_enter Tryz.func42, Tryz.ntmps42
  go_wp2
  go_ret
  exact ⟨_, rfl, r1, r2, S1.out, HK.out⟩
 ·obtain ⟨g, o, rfl, hg, hcell⟩ : ∃ g o, a = some ⟨g, o, none⟩ ∧ g < b ∧ ∀ i, i < l.length → w.cell? ⟨g, o + i, none⟩ = some (bv l i) := by
   rcases hc with hc | hc
   ·exact absurd hc c0
   ·exact hc
  have lp : 0 < l.length := List.length_pos_iff.2 c0
  obtain ⟨L, hL⟩ : ∃ L, l.length = L := ⟨_, rfl⟩
  rw [hL] at lp hcell x0 hl u8
  obtain ⟨i, hi⟩ : ∃ i, k % L = i := ⟨_, rfl⟩
  obtain ⟨d, hd⟩ : ∃ d, k / L = d := ⟨_, rfl⟩
  obtain ⟨j, hj⟩ : ∃ j, (k + 1) % L = j := ⟨_, rfl⟩
  have il : i < L := by rw [← hi]; exact Nat.mod_lt _ lp
  have jl : j < L := by rw [← hj]; exact Nat.mod_lt _ lp
  have dk : d ≤ k := by rw [← hd]; exact Nat.div_le_self _ _
  have gi := hcell i il
  have gj := hcell j jl
  obtain ⟨xi, hxi⟩ : ∃ x, l.getD i 0 = x := ⟨_, rfl⟩
  obtain ⟨xj, hxj⟩ : ∃ x, l.getD j 0 = x := ⟨_, rfl⟩
  have ui := u8 i il
  have uj := u8 j jl
  unfold bv at gi gj
  rw [hxi] at gi ui
  rw [hxj] at gj uj
  have ei : (k : Int) % (L : Int) = (i : Int) := by rw [← hi]; omega
  have ed : (k : Int) / (L : Int) = (d : Int) := by rw [← hd]; omega
  have ej : ((k : Int) + 1) % (L : Int) = (j : Int) := by subst hj; simp
  have L0 : ¬ (L : Int) = 0 := by omega
  have Lb : ((L : Int) == 0) = false := by rw [beq_eq_false_iff_ne]; exact L0
  have bne : ¬ b = g := by omega
  have gne : ¬ g = b := by omega
  clear hi hd hj hxi hxj hcell hc u8 hr h c0
  by_cases c2 : 200 < n
  ·obtain ⟨v, hv⟩ : ∃ v : Int, (xi + (d : Int) * 37) * 251 + xj * 13 + (k : Int) = v := ⟨_, rfl⟩
   have v0 : 0 ≤ v := by omega
   have v1 : v ≤ 100000000000 := by omega
   have r1 := Int.emod_nonneg v n0
   have r2 := Int.emod_lt_of_pos v (show 0 < n by omega)
   go_enter Tryz.func42, Tryz.ntmps42
   go_wp2
   go_region
   go_wp2
   go_region
   go_wp2
   go_ret
   exact ⟨_, rfl, r1, r2, (S1.out.below (Below.refl _ _).drew).below (Below.refl _ _).drew, ⟨HK.out.os, HK.out.tape, HK.out.output, HK.out.size, HK.out.block⟩⟩
  ·obtain ⟨v, hv⟩ : ∃ v : Int, xi + (d : Int) * 37 = v := ⟨_, rfl⟩
   have v0 : 0 ≤ v := by omega
   have v1 : v ≤ 100000000000 := by omega
   have r1 := Int.emod_nonneg v n0
   have r2 := Int.emod_lt_of_pos v (show 0 < n by omega)
   go_enter Tryz.func42, Tryz.ntmps42
   go_wp2
   go_region
   go_wp2
   go_ret
   exact ⟨_, rfl, r1, r2, S1.out.below (Below.refl _ _).drew, ⟨HK.out.os, HK.out.tape, HK.out.output, HK.out.size, HK.out.block⟩⟩
theorem l1Chance_any (b k : Nat) (l : List Int) (n : Int) (w : World) (h : Src b l k w) (hk : k ≤ 1000000) (hn : 1 ≤ n) (hn2 : n ≤ 1000000000) (hl : (l.length : Int) ≤ 1048576) :
  Calls Tryz.prog 45 #[.pointer (some ⟨b, 0, none⟩), .int .i64 n] w fun e w' => ∃ v : Bool, e = .returned (.bool v) ∧ Src b l (k + 1) w' ∧ KeptIn b (b + 1) w w' := by
 have K := Hid.mk' (l1Next_any b k l n w h hk hn hn2 hl)
 clear h
 go_enter Tryz.func45, Tryz.ntmps45
 go_wp2_with fail
 refine K.out.mono ?_
 rintro e w1 ⟨v, rfl, _, _, hS, hK⟩
 have HS := Hid.mk' hS
 have HK := Hid.mk' hK
 clear K hS hK
 go_wp2
 go_ret
 exact ⟨_, rfl, HS.out, HK.out⟩
def IAt (w : World) (g : Nat) (l : List Int) : Prop := g < w.heap.size ∧ ∀ i, i < l.length → w.cell? ⟨g, i, none⟩ = some (.int .i64 (l.getD i 0))
theorem l1Pick_any (b k g c : Nat) (l xs : List Int) (w : World) (h : Src b l k w) (hx : IAt w g xs) (hg : b ≠ g) (hk : k ≤ 1000000) (hn : 1 ≤ xs.length) (hn2 : xs.length ≤ 1000) (hl : (l.length : Int) ≤ 1048576) :
  Calls Tryz.prog 61 #[.pointer (some ⟨b, 0, none⟩), .slice (some ⟨g, 0, none⟩) xs.length c] w fun e w' => ∃ i, i < xs.length ∧ e = .returned (.int .i64 (xs.getD i 0)) ∧ Src b l (k + 1) w' ∧ KeptIn b (b + 1) w w' := by
 have K := Hid.mk' (l1Next_any b k l xs.length w h hk (by omega) (by omega) hl)
 have HX := Hid.mk' hx
 clear h hx
 obtain ⟨n, hn'⟩ : ∃ n, xs.length = n := ⟨_, rfl⟩
 rw [hn'] at K hn hn2 ⊢
 go_enter Tryz.func61, Tryz.ntmps61
 go_wp2_with fail
 refine K.out.mono ?_
 rintro e w1 ⟨v, rfl, v0, v1, hS, hK⟩
 have HS := Hid.mk' hS
 have HK := Hid.mk' hK
 obtain ⟨i, rfl⟩ : ∃ i : Nat, v = (i : Int) := ⟨v.toNat, by omega⟩
 have il : i < n := by omega
 have hc : w1.cell? ⟨g, i, none⟩ = some (.int .i64 (xs.getD i 0)) := (hK.cell (p := ⟨g, i, none⟩) HX.out.1 (show g < b ∨ b + 1 ≤ g by omega)).trans (HX.out.2 i (by omega))
 generalize hy : xs.getD i 0 = y at hc
 clear K hS hK
 go_wp2
 go_ret
 exact ⟨i, il, by rw [hy]; rfl, HS.out, HK.out⟩
theorem own_kept {w w' : World} {base lo hi : Nat} {e : TypeId} {size : Nat} {v : Value} {n : Nat} {xs : List Value} (h : w.ownsRow base e size v n xs) (hk : KeptIn lo hi w w') (hb : hi ≤ base) : w'.ownsRow base e size v n xs := by
 have hlt := h.lt
 obtain ⟨h0, h | ⟨g, cap, cur, rfl, hg, h1, h2, h3, h4, h5⟩⟩ := h
 ·exact ⟨h0, .inl h⟩
 ·exact ⟨h0, .inr ⟨g, cap, cur, rfl, hg, (hk.block g (hlt g rfl).2 (.inr (by omega))).trans h1, h2, h3, h4, h5⟩⟩
theorem own_form {w : World} {base : Nat} {e : TypeId} {size : Nat} {v : Value} {n : Nat} {xs : List Value} (h : w.ownsRow base e size v n xs) : ∃ a c, v = .slice a n c := by
 obtain ⟨_, ⟨rfl, rfl⟩ | ⟨g, cap, cur, rfl, _⟩⟩ := h
 ·exact ⟨_, _, rfl⟩
 ·exact ⟨_, _, rfl⟩
structure Drawn (w : World) (b : Nat) (l : List Int) (k : Nat) (v : Value) (out : List Int) (wr : World) : Prop where
 own : wr.ownsRow w.heap.size 5 1 v out.length (bcs out)
 u8 : ∀ x ∈ out, 0 ≤ x ∧ x ≤ 255
 src : Src b l k wr
 kept : KeptIn b (b + 1) w wr
theorem Drawn.alloc {w wr : World} {b k : Nat} {l out : List Int} {v : Value} (h : Drawn w b l k v out wr) (o : Obj) : Drawn w b l k v out (wr.alloc o) :=
 ⟨h.own.alloc o, h.u8, h.src.below (below_new _ _), h.kept.alloc o⟩
theorem Drawn.apps {w wr w1 : World} {b k : Nat} {l out more : List Int} {v v' : Value} {n : Nat} (h : Drawn w b l k v out wr) (hbw : b < w.heap.size) (hx : ∀ x ∈ more, 0 ≤ x ∧ x ≤ 255) (hn : more.length = n) (ho : w1.ownsRow w.heap.size 5 1 v' (out.length + n) (bcs out ++ bcs more)) (hg : wr.grownBy w1 v.ownBlock) : Drawn w b l k v' (out ++ more) w1 := by
 subst hn
 have hlo := own_lo h.own
 refine ⟨by rw [List.length_append, bcs_append]; exact ho, fun y hy => ?_, ?_, h.kept.grown hg hlo⟩
 ·rcases List.mem_append.1 hy with hy | hy
  ·exact h.u8 y hy
  ·exact hx y hy
 ·have hk : KeptIn w.heap.size wr.heap.size wr w1 := ⟨hg.os, hg.tape, hg.output, hg.size, fun j hj hc => hg.block j hj (fun e => by have := hlo j e.symm; omega)⟩
  exact h.src.kept hk hbw
theorem Drawn.below {w wr w' : World} {b k : Nat} {l out : List Int} {v : Value} (h : Drawn w b l k v out wr) (hb : Below wr.heap.size wr w') : Drawn w b l k v out w' :=
 ⟨own_keep h.own hb, h.u8, h.src.below hb, h.kept.trans (KeptIn.of_below hb)⟩
theorem KeptIn.below' {b : Nat} {w wr : World} (h : KeptIn b (b + 1) w wr) (W : World) (hb : W.heap.size ≤ b) (hW : Below W.heap.size W w) : Below W.heap.size W wr :=
 hW.trans (h.below hb hW.size)
theorem iat_lit (w : World) (xs : List Int) : IAt (w.alloc (.cells (xs.map (Value.int .i64)).toArray 2)) w.heap.size xs := by
 refine ⟨by simp, fun i hi => ?_⟩
 rw [World.cell?_alloc_mark]
 simp [hi]
def sB (s : ByteArray) : List Int := s.data.toList.map fun c => (c.toNat : Int)
theorem sB_len (s : ByteArray) : (sB s).length = s.size := by unfold sB; rw [List.length_map, Array.length_toList]; rfl
theorem sB_u8 (s : ByteArray) : ∀ x ∈ sB s, 0 ≤ x ∧ x ≤ 255 := by
 intro x hx
 simp [sB] at hx
 obtain ⟨c, _, rfl⟩ := hx
 have := c.toNat_lt
 omega
theorem row_src (w : World) (s : ByteArray) (cap : Nat) (fz : Nat × Nat) : ∀ j u, (bcs (sB s))[j]? = some u → (w.alloc (.cells (bytesRow s cap) 5 fz)).cell? ((⟨w.heap.size, 0, none⟩ : Addr).add j) = some u := by
 intro j u hj
 have hlt : j < s.size := by
  have := (List.getElem?_eq_some_iff.1 hj).1
  rw [bcs_len, sB_len] at this; omega
 rw [Addr.add_mid, Nat.zero_add, World.cell?_alloc_mark, ← hj]
 have h2 : j < s.data.size := hlt
 unfold bytesRow
 rw [Array.getElem?_append_left (by simpa using h2)]
 simp [bcs, sB]
 rfl
abbrev words25 : Array Value := #[.string ⟨#[60, 112, 62]⟩, .string ⟨#[60, 47, 112, 62]⟩, .string ⟨#[60, 98, 62]⟩, .string ⟨#[60, 47, 98, 62]⟩, .string ⟨#[60, 105, 62]⟩, .string ⟨#[120]⟩, .string ⟨#[121, 60]⟩, .string ⟨#[38, 108, 116, 59]⟩, .string ⟨#[38, 97, 109, 112, 59]⟩, .string ⟨#[38, 35, 54, 53, 59]⟩, .string ⟨#[38, 98, 97, 100, 59]⟩, .string ⟨#[60, 98, 114, 62]⟩, .string ⟨#[60, 97, 32, 104, 114, 101, 102, 61, 34, 104, 116, 116, 112, 58, 120, 34, 62]⟩, .string ⟨#[60, 97, 32, 104, 114, 101, 102, 61, 34, 106, 115, 58, 120, 34, 62]⟩, .string ⟨#[60, 47, 97, 62]⟩, .string ⟨#[60, 115, 99, 114, 105, 112, 116, 62]⟩, .string ⟨#[60, 47, 115, 99, 114, 105, 112, 116, 62]⟩, .string ⟨#[60, 105, 109, 103, 32, 119, 105, 100, 116, 104, 61, 34, 49, 46, 53, 48, 34, 62]⟩, .string ⟨#[60, 117, 62]⟩, .string ⟨#[60, 47, 117, 62]⟩, .string ⟨#[60, 33, 45, 45, 32, 99, 32, 45, 45, 62]⟩, .string ⟨#[34]⟩, .string ⟨#[62]⟩, .string ⟨#[60, 98, 47, 62]⟩, .string ⟨#[38]⟩]
theorem words25_at (w : World) (i : Nat) (hi : i < 25) : ∃ t : ByteArray, (w.alloc (.cells words25 9)).cell? ⟨w.heap.size, i, none⟩ = some (.string t) ∧ t.size ≤ 18 := by
 have hi' : i = 0 ∨ i = 1 ∨ i = 2 ∨ i = 3 ∨ i = 4 ∨ i = 5 ∨ i = 6 ∨ i = 7 ∨ i = 8 ∨ i = 9 ∨ i = 10 ∨ i = 11 ∨ i = 12 ∨ i = 13 ∨ i = 14 ∨ i = 15 ∨ i = 16 ∨ i = 17 ∨ i = 18 ∨ i = 19 ∨ i = 20 ∨ i = 21 ∨ i = 22 ∨ i = 23 ∨ i = 24 := by omega
 rcases hi' with rfl | rfl | rfl | rfl | rfl | rfl | rfl | rfl | rfl | rfl | rfl | rfl | rfl | rfl | rfl | rfl | rfl | rfl | rfl | rfl | rfl | rfl | rfl | rfl | rfl <;> exact ⟨_, by simp [words25]; rfl, by decide⟩
theorem l1Marked_any (b k n : Nat) (l : List Int) (w : World) (h : Src b l k w) (hk : k ≤ 10000) (hn1 : 1 ≤ n) (hn : n ≤ 10) (hl : (l.length : Int) ≤ 1048576) :
  Calls Tryz.prog 60 #[.pointer (some ⟨b, 0, none⟩), .int .i64 (n : Int)] w fun e w' => ∃ v out k', e = .returned v ∧ out.length ≤ 18 * n ∧ k' ≤ k + n ∧ Drawn w b l k' v out w' := by
 have hbw := h.lt
 have K0 := Hid.mk' (l1Next_any b k l n _ (h.below (below_new w (.cells #[] 5))) (by omega) (by omega) (by omega) hl)
 clear h
 go_enter Tryz.func60, Tryz.ntmps60
 go_wp2_with fail
 refine K0.out.mono ?_
 rintro e w0 ⟨c, rfl, c0, c1, hS0, hK0⟩
 have D0 : Hid (Drawn w b l (k + 1) (.slice (some ⟨w.heap.size, 0, none⟩) 0 0) [] w0) := ⟨own_kept (World.ownsRow_lit w #[] 0 (Nat.le_refl _) (by decide) rfl) hK0 (by omega), fun x hx => by simp at hx, hS0, ((KeptIn.refl _ _ _).alloc _).trans hK0⟩
 clear K0 hS0 hK0
 go_wp2
 go_loopw [5, 6] (fun v i wr => ∃ (m k' : Nat) (out : List Int), m < n ∧ i = .int .i64 m ∧ out.length + 18 * m ≤ 18 * n ∧ k' + m ≤ k + n ∧ Drawn w b l k' v out wr) (fun _ i _ => (intOf i).toNat)
 case atStart => exact ⟨c.toNat, k + 1, [], by omega, by rw [Int.toNat_of_nonneg c0], by simp; omega, by omega, D0.out⟩
 case round =>
  obtain ⟨m, k', out, hm, rfl, hlen, hk', hD⟩ := hrel
  by_cases cm : 0 < m
  ·have ci : (0 : Int) < (m : Int) := by omega
   have S1 := hD.src.below (below_new wr (.cells words25 9))
   have K := Hid.mk' (l1Next_any b k' l 25 _ S1 (by omega) (by decide) (by decide) hl)
   have hlt := hD.src.lt
   have hws := hD.kept.size
   have W25 := Hid.mk' (words25_at wr)
   have D1 := Hid.mk' (hD.alloc (.cells words25 9))
   obtain ⟨pv_, qv_, rfl⟩ := own_form hD.own
   clear S1 hD
   go_wp2_with fail
   refine K.out.mono ?_
   rintro e w1 ⟨x, rfl, x0, x1, hS1, hK1⟩
   obtain ⟨i, rfl⟩ : ∃ i : Nat, x = (i : Int) := ⟨x.toNat, by omega⟩
   have il : i < 25 := by omega
   obtain ⟨t, ht, htl⟩ := W25.out i il
   have hc : w1.cell? ⟨wr.heap.size, i, none⟩ = some (.string t) := (hK1.cell (p := ⟨wr.heap.size, i, none⟩) (by simp) (show wr.heap.size < b ∨ b + 1 ≤ wr.heap.size by omega)).trans ht
   have D2 : Hid (Drawn w b l (k' + 1) (.slice pv_ out.length qv_) out w1) := ⟨own_kept D1.out.own hK1 (by omega), D1.out.u8, hS1, D1.out.kept.trans hK1⟩
   have hcv := fun W : World => run_bytes_of_string (P := Tryz.prog) W 9 22 5 t Tryz.underlying9 Tryz.underlying22 Tryz.underlying5
   have l5 : (bcs (sB t)).length = t.size * 1 := by rw [bcs_len, sB_len]
   have ys := hK1.size
   simp at ys
   clear K hS1 hK1 ht W25 D1
   go_wp2_with (at_builtin; refine wpList_append_at _ rfl (.tmp 15) (.tmp 21) 22 rfl w.heap.size 5 (.int .u8 0) 1 1 Tryz.underlying22 Tryz.info5 rfl (by decide) (.slice pv_ out.length qv_) _ _ rfl (own_keep D2.out.own (((Below.refl w1.heap.size w1).alloc (Nat.le_refl _) _).drew)) _ _ _ (bcs (sB t)) rfl l5 (.inr ⟨_, rfl, fun j u hj => row_src w1 t _ _ j u hj⟩) (bcs_one _) (by unfold maxLen; omega) (by omega) (by simp; omega) ?_; intro v' w2 ho hgr hat; have D3 := Hid.mk' ((D2.out.below (((Below.refl w1.heap.size w1).alloc (Nat.le_refl _) _).drew)).apps hbw (sB_u8 t) (sB_len t) ho hgr); clear ho hgr hat)
   go_roundw
   case rel => exact ⟨m - 1, k' + 1, out ++ sB t, by omega, by go_num, by rw [List.length_append, sB_len]; omega, by omega, D3.out⟩
   case measure => simp [intOf]; omega
  ·have e : m = 0 := by omega
   subst e
   have ci : ¬ (0 : Int) < ((0 : Nat) : Int) := by omega
   go_wp2
   go_ret
   exact ⟨_, rfl, out, by omega, k', by omega, hD⟩
theorem byt_of_mem {l : List Int} (h : ∀ x ∈ l, 0 ≤ x ∧ x ≤ 255) : Byt l := fun k hk => by
 have := h (l[k]) (List.getElem_mem hk)
 simpa [List.getD_eq_getElem?_getD, hk] using this
theorem aeq_refl (x : AT) : aeq x x = true := by unfold aeq; simp
theorem sameAs_refl (l : List AT) : sameAs l l = true := by unfold sameAs; rw [decide_eq_true rfl, allK_true (fun k _ => aeq_refl _)]; rfl
theorem teq_refl (x : TK) : teq x x = true := by unfold teq; rw [sameAs_refl]; simp
theorem sameTs_refl (l : List TK) : sameTs l l = true := by unfold sameTs; rw [decide_eq_true rfl, allK_true (fun k _ => teq_refl _)]; rfl
theorem lwBigF_any (a : Option Addr) (c n : Nat) (w : World) :
  Calls Tryz.prog 8 #[.slice a n c] w fun e w' => e = .returned (.bool (decide ((1048576 : Int) < (n : Int)))) ∧ w' = w := by
 go_enter Tryz.func8, Tryz.ntmps8
 go_wp2
 go_ret
 exact ⟨rfl, rfl⟩
theorem sameCs_refl (l : List CK) : sameCs l l = true := by
 unfold sameCs
 rw [decide_eq_true rfl, allK_true (fun k _ => by unfold ceq; simp [beqB_refl])]
 rfl
theorem sameR_refl (m : ME) : sameR m m = true := by
 unfold sameR
 rw [sameTs_refl, beqB_refl, sameCs_refl]
 rfl
theorem memF_new {d : List Int} {s : Nat} (hd : d.length ≤ 240) (hs : 1 ≤ s) (hs2 : s ≤ 60) : memF (memX d s) = 0 := by
 have h : memF (memX d s) = (if askC d (s : Int) ≠ 0 then askC d (s : Int) else if sameR (memX d (s : Int).toNat) (memX d s) then 0 else 1) := rfl
 rw [h, askC_good hd hs hs2, if_neg (by decide), Int.toNat_natCast, sameR_refl, if_pos rfl]
theorem spl_back {d p : List Int} {i j : Nat} (h : i + j ≤ d.length) : spl (spl d i j p) i p.length ((d.drop i).take j) = d := by
 unfold spl
 have h1 : (d.take i).length = i := by rw [List.length_take]; omega
 have e1 : (d.take i ++ p ++ d.drop (i + j)).take i = d.take i := by
  rw [List.append_assoc, List.take_append_of_le_length (by omega)]
  exact List.take_of_length_le (by omega)
 have e2 : (d.take i ++ p ++ d.drop (i + j)).drop (i + p.length) = d.drop (i + j) := by
  have h2 : (d.take i ++ p).length = i + p.length := by simp; omega
  exact List.drop_left' h2
 rw [e1, e2, List.append_assoc]
 have e3 : d.drop (i + j) = (d.drop i).drop j := by rw [List.drop_drop]
 rw [e3, List.take_append_drop, List.take_append_drop]
theorem bk_math {m : ME} {A N : Int} {p : List Int} (hf : edC m A N p = 0) : ∃ i j s : Nat, A = (i : Int) ∧ N = (j : Int) ∧ m.st = (s : Int) ∧ 1 ≤ s ∧ s ≤ 60 ∧ i + j ≤ m.dt.length ∧ m.dt.length ≤ 240 ∧ p.length ≤ 240 ∧ (spl m.dt i j p).length ≤ 240 ∧ eM m A N p = memX (spl m.dt i j p) s ∧ edC (memX (spl m.dt i j p) s) (i : Int) (p.length : Int) ((m.dt.drop i).take j) = 0 ∧ eM (memX (spl m.dt i j p) s) (i : Int) (p.length : Int) ((m.dt.drop i).take j) = memX m.dt s ∧ sameM (memX m.dt s) m = true := by
 obtain ⟨hf1, hf2⟩ := edC_ok hf
 obtain ⟨g1, g2, g3, g4⟩ := spC_zero hf2
 obtain ⟨h240, s, hst, hs, hs2, hsame⟩ := memF_ok hf1
 obtain ⟨i, rfl⟩ : ∃ i : Nat, A = (i : Int) := ⟨A.toNat, by omega⟩
 obtain ⟨j, rfl⟩ : ∃ j : Nat, N = (j : Int) := ⟨N.toNat, by omega⟩
 have hat : i + j ≤ m.dt.length := by omega
 have hlen := spl_len (l := m.dt) (at_ := i) (n := j) (p := p) hat
 have hL : (spl m.dt i j p).length ≤ 240 := by omega
 have he : eM m (i : Int) (j : Int) p = memX (spl m.dt i j p) s := by
  unfold eM
  rw [if_pos hf, hst]
  rfl
 have hq : ((m.dt.drop i).take j).length = j := by rw [List.length_take, List.length_drop]; omega
 have hc : edC (memX (spl m.dt i j p) s) (i : Int) (p.length : Int) ((m.dt.drop i).take j) = 0 := by
  have h : edC (memX (spl m.dt i j p) s) (i : Int) (p.length : Int) ((m.dt.drop i).take j) = (if memF (memX (spl m.dt i j p) s) ≠ 0 then memF (memX (spl m.dt i j p) s) else spC (spl m.dt i j p).length (i : Int) (p.length : Int) ((m.dt.drop i).take j).length) := rfl
  rw [h, memF_new hL hs hs2, if_neg (by decide), hq]
  unfold spC
  rw [if_neg (by omega), if_neg (by omega)]
 refine ⟨i, j, s, rfl, rfl, hst, hs, hs2, hat, h240, by omega, hL, he, hc, ?_, ?_⟩
 ·unfold eM
  rw [if_pos hc]
  show memX (spl (spl m.dt i j p) i p.length ((m.dt.drop i).take j)) s = memX m.dt s
  rw [spl_back hat]
 ·unfold sameM
  show (beqB m.dt m.dt && (((s : Int) == m.st) && sameR (memX m.dt s) m)) = true
  rw [beqB_refl, hst, hsame]
  simp
def toL (m : ME) : List TK := if memF m = 0 then m.tk ++ bytesT m.hd else []
theorem keptQ3 (w' : World) (c : Nat) (v0 v1 v2 : Value) : KeptIn c (c + 1) w' (((w'.setCell ⟨c, 0, none⟩ v0).setCell ⟨c, 1, none⟩ v1).setCell ⟨c, 2, none⟩ v2) :=
 (((KeptIn.refl c (c + 1) w').setCell (p := ⟨c, 0, none⟩) (by simp) (by simp) v0).setCell (p := ⟨c, 1, none⟩) (by simp) (by simp) v1).setCell (p := ⟨c, 2, none⟩) (by simp) (by simp) v2
theorem boxesT (w : World) (x0 x1 x2 x3 x4 : Value) :
  let W := (w.alloc (.cells #[x0, x1, x2, x3, x4] 27)).alloc (.cells #[.int .i64 0, .slice none 0 0, .slice none 0 0] 41)
  Below w.heap.size w W ∧ W.rowIs w.heap.size 27 5 (r5 x0 x1 x2 x3 x4) ∧ W.rowIs (w.heap.size + 1) 41 3 (r3 (.int .i64 0) (.slice none 0 0) (.slice none 0 0)) := by
 refine ⟨(below_new w _).alloc (by simp) _, (row5 w 27 x0 x1 x2 x3 x4).alloc _, ?_⟩
 have := row3 (w.alloc (.cells #[x0, x1, x2, x3, x4] 27)) 41 (.int .i64 0) (.slice none 0 0) (.slice none 0 0)
 rw [show (w.alloc (.cells #[x0, x1, x2, x3, x4] 27)).heap.size = w.heap.size + 1 by simp] at this
 exact this
theorem toL_lex {m : ME} (hu : Byt m.dt) (ht : TBt m.tk) (hh : Byt m.hd) (h : memF m = 0) : toL m = lexX m.dt := by
 obtain ⟨h240, s, hst, hs, hs2, hR⟩ := memF_ok h
 obtain ⟨e1, e2⟩ := right_toks hu ht hh hR
 unfold toL
 rw [if_pos h, e1, e2]
 rfl
theorem sameM_refl (m : ME) : sameM m m = true := by
 unfold sameM
 rw [beqB_refl, sameR_refl]
 simp
structure MD (w : World) (d : List Int) (s k c g : Nat) (dv tv cv hv : Value) (us : List Value) (hs : Nat → Value) (wr : World) : Prop where
 bel : Below w.heap.size w wr
 box : wr.rowIs g 27 5 (r5 dv (.int .i64 (s : Int)) tv (.slice none 0 0) cv)
 r0 : wr.rowIs w.heap.size 27 5 (r5 (.slice none 0 0) (.int .i64 0) (.slice none 0 0) (.slice none 0 0) (.slice none 0 0))
 gl : w.heap.size < g
 gt : tv.ownBlock ≠ some g
 gc : cv.ownBlock ≠ some g
 tr : wr.ownsRow (g + 1) 107 5 tv (allX [] [] (d.take k)).1.length (tcs (allX [] [] (d.take k)).1 us)
 ul : us.length = (allX [] [] (d.take k)).1.length
 uo : ∀ u ∈ us, u.oneCell' = true
 cr : wr.ownsRow (g + 1) 31 3 cv c (cvs d s c hs)
 xa : Ap tv cv
 tc : TC (XB g g tv cv) wr us (allX [] [] (d.take k)).1
 dt : wr.ownsRow (w.heap.size + 1) 5 1 dv d.length (bcs d)
 dg : ∀ q, dv.ownBlock = some q → q < g
 hd : BT (XB g g tv cv) wr hv (allX [] [] (d.take k)).2
 hc : ∀ i, i < c → BT (XB g g tv cv) wr (hs i) (hdN d s i)
theorem MD.keep {w : World} {d : List Int} {s k c g : Nat} {dv tv cv hv : Value} {us : List Value} {hs : Nat → Value} {wr wj : World} (x : MD w d s k c g dv tv cv hv us hs wr) (hb : Below wr.heap.size wr wj) : MD w d s k c g dv tv cv hv us hs wj :=
 ⟨x.bel.trans (hb.mono x.bel.size), rowB x.box hb, rowB x.r0 hb, x.gl, x.gt, x.gc, own_keep x.tr hb, x.ul, x.uo, own_keep x.cr hb, x.xa, x.tc.step (fun k h _ => hb.block k h) hb.size (fun _ h => .inl h), own_keep x.dt hb, x.dg, x.hd.step (fun k h _ => hb.block k h) hb.size (fun _ h => .inl h), fun i hi => (x.hc i hi).step (fun k h _ => hb.block k h) hb.size (fun _ h => .inl h)⟩
theorem MD.check {w : World} {d : List Int} {s k c g : Nat} {dv tv cv hv : Value} {us : List Value} {hs : Nat → Value} {wr w2 w3 : World} (x : MD w d s k c g dv tv cv hv us hs wr) {v cv' : Value} (hb : Below wr.heap.size wr w2) (hv2 : BT (XB g g tv cv) w2 v (hdN d s c))
  (ho : w3.ownsRow (g + 1) 31 3 cv' (c + 1) (cvs d s c hs ++ [.int .i64 ((c * s : Nat) : Int), .int .i64 ((tkN d s c).length : Int), v])) (hg : w2.grownBy w3 cv.ownBlock) (e : cv'.ownBlock = cv.ownBlock ∨ cv'.ownBlock = some w2.heap.size) :
  MD w d s k (c + 1) g dv tv cv' hv us (fun i => if i = c then v else hs i) (w3.setCell ⟨g, 4, none⟩ cv') := by
 have y := x.keep hb
 have s2 := hg.size
 have K := (KeptIn.refl g (g + 1) w3).setCell (p := ⟨g, 4, none⟩) (by simp) (by simp) cv'
 have sK := K.size
 have told : ∀ q, cv.ownBlock = some q → g + 1 ≤ q ∧ q < w2.heap.size := fun q e => y.cr.lt q e
 have tol : ∀ q, tv.ownBlock = some q → g + 1 ≤ q ∧ q < w2.heap.size := fun q e => y.tr.lt q e
 have gl := y.gl
 have gb := y.box.lt
 have kb : ∀ q, q < w2.heap.size → q ≠ g → cv.ownBlock ≠ some q → (w3.setCell ⟨g, 4, none⟩ cv').heap[q]? = w2.heap[q]? := fun q h1 h2 h3 => (K.block q (by omega) (by omega)).trans (hg.block q h1 (fun e => h3 e.symm))
 have kX : ∀ q, q < w2.heap.size → ¬ XB g g tv cv q → (w3.setCell ⟨g, 4, none⟩ cv').heap[q]? = w2.heap[q]? := fun q h1 h2 => kb q h1 (fun e => h2 (.inr (.inl e))) (fun e => h2 (.inr (.inr (.inr e))))
 have hX : ∀ q, XB g g tv cv' q → XB g g tv cv q ∨ w2.heap.size ≤ q := fun q h => by
  rcases h with h | h | h | h
  ·exact .inl (.inl h)
  ·exact .inl (.inr (.inl h))
  ·exact .inl (.inr (.inr (.inl h)))
  ·rcases e with e | e
   ·exact .inl (.inr (.inr (.inr (e ▸ h))))
   ·rw [e] at h; cases h; exact .inr (Nat.le_refl _)
 have sz : w2.heap.size ≤ (w3.setCell ⟨g, 4, none⟩ cv').heap.size := Nat.le_trans s2 sK
 have gc' : cv'.ownBlock ≠ some g := fun h => by
  rcases e with e | e
  ·exact y.gc (e ▸ h)
  ·rw [e] at h; cases h; omega
 refine ⟨?_, ?_, ?_, gl, y.gt, gc', ?_, y.ul, y.uo, ?_, ?_, y.tc.step kX sz hX, own_of y.dt (Nat.le_refl _) (fun q eq hq => kb q (y.dt.lt q eq).2 (by have := y.dg q eq; omega) (fun e => by have := y.dg q eq; have := told q e; omega)), y.dg, y.hd.step kX sz hX, fun i hi => ?_⟩
 ·exact ⟨K.os.trans (hg.os.trans y.bel.os), K.tape.trans (hg.tape.trans y.bel.tape), K.output.trans (hg.output.trans y.bel.output), Nat.le_trans y.bel.size sz, fun q hq => (kb q (by have := y.bel.size; omega) (by omega) (fun e => by have := told q e; omega)).trans (y.bel.block q hq)⟩
 ·have r := y.box.of_block (hg.block g gb (fun e => y.gc e.symm))
  refine (r.set 4 cv').congr (fun i hi => ?_)
  have h : i = 0 ∨ i = 1 ∨ i = 2 ∨ i = 3 ∨ i = 4 := by omega
  rcases h with rfl | rfl | rfl | rfl | rfl <;> simp [r5]
 ·exact y.r0.of_block (kb _ y.r0.lt (by omega) (fun e => by have := told _ e; omega))
 ·exact own_of y.tr (Nat.le_refl _) (fun q eq hq => kb q (tol q eq).2 (fun e => y.gt (e ▸ eq)) (fun e2 => y.xa q eq e2))
 ·rw [← cvs_succ]
  exact own_of ho (Nat.le_refl _) (fun q eq hq => K.block q (ho.lt q eq).2 (by have : q ≠ g := fun e2 => gc' (e2 ▸ eq); omega))
 ·intro q eq eq2
  rcases e with e | e
  ·rw [e] at eq2; exact y.xa q eq eq2
  ·rw [e] at eq2; cases eq2; have := tol _ eq; omega
 ·by_cases h : i = c
  ·subst h
   rw [if_pos rfl]
   exact hv2.step kX sz hX
  ·rw [if_neg h]
   exact (y.hc i (by omega)).step kX sz hX
theorem MD.feed {w : World} {d : List Int} {s k c g : Nat} {dv tv cv hv : Value} {us : List Value} {hs : Nat → Value} {wr w2 w3 : World} (x : MD w d s k c g dv tv cv hv us hs wr) {tv' hv' : Value} {R : List TK × List Int} {us1 : List Value} (eX : allX [] [] (d.take (k + 1)) = ((allX [] [] (d.take k)).1 ++ R.1, R.2))
  (hb : Below wr.heap.size wr w2) (hl1 : us1.length = R.1.length) (h1 : ∀ u ∈ us1, u.oneCell' = true) (hA : ∀ (i : Nat) t u, R.1[i]? = some t → us1[i]? = some u → TokIn wr.heap.size w2 none t u) (hh : w2.ownsRow wr.heap.size 5 1 hv' R.2.length (bcs R.2))
  (ho : w3.ownsRow (g + 1) 107 5 tv' ((allX [] [] (d.take k)).1.length + R.1.length) (tcs (allX [] [] (d.take k)).1 us ++ tcs R.1 us1)) (hg : w2.grownBy w3 tv.ownBlock) (e : tv'.ownBlock = tv.ownBlock ∨ tv'.ownBlock = some w2.heap.size) :
  MD w d s (k + 1) c g dv tv' cv hv' (us ++ us1) hs (w3.setCell ⟨g, 2, none⟩ tv') := by
 have y := x.keep hb
 have s1 := hb.size
 have s2 := hg.size
 have K := (KeptIn.refl g (g + 1) w3).setCell (p := ⟨g, 2, none⟩) (by simp) (by simp) tv'
 have sK := K.size
 have told : ∀ q, cv.ownBlock = some q → g + 1 ≤ q ∧ q < wr.heap.size := fun q e => x.cr.lt q e
 have tol : ∀ q, tv.ownBlock = some q → g + 1 ≤ q ∧ q < wr.heap.size := fun q e => x.tr.lt q e
 have gl := y.gl
 have gb := x.box.lt
 have kb : ∀ q, q < w2.heap.size → q ≠ g → tv.ownBlock ≠ some q → (w3.setCell ⟨g, 2, none⟩ tv').heap[q]? = w2.heap[q]? := fun q h1 h2 h3 => (K.block q (by omega) (by omega)).trans (hg.block q h1 (fun e => h3 e.symm))
 have kX : ∀ q, q < w2.heap.size → ¬ XB g g tv cv q → (w3.setCell ⟨g, 2, none⟩ tv').heap[q]? = w2.heap[q]? := fun q h1 h2 => kb q h1 (fun e => h2 (.inr (.inl e))) (fun e => h2 (.inr (.inr (.inl e))))
 have hX : ∀ q, XB g g tv' cv q → XB g g tv cv q ∨ w2.heap.size ≤ q := fun q h => by
  rcases h with h | h | h | h
  ·exact .inl (.inl h)
  ·exact .inl (.inr (.inl h))
  ·rcases e with e | e
   ·exact .inl (.inr (.inr (.inl (e ▸ h))))
   ·rw [e] at h; cases h; exact .inr (Nat.le_refl _)
  ·exact .inl (.inr (.inr (.inr h)))
 have old : ∀ q, XB g g tv cv q → q < wr.heap.size := fun q h => by
  rcases h with h | h | h | h
  ·omega
  ·omega
  ·exact (tol q h).2
  ·exact (told q h).2
 have sz : w2.heap.size ≤ (w3.setCell ⟨g, 2, none⟩ tv').heap.size := Nat.le_trans s2 sK
 have gt' : tv'.ownBlock ≠ some g := fun h => by
  rcases e with e | e
  ·exact y.gt (e ▸ h)
  ·rw [e] at h; cases h; omega
 have e1 : (allX [] [] (d.take (k + 1))).1 = (allX [] [] (d.take k)).1 ++ R.1 := congrArg Prod.fst eX
 have e2 : (allX [] [] (d.take (k + 1))).2 = R.2 := by rw [eX]
 refine ⟨?_, ?_, ?_, gl, gt', y.gc, ?_, ?_, fun u hu => ?_, ?_, ?_, ?_, own_of y.dt (Nat.le_refl _) (fun q eq hq => kb q (y.dt.lt q eq).2 (by have := y.dg q eq; omega) (fun e => by have := y.dg q eq; have := tol q e; omega)), y.dg, ?_, fun i hi => (y.hc i hi).step kX sz hX⟩
 ·exact ⟨K.os.trans (hg.os.trans y.bel.os), K.tape.trans (hg.tape.trans y.bel.tape), K.output.trans (hg.output.trans y.bel.output), Nat.le_trans y.bel.size sz, fun q hq => (kb q (by have := y.bel.size; omega) (by omega) (fun e => by have := tol q e; omega)).trans (y.bel.block q hq)⟩
 ·have r := y.box.of_block (hg.block g (by omega) (fun e => y.gt e.symm))
  refine (r.set 2 tv').congr (fun i hi => ?_)
  have h : i = 0 ∨ i = 1 ∨ i = 2 ∨ i = 3 ∨ i = 4 := by omega
  rcases h with rfl | rfl | rfl | rfl | rfl <;> simp [r5]
 ·exact y.r0.of_block (kb _ y.r0.lt (by omega) (fun e => by have := tol _ e; omega))
 ·rw [e1, tcs_app _ _ _ _ x.ul, List.length_append]
  exact own_of ho (Nat.le_refl _) (fun q eq hq => K.block q (ho.lt q eq).2 (by have : q ≠ g := fun e2 => gt' (e2 ▸ eq); omega))
 ·rw [e1, List.length_append, List.length_append, x.ul, hl1]
 ·rcases List.mem_append.1 hu with hu | hu
  ·exact x.uo u hu
  ·exact h1 u hu
 ·exact own_of y.cr (Nat.le_refl _) (fun q eq hq => kb q (by have := told q eq; omega) (fun e => y.gc (e ▸ eq)) (fun e2 => y.xa q e2 eq))
 ·intro q eq eq2
  rcases e with e | e
  ·rw [e] at eq; exact y.xa q eq eq2
  ·rw [e] at eq; cases eq; have := told _ eq2; omega
 ·rw [e1]
  exact (y.tc.app x.ul (TC.of hl1 hA old)).step kX sz hX
 ·rw [e2]
  exact (BT.of_own hh (fun q eq hx => by have := (hh.lt q eq).1; have := old q hx; omega)).step kX sz hX
theorem MD.over {w : World} {d : List Int} {s k c g : Nat} {dv tv cv hv : Value} {us : List Value} {hs : Nat → Value} {wr : World} (x : MD w d s k c g dv tv cv hv us hs wr) (h : d.length ≤ k) : MD w d s (k + 1) c g dv tv cv hv us hs wr := by
 have e : d.take (k + 1) = d.take k := by rw [List.take_of_length_le h, List.take_of_length_le (by omega)]
 obtain ⟨a1, a2, a3, a4, a5, a6, a7, a8, a9, b1, b2, b3, b4, c4, b5, b6⟩ := x
 exact ⟨a1, a2, a3, a4, a5, a6, by rw [e]; exact a7, by rw [e]; exact a8, a9, b1, b2, by rw [e]; exact b3, b4, c4, by rw [e]; exact b5, b6⟩
def Sm (v : Value) : Prop := ∃ g, v.ownBlock = some g
theorem Sm.next {v v' : Value} {g : Nat} (h : Sm v) (hq : v'.ownBlock = v.ownBlock ∨ v'.ownBlock = some g) : Sm v' := by
 obtain ⟨k, hk⟩ := h
 rcases hq with hq | hq
 ·exact ⟨k, hq.trans hk⟩
 ·exact ⟨g, hq⟩
theorem own_some {w : World} {base : Nat} {v : Value} {l : List Int} (h : w.ownsRow base 5 1 v l.length (bcs l)) (hs : Sm v) : ∃ g c, v = .slice (some ⟨g, 0, none⟩) l.length c ∧ l.length ≤ c ∧ base ≤ g ∧ CAt w g 0 l := by
 obtain ⟨ho, hlo⟩ := OB.of_own h
 obtain ⟨k, hk⟩ := hs
 rcases ho with ⟨rfl, _⟩ | ⟨g, cap, cn, f, rfl, hca, hr, hl, hf⟩
 ·simp [Value.ownBlock] at hk
 ·exact ⟨g, cap, rfl, hca, hlo g rfl, hr.lt, fun j hj => by rw [Nat.zero_add]; exact (hr.cell (by omega)).trans (congrArg some (hf j hj))⟩
theorem l1Copy_sm (a : Option Addr) (c : Nat) (l : List Int) (w : World) (ha : BAt w a l) (hl : (l.length : Int) ≤ 1048576) :
  Calls Tryz.prog 51 #[.slice a l.length c] w fun e w' => ∃ v, e = .returned v ∧ Sm v ∧ w'.ownsRow w.heap.size 5 1 v l.length (bcs l) ∧ Below w.heap.size w w' := by
 have B0 := below_new w (.cells #[] 5)
 go_enter Tryz.func51, Tryz.ntmps51
 go_wp2_with (at_builtin; refine wpList_append_at _ rfl (.tmp 3) (.tmp 4) 22 rfl w.heap.size 5 (.int .u8 0) 1 1 Tryz.underlying22 Tryz.info5 rfl (by decide) _ 0 [] rfl (World.ownsRow_lit w #[] 0 (Nat.le_refl _) (by decide) rfl) a l.length c (bcs l) rfl (bcs_len l) (ha.below B0).src (bcs_one l) (by unfold maxLen; omega) (by omega) (by simp) ?_; intro v' w1 hown hgr hat)
 go_ret
 rw [Nat.zero_add, List.nil_append] at hown
 refine ⟨_, rfl, Sm.next ⟨w.heap.size, rfl⟩ hat, hown, B0.grown hgr (by simp) (fun k hk => ?_)⟩
 simp [Act.eval, Value.ownBlock] at hk
 omega
theorem l1Marked_sm (b k n : Nat) (l : List Int) (w : World) (h : Src b l k w) (hk : k ≤ 10000) (hn1 : 1 ≤ n) (hn : n ≤ 10) (hl : (l.length : Int) ≤ 1048576) :
  Calls Tryz.prog 60 #[.pointer (some ⟨b, 0, none⟩), .int .i64 (n : Int)] w fun e w' => ∃ v out k', e = .returned v ∧ out.length ≤ 18 * n ∧ k' ≤ k + n ∧ Drawn w b l k' v out w' ∧ Sm v := by
 have hbw := h.lt
 have K0 := Hid.mk' (l1Next_any b k l n _ (h.below (below_new w (.cells #[] 5))) (by omega) (by omega) (by omega) hl)
 clear h
 go_enter Tryz.func60, Tryz.ntmps60
 go_wp2_with fail
 refine K0.out.mono ?_
 rintro e w0 ⟨c, rfl, c0, c1, hS0, hK0⟩
 have D0 : Hid (Drawn w b l (k + 1) (.slice (some ⟨w.heap.size, 0, none⟩) 0 0) [] w0) := ⟨own_kept (World.ownsRow_lit w #[] 0 (Nat.le_refl _) (by decide) rfl) hK0 (by omega), fun x hx => by simp at hx, hS0, ((KeptIn.refl _ _ _).alloc _).trans hK0⟩
 clear K0 hS0 hK0
 go_wp2
 go_loopw [5, 6] (fun v i wr => ∃ (m k' : Nat) (out : List Int), m < n ∧ i = .int .i64 m ∧ out.length + 18 * m ≤ 18 * n ∧ k' + m ≤ k + n ∧ Drawn w b l k' v out wr ∧ Sm v) (fun _ i _ => (intOf i).toNat)
 case atStart => exact ⟨c.toNat, k + 1, [], by omega, by rw [Int.toNat_of_nonneg c0], by simp; omega, by omega, D0.out, ⟨_, rfl⟩⟩
 case round =>
  obtain ⟨m, k', out, hm, rfl, hlen, hk', hD, hsm⟩ := hrel
  have SM := Hid.mk' hsm
  clear hsm
  by_cases cm : 0 < m
  ·have ci : (0 : Int) < (m : Int) := by omega
   have S1 := hD.src.below (below_new wr (.cells words25 9))
   have K := Hid.mk' (l1Next_any b k' l 25 _ S1 (by omega) (by decide) (by decide) hl)
   have hlt := hD.src.lt
   have hws := hD.kept.size
   have W25 := Hid.mk' (words25_at wr)
   have D1 := Hid.mk' (hD.alloc (.cells words25 9))
   obtain ⟨pv_, qv_, rfl⟩ := own_form hD.own
   clear S1 hD
   go_wp2_with fail
   refine K.out.mono ?_
   rintro e w1 ⟨x, rfl, x0, x1, hS1, hK1⟩
   obtain ⟨i, rfl⟩ : ∃ i : Nat, x = (i : Int) := ⟨x.toNat, by omega⟩
   have il : i < 25 := by omega
   obtain ⟨t, ht, htl⟩ := W25.out i il
   have hc : w1.cell? ⟨wr.heap.size, i, none⟩ = some (.string t) := (hK1.cell (p := ⟨wr.heap.size, i, none⟩) (by simp) (show wr.heap.size < b ∨ b + 1 ≤ wr.heap.size by omega)).trans ht
   have D2 : Hid (Drawn w b l (k' + 1) (.slice pv_ out.length qv_) out w1) := ⟨own_kept D1.out.own hK1 (by omega), D1.out.u8, hS1, D1.out.kept.trans hK1⟩
   have hcv := fun W : World => run_bytes_of_string (P := Tryz.prog) W 9 22 5 t Tryz.underlying9 Tryz.underlying22 Tryz.underlying5
   have l5 : (bcs (sB t)).length = t.size * 1 := by rw [bcs_len, sB_len]
   have ys := hK1.size
   simp at ys
   clear K hS1 hK1 ht W25 D1
   go_wp2_with (at_builtin; refine wpList_append_at _ rfl (.tmp 15) (.tmp 21) 22 rfl w.heap.size 5 (.int .u8 0) 1 1 Tryz.underlying22 Tryz.info5 rfl (by decide) (.slice pv_ out.length qv_) _ _ rfl (own_keep D2.out.own (((Below.refl w1.heap.size w1).alloc (Nat.le_refl _) _).drew)) _ _ _ (bcs (sB t)) rfl l5 (.inr ⟨_, rfl, fun j u hj => row_src w1 t _ _ j u hj⟩) (bcs_one _) (by unfold maxLen; omega) (by omega) (by simp; omega) ?_; intro v' w2 ho hgr hat; have D3 := Hid.mk' ((D2.out.below (((Below.refl w1.heap.size w1).alloc (Nat.le_refl _) _).drew)).apps hbw (sB_u8 t) (sB_len t) ho hgr); have S3 := Hid.mk' (SM.out.next hat); clear ho hgr hat)
   go_roundw
   case rel => exact ⟨m - 1, k' + 1, out ++ sB t, by omega, by go_num, by rw [List.length_append, sB_len]; omega, by omega, D3.out, S3.out⟩
   case measure => simp [intOf]; omega
  ·have e : m = 0 := by omega
   subst e
   have ci : ¬ (0 : Int) < ((0 : Nat) : Int) := by omega
   go_wp2
   go_ret
   exact ⟨_, rfl, out, by omega, k', by omega, hD, SM.out⟩
def LnS (d : List Int) (s : Nat) (w : World) (e : Ending) (w' : World) : Prop :=
 ∃ vd vh t c ct cc, e = .returned (.agg #[vd, .int .i64 (s : Int), .slice t (allX [] [] d).1.length ct, vh, .slice c (d.length / s + 1) cc]) ∧ w'.ownsRow (w.heap.size + 1) 5 1 vd d.length (bcs d) ∧ w'.ownsRow (w.heap.size + 1) 5 1 vh (allX [] [] d).2.length (bcs (allX [] [] d).2) ∧ (∀ q, vd.ownBlock = some q → vh.ownBlock ≠ some q) ∧ (∃ b, vd.ownBlock = some b) ∧ (allX [] [] d).1.length ≤ ct ∧ ((t = none ∧ ct = 0 ∧ (allX [] [] d).1 = []) ∨ ∃ b, t = some ⟨b, 0, none⟩) ∧ (∃ b, c = some ⟨b, 0, none⟩) ∧ d.length / s + 1 ≤ cc ∧ (∀ z : World, w'.heap.size ≤ z.heap.size → (∀ q, w.heap.size < q → q < w'.heap.size → vd.ownBlock ≠ some q → vh.ownBlock ≠ some q → z.heap[q]? = w'.heap[q]?) → TsAt z t (allX [] [] d).1 ∧ CsAt z c (cksN d s (d.length / s + 1))) ∧ Below w.heap.size w w'
theorem l12New_own (d : List Int) (ad : Option Addr) (cd : Nat) (s : Nat) (w : World) (hd : BAt w ad d) (hu : Byt d) (hl : d.length ≤ 240) (hs : 1 ≤ s) (hs2 : s ≤ 60) :
  Calls Tryz.prog 72 #[.slice ad d.length cd, .int .i64 (s : Int)] w fun e w' => LnS d s w e w' := by
 have N0 := below_new w (.cells #[.slice none 0 0, .int .i64 0, .slice none 0 0, .slice none 0 0, .slice none 0 0] 27)
 have R0 := row5 w 27 (.slice none 0 0) (.int .i64 0) (.slice none 0 0) (.slice none 0 0) (.slice none 0 0)
 have KC := Hid.mk' (l1Copy_sm ad cd d _ (hd.below N0) (by omega))
 have HB := Hid.mk' N0
 have HD := Hid.mk' hd
 have HU := Hid.mk' hu
 have HR := Hid.mk' R0
 have z0 : (w.alloc (.cells #[.slice none 0 0, .int .i64 0, .slice none 0 0, .slice none 0 0, .slice none 0 0] 27)).heap.size = w.heap.size + 1 := by simp
 have Z0 := Hid.mk' z0
 clear N0 R0 hd hu z0
 generalize hW : w.alloc (.cells #[.slice none 0 0, .int .i64 0, .slice none 0 0, .slice none 0 0, .slice none 0 0] 27) = W at *
 go_enter Tryz.func72, Tryz.ntmps72
 go_wp2_with fail
 clear hW
 refine KC.out.mono ?_
 rintro e w1 ⟨dv, rfl, smd, od, hb1⟩
 obtain ⟨da, dc, rfl, -⟩ := own_src od
 have SMD : Hid (∃ b, (Value.slice da d.length dc).ownBlock = some b) := Hid.mk' smd
 clear smd
 rw [Z0.out] at od
 have B1 := HB.out.trans (hb1.mono HB.out.size)
 have N1 := below_new w1 (.cells #[.slice da d.length dc, .int .i64 (s : Int), .slice none 0 0, .slice none 0 0, .slice none 0 0] 27)
 have N2 := N1.alloc (by simp) (.cells #[] 5)
 have l1 := HR.out.lt
 have l2 := hb1.size
 have M0 : MD w d s 0 0 w1.heap.size (.slice da d.length dc) (.slice none 0 0) (.slice none 0 0) (.slice (some ⟨w1.heap.size + 1, 0, none⟩) 0 0) [] (fun _ => .slice none 0 0) ((w1.alloc (.cells #[.slice da d.length dc, .int .i64 (s : Int), .slice none 0 0, .slice none 0 0, .slice none 0 0] 27)).alloc (.cells #[] 5)) := by
  have e0 : allX [] [] (d.take 0) = ([], []) := by simp [allX]
  refine ⟨B1.trans (N2.mono B1.size), (row5 w1 27 _ _ _ _ _).alloc _, rowB (rowB HR.out hb1) N2, by omega, (fun h => by simp [Value.ownBlock] at h), (fun h => by simp [Value.ownBlock] at h), ?_, (by rw [e0]; rfl), fun u hu => (by cases hu), ⟨rfl, .inl ⟨rfl, rfl⟩⟩, fun q e => by simp [Value.ownBlock] at e, ?_, ?_, ?_, ?_, fun i hi => absurd hi (Nat.not_lt_zero _)⟩
  ·rw [e0]; exact ⟨rfl, .inl ⟨rfl, rfl⟩⟩
  ·rw [e0]; exact TC.nil _ _
  ·exact own_keep od N2
  ·exact fun q e => (od.lt q e).2
  ·rw [e0]; exact ⟨fun _ => False, fun k hk => absurd hk id, _, _, rfl, Nat.le_refl _, fun _ _ => .inl rfl⟩
 have HM := Hid.mk' M0
 clear M0 N1 N2 B1 l1 l2 od hb1 KC HB HR
 go_wp2
 generalize hG : w1.heap.size = g at *
 go_loopw [6, 7] (fun hv i wr => ∃ (k : Nat) (tv cv : Value) (us : List Value) (hvs : Nat → Value), k ≤ d.length + 1 ∧ i = .int .i64 k ∧ MD w d s k ((k + s - 1) / s) g (.slice da d.length dc) tv cv hv us hvs wr) (fun _ i _ => d.length + 1 - (intOf i).toNat)
 case atStart => exact ⟨0, _, _, _, _, Nat.zero_le _, rfl, by rw [show (0 + s - 1) / s = 0 from Nat.div_eq_of_lt (by omega)]; exact HM.out⟩
 case round =>
  obtain ⟨k, tv, cv, us, hvs, hk, rfl, hr⟩ := hrel
  by_cases hlt : k ≤ d.length
  ·have ci : (k : Int) ≤ (d.length : Int) := by omega

   obtain ⟨r, hr1⟩ : ∃ r : Nat, k % s = r := ⟨_, rfl⟩
   have hmod : (k : Int).tmod (s : Int) = (r : Int) := by rw [← hr1]; rfl
   have HR1 := Hid.mk' hr1
   obtain ⟨C, hC⟩ : ∃ C, (k + s - 1) / s = C := ⟨_, rfl⟩
   rw [hC] at hr
   have hC2 : C ≤ k + s - 1 := by rw [← hC]; exact Nat.div_le_self _ _
   have HC := Hid.mk' hC
   clear hC hr1
   have MID : Hid (∀ (C' : Nat) (cv' : Value) (hvs' : Nat → Value) (wm : World), (k + 1 + s - 1) / s = C' → MD w d s k C' g (.slice da d.length dc) tv cv' u6 us hvs' wm → True) := Hid.mk' (fun _ _ _ _ _ _ => trivial)
   clear MID
   obtain ⟨ta, tc, rfl, -⟩ := own_src hr.tr
   obtain ⟨ca, cc, rfl, -⟩ := own_src hr.cr
   obtain ⟨ha, hc, rfl, hcap, hbt⟩ := hr.hd.at
   obtain ⟨c0, c1, c2, c3, c4, gl⟩ := cells5 hr.box
   have HBT := Hid.mk' hbt
   have HMS := Hid.mk' hr
   have hgd : GoodH (allX [] [] (d.take k)).2 := allX_good _ _ _ (.inl rfl)
   have hby : Byt (allX [] [] (d.take k)).2 := allX_byt _ _ _ (fun x hx => HU.out.mem x (List.mem_of_mem_take hx)) Byt.nil
   have lT : (allX [] [] (d.take k)).1.length ≤ 161 * 240 := by
    have := allX_len (d.take k) [] [] (by simp)
    have l2 : (d.take k).length ≤ 240 := by rw [List.length_take]; omega
    simp only [List.length_nil, Nat.zero_add] at this
    omega
   have lH := hgd.len
   have OLD : Hid (∀ q, XB g g (.slice ta (allX [] [] (d.take k)).1.length tc) (.slice ca C cc) q → q < wr.heap.size) := Hid.mk' (fun q h => by
    rcases h with h | h | h | h
    ·have := hr.box.lt; omega
    ·rw [h]; exact hr.box.lt
    ·exact (hr.tr.lt q h).2
    ·exact (hr.cr.lt q h).2)
   have HG := Hid.mk' hgd
   have HY := Hid.mk' hby
   clear hgd hby hr hbt
   generalize hT : (allX [] [] (d.take k)).1 = T at *
   generalize hH : (allX [] [] (d.take k)).2 = H at *
   have HT := Hid.mk' hT
   have HH := Hid.mk' hH
   clear hT hH
   by_cases h0 : r = 0
   ·subst h0
    have H0 := HR1
    have HCS : Hid (C * s = k) := Hid.mk' (by have := (cnt_div hs H0.out).1; rw [HC.out] at this; exact this)
    have HTN : Hid (tkN d s C = T) := Hid.mk' (by show (allX [] [] (d.take (C * s))).1 = T; rw [HCS.out]; exact HT.out)
    have HHN : Hid (hdN d s C = H) := Hid.mk' (by show (allX [] [] (d.take (C * s))).2 = H; rw [HCS.out]; exact HH.out)
    go_wp2
    refine wp_region_held_drew (S := (fun w' => w'.cell? ⟨g, 2, none⟩ = some (.slice ta T.length tc))) (by kernel_rfl) c2 (fun hHeld => ?_)
    refine tkY 0 ?_
    refine tkY 2 ?_
    refine tkY 3 ?_
    refine tkY 4 ?_
    refine tkY 5 ?_
    refine tkY 6 ?_
    refine wpAnyH_ready (rs := [1, 7]) (by kernel_rfl) (by simp) ?_
    refine AllReadyH.cons (o := ⟨_, _, _, _, _, _⟩) rfl (fun K hK => ?_) (AllReadyH.cons (o := ⟨_, _, _, _, _, _⟩) rfl (fun K hK => ?_) AllReadyH.nil)
    ·go_simp
     refine hK.out _ _ (by assumption) (fun hHeld => ?_)
     clear hK K
     try simp only [Act.put, zA, zB, zC]
     refine wpAnyH_ready (rs := [7]) (by kernel_rfl) (by simp) ?_
     refine AllReadyH.cons (o := ⟨_, _, _, _, _, _⟩) rfl (fun K hK => ?_) AllReadyH.nil
     go_simp
     refine (l1Copy_own ha hc H _ (HBT.out.below (Below.refl _ _).drew) (by omega)).mono ?_
     rintro e w2 ⟨v, rfl, ov, hb2⟩
     replace hb2 := undrew hb2
     obtain ⟨va, vc, rfl, -⟩ := own_src ov
     refine hK.out _ _ ((hb2.cell (p := ⟨g, 2, none⟩) gl).trans c2) (fun hHeld => ?_)
     clear hK K
     try simp only [Act.put, zA, zB, zC]
     refine tkY 8 ?_
     refine wpAnyH_ready (rs := [9]) (by kernel_rfl) (by simp) ?_
     refine AllReadyH.cons (o := ⟨_, _, _, _, _, _⟩) rfl (fun K hK => ?_) AllReadyH.nil
     go_simp
     have N3 := below_new w2 (.cells #[.int .i64 (k : Int), .int .i64 (T.length : Int), .slice va H.length vc] 31)
     have B3 := hb2.trans (N3.mono hb2.size)
     refine hK.out _ _ ((B3.cell (p := ⟨g, 2, none⟩) gl).trans c2) (fun hHeld => ?_)
     clear hK K
     try simp only [Act.put, zA, zB, zC]
     have OWC := Hid.mk' (HMS.out.keep B3).cr
     obtain ⟨q0, q1, q2_, q3⟩ := cells3 (row3 w2 31 (.int .i64 (k : Int)) (.int .i64 (T.length : Int)) (.slice va H.length vc))
     have BV : Hid (BT (XB g g (.slice ta T.length tc) (.slice ca C cc)) (w2.alloc (.cells #[.int .i64 (k : Int), .int .i64 (T.length : Int), .slice va H.length vc] 31)) (.slice va H.length vc) H) := Hid.mk' (BT.of_own (own_keep ov N3) (fun q eq hx => by
      have h1 := (ov.lt q eq).1
      have h2 := OLD.out q hx
      exact absurd h1 (Nat.not_le_of_lt h2)))
     have HB3 := Hid.mk' B3
     have hbs : Hid (g + 1 ≤ (w2.alloc (.cells #[.int .i64 (k : Int), .int .i64 (T.length : Int), .slice va H.length vc] 31)).heap.size) := Hid.mk' (by have := HMS.out.gl; have := HMS.out.box.lt; have := B3.size; omega)
     clear N3 B3
     generalize hW3 : w2.alloc (.cells #[.int .i64 (k : Int), .int .i64 (T.length : Int), .slice va H.length vc] 31) = W3 at *
     refine wpAnyH_ready (rs := [10]) (by kernel_rfl) (by simp) ?_
     refine AllReadyH.cons (o := ⟨_, _, _, _, _, _⟩) rfl (fun K hK => ?_) AllReadyH.nil
     refine step_append_at rfl (.tmp 26) (.tmp 34) 25 rfl (g + 1) 31 (.agg #[.int .i64 0, .int .i64 0, .slice none 0 0]) 3 40 Tryz.underlying25 infoCheck rfl (by decide) _ _ _ rfl OWC.out _ 1 1 [.int .i64 (k : Int), .int .i64 (T.length : Int), .slice va H.length vc] rfl rfl (.inr ⟨⟨w2.heap.size, 0, none⟩, rfl, fun j u hu => by
      have hj : j = 0 ∨ j = 1 ∨ j = 2 := by
       have := (List.getElem?_eq_some_iff.1 hu).1
       simp at this; omega
      rcases hj with rfl | rfl | rfl
      ·cases hu; exact q0
      ·cases hu; exact q1
      ·cases hu; exact q2_⟩) (fun u hu => by
      simp only [List.mem_cons, List.mem_nil_iff, or_false] at hu
      rcases hu with rfl | rfl | rfl <;> rfl) (by unfold maxLen; omega) (by omega) hbs.out ?_
     intro cv' w4 ho hg hat
     obtain ⟨ca', cc', rfl, -⟩ := own_src ho
     have NEW := Hid.mk' (HMS.out.check (v := .slice va H.length vc) HB3.out (by rw [HHN.out]; exact BV.out) (by rw [HCS.out, HTN.out]; exact ho) hg hat)
     have RB := rowB HMS.out.box HB3.out
     have RB2 := RB.of_block (hg.block g RB.lt (fun e => HMS.out.gc e.symm))
     obtain ⟨m0, m1, m2, m3, m4, m5⟩ := cells5 RB2
     have fm4 := RB2.frozen 4
     refine hK.out _ _ m2 (fun hHeld => ?_)
     clear hK K ho hat RB
     try simp only [Act.put, zA, zB, zC]
     refine tkY 11 ?_
     refine wpAnyH_ready (rs := [12]) (by kernel_rfl) (by simp) ?_
     refine AllReadyH.cons (o := ⟨_, _, _, _, _, _⟩) rfl (fun K hK => ?_) AllReadyH.nil
     go_simp
     refine hK.out _ _ (by rw [World.cell?_setCell_other _ _ _ _ (by simp)]; exact m2) (fun hHeld => ?_)
     clear hK K
     try simp only [Act.put, zA, zB, zC]
     refine wpAnyH_done (by kernel_rfl) ?_ _
     clear hHeld m0 m1 m2 m3 m4 m5 fm4 RB2 hg q0 q1 q2_ q3 hW3 OWC hbs HB3 BV ov hb2
     have e9 : Hid ((k + 1 + s - 1) / s = C + 1) := Hid.mk' (by have := (cnt_div hs H0.out).2; rw [HC.out] at this; exact this)
     generalize hWM : w4.setCell ⟨g, 4, none⟩ (.slice ca' (C + 1) cc') = WM at *
     clear hWM
     by_cases klt : k < d.length
     ·have ck : (k : Int) < (d.length : Int) := by omega
      rcases HD.out.below NEW.out.bel with hd0 | ⟨b9, o9, rfl, hbs9, hc9⟩
      ·exact absurd klt (by rw [hd0]; exact Nat.not_lt_zero _)
      obtain ⟨y0, y1⟩ := HU.out k klt
      obtain ⟨y, hyy⟩ : ∃ y : Nat, d.getD k 0 = (y : Int) := ⟨(d.getD k 0).toNat, by omega⟩
      rw [hyy] at y1
      have hcell : WM.cell? ⟨b9, o9 + k, none⟩ = some (.int .u8 y) := by rw [← hyy]; exact hc9 k klt
      have ES : Hid (allX [] [] (d.take (k + 1)) = (T ++ (feedX H y).1, (feedX H y).2)) := Hid.mk' (by
       rw [take_snoc_int klt, allX_append, hyy, HT.out, HH.out]
       simp [allX])
      have fl := feedX_len H y
      have pb : BAt WM ha H := by
       obtain ⟨pa, pc, pe, _, pb⟩ := NEW.out.hd.at
       rw [HH.out] at pe pb
       injection pe with pe1 _ _
       all_goals first | (subst pe1; exact pb) | exact pb
      have KF := Hid.mk' (l5Feed_any ha hc H y WM pb HY.out hcap (by omega) (by omega))
      obtain ⟨n0, n1, n2, n3, n4, n5⟩ := cells5 NEW.out.box
      clear hc9 hyy y0 pb
      generalize feedX H y = R at *
      go_wp2_with (first | go_big_skip | fail)
      refine KF.out.mono ?_
      intro e w5 hx
      obtain ⟨v1, u1, us1, rfl, t1, hA, o1, b1⟩ := hx.toks
      obtain ⟨a1, c1_, rfl, s1⟩ := own_src t1.row
      obtain ⟨ua, uc, rfl, -⟩ := own_src o1
      have BX := Hid.mk' (rowB NEW.out.box b1)
      obtain ⟨p0, p1, p2_, p3, p4, p5⟩ := cells5 BX.out
      have OV := Hid.mk' (own_keep NEW.out.tr b1)
      rw [HT.out] at OV
      have S1 := Hid.mk' s1
      have LN := Hid.mk' (tcs_len R.1 us1 t1.len)
      have P1 := Hid.mk' (tcs_one R.1 us1 t1.one)
      have HA := Hid.mk' (hA none (fun k hk => by cases hk))
      have O1 := Hid.mk' o1
      have B2 := Hid.mk' b1
      have T1 := Hid.mk' t1
      have SZ : Hid (g + 1 ≤ w5.heap.size) := Hid.mk' (by have := NEW.out.gl; have := NEW.out.box.lt; have := b1.size; omega)
      have GT : Hid (some g ≠ (Value.slice ta T.length tc).ownBlock) := Hid.mk' (fun e => NEW.out.gt e.symm)
      clear hx t1 hA o1 b1 s1 KF n0 n1 n2 n3 n4 n5 hcell
      go_wp2_with (first | (at_builtin; refine wpList_append_at _ rfl (.tmp 51) (.tmp 52) 24 rfl (g + 1) 107 (.agg #[.int .i64 0, .int .i64 0, .string ⟨#[]⟩, .slice none 0 0, .bool false]) 5 64 Tryz.underlying24 Tryz.infoTok rfl (by decide) _ _ _ rfl OV.out _ R.1.length _ (tcs R.1 us1) rfl LN.out S1.out P1.out (by unfold maxLen; omega) (by omega) SZ.out ?_; intro tv' w6 ho hg hat; obtain ⟨a6, c6, rfl, _⟩ := own_src ho; have RB6 := BX.out.of_block (hg.block g BX.out.lt GT.out); obtain ⟨k0, k1, k2, k3, k4, k5⟩ := cells5 RB6; have fk2 := RB6.frozen 2; clear RB6) | fail)
      have NEW2 := Hid.mk' (NEW.out.feed (R := R) (hv' := .slice ua R.2.length uc) (by rw [ES.out, HT.out]) B2.out T1.out.len T1.out.one HA.out O1.out (by rw [HT.out]; exact ho) hg hat)
      clear ho hg hat
      go_roundw
      case rel => exact ⟨k + 1, _, _, _, _, by omega, by go_num, by rw [e9.out]; exact NEW2.out⟩
      case measure => first | (simp [intOf]; omega) | simp [intOf]
     ·have ck : ¬ (k : Int) < (d.length : Int) := by omega
      go_wp2
      go_roundw
      case rel => exact ⟨k + 1, _, _, _, _, by omega, by go_num, by rw [e9.out]; exact NEW.out.over (by omega)⟩
      case measure => first | (simp [intOf]; omega) | simp [intOf]

    ·go_simp
     refine (l1Copy_own ha hc H _ (HBT.out.below (Below.refl _ _).drew) (by omega)).mono ?_
     rintro e w2 ⟨v, rfl, ov, hb2⟩
     replace hb2 := undrew hb2
     obtain ⟨va, vc, rfl, -⟩ := own_src ov
     refine hK.out _ _ ((hb2.cell (p := ⟨g, 2, none⟩) gl).trans c2) (fun hHeld => ?_)
     clear hK K
     try simp only [Act.put, zA, zB, zC]
     refine tkY 8 ?_
     have c4' := (hb2.cell (p := ⟨g, 4, none⟩) gl).trans c4
     refine wpAnyH_ready (rs := [1, 9]) (by kernel_rfl) (by simp) ?_
     refine AllReadyH.cons (o := ⟨_, _, _, _, _, _⟩) rfl (fun K hK => ?_) (AllReadyH.cons (o := ⟨_, _, _, _, _, _⟩) rfl (fun K hK => ?_) AllReadyH.nil)
     ·go_simp
      refine hK.out _ _ (by assumption) (fun hHeld => ?_)
      clear hK K c4' 
      try simp only [Act.put, zA, zB, zC]
      refine wpAnyH_ready (rs := [9]) (by kernel_rfl) (by simp) ?_
      refine AllReadyH.cons (o := ⟨_, _, _, _, _, _⟩) rfl (fun K hK => ?_) AllReadyH.nil
      go_simp
      have N3 := below_new w2 (.cells #[.int .i64 (k : Int), .int .i64 (T.length : Int), .slice va H.length vc] 31)
      have B3 := hb2.trans (N3.mono hb2.size)
      refine hK.out _ _ ((B3.cell (p := ⟨g, 2, none⟩) gl).trans c2) (fun hHeld => ?_)
      clear hK K
      try simp only [Act.put, zA, zB, zC]
      have OWC := Hid.mk' (HMS.out.keep B3).cr
      obtain ⟨q0, q1, q2_, q3⟩ := cells3 (row3 w2 31 (.int .i64 (k : Int)) (.int .i64 (T.length : Int)) (.slice va H.length vc))
      have BV : Hid (BT (XB g g (.slice ta T.length tc) (.slice ca C cc)) (w2.alloc (.cells #[.int .i64 (k : Int), .int .i64 (T.length : Int), .slice va H.length vc] 31)) (.slice va H.length vc) H) := Hid.mk' (BT.of_own (own_keep ov N3) (fun q eq hx => by
       have h1 := (ov.lt q eq).1
       have h2 := OLD.out q hx
       exact absurd h1 (Nat.not_le_of_lt h2)))
      have HB3 := Hid.mk' B3
      have hbs : Hid (g + 1 ≤ (w2.alloc (.cells #[.int .i64 (k : Int), .int .i64 (T.length : Int), .slice va H.length vc] 31)).heap.size) := Hid.mk' (by have := HMS.out.gl; have := HMS.out.box.lt; have := B3.size; omega)
      clear N3 B3
      generalize hW3 : w2.alloc (.cells #[.int .i64 (k : Int), .int .i64 (T.length : Int), .slice va H.length vc] 31) = W3 at *
      refine wpAnyH_ready (rs := [10]) (by kernel_rfl) (by simp) ?_
      refine AllReadyH.cons (o := ⟨_, _, _, _, _, _⟩) rfl (fun K hK => ?_) AllReadyH.nil
      refine step_append_at rfl (.tmp 26) (.tmp 34) 25 rfl (g + 1) 31 (.agg #[.int .i64 0, .int .i64 0, .slice none 0 0]) 3 40 Tryz.underlying25 infoCheck rfl (by decide) _ _ _ rfl OWC.out _ 1 1 [.int .i64 (k : Int), .int .i64 (T.length : Int), .slice va H.length vc] rfl rfl (.inr ⟨⟨w2.heap.size, 0, none⟩, rfl, fun j u hu => by
       have hj : j = 0 ∨ j = 1 ∨ j = 2 := by
        have := (List.getElem?_eq_some_iff.1 hu).1
        simp at this; omega
       rcases hj with rfl | rfl | rfl
       ·cases hu; exact q0
       ·cases hu; exact q1
       ·cases hu; exact q2_⟩) (fun u hu => by
       simp only [List.mem_cons, List.mem_nil_iff, or_false] at hu
       rcases hu with rfl | rfl | rfl <;> rfl) (by unfold maxLen; omega) (by omega) hbs.out ?_
      intro cv' w4 ho hg hat
      obtain ⟨ca', cc', rfl, -⟩ := own_src ho
      have NEW := Hid.mk' (HMS.out.check (v := .slice va H.length vc) HB3.out (by rw [HHN.out]; exact BV.out) (by rw [HCS.out, HTN.out]; exact ho) hg hat)
      have RB := rowB HMS.out.box HB3.out
      have RB2 := RB.of_block (hg.block g RB.lt (fun e => HMS.out.gc e.symm))
      obtain ⟨m0, m1, m2, m3, m4, m5⟩ := cells5 RB2
      have fm4 := RB2.frozen 4
      refine hK.out _ _ m2 (fun hHeld => ?_)
      clear hK K ho hat RB
      try simp only [Act.put, zA, zB, zC]
      refine tkY 11 ?_
      refine wpAnyH_ready (rs := [12]) (by kernel_rfl) (by simp) ?_
      refine AllReadyH.cons (o := ⟨_, _, _, _, _, _⟩) rfl (fun K hK => ?_) AllReadyH.nil
      go_simp
      refine hK.out _ _ (by rw [World.cell?_setCell_other _ _ _ _ (by simp)]; exact m2) (fun hHeld => ?_)
      clear hK K
      try simp only [Act.put, zA, zB, zC]
      refine wpAnyH_done (by kernel_rfl) ?_ _
      clear hHeld m0 m1 m2 m3 m4 m5 fm4 RB2 hg q0 q1 q2_ q3 hW3 OWC hbs HB3 BV ov hb2
      have e9 : Hid ((k + 1 + s - 1) / s = C + 1) := Hid.mk' (by have := (cnt_div hs H0.out).2; rw [HC.out] at this; exact this)
      generalize hWM : w4.setCell ⟨g, 4, none⟩ (.slice ca' (C + 1) cc') = WM at *
      clear hWM
      by_cases klt : k < d.length
      ·have ck : (k : Int) < (d.length : Int) := by omega
       rcases HD.out.below NEW.out.bel with hd0 | ⟨b9, o9, rfl, hbs9, hc9⟩
       ·exact absurd klt (by rw [hd0]; exact Nat.not_lt_zero _)
       obtain ⟨y0, y1⟩ := HU.out k klt
       obtain ⟨y, hyy⟩ : ∃ y : Nat, d.getD k 0 = (y : Int) := ⟨(d.getD k 0).toNat, by omega⟩
       rw [hyy] at y1
       have hcell : WM.cell? ⟨b9, o9 + k, none⟩ = some (.int .u8 y) := by rw [← hyy]; exact hc9 k klt
       have ES : Hid (allX [] [] (d.take (k + 1)) = (T ++ (feedX H y).1, (feedX H y).2)) := Hid.mk' (by
        rw [take_snoc_int klt, allX_append, hyy, HT.out, HH.out]
        simp [allX])
       have fl := feedX_len H y
       have pb : BAt WM ha H := by
        obtain ⟨pa, pc, pe, _, pb⟩ := NEW.out.hd.at
        rw [HH.out] at pe pb
        injection pe with pe1 _ _
        all_goals first | (subst pe1; exact pb) | exact pb
       have KF := Hid.mk' (l5Feed_any ha hc H y WM pb HY.out hcap (by omega) (by omega))
       obtain ⟨n0, n1, n2, n3, n4, n5⟩ := cells5 NEW.out.box
       clear hc9 hyy y0 pb
       generalize feedX H y = R at *
       go_wp2_with (first | go_big_skip | fail)
       refine KF.out.mono ?_
       intro e w5 hx
       obtain ⟨v1, u1, us1, rfl, t1, hA, o1, b1⟩ := hx.toks
       obtain ⟨a1, c1_, rfl, s1⟩ := own_src t1.row
       obtain ⟨ua, uc, rfl, -⟩ := own_src o1
       have BX := Hid.mk' (rowB NEW.out.box b1)
       obtain ⟨p0, p1, p2_, p3, p4, p5⟩ := cells5 BX.out
       have OV := Hid.mk' (own_keep NEW.out.tr b1)
       rw [HT.out] at OV
       have S1 := Hid.mk' s1
       have LN := Hid.mk' (tcs_len R.1 us1 t1.len)
       have P1 := Hid.mk' (tcs_one R.1 us1 t1.one)
       have HA := Hid.mk' (hA none (fun k hk => by cases hk))
       have O1 := Hid.mk' o1
       have B2 := Hid.mk' b1
       have T1 := Hid.mk' t1
       have SZ : Hid (g + 1 ≤ w5.heap.size) := Hid.mk' (by have := NEW.out.gl; have := NEW.out.box.lt; have := b1.size; omega)
       have GT : Hid (some g ≠ (Value.slice ta T.length tc).ownBlock) := Hid.mk' (fun e => NEW.out.gt e.symm)
       clear hx t1 hA o1 b1 s1 KF n0 n1 n2 n3 n4 n5 hcell
       go_wp2_with (first | (at_builtin; refine wpList_append_at _ rfl (.tmp 51) (.tmp 52) 24 rfl (g + 1) 107 (.agg #[.int .i64 0, .int .i64 0, .string ⟨#[]⟩, .slice none 0 0, .bool false]) 5 64 Tryz.underlying24 Tryz.infoTok rfl (by decide) _ _ _ rfl OV.out _ R.1.length _ (tcs R.1 us1) rfl LN.out S1.out P1.out (by unfold maxLen; omega) (by omega) SZ.out ?_; intro tv' w6 ho hg hat; obtain ⟨a6, c6, rfl, _⟩ := own_src ho; have RB6 := BX.out.of_block (hg.block g BX.out.lt GT.out); obtain ⟨k0, k1, k2, k3, k4, k5⟩ := cells5 RB6; have fk2 := RB6.frozen 2; clear RB6) | fail)
       have NEW2 := Hid.mk' (NEW.out.feed (R := R) (hv' := .slice ua R.2.length uc) (by rw [ES.out, HT.out]) B2.out T1.out.len T1.out.one HA.out O1.out (by rw [HT.out]; exact ho) hg hat)
       clear ho hg hat
       go_roundw
       case rel => exact ⟨k + 1, _, _, _, _, by omega, by go_num, by rw [e9.out]; exact NEW2.out⟩
       case measure => first | (simp [intOf]; omega) | simp [intOf]
      ·have ck : ¬ (k : Int) < (d.length : Int) := by omega
       go_wp2
       go_roundw
       case rel => exact ⟨k + 1, _, _, _, _, by omega, by go_num, by rw [e9.out]; exact NEW.out.over (by omega)⟩
       case measure => first | (simp [intOf]; omega) | simp [intOf]

     ·go_simp
      have N3 := below_new w2 (.cells #[.int .i64 (k : Int), .int .i64 (T.length : Int), .slice va H.length vc] 31)
      have B3 := hb2.trans (N3.mono hb2.size)
      refine hK.out _ _ ((B3.cell (p := ⟨g, 2, none⟩) gl).trans c2) (fun hHeld => ?_)
      clear hK K
      try simp only [Act.put, zA, zB, zC]
      have OWC := Hid.mk' (HMS.out.keep B3).cr
      obtain ⟨q0, q1, q2_, q3⟩ := cells3 (row3 w2 31 (.int .i64 (k : Int)) (.int .i64 (T.length : Int)) (.slice va H.length vc))
      have BV : Hid (BT (XB g g (.slice ta T.length tc) (.slice ca C cc)) (w2.alloc (.cells #[.int .i64 (k : Int), .int .i64 (T.length : Int), .slice va H.length vc] 31)) (.slice va H.length vc) H) := Hid.mk' (BT.of_own (own_keep ov N3) (fun q eq hx => by
       have h1 := (ov.lt q eq).1
       have h2 := OLD.out q hx
       exact absurd h1 (Nat.not_le_of_lt h2)))
      have HB3 := Hid.mk' B3
      have hbs : Hid (g + 1 ≤ (w2.alloc (.cells #[.int .i64 (k : Int), .int .i64 (T.length : Int), .slice va H.length vc] 31)).heap.size) := Hid.mk' (by have := HMS.out.gl; have := HMS.out.box.lt; have := B3.size; omega)
      clear N3 B3
      generalize hW3 : w2.alloc (.cells #[.int .i64 (k : Int), .int .i64 (T.length : Int), .slice va H.length vc] 31) = W3 at *
      have c5' := (HB3.out.cell (p := ⟨g, 4, none⟩) gl).trans c4
      clear c4'
      refine wpAnyH_ready (rs := [1]) (by kernel_rfl) (by simp) ?_
      refine AllReadyH.cons (o := ⟨_, _, _, _, _, _⟩) rfl (fun K hK => ?_) AllReadyH.nil
      go_simp
      refine hK.out _ _ (by assumption) (fun hHeld => ?_)
      clear hK K
      try simp only [Act.put, zA, zB, zC]
      clear c5'
      refine wpAnyH_ready (rs := [10]) (by kernel_rfl) (by simp) ?_
      refine AllReadyH.cons (o := ⟨_, _, _, _, _, _⟩) rfl (fun K hK => ?_) AllReadyH.nil
      refine step_append_at rfl (.tmp 26) (.tmp 34) 25 rfl (g + 1) 31 (.agg #[.int .i64 0, .int .i64 0, .slice none 0 0]) 3 40 Tryz.underlying25 infoCheck rfl (by decide) _ _ _ rfl OWC.out _ 1 1 [.int .i64 (k : Int), .int .i64 (T.length : Int), .slice va H.length vc] rfl rfl (.inr ⟨⟨w2.heap.size, 0, none⟩, rfl, fun j u hu => by
       have hj : j = 0 ∨ j = 1 ∨ j = 2 := by
        have := (List.getElem?_eq_some_iff.1 hu).1
        simp at this; omega
       rcases hj with rfl | rfl | rfl
       ·cases hu; exact q0
       ·cases hu; exact q1
       ·cases hu; exact q2_⟩) (fun u hu => by
       simp only [List.mem_cons, List.mem_nil_iff, or_false] at hu
       rcases hu with rfl | rfl | rfl <;> rfl) (by unfold maxLen; omega) (by omega) hbs.out ?_
      intro cv' w4 ho hg hat
      obtain ⟨ca', cc', rfl, -⟩ := own_src ho
      have NEW := Hid.mk' (HMS.out.check (v := .slice va H.length vc) HB3.out (by rw [HHN.out]; exact BV.out) (by rw [HCS.out, HTN.out]; exact ho) hg hat)
      have RB := rowB HMS.out.box HB3.out
      have RB2 := RB.of_block (hg.block g RB.lt (fun e => HMS.out.gc e.symm))
      obtain ⟨m0, m1, m2, m3, m4, m5⟩ := cells5 RB2
      have fm4 := RB2.frozen 4
      refine hK.out _ _ m2 (fun hHeld => ?_)
      clear hK K ho hat RB
      try simp only [Act.put, zA, zB, zC]
      refine tkY 11 ?_
      refine wpAnyH_ready (rs := [12]) (by kernel_rfl) (by simp) ?_
      refine AllReadyH.cons (o := ⟨_, _, _, _, _, _⟩) rfl (fun K hK => ?_) AllReadyH.nil
      go_simp
      refine hK.out _ _ (by rw [World.cell?_setCell_other _ _ _ _ (by simp)]; exact m2) (fun hHeld => ?_)
      clear hK K
      try simp only [Act.put, zA, zB, zC]
      refine wpAnyH_done (by kernel_rfl) ?_ _
      clear hHeld m0 m1 m2 m3 m4 m5 fm4 RB2 hg q0 q1 q2_ q3 hW3 OWC hbs HB3 BV ov hb2
      have e9 : Hid ((k + 1 + s - 1) / s = C + 1) := Hid.mk' (by have := (cnt_div hs H0.out).2; rw [HC.out] at this; exact this)
      generalize hWM : w4.setCell ⟨g, 4, none⟩ (.slice ca' (C + 1) cc') = WM at *
      clear hWM
      by_cases klt : k < d.length
      ·have ck : (k : Int) < (d.length : Int) := by omega
       rcases HD.out.below NEW.out.bel with hd0 | ⟨b9, o9, rfl, hbs9, hc9⟩
       ·exact absurd klt (by rw [hd0]; exact Nat.not_lt_zero _)
       obtain ⟨y0, y1⟩ := HU.out k klt
       obtain ⟨y, hyy⟩ : ∃ y : Nat, d.getD k 0 = (y : Int) := ⟨(d.getD k 0).toNat, by omega⟩
       rw [hyy] at y1
       have hcell : WM.cell? ⟨b9, o9 + k, none⟩ = some (.int .u8 y) := by rw [← hyy]; exact hc9 k klt
       have ES : Hid (allX [] [] (d.take (k + 1)) = (T ++ (feedX H y).1, (feedX H y).2)) := Hid.mk' (by
        rw [take_snoc_int klt, allX_append, hyy, HT.out, HH.out]
        simp [allX])
       have fl := feedX_len H y
       have pb : BAt WM ha H := by
        obtain ⟨pa, pc, pe, _, pb⟩ := NEW.out.hd.at
        rw [HH.out] at pe pb
        injection pe with pe1 _ _
        all_goals first | (subst pe1; exact pb) | exact pb
       have KF := Hid.mk' (l5Feed_any ha hc H y WM pb HY.out hcap (by omega) (by omega))
       obtain ⟨n0, n1, n2, n3, n4, n5⟩ := cells5 NEW.out.box
       clear hc9 hyy y0 pb
       generalize feedX H y = R at *
       go_wp2_with (first | go_big_skip | fail)
       refine KF.out.mono ?_
       intro e w5 hx
       obtain ⟨v1, u1, us1, rfl, t1, hA, o1, b1⟩ := hx.toks
       obtain ⟨a1, c1_, rfl, s1⟩ := own_src t1.row
       obtain ⟨ua, uc, rfl, -⟩ := own_src o1
       have BX := Hid.mk' (rowB NEW.out.box b1)
       obtain ⟨p0, p1, p2_, p3, p4, p5⟩ := cells5 BX.out
       have OV := Hid.mk' (own_keep NEW.out.tr b1)
       rw [HT.out] at OV
       have S1 := Hid.mk' s1
       have LN := Hid.mk' (tcs_len R.1 us1 t1.len)
       have P1 := Hid.mk' (tcs_one R.1 us1 t1.one)
       have HA := Hid.mk' (hA none (fun k hk => by cases hk))
       have O1 := Hid.mk' o1
       have B2 := Hid.mk' b1
       have T1 := Hid.mk' t1
       have SZ : Hid (g + 1 ≤ w5.heap.size) := Hid.mk' (by have := NEW.out.gl; have := NEW.out.box.lt; have := b1.size; omega)
       have GT : Hid (some g ≠ (Value.slice ta T.length tc).ownBlock) := Hid.mk' (fun e => NEW.out.gt e.symm)
       clear hx t1 hA o1 b1 s1 KF n0 n1 n2 n3 n4 n5 hcell
       go_wp2_with (first | (at_builtin; refine wpList_append_at _ rfl (.tmp 51) (.tmp 52) 24 rfl (g + 1) 107 (.agg #[.int .i64 0, .int .i64 0, .string ⟨#[]⟩, .slice none 0 0, .bool false]) 5 64 Tryz.underlying24 Tryz.infoTok rfl (by decide) _ _ _ rfl OV.out _ R.1.length _ (tcs R.1 us1) rfl LN.out S1.out P1.out (by unfold maxLen; omega) (by omega) SZ.out ?_; intro tv' w6 ho hg hat; obtain ⟨a6, c6, rfl, _⟩ := own_src ho; have RB6 := BX.out.of_block (hg.block g BX.out.lt GT.out); obtain ⟨k0, k1, k2, k3, k4, k5⟩ := cells5 RB6; have fk2 := RB6.frozen 2; clear RB6) | fail)
       have NEW2 := Hid.mk' (NEW.out.feed (R := R) (hv' := .slice ua R.2.length uc) (by rw [ES.out, HT.out]) B2.out T1.out.len T1.out.one HA.out O1.out (by rw [HT.out]; exact ho) hg hat)
       clear ho hg hat
       go_roundw
       case rel => exact ⟨k + 1, _, _, _, _, by omega, by go_num, by rw [e9.out]; exact NEW2.out⟩
       case measure => first | (simp [intOf]; omega) | simp [intOf]
      ·have ck : ¬ (k : Int) < (d.length : Int) := by omega
       go_wp2
       go_roundw
       case rel => exact ⟨k + 1, _, _, _, _, by omega, by go_num, by rw [e9.out]; exact NEW.out.over (by omega)⟩
       case measure => first | (simp [intOf]; omega) | simp [intOf]

   ·have e0 : ((r : Int) == 0) = false := beq_eq_false_iff_ne.2 (by omega)
    have e9 : Hid ((k + 1 + s - 1) / s = C) := Hid.mk' (by have := cnt_not hs (by rw [HR1.out]; exact h0); rw [this]; exact HC.out)
    have NEW := HMS
    have h0' : ¬ (r : Int) = 0 := by omega
    by_cases klt : k < d.length
    ·have ck : (k : Int) < (d.length : Int) := by omega
     rcases HD.out.below NEW.out.bel with hd0 | ⟨b9, o9, rfl, hbs9, hc9⟩
     ·exact absurd klt (by rw [hd0]; exact Nat.not_lt_zero _)
     obtain ⟨y0, y1⟩ := HU.out k klt
     obtain ⟨y, hyy⟩ : ∃ y : Nat, d.getD k 0 = (y : Int) := ⟨(d.getD k 0).toNat, by omega⟩
     rw [hyy] at y1
     have hcell : wr.cell? ⟨b9, o9 + k, none⟩ = some (.int .u8 y) := by rw [← hyy]; exact hc9 k klt
     have ES : Hid (allX [] [] (d.take (k + 1)) = (T ++ (feedX H y).1, (feedX H y).2)) := Hid.mk' (by
      rw [take_snoc_int klt, allX_append, hyy, HT.out, HH.out]
      simp [allX])
     have fl := feedX_len H y
     have pb : BAt wr ha H := by
      obtain ⟨pa, pc, pe, _, pb⟩ := NEW.out.hd.at
      rw [HH.out] at pe pb
      injection pe with pe1 _ _
      all_goals first | (subst pe1; exact pb) | exact pb
     have KF := Hid.mk' (l5Feed_any ha hc H y wr pb HY.out hcap (by omega) (by omega))
     obtain ⟨n0, n1, n2, n3, n4, n5⟩ := cells5 NEW.out.box
     clear hc9 hyy y0 pb
     generalize feedX H y = R at *
     go_wp2_with (first | go_big_skip | fail)
     refine KF.out.mono ?_
     intro e w5 hx
     obtain ⟨v1, u1, us1, rfl, t1, hA, o1, b1⟩ := hx.toks
     obtain ⟨a1, c1_, rfl, s1⟩ := own_src t1.row
     obtain ⟨ua, uc, rfl, -⟩ := own_src o1
     have BX := Hid.mk' (rowB NEW.out.box b1)
     obtain ⟨p0, p1, p2_, p3, p4, p5⟩ := cells5 BX.out
     have OV := Hid.mk' (own_keep NEW.out.tr b1)
     rw [HT.out] at OV
     have S1 := Hid.mk' s1
     have LN := Hid.mk' (tcs_len R.1 us1 t1.len)
     have P1 := Hid.mk' (tcs_one R.1 us1 t1.one)
     have HA := Hid.mk' (hA none (fun k hk => by cases hk))
     have O1 := Hid.mk' o1
     have B2 := Hid.mk' b1
     have T1 := Hid.mk' t1
     have SZ : Hid (g + 1 ≤ w5.heap.size) := Hid.mk' (by have := NEW.out.gl; have := NEW.out.box.lt; have := b1.size; omega)
     have GT : Hid (some g ≠ (Value.slice ta T.length tc).ownBlock) := Hid.mk' (fun e => NEW.out.gt e.symm)
     clear hx t1 hA o1 b1 s1 KF n0 n1 n2 n3 n4 n5 hcell
     go_wp2_with (first | (at_builtin; refine wpList_append_at _ rfl (.tmp 51) (.tmp 52) 24 rfl (g + 1) 107 (.agg #[.int .i64 0, .int .i64 0, .string ⟨#[]⟩, .slice none 0 0, .bool false]) 5 64 Tryz.underlying24 Tryz.infoTok rfl (by decide) _ _ _ rfl OV.out _ R.1.length _ (tcs R.1 us1) rfl LN.out S1.out P1.out (by unfold maxLen; omega) (by omega) SZ.out ?_; intro tv' w6 ho hg hat; obtain ⟨a6, c6, rfl, _⟩ := own_src ho; have RB6 := BX.out.of_block (hg.block g BX.out.lt GT.out); obtain ⟨k0, k1, k2, k3, k4, k5⟩ := cells5 RB6; have fk2 := RB6.frozen 2; clear RB6) | fail)
     have NEW2 := Hid.mk' (NEW.out.feed (R := R) (hv' := .slice ua R.2.length uc) (by rw [ES.out, HT.out]) B2.out T1.out.len T1.out.one HA.out O1.out (by rw [HT.out]; exact ho) hg hat)
     clear ho hg hat
     go_roundw
     case rel => exact ⟨k + 1, _, _, _, _, by omega, by go_num, by rw [e9.out]; exact NEW2.out⟩
     case measure => first | (simp [intOf]; omega) | simp [intOf]
    ·have ck : ¬ (k : Int) < (d.length : Int) := by omega
     go_wp2
     go_roundw
     case rel => exact ⟨k + 1, _, _, _, _, by omega, by go_num, by rw [e9.out]; exact NEW.out.over (by omega)⟩
     case measure => first | (simp [intOf]; omega) | simp [intOf]

  ·have ci : ¬ (k : Int) ≤ (d.length : Int) := by omega
   obtain rfl : k = d.length + 1 := by omega
   rw [cnt_all d.length s hs] at hr
   have eD : d.take (d.length + 1) = d := List.take_of_length_le (by omega)
   obtain ⟨ha, hc, rfl, hcap, hbt⟩ := hr.hd.at
   obtain ⟨ta, tc, rfl, -⟩ := own_src hr.tr
   obtain ⟨ca, cc, rfl, -⟩ := own_src hr.cr
   have lH : (allX [] [] (d.take (d.length + 1))).2.length ≤ 159 := (allX_good _ _ _ (.inl rfl)).len
   have KC := Hid.mk' (l1Copy_own ha hc _ wr hbt (by omega))
   have HMS := Hid.mk' hr
   obtain ⟨c0, c1, c2, c3, c4, gl⟩ := cells5 hr.box
   have ED := Hid.mk' eD
   clear hr hbt eD
   generalize hT : (allX [] [] (d.take (d.length + 1))).1 = T at *
   generalize hH : (allX [] [] (d.take (d.length + 1))).2 = H at *
   have HT := Hid.mk' hT
   have HH := Hid.mk' hH
   generalize hJ : d.length / s + 1 = J at *
   have HJ := Hid.mk' hJ
   clear hT hH hJ
   go_wp2_with fail
   refine KC.out.mono ?_
   rintro e w2 ⟨v, rfl, ov, hb2⟩
   obtain ⟨va, vc, rfl, -⟩ := own_src ov
   have Y := HMS.out.keep hb2
   obtain ⟨c0, c1, c2, c3, c4, gl⟩ := cells5 Y.box
   obtain ⟨d0, d1, d2, d3, d4, d5⟩ := cells5 Y.r0
   have f3 := Y.box.frozen 3
   have q0 := Y.r0.frozen 0
   have q1 := Y.r0.frozen 1
   have q2_ := Y.r0.frozen 2
   have q3 := Y.r0.frozen 3
   have q4 := Y.r0.frozen 4
   have hne : w.heap.size ≠ g := by have := Y.gl; omega
   have hne2 : g ≠ w.heap.size := by have := Y.gl; omega
   have HY := Hid.mk' Y
   have OV := Hid.mk' ov
   have B2 := Hid.mk' hb2
   clear Y ov hb2 KC
   go_wp2
   refine bodyPost_ret (v := .agg #[.slice da d.length dc, .int .i64 (s : Int), .slice ta T.length tc, .slice va H.length vc, .slice ca J cc]) (by simp [results, Tryz.results72, go_sem, *]) rfl ?_
   have K1 := (KeptIn.refl g (g + 1) w2).setCell (p := ⟨g, 3, none⟩) (by simp) (by simp) (.slice va H.length vc)
   generalize hU : w2.setCell ⟨g, 3, none⟩ (.slice va H.length vc) = U at *
   have K2 := ((((KeptIn.refl w.heap.size (w.heap.size + 1) U).setCell (p := ⟨w.heap.size, 0, none⟩) (by simp) (by simp) (.slice da d.length dc)).setCell (p := ⟨w.heap.size, 1, none⟩) (by simp) (by simp) (.int .i64 (s : Int))).setCell (p := ⟨w.heap.size, 2, none⟩) (by simp) (by simp) (.slice ta T.length tc)).setCell (p := ⟨w.heap.size, 3, none⟩) (by simp) (by simp) (.slice va H.length vc) |>.setCell (p := ⟨w.heap.size, 4, none⟩) (by simp) (by simp) (.slice ca J cc)
   generalize hV : ((((U.setCell ⟨w.heap.size, 0, none⟩ (.slice da d.length dc)).setCell ⟨w.heap.size, 1, none⟩ (.int .i64 (s : Int))).setCell ⟨w.heap.size, 2, none⟩ (.slice ta T.length tc)).setCell ⟨w.heap.size, 3, none⟩ (.slice va H.length vc)).setCell ⟨w.heap.size, 4, none⟩ (.slice ca J cc) = V at *
   have y := HY.out
   have sz1 := K1.size
   have sz2 := K2.size
   have szV : w2.heap.size ≤ V.heap.size := Nat.le_trans sz1 sz2
   have kV : ∀ q, q < w2.heap.size → q ≠ g → q ≠ w.heap.size → V.heap[q]? = w2.heap[q]? := fun q h1 h2 h3 => (K2.block q (by omega) (by omega)).trans (K1.block q h1 (by omega))
   have BV : Below w.heap.size w V := y.bel.trans ⟨K2.os.trans K1.os, K2.tape.trans K1.tape, K2.output.trans K1.output, szV, fun q hq => kV q (by have := y.bel.size; omega) (by have := y.gl; omega) (by omega)⟩
   have eT : T = (allX [] [] d).1 := by rw [← HT.out, ED.out]
   have eH : H = (allX [] [] d).2 := by rw [← HH.out, ED.out]
   have x := HMS.out
   have s12 := B2.out.size
   have gw : g < wr.heap.size := x.box.lt
   have wg : w.heap.size < g := x.gl
   have kVr : ∀ q, q < wr.heap.size → q ≠ g → q ≠ w.heap.size → V.heap[q]? = wr.heap[q]? := fun q h1 h2 h3 => (kV q (by omega) h2 h3).trans (B2.out.block q h1)
   have dtV : V.ownsRow (w.heap.size + 1) 5 1 (.slice da d.length dc) d.length (bcs d) := own_of x.dt (Nat.le_refl _) (fun q eq hq => kVr q (x.dt.lt q eq).2 (by have := x.dg q eq; omega) (by have := (x.dt.lt q eq).1; omega))
   have hdV : V.ownsRow (w.heap.size + 1) 5 1 (.slice va H.length vc) H.length (bcs H) := own_of OV.out (by omega) (fun q eq hq => kV q (OV.out.lt q eq).2 (by have := (OV.out.lt q eq).1; omega) (by have := (OV.out.lt q eq).1; omega))
   have tr := x.tr
   rw [HT.out] at tr
   have ul := x.ul
   rw [HT.out] at ul
   obtain ⟨_, _, e, capT⟩ := own_cap tr
   obtain ⟨rfl, -, rfl⟩ := Value.slice.inj e
   obtain ⟨_, _, e, capC⟩ := own_cap x.cr
   obtain ⟨rfl, -, rfl⟩ := Value.slice.inj e
   have ft : (ta = none ∧ tc = 0 ∧ T = []) ∨ ∃ b, ta = some ⟨b, 0, none⟩ := by
    rcases tr.2 with ⟨h, h9⟩ | ⟨b, _, _, h, -⟩
    ·injection h with h1 _ h3; exact .inl ⟨h1, h3, List.eq_nil_of_length_eq_zero h9⟩
    ·injection h with h1 _ _; exact .inr ⟨b, h1⟩
   have fc : ∃ b, ca = some ⟨b, 0, none⟩ := by
    rcases x.cr.2 with ⟨h, h0⟩ | ⟨b, _, _, h, -⟩
    ·exact absurd h0 (by rw [← HJ.out]; exact Nat.succ_ne_zero _)
    ·injection h with h1 _ _; exact ⟨b, h1⟩
   unfold LnS
   rw [HJ.out, ← eT, ← eH]
   refine ⟨_, _, ta, ca, tc, cc, rfl, dtV, hdV, fun q eq e2 => by have := x.dg q eq; have := (OV.out.lt q e2).1; omega, SMD.out, capT, ft, fc, capC, fun z hz hzk => ?_, BV⟩
   have kz : ∀ q, g < q → q < wr.heap.size → z.heap[q]? = wr.heap[q]? := fun q h0 h1 => (hzk q (by omega) (by omega) (fun e => by have := x.dg q e; omega) (fun e => by have := (OV.out.lt q e).1; omega)).trans (kVr q h1 (by omega) (by omega))
   have kX : ∀ q, q < wr.heap.size → ¬ XB g g (.slice ta T.length tc) (.slice ca J cc) q → z.heap[q]? = wr.heap[q]? := fun q h1 h2 => kz q (Nat.lt_of_not_le (fun e => h2 (.inl e))) h1
   have szz : wr.heap.size ≤ z.heap.size := by omega
   have ttr : z.ownsRow (g + 1) 107 5 (.slice ta T.length tc) T.length (tcs T us) := own_of tr (Nat.le_refl _) (fun q eq hq => kz q (by have := (tr.lt q eq).1; omega) (tr.lt q eq).2)
   have tts := (x.tc.step (X' := XB g g (.slice ta T.length tc) (.slice ca J cc)) kX szz (fun _ h => .inl h))
   rw [HT.out] at tts
   have tsr := tts.ts ul ttr
   have ccr : z.ownsRow (g + 1) 31 3 (.slice ca J cc) J (cvs d s J hvs) := own_of x.cr (Nat.le_refl _) (fun q eq hq => kz q (by have := (x.cr.lt q eq).1; omega) (x.cr.lt q eq).2)
   have ccs := checks_at ccr (fun i hi => ((x.hc i hi).step (X' := XB g g (.slice ta T.length tc) (.slice ca J cc)) kX szz (fun _ h => .inl h)).at)
   refine ⟨?_, ?_⟩
   ·obtain ⟨p, c, e, b⟩ := tsr
    injection e with e1 _ _
    rw [e1]
    exact b
   ·obtain ⟨p, c, e, b⟩ := ccs
    injection e with e1 _ _
    rw [e1]
    exact b

end Go.Proofs.YtlimgcmhidooaaaGreatDoor
