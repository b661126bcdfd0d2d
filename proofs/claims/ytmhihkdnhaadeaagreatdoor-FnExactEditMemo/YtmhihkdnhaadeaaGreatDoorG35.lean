/- Ways: the places that a place is in, the outermost first. -/
import Derived.WalkKit
import Derived.Test.YtmhihkdnhaadeaaGreatDoorG2
import Derived.Test.YtmhihkdnhaadeaaGreatDoorG14
import Derived.Test.YtmhihkdnhaadeaaGreatDoorG16
import Derived.Test.YtmhihkdnhaadeaaGreatDoorG27
import Derived.Test.YtmhihkdnhaadeaaGreatDoorG29
import Derived.Test.YtmhihkdnhaadeaaGreatDoorG22
import Derived.Test.YtmhihkdnhaadeaaGreatDoorG31
set_option maxHeartbeats 6400000
set_option maxRecDepth 100000
set_option linter.unusedVariables false
set_option linter.unusedSimpArgs false
namespace Go.Proofs.YtmhihkdnhaadeaaGreatDoor

end Go.Proofs.YtmhihkdnhaadeaaGreatDoor

namespace Go.Proofs.YtmhihkdnhaadeaaGreatDoor
open Go.RowKit
def AOh (hi g : Nat) (l : List AT) (w : World) : Prop := ∃ f, w.rowIs g 127 (l.length * 2) f ∧ g < hi ∧ ∀ j, j < l.length → f (j * 2) = .string (atK l j).nm ∧ ∃ b, f (j * 2 + 1) = .slice (some ⟨b, 0, none⟩) (atK l j).vl.length (atK l j).vl.length ∧ g < b ∧ b < hi ∧ w.rowIs b 5 (atK l j).vl.length (bv (atK l j).vl)
theorem AOh.ao {hi g : Nat} {l : List AT} {w : World} (h : AOh hi g l w) : AO g l w := by
 obtain ⟨f, hf, _, hj⟩ := h
 refine ⟨f, hf, fun j hl => ?_⟩
 obtain ⟨h1, b, h2, h3, _, h4⟩ := hj j hl
 exact ⟨h1, b, h2, h3, h4⟩
theorem AO.h {hi g : Nat} {l : List AT} {w : World} (h : AO g l w) (hh : w.heap.size ≤ hi) : AOh hi g l w := by
 obtain ⟨f, hf, hj⟩ := h
 refine ⟨f, hf, Nat.lt_of_lt_of_le hf.lt hh, fun j hl => ?_⟩
 obtain ⟨h1, b, h2, h3, h4⟩ := hj j hl
 exact ⟨h1, b, h2, h3, Nat.lt_of_lt_of_le h4.lt hh, h4⟩
theorem AOh.keep {hi g : Nat} {l : List AT} {w w' : World} (h : AOh hi g l w) (hk : ∀ k, g ≤ k → k < hi → k < w.heap.size → w'.heap[k]? = w.heap[k]?) : AOh hi g l w' := by
 obtain ⟨f, hf, hg, hj⟩ := h
 refine ⟨f, hf.of_block (hk g (Nat.le_refl _) hg hf.lt), hg, fun j hl => ?_⟩
 obtain ⟨h1, b, h2, h3, h4, h5⟩ := hj j hl
 exact ⟨h1, b, h2, h3, h4, h5.of_block (hk b (by omega) h4 h5.lt)⟩
theorem AOh.below {hi g : Nat} {l : List AT} {w w' : World} (h : AOh hi g l w) (hb : Below w.heap.size w w') : AOh hi g l w' := h.keep fun k _ _ hl => hb.block k hl
theorem AOh.kept {hi g lo' hi' : Nat} {l : List AT} {w w' : World} (h : AOh hi g l w) (hk : KeptIn lo' hi' w w') (hd : hi ≤ lo' ∨ hi' ≤ g) : AOh hi g l w' := h.keep fun k h1 h2 hl => hk.block k hl (by omega)
theorem markAttrS_gen (g hi c z : Nat) (l : List AT) (w : World) (h : MR g hi l w) (hhi : hi ≤ w.heap.size) (hl : (l.length : Int) + asz l ≤ 1048576) (z0 : 0 < z) (z1 : z ≤ 10000000) :
  Calls Tryz.prog 61 #[.slice (some ⟨g, 0, none⟩) l.length c, .int .i64 (z : Int)] w fun e w' => e = .returned (.int .i64 ((z : Int) + (l.length : Int) + (vsz l : Int))) ∧ MR g hi l w' ∧ KeptIn g hi w w' := by
 have HM := Hid.mk' h
 clear h
 go_enter Tryz.func61, Tryz.ntmps61
 go_wp2
 go_loopw [1, 5] (fun x i wr => ∃ k : Nat, k ≤ l.length ∧ i = .int .i64 k ∧ x = .int .i64 ((z + k + vsz (l.take k) : Nat) : Int) ∧ MR g hi l wr ∧ KeptIn g hi w wr) (fun _ i _ => l.length - (intOf i).toNat)
 case atStart => exact ⟨0, Nat.zero_le _, rfl, by simp [vsz], HM.out, KeptIn.refl _ _ _⟩
 case round =>
  obtain ⟨k, hk, rfl, rfl, hmr, hkp⟩ := hrel
  have HR := Hid.mk' hmr
  have HK := Hid.mk' hkp
  clear hmr hkp
  by_cases hlt : k < l.length
  ·have ci : (k : Int) < (l.length : Int) := by omega
   have st := vsz_take l k hlt
   have sl := vsz_le l (k + 1)
   obtain ⟨q, hq⟩ : ∃ q : Nat, z + k + vsz (l.take k) = q := ⟨_, rfl⟩
   have hq1 : z + (k + 1) + vsz (l.take (k + 1)) = q + 1 + (atK l k).vl.length := by omega
   have hq2 : q + 1 + (atK l k).vl.length ≤ 100000000 := by omega
   have Q1 := Hid.mk' hq1
   have KT := Hid.mk' (markText_any q wr (by omega) (by omega))
   rw [hq]
   clear st sl hq hq1
   go_wp2_with fail
   refine KT.out.mono ?_
   rintro e w1 ⟨s, rfl, hb⟩
   have hm1 := HR.out.below hb
   have HK1 := Hid.mk' (HK.out.trans (KeptIn.of_below hb))
   obtain ⟨f, hf, _, _⟩ := id hm1
   have f0 := hf.frozen (k * 2)
   obtain ⟨v0, g0⟩ : ∃ v, w1.cell? ⟨g, k * 2, none⟩ = some v := ⟨_, hf.cell (by omega)⟩
   have hm2 := hm1.name hlt s
   obtain ⟨f2, hf2, hgh, hj2⟩ := id hm2
   obtain ⟨_, b, h2, h3, h4, fb, h5⟩ := hj2 k hlt
   have c2 : (w1.setCell ⟨g, k * 2, none⟩ (.string s)).cell? ⟨g, k * 2 + 1, none⟩ = some (.slice (some ⟨b, 0, none⟩) (atK l k).vl.length (atK l k).vl.length) := by
    have := hf2.cell (show k * 2 + 1 < l.length * 2 by omega)
    rw [this, h2]
   have KB := Hid.mk' (markByteS_row b (atK l k).vl.length (atK l k).vl.length (atK l k).vl.length (q + 1) fb _ h5 (Nat.le_refl _) (by omega))
   have HK2 := Hid.mk' (HK1.out.setCell (p := ⟨g, k * 2, none⟩) (Nat.le_refl _) hgh (.string s))
   have M2 := Hid.mk' hm2
   have H5 := Hid.mk' h5
   clear hm1 hm2 hf hf2 hj2 h5 hb KT HR HK HK1
   generalize hV : w1.setCell ⟨g, k * 2, none⟩ (.string s) = V at *
   go_wp2_with fail
   clear hV
   refine KB.out.mono ?_
   rintro e w2 ⟨rfl, hr, hkk⟩
   have M3 := Hid.mk' (M2.out.value h3 h4 hr H5.out hkk)
   have HK3 := Hid.mk' (HK2.out.trans (hkk.mono (by omega) (by omega)))
   clear hr hkk KB M2 H5 HK2
   go_wp2
   go_roundw
   case rel => exact ⟨k + 1, by omega, by go_num, by rw [Q1.out]; simp, M3.out, HK3.out⟩
   case measure => simp [intOf]; omega
  ·have ci : ¬ (k : Int) < (l.length : Int) := by omega
   have e : k = l.length := by omega
   subst e
   go_wp2
   go_ret
   exact ⟨by simp, HR.out, HK.out⟩
theorem MR.keep {hi g : Nat} {l : List AT} {w w' : World} (h : MR g hi l w) (hk : ∀ k, g ≤ k → k < hi → k < w.heap.size → w'.heap[k]? = w.heap[k]?) : MR g hi l w' := by
 obtain ⟨f, hf, hg, hj⟩ := h
 refine ⟨f, hf.of_block (hk g (Nat.le_refl _) hg hf.lt), hg, fun j hl => ?_⟩
 obtain ⟨h1, b, h2, h3, h4, fb, h5⟩ := hj j hl
 exact ⟨h1, b, h2, h3, h4, fb, h5.of_block (hk b (by omega) h4 h5.lt)⟩
theorem AOh.mr {hi g : Nat} {l : List AT} {w : World} (h : AOh hi g l w) : MR g hi l w := by
 obtain ⟨f, hf, hg, hj⟩ := h
 refine ⟨f, hf, hg, fun j hl => ?_⟩
 obtain ⟨h1, b, h2, h3, h4, h5⟩ := hj j hl
 exact ⟨⟨_, h1⟩, b, h2, h3, h4, _, h5⟩
theorem mono_s2 {s : Nat → Nat} {n : Nat} (h : ∀ j, j < n → s j ≤ s (j + 1)) {i : Nat} : ∀ j, i ≤ j → j ≤ n → s i ≤ s j
  | 0, hi, _ => by have : i = 0 := by omega
                   subst this; exact Nat.le_refl _
  | j + 1, hi, hj => by
    by_cases e : i = j + 1
    · subst e; exact Nat.le_refl _
    · exact Nat.le_trans (mono_s2 h j (by omega) (by omega)) (h j (by omega))
theorem vsz_asz (l : List AT) : vsz l ≤ asz l := by have := vsz_le l l.length; rwa [List.take_length] at this
theorem own_spot {w : World} {base : Nat} {e : TypeId} {size : Nat} {v : Value} {n : Nat} {xs : List Value} (h : w.ownsRow base e size v n xs) (hn : 0 < n) : ∃ g cap, v = .slice (some ⟨g, 0, none⟩) n cap ∧ base ≤ g ∧ g < w.heap.size ∧ n ≤ cap ∧ ∀ i, i < n * size → w.cell? ⟨g, i, none⟩ = xs[i]? := by
 rcases h.2 with ⟨rfl, h0⟩ | ⟨g, cap, cur, rfl, hg, hh, hc, hm, hs, ht⟩
 ·omega
 ·refine ⟨g, cap, rfl, hg, ?_, hc, fun i hi => ?_⟩
  ·exact Nat.lt_of_not_le fun hn => by rw [Array.getElem?_eq_none hn] at hh; cases hh
  ·have q : w.cell? ⟨g, i, none⟩ = cur[i]? := Lib.cell_of_heap hh i
   rw [q, ← ht, List.getElem?_take_of_lt hi]
   simp
def ct1 (t : TK) : Nat := 4 + t.at_.length + vsz t.at_
def ctN : List TK → Nat
 | [] => 0
 | t :: l => ct1 t + ctN l
def mk1T (z : Nat) (t : TK) : TK := ⟨(z : Int), (z : Int) + 1, mtx (z + 1 + 1), mkA (z + 1 + 1 + 1) t.at_, (((z + 1 + 1 + 1 + t.at_.length + vsz t.at_ : Nat) : Int) % 3 == 0)⟩
def mkT : Nat → List TK → List TK
 | _, [] => []
 | z, t :: l => mk1T z t :: mkT (z + ct1 t) l
theorem mkT_len : ∀ (z : Nat) (l : List TK), (mkT z l).length = l.length
 | _, [] => rfl
 | z, t :: l => by simp [mkT, mkT_len]
theorem mkT_snoc : ∀ (z : Nat) (l : List TK) (t : TK), mkT z (l ++ [t]) = mkT z l ++ [mk1T (z + ctN l) t]
 | z, [], t => by simp [mkT, ctN]
 | z, x :: l, t => by simp only [List.cons_append, mkT, mkT_snoc (z + ct1 x) l t, ctN]; rw [Nat.add_assoc]
theorem mkT_get {z : Nat} {l : List TK} {i : Nat} (h : i < l.length) : tkK (mkT z l) i = mk1T (z + ctN (l.take i)) (tkK l i) := by
 induction l generalizing z i with
 | nil => exact absurd h (Nat.not_lt_zero _)
 | cons x l ih =>
  cases i with
  | zero => simp [mkT, tkK, ctN]
  | succ i =>
   have := ih (z := z + ct1 x) (i := i) (by simpa using h)
   have e1 : tkK (mkT z (x :: l)) (i + 1) = tkK (mkT (z + ct1 x) l) i := by simp [mkT, tkK]
   have e2 : tkK (x :: l) (i + 1) = tkK l i := by simp [tkK]
   rw [e1, this, e2]
   simp only [List.take_succ_cons, ctN]
   rw [Nat.add_assoc]
theorem ctN_take (l : List TK) : ∀ k, k < l.length → ctN (l.take (k + 1)) = ctN (l.take k) + ct1 (tkK l k) := by
 induction l with
 | nil => intro k h; exact absurd h (Nat.not_lt_zero _)
 | cons x r ih =>
  intro k hk
  cases k with
  | zero => simp [ctN, tkK]
  | succ k =>
   have := ih k (by simpa using hk)
   have e : tkK (x :: r) (k + 1) = tkK r k := by simp [tkK]
   simp only [List.take_succ_cons, ctN]
   rw [this, e]; omega
theorem ctN_le (l : List TK) (k : Nat) : ctN (l.take k) ≤ 4 * l.length + tssz l := by
 induction l generalizing k with
 | nil => simp [ctN]
 | cons x r ih =>
  cases k with
  | zero => simp [ctN]
  | succ k =>
   have := ih k
   have v := vsz_asz x.at_
   simp only [List.take_succ_cons, ctN, tssz, List.length_cons, ct1, tsz]
   omega
def halfT (z : Nat) (l : List TK) (k : Nat) : List TK := mkT z (l.take k) ++ l.drop k
theorem halfT_len (z : Nat) (l : List TK) (k : Nat) : (halfT z l k).length = l.length := by simp [halfT, mkT_len]; omega
theorem halfT_get (z : Nat) (l : List TK) (k : Nat) (h : k < l.length) : tkK (halfT z l k) k = tkK l k := by
 have e : (mkT z (l.take k)).length = k := by rw [mkT_len, List.length_take]; omega
 unfold halfT tkK
 rw [List.getD_eq_getElem?_getD, List.getElem?_append_right (by omega), e, Nat.sub_self, List.getElem?_drop, Nat.add_zero, ← List.getD_eq_getElem?_getD]
theorem halfT_set (z : Nat) (l : List TK) (k : Nat) (h : k < l.length) : (halfT z l k).set k (mk1T (z + ctN (l.take k)) (tkK l k)) = halfT z l (k + 1) := by
 have e : (mkT z (l.take k)).length = k := by rw [mkT_len, List.length_take]; omega
 have e2 : l.take (k + 1) = l.take k ++ [tkK l k] := by
  rw [List.take_add_one, List.getElem?_eq_getElem h]
  simp [tkK, List.getD_eq_getElem?_getD, List.getElem?_eq_getElem h]
 unfold halfT
 rw [e2, mkT_snoc, List.set_append_right _ _ (by omega), e, Nat.sub_self, List.drop_eq_getElem_cons h, List.set_cons_zero, List.append_assoc]
 rfl
theorem halfT_zero (z : Nat) (l : List TK) : halfT z l 0 = l := by simp [halfT, mkT]
theorem halfT_all (z : Nat) (l : List TK) : halfT z l l.length = mkT z l := by simp [halfT]
theorem tkK_set {l : List TK} {i j : Nat} {t : TK} (h : i < l.length) : tkK (l.set i t) j = if j = i then t else tkK l j := by
 unfold tkK
 by_cases e : j = i
 ·subst e; simp [List.getD_eq_getElem?_getD, h]
 ·rw [if_neg e]; simp [List.getD_eq_getElem?_getD, List.getElem?_set, Ne.symm e]
theorem tcs_cons (t : TK) (ts : List TK) (u : Value) (us : List Value) : tcs (t :: ts) (u :: us) = [.int .i64 t.kd, .int .i64 t.by_, .string t.nm, u, .bool t.sh] ++ tcs ts us := rfl
theorem tcs_set : ∀ (ts : List TK) (us : List Value) (n i : Nat) (t : TK) (x : Value), us.length = ts.length → n < ts.length → i < 5 →
  ([.int .i64 (tkK ts n).kd, .int .i64 (tkK ts n).by_, .string (tkK ts n).nm, us.getD n undef, .bool (tkK ts n).sh] : List Value).set i x = [.int .i64 t.kd, .int .i64 t.by_, .string t.nm, us.getD n undef, .bool t.sh] → (tcs ts us).set (n * 5 + i) x = tcs (ts.set n t) us
 | [], _, _, _, _, _, _, hn, _, _ => absurd hn (Nat.not_lt_zero _)
 | y :: ts, [], _, _, _, _, h, _, _, _ => by simp at h
 | y :: ts, u :: us, 0, i, t, x, h, _, hi, hs => by
  rw [List.set_cons_zero, tcs_cons, tcs_cons, List.set_append_left _ _ (by simp; omega), show 0 * 5 + i = i by omega]
  congr 1
 | y :: ts, u :: us, n + 1, i, t, x, h, hn, hi, hs => by
  have := tcs_set ts us n i t x (by simpa using h) (by simpa using hn) hi (by simpa [tkK] using hs)
  rw [List.set_cons_succ, tcs_cons, tcs_cons, List.set_append_right _ _ (by simp; omega)]
  congr 1
  rw [show (n + 1) * 5 + i - [Value.int .i64 y.kd, .int .i64 y.by_, .string y.nm, u, .bool y.sh].length = n * 5 + i by simp; omega]
  exact this
theorem rowT_set {lo g cap n i : Nat} {w : World} {ts : List TK} {us : List Value} {t : TK} {x : Value} (hl : us.length = ts.length) (h : w.ownsRow lo 87 5 (.slice (some ⟨g, 0, none⟩) ts.length cap) ts.length (tcs ts us)) (hn : n < ts.length) (hi : i < 5)
  (hs : ([.int .i64 (tkK ts n).kd, .int .i64 (tkK ts n).by_, .string (tkK ts n).nm, us.getD n undef, .bool (tkK ts n).sh] : List Value).set i x = [.int .i64 t.kd, .int .i64 t.by_, .string t.nm, us.getD n undef, .bool t.sh]) :
  (w.setCell ⟨g, n * 5 + i, none⟩ x).ownsRow lo 87 5 (.slice (some ⟨g, 0, none⟩) ts.length cap) ts.length (tcs (ts.set n t) us) := by
 rw [← tcs_set ts us n i t x hl hn hi hs]
 refine ⟨by rw [List.length_set]; exact h.1, .inr ?_⟩
 rcases h.2 with ⟨h0, _⟩ | ⟨g', cap', cur, hv, hg, hh, hc, hm, hs', ht⟩
 ·cases h0
 ·cases hv
  refine ⟨g, cap, cur.setIfInBounds (n * 5 + i) x, rfl, hg, ?_, hc, hm, by simpa using hs', ?_⟩
  ·simp [World.setCell, Array.getElem?_modify, hh]
  ·rw [← ht]
   simp [List.take_set]
theorem rowT_cell {lo g cap : Nat} {w : World} {ts : List TK} {us : List Value} (hl : us.length = ts.length) (h : w.ownsRow lo 87 5 (.slice (some ⟨g, 0, none⟩) ts.length cap) ts.length (tcs ts us)) {n i : Nat} (hn : n < ts.length) (hi : i < 5) : w.cell? ⟨g, n * 5 + i, none⟩ = ([.int .i64 (tkK ts n).kd, .int .i64 (tkK ts n).by_, .string (tkK ts n).nm, us.getD n undef, .bool (tkK ts n).sh] : List Value)[i]? ∧ w.frozen? ⟨g, n * 5 + i, none⟩ = false := by
 rcases h.2 with ⟨h0, _⟩ | ⟨g', cap', cur, hv, hg, hh, hc, hm, hs', ht⟩
 ·cases h0
 ·cases hv
  refine ⟨?_, Lib.frozen_of_heap hh _⟩
  rw [Lib.cell_of_heap hh, ← tcs_get ts us n i hl hn hi, ← ht, List.getElem?_take_of_lt (by omega)]
  simp
theorem TP.modify {lo n : Nat} {w w' : World} {v : Value} {ts : List TK} {us : List Value} {rs : Nat → List Value} {bl bh : Nat → Nat} {t : TK} (h : TP lo w v ts us rs bl bh) (hn : n < ts.length) (hl : t.at_.length = (tkK ts n).at_.length) (hs : w.heap.size ≤ w'.heap.size)
  (hr : w'.ownsRow lo 87 5 v ts.length (tcs (ts.set n t) us)) (ha : OA (bl n) w' (us.getD n undef) t.at_ (rs n)) (hk : ∀ k, k < w.heap.size → v.ownBlock ≠ some k → ¬ (bl n ≤ k ∧ k < bh n) → w'.heap[k]? = w.heap[k]?) : TP lo w' v (ts.set n t) us rs bl bh := by
 have len : (ts.set n t).length = ts.length := List.length_set
 have hA := h.ta
 have tk : ∀ j, tkK (ts.set n t) j = if j = n then t else tkK ts j := fun j => tkK_set hn
 refine ⟨by rw [len]; exact hr, ⟨by rw [len]; exact hA.len, hA.one, fun j hj => ?_, fun j hj => hA.low j (by omega), fun j hj => hA.mid j (by omega), fun j hj => Nat.le_trans (hA.top j (by omega)) hs, fun j hj => hA.hia j (by omega), fun j hj i hi => hA.hiu j (by omega) i ?_, fun i j hij hj => hA.ord i j hij (by omega)⟩, fun j hj => h.vt j (by omega)⟩
 ·rw [len] at hj
  rw [tk]
  by_cases e : j = n
  ·subst e; rw [if_pos rfl]; exact ha
  ·rw [if_neg e]
   have o := hA.att j hj
   have far : ∀ k, bl j ≤ k → k < bh j → ¬ (bl n ≤ k ∧ k < bh n) := fun k h1 h2 h3 => by
    rcases Nat.lt_or_gt_of_ne e with hlt | hgt
    ·have := hA.ord j n hlt hn; omega
    ·have := hA.ord n j hgt hj; omega
   exact o.keepOf (fun k e1 hl' => hk k hl' (fun e2 => by have := h.vt j hj k e2; have := (o.row.lt k e1).1; have := hA.hia j hj k e1; omega) (far k (o.row.lt k e1).1 (hA.hia j hj k e1)))
    (fun i hi k e1 hl' => hk k hl' (fun e2 => by have := h.vt j hj k e2; have := o.vlo i hi k e1; have := hA.hiu j hj i hi k e1; omega) (far k (o.vlo i hi k e1) (hA.hiu j hj i hi k e1)))
 ·rw [tk] at hi
  by_cases e : j = n
  ·subst e; rw [if_pos rfl, hl] at hi; exact hi
  ·rw [if_neg e] at hi; exact hi
def TFree (v : Value) (n : Nat) (bl bh : Nat → Nat) (k : Nat) : Prop := v.ownBlock ≠ some k ∧ ∀ j, j < n → ¬ (bl j ≤ k ∧ k < bh j)
theorem row_tsAt {w : World} {lo : Nat} {v : Value} {ts : List TK} {us : List Value} (hl : us.length = ts.length) (h : w.ownsRow lo 87 5 v ts.length (tcs ts us)) (ha : ∀ j, j < ts.length → ∃ p c, us.getD j undef = .slice p (tkK ts j).at_.length c ∧ AAt w p (tkK ts j).at_) : ∃ a c, v = .slice a ts.length c ∧ TsAt w a ts := by
 by_cases h0 : ts = []
 ·subst h0
  obtain ⟨a, c, e, _⟩ := own_src h
  exact ⟨a, c, e, .inl rfl⟩
 ·have hp : 0 < ts.length := List.length_pos_iff.2 h0
  rcases h.2 with ⟨rfl, h9⟩ | ⟨g, cap, cur, rfl, hg, hh, hc, hm, hs, ht⟩
  ·omega
  ·have glt : g < w.heap.size := Nat.lt_of_not_le fun hn => by rw [Array.getElem?_eq_none hn] at hh; cases hh
   refine ⟨_, _, rfl, .inr ⟨g, 0, rfl, glt, fun k hk => ?_⟩⟩
   have cc := fun i hi => (rowT_cell hl h hk (i := i) hi).1
   obtain ⟨p, c, e, haa⟩ := ha k hk
   simp only [Nat.zero_add]
   refine ⟨cc 0 (by omega), cc 1 (by omega), cc 2 (by omega), ⟨p, c, ?_, haa⟩, cc 4 (by omega)⟩
   rw [cc 3 (by omega), ← e]; rfl
theorem TP.tsAt {lo : Nat} {w : World} {tv : Value} {ts : List TK} {us : List Value} {rs : Nat → List Value} {bl bh : Nat → Nat} (h : TP lo w tv ts us rs bl bh) : ∃ a c, tv = .slice a ts.length c ∧ TsAt w a ts :=
 row_tsAt h.ta.len h.row (fun j hj => (h.ta.att j hj).at)
theorem TokS.tsAt {base : Nat} {w : World} {v : Value} {ts : List TK} {us : List Value} (h : TokS base w v ts us) : ∃ a c, v = .slice a ts.length c ∧ TsAt w a ts :=
 row_tsAt h.len h.row (fun j hj => by
  have h1 : ts[j]? = some (tkK ts j) := by simp [tkK, List.getD_eq_getElem?_getD, hj]
  have h2 : us[j]? = some (us.getD j undef) := by simp [List.getD_eq_getElem?_getD, h.len, hj]
  obtain ⟨rs, ho⟩ := (h.all j _ _ h1 h2).held
  exact ho.at)
theorem tssz_at' : ∀ {l : List TK} {k : Nat}, k < l.length → tsz (tkK l k) ≤ tssz l
 | [], _, h => absurd h (Nat.not_lt_zero _)
 | x :: l, 0, _ => by simp [tkK, tssz]
 | x :: l, k + 1, h => by
  have := tssz_at' (l := l) (k := k) (by simpa using h)
  have e : tkK (x :: l) (k + 1) = tkK l k := by simp [tkK]
  rw [e]; simp only [tssz]; omega
theorem markTokenS_is (z lo : Nat) (v : Value) (l : List TK) (us : List Value) (rs : Nat → List Value) (bl bh : Nat → Nat) (w : World) (h : TP lo w v l us rs bl bh) (hlo : lo ≤ w.heap.size) (hz : 0 < z) (hz2 : (z : Int) ≤ 10000000) (hl : (l.length : Int) + tssz l ≤ 1048576) :
  Calls Tryz.prog 34 #[v, .int .i64 (z : Int)] w fun e w' => e = .returned (.int .i64 ((z + ctN l : Nat) : Int)) ∧ TP lo w' v (mkT z l) us rs bl bh ∧ Kp (TFree v l.length bl bh) w w' := by
 have HM := Hid.mk' h
 obtain ⟨av, cv, rfl, -⟩ := own_src h.row
 clear h
 go_enter Tryz.func34, Tryz.ntmps34
 go_wp2
 go_loopw [1, 5] (fun x i wr => ∃ k : Nat, k ≤ l.length ∧ i = .int .i64 k ∧ x = .int .i64 ((z + ctN (l.take k) : Nat) : Int) ∧ TP lo wr (.slice av l.length cv) (halfT z l k) us rs bl bh ∧ Kp (TFree (.slice av l.length cv) l.length bl bh) w wr) (fun _ i _ => l.length - (intOf i).toNat)
 case atStart => exact ⟨0, Nat.zero_le _, rfl, by simp [ctN], by rw [halfT_zero]; exact HM.out, Kp.refl _ _⟩
 case round =>
  obtain ⟨k, hk, rfl, rfl, htp, hkp⟩ := hrel
  have HK := Hid.mk' hkp
  have szr := hkp.size
  clear hkp
  by_cases hlt : k < l.length
  ·have ci : (k : Int) < (l.length : Int) := by omega
   have st := ctN_take l k hlt
   have sl := ctN_le l (k + 1)
   have hln := halfT_len z l k
   have hgt := halfT_get z l k hlt
   have hst := halfT_set z l k hlt
   have vz := vsz_asz (tkK l k).at_
   have sz1 := tssz_at' hlt
   unfold tsz at sz1
   unfold ct1 at st
   obtain ⟨q, hq⟩ : ∃ q : Nat, z + ctN (l.take k) = q := ⟨_, rfl⟩
   have hq1 : z + ctN (l.take (k + 1)) = q + 1 + 1 + 1 + (tkK l k).at_.length + vsz (tkK l k).at_ + 1 := by omega
   have hq2 : q + 1 + 1 + 1 + (tkK l k).at_.length + vsz (tkK l k).at_ + 1 ≤ 20000000 := by omega
   rw [hq] at hst ⊢
   have HS := Hid.mk' hst
   have Q1 := Hid.mk' hq1
   have hlen := htp.ta.len
   rw [hln] at hlen
   obtain ⟨g, cap, ev, hg1, hg2, -, -⟩ := own_spot htp.row (by omega)
   rw [hln] at ev
   cases ev
   have T0 := Hid.mk' htp
   have at0 := htp.ta.att k (by omega)
   rw [hgt] at at0
   have R0 := htp.row
   rw [hln] at R0
   have hlh : us.length = (halfT z l k).length := by rw [hln]; exact hlen
   have R0' : wr.ownsRow lo 87 5 (.slice (some ⟨g, 0, none⟩) (halfT z l k).length cv) (halfT z l k).length (tcs (halfT z l k) us) := by rw [hln]; exact R0
   have cc := fun i (hi : i < 5) => rowT_cell hlh R0' (n := k) (by omega) hi
   rw [hgt] at cc
   obtain ⟨c0, f0⟩ := cc 0 (by omega)
   obtain ⟨c1, f1⟩ := cc 1 (by omega)
   obtain ⟨c2, f2⟩ := cc 2 (by omega)
   obtain ⟨c3, f3⟩ := cc 3 (by omega)
   obtain ⟨c4, f4⟩ := cc 4 (by omega)
   rw [Nat.add_zero] at c0 f0
   replace c0 : wr.cell? ⟨g, k * 5, none⟩ = some (.int .i64 (tkK l k).kd) := c0
   replace c1 : wr.cell? ⟨g, k * 5 + 1, none⟩ = some (.int .i64 (tkK l k).by_) := c1
   have klen : k < (halfT z l k).length := by omega
   have R1 := rowT_set (t := ⟨(q : Int), (tkK l k).by_, (tkK l k).nm, (tkK l k).at_, (tkK l k).sh⟩) (n := k) (i := 0) (x := .int .i64 (q : Int)) hlh R0' klen (by omega) (by rw [hgt]; rfl)
   have l1 : ((halfT z l k).set k ⟨(q : Int), (tkK l k).by_, (tkK l k).nm, (tkK l k).at_, (tkK l k).sh⟩).length = (halfT z l k).length := List.length_set
   have R2 := rowT_set (t := ⟨(q : Int), (q : Int) + 1, (tkK l k).nm, (tkK l k).at_, (tkK l k).sh⟩) (n := k) (i := 1) (x := .int .i64 ((q : Int) + 1)) (by rw [l1]; exact hlh) (by rw [l1]; exact R1) (by omega) (by omega) (by rw [tkK_set klen, if_pos rfl]; rfl)
   rw [l1, List.set_set, hln, Nat.add_zero] at R2
   have K2 : Kp (fun j => j ≠ g) wr ((wr.setCell ⟨g, k * 5, none⟩ (.int .i64 (q : Int))).setCell ⟨g, k * 5 + 1, none⟩ (.int .i64 ((q : Int) + 1))) := ((Kp.refl _ _).setCell (q := ⟨g, k * 5, none⟩) (fun e => e rfl) _).setCell (q := ⟨g, k * 5 + 1, none⟩) (fun e => e rfl) _
   have KT := Hid.mk' (markText_is (q + 1 + 1) ((wr.setCell ⟨g, k * 5, none⟩ (.int .i64 (q : Int))).setCell ⟨g, k * 5 + 1, none⟩ (.int .i64 ((q : Int) + 1))) (by omega) (by omega))
   have HR := Hid.mk' R2
   have HK2 := Hid.mk' K2
   have A0 := Hid.mk' at0
   have HLH := Hid.mk' hlen
   have S1 : Hid (((wr.setCell ⟨g, k * 5, none⟩ (.int .i64 (q : Int))).setCell ⟨g, k * 5 + 1, none⟩ (.int .i64 ((q : Int) + 1))).heap.size = wr.heap.size) := Hid.mk' (by simp [World.setCell])
   have bk := T0.out.ta.low k (by omega)
   have bt := T0.out.ta.top k (by omega)
   have bm := T0.out.ta.mid k (by omega)
   have VG := Hid.mk' (T0.out.vt k (by omega) g rfl)
   have HIA := Hid.mk' (T0.out.ta.hia k (by omega))
   have HIU : Hid (∀ i, i < (tkK l k).at_.length → ∀ j, ((rs k).getD i undef).ownBlock = some j → j < bh k) := Hid.mk' (fun i hi => T0.out.ta.hiu k (by omega) i (by rw [hgt]; exact hi))
   clear st sl hq hq1 htp cc R0 R0' R1 R2 K2 at0 hst c2 f2 c3 f3 c4 f4 hlen hlh l1
   generalize hV : (wr.setCell ⟨g, k * 5, none⟩ (.int .i64 (q : Int))).setCell ⟨g, k * 5 + 1, none⟩ (.int .i64 ((q : Int) + 1)) = V at *
   go_wp2_with fail
   clear hV c0 f0 c1 f1
   refine KT.out.mono ?_
   rintro e w1 ⟨rfl, hb⟩
   have R1 := own_keep HR.out hb
   have K1 : Kp (fun j => j ≠ g) wr w1 := HK2.out.trans (Kp.of_below hb)
   have ln2 : ((halfT z l k).set k ⟨(q : Int), (q : Int) + 1, (tkK l k).nm, (tkK l k).at_, (tkK l k).sh⟩).length = l.length := by rw [List.length_set]; exact hln
   have lh2 : us.length = ((halfT z l k).set k ⟨(q : Int), (q : Int) + 1, (tkK l k).nm, (tkK l k).at_, (tkK l k).sh⟩).length := by rw [ln2]; exact HLH.out
   have R1' : w1.ownsRow lo 87 5 (.slice (some ⟨g, 0, none⟩) ((halfT z l k).set k ⟨(q : Int), (q : Int) + 1, (tkK l k).nm, (tkK l k).at_, (tkK l k).sh⟩).length cv) ((halfT z l k).set k ⟨(q : Int), (q : Int) + 1, (tkK l k).nm, (tkK l k).at_, (tkK l k).sh⟩).length (tcs ((halfT z l k).set k ⟨(q : Int), (q : Int) + 1, (tkK l k).nm, (tkK l k).at_, (tkK l k).sh⟩) us) := by rw [ln2]; exact R1
   obtain ⟨c2, f2⟩ := rowT_cell lh2 R1' (n := k) (i := 2) (by omega) (by omega)
   replace c2 : w1.cell? ⟨g, k * 5 + 2, none⟩ = some (.string (tkK l k).nm) := by rw [c2, tkK_set klen, if_pos rfl]; rfl
   have R3 := rowT_set (t := ⟨(q : Int), (q : Int) + 1, mtx (q + 1 + 1), (tkK l k).at_, (tkK l k).sh⟩) (n := k) (i := 2) (x := .string (mtx (q + 1 + 1))) lh2 R1' (by omega) (by omega) (by rw [tkK_set klen, if_pos rfl]; rfl)
   rw [ln2, List.set_set] at R3
   have K3 : Kp (fun j => j ≠ g) wr (w1.setCell ⟨g, k * 5 + 2, none⟩ (.string (mtx (q + 1 + 1)))) := K1.setCell (q := ⟨g, k * 5 + 2, none⟩) (fun e => e rfl) _
   have A3 := A0.out.keepOf (w' := w1.setCell ⟨g, k * 5 + 2, none⟩ (.string (mtx (q + 1 + 1)))) (fun j e hl' => K3.block j hl' (fun e2 => by subst e2; have := (A0.out.row.lt j e).1; have := HIA.out j e; have := VG.out; omega)) (fun i hi j e hl' => K3.block j hl' (fun e2 => by subst e2; have := A0.out.vlo i hi j e; have := HIU.out i hi j e; have := VG.out; omega))
   obtain ⟨pa, ca, ea, -⟩ := A3.at
   have ln3 : ((halfT z l k).set k ⟨(q : Int), (q : Int) + 1, mtx (q + 1 + 1), (tkK l k).at_, (tkK l k).sh⟩).length = l.length := by rw [List.length_set]; exact hln
   have lh3 : us.length = ((halfT z l k).set k ⟨(q : Int), (q : Int) + 1, mtx (q + 1 + 1), (tkK l k).at_, (tkK l k).sh⟩).length := by rw [ln3]; exact HLH.out
   have R3' : (w1.setCell ⟨g, k * 5 + 2, none⟩ (.string (mtx (q + 1 + 1)))).ownsRow lo 87 5 (.slice (some ⟨g, 0, none⟩) ((halfT z l k).set k ⟨(q : Int), (q : Int) + 1, mtx (q + 1 + 1), (tkK l k).at_, (tkK l k).sh⟩).length cv) ((halfT z l k).set k ⟨(q : Int), (q : Int) + 1, mtx (q + 1 + 1), (tkK l k).at_, (tkK l k).sh⟩).length (tcs ((halfT z l k).set k ⟨(q : Int), (q : Int) + 1, mtx (q + 1 + 1), (tkK l k).at_, (tkK l k).sh⟩) us) := by rw [ln3]; exact R3
   have d3 : (w1.setCell ⟨g, k * 5 + 2, none⟩ (.string (mtx (q + 1 + 1)))).cell? ⟨g, k * 5 + 3, none⟩ = some (.slice pa (tkK l k).at_.length ca) := by
    have := (rowT_cell lh3 R3' (n := k) (i := 3) (by omega) (by omega)).1
    rw [this, ← ea]; rfl
   have s2 : (w1.setCell ⟨g, k * 5 + 2, none⟩ (.string (mtx (q + 1 + 1)))).heap.size = w1.heap.size := by simp [World.setCell]
   have sb := hb.size
   have S1o := S1.out
   have KA := markAttrS_is (q + 1 + 1 + 1) (bl k) (us.getD k undef) (tkK l k).at_ (rs k) _ A3 (by omega) (by omega) (by omega) (by omega)
   rw [ea] at KA
   have KA := Hid.mk' KA
   have EA := Hid.mk' ea
   have HR := Hid.mk' R3
   have HK3 := Hid.mk' K3
   have S3 : Hid (wr.heap.size ≤ w1.heap.size) := Hid.mk' (by omega)
   clear hb KT R1 R1' R3 R3' K1 K3 ea A3 HK2 sb s2 A0 S1o
   generalize hV : w1.setCell ⟨g, k * 5 + 2, none⟩ (.string (mtx (q + 1 + 1))) = V3 at *
   go_wp2_with fail
   clear hV c2 f2
   refine KA.out.mono ?_
   rintro e w2 ⟨rfl, hoa, hkk⟩
   rw [← EA.out] at hoa hkk
   have AT := T0.out.ta.att k (by omega)
   rw [hgt] at AT
   have hk3 : Kp (fun j => ¬ (bl k ≤ j ∧ j < bh k)) V3 w2 := hkk.mono (fun j e => ⟨fun e2 => e ⟨(AT.row.lt j e2).1, HIA.out j e2⟩, fun i hi e2 => e ⟨AT.vlo i hi j e2, HIU.out i hi j e2⟩⟩)
   have R4 := own_of HR.out (Nat.le_refl _) (fun j e _ => hk3.block j (HR.out.lt j e).2 (fun h2 => by
    have ej : g = j := by simpa [Value.ownBlock] using e
    subst ej
    have := VG.out; omega))
   have R4' : w2.ownsRow lo 87 5 (.slice (some ⟨g, 0, none⟩) ((halfT z l k).set k ⟨(q : Int), (q : Int) + 1, mtx (q + 1 + 1), (tkK l k).at_, (tkK l k).sh⟩).length cv) ((halfT z l k).set k ⟨(q : Int), (q : Int) + 1, mtx (q + 1 + 1), (tkK l k).at_, (tkK l k).sh⟩).length (tcs ((halfT z l k).set k ⟨(q : Int), (q : Int) + 1, mtx (q + 1 + 1), (tkK l k).at_, (tkK l k).sh⟩) us) := by rw [ln3]; exact R4
   obtain ⟨c4, f4⟩ := rowT_cell lh3 R4' (n := k) (i := 4) (by omega) (by omega)
   replace c4 : w2.cell? ⟨g, k * 5 + 4, none⟩ = some (.bool (tkK l k).sh) := by rw [c4, tkK_set klen, if_pos rfl]; rfl
   obtain ⟨q2, hq3⟩ : ∃ q2 : Nat, q + 1 + 1 + 1 + (tkK l k).at_.length + vsz (tkK l k).at_ = q2 := ⟨_, rfl⟩
   have R5 := rowT_set (t := mk1T q (tkK l k)) (n := k) (i := 4) (x := .bool (((q2 : Nat) : Int) % 3 == 0)) lh3 R4' (by omega) (by omega) (by rw [tkK_set klen, if_pos rfl, ← hq3]; rfl)
   rw [ln3, List.set_set] at R5
   have K5 : Kp (fun j => j ≠ g ∧ ¬ (bl k ≤ j ∧ j < bh k)) wr (w2.setCell ⟨g, k * 5 + 4, none⟩ (.bool (((q2 : Nat) : Int) % 3 == 0))) := ((HK3.out.mono (fun j e => e.1)).trans (hk3.mono (fun j e => e.2))).setCell (q := ⟨g, k * 5 + 4, none⟩) (fun e => e.1 rfl) _
   have KX : Kp (fun j => j ≠ g) w2 (w2.setCell ⟨g, k * 5 + 4, none⟩ (.bool (((q2 : Nat) : Int) % 3 == 0))) := (Kp.refl _ _).setCell (q := ⟨g, k * 5 + 4, none⟩) (fun e => e rfl) _
   have A5 := hoa.keepOf (w' := w2.setCell ⟨g, k * 5 + 4, none⟩ (.bool (((q2 : Nat) : Int) % 3 == 0))) (fun j e hl' => KX.block j hl' (fun e2 => by subst e2; have := (hoa.row.lt j e).1; have := HIA.out j e; have := VG.out; omega)) (fun i hi j e hl' => KX.block j hl' (fun e2 => by subst e2; have := hoa.vlo i hi j e; rw [mkA_len] at hi; have := HIU.out i hi j e; have := VG.out; omega))
   have N5 : TP lo (w2.setCell ⟨g, k * 5 + 4, none⟩ (.bool (((q2 : Nat) : Int) % 3 == 0))) (.slice (some ⟨g, 0, none⟩) l.length cv) (halfT z l (k + 1)) us rs bl bh := by
    have := T0.out.modify (n := k) (t := mk1T q (tkK l k)) (w' := w2.setCell ⟨g, k * 5 + 4, none⟩ (.bool (((q2 : Nat) : Int) % 3 == 0))) (by omega) (by rw [hgt]; exact mkA_len _ _) K5.size (by rw [hln]; exact R5) A5 (fun j hj h1 h2 => K5.block j hj ⟨fun e => h1 (by rw [e]; rfl), h2⟩)
    rw [HS.out] at this
    exact this
   have N5 := Hid.mk' N5
   have K6 := Hid.mk' (HK.out.trans (K5.mono (fun j e => ⟨fun e2 => e.1 (by rw [e2]; rfl), e.2 k hlt⟩)))
   have EZ : Hid ((q2 : Int) + 1 = ((z + ctN (l.take (k + 1)) : Nat) : Int)) := Hid.mk' (by rw [Q1.out]; omega)
   have ez : ((q + 1 + 1 + 1 : Nat) : Int) + ((tkK l k).at_.length : Int) + (vsz (tkK l k).at_ : Int) = (q2 : Int) := by omega
   rw [ez]
   have q2b : q2 ≤ 20000000 := by omega
   clear hkk hoa hk3 R4 R4' R5 K5 KX A5 AT KA HK3 HR ez hq3
   go_wp2
   go_roundw
   case rel => exact ⟨k + 1, by omega, by go_num, by rw [← EZ.out], N5.out, K6.out⟩
   case measure => simp [intOf]; omega
  ·have ci : ¬ (k : Int) < (l.length : Int) := by omega
   have e : k = l.length := by omega
   subst e
   rw [halfT_all] at htp
   have HO := Hid.mk' htp
   clear htp
   rw [List.take_length]
   go_wp2
   go_ret
   exact ⟨rfl, HO.out, HK.out⟩
theorem heldTokenS_is (z : Nat) (a : Option Addr) (c : Nat) (l : List TK) (w : World) (ha : TsAt w a (mkT z l)) (hz : 0 < z) (hz2 : (z : Int) ≤ 10000000) (hl : (l.length : Int) + tssz l ≤ 1048576) :
  Calls Tryz.prog 63 #[.slice a l.length c, .int .i64 (z : Int)] w fun e w' => e = .returned (.int .i64 ((z + ctN l : Nat) : Int)) ∧ Below w.heap.size w w' := by
 have HA := Hid.mk' ha
 clear ha
 go_enter Tryz.func63, Tryz.ntmps63
 go_wp2
 go_loopw [1, 5] (fun x i wr => ∃ k : Nat, k ≤ l.length ∧ i = .int .i64 k ∧ x = .int .i64 ((z + ctN (l.take k) : Nat) : Int) ∧ Below w.heap.size w wr) (fun _ i _ => l.length - (intOf i).toNat)
 case atStart => exact ⟨0, Nat.zero_le _, rfl, by simp [ctN], Below.refl _ _⟩
 case round =>
  obtain ⟨k, hk, rfl, rfl, hbl⟩ := hrel
  have HB := Hid.mk' hbl
  by_cases hlt : k < l.length
  ·have ci : (k : Int) < (l.length : Int) := by omega
   have st := ctN_take l k hlt
   have sl := ctN_le l (k + 1)
   have vz := vsz_asz (tkK l k).at_
   have sz1 := tssz_at' hlt
   unfold tsz at sz1
   unfold ct1 at st
   rcases HA.out.below hbl with h0 | ⟨b1, o1, rfl, s1, hc1⟩
   ·have := mkT_len z l; rw [h0] at this; simp at this; omega
   obtain ⟨h1, h2, h3, ⟨p1, d1, h4, h5⟩, h6⟩ := hc1 k (by rw [mkT_len]; exact hlt)
   rw [mkT_get hlt] at h1 h2 h3 h4 h5 h6
   obtain ⟨q, hq⟩ : ∃ q : Nat, z + ctN (l.take k) = q := ⟨_, rfl⟩
   have hq1 : z + ctN (l.take (k + 1)) = q + 1 + 1 + 1 + (tkK l k).at_.length + vsz (tkK l k).at_ + 1 := by omega
   have hq2 : q + 1 + 1 + 1 + (tkK l k).at_.length + vsz (tkK l k).at_ + 1 ≤ 20000000 := by omega
   rw [hq] at h1 h2 h3 h4 h5 h6 ⊢
   replace h1 : wr.cell? ⟨b1, o1 + k * 5, none⟩ = some (.int .i64 (q : Int)) := h1
   replace h2 : wr.cell? ⟨b1, o1 + k * 5 + 1, none⟩ = some (.int .i64 ((q : Int) + 1)) := h2
   replace h3 : wr.cell? ⟨b1, o1 + k * 5 + 2, none⟩ = some (.string (mtx (q + 1 + 1))) := h3
   replace h4 : wr.cell? ⟨b1, o1 + k * 5 + 3, none⟩ = some (.slice p1 (tkK l k).at_.length d1) := by
    have e : (mk1T q (tkK l k)).at_.length = (tkK l k).at_.length := mkA_len _ _
    rw [e] at h4; exact h4
   replace h5 : AAt wr p1 (mkA (q + 1 + 1 + 1) (tkK l k).at_) := h5
   obtain ⟨q2, hq3⟩ : ∃ q2 : Nat, q + 1 + 1 + 1 + (tkK l k).at_.length + vsz (tkK l k).at_ = q2 := ⟨_, rfl⟩
   replace h6 : wr.cell? ⟨b1, o1 + k * 5 + 4, none⟩ = some (.bool ((q2 : Int) % 3 == 0)) := by rw [h6, ← hq3]; rfl
   have Q1 := Hid.mk' hq1
   have H5 := Hid.mk' h5
   have KT := Hid.mk' (fun V => markText_is (q + 1 + 1) V (by omega) (by omega))
   have ez : ((q + 1 + 1 + 1 : Nat) : Int) + ((tkK l k).at_.length : Int) + (vsz (tkK l k).at_ : Int) = (q2 : Int) := by omega
   have EZ : Hid ((q2 : Int) + 1 = ((z + ctN (l.take (k + 1)) : Nat) : Int)) := Hid.mk' (by rw [Q1.out]; omega)
   have EY := Hid.mk' ez
   have q2b : q2 ≤ 20000000 := by omega
   have LB : Hid ((((tkK l k).at_.length : Nat) : Int) + asz (tkK l k).at_ ≤ 2000000) := Hid.mk' (by omega)
   clear st sl hq hq1 hc1 hbl h5 ez hq3 sz1 vz
   go_wp2_with fail
   go_region_held3 (fun w' => w'.cell? ⟨b1, o1 + k * 5 + 2, none⟩ = some (.string (mtx (q + 1 + 1)))) (simp [*])
    ((go_at_call 60; refine (KT.out _).mono ?_; rintro e w1 ⟨rfl, hb1⟩; replace hb1 := undrew hb1; obtain ⟨hx1, hx2⟩ := bcell hb1))
   have B1 := Hid.mk' (HB.out.trans (hb1.mono HB.out.size))
   have g4 : w1.cell? ⟨b1, o1 + k * 5 + 3, none⟩ = some (.slice p1 (tkK l k).at_.length d1) := (hx1 _ _ s1).trans h4
   have g6 : w1.cell? ⟨b1, o1 + k * 5 + 4, none⟩ = some (.bool ((q2 : Int) % 3 == 0)) := (hx1 _ _ s1).trans h6
   have s2 : b1 < w1.heap.size := Nat.lt_of_lt_of_le s1 hb1.size
   have KB := Hid.mk' (heldAttrS_is (q + 1 + 1 + 1) p1 d1 (tkK l k).at_ w1 (H5.out.below hb1) (by omega) (by omega) LB.out)
   clear hb1 hx1 hx2 KT h1 h2 h3 h4 h6
   go_wp2_with fail
   refine KB.out.mono ?_
   rintro e w2 ⟨rfl, hb2⟩
   have B2 := Hid.mk' (B1.out.trans (hb2.mono B1.out.size))
   have k6 : w2.cell? ⟨b1, o1 + k * 5 + 4, none⟩ = some (.bool ((q2 : Int) % 3 == 0)) := (hb2.cell s2).trans g6
   rw [EY.out]
   have zz : ¬ ((q2 : Int) < 0) := by omega
   clear hb2 KB g4 g6
   go_wp2
   go_roundw
   case rel => exact ⟨k + 1, by omega, by go_num, by rw [← EZ.out], B2.out⟩
   case measure => simp [intOf]; omega
  ·have ci : ¬ (k : Int) < (l.length : Int) := by omega
   have e : k = l.length := by omega
   subst e
   rw [List.take_length]
   go_wp2
   go_ret
   exact ⟨rfl, HB.out⟩
def ckZ (z : Nat) (l : List CK) (k : Nat) : Nat := z + 2 * k + csz (l.take k)
def mkC (z : Nat) (l : List CK) : List CK := (List.range l.length).map (fun k => ⟨(ckZ z l k : Int), (ckZ z l k : Int) + 1, mb (ckZ z l k + 1 + 1) (ckK l k).hd.length⟩)
theorem mkC_len (z : Nat) (l : List CK) : (mkC z l).length = l.length := by simp [mkC]
theorem mkC_at (z : Nat) (l : List CK) (k : Nat) (h : k < l.length) : ckK (mkC z l) k = ⟨(ckZ z l k : Int), (ckZ z l k : Int) + 1, mb (ckZ z l k + 1 + 1) (ckK l k).hd.length⟩ := by
 show (mkC z l).getD k ⟨0, 0, []⟩ = _
 unfold mkC
 simp [h]
theorem ckZ_zero (z : Nat) (l : List CK) : ckZ z l 0 = z := by simp [ckZ, csz]
theorem ckZ_succ (z : Nat) (l : List CK) (k : Nat) (h : k < l.length) : ckZ z l (k + 1) = ckZ z l k + 1 + 1 + (ckK l k).hd.length := by
 unfold ckZ; rw [csz_take l k h]; omega
theorem ckZ_le (z : Nat) (l : List CK) (k : Nat) (h : k ≤ l.length) : ckZ z l k ≤ z + 2 * l.length + csz l := by
 have := csz_le l k
 unfold ckZ; omega
theorem ckZ_all (z : Nat) (l : List CK) : ckZ z l l.length = z + 2 * l.length + csz l := by unfold ckZ; rw [List.take_length]
def cvF (l : List CK) (hvs : Nat → Value) (i : Nat) : Value := if i % 3 = 0 then .int .i64 (ckK l (i / 3)).pl else if i % 3 = 1 then .int .i64 (ckK l (i / 3)).ct else hvs (i / 3)
def cvH (z : Nat) (l : List CK) (hvs : Nat → Value) (k i : Nat) : Value := if i / 3 < k then cvF (mkC z l) hvs i else cvF l hvs i
theorem cvF0 (l : List CK) (hvs : Nat → Value) (k : Nat) : cvF l hvs (k * 3) = .int .i64 (ckK l k).pl := by unfold cvF; rw [if_pos (by omega), show k * 3 / 3 = k by omega]
theorem cvF1 (l : List CK) (hvs : Nat → Value) (k : Nat) : cvF l hvs (k * 3 + 1) = .int .i64 (ckK l k).ct := by unfold cvF; rw [if_neg (by omega), if_pos (by omega), show (k * 3 + 1) / 3 = k by omega]
theorem cvF2 (l : List CK) (hvs : Nat → Value) (k : Nat) : cvF l hvs (k * 3 + 2) = hvs k := by unfold cvF; rw [if_neg (by omega), if_neg (by omega), show (k * 3 + 2) / 3 = k by omega]
theorem cvH_step {w : World} {g n : Nat} {T : TypeId} {z : Nat} {l : List CK} {hvs : Nat → Value} {k : Nat} (hk : k < l.length) (h : w.rowIs g T n (cvH z l hvs k)) :
  ((w.setCell ⟨g, k * 3, none⟩ (.int .i64 (ckZ z l k : Int))).setCell ⟨g, k * 3 + 1, none⟩ (.int .i64 ((ckZ z l k : Int) + 1))).rowIs g T n (cvH z l hvs (k + 1)) :=
 ((h.set (k * 3) _).set (k * 3 + 1) _).congr (fun j _ => by
  have m := mkC_at z l k hk
  by_cases e1 : j = k * 3 + 1
  ·rw [if_pos e1]; subst e1; unfold cvH; rw [if_pos (by omega), cvF1, m]
  rw [if_neg e1]
  by_cases e0 : j = k * 3
  ·rw [if_pos e0]; subst e0; unfold cvH; rw [if_pos (by omega), cvF0, m]
  rw [if_neg e0]
  unfold cvH
  by_cases c : j / 3 < k
  ·rw [if_pos c, if_pos (by omega)]
  ·rw [if_neg c]
   by_cases c2 : j / 3 < k + 1
   ·rw [if_pos c2]
    have : j = k * 3 + 2 := by omega
    subst this
    rw [cvF2, cvF2]
   ·rw [if_neg c2])
theorem markCheckS_is (g c z : Nat) (l : List CK) (hvs : Nat → Value) (w : World) (hr : w.rowIs g 57 (l.length * 3) (cvF l hvs)) (ho : ∀ k, k < l.length → OB w (hvs k) (ckK l k).hd) (hap : ∀ i k, i < l.length → k < l.length → i ≠ k → Ap (hvs i) (hvs k)) (hg : ∀ k, k < l.length → (hvs k).ownBlock ≠ some g) (hz : 0 < z) (hz2 : (z : Int) + 2 * l.length + csz l ≤ 50000000) :
  Calls Tryz.prog 35 #[.slice (some ⟨g, 0, none⟩) l.length c, .int .i64 (z : Int)] w fun e w' => e = .returned (.int .i64 ((z + 2 * l.length + csz l : Nat) : Int)) ∧ w'.rowIs g 57 (l.length * 3) (cvF (mkC z l) hvs) ∧ (∀ k, k < l.length → OB w' (hvs k) (ckK (mkC z l) k).hd) ∧ Kp (fun q => q ≠ g ∧ ∀ k, k < l.length → (hvs k).ownBlock ≠ some q) w w' := by
 have HR := Hid.mk' hr
 have HO := Hid.mk' ho
 have HAP := Hid.mk' hap
 have HG := Hid.mk' hg
 clear hr ho hap hg
 go_enter Tryz.func35, Tryz.ntmps35
 go_wp2
 go_loopw [1, 5] (fun x i wr => ∃ k : Nat, k ≤ l.length ∧ i = .int .i64 k ∧ x = .int .i64 (ckZ z l k : Int) ∧ wr.rowIs g 57 (l.length * 3) (cvH z l hvs k) ∧ (∀ i, i < k → OB wr (hvs i) (ckK (mkC z l) i).hd) ∧ (∀ i, k ≤ i → i < l.length → OB wr (hvs i) (ckK l i).hd) ∧ Kp (fun q => q ≠ g ∧ ∀ k, k < l.length → (hvs k).ownBlock ≠ some q) w wr) (fun _ i _ => l.length - (intOf i).toNat)
 case atStart => exact ⟨0, Nat.zero_le _, rfl, by rw [ckZ_zero], HR.out.congr (fun i _ => by unfold cvH; rw [if_neg (by omega)]), fun i h => absurd h (Nat.not_lt_zero _), fun i _ h => HO.out i h, Kp.refl _ _⟩
 case round =>
  obtain ⟨k, hk, rfl, rfl, hrow, hm, hn, hkp⟩ := hrel
  by_cases hlt : k < l.length
  ·have ci : (k : Int) < (l.length : Int) := by omega
   have sl := ckZ_le z l (k + 1) hlt
   have ss := ckZ_succ z l k hlt
   have r1 := cvH_step hlt hrow
   obtain ⟨Z, hZ⟩ : ∃ Z, ckZ z l k = Z := ⟨_, rfl⟩
   rw [hZ] at r1 ss ⊢
   have ok := hn k (Nat.le_refl _) hlt
   obtain ⟨pa, pc, ev, -⟩ := ok.len
   have f0 := hrow.frozen (k * 3)
   have f1 := hrow.frozen (k * 3 + 1)
   obtain ⟨v0, g0⟩ : ∃ v, wr.cell? ⟨g, k * 3, none⟩ = some v := ⟨_, hrow.cell (by omega)⟩
   obtain ⟨v1, g1⟩ : ∃ v, wr.cell? ⟨g, k * 3 + 1, none⟩ = some v := ⟨_, hrow.cell (by omega)⟩
   have ne : (hvs k).ownBlock ≠ some g := HG.out k hlt
   have q1 : Kp (fun q => q ≠ g) wr ((wr.setCell ⟨g, k * 3, none⟩ (.int .i64 (Z : Int))).setCell ⟨g, k * 3 + 1, none⟩ (.int .i64 ((Z : Int) + 1))) := ((Kp.refl _ wr).setCell (q := ⟨g, k * 3, none⟩) (by simp) _).setCell (q := ⟨g, k * 3 + 1, none⟩) (by simp) _
   have ok1 := ok.keep (w' := (wr.setCell ⟨g, k * 3, none⟩ (.int .i64 (Z : Int))).setCell ⟨g, k * 3 + 1, none⟩ (.int .i64 ((Z : Int) + 1))) (fun q e h => q1.block q h (fun e' => ne (by rw [e, e'])))
   have c2 : ((wr.setCell ⟨g, k * 3, none⟩ (.int .i64 (Z : Int))).setCell ⟨g, k * 3 + 1, none⟩ (.int .i64 ((Z : Int) + 1))).cell? ⟨g, k * 3 + 2, none⟩ = some (.slice pa (ckK l k).hd.length pc) := by
    rw [r1.cell (by omega)]
    unfold cvH
    rw [if_pos (by omega), cvF2, ev]
   have lg := r1.lt
   have KA := markByteS_own (Z + 1 + 1) (hvs k) (ckK l k).hd _ ok1 (by omega)
   rw [ev] at KA
   have KA := Hid.mk' KA
   have R1 := Hid.mk' r1
   have Q1 := Hid.mk' q1
   have HM := Hid.mk' hm
   have HN := Hid.mk' hn
   have HK := Hid.mk' hkp
   have EV := Hid.mk' ev
   have hw1 : IntKind.i64.wrap ((Z : Int) + 1) = (Z : Int) + 1 := by rw [IntKind.wrap_i64]; omega
   have hw2 : IntKind.i64.wrap ((Z : Int) + 1 + 1) = (Z : Int) + 1 + 1 := by rw [IntKind.wrap_i64]; omega
   have NE := Hid.mk' ne
   have SS := Hid.mk' ss
   clear r1 ok ok1 hrow hm hn hkp q1 ev ne ss sl
   generalize hV2 : (wr.setCell ⟨g, k * 3, none⟩ (.int .i64 (Z : Int))).setCell ⟨g, k * 3 + 1, none⟩ (.int .i64 ((Z : Int) + 1)) = V2 at *
   go_wp2_with fail
   clear hV2
   refine KA.out.mono ?_
   rintro e w2 ⟨rfl, ob2, tu2⟩
   have T2 := Hid.mk' tu2
   have O2 := Hid.mk' ob2
   clear KA ob2 tu2 c2 g0 g1 f0 f1
   go_wp2
   go_roundw
   case rel =>
    have t2 := T2.out
    rw [← EV.out] at t2
    have nk : ∀ i, i < l.length → i ≠ k → ∀ q, (hvs i).ownBlock = some q → q < wr.heap.size → w2.heap[q]? = wr.heap[q]? := fun i hi hne q e h =>
     (t2.block q (Nat.lt_of_lt_of_le h Q1.out.size) (fun e' => HAP.out i k hi hlt hne q e e')).trans (Q1.out.block q h (fun e' => HG.out i hi (by rw [e, e'])))
    refine ⟨k + 1, by omega, by go_num, by rw [SS.out]; congr 1, ?_, fun i hi => ?_, fun i h1 h2 => (HN.out i (by omega) h2).keep (nk i h2 (by omega)), ?_⟩
    ·exact R1.out.of_block (t2.block g R1.out.lt NE.out)
    ·by_cases e : i = k
     ·subst e
      rw [mkC_at z l i hlt, hZ]
      have := O2.out
      rw [← EV.out] at this
      exact this
     ·exact (HM.out i (by omega)).keep (nk i (by omega) e)
    ·exact HK.out.trans ⟨t2.os.trans Q1.out.os, t2.tape.trans Q1.out.tape, t2.output.trans Q1.out.output, Nat.le_trans Q1.out.size t2.size, fun q h hp => (t2.block q (Nat.lt_of_lt_of_le h Q1.out.size) (hp.2 k hlt)).trans (Q1.out.block q h hp.1)⟩
   case measure => simp [intOf]; omega
  ·have ci : ¬ (k : Int) < (l.length : Int) := by omega
   have e : k = l.length := by omega
   subst e
   have R1 := Hid.mk' hrow
   have HM := Hid.mk' hm
   have HK := Hid.mk' hkp
   clear hrow hm hn hkp
   go_wp2
   go_ret
   exact ⟨by rw [ckZ_all]; rfl, R1.out.congr (fun i hi => by unfold cvH; rw [if_pos (by omega)]), HM.out, HK.out⟩
theorem heldCheckS_is (z : Nat) (a : Option Addr) (c : Nat) (l : List CK) (w : World) (ha : CsAt w a (mkC z l)) (hz : 0 < z) (hz2 : (z : Int) + 2 * l.length + csz l ≤ 50000000) :
  Calls Tryz.prog 64 #[.slice a l.length c, .int .i64 (z : Int)] w fun e w' => e = .returned (.int .i64 ((z + 2 * l.length + csz l : Nat) : Int)) ∧ Below w.heap.size w w' := by
 have HA := Hid.mk' ha
 clear ha
 go_enter Tryz.func64, Tryz.ntmps64
 go_wp2
 go_loopw [1, 5] (fun x i wr => ∃ k : Nat, k ≤ l.length ∧ i = .int .i64 k ∧ x = .int .i64 (ckZ z l k : Int) ∧ Below w.heap.size w wr) (fun _ i _ => l.length - (intOf i).toNat)
 case atStart => exact ⟨0, Nat.zero_le _, rfl, by rw [ckZ_zero], Below.refl _ _⟩
 case round =>
  obtain ⟨k, hk, rfl, rfl, hbl⟩ := hrel
  have HB := Hid.mk' hbl
  by_cases hlt : k < l.length
  ·have ci : (k : Int) < (l.length : Int) := by omega
   have sl := ckZ_le z l (k + 1) hlt
   have ss := ckZ_succ z l k hlt
   rcases HA.out.below hbl with h0 | ⟨b1, o1, rfl, s1, hc1⟩
   ·have := mkC_len z l; rw [h0] at this; simp at this; omega
   obtain ⟨h1, h2, p1, d1, h4, h5⟩ := hc1 k (by rw [mkC_len]; exact hlt)
   rw [mkC_at z l k hlt] at h1 h2 h4 h5
   obtain ⟨q, hq⟩ : ∃ q : Nat, ckZ z l k = q := ⟨_, rfl⟩
   rw [hq] at h1 h2 h4 h5 ss ⊢
   replace h1 : wr.cell? ⟨b1, o1 + k * 3, none⟩ = some (.int .i64 (q : Int)) := h1
   replace h2 : wr.cell? ⟨b1, o1 + k * 3 + 1, none⟩ = some (.int .i64 ((q : Int) + 1)) := h2
   replace h4 : wr.cell? ⟨b1, o1 + k * 3 + 2, none⟩ = some (.slice p1 (ckK l k).hd.length d1) := by
    have e : (mb (q + 1 + 1) (ckK l k).hd.length).length = (ckK l k).hd.length := mb_len _ _
    rw [← e]; exact h4
   have KB := Hid.mk' (heldByteS_any p1 d1 (ckK l k).hd.length (q + 1 + 1) wr h5 (by omega))
   have SS := Hid.mk' ss
   have hw1 : IntKind.i64.wrap ((q : Int) + 1) = (q : Int) + 1 := by rw [IntKind.wrap_i64]; omega
   have hw2 : IntKind.i64.wrap ((q : Int) + 1 + 1) = (q : Int) + 1 + 1 := by rw [IntKind.wrap_i64]; omega
   have zz : ¬ ((q : Int) + 1 + 1 + ((ckK l k).hd.length : Int) < 0) := by omega
   clear hbl hc1 h5 sl ss hq
   go_wp2_with fail
   refine KB.out.mono ?_
   rintro e w1 ⟨rfl, hb1⟩
   have B1 := Hid.mk' (HB.out.trans (hb1.mono HB.out.size))
   clear hb1 KB
   go_wp2
   go_roundw
   case rel => exact ⟨k + 1, by omega, by go_num, by rw [SS.out]; congr 1, B1.out⟩
   case measure => simp [intOf]; omega
  ·have ci : ¬ (k : Int) < (l.length : Int) := by omega
   have e : k = l.length := by omega
   subst e
   go_wp2
   go_ret
   exact ⟨by rw [ckZ_all]; rfl, HB.out⟩
def OC (w : World) (v : Value) (l : List CK) (hvs : Nat → Value) : Prop := (v = .slice none 0 0 ∧ l = []) ∨
 ∃ g, v = .slice (some ⟨g, 0, none⟩) l.length l.length ∧ w.rowIs g 57 (l.length * 3) (cvF l hvs)
theorem OC.keep {w w' : World} {v : Value} {l : List CK} {hvs : Nat → Value} (h : OC w v l hvs) (hk : ∀ q, v.ownBlock = some q → q < w.heap.size → w'.heap[q]? = w.heap[q]?) : OC w' v l hvs := by
 rcases h with h | ⟨g, rfl, hr⟩
 ·exact .inl h
 ·exact .inr ⟨g, rfl, hr.of_block (hk g rfl hr.lt)⟩
theorem OC.at {w : World} {v : Value} {l : List CK} {hvs : Nat → Value} (h : OC w v l hvs) (ho : ∀ k, k < l.length → OB w (hvs k) (ckK l k).hd) : ∃ a c, v = .slice a l.length c ∧ CsAt w a l := by
 rcases h with ⟨rfl, rfl⟩ | ⟨g, rfl, hr⟩
 ·exact ⟨none, 0, rfl, .inl rfl⟩
 ·refine ⟨_, _, rfl, .inr ⟨g, 0, rfl, hr.lt, fun k hk => ?_⟩⟩
  obtain ⟨p, c, e, hb⟩ := (ho k hk).len
  simp only [Nat.zero_add]
  exact ⟨by rw [hr.cell (by omega), cvF0], by rw [hr.cell (by omega), cvF1], p, c, by rw [hr.cell (by omega), cvF2, e], hb⟩
theorem markCheckS_nil (z : Nat) (w : World) (hz : (z : Int) ≤ 50000000) :
  Calls Tryz.prog 35 #[.slice none 0 0, .int .i64 (z : Int)] w fun e w' => e = .returned (.int .i64 (z : Int)) ∧ w' = w := by
 go_enter Tryz.func35, Tryz.ntmps35
 go_wp2
 go_loop [1, 5] (fun s x => x = .int .i64 0 ∧ s = .int .i64 (z : Int)) (fun _ _ => 0)
 case atStart => exact ⟨rfl, rfl⟩
 case round =>
  obtain ⟨rfl, rfl⟩ := hrel
  go_wp2
  go_ret
  exact ⟨rfl, rfl⟩
theorem markCheckS_oc (z : Nat) (v : Value) (l : List CK) (hvs : Nat → Value) (w : World) (hr : OC w v l hvs) (ho : ∀ k, k < l.length → OB w (hvs k) (ckK l k).hd) (hap : ∀ i k, i < l.length → k < l.length → i ≠ k → Ap (hvs i) (hvs k)) (hg : ∀ k, k < l.length → Ap (hvs k) v) (hz : 0 < z) (hz2 : (z : Int) + 2 * l.length + csz l ≤ 50000000) :
  Calls Tryz.prog 35 #[v, .int .i64 (z : Int)] w fun e w' => e = .returned (.int .i64 ((z + 2 * l.length + csz l : Nat) : Int)) ∧ OC w' v (mkC z l) hvs ∧ (∀ k, k < l.length → OB w' (hvs k) (ckK (mkC z l) k).hd) ∧ Kp (fun q => v.ownBlock ≠ some q ∧ ∀ k, k < l.length → (hvs k).ownBlock ≠ some q) w w' := by
 rcases hr with ⟨rfl, rfl⟩ | ⟨g, rfl, hr⟩
 ·refine (markCheckS_nil z w (by simp [csz] at hz2; omega)).mono ?_
  rintro e w' ⟨rfl, rfl⟩
  exact ⟨by simp [csz], .inl ⟨rfl, rfl⟩, fun k hk => absurd hk (Nat.not_lt_zero _), Kp.refl _ _⟩
 ·refine (markCheckS_is g l.length z l hvs w hr ho hap (fun k hk e => hg k hk g e rfl) hz hz2).mono ?_
  rintro e w' ⟨rfl, h1, h2, h3⟩
  exact ⟨rfl, .inr ⟨g, by rw [mkC_len], by rw [mkC_len]; exact h1⟩, h2, h3.mono (fun q hq => ⟨fun e => hq.1 (by rw [e]; rfl), hq.2⟩)⟩
structure GM (lo hi : Nat) (tau : Nat → Nat) (m : ME) (vd tv hv cv : Value) (us : List Value) (rs : Nat → List Value) (bl bh : Nat → Nat) (hvs : Nat → Value) (w : World) : Prop where
 d : OB w vd m.dt
 t : TP lo w tv m.tk us rs bl bh
 h : OB w hv m.hd
 c : OC w cv m.cs hvs
 k : ∀ i, i < m.cs.length → OB w (hvs i) (ckK m.cs i).hd
 ld : ∀ q, vd.ownBlock = some q → tau q = 0 ∧ lo ≤ q ∧ q < hi
 lt : ∀ q, ¬ TFree tv m.tk.length bl bh q → tau q = 1 ∧ lo ≤ q ∧ q < hi
 lh : ∀ q, hv.ownBlock = some q → tau q = 2 ∧ lo ≤ q ∧ q < hi
 lc : ∀ q, cv.ownBlock = some q → tau q = 3 ∧ lo ≤ q ∧ q < hi
 lk : ∀ i, i < m.cs.length → ∀ q, (hvs i).ownBlock = some q → tau q = 4 + i ∧ lo ≤ q ∧ q < hi
theorem TP.keepF {lo : Nat} {w w' : World} {tv : Value} {ts : List TK} {us : List Value} {rs : Nat → List Value} {bl bh : Nat → Nat} (h : TP lo w tv ts us rs bl bh) (hs : w.heap.size ≤ w'.heap.size) (hk : ∀ q, ¬ TFree tv ts.length bl bh q → q < w.heap.size → w'.heap[q]? = w.heap[q]?) : TP lo w' tv ts us rs bl bh :=
 ⟨own_of h.row (Nat.le_refl _) (fun k e hl => hk k (fun f => f.1 e) (h.row.lt k e).2), (h.ta.keep (fun j hj k h1 h2 h3 => hk k (fun f => f.2 j hj ⟨h1, h2⟩) h3)).widen (Nat.le_refl _) hs, h.vt⟩
theorem GM.below {lo hi : Nat} {tau : Nat → Nat} {m : ME} {vd tv hv cv : Value} {us : List Value} {rs : Nat → List Value} {bl bh : Nat → Nat} {hvs : Nat → Value} {w w' : World} (x : GM lo hi tau m vd tv hv cv us rs bl bh hvs w) (hb : Below w.heap.size w w') : GM lo hi tau m vd tv hv cv us rs bl bh hvs w' :=
 ⟨x.d.below hb, x.t.below hb, x.h.below hb, x.c.keep (fun q _ h => hb.block q h), fun i hi => (x.k i hi).below hb, x.ld, x.lt, x.lh, x.lc, x.lk⟩
theorem GM.kept {lo hi a b : Nat} {tau : Nat → Nat} {m : ME} {vd tv hv cv : Value} {us : List Value} {rs : Nat → List Value} {bl bh : Nat → Nat} {hvs : Nat → Value} {w w' : World} (x : GM lo hi tau m vd tv hv cv us rs bl bh hvs w) (hk : KeptIn a b w w') (hb : b ≤ lo) : GM lo hi tau m vd tv hv cv us rs bl bh hvs w' :=
 ⟨x.d.keep (fun q e h => hk.block q h (.inr (by have := x.ld q e; omega))), x.t.keepF hk.size (fun q e h => hk.block q h (.inr (by have := x.lt q e; omega))), x.h.keep (fun q e h => hk.block q h (.inr (by have := x.lh q e; omega))), x.c.keep (fun q e h => hk.block q h (.inr (by have := x.lc q e; omega))), fun i hi => (x.k i hi).keep (fun q e h => hk.block q h (.inr (by have := x.lk i hi q e; omega))), x.ld, x.lt, x.lh, x.lc, x.lk⟩
theorem GM.at {lo hi : Nat} {tau : Nat → Nat} {m : ME} {vd tv hv cv : Value} {us : List Value} {rs : Nat → List Value} {bl bh : Nat → Nat} {hvs : Nat → Value} {w : World} (x : GM lo hi tau m vd tv hv cv us rs bl bh hvs w) : ∃ a t u c ca ct cu cc, vd = .slice a m.dt.length ca ∧ tv = .slice t m.tk.length ct ∧ hv = .slice u m.hd.length cu ∧ cv = .slice c m.cs.length cc ∧ MAt w a t u c m := by
 obtain ⟨a, ca, e1, h1⟩ := x.d.len
 obtain ⟨t, ct, e2, h2⟩ := x.t.tsAt
 obtain ⟨u, cu, e3, h3⟩ := x.h.len
 obtain ⟨c, cc, e4, h4⟩ := x.c.at x.k
 exact ⟨a, t, u, c, ca, ct, cu, cc, e1, e2, e3, e4, h1, h2, h3, h4⟩
def mkM (m : ME) : ME := ⟨mb 1 m.dt.length, m.st, mkT (1 + m.dt.length) m.tk, mb (1 + m.dt.length + ctN m.tk) m.hd.length, mkC (1 + m.dt.length + ctN m.tk + m.hd.length) m.cs⟩
def mkN (m : ME) : Nat := 1 + m.dt.length + ctN m.tk + m.hd.length + 2 * m.cs.length + csz m.cs
theorem markMemo_is (lo hi : Nat) (tau : Nat → Nat) (m : ME) (vd tv hv cv : Value) (us : List Value) (rs : Nat → List Value) (bl bh : Nat → Nat) (hvs : Nat → Value) (w : World) (x : GM lo hi tau m vd tv hv cv us rs bl bh hvs w) (hlo : lo ≤ w.heap.size) (hhi : hi ≤ w.heap.size) (hm : (msz m : Int) ≤ 1048576) :
  Calls Tryz.prog 16 #[.agg #[vd, .int .i64 m.st, tv, hv, cv], .int .i64 1] w fun e w' => e = .returned (.int .i64 (mkN m : Int)) ∧ (∃ tau', GM lo hi tau' (mkM m) vd tv hv cv us rs bl bh hvs w') ∧ KeptIn lo hi w w' := by
 have MS_ : (msz m : Int) = m.dt.length + m.tk.length + tssz m.tk + m.hd.length + m.cs.length + csz m.cs := by unfold msz; omega
 have ctl := ctN_le m.tk m.tk.length
 rw [List.take_length] at ctl
 obtain ⟨a, t, u, c, ca, ct, cu, cc, e1, e2, e3, e4, -⟩ := x.at
 have N0 := below_new w (.cells #[vd, .int .i64 m.st, tv, hv, cv] 34)
 have R0 := Hid.mk' (row5 w 34 vd (.int .i64 m.st) tv hv cv)
 have X0 := Hid.mk' (x.below N0)
 have K0 : Hid (KeptIn lo hi w (w.alloc (.cells #[vd, .int .i64 m.st, tv, hv, cv] 34))) := Hid.mk' (KeptIn.of_below N0)
 have E1 := Hid.mk' e1
 have E2 := Hid.mk' e2
 have E3 := Hid.mk' e3
 have E4 := Hid.mk' e4
 have XX := Hid.mk' x
 clear N0 x
 have KD := Hid.mk' (markByteS_own 1 vd m.dt _ X0.out.d (by omega))
 obtain ⟨z1, hz1⟩ : ∃ z1 : Nat, z1 = 1 + m.dt.length := ⟨_, rfl⟩
 obtain ⟨z2, hz2⟩ : ∃ z2 : Nat, z2 = 1 + m.dt.length + ctN m.tk := ⟨_, rfl⟩
 obtain ⟨z3, hz3⟩ : ∃ z3 : Nat, z3 = 1 + m.dt.length + ctN m.tk + m.hd.length := ⟨_, rfl⟩
 have s1 : ((1 : Nat) : Int) + (m.dt.length : Int) = (z1 : Int) := by omega
 have s2 : z1 + ctN m.tk = z2 := by omega
 have s3 : (z2 : Int) + (m.hd.length : Int) = (z3 : Int) := by omega
 have s4 : z3 + 2 * m.cs.length + csz m.cs = mkN m := by unfold mkN; omega
 have b1 : z1 ≤ 1048577 := by omega
 have b2 : z2 ≤ 6000000 := by omega
 have b3 : z3 ≤ 7100000 := by omega
 have p1 : 0 < z1 := by omega
 have p2_ : 0 < z2 := by omega
 have p3 : 0 < z3 := by omega
 have sB : (m.tk.length : Int) + tssz m.tk ≤ 1048576 := by omega
 have sC : (m.hd.length : Int) ≤ 1048576 := by omega
 have sD : (m.cs.length : Int) + csz m.cs ≤ 1048576 := by omega
 have Z1 := Hid.mk' hz1
 have Z2 := Hid.mk' hz2
 have Z3 := Hid.mk' hz3
 have S4 := Hid.mk' s4
 clear MS_ hm ctl hz1 hz2 hz3 s4
 rw [e1, e2, e3, e4] at R0
 generalize hW : w.alloc (.cells #[vd, .int .i64 m.st, tv, hv, cv] 34) = W at *
 rw [e1, e2, e3, e4] at hW
 rw [e1, e2, e3, e4]
 rw [hW] at R0
 rw [e1] at KD
 have hne : ∀ q, q < hi → q ≠ w.heap.size := fun q hq => by omega
 clear e1 e2 e3 e4
 obtain ⟨x0, x1, x2, x3, x4, x5⟩ := cells5 R0.out
 go_enter Tryz.func16, Tryz.ntmps16
 go_wp2_with fail
 clear hW x0 x1 x2 x3 x4 x5
 refine KD.out.mono ?_
 rintro e w1 ⟨he, o1, t1⟩
 rw [s1] at he
 subst he
 rw [← E1.out] at o1 t1
 have R1 := Hid.mk' (R0.out.of_block (t1.block _ R0.out.lt (fun e => hne _ (X0.out.ld _ e).2.2 rfl)))
 have O1 := Hid.mk' o1
 have T1 := Hid.mk' (X0.out.t.keepF t1.size (fun q f h => t1.block q h (fun e => by have := X0.out.ld q e; have := X0.out.lt q f; omega)))
 have H1 := Hid.mk' (X0.out.h.keep (fun q f h => t1.block q h (fun e => by have := X0.out.ld q e; have := X0.out.lh q f; omega)))
 have C1 := Hid.mk' (X0.out.c.keep (fun q f h => t1.block q h (fun e => by have := X0.out.ld q e; have := X0.out.lc q f; omega)))
 have Q1 : Hid (∀ i, i < m.cs.length → OB w1 (hvs i) (ckK m.cs i).hd) := Hid.mk' (fun i hi => (X0.out.k i hi).keep (fun q f h => t1.block q h (fun e => by have := X0.out.ld q e; have := X0.out.lk i hi q f; omega)))
 have K1 := Hid.mk' (K0.out.trans (t1.kept (fun q e => (X0.out.ld q e).2)))
 clear o1 t1 KD K0 R0 s1
 have KT := markTokenS_is z1 lo tv m.tk us rs bl bh w1 T1.out (by have := K1.out.size; omega) p1 (by omega) sB
 rw [s2, E2.out] at KT
 have KT := Hid.mk' KT
 obtain ⟨x0, x1, x2, x3, x4, x5⟩ := cells5 R1.out
 go_wp2_with fail
 clear x0 x1 x2 x3 x4 x5
 refine KT.out.mono ?_
 rintro e w2 ⟨rfl, o2, t2⟩
 rw [← E2.out] at o2 t2
 have R2 := Hid.mk' (R1.out.of_block (t2.block _ R1.out.lt (Classical.byContradiction fun f => hne _ (XX.out.lt _ f).2.2 rfl)))
 have D2 := Hid.mk' (O1.out.keep (fun q f h => t2.block q h (Classical.byContradiction fun e => by have := XX.out.lt q e; have := XX.out.ld q f; omega)))
 have T2 := Hid.mk' o2
 have H2 := Hid.mk' (H1.out.keep (fun q f h => t2.block q h (Classical.byContradiction fun e => by have := XX.out.lt q e; have := XX.out.lh q f; omega)))
 have C2 := Hid.mk' (C1.out.keep (fun q f h => t2.block q h (Classical.byContradiction fun e => by have := XX.out.lt q e; have := XX.out.lc q f; omega)))
 have Q2 : Hid (∀ i, i < m.cs.length → OB w2 (hvs i) (ckK m.cs i).hd) := Hid.mk' (fun i hi => (Q1.out i hi).keep (fun q f h => t2.block q h (Classical.byContradiction fun e => by have := XX.out.lt q e; have := XX.out.lk i hi q f; omega)))
 have K2 : Hid (KeptIn lo hi w w2) := Hid.mk' (K1.out.trans ⟨t2.os, t2.tape, t2.output, t2.size, fun q h hc => t2.block q h (Classical.byContradiction fun e => by have := XX.out.lt q e; omega)⟩)
 clear o2 t2 KT K1 R1 O1 T1 H1 C1 Q1 s2
 have KH := markByteS_own z2 hv m.hd w2 H2.out (by omega)
 rw [s3, E3.out] at KH
 have KH := Hid.mk' KH
 obtain ⟨x0, x1, x2, x3, x4, x5⟩ := cells5 R2.out
 go_wp2_with fail
 clear x0 x1 x2 x3 x4 x5
 refine KH.out.mono ?_
 rintro e w3 ⟨rfl, o3, t3⟩
 rw [← E3.out] at o3 t3
 have R3 := Hid.mk' (R2.out.of_block (t3.block _ R2.out.lt (fun e => hne _ (XX.out.lh _ e).2.2 rfl)))
 have D3 := Hid.mk' (D2.out.keep (fun q f h => t3.block q h (fun e => by have := XX.out.lh q e; have := XX.out.ld q f; omega)))
 have T3 := Hid.mk' (T2.out.keepF t3.size (fun q f h => t3.block q h (fun e => by have := XX.out.lh q e; rw [mkT_len] at f; have := XX.out.lt q f; omega)))
 have H3 := Hid.mk' o3
 have C3 := Hid.mk' (C2.out.keep (fun q f h => t3.block q h (fun e => by have := XX.out.lh q e; have := XX.out.lc q f; omega)))
 have Q3 : Hid (∀ i, i < m.cs.length → OB w3 (hvs i) (ckK m.cs i).hd) := Hid.mk' (fun i hi => (Q2.out i hi).keep (fun q f h => t3.block q h (fun e => by have := XX.out.lh q e; have := XX.out.lk i hi q f; omega)))
 have K3 := Hid.mk' (K2.out.trans (t3.kept (fun q e => (XX.out.lh q e).2)))
 clear o3 t3 KH K2 R2 D2 T2 H2 C2 Q2 s3
 have KC := markCheckS_oc z3 cv m.cs hvs w3 C3.out Q3.out (fun i k h1 h2 hne q f g => by have := XX.out.lk i h1 q f; have := XX.out.lk k h2 q g; omega) (fun k hk q f g => by have := XX.out.lk k hk q f; have := XX.out.lc q g; omega) p3 (by omega)
 rw [S4.out, E4.out] at KC
 have KC := Hid.mk' KC
 obtain ⟨x0, x1, x2, x3, x4, x5⟩ := cells5 R3.out
 go_wp2_with fail
 clear x0 x1 x2 x3 x4 x5
 refine KC.out.mono ?_
 rintro e w4 ⟨rfl, o4, q4, t4⟩
 rw [← E4.out] at o4 t4
 have D4 := Hid.mk' (D3.out.keep (fun q f h => t4.block q h ⟨fun e => by have := XX.out.lc q e; have := XX.out.ld q f; omega, fun k hk e => by have := XX.out.lk k hk q e; have := XX.out.ld q f; omega⟩))
 have T4 := Hid.mk' (T3.out.keepF t4.size (fun q f h => t4.block q h ⟨fun e => by rw [mkT_len] at f; have := XX.out.lc q e; have := XX.out.lt q f; omega, fun k hk e => by rw [mkT_len] at f; have := XX.out.lk k hk q e; have := XX.out.lt q f; omega⟩))
 have H4 := Hid.mk' (H3.out.keep (fun q f h => t4.block q h ⟨fun e => by have := XX.out.lc q e; have := XX.out.lh q f; omega, fun k hk e => by have := XX.out.lk k hk q e; have := XX.out.lh q f; omega⟩))
 have C4 := Hid.mk' o4
 have Q4 := Hid.mk' q4
 have K4 : Hid (KeptIn lo hi w w4) := Hid.mk' (K3.out.trans ⟨t4.os, t4.tape, t4.output, t4.size, fun q h hc => t4.block q h ⟨fun e => by have := XX.out.lc q e; omega, fun k hk e => by have := XX.out.lk k hk q e; omega⟩⟩)
 clear o4 t4 q4 KC K3 R3 D3 T3 H3 C3 Q3
 go_wp2
 go_ret
 refine ⟨rfl, ⟨tau, ?_⟩, K4.out⟩
 rw [← E1.out, ← E2.out, ← E3.out, ← E4.out]
 unfold mkM
 rw [← Z3.out, ← Z2.out, ← Z1.out]
 exact ⟨D4.out, T4.out, H4.out, C4.out, fun i hi => Q4.out i (by rw [mkC_len] at hi; exact hi), XX.out.ld, fun q f => XX.out.lt q (by rw [mkT_len] at f; exact f), XX.out.lh, XX.out.lc, fun i hi q f => XX.out.lk i (by rw [mkC_len] at hi; exact hi) q f⟩
theorem heldMemo_is (m : ME) (a t u c : Option Addr) (ca ct cu cc : Nat) (w : World) (h : MAt w a t u c (mkM m)) (hm : (msz m : Int) ≤ 1048576) :
  Calls Tryz.prog 36 #[.agg #[.slice a m.dt.length ca, .int .i64 m.st, .slice t m.tk.length ct, .slice u m.hd.length cu, .slice c m.cs.length cc], .int .i64 1] w fun e w' => e = .returned (.int .i64 (mkN m : Int)) ∧ Below w.heap.size w w' := by
 have MS_ : (msz m : Int) = m.dt.length + m.tk.length + tssz m.tk + m.hd.length + m.cs.length + csz m.cs := by unfold msz; omega
 have ctl := ctN_le m.tk m.tk.length
 rw [List.take_length] at ctl
 have N0 := below_new w (.cells #[.slice a m.dt.length ca, .int .i64 m.st, .slice t m.tk.length ct, .slice u m.hd.length cu, .slice c m.cs.length cc] 34)
 have R0 := Hid.mk' (row5 w 34 (.slice a m.dt.length ca) (.int .i64 m.st) (.slice t m.tk.length ct) (.slice u m.hd.length cu) (.slice c m.cs.length cc))
 have X0 := h.below N0
 obtain ⟨h1, h2, h3, h4⟩ := X0
 have B0 := Hid.mk' N0
 obtain ⟨z1, hz1⟩ : ∃ z1 : Nat, z1 = 1 + m.dt.length := ⟨_, rfl⟩
 obtain ⟨z2, hz2⟩ : ∃ z2 : Nat, z2 = 1 + m.dt.length + ctN m.tk := ⟨_, rfl⟩
 obtain ⟨z3, hz3⟩ : ∃ z3 : Nat, z3 = 1 + m.dt.length + ctN m.tk + m.hd.length := ⟨_, rfl⟩
 have s1 : ((1 : Nat) : Int) + (m.dt.length : Int) = (z1 : Int) := by omega
 have s2 : z1 + ctN m.tk = z2 := by omega
 have s3 : (z2 : Int) + (m.hd.length : Int) = (z3 : Int) := by omega
 have s4 : z3 + 2 * m.cs.length + csz m.cs = mkN m := by unfold mkN; omega
 have H1 : Hid (BAt _ a (mb 1 m.dt.length)) := Hid.mk' h1
 have H2 : Hid (TsAt _ t (mkT z1 m.tk)) := Hid.mk' (by rw [hz1]; exact h2)
 have H3 : Hid (BAt _ u (mb z2 m.hd.length)) := Hid.mk' (by rw [hz2]; exact h3)
 have H4 : Hid (CsAt _ c (mkC z3 m.cs)) := Hid.mk' (by rw [hz3]; exact h4)
 have b1 : z1 ≤ 1048577 := by omega
 have b2 : z2 ≤ 6000000 := by omega
 have b3 : z3 ≤ 7100000 := by omega
 have p1 : 0 < z1 := by omega
 have p2_ : 0 < z2 := by omega
 have p3 : 0 < z3 := by omega
 have sB : (m.tk.length : Int) + tssz m.tk ≤ 1048576 := by omega
 have sC : (m.hd.length : Int) ≤ 1048576 := by omega
 have sD : (m.cs.length : Int) + csz m.cs ≤ 1048576 := by omega
 have sN : mkN m ≤ 10300000 := by omega
 have KD := Hid.mk' (heldByteS_any a ca m.dt.length 1 _ H1.out (by omega))
 clear MS_ hm ctl hz1 hz2 hz3 N0 h h1 h2 h3 h4
 generalize hW : w.alloc (.cells #[.slice a m.dt.length ca, .int .i64 m.st, .slice t m.tk.length ct, .slice u m.hd.length cu, .slice c m.cs.length cc] 34) = W at *
 obtain ⟨x0, x1, x2, x3, x4, x5⟩ := cells5 R0.out
 have g1 : ¬ ((z1 : Int) < 0) := by omega
 have g2 : ¬ ((z2 : Int) < 0) := by omega
 have g3 : ¬ ((z3 : Int) < 0) := by omega
 have g4 : ¬ ((mkN m : Int) < 0) := by omega
 go_enter Tryz.func36, Tryz.ntmps36
 go_wp2_with fail
 clear hW x0 x1 x2 x3 x4 x5
 refine KD.out.mono ?_
 rintro e w1 ⟨he, hb1⟩
 rw [s1] at he
 subst he
 have B1 := Hid.mk' (B0.out.trans (hb1.mono B0.out.size))
 have R1 := Hid.mk' (rowB R0.out hb1)
 have KT := heldTokenS_is z1 t ct m.tk w1 (H2.out.below hb1) p1 (by omega) sB
 rw [s2] at KT
 have KT := Hid.mk' KT
 have H31 := Hid.mk' (H3.out.below hb1)
 have H41 := Hid.mk' (H4.out.below hb1)
 clear hb1 KD B0 R0 H1 H2 H3 H4 s1 s2
 obtain ⟨x0, x1, x2, x3, x4, x5⟩ := cells5 R1.out
 go_wp2_with fail
 clear x0 x1 x2 x3 x4 x5
 refine KT.out.mono ?_
 rintro e w2 ⟨rfl, hb2⟩
 have B2 := Hid.mk' (B1.out.trans (hb2.mono B1.out.size))
 have R2 := Hid.mk' (rowB R1.out hb2)
 have KH := heldByteS_any u cu m.hd.length z2 w2 (H31.out.below hb2) (by omega)
 rw [s3] at KH
 have KH := Hid.mk' KH
 have H42 := Hid.mk' (H41.out.below hb2)
 clear hb2 KT B1 R1 H31 H41 s3
 obtain ⟨x0, x1, x2, x3, x4, x5⟩ := cells5 R2.out
 go_wp2_with fail
 clear x0 x1 x2 x3 x4 x5
 refine KH.out.mono ?_
 rintro e w3 ⟨rfl, hb3⟩
 have B3 := Hid.mk' (B2.out.trans (hb3.mono B2.out.size))
 have R3 := Hid.mk' (rowB R2.out hb3)
 have KC := heldCheckS_is z3 c cc m.cs w3 (H42.out.below hb3) p3 (by omega)
 rw [s4] at KC
 have KC := Hid.mk' KC
 clear hb3 KH B2 R2 H42 s4
 obtain ⟨x0, x1, x2, x3, x4, x5⟩ := cells5 R3.out
 go_wp2_with fail
 clear x0 x1 x2 x3 x4 x5
 refine KC.out.mono ?_
 rintro e w4 ⟨rfl, hb4⟩
 have B4 := Hid.mk' (B3.out.trans (hb4.mono B3.out.size))
 clear hb4 KC B3 R3
 go_wp2
 go_ret
 exact ⟨rfl, B4.out⟩
theorem heldMR_is (C R : Int) (m : ME) (a t u c : Option Addr) (ca ct cu cc : Nat) (w : World) (h : MAt w a t u c (mkM m)) (hm : (msz m : Int) ≤ 1048576) :
  Calls Tryz.prog 19 #[.agg #[.int .i64 C, .int .i64 R, .slice a m.dt.length ca, .int .i64 m.st, .slice t m.tk.length ct, .slice u m.hd.length cu, .slice c m.cs.length cc], .int .i64 1] w fun e w' => e = .returned (.int .i64 (mkN m : Int)) ∧ Below w.heap.size w w' := by
 have N0 := below_new w (.cells #[.int .i64 C, .int .i64 R, .slice a m.dt.length ca, .int .i64 m.st, .slice t m.tk.length ct, .slice u m.hd.length cu, .slice c m.cs.length cc] 42)
 have KM := Hid.mk' (heldMemo_is m a t u c ca ct cu cc _ (h.below N0) hm)
 have B0 := Hid.mk' N0
 obtain ⟨x0, x1, x2, x3, x4, x5, x6, x7⟩ := cells7 (row7 w 42 (.int .i64 C) (.int .i64 R) (.slice a m.dt.length ca) (.int .i64 m.st) (.slice t m.tk.length ct) (.slice u m.hd.length cu) (.slice c m.cs.length cc))
 have g4 : ¬ ((mkN m : Int) < 0) := by omega
 clear N0 h
 generalize hW : w.alloc (.cells #[.int .i64 C, .int .i64 R, .slice a m.dt.length ca, .int .i64 m.st, .slice t m.tk.length ct, .slice u m.hd.length cu, .slice c m.cs.length cc] 42) = W at *
 go_enter Tryz.func19, Tryz.ntmps19
 go_wp2_with fail
 clear hW x0 x1 x2 x3 x4 x5 x6 x7
 refine KM.out.mono ?_
 rintro e w1 ⟨rfl, hb1⟩
 have B1 := Hid.mk' (B0.out.trans (hb1.mono B0.out.size))
 clear hb1 KM B0
 go_wp2
 go_ret
 exact ⟨rfl, B1.out⟩
theorem markMR_is (C R : Int) (lo hi : Nat) (tau : Nat → Nat) (m : ME) (vd tv hv cv : Value) (us : List Value) (rs : Nat → List Value) (bl bh : Nat → Nat) (hvs : Nat → Value) (w : World) (x : GM lo hi tau m vd tv hv cv us rs bl bh hvs w) (hlo : lo ≤ w.heap.size) (hhi : hi ≤ w.heap.size) (hm : (msz m : Int) ≤ 1048576) :
  Calls Tryz.prog 18 #[.agg #[.int .i64 C, .int .i64 R, vd, .int .i64 m.st, tv, hv, cv], .int .i64 1] w fun e w' => e = .returned (.int .i64 (mkN m : Int)) ∧ (∃ tau', GM lo hi tau' (mkM m) vd tv hv cv us rs bl bh hvs w') ∧ KeptIn lo hi w w' := by
 obtain ⟨a, t, u, c, ca, ct, cu, cc, e1, e2, e3, e4, -⟩ := x.at
 have N0 := below_new w (.cells #[.int .i64 C, .int .i64 R, vd, .int .i64 m.st, tv, hv, cv] 42)
 have KM := markMemo_is lo hi tau m vd tv hv cv us rs bl bh hvs _ (x.below N0) (Nat.le_trans hlo N0.size) (Nat.le_trans hhi N0.size) hm
 have K0 : Hid (KeptIn lo hi w (w.alloc (.cells #[.int .i64 C, .int .i64 R, vd, .int .i64 m.st, tv, hv, cv] 42))) := Hid.mk' (KeptIn.of_below N0)
 obtain ⟨x0, x1, x2, x3, x4, x5, x6, x7⟩ := cells7 (row7 w 42 (.int .i64 C) (.int .i64 R) vd (.int .i64 m.st) tv hv cv)
 clear N0 x
 subst e1 e2 e3 e4
 have KM := Hid.mk' KM
 generalize hW : w.alloc (.cells #[.int .i64 C, .int .i64 R, .slice a m.dt.length ca, .int .i64 m.st, .slice t m.tk.length ct, .slice u m.hd.length cu, .slice c m.cs.length cc] 42) = W at *
 go_enter Tryz.func18, Tryz.ntmps18
 go_wp2_with fail
 clear hW x0 x1 x2 x3 x4 x5 x6 x7
 refine KM.out.mono ?_
 rintro e w1 ⟨rfl, g1, k1⟩
 have G1 := Hid.mk' g1
 have K1 := Hid.mk' (K0.out.trans k1)
 clear g1 k1 KM K0
 go_wp2
 go_ret
 exact ⟨rfl, G1.out, K1.out⟩
theorem eqMR_any (C R : Int) (m : ME) (a t u c a2 t2 u2 c2 : Option Addr) (ca ct cu cc da dt du dc : Nat) (w : World) (h1 : MAt w a t u c m) (h2 : MAt w a2 t2 u2 c2 m) (hl : (msz m : Int) ≤ 1048576) :
  Calls Tryz.prog 15 #[.agg #[.int .i64 C, .int .i64 R, .slice a m.dt.length ca, .int .i64 m.st, .slice t m.tk.length ct, .slice u m.hd.length cu, .slice c m.cs.length cc], .agg #[.int .i64 C, .int .i64 R, .slice a2 m.dt.length da, .int .i64 m.st, .slice t2 m.tk.length dt, .slice u2 m.hd.length du, .slice c2 m.cs.length dc]] w fun e w' => e = .returned (.bool true) ∧ Below w.heap.size w w' := by
 have N0 := below_new w (.cells #[.int .i64 C, .int .i64 R, .slice a m.dt.length ca, .int .i64 m.st, .slice t m.tk.length ct, .slice u m.hd.length cu, .slice c m.cs.length cc] 42)
 have N1 := N0.alloc (by simp) (.cells #[.int .i64 C, .int .i64 R, .slice a2 m.dt.length da, .int .i64 m.st, .slice t2 m.tk.length dt, .slice u2 m.hd.length du, .slice c2 m.cs.length dc] 42)
 have KM := Hid.mk' (eqMemo_any m a t u c a2 t2 u2 c2 ca ct cu cc da dt du dc _ (h1.below N1) (h2.below N1) hl)
 have B0 := Hid.mk' N1
 obtain ⟨x0, x1, x2, x3, x4, x5, x6, x7⟩ := cells7 ((row7 w 42 (.int .i64 C) (.int .i64 R) (.slice a m.dt.length ca) (.int .i64 m.st) (.slice t m.tk.length ct) (.slice u m.hd.length cu) (.slice c m.cs.length cc)).alloc (.cells #[.int .i64 C, .int .i64 R, .slice a2 m.dt.length da, .int .i64 m.st, .slice t2 m.tk.length dt, .slice u2 m.hd.length du, .slice c2 m.cs.length dc] 42))
 have RY := row7 (w.alloc (.cells #[.int .i64 C, .int .i64 R, .slice a m.dt.length ca, .int .i64 m.st, .slice t m.tk.length ct, .slice u m.hd.length cu, .slice c m.cs.length cc] 42)) 42 (.int .i64 C) (.int .i64 R) (.slice a2 m.dt.length da) (.int .i64 m.st) (.slice t2 m.tk.length dt) (.slice u2 m.hd.length du) (.slice c2 m.cs.length dc)
 rw [show (w.alloc (.cells #[.int .i64 C, .int .i64 R, .slice a m.dt.length ca, .int .i64 m.st, .slice t m.tk.length ct, .slice u m.hd.length cu, .slice c m.cs.length cc] 42)).heap.size = w.heap.size + 1 by simp] at RY
 obtain ⟨y0, y1, y2, y3, y4, y5, y6, y7⟩ := cells7 RY
 clear N0 N1 h1 h2 RY
 generalize hW : (w.alloc (.cells #[.int .i64 C, .int .i64 R, .slice a m.dt.length ca, .int .i64 m.st, .slice t m.tk.length ct, .slice u m.hd.length cu, .slice c m.cs.length cc] 42)).alloc (.cells #[.int .i64 C, .int .i64 R, .slice a2 m.dt.length da, .int .i64 m.st, .slice t2 m.tk.length dt, .slice u2 m.hd.length du, .slice c2 m.cs.length dc] 42) = W at *
 go_enter Tryz.func15, Tryz.ntmps15
 go_wp2_with fail
 clear hW x0 x1 x2 x3 x4 x5 x6 x7 y0 y1 y2 y3 y4 y5 y6 y7
 refine KM.out.mono ?_
 rintro e w1 ⟨rfl, hb1⟩
 have B1 := Hid.mk' (B0.out.trans (hb1.mono B0.out.size))
 clear hb1 KM B0
 go_wp2
 go_ret
 exact ⟨rfl, B1.out⟩
def m0 : ME := ⟨[], 0, [], [], []⟩
def rM (d : List Int) (st : Int) : ME := if askC d st = 0 then memX d st.toNat else m0
def rR (d : List Int) (st : Int) : Int := if askC d st = 0 then (d.length : Int) else 0
theorem GM.none (lo hi : Nat) (w : World) : GM lo hi (fun _ => 0) m0 (.slice none 0 0) (.slice none 0 0) (.slice none 0 0) (.slice none 0 0) [] (fun _ => []) (fun _ => 0) (fun _ => 0) (fun _ => undef) w :=
 ⟨OB.none _, ⟨⟨rfl, .inl ⟨rfl, rfl⟩⟩, TA.nil _ _ _, fun j h => absurd h (Nat.not_lt_zero _)⟩, OB.none _, .inl ⟨rfl, rfl⟩, fun i h => absurd h (Nat.not_lt_zero _),
  fun q h => by simp [Value.ownBlock] at h, fun q h => absurd ⟨by simp [Value.ownBlock], fun j h => absurd h (Nat.not_lt_zero _)⟩ h, fun q h => by simp [Value.ownBlock] at h, fun q h => by simp [Value.ownBlock] at h, fun i h => absurd h (Nat.not_lt_zero _)⟩

open Classical in
noncomputable def tauM (gd gc J : Nat) (hvs : Nat → Value) (q : Nat) : Nat :=
 if q = gd then 0 else if q = gc then 3 else if (hvs J).ownBlock = some q then 2 else if h : ∃ i, i < J ∧ (hvs i).ownBlock = some q then 4 + Classical.choose h else 1
theorem NM.gm {base : Nat} {d : List Int} {s : Nat} {gd gc : Nat} {tv : Value} {hvs : Nat → Value} {us : List Value} {rs : Nat → List Value} {bl bh : Nat → Nat} {w : World} (x : NM base d s gd gc tv hvs us rs bl bh w) (hs : 1 ≤ s) :
  GM base w.heap.size (tauM gd gc (d.length / s + 1) hvs) (memX d s) (.slice (some ⟨gd, 0, none⟩) d.length d.length) tv (hvs (d.length / s + 1)) (.slice (some ⟨gc, 0, none⟩) (d.length / s + 1) (d.length / s + 1)) us rs bl bh hvs w := by
 obtain ⟨v, hv, xv⟩ := x.v1
 have et : tkN d s (d.length / s + 1) = (memX d s).tk := by show (allX [] [] (d.take ((d.length / s + 1) * s))).1 = _; rw [takeM_all d s hs]; rfl
 have eh : hdN d s (d.length / s + 1) = (memX d s).hd := by show (allX [] [] (d.take ((d.length / s + 1) * s))).2 = _; rw [takeM_all d s hs]; rfl
 have ec : (memX d s).cs = cksN d s (d.length / s + 1) := rfl
 have el : (memX d s).cs.length = d.length / s + 1 := by rw [ec, cksN_len]
 have o1 := x.o1
 have o2 := x.o2
 have lc := x.ck.lt
 have hb : ∀ i, i ≤ d.length / s + 1 → ∀ q, (hvs i).ownBlock = some q → base ≤ q ∧ q < gd := fun i hi q e => by
  have := (xv.own i hi).lt q e
  omega
 have tb : ∀ q, ¬ TFree tv (memX d s).tk.length bl bh q → base ≤ q ∧ q < gd ∧ ∀ i, i ≤ d.length / s + 1 → (hvs i).ownBlock ≠ some q := fun q f => by
  by_cases e : tv.ownBlock = some q
  ·have := xv.tp.row.lt q e
   exact ⟨this.1, by omega, fun i hi e' => xv.at_ i hi q e' e⟩
  ·have : ∃ j, j < (memX d s).tk.length ∧ bl j ≤ q ∧ q < bh j := Classical.byContradiction fun g => f ⟨e, fun j hj h => g ⟨j, hj, h⟩⟩
   obtain ⟨j, hj, h1, h2⟩ := this
   rw [← et] at hj
   have := xv.tp.ta.low j hj
   have := xv.tp.ta.top j hj
   exact ⟨by omega, by omega, fun i hi e' => by have := xv.av i hi j hj q e'; omega⟩
 refine ⟨ob_of_row rfl x.dt, by rw [← et]; exact x.rx.tp, ?_, .inr ⟨gc, by rw [el], ?_⟩, fun i hi => ?_, fun q e => ?_, fun q f => ?_, fun q e => ?_, fun q e => ?_, fun i hi q e => ?_⟩
 ·rw [← eh]; exact (OB.of_own (x.rx.own _ (Nat.le_refl _))).1
 ·rw [el]
  refine x.ck.congr (fun i hi => ?_)
  unfold ckV cvF
  rw [if_pos (by omega), ec, cksN_at d s _ _ (by omega)]
  by_cases h0 : i % 3 = 0
  ·rw [h0]; rfl
  ·by_cases h1 : i % 3 = 1
   ·rw [h1]; rfl
   ·rw [if_neg h0, if_neg h1, show i % 3 = 2 by omega]; rfl
 ·rw [el] at hi
  rw [ec, cksN_at d s _ _ hi]
  exact (OB.of_own (x.rx.own i (by omega))).1
 ·simp [Value.ownBlock] at e
  subst e
  exact ⟨by unfold tauM; rw [if_pos rfl], o1, x.dt.lt⟩
 ·obtain ⟨h1, h2, h3⟩ := tb q f
  refine ⟨?_, h1, by have := x.dt.lt; omega⟩
  unfold tauM
  rw [if_neg (by omega), if_neg (by omega), if_neg (h3 _ (Nat.le_refl _)), dif_neg (fun ⟨i, hi, e⟩ => h3 i (by omega) e)]
 ·have := hb _ (Nat.le_refl _) q e
  refine ⟨?_, this.1, by have := x.dt.lt; omega⟩
  unfold tauM
  rw [if_neg (by omega), if_neg (by omega), if_pos e]
 ·simp [Value.ownBlock] at e
  subst e
  exact ⟨by unfold tauM; rw [if_neg (by omega), if_pos rfl], by omega, lc⟩
 ·rw [el] at hi
  have := hb i (by omega) q e
  refine ⟨?_, this.1, by have := x.dt.lt; omega⟩
  unfold tauM
  have hex : ∃ i, i < d.length / s + 1 ∧ (hvs i).ownBlock = some q := ⟨i, hi, e⟩
  rw [if_neg (by omega), if_neg (by omega), if_neg (fun e' => xv.ap i _ hi (Nat.le_refl _) q e e'), dif_pos hex]
  have hc := Classical.choose_spec hex
  have : Classical.choose hex = i := Classical.byContradiction fun hne => by
   rcases Nat.lt_or_gt_of_ne hne with g | g
   ·exact xv.ap _ _ g (by omega) q hc.2 e
   ·exact xv.ap _ _ g (by omega) q e hc.2
  rw [this]
theorem implNM_gm (tp : TypeId) (pv : Value) (d : List Int) (st : Int) (ad : Option Addr) (cd : Nat) (w : World) (hE : Env w.heap.size tp pv w) (hd : BAt w ad d) (hcd : d.length ≤ cd) (hu : Byt d) (hl : (d.length : Int) ≤ 9223372036854775807) :
  Calls Tryz.prog 33 #[.slice ad d.length cd, .int .i64 st] w fun e w' => ∃ tau vd tv hv cv us rs bl bh hvs, e = .returned (.agg #[.int .i64 (askC d st), .int .i64 (rR d st), vd, .int .i64 (rM d st).st, tv, hv, cv]) ∧ GM w.heap.size w'.heap.size tau (rM d st) vd tv hv cv us rs bl bh hvs w' ∧ Below w.heap.size w w' := by
 refine (implNM_any tp pv d st ad cd w hE hd hcd hu hl).mono ?_
 rintro e w' (⟨h1, rfl, hb⟩ | ⟨h1, h2, rfl, hb⟩ | ⟨h1, s, rfl, hs, hs2, gd, gc, tv, hvs, us, rs, bl, bh, rfl, hx, hb⟩)
 ·have e6 : askC d st = 6 := askC_large h1
  have er : rM d st = m0 := by unfold rM; rw [if_neg (by omega)]
  have ev : rR d st = 0 := by unfold rR; rw [if_neg (by omega)]
  exact ⟨_, _, _, _, _, _, _, _, _, _, by rw [e6, er, ev]; rfl, by rw [er]; exact GM.none _ _ _, hb⟩
 ·have e3 : askC d st = 3 := askC_range h1 h2
  have er : rM d st = m0 := by unfold rM; rw [if_neg (by omega)]
  have ev : rR d st = 0 := by unfold rR; rw [if_neg (by omega)]
  exact ⟨_, _, _, _, _, _, _, _, _, _, by rw [e3, er, ev]; rfl, by rw [er]; exact GM.none _ _ _, hb⟩
 ·have e0 : askC d (s : Int) = 0 := askC_good h1 hs hs2
  have er : rM d (s : Int) = memX d s := by unfold rM; rw [if_pos e0]; rfl
  have ev : rR d (s : Int) = d.length := by unfold rR; rw [if_pos e0]
  refine ⟨_, _, _, _, _, _, _, _, _, _, by rw [e0, er, ev]; rfl, by rw [er]; exact (hx.down (Nat.le_succ _)).gm hs, hb⟩
theorem results_cell1 {fn : Func} {p : Tmp} {t1 : TypeId} (h : fn.results = #[.cell p t1]) (tmps : Array Value) (P : Program) (w : World) (g : Addr) (v : Value) (hp : tmps.getD p undef = .pointer (some g)) (hl : (loadVar t1 g).run P w = .ok v w) :
  (results fn tmps).run P w = .ok v w := by
 have e : (results fn tmps).run P w = ((asAddr (tmps.getD p undef)).run P w).andThen fun a w₁ => (loadVar t1 a).run P w₁ := by
  simp only [results, h]
  simp [Sem.run_bind, Result.andThen]
 rw [e, hp]
 simp [asAddr, Result.andThen, hl]

end Go.Proofs.YtmhihkdnhaadeaaGreatDoor
