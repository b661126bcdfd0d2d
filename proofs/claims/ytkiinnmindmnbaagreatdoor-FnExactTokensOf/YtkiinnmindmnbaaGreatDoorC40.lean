/- Ways: the places that a place is in, the outermost first. -/
import Derived.WalkKit
import Derived.Test.YtkiinnmindmnbaaGreatDoorC2
import Derived.Test.YtkiinnmindmnbaaGreatDoorC14
import Derived.Test.YtkiinnmindmnbaaGreatDoorC19
import Derived.Test.YtkiinnmindmnbaaGreatDoorC37
import Derived.Test.YtkiinnmindmnbaaGreatDoorC39
import Derived.Test.YtkiinnmindmnbaaGreatDoorC38
set_option linter.unusedVariables false
set_option linter.unusedSimpArgs false
namespace Go.Proofs.YtkiinnmindmnbaaGreatDoor

end Go.Proofs.YtkiinnmindmnbaaGreatDoor

namespace Go.Proofs.YtkiinnmindmnbaaGreatDoor
open Go.RowKit

end Go.Proofs.YtkiinnmindmnbaaGreatDoor

namespace Go.Proofs.YtkiinnmindmnbaaGreatDoor
open Go.RowKit

end Go.Proofs.YtkiinnmindmnbaaGreatDoor

namespace Go.Proofs.YtkiinnmindmnbaaGreatDoor
open Go.RowKit

def AOh (hi g : Nat) (l : List AT) (w : World) : Prop := ∃ f, w.rowIs g 120 (l.length * 2) f ∧ g < hi ∧ ∀ j, j < l.length → f (j * 2) = .string (atK l j).nm ∧ ∃ b, f (j * 2 + 1) = .slice (some ⟨b, 0, none⟩) (atK l j).vl.length (atK l j).vl.length ∧ g < b ∧ b < hi ∧ w.rowIs b 5 (atK l j).vl.length (bv (atK l j).vl)

theorem AOh.ao {hi g : Nat} {l : List AT} {w : World} (h : AOh hi g l w) : AO g l w := by
  obtain ⟨f, hf, _, hj⟩ := h
  refine ⟨f, hf, fun j hl => ?_⟩
  obtain ⟨h1, b, h2, h3, _, h4⟩ := hj j hl
  exact ⟨h1, b, h2, h3, h4⟩

theorem AO.h {hi g : Nat} {l : List AT} {w : World} (h : AO g l w) (hh : w.heap.size ≤ hi) : AOh hi g l w := by
  obtain ⟨f, hf, hj⟩ := h
  refine ⟨f, hf, Nat.lt_of_lt_of_le hf.lt hh, fun j hl => ?_⟩
  obtain ⟨h1, b, h2, h3, h4⟩ := hj j hl
  exact ⟨h1, b, h2, h3, Nat.lt_of_lt_of_le h4.lt hh, h4⟩

theorem AOh.keep {hi g : Nat} {l : List AT} {w w' : World} (h : AOh hi g l w) (hk : ∀ k, g ≤ k → k < hi → k < w.heap.size → w'.heap[k]? = w.heap[k]?) : AOh hi g l w' := by
  obtain ⟨f, hf, hg, hj⟩ := h
  refine ⟨f, hf.of_block (hk g (Nat.le_refl _) hg hf.lt), hg, fun j hl => ?_⟩
  obtain ⟨h1, b, h2, h3, h4, h5⟩ := hj j hl
  exact ⟨h1, b, h2, h3, h4, h5.of_block (hk b (by omega) h4 h5.lt)⟩

theorem AOh.below {hi g : Nat} {l : List AT} {w w' : World} (h : AOh hi g l w) (hb : Below w.heap.size w w') : AOh hi g l w' := h.keep fun k _ _ hl => hb.block k hl

theorem AOh.kept {hi g lo' hi' : Nat} {l : List AT} {w w' : World} (h : AOh hi g l w) (hk : KeptIn lo' hi' w w') (hd : hi ≤ lo' ∨ hi' ≤ g) : AOh hi g l w' := h.keep fun k h1 h2 hl => hk.block k hl (by omega)

end Go.Proofs.YtkiinnmindmnbaaGreatDoor

namespace Go.Proofs.YtkiinnmindmnbaaGreatDoor
open Go.RowKit

set_option maxHeartbeats 3200000 in
theorem markAttrS_gen (g hi c z : Nat) (l : List AT) (w : World) (h : MR g hi l w) (hhi : hi ≤ w.heap.size) (hl : (l.length : Int) + asz l ≤ 1048576) (z0 : 0 < z) (z1 : z ≤ 10000000) :
    Calls Tryz.prog 74 #[.slice (some ⟨g, 0, none⟩) l.length c, .int .i64 (z : Int)] w fun e w' => e = .returned (.int .i64 ((z : Int) + (l.length : Int) + (vsz l : Int))) ∧ MR g hi l w' ∧ KeptIn g hi w w' := by
  have HM := Hid.mk' h
  clear h
  go_enter Tryz.func74, Tryz.ntmps74
  go_wp2
  go_loopw [1, 5] (fun x i wr => ∃ k : Nat, k ≤ l.length ∧ i = .int .i64 k ∧ x = .int .i64 ((z + k + vsz (l.take k) : Nat) : Int) ∧ MR g hi l wr ∧ KeptIn g hi w wr) (fun _ i _ => l.length - (intOf i).toNat)
  case atStart => exact ⟨0, Nat.zero_le _, rfl, by simp [vsz], HM.out, KeptIn.refl _ _ _⟩
  case round =>
    obtain ⟨k, hk, rfl, rfl, hmr, hkp⟩ := hrel
    have HR := Hid.mk' hmr
    have HK := Hid.mk' hkp
    clear hmr hkp
    by_cases hlt : k < l.length
    · have ci : (k : Int) < (l.length : Int) := by omega
      have st := vsz_take l k hlt
      have sl := vsz_le l (k + 1)
      obtain ⟨q, hq⟩ : ∃ q : Nat, z + k + vsz (l.take k) = q := ⟨_, rfl⟩
      have hq1 : z + (k + 1) + vsz (l.take (k + 1)) = q + 1 + (atK l k).vl.length := by omega
      have hq2 : q + 1 + (atK l k).vl.length ≤ 100000000 := by omega
      have Q1 := Hid.mk' hq1
      have KT := Hid.mk' (markText_any q wr (by omega) (by omega))
      rw [hq]
      clear st sl hq hq1
      go_wp2_with fail
      refine KT.out.mono ?_
      rintro e w1 ⟨s, rfl, hb⟩
      have hm1 := HR.out.below hb
      have HK1 := Hid.mk' (HK.out.trans (KeptIn.of_below hb))
      obtain ⟨f, hf, _, _⟩ := id hm1
      have f0 := hf.frozen (k * 2)
      obtain ⟨v0, g0⟩ : ∃ v, w1.cell? ⟨g, k * 2, none⟩ = some v := ⟨_, hf.cell (by omega)⟩
      have hm2 := hm1.name hlt s
      obtain ⟨f2, hf2, hgh, hj2⟩ := id hm2
      obtain ⟨_, b, h2, h3, h4, fb, h5⟩ := hj2 k hlt
      have c2 : (w1.setCell ⟨g, k * 2, none⟩ (.string s)).cell? ⟨g, k * 2 + 1, none⟩ = some (.slice (some ⟨b, 0, none⟩) (atK l k).vl.length (atK l k).vl.length) := by
        have := hf2.cell (show k * 2 + 1 < l.length * 2 by omega)
        rw [this, h2]
      have KB := Hid.mk' (markByteS_row b (atK l k).vl.length (atK l k).vl.length (atK l k).vl.length (q + 1) fb _ h5 (Nat.le_refl _) (by omega))
      have HK2 := Hid.mk' (HK1.out.setCell (p := ⟨g, k * 2, none⟩) (Nat.le_refl _) hgh (.string s))
      have M2 := Hid.mk' hm2
      have H5 := Hid.mk' h5
      clear hm1 hm2 hf hf2 hj2 h5 hb KT HR HK HK1
      generalize hV : w1.setCell ⟨g, k * 2, none⟩ (.string s) = V at *
      go_wp2_with fail
      clear hV
      refine KB.out.mono ?_
      rintro e w2 ⟨rfl, hr, hkk⟩
      have M3 := Hid.mk' (M2.out.value h3 h4 hr H5.out hkk)
      have HK3 := Hid.mk' (HK2.out.trans (hkk.mono (by omega) (by omega)))
      clear hr hkk KB M2 H5 HK2
      go_wp2
      go_roundw
      case rel => exact ⟨k + 1, by omega, by go_num, by rw [Q1.out]; simp, M3.out, HK3.out⟩
      case measure => simp [intOf]; omega
    · have ci : ¬ (k : Int) < (l.length : Int) := by omega
      have e : k = l.length := by omega
      subst e
      go_wp2
      go_ret
      exact ⟨by simp, HR.out, HK.out⟩

theorem MR.keep {hi g : Nat} {l : List AT} {w w' : World} (h : MR g hi l w) (hk : ∀ k, g ≤ k → k < hi → k < w.heap.size → w'.heap[k]? = w.heap[k]?) : MR g hi l w' := by
  obtain ⟨f, hf, hg, hj⟩ := h
  refine ⟨f, hf.of_block (hk g (Nat.le_refl _) hg hf.lt), hg, fun j hl => ?_⟩
  obtain ⟨h1, b, h2, h3, h4, fb, h5⟩ := hj j hl
  exact ⟨h1, b, h2, h3, h4, fb, h5.of_block (hk b (by omega) h4 h5.lt)⟩

theorem AOh.mr {hi g : Nat} {l : List AT} {w : World} (h : AOh hi g l w) : MR g hi l w := by
  obtain ⟨f, hf, hg, hj⟩ := h
  refine ⟨f, hf, hg, fun j hl => ?_⟩
  obtain ⟨h1, b, h2, h3, h4, h5⟩ := hj j hl
  exact ⟨⟨_, h1⟩, b, h2, h3, h4, _, h5⟩

theorem mono_s2 {s : Nat → Nat} {n : Nat} (h : ∀ j, j < n → s j ≤ s (j + 1)) {i : Nat} : ∀ j, i ≤ j → j ≤ n → s i ≤ s j
  | 0, hi, _ => by have : i = 0 := by omega
                   subst this; exact Nat.le_refl _
  | j + 1, hi, hj => by
    by_cases e : i = j + 1
    · subst e; exact Nat.le_refl _
    · exact Nat.le_trans (mono_s2 h j (by omega) (by omega)) (h j (by omega))

theorem vsz_asz (l : List AT) : vsz l ≤ asz l := by have := vsz_le l l.length; rwa [List.take_length] at this

end Go.Proofs.YtkiinnmindmnbaaGreatDoor

namespace Go.Proofs.YtkiinnmindmnbaaGreatDoor
open Go.RowKit

theorem own_spot {w : World} {base : Nat} {e : TypeId} {size : Nat} {v : Value} {n : Nat} {xs : List Value} (h : w.ownsRow base e size v n xs) (hn : 0 < n) : ∃ g cap, v = .slice (some ⟨g, 0, none⟩) n cap ∧ base ≤ g ∧ g < w.heap.size ∧ n ≤ cap ∧ ∀ i, i < n * size → w.cell? ⟨g, i, none⟩ = xs[i]? := by
  rcases h.2 with ⟨rfl, h0⟩ | ⟨g, cap, cur, rfl, hg, hh, hc, hm, hs, ht⟩
  · omega
  · refine ⟨g, cap, rfl, hg, ?_, hc, fun i hi => ?_⟩
    · exact Nat.lt_of_not_le fun hn => by rw [Array.getElem?_eq_none hn] at hh; cases hh
    · have q : w.cell? ⟨g, i, none⟩ = cur[i]? := Lib.cell_of_heap hh i
      rw [q, ← ht, List.getElem?_take_of_lt hi]
      simp

def ct1 (t : TK) : Nat := 4 + t.at_.length + vsz t.at_
def ctN : List TK → Nat
  | [] => 0
  | t :: l => ct1 t + ctN l

def mk1T (z : Nat) (t : TK) : TK := ⟨(z : Int), (z : Int) + 1, mtx (z + 1 + 1), mkA (z + 1 + 1 + 1) t.at_, (((z + 1 + 1 + 1 + t.at_.length + vsz t.at_ : Nat) : Int) % 3 == 0)⟩
def mkT : Nat → List TK → List TK
  | _, [] => []
  | z, t :: l => mk1T z t :: mkT (z + ct1 t) l

theorem mkT_len : ∀ (z : Nat) (l : List TK), (mkT z l).length = l.length
  | _, [] => rfl
  | z, t :: l => by simp [mkT, mkT_len]
theorem mkT_snoc : ∀ (z : Nat) (l : List TK) (t : TK), mkT z (l ++ [t]) = mkT z l ++ [mk1T (z + ctN l) t]
  | z, [], t => by simp [mkT, ctN]
  | z, x :: l, t => by simp only [List.cons_append, mkT, mkT_snoc (z + ct1 x) l t, ctN]; rw [Nat.add_assoc]
theorem mkT_get {z : Nat} {l : List TK} {i : Nat} (h : i < l.length) : tkK (mkT z l) i = mk1T (z + ctN (l.take i)) (tkK l i) := by
  induction l generalizing z i with
  | nil => exact absurd h (Nat.not_lt_zero _)
  | cons x l ih =>
    cases i with
    | zero => simp [mkT, tkK, ctN]
    | succ i =>
      have := ih (z := z + ct1 x) (i := i) (by simpa using h)
      have e1 : tkK (mkT z (x :: l)) (i + 1) = tkK (mkT (z + ct1 x) l) i := by simp [mkT, tkK]
      have e2 : tkK (x :: l) (i + 1) = tkK l i := by simp [tkK]
      rw [e1, this, e2]
      simp only [List.take_succ_cons, ctN]
      rw [Nat.add_assoc]
theorem ctN_take (l : List TK) : ∀ k, k < l.length → ctN (l.take (k + 1)) = ctN (l.take k) + ct1 (tkK l k) := by
  induction l with
  | nil => intro k h; exact absurd h (Nat.not_lt_zero _)
  | cons x r ih =>
    intro k hk
    cases k with
    | zero => simp [ctN, tkK]
    | succ k =>
      have := ih k (by simpa using hk)
      have e : tkK (x :: r) (k + 1) = tkK r k := by simp [tkK]
      simp only [List.take_succ_cons, ctN]
      rw [this, e]; omega
theorem ctN_le (l : List TK) (k : Nat) : ctN (l.take k) ≤ 4 * l.length + tssz l := by
  induction l generalizing k with
  | nil => simp [ctN]
  | cons x r ih =>
    cases k with
    | zero => simp [ctN]
    | succ k =>
      have := ih k
      have v := vsz_asz x.at_
      simp only [List.take_succ_cons, ctN, tssz, List.length_cons, ct1, tsz]
      omega

def halfT (z : Nat) (l : List TK) (k : Nat) : List TK := mkT z (l.take k) ++ l.drop k
theorem halfT_len (z : Nat) (l : List TK) (k : Nat) : (halfT z l k).length = l.length := by simp [halfT, mkT_len]; omega
theorem halfT_get (z : Nat) (l : List TK) (k : Nat) (h : k < l.length) : tkK (halfT z l k) k = tkK l k := by
  have e : (mkT z (l.take k)).length = k := by rw [mkT_len, List.length_take]; omega
  unfold halfT tkK
  rw [List.getD_eq_getElem?_getD, List.getElem?_append_right (by omega), e, Nat.sub_self, List.getElem?_drop, Nat.add_zero, ← List.getD_eq_getElem?_getD]
theorem halfT_set (z : Nat) (l : List TK) (k : Nat) (h : k < l.length) : (halfT z l k).set k (mk1T (z + ctN (l.take k)) (tkK l k)) = halfT z l (k + 1) := by
  have e : (mkT z (l.take k)).length = k := by rw [mkT_len, List.length_take]; omega
  have e2 : l.take (k + 1) = l.take k ++ [tkK l k] := by
    rw [List.take_add_one, List.getElem?_eq_getElem h]
    simp [tkK, List.getD_eq_getElem?_getD, List.getElem?_eq_getElem h]
  unfold halfT
  rw [e2, mkT_snoc, List.set_append_right _ _ (by omega), e, Nat.sub_self, List.drop_eq_getElem_cons h, List.set_cons_zero, List.append_assoc]
  rfl
theorem halfT_zero (z : Nat) (l : List TK) : halfT z l 0 = l := by simp [halfT, mkT]
theorem halfT_all (z : Nat) (l : List TK) : halfT z l l.length = mkT z l := by simp [halfT]

theorem tkK_set {l : List TK} {i j : Nat} {t : TK} (h : i < l.length) : tkK (l.set i t) j = if j = i then t else tkK l j := by
  unfold tkK
  by_cases e : j = i
  · subst e; simp [List.getD_eq_getElem?_getD, h]
  · rw [if_neg e]; simp [List.getD_eq_getElem?_getD, List.getElem?_set, Ne.symm e]

theorem tcs_cons (t : TK) (ts : List TK) (u : Value) (us : List Value) : tcs (t :: ts) (u :: us) = [.int .i64 t.kd, .int .i64 t.by_, .string t.nm, u, .bool t.sh] ++ tcs ts us := rfl

theorem tcs_set : ∀ (ts : List TK) (us : List Value) (n i : Nat) (t : TK) (x : Value), us.length = ts.length → n < ts.length → i < 5 →
    ([.int .i64 (tkK ts n).kd, .int .i64 (tkK ts n).by_, .string (tkK ts n).nm, us.getD n undef, .bool (tkK ts n).sh] : List Value).set i x = [.int .i64 t.kd, .int .i64 t.by_, .string t.nm, us.getD n undef, .bool t.sh] → (tcs ts us).set (n * 5 + i) x = tcs (ts.set n t) us
  | [], _, _, _, _, _, _, hn, _, _ => absurd hn (Nat.not_lt_zero _)
  | y :: ts, [], _, _, _, _, h, _, _, _ => by simp at h
  | y :: ts, u :: us, 0, i, t, x, h, _, hi, hs => by
    rw [List.set_cons_zero, tcs_cons, tcs_cons, List.set_append_left _ _ (by simp; omega), show 0 * 5 + i = i by omega]
    congr 1
  | y :: ts, u :: us, n + 1, i, t, x, h, hn, hi, hs => by
    have := tcs_set ts us n i t x (by simpa using h) (by simpa using hn) hi (by simpa [tkK] using hs)
    rw [List.set_cons_succ, tcs_cons, tcs_cons, List.set_append_right _ _ (by simp; omega)]
    congr 1
    rw [show (n + 1) * 5 + i - [Value.int .i64 y.kd, .int .i64 y.by_, .string y.nm, u, .bool y.sh].length = n * 5 + i by simp; omega]
    exact this

theorem rowT_set {lo g cap n i : Nat} {w : World} {ts : List TK} {us : List Value} {t : TK} {x : Value} (hl : us.length = ts.length) (h : w.ownsRow lo 101 5 (.slice (some ⟨g, 0, none⟩) ts.length cap) ts.length (tcs ts us)) (hn : n < ts.length) (hi : i < 5)
    (hs : ([.int .i64 (tkK ts n).kd, .int .i64 (tkK ts n).by_, .string (tkK ts n).nm, us.getD n undef, .bool (tkK ts n).sh] : List Value).set i x = [.int .i64 t.kd, .int .i64 t.by_, .string t.nm, us.getD n undef, .bool t.sh]) :
    (w.setCell ⟨g, n * 5 + i, none⟩ x).ownsRow lo 101 5 (.slice (some ⟨g, 0, none⟩) ts.length cap) ts.length (tcs (ts.set n t) us) := by
  rw [← tcs_set ts us n i t x hl hn hi hs]
  refine ⟨by rw [List.length_set]; exact h.1, .inr ?_⟩
  rcases h.2 with ⟨h0, _⟩ | ⟨g', cap', cur, hv, hg, hh, hc, hm, hs', ht⟩
  · cases h0
  · cases hv
    refine ⟨g, cap, cur.setIfInBounds (n * 5 + i) x, rfl, hg, ?_, hc, hm, by simpa using hs', ?_⟩
    · simp [World.setCell, Array.getElem?_modify, hh]
    · rw [← ht]
      simp [List.take_set]

theorem rowT_cell {lo g cap : Nat} {w : World} {ts : List TK} {us : List Value} (hl : us.length = ts.length) (h : w.ownsRow lo 101 5 (.slice (some ⟨g, 0, none⟩) ts.length cap) ts.length (tcs ts us)) {n i : Nat} (hn : n < ts.length) (hi : i < 5) : w.cell? ⟨g, n * 5 + i, none⟩ = ([.int .i64 (tkK ts n).kd, .int .i64 (tkK ts n).by_, .string (tkK ts n).nm, us.getD n undef, .bool (tkK ts n).sh] : List Value)[i]? ∧ w.frozen? ⟨g, n * 5 + i, none⟩ = false := by
  rcases h.2 with ⟨h0, _⟩ | ⟨g', cap', cur, hv, hg, hh, hc, hm, hs', ht⟩
  · cases h0
  · cases hv
    refine ⟨?_, Lib.frozen_of_heap hh _⟩
    rw [Lib.cell_of_heap hh, ← tcs_get ts us n i hl hn hi, ← ht, List.getElem?_take_of_lt (by omega)]
    simp

theorem TP.modify {lo n : Nat} {w w' : World} {v : Value} {ts : List TK} {us : List Value} {rs : Nat → List Value} {bl bh : Nat → Nat} {t : TK} (h : TP lo w v ts us rs bl bh) (hn : n < ts.length) (hl : t.at_.length = (tkK ts n).at_.length) (hs : w.heap.size ≤ w'.heap.size)
    (hr : w'.ownsRow lo 101 5 v ts.length (tcs (ts.set n t) us)) (ha : OA (bl n) w' (us.getD n undef) t.at_ (rs n)) (hk : ∀ k, k < w.heap.size → v.ownBlock ≠ some k → ¬ (bl n ≤ k ∧ k < bh n) → w'.heap[k]? = w.heap[k]?) : TP lo w' v (ts.set n t) us rs bl bh := by
  have len : (ts.set n t).length = ts.length := List.length_set
  have hA := h.ta
  have tk : ∀ j, tkK (ts.set n t) j = if j = n then t else tkK ts j := fun j => tkK_set hn
  refine ⟨by rw [len]; exact hr, ⟨by rw [len]; exact hA.len, hA.one, fun j hj => ?_, fun j hj => hA.low j (by omega), fun j hj => hA.mid j (by omega), fun j hj => Nat.le_trans (hA.top j (by omega)) hs, fun j hj => hA.hia j (by omega), fun j hj i hi => hA.hiu j (by omega) i ?_, fun i j hij hj => hA.ord i j hij (by omega)⟩, fun j hj => h.vt j (by omega)⟩
  · rw [len] at hj
    rw [tk]
    by_cases e : j = n
    · subst e; rw [if_pos rfl]; exact ha
    · rw [if_neg e]
      have o := hA.att j hj
      have far : ∀ k, bl j ≤ k → k < bh j → ¬ (bl n ≤ k ∧ k < bh n) := fun k h1 h2 h3 => by
        rcases Nat.lt_or_gt_of_ne e with hlt | hgt
        · have := hA.ord j n hlt hn; omega
        · have := hA.ord n j hgt hj; omega
      exact o.keepOf (fun k e1 hl' => hk k hl' (fun e2 => by have := h.vt j hj k e2; have := (o.row.lt k e1).1; have := hA.hia j hj k e1; omega) (far k (o.row.lt k e1).1 (hA.hia j hj k e1)))
        (fun i hi k e1 hl' => hk k hl' (fun e2 => by have := h.vt j hj k e2; have := o.vlo i hi k e1; have := hA.hiu j hj i hi k e1; omega) (far k (o.vlo i hi k e1) (hA.hiu j hj i hi k e1)))
  · rw [tk] at hi
    by_cases e : j = n
    · subst e; rw [if_pos rfl, hl] at hi; exact hi
    · rw [if_neg e] at hi; exact hi

def TFree (v : Value) (n : Nat) (bl bh : Nat → Nat) (k : Nat) : Prop := v.ownBlock ≠ some k ∧ ∀ j, j < n → ¬ (bl j ≤ k ∧ k < bh j)

theorem row_tsAt {w : World} {lo : Nat} {v : Value} {ts : List TK} {us : List Value} (hl : us.length = ts.length) (h : w.ownsRow lo 101 5 v ts.length (tcs ts us)) (ha : ∀ j, j < ts.length → ∃ p c, us.getD j undef = .slice p (tkK ts j).at_.length c ∧ AAt w p (tkK ts j).at_) : ∃ a c, v = .slice a ts.length c ∧ TsAt w a ts := by
  by_cases h0 : ts = []
  · subst h0
    obtain ⟨a, c, e, _⟩ := own_src h
    exact ⟨a, c, e, .inl rfl⟩
  · have hp : 0 < ts.length := List.length_pos_iff.2 h0
    rcases h.2 with ⟨rfl, h9⟩ | ⟨g, cap, cur, rfl, hg, hh, hc, hm, hs, ht⟩
    · omega
    · have glt : g < w.heap.size := Nat.lt_of_not_le fun hn => by rw [Array.getElem?_eq_none hn] at hh; cases hh
      refine ⟨_, _, rfl, .inr ⟨g, 0, rfl, glt, fun k hk => ?_⟩⟩
      have cc := fun i hi => (rowT_cell hl h hk (i := i) hi).1
      obtain ⟨p, c, e, haa⟩ := ha k hk
      simp only [Nat.zero_add]
      refine ⟨cc 0 (by omega), cc 1 (by omega), cc 2 (by omega), ⟨p, c, ?_, haa⟩, cc 4 (by omega)⟩
      rw [cc 3 (by omega), ← e]; rfl

theorem TP.tsAt {lo : Nat} {w : World} {tv : Value} {ts : List TK} {us : List Value} {rs : Nat → List Value} {bl bh : Nat → Nat} (h : TP lo w tv ts us rs bl bh) : ∃ a c, tv = .slice a ts.length c ∧ TsAt w a ts :=
  row_tsAt h.ta.len h.row (fun j hj => (h.ta.att j hj).at)

theorem TokS.tsAt {base : Nat} {w : World} {v : Value} {ts : List TK} {us : List Value} (h : TokS base w v ts us) : ∃ a c, v = .slice a ts.length c ∧ TsAt w a ts :=
  row_tsAt h.len h.row (fun j hj => by
    have h1 : ts[j]? = some (tkK ts j) := by simp [tkK, List.getD_eq_getElem?_getD, hj]
    have h2 : us[j]? = some (us.getD j undef) := by simp [List.getD_eq_getElem?_getD, h.len, hj]
    obtain ⟨rs, ho⟩ := (h.all j _ _ h1 h2).held
    exact ho.at)

theorem tssz_at' : ∀ {l : List TK} {k : Nat}, k < l.length → tsz (tkK l k) ≤ tssz l
  | [], _, h => absurd h (Nat.not_lt_zero _)
  | x :: l, 0, _ => by simp [tkK, tssz]
  | x :: l, k + 1, h => by
    have := tssz_at' (l := l) (k := k) (by simpa using h)
    have e : tkK (x :: l) (k + 1) = tkK l k := by simp [tkK]
    rw [e]; simp only [tssz]; omega

set_option maxRecDepth 100000 in
set_option maxHeartbeats 6400000 in
theorem markTokenS_is (z lo : Nat) (v : Value) (l : List TK) (us : List Value) (rs : Nat → List Value) (bl bh : Nat → Nat) (w : World) (h : TP lo w v l us rs bl bh) (hlo : lo ≤ w.heap.size) (hz : 0 < z) (hz2 : (z : Int) ≤ 10000000) (hl : (l.length : Int) + tssz l ≤ 1048576) :
    Calls Tryz.prog 50 #[v, .int .i64 (z : Int)] w fun e w' => e = .returned (.int .i64 ((z + ctN l : Nat) : Int)) ∧ TP lo w' v (mkT z l) us rs bl bh ∧ Kp (TFree v l.length bl bh) w w' := by
  have HM := Hid.mk' h
  obtain ⟨av, cv, rfl, -⟩ := own_src h.row
  clear h
  go_enter Tryz.func50, Tryz.ntmps50
  go_wp2
  go_loopw [1, 5] (fun x i wr => ∃ k : Nat, k ≤ l.length ∧ i = .int .i64 k ∧ x = .int .i64 ((z + ctN (l.take k) : Nat) : Int) ∧ TP lo wr (.slice av l.length cv) (halfT z l k) us rs bl bh ∧ Kp (TFree (.slice av l.length cv) l.length bl bh) w wr) (fun _ i _ => l.length - (intOf i).toNat)
  case atStart => exact ⟨0, Nat.zero_le _, rfl, by simp [ctN], by rw [halfT_zero]; exact HM.out, Kp.refl _ _⟩
  case round =>
    obtain ⟨k, hk, rfl, rfl, htp, hkp⟩ := hrel
    have HK := Hid.mk' hkp
    have szr := hkp.size
    clear hkp
    by_cases hlt : k < l.length
    · have ci : (k : Int) < (l.length : Int) := by omega
      have st := ctN_take l k hlt
      have sl := ctN_le l (k + 1)
      have hln := halfT_len z l k
      have hgt := halfT_get z l k hlt
      have hst := halfT_set z l k hlt
      have vz := vsz_asz (tkK l k).at_
      have sz1 := tssz_at' hlt
      unfold tsz at sz1
      unfold ct1 at st
      obtain ⟨q, hq⟩ : ∃ q : Nat, z + ctN (l.take k) = q := ⟨_, rfl⟩
      have hq1 : z + ctN (l.take (k + 1)) = q + 1 + 1 + 1 + (tkK l k).at_.length + vsz (tkK l k).at_ + 1 := by omega
      have hq2 : q + 1 + 1 + 1 + (tkK l k).at_.length + vsz (tkK l k).at_ + 1 ≤ 20000000 := by omega
      rw [hq] at hst ⊢
      have HS := Hid.mk' hst
      have Q1 := Hid.mk' hq1
      have hlen := htp.ta.len
      rw [hln] at hlen
      obtain ⟨g, cap, ev, hg1, hg2, -, -⟩ := own_spot htp.row (by omega)
      rw [hln] at ev
      cases ev
      have T0 := Hid.mk' htp
      have at0 := htp.ta.att k (by omega)
      rw [hgt] at at0
      have R0 := htp.row
      rw [hln] at R0
      have hlh : us.length = (halfT z l k).length := by rw [hln]; exact hlen
      have R0' : wr.ownsRow lo 101 5 (.slice (some ⟨g, 0, none⟩) (halfT z l k).length cv) (halfT z l k).length (tcs (halfT z l k) us) := by rw [hln]; exact R0
      have cc := fun i (hi : i < 5) => rowT_cell hlh R0' (n := k) (by omega) hi
      rw [hgt] at cc
      obtain ⟨c0, f0⟩ := cc 0 (by omega)
      obtain ⟨c1, f1⟩ := cc 1 (by omega)
      obtain ⟨c2, f2⟩ := cc 2 (by omega)
      obtain ⟨c3, f3⟩ := cc 3 (by omega)
      obtain ⟨c4, f4⟩ := cc 4 (by omega)
      rw [Nat.add_zero] at c0 f0
      replace c0 : wr.cell? ⟨g, k * 5, none⟩ = some (.int .i64 (tkK l k).kd) := c0
      replace c1 : wr.cell? ⟨g, k * 5 + 1, none⟩ = some (.int .i64 (tkK l k).by_) := c1
      have klen : k < (halfT z l k).length := by omega
      have R1 := rowT_set (t := ⟨(q : Int), (tkK l k).by_, (tkK l k).nm, (tkK l k).at_, (tkK l k).sh⟩) (n := k) (i := 0) (x := .int .i64 (q : Int)) hlh R0' klen (by omega) (by rw [hgt]; rfl)
      have l1 : ((halfT z l k).set k ⟨(q : Int), (tkK l k).by_, (tkK l k).nm, (tkK l k).at_, (tkK l k).sh⟩).length = (halfT z l k).length := List.length_set
      have R2 := rowT_set (t := ⟨(q : Int), (q : Int) + 1, (tkK l k).nm, (tkK l k).at_, (tkK l k).sh⟩) (n := k) (i := 1) (x := .int .i64 ((q : Int) + 1)) (by rw [l1]; exact hlh) (by rw [l1]; exact R1) (by omega) (by omega) (by rw [tkK_set klen, if_pos rfl]; rfl)
      rw [l1, List.set_set, hln, Nat.add_zero] at R2
      have K2 : Kp (fun j => j ≠ g) wr ((wr.setCell ⟨g, k * 5, none⟩ (.int .i64 (q : Int))).setCell ⟨g, k * 5 + 1, none⟩ (.int .i64 ((q : Int) + 1))) := ((Kp.refl _ _).setCell (q := ⟨g, k * 5, none⟩) (fun e => e rfl) _).setCell (q := ⟨g, k * 5 + 1, none⟩) (fun e => e rfl) _
      have KT := Hid.mk' (markText_is (q + 1 + 1) ((wr.setCell ⟨g, k * 5, none⟩ (.int .i64 (q : Int))).setCell ⟨g, k * 5 + 1, none⟩ (.int .i64 ((q : Int) + 1))) (by omega) (by omega))
      have HR := Hid.mk' R2
      have HK2 := Hid.mk' K2
      have A0 := Hid.mk' at0
      have HLH := Hid.mk' hlen
      have S1 : Hid (((wr.setCell ⟨g, k * 5, none⟩ (.int .i64 (q : Int))).setCell ⟨g, k * 5 + 1, none⟩ (.int .i64 ((q : Int) + 1))).heap.size = wr.heap.size) := Hid.mk' (by simp [World.setCell])
      have bk := T0.out.ta.low k (by omega)
      have bt := T0.out.ta.top k (by omega)
      have bm := T0.out.ta.mid k (by omega)
      have VG := Hid.mk' (T0.out.vt k (by omega) g rfl)
      have HIA := Hid.mk' (T0.out.ta.hia k (by omega))
      have HIU : Hid (∀ i, i < (tkK l k).at_.length → ∀ j, ((rs k).getD i undef).ownBlock = some j → j < bh k) := Hid.mk' (fun i hi => T0.out.ta.hiu k (by omega) i (by rw [hgt]; exact hi))
      clear st sl hq hq1 htp cc R0 R0' R1 R2 K2 at0 hst c2 f2 c3 f3 c4 f4 hlen hlh l1
      generalize hV : (wr.setCell ⟨g, k * 5, none⟩ (.int .i64 (q : Int))).setCell ⟨g, k * 5 + 1, none⟩ (.int .i64 ((q : Int) + 1)) = V at *
      go_wp2_with fail
      clear hV c0 f0 c1 f1
      refine KT.out.mono ?_
      rintro e w1 ⟨rfl, hb⟩
      have R1 := own_keep HR.out hb
      have K1 : Kp (fun j => j ≠ g) wr w1 := HK2.out.trans (Kp.of_below hb)
      have ln2 : ((halfT z l k).set k ⟨(q : Int), (q : Int) + 1, (tkK l k).nm, (tkK l k).at_, (tkK l k).sh⟩).length = l.length := by rw [List.length_set]; exact hln
      have lh2 : us.length = ((halfT z l k).set k ⟨(q : Int), (q : Int) + 1, (tkK l k).nm, (tkK l k).at_, (tkK l k).sh⟩).length := by rw [ln2]; exact HLH.out
      have R1' : w1.ownsRow lo 101 5 (.slice (some ⟨g, 0, none⟩) ((halfT z l k).set k ⟨(q : Int), (q : Int) + 1, (tkK l k).nm, (tkK l k).at_, (tkK l k).sh⟩).length cv) ((halfT z l k).set k ⟨(q : Int), (q : Int) + 1, (tkK l k).nm, (tkK l k).at_, (tkK l k).sh⟩).length (tcs ((halfT z l k).set k ⟨(q : Int), (q : Int) + 1, (tkK l k).nm, (tkK l k).at_, (tkK l k).sh⟩) us) := by rw [ln2]; exact R1
      obtain ⟨c2, f2⟩ := rowT_cell lh2 R1' (n := k) (i := 2) (by omega) (by omega)
      replace c2 : w1.cell? ⟨g, k * 5 + 2, none⟩ = some (.string (tkK l k).nm) := by rw [c2, tkK_set klen, if_pos rfl]; rfl
      have R3 := rowT_set (t := ⟨(q : Int), (q : Int) + 1, mtx (q + 1 + 1), (tkK l k).at_, (tkK l k).sh⟩) (n := k) (i := 2) (x := .string (mtx (q + 1 + 1))) lh2 R1' (by omega) (by omega) (by rw [tkK_set klen, if_pos rfl]; rfl)
      rw [ln2, List.set_set] at R3
      have K3 : Kp (fun j => j ≠ g) wr (w1.setCell ⟨g, k * 5 + 2, none⟩ (.string (mtx (q + 1 + 1)))) := K1.setCell (q := ⟨g, k * 5 + 2, none⟩) (fun e => e rfl) _
      have A3 := A0.out.keepOf (w' := w1.setCell ⟨g, k * 5 + 2, none⟩ (.string (mtx (q + 1 + 1)))) (fun j e hl' => K3.block j hl' (fun e2 => by subst e2; have := (A0.out.row.lt j e).1; have := HIA.out j e; have := VG.out; omega)) (fun i hi j e hl' => K3.block j hl' (fun e2 => by subst e2; have := A0.out.vlo i hi j e; have := HIU.out i hi j e; have := VG.out; omega))
      obtain ⟨pa, ca, ea, -⟩ := A3.at
      have ln3 : ((halfT z l k).set k ⟨(q : Int), (q : Int) + 1, mtx (q + 1 + 1), (tkK l k).at_, (tkK l k).sh⟩).length = l.length := by rw [List.length_set]; exact hln
      have lh3 : us.length = ((halfT z l k).set k ⟨(q : Int), (q : Int) + 1, mtx (q + 1 + 1), (tkK l k).at_, (tkK l k).sh⟩).length := by rw [ln3]; exact HLH.out
      have R3' : (w1.setCell ⟨g, k * 5 + 2, none⟩ (.string (mtx (q + 1 + 1)))).ownsRow lo 101 5 (.slice (some ⟨g, 0, none⟩) ((halfT z l k).set k ⟨(q : Int), (q : Int) + 1, mtx (q + 1 + 1), (tkK l k).at_, (tkK l k).sh⟩).length cv) ((halfT z l k).set k ⟨(q : Int), (q : Int) + 1, mtx (q + 1 + 1), (tkK l k).at_, (tkK l k).sh⟩).length (tcs ((halfT z l k).set k ⟨(q : Int), (q : Int) + 1, mtx (q + 1 + 1), (tkK l k).at_, (tkK l k).sh⟩) us) := by rw [ln3]; exact R3
      have d3 : (w1.setCell ⟨g, k * 5 + 2, none⟩ (.string (mtx (q + 1 + 1)))).cell? ⟨g, k * 5 + 3, none⟩ = some (.slice pa (tkK l k).at_.length ca) := by
        have := (rowT_cell lh3 R3' (n := k) (i := 3) (by omega) (by omega)).1
        rw [this, ← ea]; rfl
      have s2 : (w1.setCell ⟨g, k * 5 + 2, none⟩ (.string (mtx (q + 1 + 1)))).heap.size = w1.heap.size := by simp [World.setCell]
      have sb := hb.size
      have S1o := S1.out
      have KA := markAttrS_is (q + 1 + 1 + 1) (bl k) (us.getD k undef) (tkK l k).at_ (rs k) _ A3 (by omega) (by omega) (by omega) (by omega)
      rw [ea] at KA
      have KA := Hid.mk' KA
      have EA := Hid.mk' ea
      have HR := Hid.mk' R3
      have HK3 := Hid.mk' K3
      have S3 : Hid (wr.heap.size ≤ w1.heap.size) := Hid.mk' (by omega)
      clear hb KT R1 R1' R3 R3' K1 K3 ea A3 HK2 sb s2 A0 S1o
      generalize hV : w1.setCell ⟨g, k * 5 + 2, none⟩ (.string (mtx (q + 1 + 1))) = V3 at *
      go_wp2_with fail
      clear hV c2 f2
      refine KA.out.mono ?_
      rintro e w2 ⟨rfl, hoa, hkk⟩
      rw [← EA.out] at hoa hkk
      have AT := T0.out.ta.att k (by omega)
      rw [hgt] at AT
      have hk3 : Kp (fun j => ¬ (bl k ≤ j ∧ j < bh k)) V3 w2 := hkk.mono (fun j e => ⟨fun e2 => e ⟨(AT.row.lt j e2).1, HIA.out j e2⟩, fun i hi e2 => e ⟨AT.vlo i hi j e2, HIU.out i hi j e2⟩⟩)
      have R4 := own_of HR.out (Nat.le_refl _) (fun j e _ => hk3.block j (HR.out.lt j e).2 (fun h2 => by
        have ej : g = j := by simpa [Value.ownBlock] using e
        subst ej
        have := VG.out; omega))
      have R4' : w2.ownsRow lo 101 5 (.slice (some ⟨g, 0, none⟩) ((halfT z l k).set k ⟨(q : Int), (q : Int) + 1, mtx (q + 1 + 1), (tkK l k).at_, (tkK l k).sh⟩).length cv) ((halfT z l k).set k ⟨(q : Int), (q : Int) + 1, mtx (q + 1 + 1), (tkK l k).at_, (tkK l k).sh⟩).length (tcs ((halfT z l k).set k ⟨(q : Int), (q : Int) + 1, mtx (q + 1 + 1), (tkK l k).at_, (tkK l k).sh⟩) us) := by rw [ln3]; exact R4
      obtain ⟨c4, f4⟩ := rowT_cell lh3 R4' (n := k) (i := 4) (by omega) (by omega)
      replace c4 : w2.cell? ⟨g, k * 5 + 4, none⟩ = some (.bool (tkK l k).sh) := by rw [c4, tkK_set klen, if_pos rfl]; rfl
      obtain ⟨q2, hq3⟩ : ∃ q2 : Nat, q + 1 + 1 + 1 + (tkK l k).at_.length + vsz (tkK l k).at_ = q2 := ⟨_, rfl⟩
      have R5 := rowT_set (t := mk1T q (tkK l k)) (n := k) (i := 4) (x := .bool (((q2 : Nat) : Int) % 3 == 0)) lh3 R4' (by omega) (by omega) (by rw [tkK_set klen, if_pos rfl, ← hq3]; rfl)
      rw [ln3, List.set_set] at R5
      have K5 : Kp (fun j => j ≠ g ∧ ¬ (bl k ≤ j ∧ j < bh k)) wr (w2.setCell ⟨g, k * 5 + 4, none⟩ (.bool (((q2 : Nat) : Int) % 3 == 0))) := ((HK3.out.mono (fun j e => e.1)).trans (hk3.mono (fun j e => e.2))).setCell (q := ⟨g, k * 5 + 4, none⟩) (fun e => e.1 rfl) _
      have KX : Kp (fun j => j ≠ g) w2 (w2.setCell ⟨g, k * 5 + 4, none⟩ (.bool (((q2 : Nat) : Int) % 3 == 0))) := (Kp.refl _ _).setCell (q := ⟨g, k * 5 + 4, none⟩) (fun e => e rfl) _
      have A5 := hoa.keepOf (w' := w2.setCell ⟨g, k * 5 + 4, none⟩ (.bool (((q2 : Nat) : Int) % 3 == 0))) (fun j e hl' => KX.block j hl' (fun e2 => by subst e2; have := (hoa.row.lt j e).1; have := HIA.out j e; have := VG.out; omega)) (fun i hi j e hl' => KX.block j hl' (fun e2 => by subst e2; have := hoa.vlo i hi j e; rw [mkA_len] at hi; have := HIU.out i hi j e; have := VG.out; omega))
      have N5 : TP lo (w2.setCell ⟨g, k * 5 + 4, none⟩ (.bool (((q2 : Nat) : Int) % 3 == 0))) (.slice (some ⟨g, 0, none⟩) l.length cv) (halfT z l (k + 1)) us rs bl bh := by
        have := T0.out.modify (n := k) (t := mk1T q (tkK l k)) (w' := w2.setCell ⟨g, k * 5 + 4, none⟩ (.bool (((q2 : Nat) : Int) % 3 == 0))) (by omega) (by rw [hgt]; exact mkA_len _ _) K5.size (by rw [hln]; exact R5) A5 (fun j hj h1 h2 => K5.block j hj ⟨fun e => h1 (by rw [e]; rfl), h2⟩)
        rw [HS.out] at this
        exact this
      have N5 := Hid.mk' N5
      have K6 := Hid.mk' (HK.out.trans (K5.mono (fun j e => ⟨fun e2 => e.1 (by rw [e2]; rfl), e.2 k hlt⟩)))
      have EZ : Hid ((q2 : Int) + 1 = ((z + ctN (l.take (k + 1)) : Nat) : Int)) := Hid.mk' (by rw [Q1.out]; omega)
      have ez : ((q + 1 + 1 + 1 : Nat) : Int) + ((tkK l k).at_.length : Int) + (vsz (tkK l k).at_ : Int) = (q2 : Int) := by omega
      rw [ez]
      have q2b : q2 ≤ 20000000 := by omega
      clear hkk hoa hk3 R4 R4' R5 K5 KX A5 AT KA HK3 HR ez hq3
      go_wp2
      go_roundw
      case rel => exact ⟨k + 1, by omega, by go_num, by rw [← EZ.out], N5.out, K6.out⟩
      case measure => simp [intOf]; omega
    · have ci : ¬ (k : Int) < (l.length : Int) := by omega
      have e : k = l.length := by omega
      subst e
      rw [halfT_all] at htp
      have HO := Hid.mk' htp
      clear htp
      rw [List.take_length]
      go_wp2
      go_ret
      exact ⟨rfl, HO.out, HK.out⟩

end Go.Proofs.YtkiinnmindmnbaaGreatDoor

namespace Go.Proofs.YtkiinnmindmnbaaGreatDoor
open Go.RowKit

def toL (m : ME) : List TK := if memF m = 0 then m.tk ++ bytesT m.hd else []

theorem keptQ3 (w' : World) (c : Nat) (v0 v1 v2 : Value) : KeptIn c (c + 1) w' (((w'.setCell ⟨c, 0, none⟩ v0).setCell ⟨c, 1, none⟩ v1).setCell ⟨c, 2, none⟩ v2) :=
  (((KeptIn.refl c (c + 1) w').setCell (p := ⟨c, 0, none⟩) (by simp) (by simp) v0).setCell (p := ⟨c, 1, none⟩) (by simp) (by simp) v1).setCell (p := ⟨c, 2, none⟩) (by simp) (by simp) v2

theorem boxesT (w : World) (x0 x1 x2 x3 x4 : Value) :
    let W := (w.alloc (.cells #[x0, x1, x2, x3, x4] 26)).alloc (.cells #[.int .i64 0, .slice none 0 0, .slice none 0 0] 57)
    Below w.heap.size w W ∧ W.rowIs w.heap.size 26 5 (r5 x0 x1 x2 x3 x4) ∧ W.rowIs (w.heap.size + 1) 57 3 (r3 (.int .i64 0) (.slice none 0 0) (.slice none 0 0)) := by
  refine ⟨(below_new w _).alloc (by simp) _, (row5 w 26 x0 x1 x2 x3 x4).alloc _, ?_⟩
  have := row3 (w.alloc (.cells #[x0, x1, x2, x3, x4] 26)) 57 (.int .i64 0) (.slice none 0 0) (.slice none 0 0)
  rw [show (w.alloc (.cells #[x0, x1, x2, x3, x4] 26)).heap.size = w.heap.size + 1 by simp] at this
  exact this

set_option maxRecDepth 100000 in
set_option maxHeartbeats 6400000 in
theorem specTO_any (m : ME) (a t u c : Option Addr) (ca ct cu cc : Nat) (w : World) (h1 : MAt w a t u c m) (hub : Byt m.dt) (hhb : Byt m.hd) (htb : TBt m.tk) (hm : (msz m : Int) ≤ 1048576) :
    Calls Tryz.prog 26 #[.agg #[.slice a m.dt.length ca, .int .i64 m.st, .slice t m.tk.length ct, .slice u m.hd.length cu, .slice c m.cs.length cc]] w fun e w' => ∃ v d, e = .returned (.agg #[.int .i64 (memF m), .slice v (toL m).length d, .slice none 0 0]) ∧ TsAt w' v (toL m) ∧ Below w.heap.size w w' := by
  have MS_ : (msz m : Int) = m.dt.length + m.tk.length + tssz m.tk + m.hd.length + m.cs.length + csz m.cs := by unfold msz; omega
  obtain ⟨B0, R1, R2⟩ := boxesT w (.slice a m.dt.length ca) (.int .i64 m.st) (.slice t m.tk.length ct) (.slice u m.hd.length cu) (.slice c m.cs.length cc)
  have KF := Hid.mk' (l12Fault_any w.heap.size m a t u c ca ct cu cc _ ⟨R1, h1.below B0⟩ hub hm)
  have HA := Hid.mk' (h1.below B0)
  have HB := Hid.mk' B0
  have H1 := Hid.mk' R1
  have H2 := Hid.mk' R2
  have HH := Hid.mk' hhb
  have htl : (m.tk.length : Int) + tssz m.tk ≤ 1048576 := by omega
  have hhl : (m.hd.length : Int) ≤ 1048576 := by omega
  have HL0 : Hid (memF m = 0 → m.hd.length ≤ 1000) := Hid.mk' (fun h0 => by
    obtain ⟨_, s, _, _, _, hr⟩ := memF_ok h0
    have e := (right_toks hub htb hhb hr).2
    have l1 : (memX m.dt s).hd.length ≤ 159 := (allX_good _ _ _ (.inl rfl)).len
    rw [e]; omega)
  clear MS_ B0 R1 R2 h1 hub hm hhb htb
  generalize hW : (w.alloc (.cells #[.slice a m.dt.length ca, .int .i64 m.st, .slice t m.tk.length ct, .slice u m.hd.length cu, .slice c m.cs.length cc] 26)).alloc (.cells #[.int .i64 0, .slice none 0 0, .slice none 0 0] 57) = W at *
  go_enter Tryz.func26, Tryz.ntmps26
  go_wp2_with fail
  clear hW
  refine KF.out.mono ?_
  rintro e w1 ⟨rfl, hb1⟩
  have HZ := Hid.mk' (rowB H2.out hb1)
  have HM := Hid.mk' (rowB H1.out hb1)
  have HA1 := Hid.mk' (HA.out.below hb1)
  have B1 := Hid.mk' (HB.out.trans (hb1.mono HB.out.size))
  clear hb1 KF HA H1 H2
  by_cases hf : memF m = 0
  rotate_left
  · have EL : Hid (toL m = []) := Hid.mk' (by unfold toL; rw [if_neg hf])
    obtain ⟨F, hF⟩ : ∃ F, memF m = F := ⟨_, rfl⟩
    rw [hF] at hf ⊢
    have hne : (F != 0) = true := by simp [hf]
    have HF := Hid.mk' hF
    clear hF
    have RZ := HZ.out
    obtain ⟨y0, y1, y2, y3⟩ := cells3 RZ
    have f0 := RZ.frozen 0
    have f1 := RZ.frozen 1
    have f2 := RZ.frozen 2
    clear RZ
    go_wp2
    refine bodyPost_ret (v := .agg #[.int .i64 F, .slice none 0 0, .slice none 0 0]) (by simp [results, Tryz.results26, go_sem, *]) rfl ?_
    exact ⟨none, 0, by rw [EL.out, HF.out]; rfl, by rw [EL.out]; exact .inl rfl, B1.out.trans ((keptQ3 _ _ _ _ _).below (Nat.le_succ _) B1.out.size)⟩
  rw [hf]
  have EL : Hid (toL m = m.tk ++ bytesT m.hd) := Hid.mk' (by unfold toL; rw [if_pos hf])
  obtain ⟨x0, x1, x2, x3, x4, x5⟩ := cells5 HM.out
  have hL0 := HL0.out hf
  go_wp2_with (first | go_big_skip)
  have HCE : Hid (∀ v, Below w1.heap.size w1 v → (fun v => v.cell? ⟨w.heap.size, 2, none⟩ = some (.slice t m.tk.length ct) ∧ v.cell? ⟨w.heap.size, 3, none⟩ = some (.slice u m.hd.length cu)) v) := Hid.mk' (fun v hb => ⟨(hb.cell x5).trans x2, (hb.cell x5).trans x3⟩)
  have LX : Hid (w.heap.size < w1.heap.size) := Hid.mk' x5
  clear x0 x1 x2 x3 x4 x5
  refine wp_region_held_drew (S := (fun v => v.cell? ⟨w.heap.size, 2, none⟩ = some (.slice t m.tk.length ct) ∧ v.cell? ⟨w.heap.size, 3, none⟩ = some (.slice u m.hd.length cu))) (by kernel_rfl) (HCE.out _ (Below.refl _ _).drew) (fun hHeld => ?_)
  refine wpAnyH_take (i := 0) (oi := ⟨_, _, _, _, _, _⟩) (v := ?_) rfl (by kernel_rfl) (by kernel_rfl) (by kernel_rfl) (fun _ _ _ h => h) (Or.inl ⟨by rfl, ?_⟩) (by assumption) ?_
  rotate_left
  · (intro w hSw; (try dsimp only at hSw); go_simp; (try with_reducible rfl))
  try simp only [Act.put, zA, zB, zC]
  refine wpAnyH_take (i := 1) (oi := ⟨_, _, _, _, _, _⟩) (v := ?_) rfl (by kernel_rfl) (by kernel_rfl) (by kernel_rfl) (fun _ _ _ h => h) (Or.inl ⟨by rfl, ?_⟩) (by assumption) ?_
  rotate_left
  · (intro w hSw; (try dsimp only at hSw); go_simp; (try with_reducible rfl))
  try simp only [Act.put, zA, zB, zC]
  refine wpAnyH_take (i := 3) (oi := ⟨_, _, _, _, _, _⟩) (v := ?_) rfl (by kernel_rfl) (by kernel_rfl) (by kernel_rfl) (fun _ _ _ h => h) (Or.inl ⟨by rfl, ?_⟩) (by assumption) ?_
  rotate_left
  · (intro w hSw; (try dsimp only at hSw); go_simp; (try with_reducible rfl))
  try simp only [Act.put, zA, zB, zC]
  refine wpAnyH_take (i := 4) (oi := ⟨_, _, _, _, _, _⟩) (v := ?_) rfl (by kernel_rfl) (by kernel_rfl) (by kernel_rfl) (fun _ _ _ h => h) (Or.inl ⟨by rfl, ?_⟩) (by assumption) ?_
  rotate_left
  · (intro w hSw; (try dsimp only at hSw); go_simp; (try with_reducible rfl))
  try simp only [Act.put, zA, zB, zC]
  refine wpAnyH_ready (rs := [2]) (by kernel_rfl) (by simp) ?_
  refine AllReadyH.cons (o := ⟨_, _, _, _, _, _⟩) rfl (fun K hK => ?_) AllReadyH.nil
  go_simp
  go_at_call 54
  refine (l4Copy_any t ct m.tk w1.drew (HA1.out.2.1.below (Below.refl _ _).drew) htl).mono ?_
  rintro e w2 ⟨v2, us, rfl, hT, hb2⟩
  replace hb2 := undrew hb2
  have HT : Hid (TokS w1.heap.size w2 v2 m.tk us) := Hid.mk' hT
  obtain ⟨a2, c2, rfl, _⟩ := own_src hT.row
  have B2 := Hid.mk' hb2
  clear hT hb2
  refine hK.out _ _ (HCE.out _ B2.out) (fun hHeld => ?_)
  clear hK K
  try simp only [Act.put, zA, zB, zC]
  refine wpAnyH_ready (rs := [5]) (by kernel_rfl) (by simp) ?_
  refine AllReadyH.cons (o := ⟨_, _, _, _, _, _⟩) rfl (fun K hK => ?_) AllReadyH.nil
  go_simp
  go_at_call 55
  refine (l5Go_any u cu m.hd w2 (HA1.out.2.2.1.below B2.out) HH.out hL0).mono ?_
  rintro e w3 ⟨v3, rfl, ho3, hb3⟩
  obtain ⟨a3, c3, rfl, src3⟩ := own_src ho3
  have SRC3 := Hid.mk' src3
  have hlen : Hid ((tcs (bytesT m.hd) (nils m.hd.length)).length = m.hd.length * 5) := Hid.mk' (by rw [tcs_len _ _ (by rw [nils_len, bytesT_len]), bytesT_len])
  have hone : Hid (∀ u ∈ tcs (bytesT m.hd) (nils m.hd.length), u.oneCell' = true) := Hid.mk' (tcs_one _ _ (nils_one _))
  have T3 := Hid.mk' (own_keep HT.out.row hb3)
  have BB3 := Hid.mk' hb3
  have B3 := Hid.mk' (B2.out.trans (hb3.mono B2.out.size))
  have SZ := Hid.mk' B3.out.size
  clear hb3 ho3 src3
  refine hK.out _ _ (HCE.out _ B3.out) (fun hHeld => ?_)
  clear hK K
  try simp only [Act.put, zA, zB, zC]
  refine wpAnyH_ready (rs := [6]) (by kernel_rfl) (by simp) ?_
  refine AllReadyH.cons (o := ⟨_, _, _, _, _, _⟩) rfl (fun K hK => ?_) AllReadyH.nil
  refine step_append_at rfl (.tmp 11) (.tmp 14) 23 rfl w1.heap.size 101 (.agg #[.int .i64 0, .int .i64 0, .string ⟨#[]⟩, .slice none 0 0, .bool false]) 5 64 Tryz.underlying23 Tryz.infoTok rfl (by decide) _ _ _ rfl T3.out _ _ _ (tcs (bytesT m.hd) (nils m.hd.length)) rfl hlen.out SRC3.out hone.out (by unfold maxLen; omega) (by omega) SZ.out ?_
  intro v' w6 ho hgr hat
  obtain ⟨a6, c6, rfl, _⟩ := own_src ho
  have T6 : Hid (TokS w1.heap.size w6 (.slice a6 (m.tk.length + m.hd.length) c6) (m.tk ++ bytesT m.hd) (us ++ nils m.hd.length)) := Hid.mk' (HT.out.app BB3.out B2.out.size (fun i t u ht hu => .inl ⟨by
      unfold bytesT at ht
      rw [List.getElem?_map] at ht
      cases h : m.hd[i]? with
      | none => rw [h] at ht; cases ht
      | some x => rw [h] at ht; injection ht with ht; rw [← ht]; rfl, nils_get hu⟩) (by rw [nils_len, bytesT_len]) (nils_one _) (by rw [bytesT_len]; exact ho) hgr hat)
  have B6 := Hid.mk' (B3.out.grown hgr SZ.out (own_lo T3.out))
  clear ho hgr hat
  refine hK.out _ _ (HCE.out _ B6.out) (fun hHeld => ?_)
  clear hK K
  try simp only [Act.put, zA, zB, zC]
  refine wpAnyH_take (i := 7) (oi := ⟨_, _, _, _, _, _⟩) (v := ?_) rfl (by kernel_rfl) (by kernel_rfl) (by kernel_rfl) (fun _ _ _ h => h) (Or.inl ⟨by rfl, ?_⟩) (by assumption) ?_
  rotate_left
  · (intro w hSw; (try dsimp only at hSw); go_simp; (try with_reducible rfl))
  try simp only [Act.put, zA, zB, zC]
  have HZ6 := Hid.mk' (rowB HZ.out B6.out)
  obtain ⟨k0, k1, k2, k3⟩ := cells3 HZ6.out
  have f0 := HZ6.out.frozen 0
  have f1 := HZ6.out.frozen 1
  have f2 := HZ6.out.frozen 2
  have K2 := keptQ3 w6 (w.heap.size + 1) (.int .i64 0) (.slice a6 (m.tk.length + m.hd.length) c6) (.slice none 0 0)
  have n1 : w.heap.size < w.heap.size + 1 ∨ w.heap.size + 1 + 1 ≤ w.heap.size := by omega
  have lw6 : w.heap.size < w6.heap.size := by have := LX.out; have := B6.out.size; omega
  have LZ : Hid (w.heap.size + 1 < w1.heap.size) := Hid.mk' HZ.out.lt
  have LZ6 := Hid.mk' k3
  refine wpAnyH_ready (rs := [8]) (by kernel_rfl) (by simp) ?_
  refine AllReadyH.cons (o := ⟨_, _, _, _, _, _⟩) rfl (fun K9 hK => ?_) AllReadyH.nil
  go_simp
  refine hK.out _ _ ?_ (fun hHeld => ?_)
  · have h0 := HCE.out w6 B6.out
    clear hK HCE
    exact ⟨(keptIn_cell K2 _ _ lw6 n1).trans h0.1, (keptIn_cell K2 _ _ lw6 n1).trans h0.2⟩
  clear hK K9
  try simp only [Act.put, zA, zB, zC]
  refine wpAnyH_done (by kernel_rfl) ?_ _
  clear hHeld
  go_wp2
  refine bodyPost_ret (v := .agg #[.int .i64 0, .slice a6 (m.tk.length + m.hd.length) c6, .slice none 0 0]) (by simp [results, Tryz.results26, go_sem, *]) rfl ?_
  have TK := T6.out.keep (w' := ((w6.setCell ⟨w.heap.size + 1, 0, none⟩ (.int .i64 0)).setCell ⟨w.heap.size + 1, 1, none⟩ (.slice a6 (m.tk.length + m.hd.length) c6)).setCell ⟨w.heap.size + 1, 2, none⟩ (.slice none 0 0)) K2.size (fun q h1 h2 => K2.block q h2 (.inr (by have := LZ.out; omega)))
  obtain ⟨av, cv, ev, tav⟩ := TK.tsAt
  have BE := B1.out.trans (B6.out.mono B1.out.size)
  have BF := BE.trans (K2.below (Nat.le_succ _) BE.size)
  refine ⟨av, ⟨cv, by rw [EL.out, ← ev]⟩, by rw [EL.out]; exact tav, BF⟩

end Go.Proofs.YtkiinnmindmnbaaGreatDoor

namespace Go.Proofs.YtkiinnmindmnbaaGreatDoor
open Go.RowKit

def ToP (m : ME) (w : World) (e : Ending) (w' : World) : Prop :=
  (¬ memF m = 0 ∧ e = .returned (.agg #[.int .i64 (memF m), .slice none 0 0, .slice none 0 0]) ∧ Below w.heap.size w w') ∨
  (memF m = 0 ∧ ∃ tv us rs bl bh, e = .returned (.agg #[.int .i64 0, tv, .slice none 0 0]) ∧ TP w.heap.size w' tv (toL m) us rs bl bh ∧ Below w.heap.size w w')

set_option maxRecDepth 100000 in
set_option maxHeartbeats 6400000 in
theorem implTO_any (tp : TypeId) (pv : Value) (m : ME) (a t u c : Option Addr) (ca ct cu cc : Nat) (w : World) (hE : Env w.heap.size tp pv w) (h1 : MAt w a t u c m) (hca : m.dt.length ≤ ca) (hub : Byt m.dt) (hhb : Byt m.hd) (htb : TBt m.tk) (hm : (msz m : Int) ≤ 1048576) :
    Calls Tryz.prog 27 #[.agg #[.slice a m.dt.length ca, .int .i64 m.st, .slice t m.tk.length ct, .slice u m.hd.length cu, .slice c m.cs.length cc]] w fun e w' => ToP m w e w' := by
  obtain ⟨B0, R1, R2⟩ := boxesT w (.slice a m.dt.length ca) (.int .i64 m.st) (.slice t m.tk.length ct) (.slice u m.hd.length cu) (.slice c m.cs.length cc)
  have KR := Hid.mk' (rightMemo_any tp pv m a t u c ca ct cu cc _ ((hE.keep B0).up B0.size (Nat.le_refl _)) (h1.below B0) hca hub hm)
  have HB := Hid.mk' B0
  have H2 := Hid.mk' R2
  obtain ⟨x0, x1, x2, x3, x4, x5⟩ := cells5 R1
  have HU := Hid.mk' hub
  have RT : Hid (∀ s : Nat, 1 ≤ s → sameR (memX m.dt s) m = true → m.tk = tkN m.dt s (m.dt.length / s + 1) ∧ m.hd = hdN m.dt s (m.dt.length / s + 1)) := Hid.mk' (fun s hs h => by
    obtain ⟨e1, e2⟩ := right_toks hub htb hhb h
    have e3 := takeM_all m.dt s hs
    refine ⟨e1.trans ?_, e2.trans ?_⟩
    · show _ = (allX [] [] (m.dt.take ((m.dt.length / s + 1) * s))).1
      rw [e3]; rfl
    · show _ = (allX [] [] (m.dt.take ((m.dt.length / s + 1) * s))).2
      rw [e3]; rfl)
  clear B0 R1 R2 h1 hub hm hE hhb htb
  generalize hW : (w.alloc (.cells #[.slice a m.dt.length ca, .int .i64 m.st, .slice t m.tk.length ct, .slice u m.hd.length cu, .slice c m.cs.length cc] 26)).alloc (.cells #[.int .i64 0, .slice none 0 0, .slice none 0 0] 57) = W at *
  go_enter Tryz.func27, Tryz.ntmps27
  go_wp2_with fail
  clear hW x0 x1 x2 x3 x4 x5
  refine KR.out.mono ?_
  rintro e w1 (⟨hf, rfl, hb1⟩ | ⟨hf, h240, s, hst, hs, hs2, hsame, gd, gc, tv, hvs, us, rs, bl, bh, rfl, hx, hb1⟩)
  · obtain ⟨F, hF⟩ : ∃ F, memF m = F := ⟨_, rfl⟩
    rw [hF] at hf ⊢
    have HNZ : Hid (¬ F = 0) := Hid.mk' hf
    have HF := Hid.mk' hF
    have hne : (F != 0) = true := by simp [hf]
    have N1 := below_new w1 (.cells #[.slice none 0 0, .int .i64 0, .slice none 0 0, .slice none 0 0, .slice none 0 0] 26)
    have M1 := hb1.trans (N1.mono hb1.size)
    have HZ := Hid.mk' (rowB H2.out M1)
    have B1 := Hid.mk' (HB.out.trans (M1.mono HB.out.size))
    clear hF N1 M1 hb1
    obtain ⟨y0, y1, y2, y3⟩ := cells3 HZ.out
    have f0 := HZ.out.frozen 0
    have f1 := HZ.out.frozen 1
    have f2 := HZ.out.frozen 2
    go_wp2
    refine bodyPost_ret (v := .agg #[.int .i64 F, .slice none 0 0, .slice none 0 0]) (by simp [results, Tryz.results27, go_sem, *]) rfl ?_
    exact .inl ⟨by rw [HF.out]; exact HNZ.out, by rw [HF.out], B1.out.trans ((keptQ3 _ _ _ _ _).below (Nat.le_succ _) B1.out.size)⟩
  obtain ⟨et, eh⟩ := RT.out s hs hsame
  have EL : Hid (toL m = tkN m.dt s (m.dt.length / s + 1) ++ bytesT (hdN m.dt s (m.dt.length / s + 1))) := Hid.mk' (by unfold toL; rw [if_pos hf, et, eh])
  have HF := Hid.mk' hf
  have ug := Hid.mk' (show GoodH (hdN m.dt s (m.dt.length / s + 1)) from allX_good _ [] [] (.inl rfl))
  have ub := Hid.mk' (show Byt (hdN m.dt s (m.dt.length / s + 1)) from allX_byt _ [] [] (fun x hx => HU.out.mem x (List.mem_of_mem_take hx)) Byt.nil)
  have ul : (tkN m.dt s (m.dt.length / s + 1)).length ≤ 161 * 240 := by
    have := allX_len (m.dt.take ((m.dt.length / s + 1) * s)) [] [] (by simp)
    have l2 : (m.dt.take ((m.dt.length / s + 1) * s)).length ≤ m.dt.length := by rw [List.length_take]; omega
    have e : tkN m.dt s (m.dt.length / s + 1) = (allX [] [] (m.dt.take ((m.dt.length / s + 1) * s))).1 := rfl
    simp at this
    rw [e]
    simp
    omega
  have gl := ug.out.len
  obtain ⟨ta, tc, rfl, -⟩ := own_src hx.rx.tp.row
  obtain ⟨ha, hc, eh2, hbt⟩ := own_bat (hx.rx.own (m.dt.length / s + 1) (Nat.le_refl _))
  rw [eh2]
  have TP0 := hx.rx.tp
  clear et eh eh2 hx hsame RT
  generalize tkN m.dt s (m.dt.length / s + 1) = T at *
  generalize hdN m.dt s (m.dt.length / s + 1) = H at *
  generalize m.dt.length / s + 1 = J at *
  have N1 := below_new w1 (.cells #[.slice (some ⟨gd, 0, none⟩) m.dt.length m.dt.length, .int .i64 (s : Int), .slice ta T.length tc, .slice ha H.length hc, .slice (some ⟨gc, 0, none⟩) J J] 26)
  have M1 := hb1.trans (N1.mono hb1.size)
  have HZ := Hid.mk' (rowB H2.out M1)
  have B1 := Hid.mk' (HB.out.trans (M1.mono HB.out.size))
  have RX := row5 w1 26 (.slice (some ⟨gd, 0, none⟩) m.dt.length m.dt.length) (.int .i64 (s : Int)) (.slice ta T.length tc) (.slice ha H.length hc) (.slice (some ⟨gc, 0, none⟩) J J)
  have ZZ := Hid.mk' RX
  obtain ⟨x0, x1, x2, x3, x4, x5⟩ := cells5 RX
  have TP1 := Hid.mk' (TP0.below N1)
  have KN := Hid.mk' (finishLex_any ha hc H _ (hbt.below N1) ug.out ub.out)
  have S1 : Hid (W.heap.size ≤ w1.heap.size) := Hid.mk' hb1.size
  have LW : Hid (w.heap.size + 2 ≤ W.heap.size) := Hid.mk' (by have := H2.out.lt; omega)
  clear N1 M1 hb1 RX TP0 hbt ug ub hs hs2 hst h240 hf
  generalize hV : w1.alloc (.cells #[.slice (some ⟨gd, 0, none⟩) m.dt.length m.dt.length, .int .i64 (s : Int), .slice ta T.length tc, .slice ha H.length hc, .slice (some ⟨gc, 0, none⟩) J J] 26) = V at *
  go_wp2_with fail
  clear hV x0 x1 x2 x3 x4
  refine KN.out.mono ?_
  rintro e w2 ⟨hv2, tv2, us2, rs2, bl2, bh2, lo2, g2, rfl, hlo2, hx2, hb2⟩
  obtain ⟨ha2, hc2, rfl, _⟩ := own_src hx2.held
  obtain ⟨ta2, tc2, rfl, _⟩ := own_src hx2.row
  have N2 := below_new w2 (.cells #[.int .i64 0, .slice ta2 (bytesT H).length tc2, .slice ha2 0 hc2] 57)
  have M2 := hb2.trans (N2.mono hb2.size)
  obtain ⟨_, _, e2, src2⟩ := own_src (own_keep hx2.row N2)
  cases e2
  have SRC := Hid.mk' src2
  have hlen : Hid ((tcs (bytesT H) us2).length = (bytesT H).length * 5) := Hid.mk' (tcs_len _ _ hx2.ta.len)
  have hone : Hid (∀ u ∈ tcs (bytesT H) us2, u.oneCell' = true) := Hid.mk' (tcs_one _ _ hx2.ta.one)
  have B2 := Hid.mk' (B1.out.trans (M2.mono B1.out.size))
  have R2 := Hid.mk' (rowB HZ.out M2)
  obtain ⟨q0, q1, q2_, q3, q4, q5⟩ := cells5 (rowB ZZ.out M2)
  obtain ⟨s0, s1_, s2_, s3_⟩ := cells3 (row3 w2 57 (.int .i64 0) (.slice ta2 (bytesT H).length tc2) (.slice ha2 0 hc2))
  have TPX := Hid.mk' (TP1.out.below M2)
  have TV := Hid.mk' TP1.out
  have MM := Hid.mk' M2
  have TA2 := Hid.mk' ((hx2.ta.below N2).widen hlo2 N2.size)
  have hne : Hid (some (w.heap.size + 1) ≠ (Value.slice ta T.length tc).ownBlock) := Hid.mk' (fun e => by have := (TP1.out.row.lt _ e.symm).1; have := LW.out; omega)
  have hlo3 : Hid (∀ k, (Value.slice ta T.length tc).ownBlock = some k → w.heap.size ≤ k) := Hid.mk' (fun k e => by have := (TP1.out.row.lt _ e).1; have := LW.out; omega)
  have bl2' : (bytesT H).length ≤ 160 := by rw [bytesT_len]; omega
  have LWV : Hid (W.heap.size + 1 ≤ V.heap.size) := Hid.mk' (by have := S1.out; omega)
  have SZ : Hid (W.heap.size + 1 ≤ (w2.alloc (.cells #[.int .i64 0, .slice ta2 (bytesT H).length tc2, .slice ha2 0 hc2] 57)).heap.size) := Hid.mk' (by have := LWV.out; have := M2.size; omega)
  have LR := Hid.mk' R2.out.lt
  clear hx2 hb2 N2 M2 src2 KN x5 TP1 B1 ZZ HZ
  generalize hV2 : w2.alloc (.cells #[.int .i64 0, .slice ta2 (bytesT H).length tc2, .slice ha2 0 hc2] 57) = V2 at *
  go_wp2_with (first | (at_builtin; refine wpList_append_at _ rfl (.tmp 20) (.tmp 22) 23 rfl (W.heap.size + 1) 101 (.agg #[.int .i64 0, .int .i64 0, .string ⟨#[]⟩, .slice none 0 0, .bool false]) 5 64 Tryz.underlying23 Tryz.infoTok rfl (by decide) _ _ _ rfl TPX.out.row _ _ _ (tcs (bytesT H) us2) rfl hlen.out SRC.out hone.out (by unfold maxLen; omega) (by omega) SZ.out ?_; intro v' w3 ho hgr hat; obtain ⟨a', c', rfl, _⟩ := own_src ho; have R3 := R2.out.of_block (hgr.block (w.heap.size + 1) R2.out.lt hne.out); obtain ⟨y0, y1, y2, y3⟩ := cells3 R3; have f0 := R3.frozen 0; have f1 := R3.frozen 1; have f2 := R3.frozen 2; clear R3) | fail)
  have B3 := Hid.mk' (B2.out.grown hgr (by have := B2.out.size; omega) hlo3.out)
  have TP3 := Hid.mk' (TV.out.app LWV.out MM.out TA2.out ho hgr hat)
  clear ho hgr hat
  refine bodyPost_ret (v := .agg #[.int .i64 0, .slice a' (T.length + (bytesT H).length) c', .slice none 0 0]) (by simp [results, Tryz.results27, go_sem, *]) rfl ?_
  have K2 := keptQ3 w3 (w.heap.size + 1) (.int .i64 0) (.slice a' (T.length + (bytesT H).length) c') (.slice none 0 0)
  have TPF := (TP3.out.keep K2.size (fun k h1 h2 => K2.block k h2 (.inr (by have := LW.out; omega)))).down (show w.heap.size ≤ W.heap.size + 1 by have := LW.out; omega)
  rw [← EL.out] at TPF
  exact .inr ⟨HF.out, _, _, _, _, _, rfl, TPF, B3.out.trans (K2.below (Nat.le_succ _) B3.out.size)⟩

end Go.Proofs.YtkiinnmindmnbaaGreatDoor
