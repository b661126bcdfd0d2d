/- Ways: the places that a place is in, the outermost first. -/
import Derived.WalkKit
import Derived.Test.YtdloogkjnjklcaaGreatDoorE2
import Derived.Test.YtdloogkjnjklcaaGreatDoorE14
import Derived.Test.YtdloogkjnjklcaaGreatDoorE18
import Derived.Test.YtdloogkjnjklcaaGreatDoorE23
set_option linter.unusedVariables false
set_option linter.unusedSimpArgs false
namespace Go.Proofs.YtdloogkjnjklcaaGreatDoor

end Go.Proofs.YtdloogkjnjklcaaGreatDoor

namespace Go.Proofs.YtdloogkjnjklcaaGreatDoor
open Go.RowKit

end Go.Proofs.YtdloogkjnjklcaaGreatDoor

namespace Go.Proofs.YtdloogkjnjklcaaGreatDoor
open Go.RowKit

end Go.Proofs.YtdloogkjnjklcaaGreatDoor

namespace Go.Proofs.YtdloogkjnjklcaaGreatDoor
open Go.RowKit

end Go.Proofs.YtdloogkjnjklcaaGreatDoor

namespace Go.Proofs.YtdloogkjnjklcaaGreatDoor
open Go.RowKit

theorem vsz_asz (l : List AT) : vsz l ≤ asz l := by have := vsz_le l l.length; rwa [List.take_length] at this

end Go.Proofs.YtdloogkjnjklcaaGreatDoor

namespace Go.Proofs.YtdloogkjnjklcaaGreatDoor
open Go.RowKit

theorem own_spot {w : World} {base : Nat} {e : TypeId} {size : Nat} {v : Value} {n : Nat} {xs : List Value} (h : w.ownsRow base e size v n xs) (hn : 0 < n) : ∃ g cap, v = .slice (some ⟨g, 0, none⟩) n cap ∧ base ≤ g ∧ g < w.heap.size ∧ n ≤ cap ∧ ∀ i, i < n * size → w.cell? ⟨g, i, none⟩ = xs[i]? := by
  rcases h.2 with ⟨rfl, h0⟩ | ⟨g, cap, cur, rfl, hg, hh, hc, hm, hs, ht⟩
  · omega
  · refine ⟨g, cap, rfl, hg, ?_, hc, fun i hi => ?_⟩
    · exact Nat.lt_of_not_le fun hn => by rw [Array.getElem?_eq_none hn] at hh; cases hh
    · have q : w.cell? ⟨g, i, none⟩ = cur[i]? := Lib.cell_of_heap hh i
      rw [q, ← ht, List.getElem?_take_of_lt hi]
      simp

def ct1 (t : TK) : Nat := 4 + t.at_.length + vsz t.at_
def ctN : List TK → Nat
  | [] => 0
  | t :: l => ct1 t + ctN l

def mk1T (z : Nat) (t : TK) : TK := ⟨(z : Int), (z : Int) + 1, mtx (z + 1 + 1), mkA (z + 1 + 1 + 1) t.at_, (((z + 1 + 1 + 1 + t.at_.length + vsz t.at_ : Nat) : Int) % 3 == 0)⟩
def mkT : Nat → List TK → List TK
  | _, [] => []
  | z, t :: l => mk1T z t :: mkT (z + ct1 t) l

theorem mkT_len : ∀ (z : Nat) (l : List TK), (mkT z l).length = l.length
  | _, [] => rfl
  | z, t :: l => by simp [mkT, mkT_len]
theorem mkT_snoc : ∀ (z : Nat) (l : List TK) (t : TK), mkT z (l ++ [t]) = mkT z l ++ [mk1T (z + ctN l) t]
  | z, [], t => by simp [mkT, ctN]
  | z, x :: l, t => by simp only [List.cons_append, mkT, mkT_snoc (z + ct1 x) l t, ctN]; rw [Nat.add_assoc]
theorem mkT_get {z : Nat} {l : List TK} {i : Nat} (h : i < l.length) : tkK (mkT z l) i = mk1T (z + ctN (l.take i)) (tkK l i) := by
  induction l generalizing z i with
  | nil => exact absurd h (Nat.not_lt_zero _)
  | cons x l ih =>
    cases i with
    | zero => simp [mkT, tkK, ctN]
    | succ i =>
      have := ih (z := z + ct1 x) (i := i) (by simpa using h)
      have e1 : tkK (mkT z (x :: l)) (i + 1) = tkK (mkT (z + ct1 x) l) i := by simp [mkT, tkK]
      have e2 : tkK (x :: l) (i + 1) = tkK l i := by simp [tkK]
      rw [e1, this, e2]
      simp only [List.take_succ_cons, ctN]
      rw [Nat.add_assoc]
theorem ctN_take (l : List TK) : ∀ k, k < l.length → ctN (l.take (k + 1)) = ctN (l.take k) + ct1 (tkK l k) := by
  induction l with
  | nil => intro k h; exact absurd h (Nat.not_lt_zero _)
  | cons x r ih =>
    intro k hk
    cases k with
    | zero => simp [ctN, tkK]
    | succ k =>
      have := ih k (by simpa using hk)
      have e : tkK (x :: r) (k + 1) = tkK r k := by simp [tkK]
      simp only [List.take_succ_cons, ctN]
      rw [this, e]; omega
theorem ctN_le (l : List TK) (k : Nat) : ctN (l.take k) ≤ 4 * l.length + tssz l := by
  induction l generalizing k with
  | nil => simp [ctN]
  | cons x r ih =>
    cases k with
    | zero => simp [ctN]
    | succ k =>
      have := ih k
      have v := vsz_asz x.at_
      simp only [List.take_succ_cons, ctN, tssz, List.length_cons, ct1, tsz]
      omega

def halfT (z : Nat) (l : List TK) (k : Nat) : List TK := mkT z (l.take k) ++ l.drop k
theorem halfT_len (z : Nat) (l : List TK) (k : Nat) : (halfT z l k).length = l.length := by simp [halfT, mkT_len]; omega
theorem halfT_get (z : Nat) (l : List TK) (k : Nat) (h : k < l.length) : tkK (halfT z l k) k = tkK l k := by
  have e : (mkT z (l.take k)).length = k := by rw [mkT_len, List.length_take]; omega
  unfold halfT tkK
  rw [List.getD_eq_getElem?_getD, List.getElem?_append_right (by omega), e, Nat.sub_self, List.getElem?_drop, Nat.add_zero, ← List.getD_eq_getElem?_getD]
theorem halfT_set (z : Nat) (l : List TK) (k : Nat) (h : k < l.length) : (halfT z l k).set k (mk1T (z + ctN (l.take k)) (tkK l k)) = halfT z l (k + 1) := by
  have e : (mkT z (l.take k)).length = k := by rw [mkT_len, List.length_take]; omega
  have e2 : l.take (k + 1) = l.take k ++ [tkK l k] := by
    rw [List.take_add_one, List.getElem?_eq_getElem h]
    simp [tkK, List.getD_eq_getElem?_getD, List.getElem?_eq_getElem h]
  unfold halfT
  rw [e2, mkT_snoc, List.set_append_right _ _ (by omega), e, Nat.sub_self, List.drop_eq_getElem_cons h, List.set_cons_zero, List.append_assoc]
  rfl
theorem halfT_zero (z : Nat) (l : List TK) : halfT z l 0 = l := by simp [halfT, mkT]
theorem halfT_all (z : Nat) (l : List TK) : halfT z l l.length = mkT z l := by simp [halfT]

theorem tkK_set {l : List TK} {i j : Nat} {t : TK} (h : i < l.length) : tkK (l.set i t) j = if j = i then t else tkK l j := by
  unfold tkK
  by_cases e : j = i
  · subst e; simp [List.getD_eq_getElem?_getD, h]
  · rw [if_neg e]; simp [List.getD_eq_getElem?_getD, List.getElem?_set, Ne.symm e]

theorem tcs_cons (t : TK) (ts : List TK) (u : Value) (us : List Value) : tcs (t :: ts) (u :: us) = [.int .i64 t.kd, .int .i64 t.by_, .string t.nm, u, .bool t.sh] ++ tcs ts us := rfl

theorem tcs_set : ∀ (ts : List TK) (us : List Value) (n i : Nat) (t : TK) (x : Value), us.length = ts.length → n < ts.length → i < 5 →
    ([.int .i64 (tkK ts n).kd, .int .i64 (tkK ts n).by_, .string (tkK ts n).nm, us.getD n undef, .bool (tkK ts n).sh] : List Value).set i x = [.int .i64 t.kd, .int .i64 t.by_, .string t.nm, us.getD n undef, .bool t.sh] → (tcs ts us).set (n * 5 + i) x = tcs (ts.set n t) us
  | [], _, _, _, _, _, _, hn, _, _ => absurd hn (Nat.not_lt_zero _)
  | y :: ts, [], _, _, _, _, h, _, _, _ => by simp at h
  | y :: ts, u :: us, 0, i, t, x, h, _, hi, hs => by
    rw [List.set_cons_zero, tcs_cons, tcs_cons, List.set_append_left _ _ (by simp; omega), show 0 * 5 + i = i by omega]
    congr 1
  | y :: ts, u :: us, n + 1, i, t, x, h, hn, hi, hs => by
    have := tcs_set ts us n i t x (by simpa using h) (by simpa using hn) hi (by simpa [tkK] using hs)
    rw [List.set_cons_succ, tcs_cons, tcs_cons, List.set_append_right _ _ (by simp; omega)]
    congr 1
    rw [show (n + 1) * 5 + i - [Value.int .i64 y.kd, .int .i64 y.by_, .string y.nm, u, .bool y.sh].length = n * 5 + i by simp; omega]
    exact this

theorem rowT_set {lo g cap n i : Nat} {w : World} {ts : List TK} {us : List Value} {t : TK} {x : Value} (hl : us.length = ts.length) (h : w.ownsRow lo 101 5 (.slice (some ⟨g, 0, none⟩) ts.length cap) ts.length (tcs ts us)) (hn : n < ts.length) (hi : i < 5)
    (hs : ([.int .i64 (tkK ts n).kd, .int .i64 (tkK ts n).by_, .string (tkK ts n).nm, us.getD n undef, .bool (tkK ts n).sh] : List Value).set i x = [.int .i64 t.kd, .int .i64 t.by_, .string t.nm, us.getD n undef, .bool t.sh]) :
    (w.setCell ⟨g, n * 5 + i, none⟩ x).ownsRow lo 101 5 (.slice (some ⟨g, 0, none⟩) ts.length cap) ts.length (tcs (ts.set n t) us) := by
  rw [← tcs_set ts us n i t x hl hn hi hs]
  refine ⟨by rw [List.length_set]; exact h.1, .inr ?_⟩
  rcases h.2 with ⟨h0, _⟩ | ⟨g', cap', cur, hv, hg, hh, hc, hm, hs', ht⟩
  · cases h0
  · cases hv
    refine ⟨g, cap, cur.setIfInBounds (n * 5 + i) x, rfl, hg, ?_, hc, hm, by simpa using hs', ?_⟩
    · simp [World.setCell, Array.getElem?_modify, hh]
    · rw [← ht]
      simp [List.take_set]

theorem rowT_cell {lo g cap : Nat} {w : World} {ts : List TK} {us : List Value} (hl : us.length = ts.length) (h : w.ownsRow lo 101 5 (.slice (some ⟨g, 0, none⟩) ts.length cap) ts.length (tcs ts us)) {n i : Nat} (hn : n < ts.length) (hi : i < 5) : w.cell? ⟨g, n * 5 + i, none⟩ = ([.int .i64 (tkK ts n).kd, .int .i64 (tkK ts n).by_, .string (tkK ts n).nm, us.getD n undef, .bool (tkK ts n).sh] : List Value)[i]? ∧ w.frozen? ⟨g, n * 5 + i, none⟩ = false := by
  rcases h.2 with ⟨h0, _⟩ | ⟨g', cap', cur, hv, hg, hh, hc, hm, hs', ht⟩
  · cases h0
  · cases hv
    refine ⟨?_, Lib.frozen_of_heap hh _⟩
    rw [Lib.cell_of_heap hh, ← tcs_get ts us n i hl hn hi, ← ht, List.getElem?_take_of_lt (by omega)]
    simp

theorem TP.modify {lo n : Nat} {w w' : World} {v : Value} {ts : List TK} {us : List Value} {rs : Nat → List Value} {bl bh : Nat → Nat} {t : TK} (h : TP lo w v ts us rs bl bh) (hn : n < ts.length) (hl : t.at_.length = (tkK ts n).at_.length) (hs : w.heap.size ≤ w'.heap.size)
    (hr : w'.ownsRow lo 101 5 v ts.length (tcs (ts.set n t) us)) (ha : OA (bl n) w' (us.getD n undef) t.at_ (rs n)) (hk : ∀ k, k < w.heap.size → v.ownBlock ≠ some k → ¬ (bl n ≤ k ∧ k < bh n) → w'.heap[k]? = w.heap[k]?) : TP lo w' v (ts.set n t) us rs bl bh := by
  have len : (ts.set n t).length = ts.length := List.length_set
  have hA := h.ta
  have tk : ∀ j, tkK (ts.set n t) j = if j = n then t else tkK ts j := fun j => tkK_set hn
  refine ⟨by rw [len]; exact hr, ⟨by rw [len]; exact hA.len, hA.one, fun j hj => ?_, fun j hj => hA.low j (by omega), fun j hj => hA.mid j (by omega), fun j hj => Nat.le_trans (hA.top j (by omega)) hs, fun j hj => hA.hia j (by omega), fun j hj i hi => hA.hiu j (by omega) i ?_, fun i j hij hj => hA.ord i j hij (by omega)⟩, fun j hj => h.vt j (by omega)⟩
  · rw [len] at hj
    rw [tk]
    by_cases e : j = n
    · subst e; rw [if_pos rfl]; exact ha
    · rw [if_neg e]
      have o := hA.att j hj
      have far : ∀ k, bl j ≤ k → k < bh j → ¬ (bl n ≤ k ∧ k < bh n) := fun k h1 h2 h3 => by
        rcases Nat.lt_or_gt_of_ne e with hlt | hgt
        · have := hA.ord j n hlt hn; omega
        · have := hA.ord n j hgt hj; omega
      exact o.keepOf (fun k e1 hl' => hk k hl' (fun e2 => by have := h.vt j hj k e2; have := (o.row.lt k e1).1; have := hA.hia j hj k e1; omega) (far k (o.row.lt k e1).1 (hA.hia j hj k e1)))
        (fun i hi k e1 hl' => hk k hl' (fun e2 => by have := h.vt j hj k e2; have := o.vlo i hi k e1; have := hA.hiu j hj i hi k e1; omega) (far k (o.vlo i hi k e1) (hA.hiu j hj i hi k e1)))
  · rw [tk] at hi
    by_cases e : j = n
    · subst e; rw [if_pos rfl, hl] at hi; exact hi
    · rw [if_neg e] at hi; exact hi

def TFree (v : Value) (n : Nat) (bl bh : Nat → Nat) (k : Nat) : Prop := v.ownBlock ≠ some k ∧ ∀ j, j < n → ¬ (bl j ≤ k ∧ k < bh j)

theorem row_tsAt {w : World} {lo : Nat} {v : Value} {ts : List TK} {us : List Value} (hl : us.length = ts.length) (h : w.ownsRow lo 101 5 v ts.length (tcs ts us)) (ha : ∀ j, j < ts.length → ∃ p c, us.getD j undef = .slice p (tkK ts j).at_.length c ∧ AAt w p (tkK ts j).at_) : ∃ a c, v = .slice a ts.length c ∧ TsAt w a ts := by
  by_cases h0 : ts = []
  · subst h0
    obtain ⟨a, c, e, _⟩ := own_src h
    exact ⟨a, c, e, .inl rfl⟩
  · have hp : 0 < ts.length := List.length_pos_iff.2 h0
    rcases h.2 with ⟨rfl, h9⟩ | ⟨g, cap, cur, rfl, hg, hh, hc, hm, hs, ht⟩
    · omega
    · have glt : g < w.heap.size := Nat.lt_of_not_le fun hn => by rw [Array.getElem?_eq_none hn] at hh; cases hh
      refine ⟨_, _, rfl, .inr ⟨g, 0, rfl, glt, fun k hk => ?_⟩⟩
      have cc := fun i hi => (rowT_cell hl h hk (i := i) hi).1
      obtain ⟨p, c, e, haa⟩ := ha k hk
      simp only [Nat.zero_add]
      refine ⟨cc 0 (by omega), cc 1 (by omega), cc 2 (by omega), ⟨p, c, ?_, haa⟩, cc 4 (by omega)⟩
      rw [cc 3 (by omega), ← e]; rfl

theorem TP.tsAt {lo : Nat} {w : World} {tv : Value} {ts : List TK} {us : List Value} {rs : Nat → List Value} {bl bh : Nat → Nat} (h : TP lo w tv ts us rs bl bh) : ∃ a c, tv = .slice a ts.length c ∧ TsAt w a ts :=
  row_tsAt h.ta.len h.row (fun j hj => (h.ta.att j hj).at)

theorem tssz_at' : ∀ {l : List TK} {k : Nat}, k < l.length → tsz (tkK l k) ≤ tssz l
  | [], _, h => absurd h (Nat.not_lt_zero _)
  | x :: l, 0, _ => by simp [tkK, tssz]
  | x :: l, k + 1, h => by
    have := tssz_at' (l := l) (k := k) (by simpa using h)
    have e : tkK (x :: l) (k + 1) = tkK l k := by simp [tkK]
    rw [e]; simp only [tssz]; omega

set_option maxRecDepth 100000 in
set_option maxHeartbeats 6400000 in
theorem markTokenS_is (z lo : Nat) (v : Value) (l : List TK) (us : List Value) (rs : Nat → List Value) (bl bh : Nat → Nat) (w : World) (h : TP lo w v l us rs bl bh) (hlo : lo ≤ w.heap.size) (hz : 0 < z) (hz2 : (z : Int) ≤ 10000000) (hl : (l.length : Int) + tssz l ≤ 1048576) :
    Calls Tryz.prog 45 #[v, .int .i64 (z : Int)] w fun e w' => e = .returned (.int .i64 ((z + ctN l : Nat) : Int)) ∧ TP lo w' v (mkT z l) us rs bl bh ∧ Kp (TFree v l.length bl bh) w w' := by
  have HM := Hid.mk' h
  obtain ⟨av, cv, rfl, -⟩ := own_src h.row
  clear h
  go_enter Tryz.func45, Tryz.ntmps45
  go_wp2
  go_loopw [1, 5] (fun x i wr => ∃ k : Nat, k ≤ l.length ∧ i = .int .i64 k ∧ x = .int .i64 ((z + ctN (l.take k) : Nat) : Int) ∧ TP lo wr (.slice av l.length cv) (halfT z l k) us rs bl bh ∧ Kp (TFree (.slice av l.length cv) l.length bl bh) w wr) (fun _ i _ => l.length - (intOf i).toNat)
  case atStart => exact ⟨0, Nat.zero_le _, rfl, by simp [ctN], by rw [halfT_zero]; exact HM.out, Kp.refl _ _⟩
  case round =>
    obtain ⟨k, hk, rfl, rfl, htp, hkp⟩ := hrel
    have HK := Hid.mk' hkp
    have szr := hkp.size
    clear hkp
    by_cases hlt : k < l.length
    · have ci : (k : Int) < (l.length : Int) := by omega
      have st := ctN_take l k hlt
      have sl := ctN_le l (k + 1)
      have hln := halfT_len z l k
      have hgt := halfT_get z l k hlt
      have hst := halfT_set z l k hlt
      have vz := vsz_asz (tkK l k).at_
      have sz1 := tssz_at' hlt
      unfold tsz at sz1
      unfold ct1 at st
      obtain ⟨q, hq⟩ : ∃ q : Nat, z + ctN (l.take k) = q := ⟨_, rfl⟩
      have hq1 : z + ctN (l.take (k + 1)) = q + 1 + 1 + 1 + (tkK l k).at_.length + vsz (tkK l k).at_ + 1 := by omega
      have hq2 : q + 1 + 1 + 1 + (tkK l k).at_.length + vsz (tkK l k).at_ + 1 ≤ 20000000 := by omega
      rw [hq] at hst ⊢
      have HS := Hid.mk' hst
      have Q1 := Hid.mk' hq1
      have hlen := htp.ta.len
      rw [hln] at hlen
      obtain ⟨g, cap, ev, hg1, hg2, -, -⟩ := own_spot htp.row (by omega)
      rw [hln] at ev
      cases ev
      have T0 := Hid.mk' htp
      have at0 := htp.ta.att k (by omega)
      rw [hgt] at at0
      have R0 := htp.row
      rw [hln] at R0
      have hlh : us.length = (halfT z l k).length := by rw [hln]; exact hlen
      have R0' : wr.ownsRow lo 101 5 (.slice (some ⟨g, 0, none⟩) (halfT z l k).length cv) (halfT z l k).length (tcs (halfT z l k) us) := by rw [hln]; exact R0
      have cc := fun i (hi : i < 5) => rowT_cell hlh R0' (n := k) (by omega) hi
      rw [hgt] at cc
      obtain ⟨c0, f0⟩ := cc 0 (by omega)
      obtain ⟨c1, f1⟩ := cc 1 (by omega)
      obtain ⟨c2, f2⟩ := cc 2 (by omega)
      obtain ⟨c3, f3⟩ := cc 3 (by omega)
      obtain ⟨c4, f4⟩ := cc 4 (by omega)
      rw [Nat.add_zero] at c0 f0
      replace c0 : wr.cell? ⟨g, k * 5, none⟩ = some (.int .i64 (tkK l k).kd) := c0
      replace c1 : wr.cell? ⟨g, k * 5 + 1, none⟩ = some (.int .i64 (tkK l k).by_) := c1
      have klen : k < (halfT z l k).length := by omega
      have R1 := rowT_set (t := ⟨(q : Int), (tkK l k).by_, (tkK l k).nm, (tkK l k).at_, (tkK l k).sh⟩) (n := k) (i := 0) (x := .int .i64 (q : Int)) hlh R0' klen (by omega) (by rw [hgt]; rfl)
      have l1 : ((halfT z l k).set k ⟨(q : Int), (tkK l k).by_, (tkK l k).nm, (tkK l k).at_, (tkK l k).sh⟩).length = (halfT z l k).length := List.length_set
      have R2 := rowT_set (t := ⟨(q : Int), (q : Int) + 1, (tkK l k).nm, (tkK l k).at_, (tkK l k).sh⟩) (n := k) (i := 1) (x := .int .i64 ((q : Int) + 1)) (by rw [l1]; exact hlh) (by rw [l1]; exact R1) (by omega) (by omega) (by rw [tkK_set klen, if_pos rfl]; rfl)
      rw [l1, List.set_set, hln, Nat.add_zero] at R2
      have K2 : Kp (fun j => j ≠ g) wr ((wr.setCell ⟨g, k * 5, none⟩ (.int .i64 (q : Int))).setCell ⟨g, k * 5 + 1, none⟩ (.int .i64 ((q : Int) + 1))) := ((Kp.refl _ _).setCell (q := ⟨g, k * 5, none⟩) (fun e => e rfl) _).setCell (q := ⟨g, k * 5 + 1, none⟩) (fun e => e rfl) _
      have KT := Hid.mk' (markText_is (q + 1 + 1) ((wr.setCell ⟨g, k * 5, none⟩ (.int .i64 (q : Int))).setCell ⟨g, k * 5 + 1, none⟩ (.int .i64 ((q : Int) + 1))) (by omega) (by omega))
      have HR := Hid.mk' R2
      have HK2 := Hid.mk' K2
      have A0 := Hid.mk' at0
      have HLH := Hid.mk' hlen
      have S1 : Hid (((wr.setCell ⟨g, k * 5, none⟩ (.int .i64 (q : Int))).setCell ⟨g, k * 5 + 1, none⟩ (.int .i64 ((q : Int) + 1))).heap.size = wr.heap.size) := Hid.mk' (by simp [World.setCell])
      have bk := T0.out.ta.low k (by omega)
      have bt := T0.out.ta.top k (by omega)
      have bm := T0.out.ta.mid k (by omega)
      have VG := Hid.mk' (T0.out.vt k (by omega) g rfl)
      have HIA := Hid.mk' (T0.out.ta.hia k (by omega))
      have HIU : Hid (∀ i, i < (tkK l k).at_.length → ∀ j, ((rs k).getD i undef).ownBlock = some j → j < bh k) := Hid.mk' (fun i hi => T0.out.ta.hiu k (by omega) i (by rw [hgt]; exact hi))
      clear st sl hq hq1 htp cc R0 R0' R1 R2 K2 at0 hst c2 f2 c3 f3 c4 f4 hlen hlh l1
      generalize hV : (wr.setCell ⟨g, k * 5, none⟩ (.int .i64 (q : Int))).setCell ⟨g, k * 5 + 1, none⟩ (.int .i64 ((q : Int) + 1)) = V at *
      go_wp2_with fail
      clear hV c0 f0 c1 f1
      refine KT.out.mono ?_
      rintro e w1 ⟨rfl, hb⟩
      have R1 := own_keep HR.out hb
      have K1 : Kp (fun j => j ≠ g) wr w1 := HK2.out.trans (Kp.of_below hb)
      have ln2 : ((halfT z l k).set k ⟨(q : Int), (q : Int) + 1, (tkK l k).nm, (tkK l k).at_, (tkK l k).sh⟩).length = l.length := by rw [List.length_set]; exact hln
      have lh2 : us.length = ((halfT z l k).set k ⟨(q : Int), (q : Int) + 1, (tkK l k).nm, (tkK l k).at_, (tkK l k).sh⟩).length := by rw [ln2]; exact HLH.out
      have R1' : w1.ownsRow lo 101 5 (.slice (some ⟨g, 0, none⟩) ((halfT z l k).set k ⟨(q : Int), (q : Int) + 1, (tkK l k).nm, (tkK l k).at_, (tkK l k).sh⟩).length cv) ((halfT z l k).set k ⟨(q : Int), (q : Int) + 1, (tkK l k).nm, (tkK l k).at_, (tkK l k).sh⟩).length (tcs ((halfT z l k).set k ⟨(q : Int), (q : Int) + 1, (tkK l k).nm, (tkK l k).at_, (tkK l k).sh⟩) us) := by rw [ln2]; exact R1
      obtain ⟨c2, f2⟩ := rowT_cell lh2 R1' (n := k) (i := 2) (by omega) (by omega)
      replace c2 : w1.cell? ⟨g, k * 5 + 2, none⟩ = some (.string (tkK l k).nm) := by rw [c2, tkK_set klen, if_pos rfl]; rfl
      have R3 := rowT_set (t := ⟨(q : Int), (q : Int) + 1, mtx (q + 1 + 1), (tkK l k).at_, (tkK l k).sh⟩) (n := k) (i := 2) (x := .string (mtx (q + 1 + 1))) lh2 R1' (by omega) (by omega) (by rw [tkK_set klen, if_pos rfl]; rfl)
      rw [ln2, List.set_set] at R3
      have K3 : Kp (fun j => j ≠ g) wr (w1.setCell ⟨g, k * 5 + 2, none⟩ (.string (mtx (q + 1 + 1)))) := K1.setCell (q := ⟨g, k * 5 + 2, none⟩) (fun e => e rfl) _
      have A3 := A0.out.keepOf (w' := w1.setCell ⟨g, k * 5 + 2, none⟩ (.string (mtx (q + 1 + 1)))) (fun j e hl' => K3.block j hl' (fun e2 => by subst e2; have := (A0.out.row.lt j e).1; have := HIA.out j e; have := VG.out; omega)) (fun i hi j e hl' => K3.block j hl' (fun e2 => by subst e2; have := A0.out.vlo i hi j e; have := HIU.out i hi j e; have := VG.out; omega))
      obtain ⟨pa, ca, ea, -⟩ := A3.at
      have ln3 : ((halfT z l k).set k ⟨(q : Int), (q : Int) + 1, mtx (q + 1 + 1), (tkK l k).at_, (tkK l k).sh⟩).length = l.length := by rw [List.length_set]; exact hln
      have lh3 : us.length = ((halfT z l k).set k ⟨(q : Int), (q : Int) + 1, mtx (q + 1 + 1), (tkK l k).at_, (tkK l k).sh⟩).length := by rw [ln3]; exact HLH.out
      have R3' : (w1.setCell ⟨g, k * 5 + 2, none⟩ (.string (mtx (q + 1 + 1)))).ownsRow lo 101 5 (.slice (some ⟨g, 0, none⟩) ((halfT z l k).set k ⟨(q : Int), (q : Int) + 1, mtx (q + 1 + 1), (tkK l k).at_, (tkK l k).sh⟩).length cv) ((halfT z l k).set k ⟨(q : Int), (q : Int) + 1, mtx (q + 1 + 1), (tkK l k).at_, (tkK l k).sh⟩).length (tcs ((halfT z l k).set k ⟨(q : Int), (q : Int) + 1, mtx (q + 1 + 1), (tkK l k).at_, (tkK l k).sh⟩) us) := by rw [ln3]; exact R3
      have d3 : (w1.setCell ⟨g, k * 5 + 2, none⟩ (.string (mtx (q + 1 + 1)))).cell? ⟨g, k * 5 + 3, none⟩ = some (.slice pa (tkK l k).at_.length ca) := by
        have := (rowT_cell lh3 R3' (n := k) (i := 3) (by omega) (by omega)).1
        rw [this, ← ea]; rfl
      have s2 : (w1.setCell ⟨g, k * 5 + 2, none⟩ (.string (mtx (q + 1 + 1)))).heap.size = w1.heap.size := by simp [World.setCell]
      have sb := hb.size
      have S1o := S1.out
      have KA := markAttrS_is (q + 1 + 1 + 1) (bl k) (us.getD k undef) (tkK l k).at_ (rs k) _ A3 (by omega) (by omega) (by omega) (by omega)
      rw [ea] at KA
      have KA := Hid.mk' KA
      have EA := Hid.mk' ea
      have HR := Hid.mk' R3
      have HK3 := Hid.mk' K3
      have S3 : Hid (wr.heap.size ≤ w1.heap.size) := Hid.mk' (by omega)
      clear hb KT R1 R1' R3 R3' K1 K3 ea A3 HK2 sb s2 A0 S1o
      generalize hV : w1.setCell ⟨g, k * 5 + 2, none⟩ (.string (mtx (q + 1 + 1))) = V3 at *
      go_wp2_with fail
      clear hV c2 f2
      refine KA.out.mono ?_
      rintro e w2 ⟨rfl, hoa, hkk⟩
      rw [← EA.out] at hoa hkk
      have AT := T0.out.ta.att k (by omega)
      rw [hgt] at AT
      have hk3 : Kp (fun j => ¬ (bl k ≤ j ∧ j < bh k)) V3 w2 := hkk.mono (fun j e => ⟨fun e2 => e ⟨(AT.row.lt j e2).1, HIA.out j e2⟩, fun i hi e2 => e ⟨AT.vlo i hi j e2, HIU.out i hi j e2⟩⟩)
      have R4 := own_of HR.out (Nat.le_refl _) (fun j e _ => hk3.block j (HR.out.lt j e).2 (fun h2 => by
        have ej : g = j := by simpa [Value.ownBlock] using e
        subst ej
        have := VG.out; omega))
      have R4' : w2.ownsRow lo 101 5 (.slice (some ⟨g, 0, none⟩) ((halfT z l k).set k ⟨(q : Int), (q : Int) + 1, mtx (q + 1 + 1), (tkK l k).at_, (tkK l k).sh⟩).length cv) ((halfT z l k).set k ⟨(q : Int), (q : Int) + 1, mtx (q + 1 + 1), (tkK l k).at_, (tkK l k).sh⟩).length (tcs ((halfT z l k).set k ⟨(q : Int), (q : Int) + 1, mtx (q + 1 + 1), (tkK l k).at_, (tkK l k).sh⟩) us) := by rw [ln3]; exact R4
      obtain ⟨c4, f4⟩ := rowT_cell lh3 R4' (n := k) (i := 4) (by omega) (by omega)
      replace c4 : w2.cell? ⟨g, k * 5 + 4, none⟩ = some (.bool (tkK l k).sh) := by rw [c4, tkK_set klen, if_pos rfl]; rfl
      obtain ⟨q2, hq3⟩ : ∃ q2 : Nat, q + 1 + 1 + 1 + (tkK l k).at_.length + vsz (tkK l k).at_ = q2 := ⟨_, rfl⟩
      have R5 := rowT_set (t := mk1T q (tkK l k)) (n := k) (i := 4) (x := .bool (((q2 : Nat) : Int) % 3 == 0)) lh3 R4' (by omega) (by omega) (by rw [tkK_set klen, if_pos rfl, ← hq3]; rfl)
      rw [ln3, List.set_set] at R5
      have K5 : Kp (fun j => j ≠ g ∧ ¬ (bl k ≤ j ∧ j < bh k)) wr (w2.setCell ⟨g, k * 5 + 4, none⟩ (.bool (((q2 : Nat) : Int) % 3 == 0))) := ((HK3.out.mono (fun j e => e.1)).trans (hk3.mono (fun j e => e.2))).setCell (q := ⟨g, k * 5 + 4, none⟩) (fun e => e.1 rfl) _
      have KX : Kp (fun j => j ≠ g) w2 (w2.setCell ⟨g, k * 5 + 4, none⟩ (.bool (((q2 : Nat) : Int) % 3 == 0))) := (Kp.refl _ _).setCell (q := ⟨g, k * 5 + 4, none⟩) (fun e => e rfl) _
      have A5 := hoa.keepOf (w' := w2.setCell ⟨g, k * 5 + 4, none⟩ (.bool (((q2 : Nat) : Int) % 3 == 0))) (fun j e hl' => KX.block j hl' (fun e2 => by subst e2; have := (hoa.row.lt j e).1; have := HIA.out j e; have := VG.out; omega)) (fun i hi j e hl' => KX.block j hl' (fun e2 => by subst e2; have := hoa.vlo i hi j e; rw [mkA_len] at hi; have := HIU.out i hi j e; have := VG.out; omega))
      have N5 : TP lo (w2.setCell ⟨g, k * 5 + 4, none⟩ (.bool (((q2 : Nat) : Int) % 3 == 0))) (.slice (some ⟨g, 0, none⟩) l.length cv) (halfT z l (k + 1)) us rs bl bh := by
        have := T0.out.modify (n := k) (t := mk1T q (tkK l k)) (w' := w2.setCell ⟨g, k * 5 + 4, none⟩ (.bool (((q2 : Nat) : Int) % 3 == 0))) (by omega) (by rw [hgt]; exact mkA_len _ _) K5.size (by rw [hln]; exact R5) A5 (fun j hj h1 h2 => K5.block j hj ⟨fun e => h1 (by rw [e]; rfl), h2⟩)
        rw [HS.out] at this
        exact this
      have N5 := Hid.mk' N5
      have K6 := Hid.mk' (HK.out.trans (K5.mono (fun j e => ⟨fun e2 => e.1 (by rw [e2]; rfl), e.2 k hlt⟩)))
      have EZ : Hid ((q2 : Int) + 1 = ((z + ctN (l.take (k + 1)) : Nat) : Int)) := Hid.mk' (by rw [Q1.out]; omega)
      have ez : ((q + 1 + 1 + 1 : Nat) : Int) + ((tkK l k).at_.length : Int) + (vsz (tkK l k).at_ : Int) = (q2 : Int) := by omega
      rw [ez]
      have q2b : q2 ≤ 20000000 := by omega
      clear hkk hoa hk3 R4 R4' R5 K5 KX A5 AT KA HK3 HR ez hq3
      go_wp2
      go_roundw
      case rel => exact ⟨k + 1, by omega, by go_num, by rw [← EZ.out], N5.out, K6.out⟩
      case measure => simp [intOf]; omega
    · have ci : ¬ (k : Int) < (l.length : Int) := by omega
      have e : k = l.length := by omega
      subst e
      rw [halfT_all] at htp
      have HO := Hid.mk' htp
      clear htp
      rw [List.take_length]
      go_wp2
      go_ret
      exact ⟨rfl, HO.out, HK.out⟩

end Go.Proofs.YtdloogkjnjklcaaGreatDoor
