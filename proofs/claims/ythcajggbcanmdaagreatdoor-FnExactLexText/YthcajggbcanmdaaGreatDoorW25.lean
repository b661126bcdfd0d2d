/- The model's side of a tree's fault: what a node is in, how deep it is, what it is. -/
import Derived.Test.YthcajggbcanmdaaGreatDoorW24
import Derived.BigGuard
import Derived.Test.YthcajggbcanmdaaGreatDoorW9
import Derived.Test.YthcajggbcanmdaaGreatDoorW14
import Derived.Test.YthcajggbcanmdaaGreatDoorW23
set_option linter.unusedVariables false
set_option linter.unusedSimpArgs false
namespace Go.Proofs.YthcajggbcanmdaaGreatDoor
open Go.RowKit

end Go.Proofs.YthcajggbcanmdaaGreatDoor

namespace Go.Proofs.YthcajggbcanmdaaGreatDoor
open Go.RowKit

end Go.Proofs.YthcajggbcanmdaaGreatDoor

namespace Go.Proofs.YthcajggbcanmdaaGreatDoor
open Go.RowKit

end Go.Proofs.YthcajggbcanmdaaGreatDoor

namespace Go.Proofs.YthcajggbcanmdaaGreatDoor
open Go.RowKit

end Go.Proofs.YthcajggbcanmdaaGreatDoor

namespace Go.Proofs.YthcajggbcanmdaaGreatDoor
open Go.RowKit

theorem own_spot {w : World} {base : Nat} {e : TypeId} {size : Nat} {v : Value} {n : Nat} {xs : List Value} (h : w.ownsRow base e size v n xs) (hn : 0 < n) : ∃ g cap, v = .slice (some ⟨g, 0, none⟩) n cap ∧ base ≤ g ∧ g < w.heap.size ∧ n ≤ cap ∧ ∀ i, i < n * size → w.cell? ⟨g, i, none⟩ = xs[i]? := by
  rcases h.2 with ⟨rfl, h0⟩ | ⟨g, cap, cur, rfl, hg, hh, hc, hm, hs, ht⟩
  · omega
  · refine ⟨g, cap, rfl, hg, ?_, hc, fun i hi => ?_⟩
    · exact Nat.lt_of_not_le fun hn => by rw [Array.getElem?_eq_none hn] at hh; cases hh
    · have q : w.cell? ⟨g, i, none⟩ = cur[i]? := Lib.cell_of_heap hh i
      rw [q, ← ht, List.getElem?_take_of_lt hi]
      simp

end Go.Proofs.YthcajggbcanmdaaGreatDoor

namespace Go.Proofs.YthcajggbcanmdaaGreatDoor
open Go.RowKit

end Go.Proofs.YthcajggbcanmdaaGreatDoor

namespace Go.Proofs.YthcajggbcanmdaaGreatDoor
open Go.RowKit

end Go.Proofs.YthcajggbcanmdaaGreatDoor

namespace Go.Proofs.YthcajggbcanmdaaGreatDoor
open Go.RowKit

end Go.Proofs.YthcajggbcanmdaaGreatDoor

namespace Go.Proofs.YthcajggbcanmdaaGreatDoor
open Go.RowKit

end Go.Proofs.YthcajggbcanmdaaGreatDoor

namespace Go.Proofs.YthcajggbcanmdaaGreatDoor
open Go.RowKit

end Go.Proofs.YthcajggbcanmdaaGreatDoor

namespace Go.Proofs.YthcajggbcanmdaaGreatDoor
open Go.RowKit

end Go.Proofs.YthcajggbcanmdaaGreatDoor

namespace Go.Proofs.YthcajggbcanmdaaGreatDoor
open Go.RowKit

end Go.Proofs.YthcajggbcanmdaaGreatDoor

namespace Go.Proofs.YthcajggbcanmdaaGreatDoor
end Go.Proofs.YthcajggbcanmdaaGreatDoor

namespace Go.Proofs.YthcajggbcanmdaaGreatDoor
open Go.RowKit

structure Kp (p : Nat → Prop) (w w' : World) : Prop where
  os : w'.os = w.os
  tape : w'.tape = w.tape
  output : w'.output = w.output
  size : w.heap.size ≤ w'.heap.size
  block : ∀ k, k < w.heap.size → p k → w'.heap[k]? = w.heap[k]?

theorem Kp.refl (p : Nat → Prop) (w : World) : Kp p w w := ⟨rfl, rfl, rfl, Nat.le_refl _, fun _ _ _ => rfl⟩
theorem Kp.trans {p : Nat → Prop} {a b c : World} (h : Kp p a b) (k : Kp p b c) : Kp p a c :=
  ⟨k.os.trans h.os, k.tape.trans h.tape, k.output.trans h.output, Nat.le_trans h.size k.size, fun i hi hp => (k.block i (Nat.lt_of_lt_of_le hi h.size) hp).trans (h.block i hi hp)⟩
theorem Kp.mono {p q : Nat → Prop} {a b : World} (h : Kp p a b) (hq : ∀ k, q k → p k) : Kp q a b := ⟨h.os, h.tape, h.output, h.size, fun k hk e => h.block k hk (hq k e)⟩
theorem Kp.of_below {p : Nat → Prop} {a b : World} (h : Below a.heap.size a b) : Kp p a b := ⟨h.os, h.tape, h.output, h.size, fun k hk _ => h.block k hk⟩
theorem Kp.of_turned {p : Nat → Prop} {v : Value} {a b : World} (h : Turned v a b) (hp : ∀ k, p k → v.ownBlock ≠ some k) : Kp p a b := ⟨h.os, h.tape, h.output, h.size, fun k hk e => h.block k hk (hp k e)⟩
theorem Kp.setCell {p : Nat → Prop} {a w : World} (h : Kp p a w) {q : Addr} (hq : ¬ p q.block) (u : Value) : Kp p a (w.setCell q u) :=
  h.trans ⟨rfl, rfl, rfl, by simp [World.setCell], fun k hk e => Below.heap_setCell _ _ _ _ (fun e' => hq (e' ▸ e))⟩
theorem Kp.keptIn {p : Nat → Prop} {lo hi : Nat} {a b : World} (h : Kp p a b) (hp : ∀ k, k < lo ∨ hi ≤ k → p k) : KeptIn lo hi a b := ⟨h.os, h.tape, h.output, h.size, fun k hk e => h.block k hk (hp k e)⟩

theorem OA.keepOf {lo : Nat} {w w' : World} {v : Value} {l : List AT} {us : List Value} (h : OA lo w v l us) (hv : ∀ k, v.ownBlock = some k → k < w.heap.size → w'.heap[k]? = w.heap[k]?) (hu : ∀ i, i < l.length → ∀ k, (us.getD i undef).ownBlock = some k → k < w.heap.size → w'.heap[k]? = w.heap[k]?) : OA lo w' v l us :=
  ⟨h.len, own_of h.row (Nat.le_refl _) (fun k e _ => hv k e (h.row.lt k e).2), fun j hj => (h.val j hj).keep (fun k e hl => hu j hj k e hl), h.vlo, h.ap, h.av⟩

end Go.Proofs.YthcajggbcanmdaaGreatDoor

namespace Go.Proofs.YthcajggbcanmdaaGreatDoor
open Go.RowKit

def dgs : Nat → Nat → ByteArray → ByteArray
  | 0, _, s => s
  | f + 1, m, s => if m = 0 then s else dgs f (m / 10) (strI [48 + (m : Int) % 10] ++ s)
theorem dgs_zero (f : Nat) (s : ByteArray) : dgs f 0 s = s := by cases f <;> simp [dgs]
theorem dgs_step (f m : Nat) (s : ByteArray) (h : 0 < m) (hf : m ≤ f) : ∃ f', m / 10 ≤ f' ∧ dgs f m s = dgs f' (m / 10) (strI [48 + (m : Int) % 10] ++ s) := by
  cases f with
  | zero => omega
  | succ f => exact ⟨f, by omega, by simp [dgs]; omega⟩
def mtx (k : Nat) : ByteArray := ⟨#[109]⟩ ++ dgs k k ⟨#[]⟩

set_option maxHeartbeats 1600000 in
theorem markText_is (k : Nat) (w : World) (h0 : 0 < k) (hk : k ≤ 100000000) :
    Calls Tryz.prog 50 #[.int .i64 k] w fun e w' => e = .returned (.string (mtx k)) ∧ Below w.heap.size w w' := by
  have k0 : ¬ (k : Int) ≤ 0 := by omega
  go_enter Tryz.func50, Tryz.ntmps50
  go_wp2
  go_loopw [0, 3] (fun x o wr => ∃ (m f : Nat) (s : ByteArray), x = .int .i64 m ∧ m ≤ 100000000 ∧ o = .string s ∧ s.size + m ≤ 100000001 ∧ m ≤ f ∧ dgs f m s = dgs k k ⟨#[]⟩ ∧ Below w.heap.size w wr) (fun x _ _ => (intOf x).toNat)
  case atStart => exact ⟨k, k, ⟨#[]⟩, rfl, hk, rfl, by have : (⟨#[]⟩ : ByteArray).size = 0 := rfl; omega, Nat.le_refl _, rfl, Below.refl _ _⟩
  case round =>
    obtain ⟨m, f, s, rfl, hm, rfl, hs, hf, hd, hbl⟩ := hrel
    have HB := Hid.mk' hbl
    have HD := Hid.mk' hd
    clear hbl hd
    by_cases hz : 0 < m
    · have ci : (m : Int) > 0 := by omega
      have hcv := conv_one wr
      have hst := strI_one (48 + (m : Int) % 10)
      obtain ⟨f', hf', hd'⟩ := dgs_step f m s hz hf
      have HD' := Hid.mk' hd'
      clear hd'
      go_wp2
      go_roundw
      case rel => exact ⟨m / 10, f', _, by go_num, by omega, rfl, by rw [ByteArray.size_append, hst]; omega, hf', by rw [← HD.out, HD'.out], HB.out.alloc HB.out.size _⟩
      case measure => simp [intOf]; omega
    · have ci : ¬ (m : Int) > 0 := by omega
      have em : m = 0 := by omega
      subst em
      have E : Hid (⟨#[109]⟩ ++ s = mtx k) := Hid.mk' (by unfold mtx; rw [← HD.out, dgs_zero])
      go_wp2
      go_ret
      exact ⟨by rw [← E.out]; rfl, HB.out⟩

def mkA : Nat → List AT → List AT
  | _, [] => []
  | k, a :: l => ⟨mtx k, mb (k + 1) a.vl.length⟩ :: mkA (k + 1 + a.vl.length) l
theorem mkA_len : ∀ (k : Nat) (l : List AT), (mkA k l).length = l.length
  | _, [] => rfl
  | k, a :: l => by simp [mkA, mkA_len]
theorem mkA_snoc : ∀ (k : Nat) (l : List AT) (a : AT), mkA k (l ++ [a]) = mkA k l ++ [⟨mtx (k + l.length + vsz l), mb (k + l.length + vsz l + 1) a.vl.length⟩]
  | k, [], a => by simp [mkA, vsz]
  | k, b :: l, a => by
    simp only [List.cons_append, mkA, mkA_snoc (k + 1 + b.vl.length) l a, List.length_cons, vsz]
    rw [show k + 1 + b.vl.length + l.length + vsz l = k + (l.length + 1) + (b.vl.length + vsz l) from by omega]
theorem mkA_get {k : Nat} {l : List AT} {i : Nat} (h : i < l.length) : atK (mkA k l) i = ⟨mtx (k + i + vsz (l.take i)), mb (k + i + vsz (l.take i) + 1) (atK l i).vl.length⟩ := by
  induction l generalizing k i with
  | nil => exact absurd h (Nat.not_lt_zero _)
  | cons b l ih =>
    cases i with
    | zero => simp [mkA, atK, vsz]
    | succ i =>
      have := ih (k := k + 1 + b.vl.length) (i := i) (by simpa using h)
      have e1 : atK (mkA k (b :: l)) (i + 1) = atK (mkA (k + 1 + b.vl.length) l) i := by simp [mkA, atK]
      have e2 : atK (b :: l) (i + 1) = atK l i := by simp [atK]
      rw [e1, this, e2]
      simp only [List.take_succ_cons, vsz]
      rw [show k + 1 + b.vl.length + i + vsz (l.take i) = k + (i + 1) + (b.vl.length + vsz (l.take i)) from by omega]

theorem acs_set : ∀ (l : List AT) (us : List Value) (i : Nat) (a : AT), us.length = l.length → i < l.length → acs (l.set i a) us = (acs l us).set (i * 2) (.string a.nm)
  | [], us, i, a, _, h => absurd h (Nat.not_lt_zero _)
  | b :: l, [], i, a, h, _ => by simp at h
  | b :: l, u :: us, 0, a, h, _ => by simp [acs]
  | b :: l, u :: us, i + 1, a, h, hi => by
    have := acs_set l us i a (by simpa using h) (by simpa using hi)
    rw [show (i + 1) * 2 = i * 2 + 1 + 1 from by omega]
    simp [acs, this]

theorem own_cell {w : World} {base g n cap : Nat} {e : TypeId} {xs : List Value} (h : w.ownsRow base e 2 (.slice (some ⟨g, 0, none⟩) n cap) n xs) (j : Nat) (hj : j < n * 2) (x : Value) : (w.setCell ⟨g, j, none⟩ x).ownsRow base e 2 (.slice (some ⟨g, 0, none⟩) n cap) n (xs.set j x) := by
  refine ⟨by rw [List.length_set]; exact h.1, .inr ?_⟩
  rcases h.2 with ⟨h0, _⟩ | ⟨g', cap', cur, hv, hg, hh, hc, hm, hs, ht⟩
  · cases h0
  · cases hv
    refine ⟨g, cap, cur.setIfInBounds j x, rfl, hg, ?_, hc, hm, by simpa using hs, ?_⟩
    · simp [World.setCell, Array.getElem?_modify, hh]
    · rw [← ht]
      simp [List.take_set]

theorem set_get (l : List AT) (i j : Nat) (a : AT) (h : i < l.length) : atK (l.set i a) j = if j = i then a else atK l j := by
  unfold atK
  by_cases e : j = i
  · subst e; simp [List.getD_eq_getElem?_getD, h]
  · rw [if_neg e]; simp [List.getD_eq_getElem?_getD, List.getElem?_set, Ne.symm e]

theorem OA.name {lo g cap : Nat} {w : World} {l : List AT} {us : List Value} (h : OA lo w (.slice (some ⟨g, 0, none⟩) l.length cap) l us) (i : Nat) (hi : i < l.length) (s : ByteArray) : OA lo (w.setCell ⟨g, i * 2, none⟩ (.string s)) (.slice (some ⟨g, 0, none⟩) l.length cap) (l.set i ⟨s, (atK l i).vl⟩) us := by
  have hg : ∀ j, j < l.length → ∀ k, (us.getD j undef).ownBlock = some k → k ≠ g := fun j hj k e ek => h.av j hj k (by rw [ek]; rfl) e
  refine ⟨by rw [List.length_set]; exact h.len, ?_, fun j hj => ?_, fun j hj => h.vlo j (by simpa using hj), fun a b hab hb => h.ap a b hab (by simpa using hb), fun j hj => h.av j (by simpa using hj)⟩
  · rw [acs_set l us i _ h.len hi, List.length_set]
    exact own_cell h.row (i * 2) (by omega) _
  · rw [List.length_set] at hj
    rw [set_get l i j _ hi]
    have : OB (w.setCell ⟨g, i * 2, none⟩ (.string s)) (us.getD j undef) (atK l j).vl := (h.val j hj).keep (fun k e _ => Deep.blk_setCell_other _ _ _ _ (hg j hj k e))
    by_cases e : j = i
    · subst e; rw [if_pos rfl]; exact this
    · rw [if_neg e]; exact this

theorem set_same {α : Type} : ∀ (l : List α) (i : Nat) (x : α), l[i]? = some x → l.set i x = l
  | [], i, x, h => by simp at h
  | a :: l, 0, x, h => by simp at h; simp [h]
  | a :: l, i + 1, x, h => by simp at h; simp [set_same l i x h]

theorem OA.value {lo : Nat} {w w' : World} {v : Value} {l : List AT} {us : List Value} (h : OA lo w v l us) (i : Nat) (hi : i < l.length) (m : List Int) (ho : OB w' (us.getD i undef) m) (ht : Turned (us.getD i undef) w w') : OA lo w' v (l.set i ⟨(atK l i).nm, m⟩) us := by
  have hb : ∀ k, k < w.heap.size → (us.getD i undef).ownBlock ≠ some k → w'.heap[k]? = w.heap[k]? := fun k hk hn => ht.block k hk hn
  have nms : acs (l.set i ⟨(atK l i).nm, m⟩) us = acs l us := by
    rw [acs_set l us i _ h.len hi]
    have := (acs_get l us i h.len hi).1
    exact set_same _ _ _ this
  refine ⟨by rw [List.length_set]; exact h.len, ?_, fun j hj => ?_, fun j hj => h.vlo j (by simpa using hj), fun a b hab hb' => h.ap a b hab (by simpa using hb'), fun j hj => h.av j (by simpa using hj)⟩
  · rw [nms, List.length_set]
    exact own_of h.row (Nat.le_refl _) (fun k e _ => hb k (h.row.lt k e).2 (fun e2 => h.av i hi k e e2))
  · rw [List.length_set] at hj
    rw [set_get l i j _ hi]
    by_cases e : j = i
    · subst e; rw [if_pos rfl]; exact ho
    · rw [if_neg e]
      refine (h.val j hj).keep (fun k e1 hl => hb k hl (fun e2 => ?_))
      rcases Nat.lt_or_gt_of_ne e with hlt | hgt
      · exact h.ap j i hlt hi k e1 e2
      · exact h.ap i j hgt hj k e2 e1

theorem OA.spot {lo : Nat} {w : World} {v : Value} {l : List AT} {us : List Value} (h : OA lo w v l us) (hl : 0 < l.length) : ∃ g cap, v = .slice (some ⟨g, 0, none⟩) l.length cap ∧ lo ≤ g ∧ g < w.heap.size ∧ ∀ k, k < l.length → w.cell? ⟨g, k * 2, none⟩ = some (.string (atK l k).nm) ∧ w.cell? ⟨g, k * 2 + 1, none⟩ = some (us.getD k undef) ∧ w.frozen? ⟨g, k * 2, none⟩ = false := by
  rcases h.row.2 with ⟨rfl, h0⟩ | ⟨g, cap, cur, rfl, hg, hh, hc, hm, hs, ht⟩
  · omega
  · refine ⟨g, cap, rfl, hg, ?_, fun k hk => ?_⟩
    · exact Nat.lt_of_not_le fun hn => by rw [Array.getElem?_eq_none hn] at hh; cases hh
    · obtain ⟨h1, h2⟩ := acs_get l us k h.len hk
      rw [← ht] at h1 h2
      rw [List.getElem?_take_of_lt (by omega)] at h1 h2
      have q : ∀ i, w.cell? ⟨g, i, none⟩ = cur[i]? := fun i => Lib.cell_of_heap hh i
      exact ⟨by rw [q, ← h1]; simp, by rw [q, ← h2]; simp, Lib.frozen_of_heap hh _⟩

def half (z : Nat) (l : List AT) (k : Nat) : List AT := mkA z (l.take k) ++ l.drop k
theorem half_len (z : Nat) (l : List AT) (k : Nat) : (half z l k).length = l.length := by simp [half, mkA_len]; omega
theorem half_get (z : Nat) (l : List AT) (k : Nat) (h : k < l.length) : atK (half z l k) k = atK l k := by
  have e : (mkA z (l.take k)).length = k := by rw [mkA_len, List.length_take]; omega
  unfold half atK
  rw [List.getD_eq_getElem?_getD, List.getElem?_append_right (by omega), e, Nat.sub_self, List.getElem?_drop, Nat.add_zero, ← List.getD_eq_getElem?_getD]
theorem half_set (z : Nat) (l : List AT) (k : Nat) (h : k < l.length) : (half z l k).set k ⟨mtx (z + k + vsz (l.take k)), mb (z + k + vsz (l.take k) + 1) (atK l k).vl.length⟩ = half z l (k + 1) := by
  have e : (mkA z (l.take k)).length = k := by rw [mkA_len, List.length_take]; omega
  have e2 : l.take (k + 1) = l.take k ++ [atK l k] := by
    rw [List.take_add_one, List.getElem?_eq_getElem h]
    simp [atK, List.getD_eq_getElem?_getD, List.getElem?_eq_getElem h]
  have e3 : (l.take k).length = k := by rw [List.length_take]; omega
  unfold half
  rw [e2, mkA_snoc, e3, List.set_append_right _ _ (by omega), e, Nat.sub_self, List.drop_eq_getElem_cons h, List.set_cons_zero, List.append_assoc]
  rfl

def AFree (v : Value) (us : List Value) (n j : Nat) : Prop := v.ownBlock ≠ some j ∧ ∀ i, i < n → (us.getD i undef).ownBlock ≠ some j

set_option maxHeartbeats 3200000 in
theorem markAttrS_is (z lo : Nat) (v : Value) (l : List AT) (us : List Value) (w : World) (h : OA lo w v l us) (hlo : lo ≤ w.heap.size) (hz : 0 < z) (hz2 : (z : Int) ≤ 90000000) (hl : (l.length : Int) + asz l ≤ 2000000) :
    Calls Tryz.prog 51 #[v, .int .i64 (z : Int)] w fun e w' => e = .returned (.int .i64 ((z : Int) + (l.length : Int) + (vsz l : Int))) ∧ OA lo w' v (mkA z l) us ∧ Kp (AFree v us l.length) w w' := by
  have HM := Hid.mk' h
  obtain ⟨av, cv, rfl, _⟩ := h.at
  clear h
  go_enter Tryz.func51, Tryz.ntmps51
  go_wp2
  go_loopw [1, 5] (fun x i wr => ∃ k : Nat, k ≤ l.length ∧ i = .int .i64 k ∧ x = .int .i64 ((z + k + vsz (l.take k) : Nat) : Int) ∧ OA lo wr (.slice av l.length cv) (half z l k) us ∧ Kp (AFree (.slice av l.length cv) us l.length) w wr) (fun _ i _ => l.length - (intOf i).toNat)
  case atStart => exact ⟨0, Nat.zero_le _, rfl, by simp [vsz], by simpa [half, mkA] using HM.out, Kp.refl _ _⟩
  case round =>
    obtain ⟨k, hk, rfl, rfl, hoa, hbl⟩ := hrel
    have HR := Hid.mk' hoa
    have HB := Hid.mk' hbl
    have szr := hbl.size
    clear hbl
    by_cases hlt : k < l.length
    · have ci : (k : Int) < (l.length : Int) := by omega
      have st := vsz_take l k hlt
      have sl := vsz_le l (k + 1)
      have hln := half_len z l k
      obtain ⟨g, cap, ev, hg1, hg2, hcell⟩ := hoa.spot (by omega)
      rw [hln] at ev
      cases ev
      obtain ⟨q, hq⟩ : ∃ q : Nat, z + k + vsz (l.take k) = q := ⟨_, rfl⟩
      have hq1 : z + (k + 1) + vsz (l.take (k + 1)) = q + 1 + (atK l k).vl.length := by omega
      have hq2 : q + 1 + (atK l k).vl.length ≤ 100000000 := by omega
      have Q1 := Hid.mk' hq1
      have HS := half_set z l k hlt
      rw [hq] at HS
      have HS := Hid.mk' HS
      have KT := Hid.mk' (markText_is q wr (by omega) (by omega))
      rw [hq]
      clear st sl hq hq1 hoa hcell
      go_wp2_with fail
      refine KT.out.mono ?_
      rintro e w1 ⟨rfl, hb⟩
      have O1 := HR.out.below hb
      obtain ⟨g', cap', ev, hg3, hg4, hcell⟩ := O1.spot (by omega)
      rw [hln] at ev
      cases ev
      obtain ⟨c0, c1, c2⟩ := hcell k (by omega)
      have O2 : OA lo (w1.setCell ⟨g, k * 2, none⟩ (.string (mtx q))) (.slice (some ⟨g, 0, none⟩) l.length cv) ((half z l k).set k ⟨mtx q, (atK l k).vl⟩) us := by
        have := OA.name (cap := cv) (g := g) (by rw [hln]; exact O1) k (by omega) (mtx q)
        rw [half_get z l k hlt, hln] at this
        exact this
      have hl2 : ((half z l k).set k ⟨mtx q, (atK l k).vl⟩).length = l.length := by rw [List.length_set]; exact hln
      have V2 := O2.val k (by omega)
      rw [set_get _ _ _ _ (by omega), if_pos rfl] at V2
      have KB := markByteS_own (q + 1) (us.getD k undef) (atK l k).vl _ V2 (by omega)
      obtain ⟨pu, cu, eu, _⟩ := V2.len
      have B2 := Hid.mk' ((HB.out.trans (Kp.of_below hb)).setCell (q := ⟨g, k * 2, none⟩) (fun e => e.1 rfl) (.string (mtx q)))
      have d1 : (w1.setCell ⟨g, k * 2, none⟩ (.string (mtx q))).cell? ⟨g, k * 2 + 1, none⟩ = some (.slice pu (atK l k).vl.length cu) := by
        obtain ⟨g'', cap'', ev, _, _, hc2⟩ := O2.spot (by omega)
        rw [hl2] at ev
        cases ev
        have := (hc2 k (by omega)).2.1
        rw [this, eu]
      rw [eu] at KB
      have KB := Hid.mk' KB
      have O2 := Hid.mk' O2
      have EU := Hid.mk' eu
      have s2 : (w1.setCell ⟨g, k * 2, none⟩ (.string (mtx q))).heap.size = w1.heap.size := by simp [World.setCell]
      have sb := hb.size
      clear hb O1 KT HR hcell V2 eu c1
      generalize hV : w1.setCell ⟨g, k * 2, none⟩ (.string (mtx q)) = V at *
      go_wp2_with fail
      clear hV
      refine KB.out.mono ?_
      rintro e w2 ⟨rfl, hob, htu⟩
      rw [← EU.out] at hob htu
      have O3 := O2.out.value k (by omega) (mb (q + 1) (atK l k).vl.length) hob htu
      rw [set_get _ _ _ _ (by omega), if_pos rfl, List.set_set, HS.out] at O3
      have O3 := Hid.mk' O3
      have B3 := Hid.mk' (B2.out.trans (Kp.of_turned htu (fun j e => e.2 k hlt)))
      clear hob htu KB
      go_wp2
      go_roundw
      case rel => exact ⟨k + 1, by omega, by go_num, by rw [Q1.out]; simp, O3.out, B3.out⟩
      case measure => simp [intOf]; omega
    · have ci : ¬ (k : Int) < (l.length : Int) := by omega
      have e : k = l.length := by omega
      subst e
      have EH : half z l l.length = mkA z l := by unfold half; rw [List.take_length, List.drop_length, List.append_nil]
      rw [EH] at hoa
      have HO := Hid.mk' hoa
      clear hoa HR
      rw [List.take_length]
      go_wp2
      go_ret
      exact ⟨ret_num (by omega), HO.out, HB.out⟩

set_option maxHeartbeats 3200000 in
theorem heldAttrS_is (z : Nat) (a : Option Addr) (c : Nat) (l : List AT) (w : World) (ha : AAt w a (mkA z l)) (hz : 0 < z) (hz2 : (z : Int) ≤ 90000000) (hl : (l.length : Int) + asz l ≤ 2000000) :
    Calls Tryz.prog 52 #[.slice a l.length c, .int .i64 (z : Int)] w fun e w' => e = .returned (.int .i64 ((z : Int) + (l.length : Int) + (vsz l : Int))) ∧ Below w.heap.size w w' := by
  have HA := Hid.mk' ha
  clear ha
  go_enter Tryz.func52, Tryz.ntmps52
  go_wp2
  go_loopw [1, 5] (fun x i wr => ∃ k : Nat, k ≤ l.length ∧ i = .int .i64 k ∧ x = .int .i64 ((z + k + vsz (l.take k) : Nat) : Int) ∧ Below w.heap.size w wr) (fun _ i _ => l.length - (intOf i).toNat)
  case atStart => exact ⟨0, Nat.zero_le _, rfl, by simp [vsz], Below.refl _ _⟩
  case round =>
    obtain ⟨k, hk, rfl, rfl, hbl⟩ := hrel
    have HB := Hid.mk' hbl
    by_cases hlt : k < l.length
    · have ci : (k : Int) < (l.length : Int) := by omega
      have st := vsz_take l k hlt
      have sl := vsz_le l (k + 1)
      rcases HA.out.below hbl with h0 | ⟨b1, o1, rfl, s1, hc1⟩
      · have := mkA_len z l; rw [h0] at this; simp at this; omega
      obtain ⟨h1, p1, d1, h2, h3⟩ := hc1 k (by rw [mkA_len]; exact hlt)
      rw [mkA_get hlt] at h1 h2 h3
      obtain ⟨q, hq⟩ : ∃ q : Nat, z + k + vsz (l.take k) = q := ⟨_, rfl⟩
      rw [hq] at h1 h2 h3 ⊢
      have hq1 : z + (k + 1) + vsz (l.take (k + 1)) = q + 1 + (atK l k).vl.length := by omega
      have hq2 : q + 1 + (atK l k).vl.length ≤ 100000000 := by omega
      have Q1 := Hid.mk' hq1
      simp only [mb_len] at h1 h2 h3
      have H3 := Hid.mk' h3
      have KT := Hid.mk' (markText_is q wr.drew (by omega) (by omega))
      clear st sl hq hq1 hc1 h3 hbl
      go_wp2_with fail
      go_region_held3 (fun w' => w'.cell? ⟨b1, o1 + k * 2, none⟩ = some (.string (mtx q))) (simp [*])
        ((go_at_call 50; refine KT.out.mono ?_; rintro e w1 ⟨rfl, hb1⟩; replace hb1 := undrew hb1; obtain ⟨hx1, hx2⟩ := bcell hb1))
      have B1 := Hid.mk' (HB.out.trans (hb1.mono HB.out.size))
      have g2 : w1.cell? ⟨b1, o1 + k * 2 + 1, none⟩ = some (.slice p1 (atK l k).vl.length d1) := (hx1 _ _ s1).trans h2
      have KB := Hid.mk' (heldByteS_any p1 d1 (atK l k).vl.length (q + 1) w1 (H3.out.below hb1) (by omega))
      clear hb1 hx1 hx2 KT
      go_wp2_with fail
      refine KB.out.mono ?_
      rintro e w2 ⟨rfl, hb2⟩
      have B2 := Hid.mk' (B1.out.trans (hb2.mono B1.out.size))
      have zz : ¬ (((q + 1 : Nat) : Int) + (atK l k).vl.length < 0) := by omega
      clear hb2 KB
      go_wp2
      go_roundw
      case rel => exact ⟨k + 1, by omega, by go_num, by rw [Q1.out]; simp, B2.out⟩
      case measure => simp [intOf]; omega
    · have ci : ¬ (k : Int) < (l.length : Int) := by omega
      have e : k = l.length := by omega
      subst e
      rw [List.take_length]
      go_wp2
      go_ret
      exact ⟨ret_num (by omega), HB.out⟩

end Go.Proofs.YthcajggbcanmdaaGreatDoor

namespace Go.Proofs.YthcajggbcanmdaaGreatDoor
open Go.RowKit

def ct1 (t : TK) : Nat := 4 + t.at_.length + vsz t.at_
def ctN : List TK → Nat
  | [] => 0
  | t :: l => ct1 t + ctN l

def mk1T (z : Nat) (t : TK) : TK := ⟨(z : Int), (z : Int) + 1, mtx (z + 1 + 1), mkA (z + 1 + 1 + 1) t.at_, (((z + 1 + 1 + 1 + t.at_.length + vsz t.at_ : Nat) : Int) % 3 == 0)⟩
def mkT : Nat → List TK → List TK
  | _, [] => []
  | z, t :: l => mk1T z t :: mkT (z + ct1 t) l

theorem mkT_len : ∀ (z : Nat) (l : List TK), (mkT z l).length = l.length
  | _, [] => rfl
  | z, t :: l => by simp [mkT, mkT_len]
theorem mkT_snoc : ∀ (z : Nat) (l : List TK) (t : TK), mkT z (l ++ [t]) = mkT z l ++ [mk1T (z + ctN l) t]
  | z, [], t => by simp [mkT, ctN]
  | z, x :: l, t => by simp only [List.cons_append, mkT, mkT_snoc (z + ct1 x) l t, ctN]; rw [Nat.add_assoc]
theorem mkT_get {z : Nat} {l : List TK} {i : Nat} (h : i < l.length) : tkK (mkT z l) i = mk1T (z + ctN (l.take i)) (tkK l i) := by
  induction l generalizing z i with
  | nil => exact absurd h (Nat.not_lt_zero _)
  | cons x l ih =>
    cases i with
    | zero => simp [mkT, tkK, ctN]
    | succ i =>
      have := ih (z := z + ct1 x) (i := i) (by simpa using h)
      have e1 : tkK (mkT z (x :: l)) (i + 1) = tkK (mkT (z + ct1 x) l) i := by simp [mkT, tkK]
      have e2 : tkK (x :: l) (i + 1) = tkK l i := by simp [tkK]
      rw [e1, this, e2]
      simp only [List.take_succ_cons, ctN]
      rw [Nat.add_assoc]
theorem ctN_take (l : List TK) : ∀ k, k < l.length → ctN (l.take (k + 1)) = ctN (l.take k) + ct1 (tkK l k) := by
  induction l with
  | nil => intro k h; exact absurd h (Nat.not_lt_zero _)
  | cons x r ih =>
    intro k hk
    cases k with
    | zero => simp [ctN, tkK]
    | succ k =>
      have := ih k (by simpa using hk)
      have e : tkK (x :: r) (k + 1) = tkK r k := by simp [tkK]
      simp only [List.take_succ_cons, ctN]
      rw [this, e]; omega
theorem ctN_le (l : List TK) (k : Nat) : ctN (l.take k) ≤ 4 * l.length + tssz l := by
  induction l generalizing k with
  | nil => simp [ctN]
  | cons x r ih =>
    cases k with
    | zero => simp [ctN]
    | succ k =>
      have := ih k
      have v := vsz_asz x.at_
      simp only [List.take_succ_cons, ctN, tssz, List.length_cons, ct1, tsz]
      omega

def halfT (z : Nat) (l : List TK) (k : Nat) : List TK := mkT z (l.take k) ++ l.drop k
theorem halfT_len (z : Nat) (l : List TK) (k : Nat) : (halfT z l k).length = l.length := by simp [halfT, mkT_len]; omega
theorem halfT_get (z : Nat) (l : List TK) (k : Nat) (h : k < l.length) : tkK (halfT z l k) k = tkK l k := by
  have e : (mkT z (l.take k)).length = k := by rw [mkT_len, List.length_take]; omega
  unfold halfT tkK
  rw [List.getD_eq_getElem?_getD, List.getElem?_append_right (by omega), e, Nat.sub_self, List.getElem?_drop, Nat.add_zero, ← List.getD_eq_getElem?_getD]
theorem halfT_set (z : Nat) (l : List TK) (k : Nat) (h : k < l.length) : (halfT z l k).set k (mk1T (z + ctN (l.take k)) (tkK l k)) = halfT z l (k + 1) := by
  have e : (mkT z (l.take k)).length = k := by rw [mkT_len, List.length_take]; omega
  have e2 : l.take (k + 1) = l.take k ++ [tkK l k] := by
    rw [List.take_add_one, List.getElem?_eq_getElem h]
    simp [tkK, List.getD_eq_getElem?_getD, List.getElem?_eq_getElem h]
  unfold halfT
  rw [e2, mkT_snoc, List.set_append_right _ _ (by omega), e, Nat.sub_self, List.drop_eq_getElem_cons h, List.set_cons_zero, List.append_assoc]
  rfl
theorem halfT_zero (z : Nat) (l : List TK) : halfT z l 0 = l := by simp [halfT, mkT]
theorem halfT_all (z : Nat) (l : List TK) : halfT z l l.length = mkT z l := by simp [halfT]

theorem tkK_set {l : List TK} {i j : Nat} {t : TK} (h : i < l.length) : tkK (l.set i t) j = if j = i then t else tkK l j := by
  unfold tkK
  by_cases e : j = i
  · subst e; simp [List.getD_eq_getElem?_getD, h]
  · rw [if_neg e]; simp [List.getD_eq_getElem?_getD, List.getElem?_set, Ne.symm e]

theorem tcs_cons (t : TK) (ts : List TK) (u : Value) (us : List Value) : tcs (t :: ts) (u :: us) = [.int .i64 t.kd, .int .i64 t.by_, .string t.nm, u, .bool t.sh] ++ tcs ts us := rfl

theorem tcs_set : ∀ (ts : List TK) (us : List Value) (n i : Nat) (t : TK) (x : Value), us.length = ts.length → n < ts.length → i < 5 →
    ([.int .i64 (tkK ts n).kd, .int .i64 (tkK ts n).by_, .string (tkK ts n).nm, us.getD n undef, .bool (tkK ts n).sh] : List Value).set i x = [.int .i64 t.kd, .int .i64 t.by_, .string t.nm, us.getD n undef, .bool t.sh] → (tcs ts us).set (n * 5 + i) x = tcs (ts.set n t) us
  | [], _, _, _, _, _, _, hn, _, _ => absurd hn (Nat.not_lt_zero _)
  | y :: ts, [], _, _, _, _, h, _, _, _ => by simp at h
  | y :: ts, u :: us, 0, i, t, x, h, _, hi, hs => by
    rw [List.set_cons_zero, tcs_cons, tcs_cons, List.set_append_left _ _ (by simp; omega), show 0 * 5 + i = i by omega]
    congr 1
  | y :: ts, u :: us, n + 1, i, t, x, h, hn, hi, hs => by
    have := tcs_set ts us n i t x (by simpa using h) (by simpa using hn) hi (by simpa [tkK] using hs)
    rw [List.set_cons_succ, tcs_cons, tcs_cons, List.set_append_right _ _ (by simp; omega)]
    congr 1
    rw [show (n + 1) * 5 + i - [Value.int .i64 y.kd, .int .i64 y.by_, .string y.nm, u, .bool y.sh].length = n * 5 + i by simp; omega]
    exact this

theorem rowT_set {lo g cap n i : Nat} {w : World} {ts : List TK} {us : List Value} {t : TK} {x : Value} (hl : us.length = ts.length) (h : w.ownsRow lo 37 5 (.slice (some ⟨g, 0, none⟩) ts.length cap) ts.length (tcs ts us)) (hn : n < ts.length) (hi : i < 5)
    (hs : ([.int .i64 (tkK ts n).kd, .int .i64 (tkK ts n).by_, .string (tkK ts n).nm, us.getD n undef, .bool (tkK ts n).sh] : List Value).set i x = [.int .i64 t.kd, .int .i64 t.by_, .string t.nm, us.getD n undef, .bool t.sh]) :
    (w.setCell ⟨g, n * 5 + i, none⟩ x).ownsRow lo 37 5 (.slice (some ⟨g, 0, none⟩) ts.length cap) ts.length (tcs (ts.set n t) us) := by
  rw [← tcs_set ts us n i t x hl hn hi hs]
  refine ⟨by rw [List.length_set]; exact h.1, .inr ?_⟩
  rcases h.2 with ⟨h0, _⟩ | ⟨g', cap', cur, hv, hg, hh, hc, hm, hs', ht⟩
  · cases h0
  · cases hv
    refine ⟨g, cap, cur.setIfInBounds (n * 5 + i) x, rfl, hg, ?_, hc, hm, by simpa using hs', ?_⟩
    · simp [World.setCell, Array.getElem?_modify, hh]
    · rw [← ht]
      simp [List.take_set]

theorem rowT_cell {lo g cap : Nat} {w : World} {ts : List TK} {us : List Value} (hl : us.length = ts.length) (h : w.ownsRow lo 37 5 (.slice (some ⟨g, 0, none⟩) ts.length cap) ts.length (tcs ts us)) {n i : Nat} (hn : n < ts.length) (hi : i < 5) : w.cell? ⟨g, n * 5 + i, none⟩ = ([.int .i64 (tkK ts n).kd, .int .i64 (tkK ts n).by_, .string (tkK ts n).nm, us.getD n undef, .bool (tkK ts n).sh] : List Value)[i]? ∧ w.frozen? ⟨g, n * 5 + i, none⟩ = false := by
  rcases h.2 with ⟨h0, _⟩ | ⟨g', cap', cur, hv, hg, hh, hc, hm, hs', ht⟩
  · cases h0
  · cases hv
    refine ⟨?_, Lib.frozen_of_heap hh _⟩
    rw [Lib.cell_of_heap hh, ← tcs_get ts us n i hl hn hi, ← ht, List.getElem?_take_of_lt (by omega)]
    simp

theorem TP.modify {lo n : Nat} {w w' : World} {v : Value} {ts : List TK} {us : List Value} {rs : Nat → List Value} {bl bh : Nat → Nat} {t : TK} (h : TP lo w v ts us rs bl bh) (hn : n < ts.length) (hl : t.at_.length = (tkK ts n).at_.length) (hs : w.heap.size ≤ w'.heap.size)
    (hr : w'.ownsRow lo 37 5 v ts.length (tcs (ts.set n t) us)) (ha : OA (bl n) w' (us.getD n undef) t.at_ (rs n)) (hk : ∀ k, k < w.heap.size → v.ownBlock ≠ some k → ¬ (bl n ≤ k ∧ k < bh n) → w'.heap[k]? = w.heap[k]?) : TP lo w' v (ts.set n t) us rs bl bh := by
  have len : (ts.set n t).length = ts.length := List.length_set
  have hA := h.ta
  have tk : ∀ j, tkK (ts.set n t) j = if j = n then t else tkK ts j := fun j => tkK_set hn
  refine ⟨by rw [len]; exact hr, ⟨by rw [len]; exact hA.len, hA.one, fun j hj => ?_, fun j hj => hA.low j (by omega), fun j hj => hA.mid j (by omega), fun j hj => Nat.le_trans (hA.top j (by omega)) hs, fun j hj => hA.hia j (by omega), fun j hj i hi => hA.hiu j (by omega) i ?_, fun i j hij hj => hA.ord i j hij (by omega)⟩, fun j hj => h.vt j (by omega)⟩
  · rw [len] at hj
    rw [tk]
    by_cases e : j = n
    · subst e; rw [if_pos rfl]; exact ha
    · rw [if_neg e]
      have o := hA.att j hj
      have far : ∀ k, bl j ≤ k → k < bh j → ¬ (bl n ≤ k ∧ k < bh n) := fun k h1 h2 h3 => by
        rcases Nat.lt_or_gt_of_ne e with hlt | hgt
        · have := hA.ord j n hlt hn; omega
        · have := hA.ord n j hgt hj; omega
      exact o.keepOf (fun k e1 hl' => hk k hl' (fun e2 => by have := h.vt j hj k e2; have := (o.row.lt k e1).1; have := hA.hia j hj k e1; omega) (far k (o.row.lt k e1).1 (hA.hia j hj k e1)))
        (fun i hi k e1 hl' => hk k hl' (fun e2 => by have := h.vt j hj k e2; have := o.vlo i hi k e1; have := hA.hiu j hj i hi k e1; omega) (far k (o.vlo i hi k e1) (hA.hiu j hj i hi k e1)))
  · rw [tk] at hi
    by_cases e : j = n
    · subst e; rw [if_pos rfl, hl] at hi; exact hi
    · rw [if_neg e] at hi; exact hi

def TFree (v : Value) (n : Nat) (bl bh : Nat → Nat) (k : Nat) : Prop := v.ownBlock ≠ some k ∧ ∀ j, j < n → ¬ (bl j ≤ k ∧ k < bh j)

theorem row_tsAt {w : World} {lo : Nat} {v : Value} {ts : List TK} {us : List Value} (hl : us.length = ts.length) (h : w.ownsRow lo 37 5 v ts.length (tcs ts us)) (ha : ∀ j, j < ts.length → ∃ p c, us.getD j undef = .slice p (tkK ts j).at_.length c ∧ AAt w p (tkK ts j).at_) : ∃ a c, v = .slice a ts.length c ∧ TsAt w a ts := by
  by_cases h0 : ts = []
  · subst h0
    obtain ⟨a, c, e, _⟩ := own_src h
    exact ⟨a, c, e, .inl rfl⟩
  · have hp : 0 < ts.length := List.length_pos_iff.2 h0
    rcases h.2 with ⟨rfl, h9⟩ | ⟨g, cap, cur, rfl, hg, hh, hc, hm, hs, ht⟩
    · omega
    · have glt : g < w.heap.size := Nat.lt_of_not_le fun hn => by rw [Array.getElem?_eq_none hn] at hh; cases hh
      refine ⟨_, _, rfl, .inr ⟨g, 0, rfl, glt, fun k hk => ?_⟩⟩
      have cc := fun i hi => (rowT_cell hl h hk (i := i) hi).1
      obtain ⟨p, c, e, haa⟩ := ha k hk
      simp only [Nat.zero_add]
      refine ⟨cc 0 (by omega), cc 1 (by omega), cc 2 (by omega), ⟨p, c, ?_, haa⟩, cc 4 (by omega)⟩
      rw [cc 3 (by omega), ← e]; rfl

theorem TP.tsAt {lo : Nat} {w : World} {tv : Value} {ts : List TK} {us : List Value} {rs : Nat → List Value} {bl bh : Nat → Nat} (h : TP lo w tv ts us rs bl bh) : ∃ a c, tv = .slice a ts.length c ∧ TsAt w a ts :=
  row_tsAt h.ta.len h.row (fun j hj => (h.ta.att j hj).at)

theorem TokS.tsAt {base : Nat} {w : World} {v : Value} {ts : List TK} {us : List Value} (h : TokS base w v ts us) : ∃ a c, v = .slice a ts.length c ∧ TsAt w a ts :=
  row_tsAt h.len h.row (fun j hj => by
    have h1 : ts[j]? = some (tkK ts j) := by simp [tkK, List.getD_eq_getElem?_getD, hj]
    have h2 : us[j]? = some (us.getD j undef) := by simp [List.getD_eq_getElem?_getD, h.len, hj]
    obtain ⟨rs, ho⟩ := (h.all j _ _ h1 h2).held
    exact ho.at)

theorem tssz_at' : ∀ {l : List TK} {k : Nat}, k < l.length → tsz (tkK l k) ≤ tssz l
  | [], _, h => absurd h (Nat.not_lt_zero _)
  | x :: l, 0, _ => by simp [tkK, tssz]
  | x :: l, k + 1, h => by
    have := tssz_at' (l := l) (k := k) (by simpa using h)
    have e : tkK (x :: l) (k + 1) = tkK l k := by simp [tkK]
    rw [e]; simp only [tssz]; omega

set_option maxRecDepth 100000 in
set_option maxHeartbeats 6400000 in
theorem markTokenS_is (z lo : Nat) (v : Value) (l : List TK) (us : List Value) (rs : Nat → List Value) (bl bh : Nat → Nat) (w : World) (h : TP lo w v l us rs bl bh) (hlo : lo ≤ w.heap.size) (hz : 0 < z) (hz2 : (z : Int) ≤ 10000000) (hl : (l.length : Int) + tssz l ≤ 1048576) :
    Calls Tryz.prog 27 #[v, .int .i64 (z : Int)] w fun e w' => e = .returned (.int .i64 ((z + ctN l : Nat) : Int)) ∧ TP lo w' v (mkT z l) us rs bl bh ∧ Kp (TFree v l.length bl bh) w w' := by
  have HM := Hid.mk' h
  obtain ⟨av, cv, rfl, -⟩ := own_src h.row
  clear h
  go_enter Tryz.func27, Tryz.ntmps27
  go_wp2
  go_loopw [1, 5] (fun x i wr => ∃ k : Nat, k ≤ l.length ∧ i = .int .i64 k ∧ x = .int .i64 ((z + ctN (l.take k) : Nat) : Int) ∧ TP lo wr (.slice av l.length cv) (halfT z l k) us rs bl bh ∧ Kp (TFree (.slice av l.length cv) l.length bl bh) w wr) (fun _ i _ => l.length - (intOf i).toNat)
  case atStart => exact ⟨0, Nat.zero_le _, rfl, by simp [ctN], by rw [halfT_zero]; exact HM.out, Kp.refl _ _⟩
  case round =>
    obtain ⟨k, hk, rfl, rfl, htp, hkp⟩ := hrel
    have HK := Hid.mk' hkp
    have szr := hkp.size
    clear hkp
    by_cases hlt : k < l.length
    · have ci : (k : Int) < (l.length : Int) := by omega
      have st := ctN_take l k hlt
      have sl := ctN_le l (k + 1)
      have hln := halfT_len z l k
      have hgt := halfT_get z l k hlt
      have hst := halfT_set z l k hlt
      have vz := vsz_asz (tkK l k).at_
      have sz1 := tssz_at' hlt
      unfold tsz at sz1
      unfold ct1 at st
      obtain ⟨q, hq⟩ : ∃ q : Nat, z + ctN (l.take k) = q := ⟨_, rfl⟩
      have hq1 : z + ctN (l.take (k + 1)) = q + 1 + 1 + 1 + (tkK l k).at_.length + vsz (tkK l k).at_ + 1 := by omega
      have hq2 : q + 1 + 1 + 1 + (tkK l k).at_.length + vsz (tkK l k).at_ + 1 ≤ 20000000 := by omega
      rw [hq] at hst ⊢
      have HS := Hid.mk' hst
      have Q1 := Hid.mk' hq1
      have hlen := htp.ta.len
      rw [hln] at hlen
      obtain ⟨g, cap, ev, hg1, hg2, -, -⟩ := own_spot htp.row (by omega)
      rw [hln] at ev
      cases ev
      have T0 := Hid.mk' htp
      have at0 := htp.ta.att k (by omega)
      rw [hgt] at at0
      have R0 := htp.row
      rw [hln] at R0
      have hlh : us.length = (halfT z l k).length := by rw [hln]; exact hlen
      have R0' : wr.ownsRow lo 37 5 (.slice (some ⟨g, 0, none⟩) (halfT z l k).length cv) (halfT z l k).length (tcs (halfT z l k) us) := by rw [hln]; exact R0
      have cc := fun i (hi : i < 5) => rowT_cell hlh R0' (n := k) (by omega) hi
      rw [hgt] at cc
      obtain ⟨c0, f0⟩ := cc 0 (by omega)
      obtain ⟨c1, f1⟩ := cc 1 (by omega)
      obtain ⟨c2, f2⟩ := cc 2 (by omega)
      obtain ⟨c3, f3⟩ := cc 3 (by omega)
      obtain ⟨c4, f4⟩ := cc 4 (by omega)
      rw [Nat.add_zero] at c0 f0
      replace c0 : wr.cell? ⟨g, k * 5, none⟩ = some (.int .i64 (tkK l k).kd) := c0
      replace c1 : wr.cell? ⟨g, k * 5 + 1, none⟩ = some (.int .i64 (tkK l k).by_) := c1
      have klen : k < (halfT z l k).length := by omega
      have R1 := rowT_set (t := ⟨(q : Int), (tkK l k).by_, (tkK l k).nm, (tkK l k).at_, (tkK l k).sh⟩) (n := k) (i := 0) (x := .int .i64 (q : Int)) hlh R0' klen (by omega) (by rw [hgt]; rfl)
      have l1 : ((halfT z l k).set k ⟨(q : Int), (tkK l k).by_, (tkK l k).nm, (tkK l k).at_, (tkK l k).sh⟩).length = (halfT z l k).length := List.length_set
      have R2 := rowT_set (t := ⟨(q : Int), (q : Int) + 1, (tkK l k).nm, (tkK l k).at_, (tkK l k).sh⟩) (n := k) (i := 1) (x := .int .i64 ((q : Int) + 1)) (by rw [l1]; exact hlh) (by rw [l1]; exact R1) (by omega) (by omega) (by rw [tkK_set klen, if_pos rfl]; rfl)
      rw [l1, List.set_set, hln, Nat.add_zero] at R2
      have K2 : Kp (fun j => j ≠ g) wr ((wr.setCell ⟨g, k * 5, none⟩ (.int .i64 (q : Int))).setCell ⟨g, k * 5 + 1, none⟩ (.int .i64 ((q : Int) + 1))) := ((Kp.refl _ _).setCell (q := ⟨g, k * 5, none⟩) (fun e => e rfl) _).setCell (q := ⟨g, k * 5 + 1, none⟩) (fun e => e rfl) _
      have KT := Hid.mk' (markText_is (q + 1 + 1) ((wr.setCell ⟨g, k * 5, none⟩ (.int .i64 (q : Int))).setCell ⟨g, k * 5 + 1, none⟩ (.int .i64 ((q : Int) + 1))) (by omega) (by omega))
      have HR := Hid.mk' R2
      have HK2 := Hid.mk' K2
      have A0 := Hid.mk' at0
      have HLH := Hid.mk' hlen
      have S1 : Hid (((wr.setCell ⟨g, k * 5, none⟩ (.int .i64 (q : Int))).setCell ⟨g, k * 5 + 1, none⟩ (.int .i64 ((q : Int) + 1))).heap.size = wr.heap.size) := Hid.mk' (by simp [World.setCell])
      have bk := T0.out.ta.low k (by omega)
      have bt := T0.out.ta.top k (by omega)
      have bm := T0.out.ta.mid k (by omega)
      have VG := Hid.mk' (T0.out.vt k (by omega) g rfl)
      have HIA := Hid.mk' (T0.out.ta.hia k (by omega))
      have HIU : Hid (∀ i, i < (tkK l k).at_.length → ∀ j, ((rs k).getD i undef).ownBlock = some j → j < bh k) := Hid.mk' (fun i hi => T0.out.ta.hiu k (by omega) i (by rw [hgt]; exact hi))
      clear st sl hq hq1 htp cc R0 R0' R1 R2 K2 at0 hst c2 f2 c3 f3 c4 f4 hlen hlh l1
      generalize hV : (wr.setCell ⟨g, k * 5, none⟩ (.int .i64 (q : Int))).setCell ⟨g, k * 5 + 1, none⟩ (.int .i64 ((q : Int) + 1)) = V at *
      go_wp2_with fail
      clear hV c0 f0 c1 f1
      refine KT.out.mono ?_
      rintro e w1 ⟨rfl, hb⟩
      have R1 := own_keep HR.out hb
      have K1 : Kp (fun j => j ≠ g) wr w1 := HK2.out.trans (Kp.of_below hb)
      have ln2 : ((halfT z l k).set k ⟨(q : Int), (q : Int) + 1, (tkK l k).nm, (tkK l k).at_, (tkK l k).sh⟩).length = l.length := by rw [List.length_set]; exact hln
      have lh2 : us.length = ((halfT z l k).set k ⟨(q : Int), (q : Int) + 1, (tkK l k).nm, (tkK l k).at_, (tkK l k).sh⟩).length := by rw [ln2]; exact HLH.out
      have R1' : w1.ownsRow lo 37 5 (.slice (some ⟨g, 0, none⟩) ((halfT z l k).set k ⟨(q : Int), (q : Int) + 1, (tkK l k).nm, (tkK l k).at_, (tkK l k).sh⟩).length cv) ((halfT z l k).set k ⟨(q : Int), (q : Int) + 1, (tkK l k).nm, (tkK l k).at_, (tkK l k).sh⟩).length (tcs ((halfT z l k).set k ⟨(q : Int), (q : Int) + 1, (tkK l k).nm, (tkK l k).at_, (tkK l k).sh⟩) us) := by rw [ln2]; exact R1
      obtain ⟨c2, f2⟩ := rowT_cell lh2 R1' (n := k) (i := 2) (by omega) (by omega)
      replace c2 : w1.cell? ⟨g, k * 5 + 2, none⟩ = some (.string (tkK l k).nm) := by rw [c2, tkK_set klen, if_pos rfl]; rfl
      have R3 := rowT_set (t := ⟨(q : Int), (q : Int) + 1, mtx (q + 1 + 1), (tkK l k).at_, (tkK l k).sh⟩) (n := k) (i := 2) (x := .string (mtx (q + 1 + 1))) lh2 R1' (by omega) (by omega) (by rw [tkK_set klen, if_pos rfl]; rfl)
      rw [ln2, List.set_set] at R3
      have K3 : Kp (fun j => j ≠ g) wr (w1.setCell ⟨g, k * 5 + 2, none⟩ (.string (mtx (q + 1 + 1)))) := K1.setCell (q := ⟨g, k * 5 + 2, none⟩) (fun e => e rfl) _
      have A3 := A0.out.keepOf (w' := w1.setCell ⟨g, k * 5 + 2, none⟩ (.string (mtx (q + 1 + 1)))) (fun j e hl' => K3.block j hl' (fun e2 => by subst e2; have := (A0.out.row.lt j e).1; have := HIA.out j e; have := VG.out; omega)) (fun i hi j e hl' => K3.block j hl' (fun e2 => by subst e2; have := A0.out.vlo i hi j e; have := HIU.out i hi j e; have := VG.out; omega))
      obtain ⟨pa, ca, ea, -⟩ := A3.at
      have ln3 : ((halfT z l k).set k ⟨(q : Int), (q : Int) + 1, mtx (q + 1 + 1), (tkK l k).at_, (tkK l k).sh⟩).length = l.length := by rw [List.length_set]; exact hln
      have lh3 : us.length = ((halfT z l k).set k ⟨(q : Int), (q : Int) + 1, mtx (q + 1 + 1), (tkK l k).at_, (tkK l k).sh⟩).length := by rw [ln3]; exact HLH.out
      have R3' : (w1.setCell ⟨g, k * 5 + 2, none⟩ (.string (mtx (q + 1 + 1)))).ownsRow lo 37 5 (.slice (some ⟨g, 0, none⟩) ((halfT z l k).set k ⟨(q : Int), (q : Int) + 1, mtx (q + 1 + 1), (tkK l k).at_, (tkK l k).sh⟩).length cv) ((halfT z l k).set k ⟨(q : Int), (q : Int) + 1, mtx (q + 1 + 1), (tkK l k).at_, (tkK l k).sh⟩).length (tcs ((halfT z l k).set k ⟨(q : Int), (q : Int) + 1, mtx (q + 1 + 1), (tkK l k).at_, (tkK l k).sh⟩) us) := by rw [ln3]; exact R3
      have d3 : (w1.setCell ⟨g, k * 5 + 2, none⟩ (.string (mtx (q + 1 + 1)))).cell? ⟨g, k * 5 + 3, none⟩ = some (.slice pa (tkK l k).at_.length ca) := by
        have := (rowT_cell lh3 R3' (n := k) (i := 3) (by omega) (by omega)).1
        rw [this, ← ea]; rfl
      have s2 : (w1.setCell ⟨g, k * 5 + 2, none⟩ (.string (mtx (q + 1 + 1)))).heap.size = w1.heap.size := by simp [World.setCell]
      have sb := hb.size
      have S1o := S1.out
      have KA := markAttrS_is (q + 1 + 1 + 1) (bl k) (us.getD k undef) (tkK l k).at_ (rs k) _ A3 (by omega) (by omega) (by omega) (by omega)
      rw [ea] at KA
      have KA := Hid.mk' KA
      have EA := Hid.mk' ea
      have HR := Hid.mk' R3
      have HK3 := Hid.mk' K3
      have S3 : Hid (wr.heap.size ≤ w1.heap.size) := Hid.mk' (by omega)
      clear hb KT R1 R1' R3 R3' K1 K3 ea A3 HK2 sb s2 A0 S1o
      generalize hV : w1.setCell ⟨g, k * 5 + 2, none⟩ (.string (mtx (q + 1 + 1))) = V3 at *
      go_wp2_with fail
      clear hV c2 f2
      refine KA.out.mono ?_
      rintro e w2 ⟨rfl, hoa, hkk⟩
      rw [← EA.out] at hoa hkk
      have AT := T0.out.ta.att k (by omega)
      rw [hgt] at AT
      have hk3 : Kp (fun j => ¬ (bl k ≤ j ∧ j < bh k)) V3 w2 := hkk.mono (fun j e => ⟨fun e2 => e ⟨(AT.row.lt j e2).1, HIA.out j e2⟩, fun i hi e2 => e ⟨AT.vlo i hi j e2, HIU.out i hi j e2⟩⟩)
      have R4 := own_of HR.out (Nat.le_refl _) (fun j e _ => hk3.block j (HR.out.lt j e).2 (fun h2 => by
        have ej : g = j := by simpa [Value.ownBlock] using e
        subst ej
        have := VG.out; omega))
      have R4' : w2.ownsRow lo 37 5 (.slice (some ⟨g, 0, none⟩) ((halfT z l k).set k ⟨(q : Int), (q : Int) + 1, mtx (q + 1 + 1), (tkK l k).at_, (tkK l k).sh⟩).length cv) ((halfT z l k).set k ⟨(q : Int), (q : Int) + 1, mtx (q + 1 + 1), (tkK l k).at_, (tkK l k).sh⟩).length (tcs ((halfT z l k).set k ⟨(q : Int), (q : Int) + 1, mtx (q + 1 + 1), (tkK l k).at_, (tkK l k).sh⟩) us) := by rw [ln3]; exact R4
      obtain ⟨c4, f4⟩ := rowT_cell lh3 R4' (n := k) (i := 4) (by omega) (by omega)
      replace c4 : w2.cell? ⟨g, k * 5 + 4, none⟩ = some (.bool (tkK l k).sh) := by rw [c4, tkK_set klen, if_pos rfl]; rfl
      obtain ⟨q2, hq3⟩ : ∃ q2 : Nat, q + 1 + 1 + 1 + (tkK l k).at_.length + vsz (tkK l k).at_ = q2 := ⟨_, rfl⟩
      have R5 := rowT_set (t := mk1T q (tkK l k)) (n := k) (i := 4) (x := .bool (((q2 : Nat) : Int) % 3 == 0)) lh3 R4' (by omega) (by omega) (by rw [tkK_set klen, if_pos rfl, ← hq3]; rfl)
      rw [ln3, List.set_set] at R5
      have K5 : Kp (fun j => j ≠ g ∧ ¬ (bl k ≤ j ∧ j < bh k)) wr (w2.setCell ⟨g, k * 5 + 4, none⟩ (.bool (((q2 : Nat) : Int) % 3 == 0))) := ((HK3.out.mono (fun j e => e.1)).trans (hk3.mono (fun j e => e.2))).setCell (q := ⟨g, k * 5 + 4, none⟩) (fun e => e.1 rfl) _
      have KX : Kp (fun j => j ≠ g) w2 (w2.setCell ⟨g, k * 5 + 4, none⟩ (.bool (((q2 : Nat) : Int) % 3 == 0))) := (Kp.refl _ _).setCell (q := ⟨g, k * 5 + 4, none⟩) (fun e => e rfl) _
      have A5 := hoa.keepOf (w' := w2.setCell ⟨g, k * 5 + 4, none⟩ (.bool (((q2 : Nat) : Int) % 3 == 0))) (fun j e hl' => KX.block j hl' (fun e2 => by subst e2; have := (hoa.row.lt j e).1; have := HIA.out j e; have := VG.out; omega)) (fun i hi j e hl' => KX.block j hl' (fun e2 => by subst e2; have := hoa.vlo i hi j e; rw [mkA_len] at hi; have := HIU.out i hi j e; have := VG.out; omega))
      have N5 : TP lo (w2.setCell ⟨g, k * 5 + 4, none⟩ (.bool (((q2 : Nat) : Int) % 3 == 0))) (.slice (some ⟨g, 0, none⟩) l.length cv) (halfT z l (k + 1)) us rs bl bh := by
        have := T0.out.modify (n := k) (t := mk1T q (tkK l k)) (w' := w2.setCell ⟨g, k * 5 + 4, none⟩ (.bool (((q2 : Nat) : Int) % 3 == 0))) (by omega) (by rw [hgt]; exact mkA_len _ _) K5.size (by rw [hln]; exact R5) A5 (fun j hj h1 h2 => K5.block j hj ⟨fun e => h1 (by rw [e]; rfl), h2⟩)
        rw [HS.out] at this
        exact this
      have N5 := Hid.mk' N5
      have K6 := Hid.mk' (HK.out.trans (K5.mono (fun j e => ⟨fun e2 => e.1 (by rw [e2]; rfl), e.2 k hlt⟩)))
      have EZ : Hid ((q2 : Int) + 1 = ((z + ctN (l.take (k + 1)) : Nat) : Int)) := Hid.mk' (by rw [Q1.out]; omega)
      have ez : ((q + 1 + 1 + 1 : Nat) : Int) + ((tkK l k).at_.length : Int) + (vsz (tkK l k).at_ : Int) = (q2 : Int) := by omega
      rw [ez]
      have q2b : q2 ≤ 20000000 := by omega
      clear hkk hoa hk3 R4 R4' R5 K5 KX A5 AT KA HK3 HR ez hq3
      go_wp2
      go_roundw
      case rel => exact ⟨k + 1, by omega, by go_num, by rw [← EZ.out], N5.out, K6.out⟩
      case measure => simp [intOf]; omega
    · have ci : ¬ (k : Int) < (l.length : Int) := by omega
      have e : k = l.length := by omega
      subst e
      rw [halfT_all] at htp
      have HO := Hid.mk' htp
      clear htp
      rw [List.take_length]
      go_wp2
      go_ret
      exact ⟨rfl, HO.out, HK.out⟩

end Go.Proofs.YthcajggbcanmdaaGreatDoor
