/- Marks in attributes of one's own, and that they are held. -/
import Derived.Test.YtkiinnmindmnbaaGreatDoorC14
import Derived.Test.YtkiinnmindmnbaaGreatDoorC19
import Derived.Test.YtkiinnmindmnbaaGreatDoorC24
import Derived.Test.YtkiinnmindmnbaaGreatDoorC20
set_option linter.unusedVariables false
set_option linter.unusedSimpArgs false
namespace Go.Proofs.YtkiinnmindmnbaaGreatDoor
open Go.RowKit

structure Kp (p : Nat → Prop) (w w' : World) : Prop where
  os : w'.os = w.os
  tape : w'.tape = w.tape
  output : w'.output = w.output
  size : w.heap.size ≤ w'.heap.size
  block : ∀ k, k < w.heap.size → p k → w'.heap[k]? = w.heap[k]?

theorem Kp.refl (p : Nat → Prop) (w : World) : Kp p w w := ⟨rfl, rfl, rfl, Nat.le_refl _, fun _ _ _ => rfl⟩
theorem Kp.trans {p : Nat → Prop} {a b c : World} (h : Kp p a b) (k : Kp p b c) : Kp p a c :=
  ⟨k.os.trans h.os, k.tape.trans h.tape, k.output.trans h.output, Nat.le_trans h.size k.size, fun i hi hp => (k.block i (Nat.lt_of_lt_of_le hi h.size) hp).trans (h.block i hi hp)⟩
theorem Kp.mono {p q : Nat → Prop} {a b : World} (h : Kp p a b) (hq : ∀ k, q k → p k) : Kp q a b := ⟨h.os, h.tape, h.output, h.size, fun k hk e => h.block k hk (hq k e)⟩
theorem Kp.of_below {p : Nat → Prop} {a b : World} (h : Below a.heap.size a b) : Kp p a b := ⟨h.os, h.tape, h.output, h.size, fun k hk _ => h.block k hk⟩
theorem Kp.of_turned {p : Nat → Prop} {v : Value} {a b : World} (h : Turned v a b) (hp : ∀ k, p k → v.ownBlock ≠ some k) : Kp p a b := ⟨h.os, h.tape, h.output, h.size, fun k hk e => h.block k hk (hp k e)⟩
theorem Kp.setCell {p : Nat → Prop} {a w : World} (h : Kp p a w) {q : Addr} (hq : ¬ p q.block) (u : Value) : Kp p a (w.setCell q u) :=
  h.trans ⟨rfl, rfl, rfl, by simp [World.setCell], fun k hk e => Below.heap_setCell _ _ _ _ (fun e' => hq (e' ▸ e))⟩
theorem Kp.keptIn {p : Nat → Prop} {lo hi : Nat} {a b : World} (h : Kp p a b) (hp : ∀ k, k < lo ∨ hi ≤ k → p k) : KeptIn lo hi a b := ⟨h.os, h.tape, h.output, h.size, fun k hk e => h.block k hk (hp k e)⟩

theorem OA.keepOf {lo : Nat} {w w' : World} {v : Value} {l : List AT} {us : List Value} (h : OA lo w v l us) (hv : ∀ k, v.ownBlock = some k → k < w.heap.size → w'.heap[k]? = w.heap[k]?) (hu : ∀ i, i < l.length → ∀ k, (us.getD i undef).ownBlock = some k → k < w.heap.size → w'.heap[k]? = w.heap[k]?) : OA lo w' v l us :=
  ⟨h.len, own_of h.row (Nat.le_refl _) (fun k e _ => hv k e (h.row.lt k e).2), fun j hj => (h.val j hj).keep (fun k e hl => hu j hj k e hl), h.vlo, h.ap, h.av⟩

def dgs : Nat → Nat → ByteArray → ByteArray
  | 0, _, s => s
  | f + 1, m, s => if m = 0 then s else dgs f (m / 10) (strI [48 + (m : Int) % 10] ++ s)
theorem dgs_zero (f : Nat) (s : ByteArray) : dgs f 0 s = s := by cases f <;> simp [dgs]
theorem dgs_step (f m : Nat) (s : ByteArray) (h : 0 < m) (hf : m ≤ f) : ∃ f', m / 10 ≤ f' ∧ dgs f m s = dgs f' (m / 10) (strI [48 + (m : Int) % 10] ++ s) := by
  cases f with
  | zero => omega
  | succ f => exact ⟨f, by omega, by simp [dgs]; omega⟩
def mtx (k : Nat) : ByteArray := ⟨#[109]⟩ ++ dgs k k ⟨#[]⟩

set_option maxHeartbeats 1600000 in
theorem markText_is (k : Nat) (w : World) (h0 : 0 < k) (hk : k ≤ 100000000) :
    Calls Tryz.prog 73 #[.int .i64 k] w fun e w' => e = .returned (.string (mtx k)) ∧ Below w.heap.size w w' := by
  have k0 : ¬ (k : Int) ≤ 0 := by omega
  go_enter Tryz.func73, Tryz.ntmps73
  go_wp2
  go_loopw [0, 3] (fun x o wr => ∃ (m f : Nat) (s : ByteArray), x = .int .i64 m ∧ m ≤ 100000000 ∧ o = .string s ∧ s.size + m ≤ 100000001 ∧ m ≤ f ∧ dgs f m s = dgs k k ⟨#[]⟩ ∧ Below w.heap.size w wr) (fun x _ _ => (intOf x).toNat)
  case atStart => exact ⟨k, k, ⟨#[]⟩, rfl, hk, rfl, by have : (⟨#[]⟩ : ByteArray).size = 0 := rfl; omega, Nat.le_refl _, rfl, Below.refl _ _⟩
  case round =>
    obtain ⟨m, f, s, rfl, hm, rfl, hs, hf, hd, hbl⟩ := hrel
    have HB := Hid.mk' hbl
    have HD := Hid.mk' hd
    clear hbl hd
    by_cases hz : 0 < m
    · have ci : (m : Int) > 0 := by omega
      have hcv := conv_one wr
      have hst := strI_one (48 + (m : Int) % 10)
      obtain ⟨f', hf', hd'⟩ := dgs_step f m s hz hf
      have HD' := Hid.mk' hd'
      clear hd'
      go_wp2
      go_roundw
      case rel => exact ⟨m / 10, f', _, by go_num, by omega, rfl, by rw [ByteArray.size_append, hst]; omega, hf', by rw [← HD.out, HD'.out], HB.out.alloc HB.out.size _⟩
      case measure => simp [intOf]; omega
    · have ci : ¬ (m : Int) > 0 := by omega
      have em : m = 0 := by omega
      subst em
      have E : Hid (⟨#[109]⟩ ++ s = mtx k) := Hid.mk' (by unfold mtx; rw [← HD.out, dgs_zero])
      go_wp2
      go_ret
      exact ⟨by rw [← E.out]; rfl, HB.out⟩

def mkA : Nat → List AT → List AT
  | _, [] => []
  | k, a :: l => ⟨mtx k, mb (k + 1) a.vl.length⟩ :: mkA (k + 1 + a.vl.length) l
theorem mkA_len : ∀ (k : Nat) (l : List AT), (mkA k l).length = l.length
  | _, [] => rfl
  | k, a :: l => by simp [mkA, mkA_len]
theorem mkA_snoc : ∀ (k : Nat) (l : List AT) (a : AT), mkA k (l ++ [a]) = mkA k l ++ [⟨mtx (k + l.length + vsz l), mb (k + l.length + vsz l + 1) a.vl.length⟩]
  | k, [], a => by simp [mkA, vsz]
  | k, b :: l, a => by
    simp only [List.cons_append, mkA, mkA_snoc (k + 1 + b.vl.length) l a, List.length_cons, vsz]
    rw [show k + 1 + b.vl.length + l.length + vsz l = k + (l.length + 1) + (b.vl.length + vsz l) from by omega]
theorem mkA_get {k : Nat} {l : List AT} {i : Nat} (h : i < l.length) : atK (mkA k l) i = ⟨mtx (k + i + vsz (l.take i)), mb (k + i + vsz (l.take i) + 1) (atK l i).vl.length⟩ := by
  induction l generalizing k i with
  | nil => exact absurd h (Nat.not_lt_zero _)
  | cons b l ih =>
    cases i with
    | zero => simp [mkA, atK, vsz]
    | succ i =>
      have := ih (k := k + 1 + b.vl.length) (i := i) (by simpa using h)
      have e1 : atK (mkA k (b :: l)) (i + 1) = atK (mkA (k + 1 + b.vl.length) l) i := by simp [mkA, atK]
      have e2 : atK (b :: l) (i + 1) = atK l i := by simp [atK]
      rw [e1, this, e2]
      simp only [List.take_succ_cons, vsz]
      rw [show k + 1 + b.vl.length + i + vsz (l.take i) = k + (i + 1) + (b.vl.length + vsz (l.take i)) from by omega]

theorem acs_set : ∀ (l : List AT) (us : List Value) (i : Nat) (a : AT), us.length = l.length → i < l.length → acs (l.set i a) us = (acs l us).set (i * 2) (.string a.nm)
  | [], us, i, a, _, h => absurd h (Nat.not_lt_zero _)
  | b :: l, [], i, a, h, _ => by simp at h
  | b :: l, u :: us, 0, a, h, _ => by simp [acs]
  | b :: l, u :: us, i + 1, a, h, hi => by
    have := acs_set l us i a (by simpa using h) (by simpa using hi)
    rw [show (i + 1) * 2 = i * 2 + 1 + 1 from by omega]
    simp [acs, this]

theorem own_cell {w : World} {base g n cap : Nat} {e : TypeId} {xs : List Value} (h : w.ownsRow base e 2 (.slice (some ⟨g, 0, none⟩) n cap) n xs) (j : Nat) (hj : j < n * 2) (x : Value) : (w.setCell ⟨g, j, none⟩ x).ownsRow base e 2 (.slice (some ⟨g, 0, none⟩) n cap) n (xs.set j x) := by
  refine ⟨by rw [List.length_set]; exact h.1, .inr ?_⟩
  rcases h.2 with ⟨h0, _⟩ | ⟨g', cap', cur, hv, hg, hh, hc, hm, hs, ht⟩
  · cases h0
  · cases hv
    refine ⟨g, cap, cur.setIfInBounds j x, rfl, hg, ?_, hc, hm, by simpa using hs, ?_⟩
    · simp [World.setCell, Array.getElem?_modify, hh]
    · rw [← ht]
      simp [List.take_set]

theorem set_get (l : List AT) (i j : Nat) (a : AT) (h : i < l.length) : atK (l.set i a) j = if j = i then a else atK l j := by
  unfold atK
  by_cases e : j = i
  · subst e; simp [List.getD_eq_getElem?_getD, h]
  · rw [if_neg e]; simp [List.getD_eq_getElem?_getD, List.getElem?_set, Ne.symm e]

theorem OA.name {lo g cap : Nat} {w : World} {l : List AT} {us : List Value} (h : OA lo w (.slice (some ⟨g, 0, none⟩) l.length cap) l us) (i : Nat) (hi : i < l.length) (s : ByteArray) : OA lo (w.setCell ⟨g, i * 2, none⟩ (.string s)) (.slice (some ⟨g, 0, none⟩) l.length cap) (l.set i ⟨s, (atK l i).vl⟩) us := by
  have hg : ∀ j, j < l.length → ∀ k, (us.getD j undef).ownBlock = some k → k ≠ g := fun j hj k e ek => h.av j hj k (by rw [ek]; rfl) e
  refine ⟨by rw [List.length_set]; exact h.len, ?_, fun j hj => ?_, fun j hj => h.vlo j (by simpa using hj), fun a b hab hb => h.ap a b hab (by simpa using hb), fun j hj => h.av j (by simpa using hj)⟩
  · rw [acs_set l us i _ h.len hi, List.length_set]
    exact own_cell h.row (i * 2) (by omega) _
  · rw [List.length_set] at hj
    rw [set_get l i j _ hi]
    have : OB (w.setCell ⟨g, i * 2, none⟩ (.string s)) (us.getD j undef) (atK l j).vl := (h.val j hj).keep (fun k e _ => Deep.blk_setCell_other _ _ _ _ (hg j hj k e))
    by_cases e : j = i
    · subst e; rw [if_pos rfl]; exact this
    · rw [if_neg e]; exact this

theorem set_same {α : Type} : ∀ (l : List α) (i : Nat) (x : α), l[i]? = some x → l.set i x = l
  | [], i, x, h => by simp at h
  | a :: l, 0, x, h => by simp at h; simp [h]
  | a :: l, i + 1, x, h => by simp at h; simp [set_same l i x h]

theorem OA.value {lo : Nat} {w w' : World} {v : Value} {l : List AT} {us : List Value} (h : OA lo w v l us) (i : Nat) (hi : i < l.length) (m : List Int) (ho : OB w' (us.getD i undef) m) (ht : Turned (us.getD i undef) w w') : OA lo w' v (l.set i ⟨(atK l i).nm, m⟩) us := by
  have hb : ∀ k, k < w.heap.size → (us.getD i undef).ownBlock ≠ some k → w'.heap[k]? = w.heap[k]? := fun k hk hn => ht.block k hk hn
  have nms : acs (l.set i ⟨(atK l i).nm, m⟩) us = acs l us := by
    rw [acs_set l us i _ h.len hi]
    have := (acs_get l us i h.len hi).1
    exact set_same _ _ _ this
  refine ⟨by rw [List.length_set]; exact h.len, ?_, fun j hj => ?_, fun j hj => h.vlo j (by simpa using hj), fun a b hab hb' => h.ap a b hab (by simpa using hb'), fun j hj => h.av j (by simpa using hj)⟩
  · rw [nms, List.length_set]
    exact own_of h.row (Nat.le_refl _) (fun k e _ => hb k (h.row.lt k e).2 (fun e2 => h.av i hi k e e2))
  · rw [List.length_set] at hj
    rw [set_get l i j _ hi]
    by_cases e : j = i
    · subst e; rw [if_pos rfl]; exact ho
    · rw [if_neg e]
      refine (h.val j hj).keep (fun k e1 hl => hb k hl (fun e2 => ?_))
      rcases Nat.lt_or_gt_of_ne e with hlt | hgt
      · exact h.ap j i hlt hi k e1 e2
      · exact h.ap i j hgt hj k e2 e1

theorem OA.spot {lo : Nat} {w : World} {v : Value} {l : List AT} {us : List Value} (h : OA lo w v l us) (hl : 0 < l.length) : ∃ g cap, v = .slice (some ⟨g, 0, none⟩) l.length cap ∧ lo ≤ g ∧ g < w.heap.size ∧ ∀ k, k < l.length → w.cell? ⟨g, k * 2, none⟩ = some (.string (atK l k).nm) ∧ w.cell? ⟨g, k * 2 + 1, none⟩ = some (us.getD k undef) ∧ w.frozen? ⟨g, k * 2, none⟩ = false := by
  rcases h.row.2 with ⟨rfl, h0⟩ | ⟨g, cap, cur, rfl, hg, hh, hc, hm, hs, ht⟩
  · omega
  · refine ⟨g, cap, rfl, hg, ?_, fun k hk => ?_⟩
    · exact Nat.lt_of_not_le fun hn => by rw [Array.getElem?_eq_none hn] at hh; cases hh
    · obtain ⟨h1, h2⟩ := acs_get l us k h.len hk
      rw [← ht] at h1 h2
      rw [List.getElem?_take_of_lt (by omega)] at h1 h2
      have q : ∀ i, w.cell? ⟨g, i, none⟩ = cur[i]? := fun i => Lib.cell_of_heap hh i
      exact ⟨by rw [q, ← h1]; simp, by rw [q, ← h2]; simp, Lib.frozen_of_heap hh _⟩

def half (z : Nat) (l : List AT) (k : Nat) : List AT := mkA z (l.take k) ++ l.drop k
theorem half_len (z : Nat) (l : List AT) (k : Nat) : (half z l k).length = l.length := by simp [half, mkA_len]; omega
theorem half_get (z : Nat) (l : List AT) (k : Nat) (h : k < l.length) : atK (half z l k) k = atK l k := by
  have e : (mkA z (l.take k)).length = k := by rw [mkA_len, List.length_take]; omega
  unfold half atK
  rw [List.getD_eq_getElem?_getD, List.getElem?_append_right (by omega), e, Nat.sub_self, List.getElem?_drop, Nat.add_zero, ← List.getD_eq_getElem?_getD]
theorem half_set (z : Nat) (l : List AT) (k : Nat) (h : k < l.length) : (half z l k).set k ⟨mtx (z + k + vsz (l.take k)), mb (z + k + vsz (l.take k) + 1) (atK l k).vl.length⟩ = half z l (k + 1) := by
  have e : (mkA z (l.take k)).length = k := by rw [mkA_len, List.length_take]; omega
  have e2 : l.take (k + 1) = l.take k ++ [atK l k] := by
    rw [List.take_add_one, List.getElem?_eq_getElem h]
    simp [atK, List.getD_eq_getElem?_getD, List.getElem?_eq_getElem h]
  have e3 : (l.take k).length = k := by rw [List.length_take]; omega
  unfold half
  rw [e2, mkA_snoc, e3, List.set_append_right _ _ (by omega), e, Nat.sub_self, List.drop_eq_getElem_cons h, List.set_cons_zero, List.append_assoc]
  rfl

def AFree (v : Value) (us : List Value) (n j : Nat) : Prop := v.ownBlock ≠ some j ∧ ∀ i, i < n → (us.getD i undef).ownBlock ≠ some j

set_option maxHeartbeats 3200000 in
theorem markAttrS_is (z lo : Nat) (v : Value) (l : List AT) (us : List Value) (w : World) (h : OA lo w v l us) (hlo : lo ≤ w.heap.size) (hz : 0 < z) (hz2 : (z : Int) ≤ 90000000) (hl : (l.length : Int) + asz l ≤ 2000000) :
    Calls Tryz.prog 74 #[v, .int .i64 (z : Int)] w fun e w' => e = .returned (.int .i64 ((z : Int) + (l.length : Int) + (vsz l : Int))) ∧ OA lo w' v (mkA z l) us ∧ Kp (AFree v us l.length) w w' := by
  have HM := Hid.mk' h
  obtain ⟨av, cv, rfl, _⟩ := h.at
  clear h
  go_enter Tryz.func74, Tryz.ntmps74
  go_wp2
  go_loopw [1, 5] (fun x i wr => ∃ k : Nat, k ≤ l.length ∧ i = .int .i64 k ∧ x = .int .i64 ((z + k + vsz (l.take k) : Nat) : Int) ∧ OA lo wr (.slice av l.length cv) (half z l k) us ∧ Kp (AFree (.slice av l.length cv) us l.length) w wr) (fun _ i _ => l.length - (intOf i).toNat)
  case atStart => exact ⟨0, Nat.zero_le _, rfl, by simp [vsz], by simpa [half, mkA] using HM.out, Kp.refl _ _⟩
  case round =>
    obtain ⟨k, hk, rfl, rfl, hoa, hbl⟩ := hrel
    have HR := Hid.mk' hoa
    have HB := Hid.mk' hbl
    have szr := hbl.size
    clear hbl
    by_cases hlt : k < l.length
    · have ci : (k : Int) < (l.length : Int) := by omega
      have st := vsz_take l k hlt
      have sl := vsz_le l (k + 1)
      have hln := half_len z l k
      obtain ⟨g, cap, ev, hg1, hg2, hcell⟩ := hoa.spot (by omega)
      rw [hln] at ev
      cases ev
      obtain ⟨q, hq⟩ : ∃ q : Nat, z + k + vsz (l.take k) = q := ⟨_, rfl⟩
      have hq1 : z + (k + 1) + vsz (l.take (k + 1)) = q + 1 + (atK l k).vl.length := by omega
      have hq2 : q + 1 + (atK l k).vl.length ≤ 100000000 := by omega
      have Q1 := Hid.mk' hq1
      have HS := half_set z l k hlt
      rw [hq] at HS
      have HS := Hid.mk' HS
      have KT := Hid.mk' (markText_is q wr (by omega) (by omega))
      rw [hq]
      clear st sl hq hq1 hoa hcell
      go_wp2_with fail
      refine KT.out.mono ?_
      rintro e w1 ⟨rfl, hb⟩
      have O1 := HR.out.below hb
      obtain ⟨g', cap', ev, hg3, hg4, hcell⟩ := O1.spot (by omega)
      rw [hln] at ev
      cases ev
      obtain ⟨c0, c1, c2⟩ := hcell k (by omega)
      have O2 : OA lo (w1.setCell ⟨g, k * 2, none⟩ (.string (mtx q))) (.slice (some ⟨g, 0, none⟩) l.length cv) ((half z l k).set k ⟨mtx q, (atK l k).vl⟩) us := by
        have := OA.name (cap := cv) (g := g) (by rw [hln]; exact O1) k (by omega) (mtx q)
        rw [half_get z l k hlt, hln] at this
        exact this
      have hl2 : ((half z l k).set k ⟨mtx q, (atK l k).vl⟩).length = l.length := by rw [List.length_set]; exact hln
      have V2 := O2.val k (by omega)
      rw [set_get _ _ _ _ (by omega), if_pos rfl] at V2
      have KB := markByteS_own (q + 1) (us.getD k undef) (atK l k).vl _ V2 (by omega)
      obtain ⟨pu, cu, eu, _⟩ := V2.len
      have B2 := Hid.mk' ((HB.out.trans (Kp.of_below hb)).setCell (q := ⟨g, k * 2, none⟩) (fun e => e.1 rfl) (.string (mtx q)))
      have d1 : (w1.setCell ⟨g, k * 2, none⟩ (.string (mtx q))).cell? ⟨g, k * 2 + 1, none⟩ = some (.slice pu (atK l k).vl.length cu) := by
        obtain ⟨g'', cap'', ev, _, _, hc2⟩ := O2.spot (by omega)
        rw [hl2] at ev
        cases ev
        have := (hc2 k (by omega)).2.1
        rw [this, eu]
      rw [eu] at KB
      have KB := Hid.mk' KB
      have O2 := Hid.mk' O2
      have EU := Hid.mk' eu
      have s2 : (w1.setCell ⟨g, k * 2, none⟩ (.string (mtx q))).heap.size = w1.heap.size := by simp [World.setCell]
      have sb := hb.size
      clear hb O1 KT HR hcell V2 eu c1
      generalize hV : w1.setCell ⟨g, k * 2, none⟩ (.string (mtx q)) = V at *
      go_wp2_with fail
      clear hV
      refine KB.out.mono ?_
      rintro e w2 ⟨rfl, hob, htu⟩
      rw [← EU.out] at hob htu
      have O3 := O2.out.value k (by omega) (mb (q + 1) (atK l k).vl.length) hob htu
      rw [set_get _ _ _ _ (by omega), if_pos rfl, List.set_set, HS.out] at O3
      have O3 := Hid.mk' O3
      have B3 := Hid.mk' (B2.out.trans (Kp.of_turned htu (fun j e => e.2 k hlt)))
      clear hob htu KB
      go_wp2
      go_roundw
      case rel => exact ⟨k + 1, by omega, by go_num, by rw [Q1.out]; simp, O3.out, B3.out⟩
      case measure => simp [intOf]; omega
    · have ci : ¬ (k : Int) < (l.length : Int) := by omega
      have e : k = l.length := by omega
      subst e
      have EH : half z l l.length = mkA z l := by unfold half; rw [List.take_length, List.drop_length, List.append_nil]
      rw [EH] at hoa
      have HO := Hid.mk' hoa
      clear hoa HR
      rw [List.take_length]
      go_wp2
      go_ret
      exact ⟨ret_num (by omega), HO.out, HB.out⟩

set_option maxHeartbeats 3200000 in
theorem heldAttrS_is (z : Nat) (a : Option Addr) (c : Nat) (l : List AT) (w : World) (ha : AAt w a (mkA z l)) (hz : 0 < z) (hz2 : (z : Int) ≤ 90000000) (hl : (l.length : Int) + asz l ≤ 2000000) :
    Calls Tryz.prog 80 #[.slice a l.length c, .int .i64 (z : Int)] w fun e w' => e = .returned (.int .i64 ((z : Int) + (l.length : Int) + (vsz l : Int))) ∧ Below w.heap.size w w' := by
  have HA := Hid.mk' ha
  clear ha
  go_enter Tryz.func80, Tryz.ntmps80
  go_wp2
  go_loopw [1, 5] (fun x i wr => ∃ k : Nat, k ≤ l.length ∧ i = .int .i64 k ∧ x = .int .i64 ((z + k + vsz (l.take k) : Nat) : Int) ∧ Below w.heap.size w wr) (fun _ i _ => l.length - (intOf i).toNat)
  case atStart => exact ⟨0, Nat.zero_le _, rfl, by simp [vsz], Below.refl _ _⟩
  case round =>
    obtain ⟨k, hk, rfl, rfl, hbl⟩ := hrel
    have HB := Hid.mk' hbl
    by_cases hlt : k < l.length
    · have ci : (k : Int) < (l.length : Int) := by omega
      have st := vsz_take l k hlt
      have sl := vsz_le l (k + 1)
      rcases HA.out.below hbl with h0 | ⟨b1, o1, rfl, s1, hc1⟩
      · have := mkA_len z l; rw [h0] at this; simp at this; omega
      obtain ⟨h1, p1, d1, h2, h3⟩ := hc1 k (by rw [mkA_len]; exact hlt)
      rw [mkA_get hlt] at h1 h2 h3
      obtain ⟨q, hq⟩ : ∃ q : Nat, z + k + vsz (l.take k) = q := ⟨_, rfl⟩
      rw [hq] at h1 h2 h3 ⊢
      have hq1 : z + (k + 1) + vsz (l.take (k + 1)) = q + 1 + (atK l k).vl.length := by omega
      have hq2 : q + 1 + (atK l k).vl.length ≤ 100000000 := by omega
      have Q1 := Hid.mk' hq1
      simp only [mb_len] at h1 h2 h3
      have H3 := Hid.mk' h3
      have KT := Hid.mk' (markText_is q wr.drew (by omega) (by omega))
      clear st sl hq hq1 hc1 h3 hbl
      go_wp2_with fail
      go_region_held3 (fun w' => w'.cell? ⟨b1, o1 + k * 2, none⟩ = some (.string (mtx q))) (simp [*])
        ((go_at_call 73; refine KT.out.mono ?_; rintro e w1 ⟨rfl, hb1⟩; replace hb1 := undrew hb1; obtain ⟨hx1, hx2⟩ := bcell hb1))
      have B1 := Hid.mk' (HB.out.trans (hb1.mono HB.out.size))
      have g2 : w1.cell? ⟨b1, o1 + k * 2 + 1, none⟩ = some (.slice p1 (atK l k).vl.length d1) := (hx1 _ _ s1).trans h2
      have KB := Hid.mk' (heldByteS_any p1 d1 (atK l k).vl.length (q + 1) w1 (H3.out.below hb1) (by omega))
      clear hb1 hx1 hx2 KT
      go_wp2_with fail
      refine KB.out.mono ?_
      rintro e w2 ⟨rfl, hb2⟩
      have B2 := Hid.mk' (B1.out.trans (hb2.mono B1.out.size))
      have zz : ¬ (((q + 1 : Nat) : Int) + (atK l k).vl.length < 0) := by omega
      clear hb2 KB
      go_wp2
      go_roundw
      case rel => exact ⟨k + 1, by omega, by go_num, by rw [Q1.out]; simp, B2.out⟩
      case measure => simp [intOf]; omega
    · have ci : ¬ (k : Int) < (l.length : Int) := by omega
      have e : k = l.length := by omega
      subst e
      rw [List.take_length]
      go_wp2
      go_ret
      exact ⟨ret_num (by omega), HB.out⟩

end Go.Proofs.YtkiinnmindmnbaaGreatDoor

namespace Go.Proofs.YtkiinnmindmnbaaGreatDoor
open Go.RowKit

def CpA (l : List AT) (w : World) (e : Ending) (w' : World) : Prop := ∃ v us, e = .returned v ∧ OA w.heap.size w' v l us ∧ Below w.heap.size w w'

theorem asz_at {l : List AT} {k : Nat} (h : k < l.length) : (atK l k).vl.length + (atK l k).nm.size ≤ asz l := by
  have := asz_take l k h
  have := asz_le l (k + 1)
  omega

theorem at_take {l : List AT} {k : Nat} (h : k < l.length) : l.take (k + 1) = l.take k ++ [atK l k] := by
  rw [List.take_add_one, List.getElem?_eq_getElem h]
  simp [atK, List.getD_eq_getElem?_getD, List.getElem?_eq_getElem h]

set_option maxRecDepth 100000 in
set_option maxHeartbeats 6400000 in
theorem l4CopyAttrs_own (a : Option Addr) (c : Nat) (l : List AT) (w : World) (ha : AAt w a l) (hl : (l.length : Int) + asz l ≤ 1048576) :
    Calls Tryz.prog 75 #[.slice a l.length c] w fun e w' => CpA l w e w' := by
  have HA := Hid.mk' ha
  clear ha
  go_enter Tryz.func75, Tryz.ntmps75
  go_wp2
  go_loopw [3, 4] (fun v i wr => ∃ (k : Nat) (us : List Value), k ≤ l.length ∧ i = .int .i64 k ∧ OA w.heap.size wr v (l.take k) us ∧ Below w.heap.size w wr) (fun _ i _ => l.length - (intOf i).toNat)
  case atStart => exact ⟨0, [], Nat.zero_le _, rfl, ⟨rfl, by simpa [acs] using World.ownsRow_lit (base := w.heap.size) (e := 120) (size := 2) w #[] 0 (Nat.le_refl _) (by decide) rfl, fun j h => absurd h (by simp), fun j h => absurd h (by simp), fun i j _ h => absurd h (by simp), fun j h => absurd h (by simp)⟩, below_new _ _⟩
  case round =>
    obtain ⟨k, us, hk, rfl, hoa, hbl⟩ := hrel
    have HB := Hid.mk' hbl
    obtain ⟨av, cv, ev, _⟩ := own_cap hoa.row
    have lt_ : (l.take k).length = k := by rw [List.length_take]; omega
    rw [lt_] at ev
    subst ev
    by_cases hlt : k < l.length
    · have ci : (k : Int) < (l.length : Int) := by omega
      rcases HA.out with h0 | ⟨b1, o1, rfl, s0, hc1⟩
      · exact absurd hlt (by rw [h0]; exact Nat.not_lt_zero _)
      obtain ⟨h1, p1, d1, h2, h3⟩ := hc1 k hlt
      replace h1 := (hbl.cell s0).trans h1
      replace h2 := (hbl.cell s0).trans h2
      replace h3 := h3.below hbl
      have s1 := Nat.lt_of_lt_of_le s0 hbl.size
      have sz1 : (atK l k).vl.length + (atK l k).nm.size ≤ asz l := asz_at hlt
      have AT1 := Hid.mk' (at_take hlt)
      have HO := Hid.mk' hoa
      have H3 := Hid.mk' h3
      clear hc1 h3 hoa
      go_wp2_with fail
      have GNE : Hid (∀ j, (Value.slice av k cv).ownBlock = some j → ¬ j = b1) := Hid.mk' (fun j e ej => by subst ej; have := (HO.out.row.lt j e).1; omega)
      refine wp_region_held_drew (S := fun w' => w'.cell? ⟨b1, o1 + k * 2, none⟩ = some (.string (atK l k).nm) ∧ w'.cell? ⟨b1, o1 + k * 2 + 1, none⟩ = some (.slice p1 (atK l k).vl.length d1)) (by kernel_rfl) (by simp [*]) (fun hHeld => ?_)
      refine wpAnyH_take (i := 0) (oi := ⟨_, _, _, _, _, _⟩) (v := ?_) rfl (by kernel_rfl) (by kernel_rfl) (by kernel_rfl) (fun _ _ _ h => h) (Or.inl ⟨by rfl, ?_⟩) (by assumption) ?_
      rotate_left
      · (intro w hSw; (try dsimp only at hSw); go_simp; (try with_reducible rfl))
      try simp only [Act.put, zA, zB, zC]
      refine wpAnyH_take (i := 1) (oi := ⟨_, _, _, _, _, _⟩) (v := ?_) rfl (by kernel_rfl) (by kernel_rfl) (by kernel_rfl) (fun _ _ _ h => h) (Or.inl ⟨by rfl, ?_⟩) (by assumption) ?_
      rotate_left
      · (intro w hSw; (try dsimp only at hSw); go_simp; (try with_reducible rfl))
      try simp only [Act.put, zA, zB, zC]
      refine wpAnyH_take (i := 2) (oi := ⟨_, _, _, _, _, _⟩) (v := ?_) rfl (by kernel_rfl) (by kernel_rfl) (by kernel_rfl) (fun _ _ _ h => h) (Or.inl ⟨by rfl, ?_⟩) (by assumption) ?_
      rotate_left
      · (intro w hSw; (try dsimp only at hSw); go_simp; (try with_reducible rfl))
      try simp only [Act.put, zA, zB, zC]
      refine wpAnyH_take (i := 3) (oi := ⟨_, _, _, _, _, _⟩) (v := ?_) rfl (by kernel_rfl) (by kernel_rfl) (by kernel_rfl) (fun _ _ _ h => h) (Or.inl ⟨by rfl, ?_⟩) (by assumption) ?_
      rotate_left
      · (intro w hSw; (try dsimp only at hSw); go_simp; (try with_reducible rfl))
      try simp only [Act.put, zA, zB, zC]
      refine wpAnyH_take (i := 4) (oi := ⟨_, _, _, _, _, _⟩) (v := ?_) rfl (by kernel_rfl) (by kernel_rfl) (by kernel_rfl) (fun _ _ _ h => h) (Or.inl ⟨by rfl, ?_⟩) (by assumption) ?_
      rotate_left
      · (intro w hSw; (try dsimp only at hSw); go_simp; (try with_reducible rfl))
      try simp only [Act.put, zA, zB, zC]
      refine wpAnyH_take (i := 5) (oi := ⟨_, _, _, _, _, _⟩) (v := ?_) rfl (by kernel_rfl) (by kernel_rfl) (by kernel_rfl) (fun _ _ _ h => h) (Or.inl ⟨by rfl, ?_⟩) (by assumption) ?_
      rotate_left
      · (intro w hSw; (try dsimp only at hSw); go_simp; (try with_reducible rfl))
      try simp only [Act.put, zA, zB, zC]
      refine wpAnyH_take (i := 6) (oi := ⟨_, _, _, _, _, _⟩) (v := ?_) rfl (by kernel_rfl) (by kernel_rfl) (by kernel_rfl) (fun _ _ _ h => h) (Or.inl ⟨by rfl, ?_⟩) (by assumption) ?_
      rotate_left
      · (intro w hSw; (try dsimp only at hSw); go_simp; (try with_reducible rfl))
      try simp only [Act.put, zA, zB, zC]
      refine wpAnyH_take (i := 7) (oi := ⟨_, _, _, _, _, _⟩) (v := ?_) rfl (by kernel_rfl) (by kernel_rfl) (by kernel_rfl) (fun _ _ _ h => h) (Or.inl ⟨by rfl, ?_⟩) (by assumption) ?_
      rotate_left
      · (intro w hSw; (try dsimp only at hSw); go_simp; (try with_reducible rfl))
      try simp only [Act.put, zA, zB, zC]
      refine wpAnyH_take (i := 8) (oi := ⟨_, _, _, _, _, _⟩) (v := ?_) rfl (by kernel_rfl) (by kernel_rfl) (by kernel_rfl) (fun _ _ _ h => h) (Or.inl ⟨by rfl, ?_⟩) (by assumption) ?_
      rotate_left
      · (intro w hSw; (try dsimp only at hSw); go_simp; (try with_reducible rfl))
      try simp only [Act.put, zA, zB, zC]
      refine wpAnyH_take (i := 9) (oi := ⟨_, _, _, _, _, _⟩) (v := ?_) rfl (by kernel_rfl) (by kernel_rfl) (by kernel_rfl) (fun _ _ _ h => h) (Or.inl ⟨by rfl, ?_⟩) (by assumption) ?_
      rotate_left
      · (intro w hSw; (try dsimp only at hSw); go_simp; (try with_reducible rfl))
      try simp only [Act.put, zA, zB, zC]
      refine wpAnyH_take (i := 10) (oi := ⟨_, _, _, _, _, _⟩) (v := ?_) rfl (by kernel_rfl) (by kernel_rfl) (by kernel_rfl) (fun _ _ _ h => h) (Or.inl ⟨by rfl, ?_⟩) (by assumption) ?_
      rotate_left
      · (intro w hSw; (try dsimp only at hSw); go_simp; (try with_reducible rfl))
      try simp only [Act.put, zA, zB, zC]
      refine wpAnyH_ready (rs := [11]) (by kernel_rfl) (by simp) ?_
      refine AllReadyH.cons (o := ⟨_, _, _, _, _, _⟩) rfl (fun K hK => ?_) AllReadyH.nil
      go_simp
      go_at_call 48
      refine (l1Copy_own p1 d1 (atK l k).vl wr.drew (H3.out.below (Below.refl _ _).drew) (by omega)).mono ?_
      rintro e w2 ⟨u, rfl, hu, hb2⟩
      replace hb2 := undrew hb2
      obtain ⟨pu, cu, eu, _⟩ := own_cap hu
      subst eu
      have z0 := (hb2.cell s1).trans h1
      have z1 := (hb2.cell s1).trans h2
      have z2 := Nat.lt_of_lt_of_le s1 hb2.size
      have B2 : Hid (Below wr.heap.size wr w2) := Hid.mk' hb2
      have LO1 : Hid (wr.heap.size ≤ wr.heap.size) := Hid.mk' (Nat.le_refl _)
      have HU := Hid.mk' hu
      clear hb2 hu
      refine hK.out _ _ ⟨z0, z1⟩ (fun hHeld => ?_)
      clear hK K
      try simp only [Act.put, zA, zB, zC]
      refine wpAnyH_take (i := 12) (oi := ⟨_, _, _, _, _, _⟩) (v := ?_) rfl (by kernel_rfl) (by kernel_rfl) (by kernel_rfl) (fun _ _ _ h => h) (Or.inl ⟨by rfl, ?_⟩) (by assumption) ?_
      rotate_left
      · (intro w hSw; (try dsimp only at hSw); go_simp; (try with_reducible rfl))
      try simp only [Act.put, zA, zB, zC]
      refine wpAnyH_ready (rs := [13]) (by kernel_rfl) (by simp) ?_
      refine AllReadyH.cons (o := ⟨_, _, _, _, _, _⟩) rfl (fun K hK => ?_) AllReadyH.nil
      go_simp
      have NN := below_new w2 (.cells #[.string (atK l k).nm, .slice pu (atK l k).vl.length cu] 120)
      have q0 := (NN.cell z2).trans z0
      have q1 := (NN.cell z2).trans z1
      have q2 := Nat.lt_of_lt_of_le z2 NN.size
      have B3 : Hid (Below wr.heap.size wr _) := Hid.mk' (B2.out.trans (NN.mono B2.out.size))
      have OW := Hid.mk' (HO.out.below B3.out)
      have HU2 := Hid.mk' (own_keep HU.out NN)
      clear NN
      refine hK.out _ _ ⟨q0, q1⟩ (fun hHeld => ?_)
      clear hK K
      try simp only [Act.put, zA, zB, zC]
      refine wpAnyH_ready (rs := [14]) (by kernel_rfl) (by simp) ?_
      refine AllReadyH.cons (o := ⟨_, _, _, _, _, _⟩) rfl (fun K hK => ?_) AllReadyH.nil
      refine step_append_at rfl (.tmp 12) (.tmp 25) 99 rfl w.heap.size 120 (.agg #[.string ⟨#[]⟩, .slice none 0 0]) 2 40 Tryz.underlying99 Tryz.info120 rfl (by decide) _ k _ rfl (by have := OW.out.row; rw [lt_] at this; exact this) _ 1 _ [.string (atK l k).nm, .slice pu (atK l k).vl.length cu] rfl rfl (.inr ⟨_, rfl, one_attr w2 _ _ _ _ rfl⟩) (by simp [Value.oneCell']) (by unfold maxLen; omega) (by omega) (Nat.le_trans HB.out.size B3.out.size) ?_
      intro v' w4 ho hgr hat
      have ho' : w4.ownsRow w.heap.size 120 2 v' ((l.take k).length + 1) (acs (l.take k) us ++ [.string (atK l k).nm, .slice pu (atK l k).vl.length cu]) := by rw [lt_]; exact ho
      have A4 := HO.out.app (w1 := w2.alloc (.cells #[.string (atK l k).nm, .slice pu (atK l k).vl.length cu] 120)) (w2 := w4) (a := atK l k) (u := .slice pu (atK l k).vl.length cu) B3.out (OB.of_own HU2.out).1 HB.out.size (fun j e => Nat.le_trans LO1.out ((OB.of_own HU2.out).2 j e)) ho' hgr hat
      rw [← AT1.out] at A4
      have HA4 := Hid.mk' A4
      have HB4 := Hid.mk' ((HB.out.trans (B3.out.mono HB.out.size)).grown hgr (Nat.le_trans HB.out.size B3.out.size) (own_lo OW.out.row))
      have gne : ∀ j, (Value.slice av k cv).ownBlock = some j → ¬ j = b1 := fun j e => GNE.out j e
      have r0 := hgr.cell q0 (fun e => gne _ e.symm rfl)
      have r1 := hgr.cell q1 (fun e => gne _ e.symm rfl)
      clear ho ho' hgr hat A4
      refine hK.out _ _ ⟨r0, r1⟩ (fun hHeld => ?_)
      clear hK K
      try simp only [Act.put, zA, zB, zC]
      refine wpAnyH_take (i := 15) (oi := ⟨_, _, _, _, _, _⟩) (v := ?_) rfl (by kernel_rfl) (by kernel_rfl) (by kernel_rfl) (fun _ _ _ h => h) (Or.inl ⟨by rfl, ?_⟩) (by assumption) ?_
      rotate_left
      · (intro w hSw; (try dsimp only at hSw); go_simp; (try with_reducible rfl))
      try simp only [Act.put, zA, zB, zC]
      refine wpAnyH_done (by kernel_rfl) ?_ _
      obtain ⟨aw, cw, ew, _⟩ := own_cap HA4.out.row
      subst ew
      go_wp2
      go_roundw
      case rel => exact ⟨k + 1, _, by omega, by go_num, HA4.out, HB4.out⟩
      case measure => simp [intOf]; omega
    · have ci : ¬ (k : Int) < (l.length : Int) := by omega
      have e : k = l.length := by omega
      subst e
      rw [List.take_length] at hoa
      have HO := Hid.mk' hoa
      clear hoa hbl
      go_wp2
      go_ret
      exact ⟨_, us, rfl, HO.out, HB.out⟩

set_option maxRecDepth 100000 in
set_option maxHeartbeats 6400000 in
theorem l4Copy_any (a : Option Addr) (c : Nat) (l : List TK) (w : World) (ha : TsAt w a l) (hl : (l.length : Int) + tssz l ≤ 1048576) :
    Calls Tryz.prog 54 #[.slice a l.length c] w fun e w' => ∃ v us, e = .returned v ∧ TokS w.heap.size w' v l us ∧ Below w.heap.size w w' := by
  have HA := Hid.mk' ha
  clear ha
  go_enter Tryz.func54, Tryz.ntmps54
  go_wp2
  go_loopw [3, 4] (fun v i wr => ∃ (k : Nat) (us : List Value), k ≤ l.length ∧ i = .int .i64 k ∧ TokS w.heap.size wr v (l.take k) us ∧ Below w.heap.size w wr) (fun _ i _ => l.length - (intOf i).toNat)
  case atStart => exact ⟨0, [], Nat.zero_le _, rfl, ⟨rfl, by simpa [tcs] using World.ownsRow_lit (base := w.heap.size) (e := 101) (size := 5) w #[] 0 (Nat.le_refl _) (by decide) rfl, fun u h => absurd h (by simp), fun i t u h => absurd h (by simp)⟩, below_new _ _⟩
  case round =>
    obtain ⟨k, us, hk, rfl, hts, hbl⟩ := hrel
    have HB := Hid.mk' hbl
    have lt_ : (l.take k).length = k := by rw [List.length_take]; omega
    by_cases hlt : k < l.length
    · have ci : (k : Int) < (l.length : Int) := by omega
      rcases HA.out with ha | ⟨b, o, rfl, hbs, hc⟩
      · exact absurd hlt (by rw [ha]; exact Nat.not_lt_zero _)
      obtain ⟨q1, q2, q3, ⟨p, d, q4, q5⟩, q6⟩ := hc k hlt
      have h1 := (hbl.cell hbs).trans q1
      have h2 := (hbl.cell hbs).trans q2
      have h3 := (hbl.cell hbs).trans q3
      have h4 := (hbl.cell hbs).trans q4
      have h6 := (hbl.cell hbs).trans q6
      have st := tssz_take l k hlt
      have sl := tssz_le l (k + 1)
      unfold tsz at st
      have N1 := below_new wr (.cells #[.int .i64 (tkK l k).kd, .int .i64 (tkK l k).by_, .string (tkK l k).nm, .slice p (tkK l k).at_.length d, .bool (tkK l k).sh] 101)
      have KA := Hid.mk' (l4CopyAttrs_own p d (tkK l k).at_ _ ((q5.below hbl).below N1) (by omega))
      have RT := Hid.mk' (row5 wr 101 (.int .i64 (tkK l k).kd) (.int .i64 (tkK l k).by_) (.string (tkK l k).nm) (.slice p (tkK l k).at_.length d) (.bool (tkK l k).sh))
      have HN := Hid.mk' N1
      have HT := Hid.mk' hts
      have E1 : Hid (l.take (k + 1) = l.take k ++ [tkK l k]) := Hid.mk' (by rw [List.take_succ_eq_append_getElem hlt]; unfold tkK; simp [hlt])
      obtain ⟨av, cv, ev, _⟩ := own_cap hts.row
      rw [lt_] at ev
      subst ev
      have ZW : Hid ((wr.alloc (.cells #[.int .i64 (tkK l k).kd, .int .i64 (tkK l k).by_, .string (tkK l k).nm, .slice p (tkK l k).at_.length d, .bool (tkK l k).sh] 101)).heap.size = wr.heap.size + 1) := Hid.mk' (by simp)
      clear q1 q2 q3 q4 q5 q6 hc st sl N1 hts hbl
      generalize hW : wr.alloc (.cells #[.int .i64 (tkK l k).kd, .int .i64 (tkK l k).by_, .string (tkK l k).nm, .slice p (tkK l k).at_.length d, .bool (tkK l k).sh] 101) = W at *
      obtain ⟨x0, x1, x2, x3, x4, x5⟩ := cells5 RT.out
      go_wp2_with fail
      clear hW h1 h2 h3 h4 h6 x0 x1 x2 x3 x4 x5
      refine KA.out.mono ?_
      rintro e w2 ⟨va, ats, rfl, oa, hb2⟩
      obtain ⟨pa, cb, rfl, _⟩ := own_cap oa.row
      have R2 := Hid.mk' (rowB RT.out hb2)
      have M2 := HN.out.trans (hb2.mono HN.out.size)
      have B3 : Below wr.heap.size wr (w2.setCell ⟨wr.heap.size, 3, none⟩ (.slice pa (tkK l k).at_.length cb)) := M2.setCell (p := ⟨wr.heap.size, 3, none⟩) (Nat.le_refl _) _
      have N4 := below_new (w2.setCell ⟨wr.heap.size, 3, none⟩ (.slice pa (tkK l k).at_.length cb)) (.cells #[.int .i64 (tkK l k).kd, .int .i64 (tkK l k).by_, .string (tkK l k).nm, .slice pa (tkK l k).at_.length cb, .bool (tkK l k).sh] 101)
      have B4 := Hid.mk' (B3.trans (N4.mono B3.size))
      have NC := Hid.mk' (new_cells' (w2.setCell ⟨wr.heap.size, 3, none⟩ (.slice pa (tkK l k).at_.length cb)) 101 [.int .i64 (tkK l k).kd, .int .i64 (tkK l k).by_, .string (tkK l k).nm, .slice pa (tkK l k).at_.length cb, .bool (tkK l k).sh] w2.heap.size (by simp))
      have OV := Hid.mk' (own_keep HT.out.row B4.out)
      have SZ : Hid (w.heap.size ≤ ((w2.setCell ⟨wr.heap.size, 3, none⟩ (.slice pa (tkK l k).at_.length cb)).alloc (.cells #[.int .i64 (tkK l k).kd, .int .i64 (tkK l k).by_, .string (tkK l k).nm, .slice pa (tkK l k).at_.length cb, .bool (tkK l k).sh] 101)).heap.size) := Hid.mk' (Nat.le_trans HB.out.size B4.out.size)
      have P1 : Hid (∀ u ∈ ([.int .i64 (tkK l k).kd, .int .i64 (tkK l k).by_, .string (tkK l k).nm, .slice pa (tkK l k).at_.length cb, .bool (tkK l k).sh] : List Value), u.oneCell' = true) := Hid.mk' (by
        intro u hu'
        simp only [List.mem_cons, List.not_mem_nil, or_false] at hu'
        rcases hu' with rfl | rfl | rfl | rfl | rfl <;> rfl)
      have TI : Hid (TokIn wr.heap.size ((w2.setCell ⟨wr.heap.size, 3, none⟩ (.slice pa (tkK l k).at_.length cb)).alloc (.cells #[.int .i64 (tkK l k).kd, .int .i64 (tkK l k).by_, .string (tkK l k).nm, .slice pa (tkK l k).at_.length cb, .bool (tkK l k).sh] 101)) (Value.slice av k cv).ownBlock (tkK l k) (.slice pa (tkK l k).at_.length cb)) := Hid.mk' (.inr ⟨W.heap.size, w2, ats, by rw [ZW.out]; omega, oa, by simp, fun q h5 h7 => (N4.block q (by simpa using h7)).trans (Below.heap_setCell _ _ _ _ (by rw [ZW.out] at h5; simp; omega)), fun q e => .inl (by have := (HT.out.row.lt q e).2; rw [ZW.out]; omega)⟩)
      obtain ⟨x0, x1, x2, x3, x4, x5⟩ := cells5 R2.out
      have f3 := R2.out.frozen 3
      clear B3 N4 M2 oa hb2 KA RT
      have OV2 : Hid (World.ownsRow ((w2.setCell ⟨wr.heap.size, 3, none⟩ (.slice pa (tkK l k).at_.length cb)).alloc (.cells #[.int .i64 (tkK l k).kd, .int .i64 (tkK l k).by_, .string (tkK l k).nm, .slice pa (tkK l k).at_.length cb, .bool (tkK l k).sh] 101)) w.heap.size 101 5 (.slice av k cv) k (tcs (l.take k) us)) := Hid.mk' (by have := OV.out; rwa [lt_] at this)
      go_wp2_with (at_builtin; refine wpList_append_at _ rfl (.tmp 21) (.tmp 23) 23 rfl w.heap.size 101 (.agg #[.int .i64 0, .int .i64 0, .string ⟨#[]⟩, .slice none 0 0, .bool false]) 5 64 Tryz.underlying23 Tryz.infoTok rfl (by decide) _ _ _ rfl OV2.out _ 1 _ [.int .i64 (tkK l k).kd, .int .i64 (tkK l k).by_, .string (tkK l k).nm, .slice pa (tkK l k).at_.length cb, .bool (tkK l k).sh] rfl rfl (.inr ⟨_, rfl, NC.out⟩) P1.out (by unfold maxLen; omega) (by omega) SZ.out ?_; intro v' w5 ho hgr hat)
      have T5 := HT.out.app (w1 := ((w2.setCell ⟨wr.heap.size, 3, none⟩ (.slice pa (tkK l k).at_.length cb)).alloc (.cells #[.int .i64 (tkK l k).kd, .int .i64 (tkK l k).by_, .string (tkK l k).nm, .slice pa (tkK l k).at_.length cb, .bool (tkK l k).sh] 101))) (w2 := w5) (v' := v') (ts1 := [tkK l k]) (us1 := [.slice pa (tkK l k).at_.length cb]) B4.out HB.out.size (fun i t u ht hu => by
        cases i with
        | succ i => simp at ht
        | zero => simp at ht hu; subst ht hu; exact TI.out) rfl (fun u hu => by rw [List.mem_singleton] at hu; rw [hu]; rfl) (by rw [lt_]; exact ho) hgr hat
      rw [← E1.out] at T5
      have HT5 := Hid.mk' T5
      have HB5 := Hid.mk' ((HB.out.trans (B4.out.mono HB.out.size)).grown hgr SZ.out (own_lo OV2.out))
      clear T5 ho hgr hat
      go_roundw
      case rel => exact ⟨k + 1, _, by omega, by go_num, HT5.out, HB5.out⟩
      case measure => simp [intOf]; omega
    · have ci : ¬ (k : Int) < (l.length : Int) := by omega
      have e : k = l.length := by omega
      subst e
      rw [List.take_length] at hts
      have HT := Hid.mk' hts
      clear hts hbl
      go_wp2
      go_ret
      exact ⟨_, rfl, ⟨us, HT.out⟩, HB.out⟩

end Go.Proofs.YtkiinnmindmnbaaGreatDoor
