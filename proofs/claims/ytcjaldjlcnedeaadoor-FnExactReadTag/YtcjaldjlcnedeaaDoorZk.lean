/- Marks in attributes of one's own, and that they are held. -/
import Derived.Test.YtcjaldjlcnedeaaDoorZj
import Derived.Test.YtcjaldjlcnedeaaDoorTl
namespace Go.Proofs.YtcjaldjlcnedeaaDoor
open Go.RowKit
set_option linter.unusedVariables false
set_option linter.unusedSimpArgs false

/-- The text of a mark. -/
def dgs : Nat → Nat → ByteArray → ByteArray
  | 0, _, s => s
  | f + 1, m, s => if m = 0 then s else dgs f (m / 10) (strI [48 + (m : Int) % 10] ++ s)
theorem dgs_zero (f : Nat) (s : ByteArray) : dgs f 0 s = s := by cases f <;> simp [dgs]
theorem dgs_step (f m : Nat) (s : ByteArray) (h : 0 < m) (hf : m ≤ f) : ∃ f', m / 10 ≤ f' ∧ dgs f m s = dgs f' (m / 10) (strI [48 + (m : Int) % 10] ++ s) := by
  cases f with
  | zero => omega
  | succ f => exact ⟨f, by omega, by simp [dgs]; omega⟩
def mtx (k : Nat) : ByteArray := ⟨#[109]⟩ ++ dgs k k ⟨#[]⟩

set_option maxHeartbeats 1600000 in
theorem markText_is (k : Nat) (w : World) (h0 : 0 < k) (hk : k ≤ 100000000) :
    Calls Tryd.prog 71 #[.int .i64 k] w fun e w' => e = .returned (.string (mtx k)) ∧ Below w.heap.size w w' := by
  have k0 : ¬ (k : Int) ≤ 0 := by omega
  go_enter Tryd.func71, Tryd.ntmps71
  go_wp2
  go_loopw [0, 3] (fun x o wr => ∃ (m f : Nat) (s : ByteArray), x = .int .i64 m ∧ m ≤ 100000000 ∧ o = .string s ∧ s.size + m ≤ 100000001 ∧ m ≤ f ∧ dgs f m s = dgs k k ⟨#[]⟩ ∧ Below w.heap.size w wr) (fun x _ _ => (intOf x).toNat)
  case atStart => exact ⟨k, k, ⟨#[]⟩, rfl, hk, rfl, by have : (⟨#[]⟩ : ByteArray).size = 0 := rfl; omega, Nat.le_refl _, rfl, Below.refl _ _⟩
  case round =>
    obtain ⟨m, f, s, rfl, hm, rfl, hs, hf, hd, hbl⟩ := hrel
    have HB := Hid.mk' hbl
    have HD := Hid.mk' hd
    clear hbl hd
    by_cases hz : 0 < m
    · have ci : (m : Int) > 0 := by omega
      have hcv := conv_one wr
      have hst := strI_one (48 + (m : Int) % 10)
      obtain ⟨f', hf', hd'⟩ := dgs_step f m s hz hf
      have HD' := Hid.mk' hd'
      clear hd'
      go_wp2
      go_roundw
      case rel => exact ⟨m / 10, f', _, by go_num, by omega, rfl, by rw [ByteArray.size_append, hst]; omega, hf', by rw [← HD.out, HD'.out], HB.out.alloc HB.out.size _⟩
      case measure => simp [intOf]; omega
    · have ci : ¬ (m : Int) > 0 := by omega
      have em : m = 0 := by omega
      subst em
      have E : Hid (⟨#[109]⟩ ++ s = mtx k) := Hid.mk' (by unfold mtx; rw [← HD.out, dgs_zero])
      go_wp2
      go_ret
      exact ⟨by rw [← E.out]; rfl, HB.out⟩

/-- Marks, from k on. -/
def mkA : Nat → List AT → List AT
  | _, [] => []
  | k, a :: l => ⟨mtx k, mb (k + 1) a.vl.length⟩ :: mkA (k + 1 + a.vl.length) l
theorem mkA_len : ∀ (k : Nat) (l : List AT), (mkA k l).length = l.length
  | _, [] => rfl
  | k, a :: l => by simp [mkA, mkA_len]
theorem mkA_snoc : ∀ (k : Nat) (l : List AT) (a : AT), mkA k (l ++ [a]) = mkA k l ++ [⟨mtx (k + l.length + vsz l), mb (k + l.length + vsz l + 1) a.vl.length⟩]
  | k, [], a => by simp [mkA, vsz]
  | k, b :: l, a => by
    simp only [List.cons_append, mkA, mkA_snoc (k + 1 + b.vl.length) l a, List.length_cons, vsz]
    rw [show k + 1 + b.vl.length + l.length + vsz l = k + (l.length + 1) + (b.vl.length + vsz l) from by omega]
theorem mkA_get {k : Nat} {l : List AT} {i : Nat} (h : i < l.length) : atK (mkA k l) i = ⟨mtx (k + i + vsz (l.take i)), mb (k + i + vsz (l.take i) + 1) (atK l i).vl.length⟩ := by
  induction l generalizing k i with
  | nil => exact absurd h (Nat.not_lt_zero _)
  | cons b l ih =>
    cases i with
    | zero => simp [mkA, atK, vsz]
    | succ i =>
      have := ih (k := k + 1 + b.vl.length) (i := i) (by simpa using h)
      have e1 : atK (mkA k (b :: l)) (i + 1) = atK (mkA (k + 1 + b.vl.length) l) i := by simp [mkA, atK]
      have e2 : atK (b :: l) (i + 1) = atK l i := by simp [atK]
      rw [e1, this, e2]
      simp only [List.take_succ_cons, vsz]
      rw [show k + 1 + b.vl.length + i + vsz (l.take i) = k + (i + 1) + (b.vl.length + vsz (l.take i)) from by omega]

theorem acs_set : ∀ (l : List AT) (us : List Value) (i : Nat) (a : AT), us.length = l.length → i < l.length → acs (l.set i a) us = (acs l us).set (i * 2) (.string a.nm)
  | [], us, i, a, _, h => absurd h (Nat.not_lt_zero _)
  | b :: l, [], i, a, h, _ => by simp at h
  | b :: l, u :: us, 0, a, h, _ => by simp [acs]
  | b :: l, u :: us, i + 1, a, h, hi => by
    have := acs_set l us i a (by simpa using h) (by simpa using hi)
    rw [show (i + 1) * 2 = i * 2 + 1 + 1 from by omega]
    simp [acs, this]

/-- A cell of one's own row is turned. -/
theorem own_cell {w : World} {base g n cap : Nat} {e : TypeId} {xs : List Value} (h : w.ownsRow base e 2 (.slice (some ⟨g, 0, none⟩) n cap) n xs) (j : Nat) (hj : j < n * 2) (x : Value) : (w.setCell ⟨g, j, none⟩ x).ownsRow base e 2 (.slice (some ⟨g, 0, none⟩) n cap) n (xs.set j x) := by
  refine ⟨by rw [List.length_set]; exact h.1, .inr ?_⟩
  rcases h.2 with ⟨h0, _⟩ | ⟨g', cap', cur, hv, hg, hh, hc, hm, hs, ht⟩
  · cases h0
  · cases hv
    refine ⟨g, cap, cur.setIfInBounds j x, rfl, hg, ?_, hc, hm, by simpa using hs, ?_⟩
    · simp [World.setCell, Array.getElem?_modify, hh]
    · rw [← ht]
      simp [List.take_set]

theorem set_get (l : List AT) (i j : Nat) (a : AT) (h : i < l.length) : atK (l.set i a) j = if j = i then a else atK l j := by
  unfold atK
  by_cases e : j = i
  · subst e; simp [List.getD_eq_getElem?_getD, h]
  · rw [if_neg e]; simp [List.getD_eq_getElem?_getD, List.getElem?_set, Ne.symm e]

theorem OA.name {lo g cap : Nat} {w : World} {l : List AT} {us : List Value} (h : OA lo w (.slice (some ⟨g, 0, none⟩) l.length cap) l us) (i : Nat) (hi : i < l.length) (s : ByteArray) : OA lo (w.setCell ⟨g, i * 2, none⟩ (.string s)) (.slice (some ⟨g, 0, none⟩) l.length cap) (l.set i ⟨s, (atK l i).vl⟩) us := by
  have hg : ∀ j, j < l.length → ∀ k, (us.getD j undef).ownBlock = some k → k ≠ g := fun j hj k e ek => h.av j hj k (by rw [ek]; rfl) e
  refine ⟨by rw [List.length_set]; exact h.len, ?_, fun j hj => ?_, fun j hj => h.vlo j (by simpa using hj), fun a b hab hb => h.ap a b hab (by simpa using hb), fun j hj => h.av j (by simpa using hj)⟩
  · rw [acs_set l us i _ h.len hi, List.length_set]
    exact own_cell h.row (i * 2) (by omega) _
  · rw [List.length_set] at hj
    rw [set_get l i j _ hi]
    have : OB (w.setCell ⟨g, i * 2, none⟩ (.string s)) (us.getD j undef) (atK l j).vl := (h.val j hj).keep (fun k e _ => Deep.blk_setCell_other _ _ _ _ (hg j hj k e))
    by_cases e : j = i
    · subst e; rw [if_pos rfl]; exact this
    · rw [if_neg e]; exact this

theorem set_same {α : Type} : ∀ (l : List α) (i : Nat) (x : α), l[i]? = some x → l.set i x = l
  | [], i, x, h => by simp at h
  | a :: l, 0, x, h => by simp at h; simp [h]
  | a :: l, i + 1, x, h => by simp at h; simp [set_same l i x h]

theorem OA.value {lo : Nat} {w w' : World} {v : Value} {l : List AT} {us : List Value} (h : OA lo w v l us) (i : Nat) (hi : i < l.length) (m : List Int) (ho : OB w' (us.getD i undef) m) (ht : Turned (us.getD i undef) w w') : OA lo w' v (l.set i ⟨(atK l i).nm, m⟩) us := by
  have hb : ∀ k, k < w.heap.size → (us.getD i undef).ownBlock ≠ some k → w'.heap[k]? = w.heap[k]? := fun k hk hn => ht.block k hk hn
  have nms : acs (l.set i ⟨(atK l i).nm, m⟩) us = acs l us := by
    rw [acs_set l us i _ h.len hi]
    have := (acs_get l us i h.len hi).1
    exact set_same _ _ _ this
  refine ⟨by rw [List.length_set]; exact h.len, ?_, fun j hj => ?_, fun j hj => h.vlo j (by simpa using hj), fun a b hab hb' => h.ap a b hab (by simpa using hb'), fun j hj => h.av j (by simpa using hj)⟩
  · rw [nms, List.length_set]
    exact own_of h.row (Nat.le_refl _) (fun k e _ => hb k (h.row.lt k e).2 (fun e2 => h.av i hi k e e2))
  · rw [List.length_set] at hj
    rw [set_get l i j _ hi]
    by_cases e : j = i
    · subst e; rw [if_pos rfl]; exact ho
    · rw [if_neg e]
      refine (h.val j hj).keep (fun k e1 hl => hb k hl (fun e2 => ?_))
      rcases Nat.lt_or_gt_of_ne e with hlt | hgt
      · exact h.ap j i hlt hi k e1 e2
      · exact h.ap i j hgt hj k e2 e1

/-- The block of a row of attributes. -/
theorem OA.spot {lo : Nat} {w : World} {v : Value} {l : List AT} {us : List Value} (h : OA lo w v l us) (hl : 0 < l.length) : ∃ g cap, v = .slice (some ⟨g, 0, none⟩) l.length cap ∧ lo ≤ g ∧ g < w.heap.size ∧ ∀ k, k < l.length → w.cell? ⟨g, k * 2, none⟩ = some (.string (atK l k).nm) ∧ w.cell? ⟨g, k * 2 + 1, none⟩ = some (us.getD k undef) ∧ w.frozen? ⟨g, k * 2, none⟩ = false := by
  rcases h.row.2 with ⟨rfl, h0⟩ | ⟨g, cap, cur, rfl, hg, hh, hc, hm, hs, ht⟩
  · omega
  · refine ⟨g, cap, rfl, hg, ?_, fun k hk => ?_⟩
    · exact Nat.lt_of_not_le fun hn => by rw [Array.getElem?_eq_none hn] at hh; cases hh
    · obtain ⟨h1, h2⟩ := acs_get l us k h.len hk
      rw [← ht] at h1 h2
      rw [List.getElem?_take_of_lt (by omega)] at h1 h2
      have q : ∀ i, w.cell? ⟨g, i, none⟩ = cur[i]? := fun i => Lib.cell_of_heap hh i
      exact ⟨by rw [q, ← h1]; simp, by rw [q, ← h2]; simp, Lib.frozen_of_heap hh _⟩

/-- k of them are marked. -/
def half (l : List AT) (k : Nat) : List AT := mkA 1 (l.take k) ++ l.drop k
theorem half_len (l : List AT) (k : Nat) : (half l k).length = l.length := by simp [half, mkA_len]; omega
theorem half_get (l : List AT) (k : Nat) (h : k < l.length) : atK (half l k) k = atK l k := by
  have e : (mkA 1 (l.take k)).length = k := by rw [mkA_len, List.length_take]; omega
  unfold half atK
  rw [List.getD_eq_getElem?_getD, List.getElem?_append_right (by omega), e, Nat.sub_self, List.getElem?_drop, Nat.add_zero, ← List.getD_eq_getElem?_getD]
theorem half_set (l : List AT) (k : Nat) (h : k < l.length) : (half l k).set k ⟨mtx (1 + k + vsz (l.take k)), mb (1 + k + vsz (l.take k) + 1) (atK l k).vl.length⟩ = half l (k + 1) := by
  have e : (mkA 1 (l.take k)).length = k := by rw [mkA_len, List.length_take]; omega
  have e2 : l.take (k + 1) = l.take k ++ [atK l k] := by
    rw [List.take_add_one, List.getElem?_eq_getElem h]
    simp [atK, List.getD_eq_getElem?_getD, List.getElem?_eq_getElem h]
  have e3 : (l.take k).length = k := by rw [List.length_take]; omega
  unfold half
  rw [e2, mkA_snoc, e3, List.set_append_right _ _ (by omega), e, Nat.sub_self, List.drop_eq_getElem_cons h, List.set_cons_zero, List.append_assoc]
  rfl

/-- The blocks of attributes of one's own lie below hi. -/
def Hi (hi : Nat) (v : Value) (l : List AT) (us : List Value) : Prop := (∀ k, v.ownBlock = some k → k < hi) ∧ ∀ j, j < l.length → ∀ k, (us.getD j undef).ownBlock = some k → k < hi
theorem OA.hi {lo : Nat} {w : World} {v : Value} {l : List AT} {us : List Value} (h : OA lo w v l us) : Hi w.heap.size v l us := ⟨fun k e => (h.row.lt k e).2, fun j hj k e => (h.val j hj).lt k e⟩

set_option maxHeartbeats 3200000 in
theorem markAttrS_is (lo hi : Nat) (v : Value) (l : List AT) (us : List Value) (w : World) (h : OA lo w v l us) (hH : Hi hi v l us) (hlo : lo ≤ w.heap.size) (hl : (l.length : Int) + asz l ≤ 1048576) :
    Calls Tryd.prog 41 #[v, .int .i64 1] w fun e w' => e = .returned (.int .i64 (1 + (l.length : Int) + (vsz l : Int))) ∧ OA lo w' v (mkA 1 l) us ∧ KeptIn lo hi w w' := by
  have HM := Hid.mk' h
  obtain ⟨av, cv, rfl, _⟩ := h.at
  clear h
  go_enter Tryd.func41, Tryd.ntmps41
  go_wp2
  go_loopw [1, 5] (fun x i wr => ∃ k : Nat, k ≤ l.length ∧ i = .int .i64 k ∧ x = .int .i64 ((1 + k + vsz (l.take k) : Nat) : Int) ∧ OA lo wr (.slice av l.length cv) (half l k) us ∧ KeptIn lo hi w wr) (fun _ i _ => l.length - (intOf i).toNat)
  case atStart => exact ⟨0, Nat.zero_le _, rfl, by simp [vsz], by simpa [half, mkA] using HM.out, KeptIn.refl _ _ _⟩
  case round =>
    obtain ⟨k, hk, rfl, rfl, hoa, hbl⟩ := hrel
    have HR := Hid.mk' hoa
    have HB := Hid.mk' hbl
    have szr := hbl.size
    clear hbl
    by_cases hlt : k < l.length
    · have ci : (k : Int) < (l.length : Int) := by omega
      have st := vsz_take l k hlt
      have sl := vsz_le l (k + 1)
      have hln := half_len l k
      obtain ⟨g, cap, ev, hg1, hg2, hcell⟩ := hoa.spot (by omega)
      rw [hln] at ev
      cases ev
      obtain ⟨q, hq⟩ : ∃ q : Nat, 1 + k + vsz (l.take k) = q := ⟨_, rfl⟩
      have hq1 : 1 + (k + 1) + vsz (l.take (k + 1)) = q + 1 + (atK l k).vl.length := by omega
      have hq2 : q + 1 + (atK l k).vl.length ≤ 100000000 := by omega
      have Q1 := Hid.mk' hq1
      have HS := half_set l k hlt
      rw [hq] at HS
      have HS := Hid.mk' HS
      have KT := Hid.mk' (markText_is q wr (by omega) (by omega))
      rw [hq]
      clear st sl hq hq1 hoa hcell
      go_wp2_with fail
      refine KT.out.mono ?_
      rintro e w1 ⟨rfl, hb⟩
      have O1 := HR.out.below hb
      obtain ⟨g', cap', ev, hg3, hg4, hcell⟩ := O1.spot (by omega)
      rw [hln] at ev
      cases ev
      obtain ⟨c0, c1, c2⟩ := hcell k (by omega)
      have O2 : OA lo (w1.setCell ⟨g, k * 2, none⟩ (.string (mtx q))) (.slice (some ⟨g, 0, none⟩) l.length cv) ((half l k).set k ⟨mtx q, (atK l k).vl⟩) us := by
        have := OA.name (cap := cv) (g := g) (by rw [hln]; exact O1) k (by omega) (mtx q)
        rw [half_get l k hlt, hln] at this
        exact this
      have hl2 : ((half l k).set k ⟨mtx q, (atK l k).vl⟩).length = l.length := by rw [List.length_set]; exact hln
      have V2 := O2.val k (by omega)
      rw [set_get _ _ _ _ (by omega), if_pos rfl] at V2
      have KB := markByteS_own (q + 1) (us.getD k undef) (atK l k).vl _ V2 (by omega)
      obtain ⟨pu, cu, eu, _⟩ := V2.len
      have B2 := Hid.mk' ((HB.out.trans (KeptIn.of_below hb)).setCell (p := ⟨g, k * 2, none⟩) hg1 (hH.1 g rfl) (.string (mtx q)))
      have d1 : (w1.setCell ⟨g, k * 2, none⟩ (.string (mtx q))).cell? ⟨g, k * 2 + 1, none⟩ = some (.slice pu (atK l k).vl.length cu) := by
        obtain ⟨g'', cap'', ev, _, _, hc2⟩ := O2.spot (by omega)
        rw [hl2] at ev
        cases ev
        have := (hc2 k (by omega)).2.1
        rw [this, eu]
      rw [eu] at KB
      have KB := Hid.mk' KB
      have O2 := Hid.mk' O2
      have EU := Hid.mk' eu
      have s2 : (w1.setCell ⟨g, k * 2, none⟩ (.string (mtx q))).heap.size = w1.heap.size := by simp [World.setCell]
      have sb := hb.size
      clear hb O1 KT HR hcell V2 eu c1
      generalize hV : w1.setCell ⟨g, k * 2, none⟩ (.string (mtx q)) = V at *
      go_wp2_with fail
      clear hV
      refine KB.out.mono ?_
      rintro e w2 ⟨rfl, hob, htu⟩
      rw [← EU.out] at hob htu
      have O3 := O2.out.value k (by omega) (mb (q + 1) (atK l k).vl.length) hob htu
      rw [set_get _ _ _ _ (by omega), if_pos rfl, List.set_set, HS.out] at O3
      have O3 := Hid.mk' O3
      have B3 : Hid (KeptIn lo hi w w2) := Hid.mk' (B2.out.trans (htu.kept (fun i e => ⟨O2.out.vlo k (by omega) i e, hH.2 k hlt i e⟩)))
      clear hob htu KB
      go_wp2
      go_roundw
      case rel => exact ⟨k + 1, by omega, by go_num, by rw [Q1.out]; simp, O3.out, B3.out⟩
      case measure => simp [intOf]; omega
    · have ci : ¬ (k : Int) < (l.length : Int) := by omega
      have e : k = l.length := by omega
      subst e
      have EH : half l l.length = mkA 1 l := by unfold half; rw [List.take_length, List.drop_length, List.append_nil]
      rw [EH] at hoa
      have HO := Hid.mk' hoa
      clear hoa HR
      rw [List.take_length]
      go_wp2
      go_ret
      exact ⟨ret_num (by omega), HO.out, HB.out⟩

end Go.Proofs.YtcjaldjlcnedeaaDoor
