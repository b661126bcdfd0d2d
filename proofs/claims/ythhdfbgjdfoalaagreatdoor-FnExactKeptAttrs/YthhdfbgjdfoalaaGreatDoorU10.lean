/- Marks in attributes: in those that were given, in those that are answered. -/
import Derived.Test.YthhdfbgjdfoalaaGreatDoorU9
namespace Go.Proofs.YthhdfbgjdfoalaaGreatDoor
open Go.RowKit
set_option linter.unusedVariables false
set_option linter.unusedSimpArgs false

/-- Rows of attributes of one's own: their blocks, and how many bytes each value has. -/
def MR (g hi : Nat) (l : List AT) (w : World) : Prop := ∃ f, w.rowIs g 58 (l.length * 2) f ∧ g < hi ∧ ∀ j, j < l.length → (∃ s, f (j * 2) = .string s) ∧ ∃ b, f (j * 2 + 1) = .slice (some ⟨b, 0, none⟩) (atK l j).vl.length (atK l j).vl.length ∧ g < b ∧ b < hi ∧ ∃ fb, w.rowIs b 5 (atK l j).vl.length fb

theorem AV.mr {w : World} {g : Nat} {l : List AT} (h : AV w g l) (hb : ∀ f, w.rowIs g 58 (l.length * 2) f → ∀ j, j < l.length → ∀ b o n c, f (j * 2 + 1) = .slice (some ⟨b, o, none⟩) n c → g < b) : MR g w.heap.size l w := by
  obtain ⟨f, hf, hj⟩ := h
  refine ⟨f, hf, hf.lt, fun j hk => ?_⟩
  obtain ⟨h1, b, h2, h4⟩ := hj j hk
  exact ⟨⟨_, h1⟩, b, h2, hb f hf j hk b 0 _ _ h2, h4.lt, _, h4⟩

theorem MR.below {g hi : Nat} {l : List AT} {w w1 : World} (h : MR g hi l w) (hb : Below w.heap.size w w1) : MR g hi l w1 := by
  obtain ⟨f, hf, hg, hj⟩ := h
  refine ⟨f, rowB hf hb, hg, fun j hk => ?_⟩
  obtain ⟨h1, b, h2, h3, h4, fb, h5⟩ := hj j hk
  exact ⟨h1, b, h2, h3, h4, fb, rowB h5 hb⟩

/-- A name is turned. -/
theorem MR.name {g hi k : Nat} {l : List AT} {w : World} (h : MR g hi l w) (hk : k < l.length) (s : ByteArray) : MR g hi l (w.setCell ⟨g, k * 2, none⟩ (.string s)) := by
  obtain ⟨f, hf, hg, hj⟩ := h
  have K : KeptIn g (g + 1) w (w.setCell ⟨g, k * 2, none⟩ (.string s)) := (KeptIn.refl _ _ w).setCell (p := ⟨g, k * 2, none⟩) (Nat.le_refl _) (Nat.lt_succ_self _) _
  refine ⟨_, hf.set (k * 2) _, hg, fun j hjl => ?_⟩
  obtain ⟨⟨s1, h1⟩, b, h2, h3, h4, fb, h5⟩ := hj j hjl
  refine ⟨?_, b, ?_, h3, h4, fb, rowK h5 K (.inr h3)⟩
  · by_cases e : j = k
    · subst e; exact ⟨s, by rw [if_pos rfl]⟩
    · exact ⟨s1, by rw [if_neg (by omega)]; exact h1⟩
  · rw [if_neg (by omega)]; exact h2

theorem MR.kept {g hi a b : Nat} {l : List AT} {w w1 : World} (h : MR g hi l w) (hk : KeptIn a b w w1) (hb : b ≤ g) : MR g hi l w1 := by
  obtain ⟨f, hf, hg, hj⟩ := h
  refine ⟨f, rowK hf hk (.inr hb), hg, fun j hl => ?_⟩
  obtain ⟨h1, b', h2, h3, h4, fb, h5⟩ := hj j hl
  exact ⟨h1, b', h2, h3, h4, fb, rowK h5 hk (.inr (by omega))⟩

theorem row_len {w : World} {b n m : Nat} {t t' : TypeId} {f f' : Nat → Value} (h : w.rowIs b t n f) (h' : w.rowIs b t' m f') : n = m := by
  obtain ⟨cs, h1, h2, _⟩ := h
  obtain ⟨cs', h1', h2', _⟩ := h'
  have e := h1.symm.trans h1'
  simp at e
  rw [← h2, ← h2', e.1]

/-- The bytes of one value are turned. -/
theorem MR.value {g hi k b : Nat} {l : List AT} {w w1 : World} {fb : Nat → Value} (h : MR g hi l w) (hgb : g < b) (hb : b < hi) (hr : w1.rowIs b 5 (atK l k).vl.length fb) {f0 : Nat → Value} (hrw : w.rowIs b 5 (atK l k).vl.length f0) (hk : KeptIn b (b + 1) w w1) : MR g hi l w1 := by
  obtain ⟨f, hf, hg, hj⟩ := h
  refine ⟨f, rowK hf hk (.inl hgb), hg, fun j hjl => ?_⟩
  obtain ⟨h1, b', h2, h3, h4, fb', h5⟩ := hj j hjl
  by_cases e : b' = b
  · subst e
    have e2 := row_len h5 hrw
    rw [e2] at h2 ⊢
    exact ⟨h1, b', h2, h3, h4, fb, hr⟩
  · exact ⟨h1, b', h2, h3, h4, fb', rowK h5 hk (by omega)⟩

def vsz : List AT → Nat
  | [] => 0
  | x :: r => x.vl.length + vsz r
theorem vsz_take (l : List AT) : ∀ k, k < l.length → vsz (l.take (k + 1)) = vsz (l.take k) + (atK l k).vl.length := by
  induction l with
  | nil => intro k h; exact absurd h (Nat.not_lt_zero _)
  | cons x r ih =>
    intro k hk
    cases k with
    | zero => simp [vsz, atK]
    | succ k =>
      have := ih k (by simpa using hk)
      simp only [List.take_succ_cons, vsz]
      rw [this]
      have e : atK (x :: r) (k + 1) = atK r k := by simp [atK]
      rw [e]; omega
theorem vsz_le (l : List AT) (k : Nat) : vsz (l.take k) ≤ asz l := by
  induction l generalizing k with
  | nil => simp [vsz]
  | cons x r ih =>
    cases k with
    | zero => simp [vsz]
    | succ k => simp only [List.take_succ_cons, vsz, asz]; have := ih k; omega

set_option maxHeartbeats 3200000 in
theorem markAttrS_gen (g hi c z : Nat) (l : List AT) (w : World) (h : MR g hi l w) (hhi : hi ≤ w.heap.size) (hl : (l.length : Int) + asz l ≤ 1048576) (z0 : 0 < z) (z1 : z ≤ 10000000) :
    Calls Tryz.prog 15 #[.slice (some ⟨g, 0, none⟩) l.length c, .int .i64 (z : Int)] w fun e w' => e = .returned (.int .i64 ((z : Int) + (l.length : Int) + (vsz l : Int))) ∧ MR g hi l w' ∧ KeptIn g hi w w' := by
  have HM := Hid.mk' h
  clear h
  go_enter Tryz.func15, Tryz.ntmps15
  go_wp2
  go_loopw [1, 5] (fun x i wr => ∃ k : Nat, k ≤ l.length ∧ i = .int .i64 k ∧ x = .int .i64 ((z + k + vsz (l.take k) : Nat) : Int) ∧ MR g hi l wr ∧ KeptIn g hi w wr) (fun _ i _ => l.length - (intOf i).toNat)
  case atStart => exact ⟨0, Nat.zero_le _, rfl, by simp [vsz], HM.out, KeptIn.refl _ _ _⟩
  case round =>
    obtain ⟨k, hk, rfl, rfl, hmr, hkp⟩ := hrel
    have HR := Hid.mk' hmr
    have HK := Hid.mk' hkp
    clear hmr hkp
    by_cases hlt : k < l.length
    · have ci : (k : Int) < (l.length : Int) := by omega
      have st := vsz_take l k hlt
      have sl := vsz_le l (k + 1)
      obtain ⟨q, hq⟩ : ∃ q : Nat, z + k + vsz (l.take k) = q := ⟨_, rfl⟩
      have hq1 : z + (k + 1) + vsz (l.take (k + 1)) = q + 1 + (atK l k).vl.length := by omega
      have hq2 : q + 1 + (atK l k).vl.length ≤ 100000000 := by omega
      have Q1 := Hid.mk' hq1
      have KT := Hid.mk' (markTextS_is q wr (by omega) (by omega))
      rw [hq]
      clear st sl hq hq1
      go_wp2_with fail
      refine KT.out.mono ?_
      rintro e w1 ⟨rfl, hb⟩
      generalize mtS q = s at *
      have hm1 := HR.out.below hb
      have HK1 := Hid.mk' (HK.out.trans (KeptIn.of_below hb))
      obtain ⟨f, hf, _, _⟩ := id hm1
      have f0 := hf.frozen (k * 2)
      obtain ⟨v0, g0⟩ : ∃ v, w1.cell? ⟨g, k * 2, none⟩ = some v := ⟨_, hf.cell (by omega)⟩
      have hm2 := hm1.name hlt s
      obtain ⟨f2, hf2, hgh, hj2⟩ := id hm2
      obtain ⟨_, b, h2, h3, h4, fb, h5⟩ := hj2 k hlt
      have c2 : (w1.setCell ⟨g, k * 2, none⟩ (.string s)).cell? ⟨g, k * 2 + 1, none⟩ = some (.slice (some ⟨b, 0, none⟩) (atK l k).vl.length (atK l k).vl.length) := by
        have := hf2.cell (show k * 2 + 1 < l.length * 2 by omega)
        rw [this, h2]
      have KB := Hid.mk' (markByteS_row b (atK l k).vl.length (atK l k).vl.length (atK l k).vl.length (q + 1) fb _ h5 (Nat.le_refl _) (by omega))
      have HK2 := Hid.mk' (HK1.out.setCell (p := ⟨g, k * 2, none⟩) (Nat.le_refl _) hgh (.string s))
      have M2 := Hid.mk' hm2
      have H5 := Hid.mk' h5
      clear hm1 hm2 hf hf2 hj2 h5 hb KT HR HK HK1
      generalize hV : w1.setCell ⟨g, k * 2, none⟩ (.string s) = V at *
      go_wp2_with fail
      clear hV
      refine KB.out.mono ?_
      rintro e w2 ⟨rfl, hr, hkk⟩
      have M3 := Hid.mk' (M2.out.value h3 h4 hr H5.out hkk)
      have HK3 := Hid.mk' (HK2.out.trans (hkk.mono (by omega) (by omega)))
      clear hr hkk KB M2 H5 HK2
      go_wp2
      go_roundw
      case rel => exact ⟨k + 1, by omega, by go_num, by rw [Q1.out]; simp, M3.out, HK3.out⟩
      case measure => simp [intOf]; omega
    · have ci : ¬ (k : Int) < (l.length : Int) := by omega
      have e : k = l.length := by omega
      subst e
      go_wp2
      go_ret
      exact ⟨by simp, HR.out, HK.out⟩

/-- Marks, from k on. -/
def mkA : Nat → List AT → List AT
  | _, [] => []
  | k, a :: l => ⟨mtS k, mb (k + 1) a.vl.length⟩ :: mkA (k + 1 + a.vl.length) l
theorem mkA_len : ∀ (k : Nat) (l : List AT), (mkA k l).length = l.length
  | _, [] => rfl
  | k, a :: l => by simp [mkA, mkA_len]
theorem mkA_snoc : ∀ (k : Nat) (l : List AT) (a : AT), mkA k (l ++ [a]) = mkA k l ++ [⟨mtS (k + l.length + vsz l), mb (k + l.length + vsz l + 1) a.vl.length⟩]
  | k, [], a => by simp [mkA, vsz]
  | k, b :: l, a => by
    simp only [List.cons_append, mkA, mkA_snoc (k + 1 + b.vl.length) l a, List.length_cons, vsz]
    rw [show k + 1 + b.vl.length + l.length + vsz l = k + (l.length + 1) + (b.vl.length + vsz l) from by omega]
theorem mkA_get {k : Nat} {l : List AT} {i : Nat} (h : i < l.length) : atK (mkA k l) i = ⟨mtS (k + i + vsz (l.take i)), mb (k + i + vsz (l.take i) + 1) (atK l i).vl.length⟩ := by
  induction l generalizing k i with
  | nil => exact absurd h (Nat.not_lt_zero _)
  | cons b l ih =>
    cases i with
    | zero => simp [mkA, atK, vsz]
    | succ i =>
      have := ih (k := k + 1 + b.vl.length) (i := i) (by simpa using h)
      have e1 : atK (mkA k (b :: l)) (i + 1) = atK (mkA (k + 1 + b.vl.length) l) i := by simp [mkA, atK]
      have e2 : atK (b :: l) (i + 1) = atK l i := by simp [atK]
      rw [e1, this, e2]
      simp only [List.take_succ_cons, vsz]
      rw [show k + 1 + b.vl.length + i + vsz (l.take i) = k + (i + 1) + (b.vl.length + vsz (l.take i)) from by omega]

theorem acs_set : ∀ (l : List AT) (us : List Value) (i : Nat) (a : AT), us.length = l.length → i < l.length → acs (l.set i a) us = (acs l us).set (i * 2) (.string a.nm)
  | [], us, i, a, _, h => absurd h (Nat.not_lt_zero _)
  | b :: l, [], i, a, h, _ => by simp at h
  | b :: l, u :: us, 0, a, h, _ => by simp [acs]
  | b :: l, u :: us, i + 1, a, h, hi => by
    have := acs_set l us i a (by simpa using h) (by simpa using hi)
    rw [show (i + 1) * 2 = i * 2 + 1 + 1 from by omega]
    simp [acs, this]

/-- A cell of one's own row is turned. -/
theorem own_cell {w : World} {base g n cap : Nat} {e : TypeId} {xs : List Value} (h : w.ownsRow base e 2 (.slice (some ⟨g, 0, none⟩) n cap) n xs) (j : Nat) (hj : j < n * 2) (x : Value) : (w.setCell ⟨g, j, none⟩ x).ownsRow base e 2 (.slice (some ⟨g, 0, none⟩) n cap) n (xs.set j x) := by
  refine ⟨by rw [List.length_set]; exact h.1, .inr ?_⟩
  rcases h.2 with ⟨h0, _⟩ | ⟨g', cap', cur, hv, hg, hh, hc, hm, hs, ht⟩
  · cases h0
  · cases hv
    refine ⟨g, cap, cur.setIfInBounds j x, rfl, hg, ?_, hc, hm, by simpa using hs, ?_⟩
    · simp [World.setCell, Array.getElem?_modify, hh]
    · rw [← ht]
      simp [List.take_set]

theorem set_get (l : List AT) (i j : Nat) (a : AT) (h : i < l.length) : atK (l.set i a) j = if j = i then a else atK l j := by
  unfold atK
  by_cases e : j = i
  · subst e; simp [List.getD_eq_getElem?_getD, h]
  · rw [if_neg e]; simp [List.getD_eq_getElem?_getD, List.getElem?_set, Ne.symm e]

theorem set_same {α : Type} : ∀ (l : List α) (i : Nat) (x : α), l[i]? = some x → l.set i x = l
  | [], i, x, h => by simp at h
  | a :: l, 0, x, h => by simp at h; simp [h]
  | a :: l, i + 1, x, h => by simp at h; simp [set_same l i x h]

/-- The block of a row of attributes. -/
theorem AF.spot {fr : Bool} {lo : Nat} {w : World} {v : Value} {l : List AT} {us : List Value} (h : AF fr lo w v l us) (hl : 0 < l.length) : ∃ g cap, v = .slice (some ⟨g, 0, none⟩) l.length cap ∧ lo ≤ g ∧ g < w.heap.size ∧ ∀ k, k < l.length → w.cell? ⟨g, k * 2, none⟩ = some (.string (atK l k).nm) ∧ w.cell? ⟨g, k * 2 + 1, none⟩ = some (us.getD k undef) ∧ w.frozen? ⟨g, k * 2, none⟩ = false := by
  rcases h.row.2 with ⟨rfl, h0⟩ | ⟨g, cap, cur, rfl, hg, hh, hc, hm, hs, ht⟩
  · omega
  · refine ⟨g, cap, rfl, hg, ?_, fun k hk => ?_⟩
    · exact Nat.lt_of_not_le fun hn => by rw [Array.getElem?_eq_none hn] at hh; cases hh
    · obtain ⟨h1, h2⟩ := acs_get l us k h.len hk
      rw [← ht] at h1 h2
      rw [List.getElem?_take_of_lt (by omega)] at h1 h2
      have q : ∀ i, w.cell? ⟨g, i, none⟩ = cur[i]? := fun i => Lib.cell_of_heap hh i
      exact ⟨by rw [q, ← h1]; simp, by rw [q, ← h2]; simp, Lib.frozen_of_heap hh _⟩

/-- k of them are marked. -/
def half (z : Nat) (l : List AT) (k : Nat) : List AT := mkA z (l.take k) ++ l.drop k
theorem half_len (z : Nat) (l : List AT) (k : Nat) : (half z l k).length = l.length := by simp [half, mkA_len]; omega
theorem half_get (z : Nat) (l : List AT) (k : Nat) (h : k < l.length) : atK (half z l k) k = atK l k := by
  have e : (mkA z (l.take k)).length = k := by rw [mkA_len, List.length_take]; omega
  unfold half atK
  rw [List.getD_eq_getElem?_getD, List.getElem?_append_right (by omega), e, Nat.sub_self, List.getElem?_drop, Nat.add_zero, ← List.getD_eq_getElem?_getD]
theorem half_set (z : Nat) (l : List AT) (k : Nat) (h : k < l.length) : (half z l k).set k ⟨mtS (z + k + vsz (l.take k)), mb (z + k + vsz (l.take k) + 1) (atK l k).vl.length⟩ = half z l (k + 1) := by
  have e : (mkA z (l.take k)).length = k := by rw [mkA_len, List.length_take]; omega
  have e2 : l.take (k + 1) = l.take k ++ [atK l k] := by
    rw [List.take_add_one, List.getElem?_eq_getElem h]
    simp [atK, List.getD_eq_getElem?_getD, List.getElem?_eq_getElem h]
  have e3 : (l.take k).length = k := by rw [List.length_take]; omega
  unfold half
  rw [e2, mkA_snoc, e3, List.set_append_right _ _ (by omega), e, Nat.sub_self, List.drop_eq_getElem_cons h, List.set_cons_zero, List.append_assoc]
  rfl

theorem half_tail (z : Nat) (l : List AT) (k j : Nat) (h1 : k ≤ j) (h2 : j < l.length) : atK (half z l k) j = atK l j := by
  have e : (mkA z (l.take k)).length = k := by rw [mkA_len, List.length_take]; omega
  unfold half atK
  rw [List.getD_eq_getElem?_getD, List.getElem?_append_right (by omega), e, List.getElem?_drop, show k + (j - k) = j by omega, ← List.getD_eq_getElem?_getD]

theorem OF.weak {w : World} {v : Value} {l : List Int} (h : OF true w v l) : OF false w v l := by
  obtain ⟨a, c, e, hb, _⟩ := h
  exact ⟨a, c, e, hb, fun h => by cases h⟩
theorem AF.weak {lo : Nat} {w : World} {v : Value} {l : List AT} {us : List Value} (h : AF true lo w v l us) : AF false lo w v l us :=
  ⟨h.len, h.row, fun j hj => (h.val j hj).weak, h.vlo, h.ap, h.av⟩

theorem AF.set {fr : Bool} {lo : Nat} {w w' : World} {v : Value} {l : List AT} {us : List Value} (h : AF fr lo w v l us) (i : Nat) (hi : i < l.length) (a : AT) (ha : a.vl.length = (atK l i).vl.length) (hrow : w'.ownsRow lo 58 2 v l.length (acs (l.set i a) us)) (hval : ∀ j, j < l.length → OF fr w' (us.getD j undef) (atK (l.set i a) j).vl) : AF fr lo w' v (l.set i a) us := by
  have lens : ∀ j, (atK (l.set i a) j).vl.length = (atK l j).vl.length := fun j => by
    rw [set_get l i j a hi]
    by_cases e : j = i
    · subst e; rw [if_pos rfl, ha]
    · rw [if_neg e]
  refine ⟨by rw [List.length_set]; exact h.len, by rw [List.length_set]; exact hrow, fun j hj => hval j (by simpa using hj), fun j hj k e => ?_, fun i' j' hij hj k e1 e2 => ?_, fun j hj k e1 e2 => ?_⟩
  · rw [lens] at e; exact h.vlo j (by simpa using hj) k e
  · rw [lens] at e1 e2; exact h.ap i' j' hij (by simpa using hj) k e1 e2
  · rw [lens] at e2; exact h.av j (by simpa using hj) k e1 e2

theorem AF.name {fr : Bool} {lo g cap : Nat} {w : World} {l : List AT} {us : List Value} (h : AF fr lo w (.slice (some ⟨g, 0, none⟩) l.length cap) l us) (i : Nat) (hi : i < l.length) (s : ByteArray) : AF fr lo (w.setCell ⟨g, i * 2, none⟩ (.string s)) (.slice (some ⟨g, 0, none⟩) l.length cap) (l.set i ⟨s, (atK l i).vl⟩) us := by
  have hg : ∀ j, j < l.length → ∀ k, uB (us.getD j undef) (atK l j).vl.length = some k → k ≠ g := fun j hj k e ek => h.av j hj k (by rw [ek]; rfl) e
  refine h.set i hi _ rfl ?_ (fun j hj => ?_)
  · rw [acs_set l us i _ h.len hi]
    exact own_cell h.row (i * 2) (by omega) _
  · rw [set_get l i j _ hi]
    have : OF fr (w.setCell ⟨g, i * 2, none⟩ (.string s)) (us.getD j undef) (atK l j).vl := (h.val j hj).keep (by simp [World.setCell]) (fun k e _ => Deep.blk_setCell_other _ _ _ _ (hg j hj k e))
    by_cases e : j = i
    · subst e; rw [if_pos rfl]; exact this
    · rw [if_neg e]; exact this

theorem AF.value {fr : Bool} {lo : Nat} {w w' : World} {v : Value} {l : List AT} {us : List Value} (h : AF fr lo w v l us) (i : Nat) (hi : i < l.length) (m : List Int) (hm : m.length = (atK l i).vl.length) (ho : OF fr w' (us.getD i undef) m) (hs : w.heap.size ≤ w'.heap.size) (hb : ∀ k, k < w.heap.size → uB (us.getD i undef) (atK l i).vl.length ≠ some k → w'.heap[k]? = w.heap[k]?) : AF fr lo w' v (l.set i ⟨(atK l i).nm, m⟩) us := by
  have nms : acs (l.set i ⟨(atK l i).nm, m⟩) us = acs l us := by
    rw [acs_set l us i _ h.len hi]
    have := (acs_get l us i h.len hi).1
    exact set_same _ _ _ this
  refine h.set i hi _ hm ?_ (fun j hj => ?_)
  · rw [nms]
    exact own_of h.row (Nat.le_refl _) (fun k e _ => hb k (h.row.lt k e).2 (fun e2 => h.av i hi k e e2))
  · rw [set_get l i j _ hi]
    by_cases e : j = i
    · subst e; rw [if_pos rfl]; exact ho
    · rw [if_neg e]
      refine (h.val j hj).keep hs (fun k e1 hl => hb k hl (fun e2 => ?_))
      rcases Nat.lt_or_gt_of_ne e with hlt | hgt
      · exact h.ap j i hlt hi k e1 e2
      · exact h.ap i j hgt hj k e2 e1

/-- Marks in bytes that may be written: their block alone is turned. -/
theorem markByteS_of (k : Nat) (u : Value) (l : List Int) (w : World) (h : OF true w u l) (hk : (k : Int) + l.length ≤ 100000000) :
    Calls Tryz.prog 35 #[u, .int .i64 k] w fun e w' => e = .returned (.int .i64 ((k : Int) + l.length)) ∧ OF false w' u (mb k l.length) ∧ w.heap.size ≤ w'.heap.size ∧ (∀ j, j < w.heap.size → uB u l.length ≠ some j → w'.heap[j]? = w.heap[j]?) ∧ w'.os = w.os ∧ w'.tape = w.tape ∧ w'.output = w.output := by
  obtain ⟨v, c, rfl, h, hf⟩ := h
  by_cases h0 : l = []
  · subst h0
    refine (markByteS_zero v c k w (by simp at hk; omega)).mono ?_
    rintro e w' ⟨rfl, rfl⟩
    exact ⟨by simp, ⟨v, c, rfl, .inl rfl, fun h => by cases h⟩, Nat.le_refl _, fun _ _ _ => rfl, rfl, rfl, rfl⟩
  · rcases h with h | ⟨b, o, rfl, hb, hc⟩
    · exact absurd h h0
    · refine (markByteS_fr b o c k l w hb hc (hf rfl) hk).mono ?_
      rintro e w' ⟨rfl, h1, h2⟩
      refine ⟨rfl, ⟨_, c, by rw [mb_len], h1, fun h => by cases h⟩, h2.size, fun j hj hn => h2.block j hj ?_, h2.os, h2.tape, h2.output⟩
      have : ¬ j = b := fun e => hn (by
        unfold uB
        rw [if_neg (by have := List.length_pos_iff.2 h0; omega), e]; rfl)
      omega

set_option maxHeartbeats 3200000 in
theorem markAttrF_is (z lo hi : Nat) (v : Value) (l : List AT) (us : List Value) (w : World) (h : AF true lo w v l us) (hlo : lo ≤ w.heap.size) (hV : ∀ k, v.ownBlock = some k → k < hi) (hU : ∀ j, j < l.length → ∀ k, uB (us.getD j undef) (atK l j).vl.length = some k → k < hi) (hz : 0 < z) (hz2 : (z : Int) ≤ 90000000) (hl : (l.length : Int) + asz l ≤ 2000000) :
    Calls Tryz.prog 15 #[v, .int .i64 (z : Int)] w fun e w' => e = .returned (.int .i64 ((z : Int) + (l.length : Int) + (vsz l : Int))) ∧ AF false lo w' v (mkA z l) us ∧ KeptIn lo hi w w' := by
  have HM := Hid.mk' h
  have HHV := Hid.mk' hV
  have HHU := Hid.mk' hU
  obtain ⟨av, cv, rfl, -⟩ := h.at
  clear h hU
  go_enter Tryz.func15, Tryz.ntmps15
  go_wp2
  go_loopw [1, 5] (fun x i wr => ∃ k : Nat, k ≤ l.length ∧ i = .int .i64 k ∧ x = .int .i64 ((z + k + vsz (l.take k) : Nat) : Int) ∧ AF false lo wr (.slice av l.length cv) (half z l k) us ∧ (∀ j, k ≤ j → j < l.length → OF true wr (us.getD j undef) (atK l j).vl) ∧ KeptIn lo hi w wr) (fun _ i _ => l.length - (intOf i).toNat)
  case atStart => exact ⟨0, Nat.zero_le _, rfl, by simp [vsz], by simpa [half, mkA] using HM.out.weak, fun j _ hj => HM.out.val j hj, KeptIn.refl _ _ _⟩
  case round =>
    obtain ⟨k, hk, rfl, rfl, hoa, hfr, hbl⟩ := hrel
    have HR := Hid.mk' hoa
    have HB := Hid.mk' hbl
    have HF := Hid.mk' hfr
    have szr := hbl.size
    clear hbl hfr
    by_cases hlt : k < l.length
    · have ci : (k : Int) < (l.length : Int) := by omega
      have st := vsz_take l k hlt
      have sl := vsz_le l (k + 1)
      have hln := half_len z l k
      obtain ⟨g, cap, ev, hg1, hg2, hcell⟩ := hoa.spot (by omega)
      rw [hln] at ev
      cases ev
      obtain ⟨q, hq⟩ : ∃ q : Nat, z + k + vsz (l.take k) = q := ⟨_, rfl⟩
      have hq1 : z + (k + 1) + vsz (l.take (k + 1)) = q + 1 + (atK l k).vl.length := by omega
      have hq2 : q + 1 + (atK l k).vl.length ≤ 100000000 := by omega
      have Q1 := Hid.mk' hq1
      have HS := half_set z l k hlt
      rw [hq] at HS
      have HS := Hid.mk' HS
      have KT := Hid.mk' (markTextS_is q wr (by omega) (by omega))
      rw [hq]
      clear st sl hq hq1 hoa hcell
      go_wp2_with fail
      refine KT.out.mono ?_
      rintro e w1 ⟨rfl, hb⟩
      have O1 := HR.out.below hb
      obtain ⟨g', cap', ev, hg3, hg4, hcell⟩ := O1.spot (by omega)
      rw [hln] at ev
      cases ev
      obtain ⟨c0, c1, c2⟩ := hcell k (by omega)
      have nog : ∀ j, j < l.length → ∀ x, uB (us.getD j undef) (atK (half z l k) j).vl.length = some x → x ≠ g := fun j hj x e ex => O1.av j (by omega) x (by rw [ex]; rfl) e
      have lenH : ∀ j, k ≤ j → j < l.length → atK (half z l k) j = atK l j := fun j h1 h2 => half_tail z l k j h1 h2
      have F2 : ∀ j, k ≤ j → j < l.length → OF true (w1.setCell ⟨g, k * 2, none⟩ (.string (mtS q))) (us.getD j undef) (atK l j).vl := fun j h1 h2 =>
        ((HF.out j h1 h2).below hb).keep (by simp [World.setCell]) (fun x e _ => Deep.blk_setCell_other _ _ _ _ (nog j h2 x (by rw [lenH j h1 h2]; exact e)))
      have O2 : AF false lo (w1.setCell ⟨g, k * 2, none⟩ (.string (mtS q))) (.slice (some ⟨g, 0, none⟩) l.length cv) ((half z l k).set k ⟨mtS q, (atK l k).vl⟩) us := by
        have := AF.name (cap := cv) (g := g) (by rw [hln]; exact O1) k (by omega) (mtS q)
        rw [half_get z l k hlt, hln] at this
        exact this
      have hl2 : ((half z l k).set k ⟨mtS q, (atK l k).vl⟩).length = l.length := by rw [List.length_set]; exact hln
      have V2 := F2 k (Nat.le_refl _) hlt
      have KB := markByteS_of (q + 1) (us.getD k undef) (atK l k).vl _ V2 (by omega)
      obtain ⟨pu, cu, eu, -, -⟩ := V2
      have B2 := Hid.mk' ((HB.out.trans (KeptIn.of_below hb)).setCell (p := ⟨g, k * 2, none⟩) hg3 (HHV.out g rfl) (.string (mtS q)))
      have d1 : (w1.setCell ⟨g, k * 2, none⟩ (.string (mtS q))).cell? ⟨g, k * 2 + 1, none⟩ = some (.slice pu (atK l k).vl.length cu) := by
        obtain ⟨g'', cap'', ev, _, _, hc2⟩ := O2.spot (by omega)
        rw [hl2] at ev
        cases ev
        have := (hc2 k (by omega)).2.1
        rw [this, eu]
      rw [eu] at KB
      have KB := Hid.mk' KB
      have O2 := Hid.mk' O2
      have EU := Hid.mk' eu
      have HF2 := Hid.mk' F2
      have NG := Hid.mk' nog
      have LH := Hid.mk' lenH
      have s2 : (w1.setCell ⟨g, k * 2, none⟩ (.string (mtS q))).heap.size = w1.heap.size := by simp [World.setCell]
      have sb := hb.size
      have AP := Hid.mk' (fun j (h1 : k + 1 ≤ j) (h2 : j < l.length) x (e1 : uB (us.getD k undef) (atK l k).vl.length = some x) (e2 : uB (us.getD j undef) (atK l j).vl.length = some x) => O1.ap k j h1 (by omega) x (by rw [lenH k (Nat.le_refl _) hlt]; exact e1) (by rw [lenH j (by omega) h2]; exact e2))
      have VLO := Hid.mk' (fun x (e1 : uB (us.getD k undef) (atK l k).vl.length = some x) => O1.vlo k (by omega) x (by rw [lenH k (Nat.le_refl _) hlt]; exact e1))
      clear hb O1 KT HR hcell eu c1 F2 nog lenH
      generalize hV : w1.setCell ⟨g, k * 2, none⟩ (.string (mtS q)) = V at *
      go_wp2_with fail
      clear hV
      refine KB.out.mono ?_
      rintro e w2 ⟨rfl, hob, hsz, hoth, ho1, ho2, ho3⟩
      rw [← EU.out] at hob hoth
      have O3 := O2.out.value k (by omega) (mb (q + 1) (atK l k).vl.length) (by rw [set_get _ _ _ _ (by omega), if_pos rfl, mb_len]) hob hsz (by rw [set_get _ _ _ _ (by omega), if_pos rfl]; exact hoth)
      rw [set_get _ _ _ _ (by omega), if_pos rfl, List.set_set, HS.out] at O3
      have O3 := Hid.mk' O3
      have F3 := Hid.mk' (fun j (h1 : k + 1 ≤ j) (h2 : j < l.length) => (HF2.out j (by omega) h2).keep hsz (fun x e hx => hoth x hx (fun e1 => AP.out j h1 h2 x e1 e)))
      have B3 := Hid.mk' (B2.out.trans (⟨ho1, ho2, ho3, hsz, fun x hx hd => hoth x hx (fun e => by have := VLO.out x e; have := HHU.out k hlt x e; omega)⟩ : KeptIn lo hi V w2))
      clear hob hoth KB ho1 ho2 ho3
      go_wp2
      go_roundw
      case rel => exact ⟨k + 1, by omega, by go_num, by rw [Q1.out]; simp, O3.out, F3.out, B3.out⟩
      case measure => simp [intOf]; omega
    · have ci : ¬ (k : Int) < (l.length : Int) := by omega
      have e : k = l.length := by omega
      subst e
      have EH : half z l l.length = mkA z l := by unfold half; rw [List.take_length, List.drop_length, List.append_nil]
      rw [EH] at hoa
      have HO := Hid.mk' hoa
      clear hoa HR
      rw [List.take_length]
      go_wp2
      go_ret
      exact ⟨ret_num (by omega), HO.out, HB.out⟩

set_option maxHeartbeats 3200000 in
theorem heldAttrS_is (z : Nat) (a : Option Addr) (c : Nat) (l : List AT) (w : World) (ha : AAt w a (mkA z l)) (hz : 0 < z) (hz2 : (z : Int) ≤ 90000000) (hl : (l.length : Int) + asz l ≤ 2000000) :
    Calls Tryz.prog 36 #[.slice a l.length c, .int .i64 (z : Int)] w fun e w' => e = .returned (.int .i64 ((z : Int) + (l.length : Int) + (vsz l : Int))) ∧ Below w.heap.size w w' := by
  have HA := Hid.mk' ha
  clear ha
  go_enter Tryz.func36, Tryz.ntmps36
  go_wp2
  go_loopw [1, 5] (fun x i wr => ∃ k : Nat, k ≤ l.length ∧ i = .int .i64 k ∧ x = .int .i64 ((z + k + vsz (l.take k) : Nat) : Int) ∧ Below w.heap.size w wr) (fun _ i _ => l.length - (intOf i).toNat)
  case atStart => exact ⟨0, Nat.zero_le _, rfl, by simp [vsz], Below.refl _ _⟩
  case round =>
    obtain ⟨k, hk, rfl, rfl, hbl⟩ := hrel
    have HB := Hid.mk' hbl
    by_cases hlt : k < l.length
    · have ci : (k : Int) < (l.length : Int) := by omega
      have st := vsz_take l k hlt
      have sl := vsz_le l (k + 1)
      rcases HA.out.below hbl with h0 | ⟨b1, o1, rfl, s1, hc1⟩
      · have := mkA_len z l; rw [h0] at this; simp at this; omega
      obtain ⟨h1, p1, d1, h2, h3⟩ := hc1 k (by rw [mkA_len]; exact hlt)
      rw [mkA_get hlt] at h1 h2 h3
      obtain ⟨q, hq⟩ : ∃ q : Nat, z + k + vsz (l.take k) = q := ⟨_, rfl⟩
      rw [hq] at h1 h2 h3 ⊢
      have hq1 : z + (k + 1) + vsz (l.take (k + 1)) = q + 1 + (atK l k).vl.length := by omega
      have hq2 : q + 1 + (atK l k).vl.length ≤ 100000000 := by omega
      have Q1 := Hid.mk' hq1
      simp only [mb_len] at h1 h2 h3
      have H3 := Hid.mk' h3
      have KT := Hid.mk' (markTextS_is q wr.drew (by omega) (by omega))
      clear st sl hq hq1 hc1 h3 hbl
      go_wp2_with fail
      go_region_held3 (fun w' => w'.cell? ⟨b1, o1 + k * 2, none⟩ = some (.string (mtS q))) (simp [*])
        ((go_at_call 34; refine KT.out.mono ?_; rintro e w1 ⟨rfl, hb1⟩; replace hb1 := undrew hb1; obtain ⟨hx1, hx2⟩ := bcell hb1))
      have B1 := Hid.mk' (HB.out.trans (hb1.mono HB.out.size))
      have g2 : w1.cell? ⟨b1, o1 + k * 2 + 1, none⟩ = some (.slice p1 (atK l k).vl.length d1) := (hx1 _ _ s1).trans h2
      have KB := Hid.mk' (heldByteS_any p1 d1 (atK l k).vl.length (q + 1) w1 (H3.out.below hb1) (by omega))
      clear hb1 hx1 hx2 KT
      go_wp2_with fail
      refine KB.out.mono ?_
      rintro e w2 ⟨rfl, hb2⟩
      have B2 := Hid.mk' (B1.out.trans (hb2.mono B1.out.size))
      have zz : ¬ (((q + 1 : Nat) : Int) + (atK l k).vl.length < 0) := by omega
      clear hb2 KB
      go_wp2
      go_roundw
      case rel => exact ⟨k + 1, by omega, by go_num, by rw [Q1.out]; simp, B2.out⟩
      case measure => simp [intOf]; omega
    · have ci : ¬ (k : Int) < (l.length : Int) := by omega
      have e : k = l.length := by omega
      subst e
      rw [List.take_length]
      go_wp2
      go_ret
      exact ⟨ret_num (by omega), HB.out⟩

end Go.Proofs.YthhdfbgjdfoalaaGreatDoor

/- The law on KeptValue. -/
namespace Go.Proofs.YthhdfbgjdfoalaaGreatDoor
open Go.RowKit Go.Maps
set_option linter.unusedVariables false
set_option linter.unusedSimpArgs false

theorem txtQ_len (b : Bool) (q : Nat) : (txtQ b q).length ≤ 9 := by
  unfold txtQ digL
  rw [List.length_append, List.length_append]
  have h1 := digF_len 5 (q / 4)
  have h2 : (fracL (q % 4)).length ≤ 3 := by
    rcases (show q % 4 = 0 ∨ q % 4 = 1 ∨ q % 4 = 2 ∨ q % 4 = 3 by omega) with h | h | h | h <;> rw [h] <;> decide
  have h3 : (if b = true then [(45 : Int)] else []).length ≤ 1 := by split <;> simp
  omega

theorem wtT_len (s : ByteArray) : (wtT s).size ≤ 9 := by
  have hm : ∀ b : Int, (mtT b).size ≤ 9 := fun b => by
    unfold mtT
    split
    · decide
    · split
      · split <;> decide
      · split
        · decide
        · rw [strS_size]; exact txtQ_len _ _
  unfold wtT
  split
  · split
    · exact hm _
    · decide
  · decide

theorem kvP_len (p : PO) (n : ByteArray) (l : List Int) (hl : (l.length : Int) ≤ 1048576) : ((kvP p n l).2.length : Int) ≤ 1048576 := by
  have hk : ((kvF p n l).2.length : Int) ≤ 1048576 := by
    unfold kvF
    split
    · split
      · have := wtT_len (strS l)
        show ((bytesL (wtT (strS l))).length : Int) ≤ _
        rw [bytesL_len]
        omega
      · split
        · split
          · simp
          · exact hl
        · simp
    · simp
  unfold kvP
  split
  · split
    · exact hk
    · simp
  · simp

end Go.Proofs.YthhdfbgjdfoalaaGreatDoor

/- The law on KeptAttrs. -/
namespace Go.Proofs.YthhdfbgjdfoalaaGreatDoor
open Go.RowKit Go.Maps
set_option linter.unusedVariables false
set_option linter.unusedSimpArgs false

theorem kv_small {p : PO} {n : ByteArray} {l : List Int} (h : (kvF p n l).1 = 0) : n.size ≤ 5 ∧ (kvF p n l).2.length ≤ 9 := by
  unfold kvF at h ⊢
  split at h
  · rename_i hh
    rw [if_pos hh]
    refine ⟨?_, ?_⟩
    · have h2 : hasL attrsL n = true := by
        cases e : hasL attrsL n
        · rw [e] at hh; simp at hh
        · rfl
      unfold hasL at h2
      obtain ⟨x, hx, he⟩ := List.any_eq_true.1 h2
      rw [← beq_same.1 he]
      have : x = ⟨#[104, 114, 101, 102]⟩ ∨ x = ⟨#[115, 114, 99]⟩ ∨ x = ⟨#[116, 105, 116, 108, 101]⟩ ∨ x = ⟨#[119, 105, 100, 116, 104]⟩ := by simpa [attrsL] using hx
      rcases this with rfl | rfl | rfl | rfl <;> decide
    · split
      · show (bytesL (wtT (strS l))).length ≤ 9
        rw [bytesL_len]; exact wtT_len _
      · split
        · rename_i hcl
          split
          · simp
          · unfold clB at hcl
            simp at hcl
            show l.length ≤ 9
            omega
        · simp
  · simp at h

theorem asz_app : ∀ (l : List AT) (a : AT), asz (l ++ [a]) = asz l + (a.nm.size + a.vl.length)
  | [], a => by simp [asz]
  | b :: l, a => by simp only [List.cons_append, asz, asz_app l a]; omega

theorem kaL_small (p : PO) (l : List AT) : ∀ k, k ≤ l.length → asz (kaL p (l.take k)) ≤ 14 * (kaL p (l.take k)).length
  | 0, _ => by simp [kaL, asz]
  | k + 1, h => by
    have ih := kaL_small p l k (by omega)
    rw [ka_step p l k (by omega)]
    unfold kaStep
    split
    · rename_i hc
      have := kv_small hc.1.1
      rw [asz_app, List.length_append]
      simp only [List.length_cons, List.length_nil]
      omega
    · exact ih

theorem kaP_small (p : PO) (l : List AT) : (kaP p l).2.length ≤ 2 ∧ asz (kaP p l).2 ≤ 28 := by
  have h1 := kaL_small p l l.length (Nat.le_refl _)
  have h2 := ka_len p l l.length
  rw [List.take_length] at h1 h2
  unfold kaP kaF
  split
  · split
    · simp [asz]
    · exact ⟨h2, by show asz (kaL p l) ≤ 28; omega⟩
  · simp [asz]

theorem asz_get (l : List AT) (k : Nat) (h : k < l.length) : (atK l k).nm.size + (atK l k).vl.length ≤ asz l := by
  have h1 := asz_take l k h
  have h2 := asz_le l (k + 1)
  omega

theorem AO.av {g : Nat} {l : List AT} {w : World} (h : AO g l w) : AV w g l := by
  obtain ⟨f, hf, hj⟩ := h
  refine ⟨f, hf, fun j hk => ?_⟩
  obtain ⟨h1, b, h2, h3, h4⟩ := hj j hk
  exact ⟨h1, b, h2, h4⟩
theorem AO.mr {g : Nat} {l : List AT} {w : World} (h : AO g l w) : MR g w.heap.size l w := by
  obtain ⟨f, hf, hj⟩ := h
  refine ⟨f, hf, hf.lt, fun j hk => ?_⟩
  obtain ⟨h1, b, h2, h3, h4⟩ := hj j hk
  exact ⟨⟨_, h1⟩, b, h2, h3, h4.lt, _, h4⟩
theorem AO.kept {g lo hi : Nat} {l : List AT} {w w1 : World} (h : AO g l w) (hk : KeptIn lo hi w w1) (hh : hi ≤ g) : AO g l w1 := by
  obtain ⟨f, hf, hj⟩ := h
  refine ⟨f, rowK hf hk (.inr hh), fun j hk' => ?_⟩
  obtain ⟨h1, b, h2, h3, h4⟩ := hj j hk'
  exact ⟨h1, b, h2, h3, rowK h4 hk (.inr (by omega))⟩
theorem AF.keptIn {fr : Bool} {lo a b : Nat} {w w' : World} {v : Value} {l : List AT} {us : List Value} (h : AF fr lo w v l us) (hk : KeptIn a b w w') (hb : b ≤ lo) : AF fr lo w' v l us :=
  h.keep hk.size (Nat.le_refl _) (fun k h1 h2 => hk.block k h2 (.inr (by omega)))

set_option maxHeartbeats 400000 in
theorem eqAR_any (c : Int) (a a' : Option Addr) (d d' : Nat) (l : List AT) (w : World) (h1 : AAt w a l) (h2 : AAt w a' l) (hl : (l.length : Int) + asz l ≤ 1048576) :
    Calls Tryz.prog 11 #[.agg #[.int .i64 c, .slice a l.length d], .agg #[.int .i64 c, .slice a' l.length d']] w fun e w' => e = .returned (.bool true) ∧ Below w.heap.size w w' := by
  have B0 := (below_new w (.cells #[.int .i64 c, .slice a l.length d] 30)).alloc (by simp) (.cells #[.int .i64 c, .slice a' l.length d'] 30)
  have KK := Hid.mk' (eqAttrS_any a a' d d' l _ (h1.below B0) (h2.below B0) hl)
  have BB := Hid.mk' B0
  clear B0 h1 h2
  go_enter Tryz.func11, Tryz.ntmps11
  go_wp2_with fail
  refine KK.out.mono ?_
  rintro e w1 ⟨rfl, hb1⟩
  have B1 := Hid.mk' (BB.out.trans (hb1.mono BB.out.size))
  clear KK BB hb1
  go_wp2
  go_ret
  exact ⟨rfl, B1.out⟩

set_option maxHeartbeats 400000 in
theorem markAR_any (c : Int) (a : Option Addr) (d lo hi : Nat) (l : List AT) (us : List Value) (w : World) (h : AF true lo w (.slice a l.length d) l us) (hlo : lo ≤ w.heap.size) (hV : ∀ k, (Value.slice a l.length d).ownBlock = some k → k < hi) (hU : ∀ j, j < l.length → ∀ k, uB (us.getD j undef) (atK l j).vl.length = some k → k < hi) (hl : (l.length : Int) + asz l ≤ 1048576) :
    Calls Tryz.prog 16 #[.agg #[.int .i64 c, .slice a l.length d], .int .i64 1] w fun e w' => e = .returned (.int .i64 (1 + (l.length : Int) + (vsz l : Int))) ∧ AF false lo w' (.slice a l.length d) (mkA 1 l) us ∧ KeptIn lo hi w w' := by
  have B0 := below_new w (.cells #[.int .i64 c, .slice a l.length d] 30)
  have KK := Hid.mk' (markAttrF_is 1 lo hi _ l us _ (h.below B0) (by simp; omega) hV hU (by omega) (by omega) (by omega))
  have BB := Hid.mk' (KeptIn.of_below (lo := lo) (hi := hi) B0)
  clear B0 h hV hU
  go_enter Tryz.func16, Tryz.ntmps16
  go_wp2_with fail
  refine KK.out.mono ?_
  rintro e w1 ⟨rfl, h1, hb1⟩
  have H1 := Hid.mk' h1
  have B1 := Hid.mk' (BB.out.trans hb1)
  clear KK BB hb1 h1
  go_wp2
  go_ret
  exact ⟨by simp, H1.out, B1.out⟩

set_option maxHeartbeats 400000 in
theorem heldAR_any (c : Int) (a : Option Addr) (d : Nat) (l : List AT) (w : World) (h : AAt w a (mkA 1 l)) (hl : (l.length : Int) + asz l ≤ 1048576) :
    Calls Tryz.prog 17 #[.agg #[.int .i64 c, .slice a l.length d], .int .i64 1] w fun e w' => e = .returned (.int .i64 (1 + (l.length : Int) + (vsz l : Int))) ∧ Below w.heap.size w w' := by
  have B0 := below_new w (.cells #[.int .i64 c, .slice a l.length d] 30)
  have KK := Hid.mk' (heldAttrS_is 1 a d l _ (h.below B0) (by omega) (by omega) (by omega))
  have BB := Hid.mk' B0
  have zz : ¬ ((1 : Int) + (l.length : Int) + (vsz l : Int) < 0) := by omega
  clear B0 h
  go_enter Tryz.func17, Tryz.ntmps17
  go_wp2_with fail
  refine KK.out.mono ?_
  rintro e w1 ⟨rfl, hb1⟩
  have B1 := Hid.mk' (BB.out.trans (hb1.mono BB.out.size))
  have zz2 : ¬ (((1 : Nat) : Int) + (l.length : Int) + (vsz l : Int) < 0) := by omega
  clear KK BB hb1
  go_wp2
  go_ret
  exact ⟨by simp, B1.out⟩

set_option maxRecDepth 100000 in
set_option maxHeartbeats 12800000 in
theorem lawKA_any (p : PO) (a b c : Option Addr) (n1 n2 n3 : Nat) (q : Option Addr) (d : Nat) (l : List AT) (w : World) (ha : POAt w a b c p) (hw : WideP p) (hq : AAt w q l) (hwl : Wide l) (hv : ∀ k, k < l.length → ∀ j, j < (atK l k).vl.length → 0 ≤ (atK l k).vl.getD j 0 ∧ (atK l k).vl.getD j 0 ≤ 255) (hm : (l.length : Int) ≤ 9223372036854775807) (tb : TBS w) :
    Calls Tryz.prog 3 #[.agg #[.slice a p.tg.length n1, .slice b p.at_.length n2, .slice c p.sc.length n3], .slice q l.length d] w fun e w' => e = .returned (.bool true) ∧ Below w.heap.size w w' := by
  have N0 := below_new w (.cells #[.slice a p.tg.length n1, .slice b p.at_.length n2, .slice c p.sc.length n3] 24)
  have KS := szPolicy_any p a b c n1 n2 n3 _ (ha.below N0) hw
  have HP := Hid.mk' (row3 w 24 (.slice a p.tg.length n1) (.slice b p.at_.length n2) (.slice c p.sc.length n3))
  have HA := Hid.mk' ha
  have HQ := Hid.mk' hq
  have HT := Hid.mk' tb
  have HB := Hid.mk' N0
  have HU := Hid.mk' hv
  have HWL := Hid.mk' hwl
  clear ha N0 hw hq tb hv hwl
  generalize hW : w.alloc (.cells #[.slice a p.tg.length n1, .slice b p.at_.length n2, .slice c p.sc.length n3] 24) = W at *
  obtain ⟨c0, c1, c2, c3⟩ := cellsP HP.out
  by_cases big : 1048576 < (psz p : Int)
  · rw [if_pos big] at KS
    have KS := Hid.mk' KS
    go_enter Tryz.func3, Tryz.ntmps3
    go_wp2_with fail
    refine KS.out.mono ?_
    rintro e w1 ⟨rfl, hb⟩
    have HB := Hid.mk' (HB.out.trans (hb.mono HB.out.size))
    clear hb KS
    go_wp2
    go_ret
    exact ⟨rfl, HB.out⟩
  rw [if_neg big] at KS
  have KS := Hid.mk' KS
  have zz : ¬ (1048576 - (psz p : Int) < 0) := by omega
  have hl : (psz p : Int) ≤ 1048576 := by omega
  have KZ : Hid (∀ X, Below w.heap.size w X → Calls Tryz.prog 6 #[.slice q l.length d, .int .i64 (1048576 - (psz p : Int))] X fun e w' => e = .returned (.int .i64 (if 1048576 - (psz p : Int) < (l.length : Int) + asz l then -1 else 1048576 - (psz p : Int) - l.length - asz l)) ∧ Below X.heap.size X w') := Hid.mk' (fun X hX => szAttrS_any q d l _ X (HQ.out.below hX) HWL.out (by omega) (by omega) hm)
  by_cases big2 : 1048576 - (psz p : Int) < (l.length : Int) + asz l
  · rw [if_pos big2] at KZ
    go_enter Tryz.func3, Tryz.ntmps3
    go_wp2_with fail
    refine KS.out.mono ?_
    rintro e w1 ⟨rfl, hb⟩
    have HB := Hid.mk' (HB.out.trans (hb.mono HB.out.size))
    clear hb KS c0 c1 c2 c3 hW
    go_wp2_with fail
    refine (KZ.out _ HB.out).mono ?_
    rintro e w2 ⟨rfl, hb⟩
    have HB := Hid.mk' (HB.out.trans (hb.mono HB.out.size))
    clear hb KZ
    go_wp2
    go_ret
    exact ⟨rfl, HB.out⟩
  rw [if_neg big2] at KZ
  have zz2 : ¬ (1048576 - (psz p : Int) - l.length - asz l < 0) := by omega
  have ll : (l.length : Int) + asz l ≤ 1048576 := by omega
  have HUU : Hid (∀ k, k < l.length → ((atK l k).nm.size : Int) ≤ 1048576 ∧ ((atK l k).vl.length : Int) ≤ 1048576 ∧ ∀ j, j < (atK l k).vl.length → 0 ≤ (atK l k).vl.getD j 0 ∧ (atK l k).vl.getD j 0 ≤ 255) := Hid.mk' (fun k hk => ⟨by have := asz_get l k hk; omega, by have := asz_get l k hk; omega, HU.out k hk⟩)
  have hR : Hid (((kaP p l).2.length : Int) + asz (kaP p l).2 ≤ 1048576) := Hid.mk' (by have := kaP_small p l; omega)
  have KSP : Hid (∀ (X : World) (g1 g2 g3 v1 : Nat), POAt X (some ⟨g1, 0, none⟩) (some ⟨g2, 0, none⟩) (some ⟨g3, 0, none⟩) p → AO v1 l X → Calls Tryz.prog 7 #[.agg #[.slice (some ⟨g1, 0, none⟩) p.tg.length p.tg.length, .slice (some ⟨g2, 0, none⟩) p.at_.length p.at_.length, .slice (some ⟨g3, 0, none⟩) p.sc.length p.sc.length], .slice (some ⟨v1, 0, none⟩) l.length l.length] X fun e w' => ∃ v c', e = .returned (.agg #[.int .i64 (kaP p l).1, .slice v (kaP p l).2.length c']) ∧ AAt w' v (kaP p l).2 ∧ Below X.heap.size X w') := Hid.mk' (fun X g1 g2 g3 v1 h1 h2 => (specKA_any p _ _ _ _ _ _ _ _ l X h1 hl h2.at (fun k hk => (HUU.out k hk).2) (by omega)).mono (by
      rintro e w' ⟨v, us, rfl, haf, hb⟩
      obtain ⟨av, cv, rfl, hat⟩ := haf.at
      exact ⟨av, cv, rfl, hat, hb⟩))
  have KIM : Hid (∀ (X : World) (g1 g2 g3 v1 : Nat), POAt X (some ⟨g1, 0, none⟩) (some ⟨g2, 0, none⟩) (some ⟨g3, 0, none⟩) p → AO v1 l X → TBS X → Calls Tryz.prog 10 #[.agg #[.slice (some ⟨g1, 0, none⟩) p.tg.length p.tg.length, .slice (some ⟨g2, 0, none⟩) p.at_.length p.at_.length, .slice (some ⟨g3, 0, none⟩) p.sc.length p.sc.length], .slice (some ⟨v1, 0, none⟩) l.length l.length] X fun e w' => ∃ v c' us, e = .returned (.agg #[.int .i64 (kaP p l).1, .slice v (kaP p l).2.length c']) ∧ AF true X.heap.size w' (.slice v (kaP p l).2.length c') (kaP p l).2 us ∧ Below X.heap.size X w') := Hid.mk' (fun X g1 g2 g3 v1 h1 h2 h3 => (implKA_any p _ _ _ _ _ _ v1 _ l X h1 hl h2.av (Nat.le_refl _) HUU.out (by omega) h3).mono (by
      rintro e w' ⟨v, us, rfl, haf, hb⟩
      obtain ⟨av, cv, rfl, hat⟩ := haf.at
      exact ⟨av, cv, us, rfl, haf, hb⟩))
  have KTA : Hid (∀ X, Below w.heap.size w X → Calls Tryz.prog 9 #[.slice q l.length d] X fun e w' => e = .returned (.slice (some ⟨X.heap.size, 0, none⟩) l.length l.length) ∧ AO X.heap.size l w' ∧ Below X.heap.size X w') := Hid.mk' (fun X hX => (toAttrS_any q d l X (HQ.out.below hX) ll).mono (by
      rintro e w' ⟨rfl, har⟩
      exact ⟨rfl, AO.of har (KeptIn.refl 0 0 _) (Nat.zero_le _), har.bl⟩))
  generalize (kaP p l).1 = C at *
  generalize (kaP p l).2 = K at *
  clear HU HUU HWL HQ
  go_enter Tryz.func3, Tryz.ntmps3
  go_wp2_with fail
  clear hW
  refine KS.out.mono ?_
  rintro e w1 ⟨rfl, hb⟩
  have HP := Hid.mk' (rowB HP.out hb)
  have HB := Hid.mk' (HB.out.trans (hb.mono HB.out.size))
  clear hb KS c0 c1 c2 c3 big
  go_wp2_with fail
  refine (KZ.out _ HB.out).mono ?_
  rintro e w1' ⟨rfl, hb⟩
  have HP := Hid.mk' (rowB HP.out hb)
  have HB := Hid.mk' (HB.out.trans (hb.mono HB.out.size))
  clear hb KZ big2
  obtain ⟨c0, c1, c2, c3⟩ := cellsP HP.out
  go_wp2_with fail
  clear zz zz2
  refine (toPolicy_at p a b c n1 n2 n3 w1' (HA.out.below HB.out) hl).mono ?_
  rintro e w2 ⟨g1, g2, g3, rfl, t1, hb⟩
  have HP := Hid.mk' (rowB HP.out hb)
  have HB := Hid.mk' (HB.out.trans (hb.mono HB.out.size))
  have T1 := Hid.mk' t1
  clear hb t1 c0 c1 c2 c3
  go_wp2_with fail
  refine (KTA.out _ HB.out).mono ?_
  rintro e w3 ⟨rfl, rv, hb⟩
  have HP := Hid.mk' (rowB HP.out hb)
  have HB := Hid.mk' (HB.out.trans (hb.mono HB.out.size))
  have KSP := Hid.mk' (KSP.out w3 g1 g2 g3 w2.heap.size (T1.out.below hb) rv)
  clear hb rv T1
  go_wp2_with fail
  refine KSP.out.mono ?_
  rintro e w4 ⟨va, vc, rfl, hat, hb⟩
  have N4 := below_new w4 (.cells #[.int .i64 C, .slice va K.length vc] 30)
  have M4 := hb.trans (N4.mono hb.size)
  have HP := Hid.mk' (rowB HP.out M4)
  have HB := Hid.mk' (HB.out.trans (M4.mono HB.out.size))
  have XA := Hid.mk' (rowQ2 w4 30 (.int .i64 C) (.slice va K.length vc))
  have VA := Hid.mk' (hat.below N4)
  clear hb hat KSP N4 M4
  generalize hWA : w4.alloc (.cells #[.int .i64 C, .slice va K.length vc] 30) = WA at *
  have HZ := Hid.mk' HB.out.size
  have HXA := Hid.mk' XA.out.lt
  obtain ⟨c0, c1, c2, c3⟩ := cellsP HP.out
  go_wp2_with fail
  clear hWA
  refine (toPolicy_any p a b c n1 n2 n3 WA (HA.out.below HB.out) hl).mono ?_
  rintro e w5 ⟨h1, h2, h3, rfl, t2, hb⟩
  have N5 := below_new w5 (.cells #[.slice (some ⟨h1, 0, none⟩) p.tg.length p.tg.length, .slice (some ⟨h2, 0, none⟩) p.at_.length p.at_.length, .slice (some ⟨h3, 0, none⟩) p.sc.length p.sc.length] 32)
  have DA := Hid.mk' (hb.trans (N5.mono hb.size))
  have T2 := Hid.mk' (t2.below N5)
  have DX := Hid.mk' hb.size
  have HX := Hid.mk' (row3 w5 32 (.slice (some ⟨h1, 0, none⟩) p.tg.length p.tg.length) (.slice (some ⟨h2, 0, none⟩) p.at_.length p.at_.length) (.slice (some ⟨h3, 0, none⟩) p.sc.length p.sc.length))
  have HG3 := Hid.mk' t2.2.2.2.2.2.lt
  clear hb t2 N5 c0 c1 c2 c3
  generalize hW5 : w5.alloc (.cells #[.slice (some ⟨h1, 0, none⟩) p.tg.length p.tg.length, .slice (some ⟨h2, 0, none⟩) p.at_.length p.at_.length, .slice (some ⟨h3, 0, none⟩) p.sc.length p.sc.length] 32) = W5 at *
  go_wp2_with fail
  clear hW5
  refine (KTA.out W5 (HB.out.trans (DA.out.mono HB.out.size))).mono ?_
  rintro e w6 ⟨rfl, rv, hb⟩
  have HX5 := Hid.mk' HX.out.lt
  have DA := Hid.mk' (DA.out.trans (hb.mono DA.out.size))
  have HX := Hid.mk' (rowB HX.out hb)
  have T2 := Hid.mk' (T2.out.below hb)
  have V2 := Hid.mk' rv
  have MM := Hid.mk' rv.mr
  have HS5 := Hid.mk' hb.size
  clear hb rv
  obtain ⟨d0, d1, d2, d3⟩ := cellsP HX.out
  have KI := Hid.mk' (KIM.out w6 h1 h2 h3 W5.heap.size T2.out.at V2.out (HT.out.below (HB.out.trans (DA.out.mono HB.out.size))))
  go_wp2_with fail
  refine KI.out.mono ?_
  rintro e w7 ⟨u, uc, us, rfl, haf, hb⟩
  have N7 := below_new w7 (.cells #[.int .i64 C, .slice u K.length uc] 30)
  have M7 := hb.trans (N7.mono hb.size)
  have DA := Hid.mk' (DA.out.trans (M7.mono DA.out.size))
  have HX := Hid.mk' (rowB HX.out M7)
  have T2 := Hid.mk' (T2.out.below M7)
  have V2 := Hid.mk' (V2.out.below M7)
  have XG := Hid.mk' (rowQ2 w7 30 (.int .i64 C) (.slice u K.length uc))
  have UF := Hid.mk' (haf.below N7)
  have MM := Hid.mk' (MM.out.below M7)
  have UV : Hid (∀ k, (Value.slice u K.length uc).ownBlock = some k → k < w7.heap.size) := Hid.mk' (fun k e => (haf.row.lt k e).2)
  have UU : Hid (∀ j, j < K.length → ∀ k, uB (us.getD j undef) (atK K j).vl.length = some k → k < w7.heap.size) := Hid.mk' (fun j hj k e => (haf.val j hj).blk e)
  have HS7 := Hid.mk' hb.size
  clear hb haf N7 M7 KI d0 d1 d2 d3
  generalize hWC : w7.alloc (.cells #[.int .i64 C, .slice u K.length uc] 30) = WC at *
  have HXG := Hid.mk' XG.out.lt
  have ATS : Hid (∀ {fr : Bool} {lo : Nat} {X : World} {m : List AT} {us : List Value}, m.length = K.length → AF fr lo X (.slice u K.length uc) m us → AAt X u m) := Hid.mk' (fun hm h => by
    obtain ⟨a', c', e, hat⟩ := h.at
    obtain ⟨rfl, -, -⟩ := Value.slice.inj e
    exact hat)
  obtain ⟨y0, y1, y2⟩ := cellsQ2 XG.out
  obtain ⟨z0, z1, z2⟩ := cellsQ2 (rowB XA.out DA.out)
  go_wp2_with fail
  clear hWC
  refine (eqAR_any C u va uc vc K WC (ATS.out rfl UF.out) (VA.out.below DA.out) hR.out).mono ?_
  rintro e w8 ⟨rfl, hb⟩
  have DA := Hid.mk' (DA.out.trans (hb.mono DA.out.size))
  have DC := Hid.mk' hb
  clear hb y0 y1 y2 z0 z1 z2
  obtain ⟨c0, c1, c2, c3⟩ := cellsP (rowB HP.out DA.out)
  obtain ⟨d0, d1, d2, d3⟩ := cellsP (rowB HX.out DC.out)
  have HA8 := Hid.mk' (HA.out.below (HB.out.trans (DA.out.mono HB.out.size)))
  have T8 := Hid.mk' (T2.out.below DC.out).at
  go_wp2
  go_region_held3 (fun w' => w'.cell? ⟨w.heap.size, 0, none⟩ = some (.slice a p.tg.length n1) ∧ w'.cell? ⟨w.heap.size, 1, none⟩ = some (.slice b p.at_.length n2) ∧ w'.cell? ⟨w.heap.size, 2, none⟩ = some (.slice c p.sc.length n3) ∧ w'.cell? ⟨w5.heap.size, 0, none⟩ = some (.slice (some ⟨h1, 0, none⟩) p.tg.length p.tg.length) ∧ w'.cell? ⟨w5.heap.size, 1, none⟩ = some (.slice (some ⟨h2, 0, none⟩) p.at_.length p.at_.length) ∧ w'.cell? ⟨w5.heap.size, 2, none⟩ = some (.slice (some ⟨h3, 0, none⟩) p.sc.length p.sc.length)) (simp [*])
    (first | (go_at_call 8; refine (toPolicy_at p a b c n1 n2 n3 _ (HA8.out.below (Below.refl _ _).drew) hl).mono ?_; rintro e w9 ⟨k1, k2, k3, rfl, t9, hb9⟩; replace hb9 := undrew hb9; obtain ⟨hx1, hx2⟩ := bcell hb9; have zz1 := hb9.size; have zz2 : w.heap.size < w9.heap.size := (by omega); have zz3 : w5.heap.size < w9.heap.size := (by omega)) | (go_at_call 12; refine (eqPolicy_any p _ _ _ _ _ _ _ _ _ _ _ _ _ (T8.out.below hb9) t9 hl).mono ?_; rintro e wD ⟨rfl, hbA⟩; obtain ⟨hx3, hx4⟩ := bcell hbA))
  have B9 := hb9.trans (hbA.mono hb9.size)
  have DA := Hid.mk' (DA.out.trans (B9.mono DA.out.size))
  have DC := Hid.mk' (DC.out.trans (B9.mono DC.out.size))
  clear hx1 hx2 hx3 hx4 zz1 zz2 zz3 hb9 hbA t9 c0 c1 c2 c3 d0 d1 d2 d3 B9 HA8 T8
  go_wp2_with fail
  refine (KTA.out wD (HB.out.trans (DA.out.mono HB.out.size))).mono ?_
  rintro e wE ⟨rfl, rv, hb⟩
  have DA := Hid.mk' (DA.out.trans (hb.mono DA.out.size))
  have DC := Hid.mk' (DC.out.trans (hb.mono DC.out.size))
  have V3 := Hid.mk' rv
  clear hb rv
  go_wp2_with fail
  refine (eqAttrS_any _ _ _ _ l wE (V2.out.below DC.out).at V3.out.at ll).mono ?_
  rintro e wF ⟨rfl, hb⟩
  have DA := Hid.mk' (DA.out.trans (hb.mono DA.out.size))
  have DC := Hid.mk' (DC.out.trans (hb.mono DC.out.size))
  clear hb V3
  obtain ⟨d0, d1, d2, d3⟩ := cellsP (rowB HX.out DC.out)
  go_wp2_with fail
  refine (markPolicy_x p WA.heap.size w5.heap.size h1 h2 h3 wF (T2.out.below DC.out) HG3.out hl).mono ?_
  rintro e wG ⟨rfl, hk⟩
  have DA := Hid.mk' (DA.out.trans (hk.below (Nat.le_refl _) DA.out.size))
  have UF := Hid.mk' ((UF.out.below DC.out).keptIn hk (by have := HX5.out; have := HS5.out; omega))
  have XG := Hid.mk' (rowK (rowB XG.out DC.out) hk (.inr (by have := HX5.out; have := HS5.out; have := HS7.out; omega)))
  have MM := Hid.mk' ((MM.out.below DC.out).kept hk (by have := HX5.out; omega))
  have HSG : Hid (w6.heap.size ≤ wG.heap.size) := Hid.mk' (by have := hk.size; have := DC.out.size; have := HXG.out; have := HS7.out; omega)
  clear hk d0 d1 d2 d3 DC T2 HX V2
  have hpz : Hid ((p.tg.length : Int) + p.at_.length + p.sc.length ≤ 1048576) := Hid.mk' (by unfold psz at hl; omega)
  have KM := Hid.mk' (markAttrS_gen W5.heap.size w6.heap.size l.length (1 + p.tg.length + p.at_.length + p.sc.length) l wG MM.out HSG.out ll (by omega) (by have := hpz.out; omega))
  go_wp2_with fail
  refine KM.out.mono ?_
  rintro e wH ⟨rfl, _, hk⟩
  have DA := Hid.mk' (DA.out.trans (hk.below (by have := HX5.out; have := DX.out; omega) DA.out.size))
  have UF := Hid.mk' (UF.out.keptIn hk (Nat.le_refl _))
  have XG := Hid.mk' (rowK XG.out hk (.inr HS7.out))
  clear hk MM KM
  have kz : ¬ ((((1 + p.tg.length + p.at_.length + p.sc.length : Nat) : Int)) + (l.length : Int) + (vsz l : Int) < 0) := by omega
  obtain ⟨y0, y1, y2⟩ := cellsQ2 XG.out
  obtain ⟨z0, z1, z2⟩ := cellsQ2 (rowB XA.out DA.out)
  go_wp2_with fail
  refine (eqAR_any C u va uc vc K wH (ATS.out rfl UF.out) (VA.out.below DA.out) hR.out).mono ?_
  rintro e wI ⟨rfl, hb⟩
  have DA := Hid.mk' (DA.out.trans (hb.mono DA.out.size))
  have UF := Hid.mk' (UF.out.below hb)
  have XG := Hid.mk' (rowB XG.out hb)
  clear hb y0 y1 y2 z0 z1 z2 kz
  obtain ⟨y0, y1, y2⟩ := cellsQ2 XG.out
  have KM := Hid.mk' (markAR_any C u uc w6.heap.size w7.heap.size K us wI UF.out (by have := XG.out.lt; have := HS7.out; omega) UV.out UU.out hR.out)
  go_wp2_with fail
  refine KM.out.mono ?_
  rintro e wJ ⟨rfl, um, hk⟩
  have DA := Hid.mk' (DA.out.trans (hk.below (by have := HX5.out; have := DX.out; have := HS5.out; omega) DA.out.size))
  have XG := Hid.mk' (rowK XG.out hk (.inr (Nat.le_refl _)))
  have UM := Hid.mk' (ATS.out (by rw [mkA_len]) um)
  clear hk um UF y0 y1 y2 KM
  obtain ⟨y0, y1, y2⟩ := cellsQ2 XG.out
  go_wp2_with fail
  refine (heldAR_any C u uc K wJ UM.out hR.out).mono ?_
  rintro e wK ⟨rfl, hb⟩
  have DA := Hid.mk' (DA.out.trans (hb.mono DA.out.size))
  have UM := Hid.mk' (UM.out.below hb)
  have XG := Hid.mk' (rowB XG.out hb)
  have kq : ¬ (1 + (K.length : Int) + (vsz K : Int) < 0) := by omega
  clear hb y0 y1 y2
  obtain ⟨c0, c1, c2, c3⟩ := cellsP (rowB HP.out DA.out)
  go_wp2_with fail
  refine (toPolicy_at p a b c n1 n2 n3 wK (HA.out.below (HB.out.trans (DA.out.mono HB.out.size))) hl).mono ?_
  rintro e wL ⟨k1, k2, k3, rfl, t9, hb⟩
  have DA := Hid.mk' (DA.out.trans (hb.mono DA.out.size))
  have UM := Hid.mk' (UM.out.below hb)
  have XG := Hid.mk' (rowB XG.out hb)
  have T9 := Hid.mk' t9
  clear hb t9 c0 c1 c2 c3
  go_wp2_with fail
  refine (KTA.out wL (HB.out.trans (DA.out.mono HB.out.size))).mono ?_
  rintro e wM ⟨rfl, rv, hb⟩
  have DA := Hid.mk' (DA.out.trans (hb.mono DA.out.size))
  have UM := Hid.mk' (UM.out.below hb)
  have XG := Hid.mk' (rowB XG.out hb)
  have KI := Hid.mk' (KIM.out wM k1 k2 k3 wL.heap.size (T9.out.below hb) rv (HT.out.below (HB.out.trans (DA.out.mono HB.out.size))))
  clear hb rv T9
  go_wp2_with fail
  refine KI.out.mono ?_
  rintro e wN ⟨x, xc, xs, rfl, haf, hb⟩
  have N9 := below_new wN (.cells #[.int .i64 C, .slice x K.length xc] 30)
  have M9 := hb.trans (N9.mono hb.size)
  have DA := Hid.mk' (DA.out.trans (M9.mono DA.out.size))
  have UM := Hid.mk' (UM.out.below M9)
  have XG := Hid.mk' (rowB XG.out M9)
  have XH := Hid.mk' (rowQ2 wN 30 (.int .i64 C) (.slice x K.length xc))
  obtain ⟨x', xc', ex, hat⟩ := haf.at
  obtain ⟨rfl, -, -⟩ := Value.slice.inj ex
  have HAT := Hid.mk' (hat.below N9)
  clear hb hat haf ex N9 M9 KI
  generalize hWN : wN.alloc (.cells #[.int .i64 C, .slice x K.length xc] 30) = WN at *
  obtain ⟨y0, y1, y2⟩ := cellsQ2 XH.out
  obtain ⟨z0, z1, z2⟩ := cellsQ2 (rowB XA.out DA.out)
  go_wp2_with fail
  clear hWN
  refine (eqAR_any C x va xc vc K WN HAT.out (VA.out.below DA.out) hR.out).mono ?_
  rintro e wO ⟨rfl, hb⟩
  have DA := Hid.mk' (DA.out.trans (hb.mono DA.out.size))
  have UM := Hid.mk' (UM.out.below hb)
  have XG := Hid.mk' (rowB XG.out hb)
  clear hb y0 y1 y2 z0 z1 z2
  obtain ⟨y0, y1, y2⟩ := cellsQ2 XG.out
  go_wp2_with fail
  refine (heldAR_any C u uc K wO UM.out hR.out).mono ?_
  rintro e wQ ⟨rfl, hb⟩
  have DA := Hid.mk' (DA.out.trans (hb.mono DA.out.size))
  clear hb y0 y1 y2
  go_wp2
  go_ret
  exact ⟨rfl, HB.out.trans (DA.out.mono HB.out.size)⟩

end Go.Proofs.YthhdfbgjdfoalaaGreatDoor
