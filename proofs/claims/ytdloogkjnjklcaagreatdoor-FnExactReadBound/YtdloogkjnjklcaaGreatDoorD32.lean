/- The model's memo: what is in memory while it is made. -/
import Derived.Test.YtdloogkjnjklcaaGreatDoorD31
import Derived.Test.YtdloogkjnjklcaaGreatDoorD23
set_option linter.unusedVariables false
set_option linter.unusedSimpArgs false
namespace Go.Proofs.YtdloogkjnjklcaaGreatDoor
open Go.RowKit

def BT (X : Nat → Prop) (w : World) (v : Value) (l : List Int) : Prop :=
  ∃ B : Nat → Prop, (∀ k, B k → k < w.heap.size ∧ ¬ X k) ∧ ∃ a c, v = .slice a l.length c ∧ l.length ≤ c ∧ ∀ w', (∀ k, B k → w'.heap[k]? = w.heap[k]?) → BAt w' a l

theorem BT.step {X X' : Nat → Prop} {w w' : World} {v : Value} {l : List Int} (h : BT X w v l) (hk : ∀ k, k < w.heap.size → ¬ X k → w'.heap[k]? = w.heap[k]?) (hs : w.heap.size ≤ w'.heap.size) (hX : ∀ k, X' k → X k ∨ w.heap.size ≤ k) : BT X' w' v l := by
  obtain ⟨B, hB, a, c, e, hc, hw⟩ := h
  refine ⟨B, fun k hk' => ⟨Nat.lt_of_lt_of_le (hB k hk').1 hs, fun hx => ?_⟩, a, c, e, hc, fun v hv => hw v (fun k hk' => (hv k hk').trans (hk k (hB k hk').1 (hB k hk').2))⟩
  rcases hX k hx with h | h
  · exact (hB k hk').2 h
  · have := (hB k hk').1; omega

theorem BT.at {X : Nat → Prop} {w : World} {v : Value} {l : List Int} (h : BT X w v l) : ∃ a c, v = .slice a l.length c ∧ l.length ≤ c ∧ BAt w a l := by
  obtain ⟨B, hB, a, c, e, hc, hw⟩ := h
  exact ⟨a, c, e, hc, hw w (fun _ _ => rfl)⟩

theorem BT.of_own {X : Nat → Prop} {w : World} {base : Nat} {v : Value} {l : List Int} (h : w.ownsRow base 5 1 v l.length (bcs l)) (hX : ∀ k, v.ownBlock = some k → ¬ X k) : BT X w v l := by
  obtain ⟨a, c, e, hc⟩ := own_cap h
  refine ⟨fun k => v.ownBlock = some k, fun k hk => ⟨(h.lt k hk).2, hX k hk⟩, a, c, e, hc, fun w' hw => ?_⟩
  obtain ⟨p, c', e', hb⟩ := own_bat (own_of h (Nat.le_refl _) (fun k e _ => hw k e) : w'.ownsRow base 5 1 v l.length (bcs l))
  rw [e] at e'
  injection e' with e1 _ _
  rw [e1]; exact hb

def TC (X : Nat → Prop) (w : World) (us : List Value) (ts : List TK) : Prop :=
  ∀ i, i < ts.length → ∃ B : Nat → Prop, (∀ k, B k → k < w.heap.size ∧ ¬ X k) ∧ ∃ a c, us.getD i undef = .slice a (tkK ts i).at_.length c ∧ ∀ w', (∀ k, B k → w'.heap[k]? = w.heap[k]?) → w.heap.size ≤ w'.heap.size → AAt w' a (tkK ts i).at_

theorem TC.step {X X' : Nat → Prop} {w w' : World} {us : List Value} {ts : List TK} (h : TC X w us ts) (hk : ∀ k, k < w.heap.size → ¬ X k → w'.heap[k]? = w.heap[k]?) (hs : w.heap.size ≤ w'.heap.size) (hX : ∀ k, X' k → X k ∨ w.heap.size ≤ k) : TC X' w' us ts := by
  intro i hi
  obtain ⟨B, hB, a, c, e, hw⟩ := h i hi
  refine ⟨B, fun k hk' => ⟨Nat.lt_of_lt_of_le (hB k hk').1 hs, fun hx => ?_⟩, a, c, e, fun v hv hsz => hw v (fun k hk' => (hv k hk').trans (hk k (hB k hk').1 (hB k hk').2)) (Nat.le_trans hs hsz)⟩
  rcases hX k hx with h | h
  · exact (hB k hk').2 h
  · have := (hB k hk').1; omega

theorem TC.app {X : Nat → Prop} {w : World} {us us1 : List Value} {ts ts1 : List TK} (h : TC X w us ts) (hl : us.length = ts.length) (k : TC X w us1 ts1) : TC X w (us ++ us1) (ts ++ ts1) := by
  intro i hi
  by_cases c : i < ts.length
  · rw [tkK_left c, usK_left (by omega)]; exact h i c
  · rw [tkK_right c, usK_right (by omega), hl]
    exact k _ (by rw [List.length_append] at hi; omega)

theorem TC.nil (X : Nat → Prop) (w : World) : TC X w [] [] := fun i hi => absurd hi (Nat.not_lt_zero _)

theorem TC.of {X : Nat → Prop} {base : Nat} {w : World} {us : List Value} {ts : List TK} (hl : us.length = ts.length) (h : ∀ (i : Nat) t u, ts[i]? = some t → us[i]? = some u → TokIn base w none t u) (hX : ∀ k, X k → k < base) : TC X w us ts := by
  intro i hi
  have h1 : ts[i]? = some (tkK ts i) := by unfold tkK; simp [hi]
  have h2 : us[i]? = some (us.getD i undef) := by simp [show i < us.length by omega]
  rcases h i _ _ h1 h2 with ⟨e1, e2⟩ | ⟨lo, w9, rs, k1, k2, k3, k4, k5⟩
  · refine ⟨fun _ => False, fun k hk => absurd hk id, none, 0, by rw [e2, e1]; rfl, fun w' _ _ => .inl e1⟩
  · obtain ⟨a, c, e, hA⟩ := k2.at
    refine ⟨fun k => lo ≤ k ∧ k < w9.heap.size, fun k hk => ⟨by omega, fun hx => by have := hX k hx; omega⟩, a, c, e, fun w' hw _ => ?_⟩
    obtain ⟨a', c', e', hA'⟩ := (k2.keep (w' := w') (Nat.le_refl _) (fun k h1 h2 => (hw k ⟨h1, h2⟩).trans (k4 k h1 h2))).at
    rw [e] at e'
    injection e' with e1 _ _
    rw [e1]; exact hA'

theorem rowT_cellN {lo g cap : Nat} {w : World} {ts : List TK} {us : List Value} (hl : us.length = ts.length) (h : w.ownsRow lo 101 5 (.slice (some ⟨g, 0, none⟩) ts.length cap) ts.length (tcs ts us)) {n i : Nat} (hn : n < ts.length) (hi : i < 5) : w.cell? ⟨g, n * 5 + i, none⟩ = ([.int .i64 (tkK ts n).kd, .int .i64 (tkK ts n).by_, .string (tkK ts n).nm, us.getD n undef, .bool (tkK ts n).sh] : List Value)[i]? ∧ w.frozen? ⟨g, n * 5 + i, none⟩ = false := by
  rcases h.2 with ⟨h0, _⟩ | ⟨g', cap', cur, hv, hg, hh, hc, hm, hs', ht⟩
  · cases h0
  · cases hv
    refine ⟨?_, Lib.frozen_of_heap hh _⟩
    rw [Lib.cell_of_heap hh, ← tcs_get ts us n i hl hn hi, ← ht, List.getElem?_take_of_lt (by omega)]
    simp

theorem row_tsAtN {w : World} {lo : Nat} {v : Value} {ts : List TK} {us : List Value} (hl : us.length = ts.length) (h : w.ownsRow lo 101 5 v ts.length (tcs ts us)) (ha : ∀ j, j < ts.length → ∃ p c, us.getD j undef = .slice p (tkK ts j).at_.length c ∧ AAt w p (tkK ts j).at_) : ∃ a c, v = .slice a ts.length c ∧ TsAt w a ts := by
  by_cases h0 : ts = []
  · subst h0
    obtain ⟨a, c, e, _⟩ := own_src h
    exact ⟨a, c, e, .inl rfl⟩
  · have hp : 0 < ts.length := List.length_pos_iff.2 h0
    rcases h.2 with ⟨rfl, h9⟩ | ⟨g, cap, cur, rfl, hg, hh, hc, hm, hs, ht⟩
    · omega
    · have glt : g < w.heap.size := Nat.lt_of_not_le fun hn => by rw [Array.getElem?_eq_none hn] at hh; cases hh
      refine ⟨_, _, rfl, .inr ⟨g, 0, rfl, glt, fun k hk => ?_⟩⟩
      have cc := fun i hi => (rowT_cellN hl h hk (i := i) hi).1
      obtain ⟨p, c, e, haa⟩ := ha k hk
      simp only [Nat.zero_add]
      refine ⟨cc 0 (by omega), cc 1 (by omega), cc 2 (by omega), ⟨p, c, ?_, haa⟩, cc 4 (by omega)⟩
      rw [cc 3 (by omega), ← e]; rfl

theorem TP.tsAtN {lo : Nat} {w : World} {tv : Value} {ts : List TK} {us : List Value} {rs : Nat → List Value} {bl bh : Nat → Nat} (h : TP lo w tv ts us rs bl bh) : ∃ a c, tv = .slice a ts.length c ∧ TsAt w a ts :=
  row_tsAtN h.ta.len h.row (fun j hj => (h.ta.att j hj).at)

theorem TC.ts {X : Nat → Prop} {base : Nat} {w : World} {tv : Value} {us : List Value} {ts : List TK} (h : TC X w us ts) (hl : us.length = ts.length) (hr : w.ownsRow base 101 5 tv ts.length (tcs ts us)) : ∃ a c, tv = .slice a ts.length c ∧ TsAt w a ts :=
  row_tsAtN hl hr (fun j hj => by
    obtain ⟨B, _, a, c, e, hw⟩ := h j hj
    exact ⟨a, c, e, hw w (fun _ _ => rfl) (Nat.le_refl _)⟩)

def cvs (d : List Int) (s c : Nat) (hs : Nat → Value) : List Value := (List.range (c * 3)).map (ckV d s c hs)
theorem cvs_len (d : List Int) (s c : Nat) (hs : Nat → Value) : (cvs d s c hs).length = c * 3 := by simp [cvs]
theorem cvs_at (d : List Int) (s c : Nat) (hs : Nat → Value) (i : Nat) (h : i < c * 3) : (cvs d s c hs)[i]? = some (ckV d s c hs i) := by simp [cvs, h]
theorem cvs_succ (d : List Int) (s c : Nat) (hs : Nat → Value) (v : Value) : cvs d s c hs ++ [.int .i64 ((c * s : Nat) : Int), .int .i64 ((tkN d s c).length : Int), v] = cvs d s (c + 1) (fun i => if i = c then v else hs i) := by
  apply List.ext_getElem?
  intro i
  by_cases h : i < c * 3
  · rw [List.getElem?_append_left (by rw [cvs_len]; exact h), cvs_at _ _ _ _ _ h, cvs_at _ _ _ _ _ (by omega)]
    unfold ckV
    rw [if_pos (by omega), if_pos (by omega)]
    dsimp only
    rw [if_neg (by omega)]
  · rw [List.getElem?_append_right (by rw [cvs_len]; omega), cvs_len]
    by_cases h2 : i < (c + 1) * 3
    · rw [cvs_at _ _ _ _ _ h2]
      have e : i = c * 3 ∨ i = c * 3 + 1 ∨ i = c * 3 + 2 := by omega
      unfold ckV
      rcases e with rfl | rfl | rfl
      · rw [show c * 3 - c * 3 = 0 by omega, show c * 3 / 3 = c by omega, show c * 3 % 3 = 0 by omega, if_pos (by omega)]; rfl
      · rw [show c * 3 + 1 - c * 3 = 1 by omega, show (c * 3 + 1) / 3 = c by omega, show (c * 3 + 1) % 3 = 1 by omega, if_pos (by omega)]; rfl
      · rw [show c * 3 + 2 - c * 3 = 2 by omega, show (c * 3 + 2) / 3 = c by omega, show (c * 3 + 2) % 3 = 2 by omega, if_pos (by omega)]
        dsimp only
        rw [if_pos rfl]; rfl
    · rw [List.getElem?_eq_none (by simp; omega), List.getElem?_eq_none (by rw [cvs_len]; omega)]

abbrev XB (b g : Nat) (tv cv : Value) (k : Nat) : Prop := k ≤ b ∨ k = g ∨ tv.ownBlock = some k ∨ cv.ownBlock = some k

structure MS (w : World) (d : List Int) (s k c g : Nat) (dv tv cv hv : Value) (us : List Value) (hs : Nat → Value) (wr : World) : Prop where
  bel : Below w.heap.size w wr
  box : wr.rowIs g 26 5 (r5 dv (.int .i64 (s : Int)) tv (.slice none 0 0) cv)
  r0 : wr.rowIs w.heap.size 26 5 (r5 (.slice none 0 0) (.int .i64 0) (.slice none 0 0) (.slice none 0 0) (.slice none 0 0))
  gl : w.heap.size < g
  gt : tv.ownBlock ≠ some g
  gc : cv.ownBlock ≠ some g
  tr : wr.ownsRow (w.heap.size + 1) 101 5 tv (allX [] [] (d.take k)).1.length (tcs (allX [] [] (d.take k)).1 us)
  ul : us.length = (allX [] [] (d.take k)).1.length
  uo : ∀ u ∈ us, u.oneCell' = true
  cr : wr.ownsRow (w.heap.size + 1) 57 3 cv c (cvs d s c hs)
  xa : Ap tv cv
  tc : TC (XB w.heap.size g tv cv) wr us (allX [] [] (d.take k)).1
  dt : BT (XB w.heap.size g tv cv) wr dv d
  hd : BT (XB w.heap.size g tv cv) wr hv (allX [] [] (d.take k)).2
  hc : ∀ i, i < c → BT (XB w.heap.size g tv cv) wr (hs i) (hdN d s i)

theorem MS.keep {w : World} {d : List Int} {s k c g : Nat} {dv tv cv hv : Value} {us : List Value} {hs : Nat → Value} {wr wj : World} (x : MS w d s k c g dv tv cv hv us hs wr) (hb : Below wr.heap.size wr wj) : MS w d s k c g dv tv cv hv us hs wj :=
  ⟨x.bel.trans (hb.mono x.bel.size), rowB x.box hb, rowB x.r0 hb, x.gl, x.gt, x.gc, own_keep x.tr hb, x.ul, x.uo, own_keep x.cr hb, x.xa, x.tc.step (fun k h _ => hb.block k h) hb.size (fun _ h => .inl h), x.dt.step (fun k h _ => hb.block k h) hb.size (fun _ h => .inl h), x.hd.step (fun k h _ => hb.block k h) hb.size (fun _ h => .inl h), fun i hi => (x.hc i hi).step (fun k h _ => hb.block k h) hb.size (fun _ h => .inl h)⟩

theorem MS.check {w : World} {d : List Int} {s k c g : Nat} {dv tv cv hv : Value} {us : List Value} {hs : Nat → Value} {wr w2 w3 : World} (x : MS w d s k c g dv tv cv hv us hs wr) {v cv' : Value} (hb : Below wr.heap.size wr w2) (hv2 : BT (XB w.heap.size g tv cv) w2 v (hdN d s c))
    (ho : w3.ownsRow (w.heap.size + 1) 57 3 cv' (c + 1) (cvs d s c hs ++ [.int .i64 ((c * s : Nat) : Int), .int .i64 ((tkN d s c).length : Int), v])) (hg : w2.grownBy w3 cv.ownBlock) (e : cv'.ownBlock = cv.ownBlock ∨ cv'.ownBlock = some w2.heap.size) :
    MS w d s k (c + 1) g dv tv cv' hv us (fun i => if i = c then v else hs i) (w3.setCell ⟨g, 4, none⟩ cv') := by
  have y := x.keep hb
  have s2 := hg.size
  have K := (KeptIn.refl g (g + 1) w3).setCell (p := ⟨g, 4, none⟩) (by simp) (by simp) cv'
  have sK := K.size
  have told : ∀ q, cv.ownBlock = some q → w.heap.size + 1 ≤ q ∧ q < w2.heap.size := fun q e => y.cr.lt q e
  have tol : ∀ q, tv.ownBlock = some q → w.heap.size + 1 ≤ q ∧ q < w2.heap.size := fun q e => y.tr.lt q e
  have gl := y.gl
  have gb := y.box.lt
  have kb : ∀ q, q < w2.heap.size → q ≠ g → cv.ownBlock ≠ some q → (w3.setCell ⟨g, 4, none⟩ cv').heap[q]? = w2.heap[q]? := fun q h1 h2 h3 => (K.block q (by omega) (by omega)).trans (hg.block q h1 (fun e => h3 e.symm))
  have kX : ∀ q, q < w2.heap.size → ¬ XB w.heap.size g tv cv q → (w3.setCell ⟨g, 4, none⟩ cv').heap[q]? = w2.heap[q]? := fun q h1 h2 => kb q h1 (fun e => h2 (.inr (.inl e))) (fun e => h2 (.inr (.inr (.inr e))))
  have hX : ∀ q, XB w.heap.size g tv cv' q → XB w.heap.size g tv cv q ∨ w2.heap.size ≤ q := fun q h => by
    rcases h with h | h | h | h
    · exact .inl (.inl h)
    · exact .inl (.inr (.inl h))
    · exact .inl (.inr (.inr (.inl h)))
    · rcases e with e | e
      · exact .inl (.inr (.inr (.inr (e ▸ h))))
      · rw [e] at h; cases h; exact .inr (Nat.le_refl _)
  have sz : w2.heap.size ≤ (w3.setCell ⟨g, 4, none⟩ cv').heap.size := Nat.le_trans s2 sK
  have gc' : cv'.ownBlock ≠ some g := fun h => by
    rcases e with e | e
    · exact y.gc (e ▸ h)
    · rw [e] at h; cases h; omega
  refine ⟨?_, ?_, ?_, gl, y.gt, gc', ?_, y.ul, y.uo, ?_, ?_, y.tc.step kX sz hX, y.dt.step kX sz hX, y.hd.step kX sz hX, fun i hi => ?_⟩
  · exact ⟨K.os.trans (hg.os.trans y.bel.os), K.tape.trans (hg.tape.trans y.bel.tape), K.output.trans (hg.output.trans y.bel.output), Nat.le_trans y.bel.size sz, fun q hq => (kb q (by have := y.bel.size; omega) (by omega) (fun e => by have := told q e; omega)).trans (y.bel.block q hq)⟩
  · have r := y.box.of_block (hg.block g gb (fun e => y.gc e.symm))
    refine (r.set 4 cv').congr (fun i hi => ?_)
    have h : i = 0 ∨ i = 1 ∨ i = 2 ∨ i = 3 ∨ i = 4 := by omega
    rcases h with rfl | rfl | rfl | rfl | rfl <;> simp [r5]
  · exact y.r0.of_block (kb _ y.r0.lt (by omega) (fun e => by have := told _ e; omega))
  · exact own_of y.tr (Nat.le_refl _) (fun q eq hq => kb q (tol q eq).2 (fun e => y.gt (e ▸ eq)) (fun e2 => y.xa q eq e2))
  · rw [← cvs_succ]
    exact own_of ho (Nat.le_refl _) (fun q eq hq => K.block q (ho.lt q eq).2 (by have : q ≠ g := fun e2 => gc' (e2 ▸ eq); omega))
  · intro q eq eq2
    rcases e with e | e
    · rw [e] at eq2; exact y.xa q eq eq2
    · rw [e] at eq2; cases eq2; have := tol _ eq; omega
  · by_cases h : i = c
    · subst h
      rw [if_pos rfl]
      exact hv2.step kX sz hX
    · rw [if_neg h]
      exact (y.hc i (by omega)).step kX sz hX

theorem MS.feed {w : World} {d : List Int} {s k c g : Nat} {dv tv cv hv : Value} {us : List Value} {hs : Nat → Value} {wr w2 w3 : World} (x : MS w d s k c g dv tv cv hv us hs wr) {tv' hv' : Value} {R : List TK × List Int} {us1 : List Value} (eX : allX [] [] (d.take (k + 1)) = ((allX [] [] (d.take k)).1 ++ R.1, R.2))
    (hb : Below wr.heap.size wr w2) (hl1 : us1.length = R.1.length) (h1 : ∀ u ∈ us1, u.oneCell' = true) (hA : ∀ (i : Nat) t u, R.1[i]? = some t → us1[i]? = some u → TokIn wr.heap.size w2 none t u) (hh : w2.ownsRow wr.heap.size 5 1 hv' R.2.length (bcs R.2))
    (ho : w3.ownsRow (w.heap.size + 1) 101 5 tv' ((allX [] [] (d.take k)).1.length + R.1.length) (tcs (allX [] [] (d.take k)).1 us ++ tcs R.1 us1)) (hg : w2.grownBy w3 tv.ownBlock) (e : tv'.ownBlock = tv.ownBlock ∨ tv'.ownBlock = some w2.heap.size) :
    MS w d s (k + 1) c g dv tv' cv hv' (us ++ us1) hs (w3.setCell ⟨g, 2, none⟩ tv') := by
  have y := x.keep hb
  have s1 := hb.size
  have s2 := hg.size
  have K := (KeptIn.refl g (g + 1) w3).setCell (p := ⟨g, 2, none⟩) (by simp) (by simp) tv'
  have sK := K.size
  have told : ∀ q, cv.ownBlock = some q → w.heap.size + 1 ≤ q ∧ q < wr.heap.size := fun q e => x.cr.lt q e
  have tol : ∀ q, tv.ownBlock = some q → w.heap.size + 1 ≤ q ∧ q < wr.heap.size := fun q e => x.tr.lt q e
  have gl := y.gl
  have gb := x.box.lt
  have kb : ∀ q, q < w2.heap.size → q ≠ g → tv.ownBlock ≠ some q → (w3.setCell ⟨g, 2, none⟩ tv').heap[q]? = w2.heap[q]? := fun q h1 h2 h3 => (K.block q (by omega) (by omega)).trans (hg.block q h1 (fun e => h3 e.symm))
  have kX : ∀ q, q < w2.heap.size → ¬ XB w.heap.size g tv cv q → (w3.setCell ⟨g, 2, none⟩ tv').heap[q]? = w2.heap[q]? := fun q h1 h2 => kb q h1 (fun e => h2 (.inr (.inl e))) (fun e => h2 (.inr (.inr (.inl e))))
  have hX : ∀ q, XB w.heap.size g tv' cv q → XB w.heap.size g tv cv q ∨ w2.heap.size ≤ q := fun q h => by
    rcases h with h | h | h | h
    · exact .inl (.inl h)
    · exact .inl (.inr (.inl h))
    · rcases e with e | e
      · exact .inl (.inr (.inr (.inl (e ▸ h))))
      · rw [e] at h; cases h; exact .inr (Nat.le_refl _)
    · exact .inl (.inr (.inr (.inr h)))
  have old : ∀ q, XB w.heap.size g tv cv q → q < wr.heap.size := fun q h => by
    rcases h with h | h | h | h
    · omega
    · omega
    · exact (tol q h).2
    · exact (told q h).2
  have sz : w2.heap.size ≤ (w3.setCell ⟨g, 2, none⟩ tv').heap.size := Nat.le_trans s2 sK
  have gt' : tv'.ownBlock ≠ some g := fun h => by
    rcases e with e | e
    · exact y.gt (e ▸ h)
    · rw [e] at h; cases h; omega
  have e1 : (allX [] [] (d.take (k + 1))).1 = (allX [] [] (d.take k)).1 ++ R.1 := congrArg Prod.fst eX
  have e2 : (allX [] [] (d.take (k + 1))).2 = R.2 := by rw [eX]
  refine ⟨?_, ?_, ?_, gl, gt', y.gc, ?_, ?_, fun u hu => ?_, ?_, ?_, ?_, y.dt.step kX sz hX, ?_, fun i hi => (y.hc i hi).step kX sz hX⟩
  · exact ⟨K.os.trans (hg.os.trans y.bel.os), K.tape.trans (hg.tape.trans y.bel.tape), K.output.trans (hg.output.trans y.bel.output), Nat.le_trans y.bel.size sz, fun q hq => (kb q (by have := y.bel.size; omega) (by omega) (fun e => by have := tol q e; omega)).trans (y.bel.block q hq)⟩
  · have r := y.box.of_block (hg.block g (by omega) (fun e => y.gt e.symm))
    refine (r.set 2 tv').congr (fun i hi => ?_)
    have h : i = 0 ∨ i = 1 ∨ i = 2 ∨ i = 3 ∨ i = 4 := by omega
    rcases h with rfl | rfl | rfl | rfl | rfl <;> simp [r5]
  · exact y.r0.of_block (kb _ y.r0.lt (by omega) (fun e => by have := tol _ e; omega))
  · rw [e1, tcs_app _ _ _ _ x.ul, List.length_append]
    exact own_of ho (Nat.le_refl _) (fun q eq hq => K.block q (ho.lt q eq).2 (by have : q ≠ g := fun e2 => gt' (e2 ▸ eq); omega))
  · rw [e1, List.length_append, List.length_append, x.ul, hl1]
  · rcases List.mem_append.1 hu with hu | hu
    · exact x.uo u hu
    · exact h1 u hu
  · exact own_of y.cr (Nat.le_refl _) (fun q eq hq => kb q (by have := told q eq; omega) (fun e => y.gc (e ▸ eq)) (fun e2 => y.xa q e2 eq))
  · intro q eq eq2
    rcases e with e | e
    · rw [e] at eq; exact y.xa q eq eq2
    · rw [e] at eq; cases eq; have := told _ eq2; omega
  · rw [e1]
    exact (y.tc.app x.ul (TC.of hl1 hA old)).step kX sz hX
  · rw [e2]
    exact (BT.of_own hh (fun q eq hx => by have := (hh.lt q eq).1; have := old q hx; omega)).step kX sz hX

end Go.Proofs.YtdloogkjnjklcaaGreatDoor

namespace Go.Proofs.YtdloogkjnjklcaaGreatDoor
open Go.RowKit

theorem infoCheck : (Tryz.prog.info? 57).map (fun i => (i.zero, i.size, i.bytes)) = some (some (.agg #[.int .i64 0, .int .i64 0, .slice none 0 0]), 3, 40) := Tryz.info57

theorem cnt_div {k s : Nat} (hs : 1 ≤ s) (h : k % s = 0) : (k + s - 1) / s * s = k ∧ (k + 1 + s - 1) / s = (k + s - 1) / s + 1 := by
  obtain ⟨m, rfl⟩ : ∃ m, k = m * s := ⟨k / s, by have := Nat.div_add_mod k s; rw [h] at this; rw [Nat.mul_comm]; omega⟩
  have e : (m * s + s - 1) / s = m := by
    rw [show m * s + s - 1 = (s - 1) + m * s by omega, Nat.add_mul_div_right _ _ (by omega), Nat.div_eq_of_lt (by omega)]; omega
  have e2 : (m * s + 1 + s - 1) / s = m + 1 := by
    rw [show m * s + 1 + s - 1 = 0 + (m + 1) * s by rw [Nat.add_mul]; omega, Nat.add_mul_div_right _ _ (by omega)]; simp
  rw [e, e2]; exact ⟨rfl, rfl⟩

theorem cnt_not {k s : Nat} (hs : 1 ≤ s) (h : ¬ k % s = 0) : (k + 1 + s - 1) / s = (k + s - 1) / s := by
  have h1 := Nat.div_add_mod k s
  have h2 := Nat.mod_lt k (show 0 < s by omega)
  have e : (k + s - 1) / s = k / s + 1 := by
    have : k + s - 1 = (k % s - 1) + (k / s + 1) * s := by rw [Nat.add_mul, Nat.mul_comm (k / s)]; omega
    rw [this, Nat.add_mul_div_right _ _ (by omega), Nat.div_eq_of_lt (by omega)]; omega
  have e2 : (k + 1 + s - 1) / s = k / s + 1 := by
    have : k + 1 + s - 1 = k % s + (k / s + 1) * s := by rw [Nat.add_mul, Nat.mul_comm (k / s)]; omega
    rw [this, Nat.add_mul_div_right _ _ (by omega), Nat.div_eq_of_lt (by omega)]; omega
  rw [e, e2]

theorem cnt_all (n s : Nat) (hs : 1 ≤ s) : (n + 1 + s - 1) / s = n / s + 1 := by
  rw [show n + 1 + s - 1 = n + 1 * s by omega, Nat.add_mul_div_right _ _ (by omega)]

theorem MS.over {w : World} {d : List Int} {s k c g : Nat} {dv tv cv hv : Value} {us : List Value} {hs : Nat → Value} {wr : World} (x : MS w d s k c g dv tv cv hv us hs wr) (h : d.length ≤ k) : MS w d s (k + 1) c g dv tv cv hv us hs wr := by
  have e : d.take (k + 1) = d.take k := by rw [List.take_of_length_le h, List.take_of_length_le (by omega)]
  obtain ⟨a1, a2, a3, a4, a5, a6, a7, a8, a9, b1, b2, b3, b4, b5, b6⟩ := x
  exact ⟨a1, a2, a3, a4, a5, a6, by rw [e]; exact a7, by rw [e]; exact a8, a9, b1, b2, by rw [e]; exact b3, b4, by rw [e]; exact b5, b6⟩

theorem checks_at {w : World} {base : Nat} {cv : Value} {d : List Int} {s c : Nat} {hs : Nat → Value} (h : w.ownsRow base 57 3 cv c (cvs d s c hs)) (hh : ∀ i, i < c → ∃ p q, hs i = .slice p (hdN d s i).length q ∧ (hdN d s i).length ≤ q ∧ BAt w p (hdN d s i)) : ∃ a k, cv = .slice a c k ∧ CsAt w a (cksN d s c) := by
  rcases h.2 with ⟨rfl, h0⟩ | ⟨g, cap, cur, rfl, hg, hh0, hc, hm, hs', ht⟩
  · exact ⟨none, 0, by rw [h0], .inl (by rw [h0]; rfl)⟩
  · have glt : g < w.heap.size := (Array.getElem?_eq_some_iff.1 hh0).1
    have cell : ∀ i, i < c * 3 → w.cell? ⟨g, i, none⟩ = some (ckV d s c hs i) := fun i hi => by
      rw [Lib.cell_of_heap hh0]
      have := cvs_at d s c hs i hi
      rw [← ht, List.getElem?_take_of_lt hi] at this
      simpa using this
    refine ⟨_, _, rfl, .inr ⟨g, 0, rfl, glt, fun k hk => ?_⟩⟩
    rw [cksN_len] at hk
    rw [cksN_at d s c k hk]
    have v0 := cell (k * 3) (by omega)
    have v1 := cell (k * 3 + 1) (by omega)
    have v2 := cell (k * 3 + 2) (by omega)
    unfold ckV at v0 v1 v2
    rw [show k * 3 / 3 = k by omega, show k * 3 % 3 = 0 by omega, if_pos hk] at v0
    rw [show (k * 3 + 1) / 3 = k by omega, show (k * 3 + 1) % 3 = 1 by omega, if_pos hk] at v1
    rw [show (k * 3 + 2) / 3 = k by omega, show (k * 3 + 2) % 3 = 2 by omega, if_pos hk] at v2
    obtain ⟨p, q, e, _, b⟩ := hh k hk
    refine ⟨by rw [Nat.zero_add]; exact v0, by rw [Nat.zero_add]; exact v1, p, q, ?_, b⟩
    rw [Nat.zero_add, v2]
    show some (hs k) = _
    rw [e]; rfl

def LnP (d : List Int) (s : Nat) (w : World) (e : Ending) (w' : World) : Prop :=
  ∃ a t u c ca ct cu cc, e = .returned (.agg #[.slice a d.length ca, .int .i64 (s : Int), .slice t (allX [] [] d).1.length ct, .slice u (allX [] [] d).2.length cu, .slice c (d.length / s + 1) cc]) ∧ (∀ z : World, w'.heap.size ≤ z.heap.size → (∀ q, w.heap.size < q → q < w'.heap.size → z.heap[q]? = w'.heap[q]?) → MAt z a t u c (memX d s)) ∧ Below w.heap.size w w'

set_option maxRecDepth 100000 in
set_option maxHeartbeats 6400000 in
theorem l12New_any (d : List Int) (ad : Option Addr) (cd : Nat) (s : Nat) (w : World) (hd : BAt w ad d) (hu : Byt d) (hl : d.length ≤ 240) (hs : 1 ≤ s) (hs2 : s ≤ 60) :
    Calls Tryz.prog 27 #[.slice ad d.length cd, .int .i64 (s : Int)] w fun e w' => LnP d s w e w' := by
  have N0 := below_new w (.cells #[.slice none 0 0, .int .i64 0, .slice none 0 0, .slice none 0 0, .slice none 0 0] 26)
  have R0 := row5 w 26 (.slice none 0 0) (.int .i64 0) (.slice none 0 0) (.slice none 0 0) (.slice none 0 0)
  have KC := Hid.mk' (l1Copy_own ad cd d _ (hd.below N0) (by omega))
  have HB := Hid.mk' N0
  have HD := Hid.mk' hd
  have HU := Hid.mk' hu
  have HR := Hid.mk' R0
  have z0 : (w.alloc (.cells #[.slice none 0 0, .int .i64 0, .slice none 0 0, .slice none 0 0, .slice none 0 0] 26)).heap.size = w.heap.size + 1 := by simp
  have Z0 := Hid.mk' z0
  clear N0 R0 hd hu z0
  generalize hW : w.alloc (.cells #[.slice none 0 0, .int .i64 0, .slice none 0 0, .slice none 0 0, .slice none 0 0] 26) = W at *
  go_enter Tryz.func27, Tryz.ntmps27
  go_wp2_with fail
  clear hW
  refine KC.out.mono ?_
  rintro e w1 ⟨dv, rfl, od, hb1⟩
  obtain ⟨da, dc, rfl, -⟩ := own_src od
  rw [Z0.out] at od
  have B1 := HB.out.trans (hb1.mono HB.out.size)
  have N1 := below_new w1 (.cells #[.slice da d.length dc, .int .i64 (s : Int), .slice none 0 0, .slice none 0 0, .slice none 0 0] 26)
  have N2 := N1.alloc (by simp) (.cells #[] 5)
  have l1 := HR.out.lt
  have l2 := hb1.size
  have M0 : MS w d s 0 0 w1.heap.size (.slice da d.length dc) (.slice none 0 0) (.slice none 0 0) (.slice (some ⟨w1.heap.size + 1, 0, none⟩) 0 0) [] (fun _ => .slice none 0 0) ((w1.alloc (.cells #[.slice da d.length dc, .int .i64 (s : Int), .slice none 0 0, .slice none 0 0, .slice none 0 0] 26)).alloc (.cells #[] 5)) := by
    have e0 : allX [] [] (d.take 0) = ([], []) := by simp [allX]
    refine ⟨B1.trans (N2.mono B1.size), (row5 w1 26 _ _ _ _ _).alloc _, rowB (rowB HR.out hb1) N2, by omega, (fun h => by simp [Value.ownBlock] at h), (fun h => by simp [Value.ownBlock] at h), ?_, (by rw [e0]; rfl), fun u hu => (by cases hu), ⟨rfl, .inl ⟨rfl, rfl⟩⟩, fun q e => by simp [Value.ownBlock] at e, ?_, ?_, ?_, fun i hi => absurd hi (Nat.not_lt_zero _)⟩
    · rw [e0]; exact ⟨rfl, .inl ⟨rfl, rfl⟩⟩
    · rw [e0]; exact TC.nil _ _
    · exact BT.of_own (own_keep od N2) (fun q eq hx => by
        have h1 := od.lt q eq
        rcases hx with h | h | h | h
        · omega
        · omega
        · simp [Value.ownBlock] at h
        · simp [Value.ownBlock] at h)
    · rw [e0]; exact ⟨fun _ => False, fun k hk => absurd hk id, _, _, rfl, Nat.le_refl _, fun _ _ => .inl rfl⟩
  have HM := Hid.mk' M0
  clear M0 N1 N2 B1 l1 l2 od hb1 KC HB HR
  go_wp2
  generalize hG : w1.heap.size = g at *
  go_loopw [6, 7] (fun hv i wr => ∃ (k : Nat) (tv cv : Value) (us : List Value) (hvs : Nat → Value), k ≤ d.length + 1 ∧ i = .int .i64 k ∧ MS w d s k ((k + s - 1) / s) g (.slice da d.length dc) tv cv hv us hvs wr) (fun _ i _ => d.length + 1 - (intOf i).toNat)
  case atStart => exact ⟨0, _, _, _, _, Nat.zero_le _, rfl, by rw [show (0 + s - 1) / s = 0 from Nat.div_eq_of_lt (by omega)]; exact HM.out⟩
  case round =>
    obtain ⟨k, tv, cv, us, hvs, hk, rfl, hr⟩ := hrel
    by_cases hlt : k ≤ d.length
    · have ci : (k : Int) ≤ (d.length : Int) := by omega

      obtain ⟨r, hr1⟩ : ∃ r : Nat, k % s = r := ⟨_, rfl⟩
      have hmod : (k : Int).tmod (s : Int) = (r : Int) := by rw [← hr1]; rfl
      have HR1 := Hid.mk' hr1
      obtain ⟨C, hC⟩ : ∃ C, (k + s - 1) / s = C := ⟨_, rfl⟩
      rw [hC] at hr
      have hC2 : C ≤ k + s - 1 := by rw [← hC]; exact Nat.div_le_self _ _
      have HC := Hid.mk' hC
      clear hC hr1
      have MID : Hid (∀ (C' : Nat) (cv' : Value) (hvs' : Nat → Value) (wm : World), (k + 1 + s - 1) / s = C' → MS w d s k C' g (.slice da d.length dc) tv cv' u6 us hvs' wm → True) := Hid.mk' (fun _ _ _ _ _ _ => trivial)
      clear MID
      obtain ⟨ta, tc, rfl, -⟩ := own_src hr.tr
      obtain ⟨ca, cc, rfl, -⟩ := own_src hr.cr
      obtain ⟨ha, hc, rfl, hcap, hbt⟩ := hr.hd.at
      obtain ⟨c0, c1, c2, c3, c4, gl⟩ := cells5 hr.box
      have HBT := Hid.mk' hbt
      have HMS := Hid.mk' hr
      have hgd : GoodH (allX [] [] (d.take k)).2 := allX_good _ _ _ (.inl rfl)
      have hby : Byt (allX [] [] (d.take k)).2 := allX_byt _ _ _ (fun x hx => HU.out.mem x (List.mem_of_mem_take hx)) Byt.nil
      have lT : (allX [] [] (d.take k)).1.length ≤ 161 * 240 := by
        have := allX_len (d.take k) [] [] (by simp)
        have l2 : (d.take k).length ≤ 240 := by rw [List.length_take]; omega
        simp only [List.length_nil, Nat.zero_add] at this
        omega
      have lH := hgd.len
      have OLD : Hid (∀ q, XB w.heap.size g (.slice ta (allX [] [] (d.take k)).1.length tc) (.slice ca C cc) q → q < wr.heap.size) := Hid.mk' (fun q h => by
        rcases h with h | h | h | h
        · have := hr.r0.lt; omega
        · rw [h]; exact hr.box.lt
        · exact (hr.tr.lt q h).2
        · exact (hr.cr.lt q h).2)
      have HG := Hid.mk' hgd
      have HY := Hid.mk' hby
      clear hgd hby hr hbt
      generalize hT : (allX [] [] (d.take k)).1 = T at *
      generalize hH : (allX [] [] (d.take k)).2 = H at *
      have HT := Hid.mk' hT
      have HH := Hid.mk' hH
      clear hT hH
      by_cases h0 : r = 0
      · subst h0
        have H0 := HR1
        have HCS : Hid (C * s = k) := Hid.mk' (by have := (cnt_div hs H0.out).1; rw [HC.out] at this; exact this)
        have HTN : Hid (tkN d s C = T) := Hid.mk' (by show (allX [] [] (d.take (C * s))).1 = T; rw [HCS.out]; exact HT.out)
        have HHN : Hid (hdN d s C = H) := Hid.mk' (by show (allX [] [] (d.take (C * s))).2 = H; rw [HCS.out]; exact HH.out)
        go_wp2
        refine wp_region_held_drew (S := (fun w' => w'.cell? ⟨g, 2, none⟩ = some (.slice ta T.length tc))) (by kernel_rfl) c2 (fun hHeld => ?_)
        refine wpAnyH_take (i := 0) (oi := ⟨_, _, _, _, _, _⟩) (v := ?_) rfl (by kernel_rfl) (by kernel_rfl) (by kernel_rfl) (fun _ _ _ h => h) (Or.inl ⟨by rfl, ?_⟩) (by assumption) ?_
        rotate_left
        · (intro w hSw; (try dsimp only at hSw); go_simp; (try with_reducible rfl))
        try simp only [Act.put, zA, zB, zC]
        refine wpAnyH_take (i := 2) (oi := ⟨_, _, _, _, _, _⟩) (v := ?_) rfl (by kernel_rfl) (by kernel_rfl) (by kernel_rfl) (fun _ _ _ h => h) (Or.inl ⟨by rfl, ?_⟩) (by assumption) ?_
        rotate_left
        · (intro w hSw; (try dsimp only at hSw); go_simp; (try with_reducible rfl))
        try simp only [Act.put, zA, zB, zC]
        refine wpAnyH_take (i := 3) (oi := ⟨_, _, _, _, _, _⟩) (v := ?_) rfl (by kernel_rfl) (by kernel_rfl) (by kernel_rfl) (fun _ _ _ h => h) (Or.inl ⟨by rfl, ?_⟩) (by assumption) ?_
        rotate_left
        · (intro w hSw; (try dsimp only at hSw); go_simp; (try with_reducible rfl))
        try simp only [Act.put, zA, zB, zC]
        refine wpAnyH_take (i := 4) (oi := ⟨_, _, _, _, _, _⟩) (v := ?_) rfl (by kernel_rfl) (by kernel_rfl) (by kernel_rfl) (fun _ _ _ h => h) (Or.inl ⟨by rfl, ?_⟩) (by assumption) ?_
        rotate_left
        · (intro w hSw; (try dsimp only at hSw); go_simp; (try with_reducible rfl))
        try simp only [Act.put, zA, zB, zC]
        refine wpAnyH_take (i := 5) (oi := ⟨_, _, _, _, _, _⟩) (v := ?_) rfl (by kernel_rfl) (by kernel_rfl) (by kernel_rfl) (fun _ _ _ h => h) (Or.inl ⟨by rfl, ?_⟩) (by assumption) ?_
        rotate_left
        · (intro w hSw; (try dsimp only at hSw); go_simp; (try with_reducible rfl))
        try simp only [Act.put, zA, zB, zC]
        refine wpAnyH_take (i := 6) (oi := ⟨_, _, _, _, _, _⟩) (v := ?_) rfl (by kernel_rfl) (by kernel_rfl) (by kernel_rfl) (fun _ _ _ h => h) (Or.inl ⟨by rfl, ?_⟩) (by assumption) ?_
        rotate_left
        · (intro w hSw; (try dsimp only at hSw); go_simp; (try with_reducible rfl))
        try simp only [Act.put, zA, zB, zC]
        refine wpAnyH_ready (rs := [1, 7]) (by kernel_rfl) (by simp) ?_
        refine AllReadyH.cons (o := ⟨_, _, _, _, _, _⟩) rfl (fun K hK => ?_) (AllReadyH.cons (o := ⟨_, _, _, _, _, _⟩) rfl (fun K hK => ?_) AllReadyH.nil)
        · go_simp
          refine hK.out _ _ (by assumption) (fun hHeld => ?_)
          clear hK K
          try simp only [Act.put, zA, zB, zC]
          refine wpAnyH_ready (rs := [7]) (by kernel_rfl) (by simp) ?_
          refine AllReadyH.cons (o := ⟨_, _, _, _, _, _⟩) rfl (fun K hK => ?_) AllReadyH.nil
          go_simp
          refine (l1Copy_own ha hc H _ (HBT.out.below (Below.refl _ _).drew) (by omega)).mono ?_
          rintro e w2 ⟨v, rfl, ov, hb2⟩
          replace hb2 := undrew hb2
          obtain ⟨va, vc, rfl, -⟩ := own_src ov
          refine hK.out _ _ ((hb2.cell (p := ⟨g, 2, none⟩) gl).trans c2) (fun hHeld => ?_)
          clear hK K
          try simp only [Act.put, zA, zB, zC]
          refine wpAnyH_take (i := 8) (oi := ⟨_, _, _, _, _, _⟩) (v := ?_) rfl (by kernel_rfl) (by kernel_rfl) (by kernel_rfl) (fun _ _ _ h => h) (Or.inl ⟨by rfl, ?_⟩) (by assumption) ?_
          rotate_left
          · (intro w hSw; (try dsimp only at hSw); go_simp; (try with_reducible rfl))
          try simp only [Act.put, zA, zB, zC]
          refine wpAnyH_ready (rs := [9]) (by kernel_rfl) (by simp) ?_
          refine AllReadyH.cons (o := ⟨_, _, _, _, _, _⟩) rfl (fun K hK => ?_) AllReadyH.nil
          go_simp
          have N3 := below_new w2 (.cells #[.int .i64 (k : Int), .int .i64 (T.length : Int), .slice va H.length vc] 57)
          have B3 := hb2.trans (N3.mono hb2.size)
          refine hK.out _ _ ((B3.cell (p := ⟨g, 2, none⟩) gl).trans c2) (fun hHeld => ?_)
          clear hK K
          try simp only [Act.put, zA, zB, zC]
          have OWC := Hid.mk' (HMS.out.keep B3).cr
          obtain ⟨q0, q1, q2_, q3⟩ := cells3 (row3 w2 57 (.int .i64 (k : Int)) (.int .i64 (T.length : Int)) (.slice va H.length vc))
          have BV : Hid (BT (XB w.heap.size g (.slice ta T.length tc) (.slice ca C cc)) (w2.alloc (.cells #[.int .i64 (k : Int), .int .i64 (T.length : Int), .slice va H.length vc] 57)) (.slice va H.length vc) H) := Hid.mk' (BT.of_own (own_keep ov N3) (fun q eq hx => by
            have h1 := (ov.lt q eq).1
            have h2 := OLD.out q hx
            exact absurd h1 (Nat.not_le_of_lt h2)))
          have HB3 := Hid.mk' B3
          have hbs : Hid (w.heap.size + 1 ≤ (w2.alloc (.cells #[.int .i64 (k : Int), .int .i64 (T.length : Int), .slice va H.length vc] 57)).heap.size) := Hid.mk' (by have := HMS.out.gl; have := HMS.out.box.lt; have := B3.size; omega)
          clear N3 B3
          generalize hW3 : w2.alloc (.cells #[.int .i64 (k : Int), .int .i64 (T.length : Int), .slice va H.length vc] 57) = W3 at *
          refine wpAnyH_ready (rs := [10]) (by kernel_rfl) (by simp) ?_
          refine AllReadyH.cons (o := ⟨_, _, _, _, _, _⟩) rfl (fun K hK => ?_) AllReadyH.nil
          refine step_append_at rfl (.tmp 26) (.tmp 34) 24 rfl (w.heap.size + 1) 57 (.agg #[.int .i64 0, .int .i64 0, .slice none 0 0]) 3 40 Tryz.underlying24 infoCheck rfl (by decide) _ _ _ rfl OWC.out _ 1 1 [.int .i64 (k : Int), .int .i64 (T.length : Int), .slice va H.length vc] rfl rfl (.inr ⟨⟨w2.heap.size, 0, none⟩, rfl, fun j u hu => by
            have hj : j = 0 ∨ j = 1 ∨ j = 2 := by
              have := (List.getElem?_eq_some_iff.1 hu).1
              simp at this; omega
            rcases hj with rfl | rfl | rfl
            · cases hu; exact q0
            · cases hu; exact q1
            · cases hu; exact q2_⟩) (fun u hu => by
            simp only [List.mem_cons, List.mem_nil_iff, or_false] at hu
            rcases hu with rfl | rfl | rfl <;> rfl) (by unfold maxLen; omega) (by omega) hbs.out ?_
          intro cv' w4 ho hg hat
          obtain ⟨ca', cc', rfl, -⟩ := own_src ho
          have NEW := Hid.mk' (HMS.out.check (v := .slice va H.length vc) HB3.out (by rw [HHN.out]; exact BV.out) (by rw [HCS.out, HTN.out]; exact ho) hg hat)
          have RB := rowB HMS.out.box HB3.out
          have RB2 := RB.of_block (hg.block g RB.lt (fun e => HMS.out.gc e.symm))
          obtain ⟨m0, m1, m2, m3, m4, m5⟩ := cells5 RB2
          have fm4 := RB2.frozen 4
          refine hK.out _ _ m2 (fun hHeld => ?_)
          clear hK K ho hat RB
          try simp only [Act.put, zA, zB, zC]
          refine wpAnyH_take (i := 11) (oi := ⟨_, _, _, _, _, _⟩) (v := ?_) rfl (by kernel_rfl) (by kernel_rfl) (by kernel_rfl) (fun _ _ _ h => h) (Or.inl ⟨by rfl, ?_⟩) (by assumption) ?_
          rotate_left
          · (intro w hSw; (try dsimp only at hSw); go_simp; (try with_reducible rfl))
          try simp only [Act.put, zA, zB, zC]
          refine wpAnyH_ready (rs := [12]) (by kernel_rfl) (by simp) ?_
          refine AllReadyH.cons (o := ⟨_, _, _, _, _, _⟩) rfl (fun K hK => ?_) AllReadyH.nil
          go_simp
          refine hK.out _ _ (by rw [World.cell?_setCell_other _ _ _ _ (by simp)]; exact m2) (fun hHeld => ?_)
          clear hK K
          try simp only [Act.put, zA, zB, zC]
          refine wpAnyH_done (by kernel_rfl) ?_ _
          clear hHeld m0 m1 m2 m3 m4 m5 fm4 RB2 hg q0 q1 q2_ q3 hW3 OWC hbs HB3 BV ov hb2
          have e9 : Hid ((k + 1 + s - 1) / s = C + 1) := Hid.mk' (by have := (cnt_div hs H0.out).2; rw [HC.out] at this; exact this)
          generalize hWM : w4.setCell ⟨g, 4, none⟩ (.slice ca' (C + 1) cc') = WM at *
          clear hWM
          by_cases klt : k < d.length
          · have ck : (k : Int) < (d.length : Int) := by omega
            rcases HD.out.below NEW.out.bel with hd0 | ⟨b9, o9, rfl, hbs9, hc9⟩
            · exact absurd klt (by rw [hd0]; exact Nat.not_lt_zero _)
            obtain ⟨y0, y1⟩ := HU.out k klt
            obtain ⟨y, hyy⟩ : ∃ y : Nat, d.getD k 0 = (y : Int) := ⟨(d.getD k 0).toNat, by omega⟩
            rw [hyy] at y1
            have hcell : WM.cell? ⟨b9, o9 + k, none⟩ = some (.int .u8 y) := by rw [← hyy]; exact hc9 k klt
            have ES : Hid (allX [] [] (d.take (k + 1)) = (T ++ (feedX H y).1, (feedX H y).2)) := Hid.mk' (by
              rw [take_snoc_int klt, allX_append, hyy, HT.out, HH.out]
              simp [allX])
            have fl := feedX_len H y
            have pb : BAt WM ha H := by
              obtain ⟨pa, pc, pe, _, pb⟩ := NEW.out.hd.at
              rw [HH.out] at pe pb
              injection pe with pe1 _ _
              all_goals first | (subst pe1; exact pb) | exact pb
            have KF := Hid.mk' (l5Feed_any ha hc H y WM pb HY.out hcap (by omega) (by omega))
            obtain ⟨n0, n1, n2, n3, n4, n5⟩ := cells5 NEW.out.box
            clear hc9 hyy y0 pb
            generalize feedX H y = R at *
            go_wp2_with (first | go_big_skip | fail)
            refine KF.out.mono ?_
            intro e w5 hx
            obtain ⟨v1, u1, us1, rfl, t1, hA, o1, b1⟩ := hx.toks
            obtain ⟨a1, c1_, rfl, s1⟩ := own_src t1.row
            obtain ⟨ua, uc, rfl, -⟩ := own_src o1
            have BX := Hid.mk' (rowB NEW.out.box b1)
            obtain ⟨p0, p1, p2_, p3, p4, p5⟩ := cells5 BX.out
            have OV := Hid.mk' (own_keep NEW.out.tr b1)
            rw [HT.out] at OV
            have S1 := Hid.mk' s1
            have LN := Hid.mk' (tcs_len R.1 us1 t1.len)
            have P1 := Hid.mk' (tcs_one R.1 us1 t1.one)
            have HA := Hid.mk' (hA none (fun k hk => by cases hk))
            have O1 := Hid.mk' o1
            have B2 := Hid.mk' b1
            have T1 := Hid.mk' t1
            have SZ : Hid (w.heap.size + 1 ≤ w5.heap.size) := Hid.mk' (by have := NEW.out.gl; have := NEW.out.box.lt; have := b1.size; omega)
            have GT : Hid (some g ≠ (Value.slice ta T.length tc).ownBlock) := Hid.mk' (fun e => NEW.out.gt e.symm)
            clear hx t1 hA o1 b1 s1 KF n0 n1 n2 n3 n4 n5 hcell
            go_wp2_with (first | (at_builtin; refine wpList_append_at _ rfl (.tmp 51) (.tmp 52) 23 rfl (w.heap.size + 1) 101 (.agg #[.int .i64 0, .int .i64 0, .string ⟨#[]⟩, .slice none 0 0, .bool false]) 5 64 Tryz.underlying23 Tryz.infoTok rfl (by decide) _ _ _ rfl OV.out _ R.1.length _ (tcs R.1 us1) rfl LN.out S1.out P1.out (by unfold maxLen; omega) (by omega) SZ.out ?_; intro tv' w6 ho hg hat; obtain ⟨a6, c6, rfl, _⟩ := own_src ho; have RB6 := BX.out.of_block (hg.block g BX.out.lt GT.out); obtain ⟨k0, k1, k2, k3, k4, k5⟩ := cells5 RB6; have fk2 := RB6.frozen 2; clear RB6) | fail)
            have NEW2 := Hid.mk' (NEW.out.feed (R := R) (hv' := .slice ua R.2.length uc) (by rw [ES.out, HT.out]) B2.out T1.out.len T1.out.one HA.out O1.out (by rw [HT.out]; exact ho) hg hat)
            clear ho hg hat
            go_roundw
            case rel => exact ⟨k + 1, _, _, _, _, by omega, by go_num, by rw [e9.out]; exact NEW2.out⟩
            case measure => first | (simp [intOf]; omega) | simp [intOf]
          · have ck : ¬ (k : Int) < (d.length : Int) := by omega
            go_wp2
            go_roundw
            case rel => exact ⟨k + 1, _, _, _, _, by omega, by go_num, by rw [e9.out]; exact NEW.out.over (by omega)⟩
            case measure => first | (simp [intOf]; omega) | simp [intOf]

        · go_simp
          refine (l1Copy_own ha hc H _ (HBT.out.below (Below.refl _ _).drew) (by omega)).mono ?_
          rintro e w2 ⟨v, rfl, ov, hb2⟩
          replace hb2 := undrew hb2
          obtain ⟨va, vc, rfl, -⟩ := own_src ov
          refine hK.out _ _ ((hb2.cell (p := ⟨g, 2, none⟩) gl).trans c2) (fun hHeld => ?_)
          clear hK K
          try simp only [Act.put, zA, zB, zC]
          refine wpAnyH_take (i := 8) (oi := ⟨_, _, _, _, _, _⟩) (v := ?_) rfl (by kernel_rfl) (by kernel_rfl) (by kernel_rfl) (fun _ _ _ h => h) (Or.inl ⟨by rfl, ?_⟩) (by assumption) ?_
          rotate_left
          · (intro w hSw; (try dsimp only at hSw); go_simp; (try with_reducible rfl))
          try simp only [Act.put, zA, zB, zC]
          have c4' := (hb2.cell (p := ⟨g, 4, none⟩) gl).trans c4
          refine wpAnyH_ready (rs := [1, 9]) (by kernel_rfl) (by simp) ?_
          refine AllReadyH.cons (o := ⟨_, _, _, _, _, _⟩) rfl (fun K hK => ?_) (AllReadyH.cons (o := ⟨_, _, _, _, _, _⟩) rfl (fun K hK => ?_) AllReadyH.nil)
          · go_simp
            refine hK.out _ _ (by assumption) (fun hHeld => ?_)
            clear hK K c4' 
            try simp only [Act.put, zA, zB, zC]
            refine wpAnyH_ready (rs := [9]) (by kernel_rfl) (by simp) ?_
            refine AllReadyH.cons (o := ⟨_, _, _, _, _, _⟩) rfl (fun K hK => ?_) AllReadyH.nil
            go_simp
            have N3 := below_new w2 (.cells #[.int .i64 (k : Int), .int .i64 (T.length : Int), .slice va H.length vc] 57)
            have B3 := hb2.trans (N3.mono hb2.size)
            refine hK.out _ _ ((B3.cell (p := ⟨g, 2, none⟩) gl).trans c2) (fun hHeld => ?_)
            clear hK K
            try simp only [Act.put, zA, zB, zC]
            have OWC := Hid.mk' (HMS.out.keep B3).cr
            obtain ⟨q0, q1, q2_, q3⟩ := cells3 (row3 w2 57 (.int .i64 (k : Int)) (.int .i64 (T.length : Int)) (.slice va H.length vc))
            have BV : Hid (BT (XB w.heap.size g (.slice ta T.length tc) (.slice ca C cc)) (w2.alloc (.cells #[.int .i64 (k : Int), .int .i64 (T.length : Int), .slice va H.length vc] 57)) (.slice va H.length vc) H) := Hid.mk' (BT.of_own (own_keep ov N3) (fun q eq hx => by
              have h1 := (ov.lt q eq).1
              have h2 := OLD.out q hx
              exact absurd h1 (Nat.not_le_of_lt h2)))
            have HB3 := Hid.mk' B3
            have hbs : Hid (w.heap.size + 1 ≤ (w2.alloc (.cells #[.int .i64 (k : Int), .int .i64 (T.length : Int), .slice va H.length vc] 57)).heap.size) := Hid.mk' (by have := HMS.out.gl; have := HMS.out.box.lt; have := B3.size; omega)
            clear N3 B3
            generalize hW3 : w2.alloc (.cells #[.int .i64 (k : Int), .int .i64 (T.length : Int), .slice va H.length vc] 57) = W3 at *
            refine wpAnyH_ready (rs := [10]) (by kernel_rfl) (by simp) ?_
            refine AllReadyH.cons (o := ⟨_, _, _, _, _, _⟩) rfl (fun K hK => ?_) AllReadyH.nil
            refine step_append_at rfl (.tmp 26) (.tmp 34) 24 rfl (w.heap.size + 1) 57 (.agg #[.int .i64 0, .int .i64 0, .slice none 0 0]) 3 40 Tryz.underlying24 infoCheck rfl (by decide) _ _ _ rfl OWC.out _ 1 1 [.int .i64 (k : Int), .int .i64 (T.length : Int), .slice va H.length vc] rfl rfl (.inr ⟨⟨w2.heap.size, 0, none⟩, rfl, fun j u hu => by
              have hj : j = 0 ∨ j = 1 ∨ j = 2 := by
                have := (List.getElem?_eq_some_iff.1 hu).1
                simp at this; omega
              rcases hj with rfl | rfl | rfl
              · cases hu; exact q0
              · cases hu; exact q1
              · cases hu; exact q2_⟩) (fun u hu => by
              simp only [List.mem_cons, List.mem_nil_iff, or_false] at hu
              rcases hu with rfl | rfl | rfl <;> rfl) (by unfold maxLen; omega) (by omega) hbs.out ?_
            intro cv' w4 ho hg hat
            obtain ⟨ca', cc', rfl, -⟩ := own_src ho
            have NEW := Hid.mk' (HMS.out.check (v := .slice va H.length vc) HB3.out (by rw [HHN.out]; exact BV.out) (by rw [HCS.out, HTN.out]; exact ho) hg hat)
            have RB := rowB HMS.out.box HB3.out
            have RB2 := RB.of_block (hg.block g RB.lt (fun e => HMS.out.gc e.symm))
            obtain ⟨m0, m1, m2, m3, m4, m5⟩ := cells5 RB2
            have fm4 := RB2.frozen 4
            refine hK.out _ _ m2 (fun hHeld => ?_)
            clear hK K ho hat RB
            try simp only [Act.put, zA, zB, zC]
            refine wpAnyH_take (i := 11) (oi := ⟨_, _, _, _, _, _⟩) (v := ?_) rfl (by kernel_rfl) (by kernel_rfl) (by kernel_rfl) (fun _ _ _ h => h) (Or.inl ⟨by rfl, ?_⟩) (by assumption) ?_
            rotate_left
            · (intro w hSw; (try dsimp only at hSw); go_simp; (try with_reducible rfl))
            try simp only [Act.put, zA, zB, zC]
            refine wpAnyH_ready (rs := [12]) (by kernel_rfl) (by simp) ?_
            refine AllReadyH.cons (o := ⟨_, _, _, _, _, _⟩) rfl (fun K hK => ?_) AllReadyH.nil
            go_simp
            refine hK.out _ _ (by rw [World.cell?_setCell_other _ _ _ _ (by simp)]; exact m2) (fun hHeld => ?_)
            clear hK K
            try simp only [Act.put, zA, zB, zC]
            refine wpAnyH_done (by kernel_rfl) ?_ _
            clear hHeld m0 m1 m2 m3 m4 m5 fm4 RB2 hg q0 q1 q2_ q3 hW3 OWC hbs HB3 BV ov hb2
            have e9 : Hid ((k + 1 + s - 1) / s = C + 1) := Hid.mk' (by have := (cnt_div hs H0.out).2; rw [HC.out] at this; exact this)
            generalize hWM : w4.setCell ⟨g, 4, none⟩ (.slice ca' (C + 1) cc') = WM at *
            clear hWM
            by_cases klt : k < d.length
            · have ck : (k : Int) < (d.length : Int) := by omega
              rcases HD.out.below NEW.out.bel with hd0 | ⟨b9, o9, rfl, hbs9, hc9⟩
              · exact absurd klt (by rw [hd0]; exact Nat.not_lt_zero _)
              obtain ⟨y0, y1⟩ := HU.out k klt
              obtain ⟨y, hyy⟩ : ∃ y : Nat, d.getD k 0 = (y : Int) := ⟨(d.getD k 0).toNat, by omega⟩
              rw [hyy] at y1
              have hcell : WM.cell? ⟨b9, o9 + k, none⟩ = some (.int .u8 y) := by rw [← hyy]; exact hc9 k klt
              have ES : Hid (allX [] [] (d.take (k + 1)) = (T ++ (feedX H y).1, (feedX H y).2)) := Hid.mk' (by
                rw [take_snoc_int klt, allX_append, hyy, HT.out, HH.out]
                simp [allX])
              have fl := feedX_len H y
              have pb : BAt WM ha H := by
                obtain ⟨pa, pc, pe, _, pb⟩ := NEW.out.hd.at
                rw [HH.out] at pe pb
                injection pe with pe1 _ _
                all_goals first | (subst pe1; exact pb) | exact pb
              have KF := Hid.mk' (l5Feed_any ha hc H y WM pb HY.out hcap (by omega) (by omega))
              obtain ⟨n0, n1, n2, n3, n4, n5⟩ := cells5 NEW.out.box
              clear hc9 hyy y0 pb
              generalize feedX H y = R at *
              go_wp2_with (first | go_big_skip | fail)
              refine KF.out.mono ?_
              intro e w5 hx
              obtain ⟨v1, u1, us1, rfl, t1, hA, o1, b1⟩ := hx.toks
              obtain ⟨a1, c1_, rfl, s1⟩ := own_src t1.row
              obtain ⟨ua, uc, rfl, -⟩ := own_src o1
              have BX := Hid.mk' (rowB NEW.out.box b1)
              obtain ⟨p0, p1, p2_, p3, p4, p5⟩ := cells5 BX.out
              have OV := Hid.mk' (own_keep NEW.out.tr b1)
              rw [HT.out] at OV
              have S1 := Hid.mk' s1
              have LN := Hid.mk' (tcs_len R.1 us1 t1.len)
              have P1 := Hid.mk' (tcs_one R.1 us1 t1.one)
              have HA := Hid.mk' (hA none (fun k hk => by cases hk))
              have O1 := Hid.mk' o1
              have B2 := Hid.mk' b1
              have T1 := Hid.mk' t1
              have SZ : Hid (w.heap.size + 1 ≤ w5.heap.size) := Hid.mk' (by have := NEW.out.gl; have := NEW.out.box.lt; have := b1.size; omega)
              have GT : Hid (some g ≠ (Value.slice ta T.length tc).ownBlock) := Hid.mk' (fun e => NEW.out.gt e.symm)
              clear hx t1 hA o1 b1 s1 KF n0 n1 n2 n3 n4 n5 hcell
              go_wp2_with (first | (at_builtin; refine wpList_append_at _ rfl (.tmp 51) (.tmp 52) 23 rfl (w.heap.size + 1) 101 (.agg #[.int .i64 0, .int .i64 0, .string ⟨#[]⟩, .slice none 0 0, .bool false]) 5 64 Tryz.underlying23 Tryz.infoTok rfl (by decide) _ _ _ rfl OV.out _ R.1.length _ (tcs R.1 us1) rfl LN.out S1.out P1.out (by unfold maxLen; omega) (by omega) SZ.out ?_; intro tv' w6 ho hg hat; obtain ⟨a6, c6, rfl, _⟩ := own_src ho; have RB6 := BX.out.of_block (hg.block g BX.out.lt GT.out); obtain ⟨k0, k1, k2, k3, k4, k5⟩ := cells5 RB6; have fk2 := RB6.frozen 2; clear RB6) | fail)
              have NEW2 := Hid.mk' (NEW.out.feed (R := R) (hv' := .slice ua R.2.length uc) (by rw [ES.out, HT.out]) B2.out T1.out.len T1.out.one HA.out O1.out (by rw [HT.out]; exact ho) hg hat)
              clear ho hg hat
              go_roundw
              case rel => exact ⟨k + 1, _, _, _, _, by omega, by go_num, by rw [e9.out]; exact NEW2.out⟩
              case measure => first | (simp [intOf]; omega) | simp [intOf]
            · have ck : ¬ (k : Int) < (d.length : Int) := by omega
              go_wp2
              go_roundw
              case rel => exact ⟨k + 1, _, _, _, _, by omega, by go_num, by rw [e9.out]; exact NEW.out.over (by omega)⟩
              case measure => first | (simp [intOf]; omega) | simp [intOf]

          · go_simp
            have N3 := below_new w2 (.cells #[.int .i64 (k : Int), .int .i64 (T.length : Int), .slice va H.length vc] 57)
            have B3 := hb2.trans (N3.mono hb2.size)
            refine hK.out _ _ ((B3.cell (p := ⟨g, 2, none⟩) gl).trans c2) (fun hHeld => ?_)
            clear hK K
            try simp only [Act.put, zA, zB, zC]
            have OWC := Hid.mk' (HMS.out.keep B3).cr
            obtain ⟨q0, q1, q2_, q3⟩ := cells3 (row3 w2 57 (.int .i64 (k : Int)) (.int .i64 (T.length : Int)) (.slice va H.length vc))
            have BV : Hid (BT (XB w.heap.size g (.slice ta T.length tc) (.slice ca C cc)) (w2.alloc (.cells #[.int .i64 (k : Int), .int .i64 (T.length : Int), .slice va H.length vc] 57)) (.slice va H.length vc) H) := Hid.mk' (BT.of_own (own_keep ov N3) (fun q eq hx => by
              have h1 := (ov.lt q eq).1
              have h2 := OLD.out q hx
              exact absurd h1 (Nat.not_le_of_lt h2)))
            have HB3 := Hid.mk' B3
            have hbs : Hid (w.heap.size + 1 ≤ (w2.alloc (.cells #[.int .i64 (k : Int), .int .i64 (T.length : Int), .slice va H.length vc] 57)).heap.size) := Hid.mk' (by have := HMS.out.gl; have := HMS.out.box.lt; have := B3.size; omega)
            clear N3 B3
            generalize hW3 : w2.alloc (.cells #[.int .i64 (k : Int), .int .i64 (T.length : Int), .slice va H.length vc] 57) = W3 at *
            have c5' := (HB3.out.cell (p := ⟨g, 4, none⟩) gl).trans c4
            clear c4'
            refine wpAnyH_ready (rs := [1]) (by kernel_rfl) (by simp) ?_
            refine AllReadyH.cons (o := ⟨_, _, _, _, _, _⟩) rfl (fun K hK => ?_) AllReadyH.nil
            go_simp
            refine hK.out _ _ (by assumption) (fun hHeld => ?_)
            clear hK K
            try simp only [Act.put, zA, zB, zC]
            clear c5'
            refine wpAnyH_ready (rs := [10]) (by kernel_rfl) (by simp) ?_
            refine AllReadyH.cons (o := ⟨_, _, _, _, _, _⟩) rfl (fun K hK => ?_) AllReadyH.nil
            refine step_append_at rfl (.tmp 26) (.tmp 34) 24 rfl (w.heap.size + 1) 57 (.agg #[.int .i64 0, .int .i64 0, .slice none 0 0]) 3 40 Tryz.underlying24 infoCheck rfl (by decide) _ _ _ rfl OWC.out _ 1 1 [.int .i64 (k : Int), .int .i64 (T.length : Int), .slice va H.length vc] rfl rfl (.inr ⟨⟨w2.heap.size, 0, none⟩, rfl, fun j u hu => by
              have hj : j = 0 ∨ j = 1 ∨ j = 2 := by
                have := (List.getElem?_eq_some_iff.1 hu).1
                simp at this; omega
              rcases hj with rfl | rfl | rfl
              · cases hu; exact q0
              · cases hu; exact q1
              · cases hu; exact q2_⟩) (fun u hu => by
              simp only [List.mem_cons, List.mem_nil_iff, or_false] at hu
              rcases hu with rfl | rfl | rfl <;> rfl) (by unfold maxLen; omega) (by omega) hbs.out ?_
            intro cv' w4 ho hg hat
            obtain ⟨ca', cc', rfl, -⟩ := own_src ho
            have NEW := Hid.mk' (HMS.out.check (v := .slice va H.length vc) HB3.out (by rw [HHN.out]; exact BV.out) (by rw [HCS.out, HTN.out]; exact ho) hg hat)
            have RB := rowB HMS.out.box HB3.out
            have RB2 := RB.of_block (hg.block g RB.lt (fun e => HMS.out.gc e.symm))
            obtain ⟨m0, m1, m2, m3, m4, m5⟩ := cells5 RB2
            have fm4 := RB2.frozen 4
            refine hK.out _ _ m2 (fun hHeld => ?_)
            clear hK K ho hat RB
            try simp only [Act.put, zA, zB, zC]
            refine wpAnyH_take (i := 11) (oi := ⟨_, _, _, _, _, _⟩) (v := ?_) rfl (by kernel_rfl) (by kernel_rfl) (by kernel_rfl) (fun _ _ _ h => h) (Or.inl ⟨by rfl, ?_⟩) (by assumption) ?_
            rotate_left
            · (intro w hSw; (try dsimp only at hSw); go_simp; (try with_reducible rfl))
            try simp only [Act.put, zA, zB, zC]
            refine wpAnyH_ready (rs := [12]) (by kernel_rfl) (by simp) ?_
            refine AllReadyH.cons (o := ⟨_, _, _, _, _, _⟩) rfl (fun K hK => ?_) AllReadyH.nil
            go_simp
            refine hK.out _ _ (by rw [World.cell?_setCell_other _ _ _ _ (by simp)]; exact m2) (fun hHeld => ?_)
            clear hK K
            try simp only [Act.put, zA, zB, zC]
            refine wpAnyH_done (by kernel_rfl) ?_ _
            clear hHeld m0 m1 m2 m3 m4 m5 fm4 RB2 hg q0 q1 q2_ q3 hW3 OWC hbs HB3 BV ov hb2
            have e9 : Hid ((k + 1 + s - 1) / s = C + 1) := Hid.mk' (by have := (cnt_div hs H0.out).2; rw [HC.out] at this; exact this)
            generalize hWM : w4.setCell ⟨g, 4, none⟩ (.slice ca' (C + 1) cc') = WM at *
            clear hWM
            by_cases klt : k < d.length
            · have ck : (k : Int) < (d.length : Int) := by omega
              rcases HD.out.below NEW.out.bel with hd0 | ⟨b9, o9, rfl, hbs9, hc9⟩
              · exact absurd klt (by rw [hd0]; exact Nat.not_lt_zero _)
              obtain ⟨y0, y1⟩ := HU.out k klt
              obtain ⟨y, hyy⟩ : ∃ y : Nat, d.getD k 0 = (y : Int) := ⟨(d.getD k 0).toNat, by omega⟩
              rw [hyy] at y1
              have hcell : WM.cell? ⟨b9, o9 + k, none⟩ = some (.int .u8 y) := by rw [← hyy]; exact hc9 k klt
              have ES : Hid (allX [] [] (d.take (k + 1)) = (T ++ (feedX H y).1, (feedX H y).2)) := Hid.mk' (by
                rw [take_snoc_int klt, allX_append, hyy, HT.out, HH.out]
                simp [allX])
              have fl := feedX_len H y
              have pb : BAt WM ha H := by
                obtain ⟨pa, pc, pe, _, pb⟩ := NEW.out.hd.at
                rw [HH.out] at pe pb
                injection pe with pe1 _ _
                all_goals first | (subst pe1; exact pb) | exact pb
              have KF := Hid.mk' (l5Feed_any ha hc H y WM pb HY.out hcap (by omega) (by omega))
              obtain ⟨n0, n1, n2, n3, n4, n5⟩ := cells5 NEW.out.box
              clear hc9 hyy y0 pb
              generalize feedX H y = R at *
              go_wp2_with (first | go_big_skip | fail)
              refine KF.out.mono ?_
              intro e w5 hx
              obtain ⟨v1, u1, us1, rfl, t1, hA, o1, b1⟩ := hx.toks
              obtain ⟨a1, c1_, rfl, s1⟩ := own_src t1.row
              obtain ⟨ua, uc, rfl, -⟩ := own_src o1
              have BX := Hid.mk' (rowB NEW.out.box b1)
              obtain ⟨p0, p1, p2_, p3, p4, p5⟩ := cells5 BX.out
              have OV := Hid.mk' (own_keep NEW.out.tr b1)
              rw [HT.out] at OV
              have S1 := Hid.mk' s1
              have LN := Hid.mk' (tcs_len R.1 us1 t1.len)
              have P1 := Hid.mk' (tcs_one R.1 us1 t1.one)
              have HA := Hid.mk' (hA none (fun k hk => by cases hk))
              have O1 := Hid.mk' o1
              have B2 := Hid.mk' b1
              have T1 := Hid.mk' t1
              have SZ : Hid (w.heap.size + 1 ≤ w5.heap.size) := Hid.mk' (by have := NEW.out.gl; have := NEW.out.box.lt; have := b1.size; omega)
              have GT : Hid (some g ≠ (Value.slice ta T.length tc).ownBlock) := Hid.mk' (fun e => NEW.out.gt e.symm)
              clear hx t1 hA o1 b1 s1 KF n0 n1 n2 n3 n4 n5 hcell
              go_wp2_with (first | (at_builtin; refine wpList_append_at _ rfl (.tmp 51) (.tmp 52) 23 rfl (w.heap.size + 1) 101 (.agg #[.int .i64 0, .int .i64 0, .string ⟨#[]⟩, .slice none 0 0, .bool false]) 5 64 Tryz.underlying23 Tryz.infoTok rfl (by decide) _ _ _ rfl OV.out _ R.1.length _ (tcs R.1 us1) rfl LN.out S1.out P1.out (by unfold maxLen; omega) (by omega) SZ.out ?_; intro tv' w6 ho hg hat; obtain ⟨a6, c6, rfl, _⟩ := own_src ho; have RB6 := BX.out.of_block (hg.block g BX.out.lt GT.out); obtain ⟨k0, k1, k2, k3, k4, k5⟩ := cells5 RB6; have fk2 := RB6.frozen 2; clear RB6) | fail)
              have NEW2 := Hid.mk' (NEW.out.feed (R := R) (hv' := .slice ua R.2.length uc) (by rw [ES.out, HT.out]) B2.out T1.out.len T1.out.one HA.out O1.out (by rw [HT.out]; exact ho) hg hat)
              clear ho hg hat
              go_roundw
              case rel => exact ⟨k + 1, _, _, _, _, by omega, by go_num, by rw [e9.out]; exact NEW2.out⟩
              case measure => first | (simp [intOf]; omega) | simp [intOf]
            · have ck : ¬ (k : Int) < (d.length : Int) := by omega
              go_wp2
              go_roundw
              case rel => exact ⟨k + 1, _, _, _, _, by omega, by go_num, by rw [e9.out]; exact NEW.out.over (by omega)⟩
              case measure => first | (simp [intOf]; omega) | simp [intOf]

      · have e0 : ((r : Int) == 0) = false := beq_eq_false_iff_ne.2 (by omega)
        have e9 : Hid ((k + 1 + s - 1) / s = C) := Hid.mk' (by have := cnt_not hs (by rw [HR1.out]; exact h0); rw [this]; exact HC.out)
        have NEW := HMS
        have h0' : ¬ (r : Int) = 0 := by omega
        by_cases klt : k < d.length
        · have ck : (k : Int) < (d.length : Int) := by omega
          rcases HD.out.below NEW.out.bel with hd0 | ⟨b9, o9, rfl, hbs9, hc9⟩
          · exact absurd klt (by rw [hd0]; exact Nat.not_lt_zero _)
          obtain ⟨y0, y1⟩ := HU.out k klt
          obtain ⟨y, hyy⟩ : ∃ y : Nat, d.getD k 0 = (y : Int) := ⟨(d.getD k 0).toNat, by omega⟩
          rw [hyy] at y1
          have hcell : wr.cell? ⟨b9, o9 + k, none⟩ = some (.int .u8 y) := by rw [← hyy]; exact hc9 k klt
          have ES : Hid (allX [] [] (d.take (k + 1)) = (T ++ (feedX H y).1, (feedX H y).2)) := Hid.mk' (by
            rw [take_snoc_int klt, allX_append, hyy, HT.out, HH.out]
            simp [allX])
          have fl := feedX_len H y
          have pb : BAt wr ha H := by
            obtain ⟨pa, pc, pe, _, pb⟩ := NEW.out.hd.at
            rw [HH.out] at pe pb
            injection pe with pe1 _ _
            all_goals first | (subst pe1; exact pb) | exact pb
          have KF := Hid.mk' (l5Feed_any ha hc H y wr pb HY.out hcap (by omega) (by omega))
          obtain ⟨n0, n1, n2, n3, n4, n5⟩ := cells5 NEW.out.box
          clear hc9 hyy y0 pb
          generalize feedX H y = R at *
          go_wp2_with (first | go_big_skip | fail)
          refine KF.out.mono ?_
          intro e w5 hx
          obtain ⟨v1, u1, us1, rfl, t1, hA, o1, b1⟩ := hx.toks
          obtain ⟨a1, c1_, rfl, s1⟩ := own_src t1.row
          obtain ⟨ua, uc, rfl, -⟩ := own_src o1
          have BX := Hid.mk' (rowB NEW.out.box b1)
          obtain ⟨p0, p1, p2_, p3, p4, p5⟩ := cells5 BX.out
          have OV := Hid.mk' (own_keep NEW.out.tr b1)
          rw [HT.out] at OV
          have S1 := Hid.mk' s1
          have LN := Hid.mk' (tcs_len R.1 us1 t1.len)
          have P1 := Hid.mk' (tcs_one R.1 us1 t1.one)
          have HA := Hid.mk' (hA none (fun k hk => by cases hk))
          have O1 := Hid.mk' o1
          have B2 := Hid.mk' b1
          have T1 := Hid.mk' t1
          have SZ : Hid (w.heap.size + 1 ≤ w5.heap.size) := Hid.mk' (by have := NEW.out.gl; have := NEW.out.box.lt; have := b1.size; omega)
          have GT : Hid (some g ≠ (Value.slice ta T.length tc).ownBlock) := Hid.mk' (fun e => NEW.out.gt e.symm)
          clear hx t1 hA o1 b1 s1 KF n0 n1 n2 n3 n4 n5 hcell
          go_wp2_with (first | (at_builtin; refine wpList_append_at _ rfl (.tmp 51) (.tmp 52) 23 rfl (w.heap.size + 1) 101 (.agg #[.int .i64 0, .int .i64 0, .string ⟨#[]⟩, .slice none 0 0, .bool false]) 5 64 Tryz.underlying23 Tryz.infoTok rfl (by decide) _ _ _ rfl OV.out _ R.1.length _ (tcs R.1 us1) rfl LN.out S1.out P1.out (by unfold maxLen; omega) (by omega) SZ.out ?_; intro tv' w6 ho hg hat; obtain ⟨a6, c6, rfl, _⟩ := own_src ho; have RB6 := BX.out.of_block (hg.block g BX.out.lt GT.out); obtain ⟨k0, k1, k2, k3, k4, k5⟩ := cells5 RB6; have fk2 := RB6.frozen 2; clear RB6) | fail)
          have NEW2 := Hid.mk' (NEW.out.feed (R := R) (hv' := .slice ua R.2.length uc) (by rw [ES.out, HT.out]) B2.out T1.out.len T1.out.one HA.out O1.out (by rw [HT.out]; exact ho) hg hat)
          clear ho hg hat
          go_roundw
          case rel => exact ⟨k + 1, _, _, _, _, by omega, by go_num, by rw [e9.out]; exact NEW2.out⟩
          case measure => first | (simp [intOf]; omega) | simp [intOf]
        · have ck : ¬ (k : Int) < (d.length : Int) := by omega
          go_wp2
          go_roundw
          case rel => exact ⟨k + 1, _, _, _, _, by omega, by go_num, by rw [e9.out]; exact NEW.out.over (by omega)⟩
          case measure => first | (simp [intOf]; omega) | simp [intOf]

    · have ci : ¬ (k : Int) ≤ (d.length : Int) := by omega
      obtain rfl : k = d.length + 1 := by omega
      rw [cnt_all d.length s hs] at hr
      have eD : d.take (d.length + 1) = d := List.take_of_length_le (by omega)
      obtain ⟨ha, hc, rfl, hcap, hbt⟩ := hr.hd.at
      obtain ⟨ta, tc, rfl, -⟩ := own_src hr.tr
      obtain ⟨ca, cc, rfl, -⟩ := own_src hr.cr
      have lH : (allX [] [] (d.take (d.length + 1))).2.length ≤ 159 := (allX_good _ _ _ (.inl rfl)).len
      have KC := Hid.mk' (l1Copy_own ha hc _ wr hbt (by omega))
      have HMS := Hid.mk' hr
      obtain ⟨c0, c1, c2, c3, c4, gl⟩ := cells5 hr.box
      have ED := Hid.mk' eD
      clear hr hbt eD
      generalize hT : (allX [] [] (d.take (d.length + 1))).1 = T at *
      generalize hH : (allX [] [] (d.take (d.length + 1))).2 = H at *
      have HT := Hid.mk' hT
      have HH := Hid.mk' hH
      generalize hJ : d.length / s + 1 = J at *
      have HJ := Hid.mk' hJ
      clear hT hH hJ
      go_wp2_with fail
      refine KC.out.mono ?_
      rintro e w2 ⟨v, rfl, ov, hb2⟩
      obtain ⟨va, vc, rfl, -⟩ := own_src ov
      have Y := HMS.out.keep hb2
      obtain ⟨c0, c1, c2, c3, c4, gl⟩ := cells5 Y.box
      obtain ⟨d0, d1, d2, d3, d4, d5⟩ := cells5 Y.r0
      have f3 := Y.box.frozen 3
      have q0 := Y.r0.frozen 0
      have q1 := Y.r0.frozen 1
      have q2_ := Y.r0.frozen 2
      have q3 := Y.r0.frozen 3
      have q4 := Y.r0.frozen 4
      have hne : w.heap.size ≠ g := by have := Y.gl; omega
      have hne2 : g ≠ w.heap.size := by have := Y.gl; omega
      have HY := Hid.mk' Y
      have OV := Hid.mk' ov
      have B2 := Hid.mk' hb2
      clear Y ov hb2 KC
      go_wp2
      refine bodyPost_ret (v := .agg #[.slice da d.length dc, .int .i64 (s : Int), .slice ta T.length tc, .slice va H.length vc, .slice ca J cc]) (by simp [results, Tryz.results27, go_sem, *]) rfl ?_
      have K1 := (KeptIn.refl g (g + 1) w2).setCell (p := ⟨g, 3, none⟩) (by simp) (by simp) (.slice va H.length vc)
      generalize hU : w2.setCell ⟨g, 3, none⟩ (.slice va H.length vc) = U at *
      have K2 := ((((KeptIn.refl w.heap.size (w.heap.size + 1) U).setCell (p := ⟨w.heap.size, 0, none⟩) (by simp) (by simp) (.slice da d.length dc)).setCell (p := ⟨w.heap.size, 1, none⟩) (by simp) (by simp) (.int .i64 (s : Int))).setCell (p := ⟨w.heap.size, 2, none⟩) (by simp) (by simp) (.slice ta T.length tc)).setCell (p := ⟨w.heap.size, 3, none⟩) (by simp) (by simp) (.slice va H.length vc) |>.setCell (p := ⟨w.heap.size, 4, none⟩) (by simp) (by simp) (.slice ca J cc)
      generalize hV : ((((U.setCell ⟨w.heap.size, 0, none⟩ (.slice da d.length dc)).setCell ⟨w.heap.size, 1, none⟩ (.int .i64 (s : Int))).setCell ⟨w.heap.size, 2, none⟩ (.slice ta T.length tc)).setCell ⟨w.heap.size, 3, none⟩ (.slice va H.length vc)).setCell ⟨w.heap.size, 4, none⟩ (.slice ca J cc) = V at *
      have y := HY.out
      have sz1 := K1.size
      have sz2 := K2.size
      have szV : w2.heap.size ≤ V.heap.size := Nat.le_trans sz1 sz2
      have kV : ∀ q, q < w2.heap.size → q ≠ g → q ≠ w.heap.size → V.heap[q]? = w2.heap[q]? := fun q h1 h2 h3 => (K2.block q (by omega) (by omega)).trans (K1.block q h1 (by omega))
      have BV : Below w.heap.size w V := y.bel.trans ⟨K2.os.trans K1.os, K2.tape.trans K1.tape, K2.output.trans K1.output, szV, fun q hq => kV q (by have := y.bel.size; omega) (by have := y.gl; omega) (by omega)⟩
      have eT : T = (allX [] [] d).1 := by rw [← HT.out, ED.out]
      have eH : H = (allX [] [] d).2 := by rw [← HH.out, ED.out]
      unfold LnP
      rw [HJ.out, ← eT, ← eH]
      refine ⟨da, ta, va, ca, dc, tc, vc, cc, rfl, fun z hz hzk => ?_, BV⟩
      have kb : ∀ q, w.heap.size < q → q < w2.heap.size → q ≠ g → z.heap[q]? = w2.heap[q]? := fun q h0 h1 h2 => (hzk q h0 (by omega)).trans (kV q h1 h2 (by omega))
      have kX : ∀ q, q < w2.heap.size → ¬ XB w.heap.size g (.slice ta T.length tc) (.slice ca J cc) q → z.heap[q]? = w2.heap[q]? := fun q h1 h2 => kb q (Nat.lt_of_not_le (fun e => h2 (.inl e))) h1 (fun e => h2 (.inr (.inl e)))
      have szz : w2.heap.size ≤ z.heap.size := Nat.le_trans szV hz
      have bd := (y.dt.step (X' := XB w.heap.size g (.slice ta T.length tc) (.slice ca J cc)) kX szz (fun _ h => .inl h)).at
      have ttr : z.ownsRow (w.heap.size + 1) 101 5 (.slice ta T.length tc) T.length (tcs T us) := by
        have r := y.tr
        rw [HT.out] at r
        exact own_of r (Nat.le_refl _) (fun q eq hq => kb q (by omega) (r.lt q eq).2 (fun e => y.gt (e ▸ eq)))
      have tts := (y.tc.step (X' := XB w.heap.size g (.slice ta T.length tc) (.slice ca J cc)) kX szz (fun _ h => .inl h))
      rw [HT.out] at tts
      have ul := y.ul
      rw [HT.out] at ul
      have tsr := tts.ts ul ttr
      have ovr : z.ownsRow wr.heap.size 5 1 (.slice va H.length vc) H.length (bcs H) := own_of OV.out (Nat.le_refl _) (fun q eq hq => kb q (by have := HMS.out.r0.lt; omega) (OV.out.lt q eq).2 (by have := HMS.out.box.lt; omega))
      have bh := own_bat ovr
      have ccr : z.ownsRow (w.heap.size + 1) 57 3 (.slice ca J cc) J (cvs d s J hvs) := own_of y.cr (Nat.le_refl _) (fun q eq hq => kb q (by omega) (y.cr.lt q eq).2 (fun e => y.gc (e ▸ eq)))
      have ccs := checks_at ccr (fun i hi => ((y.hc i hi).step (X' := XB w.heap.size g (.slice ta T.length tc) (.slice ca J cc)) kX szz (fun _ h => .inl h)).at)
      refine ⟨?_, ?_, ?_, ?_⟩
      · obtain ⟨p, c, e, _, b⟩ := bd
        injection e with e1 _ _
        rw [e1]; exact b
      · obtain ⟨p, c, e, b⟩ := tsr
        injection e with e1 _ _
        rw [e1]
        show TsAt z p (allX [] [] d).1
        rw [← eT]; exact b
      · obtain ⟨p, c, e, b⟩ := bh
        injection e with e1 _ _
        rw [e1]
        show BAt z p (allX [] [] d).2
        rw [← eH]; exact b
      · obtain ⟨p, c, e, b⟩ := ccs
        injection e with e1 _ _
        rw [e1]
        show CsAt z p (cksN d s (d.length / s + 1))
        rw [HJ.out]; exact b

end Go.Proofs.YtdloogkjnjklcaaGreatDoor

namespace Go.Proofs.YtdloogkjnjklcaaGreatDoor
open Go.RowKit

end Go.Proofs.YtdloogkjnjklcaaGreatDoor

namespace Go.Proofs.YtdloogkjnjklcaaGreatDoor
open Go.RowKit

end Go.Proofs.YtdloogkjnjklcaaGreatDoor

namespace Go.Proofs.YtdloogkjnjklcaaGreatDoor
open Go.RowKit

theorem tssz_app : ∀ (a b : List TK), tssz (a ++ b) = tssz a + tssz b
  | [], b => by simp [tssz]
  | x :: a, b => by simp [tssz, tssz_app a b]; omega

theorem tssz_bytes : ∀ (l : List Int), tssz (bytesT l) = 0
  | [] => rfl
  | x :: l => by
    have := tssz_bytes l
    unfold bytesT at this ⊢
    rw [List.map_cons]
    simp only [tssz, this]
    rfl

theorem asz_end : ∀ (l : List AT) (a : AT), asz (l ++ [a]) = asz l + (a.nm.size + a.vl.length)
  | [], a => by simp [asz]
  | b :: l, a => by simp [asz, asz_end l a]; omega

theorem attr_fits {L : List UInt8} {a : AT} {n : Nat} (h : attrA L = some (a, n)) : a.nm.size + a.vl.length + 1 ≤ n ∧ n ≤ L.length := by
  unfold attrA at h
  split at h
  · split at h
    · rename_i h1 h2
      injection h with h
      injection h with ha hn
      have e1 : a.nm.size = (L.take (spn pL L)).length := by rw [← ha]; simp [ByteArray.size]
      have e2 : a.vl.length ≤ ((L.drop (spn pL L + 2)).take (spn pQ (L.drop (spn pL L + 2)))).length := by rw [← ha]; exact Nat.le_trans (dec_len _ _) (Nat.le_refl _)
      rw [List.length_take] at e1 e2
      omega
    · cases h
  · cases h

theorem inside_fits : ∀ (f : Nat) (L : List UInt8) (acc l : List AT) (sh : Bool), insideA f L acc = some (l, sh) → l.length + asz l ≤ acc.length + asz acc + L.length
  | 0, L, acc, l, sh, h => by simp [insideA] at h
  | f + 1, L, acc, l, sh, h => by
    unfold insideA at h
    split at h
    · split at h
      · cases h; omega
      · cases h
    · split at h
      · split at h
        · cases h; omega
        · cases h
      · split at h
        · cases h
        · split at h
          · cases h
          · rename_i a n ha
            have h1 := attr_fits ha
            have h2 := inside_fits f _ _ l sh h
            rw [List.length_drop] at h1 h2
            have h3 : (addA acc a).length + asz (addA acc a) ≤ acc.length + asz acc + (a.nm.size + a.vl.length + 1) := by
              unfold addA
              split
              · omega
              · rw [asz_end]; simp; omega
            omega

theorem tag_fits {L : List UInt8} {t : TK} (h : tagA L = some t) : tsz t ≤ L.length := by
  unfold tagA at h
  split at h
  · split at h
    · split at h
      · cases h; simp [tsz, asz, ByteArray.size]
      · cases h
    · split at h
      · split at h
        · cases h; simp [tsz, asz, ByteArray.size]; omega
        · cases h
      · split at h
        · split at h
          · cases h
          · rename_i l sh hi
            cases h
            have := inside_fits _ _ _ l sh hi
            rw [List.length_drop] at this
            simp only [tsz, asz, ByteArray.size, List.size_toArray, List.length_take, List.length_drop, List.length_nil] at this ⊢
            omega
        · cases h
  · cases h

def wei (ts : List TK) : Nat := ts.length + tssz ts
theorem wei_app (a b : List TK) : wei (a ++ b) = wei a + wei b := by unfold wei; rw [List.length_append, tssz_app]; omega
theorem wei_bytes (l : List Int) : wei (bytesT l) = l.length := by unfold wei; rw [bytesT_len, tssz_bytes]; rfl

theorem len_fits (hs : List Int) (b : Nat) : wei (lenX hs b).1 + 2 * (lenX hs b).2.length ≤ 2 * hs.length + 2 := by
  unfold lenX
  split
  · show wei (bytesT _) + 2 * 0 ≤ _
    rw [wei_bytes]; simp; omega
  · show 0 + 2 * (hs ++ [(b : Int)]).length ≤ _
    simp; omega

theorem strU_len (l : List Int) : (strU l).length = l.length := by unfold strU; rw [len_list, strI_size]

theorem feed_fits (hs : List Int) (b : Nat) : wei (feedX hs b).1 + 2 * (feedX hs b).2.length ≤ 2 * hs.length + 2 := by
  unfold feedX
  split
  · show wei (bytesT (noneT (b : Int))) + 2 * (noneH (b : Int)).length ≤ _
    rw [wei_bytes]
    unfold noneT noneH
    split <;> simp <;> omega
  · split
    · show wei (bytesT (refT hs b)) + 2 * (refH hs b).length ≤ _
      rw [wei_bytes]
      unfold refT refH
      split
      · split
        · simp
        · simp; omega
      · split
        · split
          · simp; omega
          · simp; omega
        · unfold noneT noneH
          rw [List.length_append]
          split <;> simp <;> omega
    · unfold tagX
      split
      · split
        · rename_i t ht
          have := tag_fits ht
          rw [strU_len] at this
          show ([t].length + (tsz t + 0)) + 2 * 0 ≤ _
          simp at this ⊢
          omega
        · split
          · show wei (bytesT _) + 2 * 0 ≤ _
            rw [wei_bytes]; simp; omega
          · exact len_fits hs b
      · split
        · show wei (bytesT hs) + 2 * 1 ≤ _
          rw [wei_bytes]; omega
        · exact len_fits hs b

theorem all_fits : ∀ (l : List Int) (ts : List TK) (hs : List Int), wei (allX ts hs l).1 + 2 * (allX ts hs l).2.length ≤ wei ts + 2 * hs.length + 2 * l.length
  | [], ts, hs => by show wei ts + 2 * hs.length ≤ _; simp
  | x :: l, ts, hs => by
    have ih := all_fits l (ts ++ (feedX hs x.toNat).1) (feedX hs x.toNat).2
    have := feed_fits hs x.toNat
    rw [wei_app] at ih
    show wei (allX (ts ++ (feedX hs x.toNat).1) (feedX hs x.toNat).2 l).1 + 2 * (allX (ts ++ (feedX hs x.toNat).1) (feedX hs x.toNat).2 l).2.length ≤ _
    rw [List.length_cons]
    omega

end Go.Proofs.YtdloogkjnjklcaaGreatDoor
