/- The program's lexer: tokens of one's own, the attributes of each behind those of the one ahead. -/
import Derived.Test.YtgkdplooocbonaaGreatDoorXK3
import Derived.Test.YtgkdplooocbonaaGreatDoorXTn
import Derived.Test.YtgkdplooocbonaaGreatDoorXCq
namespace Go.Proofs.YtgkdplooocbonaaGreatDoor
open Go.RowKit
set_option linter.unusedVariables false
set_option linter.unusedSimpArgs false

theorem tkK_left {l m : List TK} {j : Nat} (h : j < l.length) : tkK (l ++ m) j = tkK l j := by simp [tkK, List.getD_eq_getElem?_getD, List.getElem?_append_left h]
theorem tkK_right {l m : List TK} {j : Nat} (h : ¬ j < l.length) : tkK (l ++ m) j = tkK m (j - l.length) := by simp [tkK, List.getD_eq_getElem?_getD, List.getElem?_append_right (Nat.le_of_not_lt h)]
theorem usK_left {l m : List Value} {j : Nat} (h : j < l.length) : (l ++ m).getD j undef = l.getD j undef := by simp [List.getD_eq_getElem?_getD, List.getElem?_append_left h]
theorem usK_right {l m : List Value} {j : Nat} (h : ¬ j < l.length) : (l ++ m).getD j undef = m.getD (j - l.length) undef := by simp [List.getD_eq_getElem?_getD, List.getElem?_append_right (Nat.le_of_not_lt h)]

/-- The attributes of tokens: those of the j-th lie from bl j on and below bh j, one token's behind those of the one ahead, all of them from lo on and below hi. -/
structure TA (lo hi : Nat) (w : World) (ts : List TK) (us : List Value) (rs : Nat → List Value) (bl bh : Nat → Nat) : Prop where
  len : us.length = ts.length
  one : ∀ u ∈ us, u.oneCell' = true
  att : ∀ j, j < ts.length → OA (bl j) w (us.getD j undef) (tkK ts j).at_ (rs j)
  low : ∀ j, j < ts.length → lo ≤ bl j
  mid : ∀ j, j < ts.length → bl j ≤ bh j
  top : ∀ j, j < ts.length → bh j ≤ hi
  hia : ∀ j, j < ts.length → ∀ k, (us.getD j undef).ownBlock = some k → k < bh j
  hiu : ∀ j, j < ts.length → ∀ i, i < (tkK ts j).at_.length → ∀ k, ((rs j).getD i undef).ownBlock = some k → k < bh j
  ord : ∀ i j, i < j → j < ts.length → bh i ≤ bl j

theorem TA.nil (lo hi : Nat) (w : World) : TA lo hi w [] [] (fun _ => []) (fun _ => 0) (fun _ => 0) :=
  ⟨rfl, fun u h => (by cases h), fun j h => absurd h (Nat.not_lt_zero _), fun j h => absurd h (Nat.not_lt_zero _), fun j h => absurd h (Nat.not_lt_zero _), fun j h => absurd h (Nat.not_lt_zero _), fun j h => absurd h (Nat.not_lt_zero _), fun j h => absurd h (Nat.not_lt_zero _), fun i j _ h => absurd h (Nat.not_lt_zero _)⟩

theorem bytesT_at (l : List Int) (j : Nat) (h : j < l.length) : tkK (bytesT l) j = byteT (l.getD j 0) := by
  unfold tkK bytesT
  simp [List.getD_eq_getElem?_getD, h]

theorem nils_at {n j : Nat} (h : j < n) : (nils n).getD j undef = .slice none 0 0 := by
  unfold nils
  simp [List.getD_eq_getElem?_getD, List.getElem?_replicate, h]

theorem TA.bytes (m : Nat) (w : World) (l : List Int) : TA m m w (bytesT l) (nils l.length) (fun _ => []) (fun _ => m) (fun _ => m) := by
  have e : ∀ j, j < (bytesT l).length → (nils l.length).getD j undef = .slice none 0 0 := fun j hj => nils_at (by rw [bytesT_len] at hj; exact hj)
  refine ⟨by rw [nils_len, bytesT_len], nils_one _, fun j hj => ?_, fun _ _ => Nat.le_refl _, fun _ _ => Nat.le_refl _, fun _ _ => Nat.le_refl _, fun j hj k ek => ?_, fun j hj i hi k ek => ?_, fun _ _ _ _ => Nat.le_refl _⟩
  · rw [e j hj, bytesT_at l j (by rw [bytesT_len] at hj; exact hj)]; exact OA.nil _ _
  · rw [e j hj] at ek; simp [Value.ownBlock] at ek
  · rw [bytesT_at l j (by rw [bytesT_len] at hj; exact hj)] at hi
    exact absurd hi (Nat.not_lt_zero _)

theorem TA.one_tag {lo hi : Nat} {w : World} {t : TK} {va : Value} {rs : List Value} (h : OA lo w va t.at_ rs) (hl : lo ≤ hi) (h1 : ∀ k, va.ownBlock = some k → k < hi) (h2 : ∀ i, i < t.at_.length → ∀ k, (rs.getD i undef).ownBlock = some k → k < hi) : TA lo hi w [t] [va] (fun _ => rs) (fun _ => lo) (fun _ => hi) := by
  have e0 : ∀ j, j < [t].length → j = 0 := fun j hj => by simp at hj; exact hj
  refine ⟨rfl, fun u hu => ?_, fun j hj => ?_, fun _ _ => Nat.le_refl _, fun _ _ => hl, fun _ _ => Nat.le_refl _, fun j hj k ek => ?_, fun j hj i hi k ek => ?_, fun i j hij hj => ?_⟩
  · rw [List.mem_singleton] at hu
    obtain ⟨a, c, e, _⟩ := h.at
    rw [hu, e]; rfl
  · obtain rfl := e0 j hj; exact h
  · obtain rfl := e0 j hj; exact h1 k ek
  · obtain rfl := e0 j hj; exact h2 i hi k ek
  · have := e0 j hj; omega

theorem TA.keep {lo hi : Nat} {w w' : World} {ts : List TK} {us : List Value} {rs : Nat → List Value} {bl bh : Nat → Nat} (h : TA lo hi w ts us rs bl bh) (hk : ∀ j, j < ts.length → ∀ k, bl j ≤ k → k < bh j → k < w.heap.size → w'.heap[k]? = w.heap[k]?) : TA lo hi w' ts us rs bl bh := by
  refine ⟨h.len, h.one, fun j hj => ?_, h.low, h.mid, h.top, h.hia, h.hiu, h.ord⟩
  have o := h.att j hj
  exact ⟨o.len, own_of o.row (Nat.le_refl _) (fun k e hl => hk j hj k hl (h.hia j hj k e) (o.row.lt k e).2), fun i hi => (o.val i hi).keep (fun k e hl => hk j hj k (o.vlo i hi k e) (h.hiu j hj i hi k e) hl), o.vlo, o.ap, o.av⟩

theorem TA.below {lo hi : Nat} {w w' : World} {ts : List TK} {us : List Value} {rs : Nat → List Value} {bl bh : Nat → Nat} (h : TA lo hi w ts us rs bl bh) (hb : Below w.heap.size w w') : TA lo hi w' ts us rs bl bh := h.keep (fun j hj k _ _ hl => hb.block k hl)

theorem TA.widen {lo hi lo' hi' : Nat} {w : World} {ts : List TK} {us : List Value} {rs : Nat → List Value} {bl bh : Nat → Nat} (h : TA lo hi w ts us rs bl bh) (h1 : lo' ≤ lo) (h2 : hi ≤ hi') : TA lo' hi' w ts us rs bl bh :=
  ⟨h.len, h.one, h.att, fun j hj => Nat.le_trans h1 (h.low j hj), h.mid, fun j hj => Nat.le_trans (h.top j hj) h2, h.hia, h.hiu, h.ord⟩

/-- Tokens behind tokens. -/
def thenN {α : Type} (n : Nat) (f g : Nat → α) (j : Nat) : α := if j < n then f j else g (j - n)
theorem thenN_l {α : Type} {n : Nat} {f g : Nat → α} {j : Nat} (h : j < n) : thenN n f g j = f j := if_pos h
theorem thenN_r {α : Type} {n : Nat} {f g : Nat → α} {j : Nat} (h : ¬ j < n) : thenN n f g j = g (j - n) := if_neg h

theorem TA.app {lo mi hi : Nat} {w : World} {ts ts1 : List TK} {us us1 : List Value} {rs rs1 : Nat → List Value} {bl bh bl1 bh1 : Nat → Nat} (h : TA lo mi w ts us rs bl bh) (k : TA mi hi w ts1 us1 rs1 bl1 bh1) (hm : lo ≤ mi) (hh : mi ≤ hi) :
    TA lo hi w (ts ++ ts1) (us ++ us1) (thenN ts.length rs rs1) (thenN ts.length bl bl1) (thenN ts.length bh bh1) := by
  have hl := h.len
  have sp : ∀ j, j < (ts ++ ts1).length → ¬ j < ts.length → j - ts.length < ts1.length := fun j hj hn => by rw [List.length_append] at hj; omega
  refine ⟨by rw [List.length_append, List.length_append, h.len, k.len], fun u hu => ?_, fun j hj => ?_, fun j hj => ?_, fun j hj => ?_, fun j hj => ?_, fun j hj x e => ?_, fun j hj i hi x e => ?_, fun i j hij hj => ?_⟩
  · rcases List.mem_append.1 hu with hu | hu
    · exact h.one u hu
    · exact k.one u hu
  · by_cases c : j < ts.length
    · rw [thenN_l c, thenN_l c, tkK_left c, usK_left (by omega)]; exact h.att j c
    · rw [thenN_r c, thenN_r c, tkK_right c, usK_right (by omega), hl]; exact k.att _ (sp j hj c)
  · by_cases c : j < ts.length
    · rw [thenN_l c]; exact h.low j c
    · rw [thenN_r c]; have := k.low _ (sp j hj c); omega
  · by_cases c : j < ts.length
    · rw [thenN_l c, thenN_l c]; exact h.mid j c
    · rw [thenN_r c, thenN_r c]; exact k.mid _ (sp j hj c)
  · by_cases c : j < ts.length
    · rw [thenN_l c]; have := h.top j c; omega
    · rw [thenN_r c]; exact k.top _ (sp j hj c)
  · by_cases c : j < ts.length
    · rw [usK_left (by omega)] at e; rw [thenN_l c]; exact h.hia j c x e
    · rw [usK_right (by omega), hl] at e; rw [thenN_r c]; exact k.hia _ (sp j hj c) x e
  · by_cases c : j < ts.length
    · rw [thenN_l c] at e; rw [tkK_left c] at hi; rw [thenN_l c]; exact h.hiu j c i hi x e
    · rw [thenN_r c] at e; rw [tkK_right c] at hi; rw [thenN_r c]; exact k.hiu _ (sp j hj c) i hi x e
  · by_cases c : j < ts.length
    · rw [thenN_l (show i < ts.length by omega), thenN_l c]; exact h.ord i j hij c
    · rw [thenN_r c]
      by_cases d : i < ts.length
      · rw [thenN_l d]; have := h.top i d; have := k.low _ (sp j hj c); omega
      · rw [thenN_r d]; exact k.ord _ _ (by omega) (sp j hj c)

/-- The lexer in its box: what is held, and the tokens that were told. -/
structure LX (lo g : Nat) (w : World) (hv tv : Value) (hs : List Int) (ts : List TK) (us : List Value) (rs : Nat → List Value) (bl bh : Nat → Nat) : Prop where
  box : w.rowIs g 56 2 (q2 hv tv)
  held : w.ownsRow lo 5 1 hv hs.length (bcs hs)
  row : w.ownsRow lo 33 5 tv ts.length (tcs ts us)
  ta : TA lo w.heap.size w ts us rs bl bh
  lg : lo ≤ g
  gh : hv.ownBlock ≠ some g
  gt : tv.ownBlock ≠ some g
  ga : ∀ j, j < ts.length → g < bl j ∨ bh j ≤ g
  vt : ∀ j, j < ts.length → ∀ k, tv.ownBlock = some k → k < bl j ∨ bh j ≤ k
  vh : ∀ j, j < ts.length → ∀ k, hv.ownBlock = some k → k < bl j ∨ bh j ≤ k
  ap : Ap hv tv

def LXs (lo g : Nat) (w : World) (hs : List Int) (ts : List TK) : Prop := ∃ hv tv us rs bl bh, LX lo g w hv tv hs ts us rs bl bh

theorem LX.below {lo g : Nat} {w w' : World} {hv tv : Value} {hs : List Int} {ts : List TK} {us : List Value} {rs : Nat → List Value} {bl bh : Nat → Nat} (h : LX lo g w hv tv hs ts us rs bl bh) (hb : Below w.heap.size w w') : LX lo g w' hv tv hs ts us rs bl bh :=
  ⟨rowB h.box hb, own_keep h.held hb, own_keep h.row hb, (h.ta.below hb).widen (Nat.le_refl _) hb.size, h.lg, h.gh, h.gt, h.ga, h.vt, h.vh, h.ap⟩

theorem LX.lt {lo g : Nat} {w : World} {hv tv : Value} {hs : List Int} {ts : List TK} {us : List Value} {rs : Nat → List Value} {bl bh : Nat → Nat} (h : LX lo g w hv tv hs ts us rs bl bh) : g < w.heap.size := h.box.lt

/-- The tokens are turned: others are put behind. -/
theorem LX.tell {lo g : Nat} {w w1 w2 : World} {hv tv tv' : Value} {hs : List Int} {ts ts1 : List TK} {us us1 : List Value} {rs rs1 : Nat → List Value} {bl bh bl1 bh1 : Nat → Nat} (h : LX lo g w hv tv hs ts us rs bl bh) (h1 : Below w.heap.size w w1) (k : TA w.heap.size w1.heap.size w1 ts1 us1 rs1 bl1 bh1)
    (ho : w2.ownsRow lo 33 5 tv' (ts.length + ts1.length) (tcs ts us ++ tcs ts1 us1)) (hg : w1.grownBy w2 tv.ownBlock) (e : tv'.ownBlock = tv.ownBlock ∨ tv'.ownBlock = some w1.heap.size) :
    LX lo g (w2.setCell ⟨g, 1, none⟩ tv') hv tv' hs (ts ++ ts1) (us ++ us1) (thenN ts.length rs rs1) (thenN ts.length bl bl1) (thenN ts.length bh bh1) := by
  have s1 := h1.size
  have s2 := hg.size
  have gl := h.lt
  have lg := h.lg
  have told : ∀ x, tv.ownBlock = some x → (lo ≤ x ∧ x < w.heap.size) ∧ x ≠ g := fun x e => ⟨h.row.lt x e, fun e2 => h.gt (e2 ▸ e)⟩
  have hold : ∀ x, hv.ownBlock = some x → (lo ≤ x ∧ x < w.heap.size) ∧ x ≠ g := fun x e => ⟨h.held.lt x e, fun e2 => h.gh (e2 ▸ e)⟩
  have kp : ∀ x, x < w.heap.size → some x ≠ tv.ownBlock → x ≠ g → (w2.setCell ⟨g, 1, none⟩ tv').heap[x]? = w.heap[x]? := fun x hx hn hgx => by
    rw [Deep.blk_setCell_other _ _ _ _ hgx, hg.block x (by omega) hn, h1.block x hx]
  have kp1 : ∀ x, w.heap.size ≤ x → x < w1.heap.size → (w2.setCell ⟨g, 1, none⟩ tv').heap[x]? = w1.heap[x]? := fun x hx hy => by
    rw [Deep.blk_setCell_other _ _ _ _ (by show x ≠ g; omega), hg.block x hy (fun e => by have := told x e.symm; omega)]
  have gt' : tv'.ownBlock ≠ some g := fun ex => by
    rcases e with e | e
    · exact h.gt (e ▸ ex)
    · rw [e] at ex; injection ex with ex; omega
  have bx : w2.rowIs g 56 2 (q2 hv tv) := h.box.of_block (by rw [hg.block g (by omega) (fun e => by have := told g e.symm; omega), h1.block g gl])
  refine ⟨?_, own_of h.held (Nat.le_refl _) (fun x ex _ => kp x (hold x ex).1.2 (fun e2 => h.ap x ex e2.symm) (by have := hold x ex; omega)), ?_, ?_, lg, h.gh, gt', fun j hj => ?_, fun j hj x ex => ?_, fun j hj x ex => ?_, fun x ex ey => ?_⟩
  · refine (bx.set 1 tv').congr (fun i hi => ?_)
    have : i = 0 ∨ i = 1 := by omega
    rcases this with rfl | rfl <;> simp [q2]
  · rw [tcs_app _ _ _ _ h.ta.len, List.length_append]
    exact own_of ho (Nat.le_refl _) (fun x ex hx => Deep.blk_setCell_other _ _ _ _ (fun (e2 : x = g) => gt' (e2 ▸ ex)))
  · refine (TA.app (h.ta.keep (fun j hj x hx1 hx2 hx3 => ?_)) (k.keep (fun j hj x hx1 hx2 hx3 => ?_)) (by omega) s1).widen (Nat.le_refl _) (by simpa [World.setCell] using s2)
    · exact kp x hx3 (fun e2 => by have := h.vt j hj x e2.symm; omega) (by have := h.ga j hj; omega)
    · exact kp1 x (by have := k.low j hj; omega) hx3
  · by_cases c : j < ts.length
    · rw [thenN_l c, thenN_l c]; exact h.ga j c
    · have hj' : j - ts.length < ts1.length := by rw [List.length_append] at hj; omega
      rw [thenN_r c, thenN_r c]; have := k.low _ hj'; omega
  · by_cases c : j < ts.length
    · rw [thenN_l c, thenN_l c]
      rcases e with e | e
      · exact h.vt j c x (e ▸ ex)
      · rw [e] at ex; cases ex; have := h.ta.top j c; omega
    · have hj' : j - ts.length < ts1.length := by rw [List.length_append] at hj; omega
      rw [thenN_r c, thenN_r c]
      rcases e with e | e
      · rw [e] at ex; have := told x ex; have := k.low _ hj'; omega
      · rw [e] at ex; cases ex; have := k.top _ hj'; omega
  · by_cases c : j < ts.length
    · rw [thenN_l c, thenN_l c]; exact h.vh j c x ex
    · have hj' : j - ts.length < ts1.length := by rw [List.length_append] at hj; omega
      rw [thenN_r c, thenN_r c]
      have := hold x ex; have := k.low _ hj'; omega
  · rcases e with e | e
    · rw [e] at ey; exact h.ap x ex ey
    · rw [e] at ey; cases ey; have := hold _ ex; omega

/-- What is held is turned. -/
theorem LX.hold {lo g : Nat} {w w1 w2 : World} {hv tv hv' : Value} {hs hs' : List Int} {ts : List TK} {us : List Value} {rs : Nat → List Value} {bl bh : Nat → Nat} (h : LX lo g w hv tv hs ts us rs bl bh) (h1 : Below w.heap.size w w1) (ho : w2.ownsRow lo 5 1 hv' hs'.length (bcs hs')) (hg : w1.grownBy w2 hv.ownBlock) (e : hv'.ownBlock = hv.ownBlock ∨ ∀ x, hv'.ownBlock = some x → w.heap.size ≤ x) :
    LX lo g (w2.setCell ⟨g, 0, none⟩ hv') hv' tv hs' ts us rs bl bh := by
  have s1 := h1.size
  have s2 := hg.size
  have gl := h.lt
  have lg := h.lg
  have told : ∀ x, tv.ownBlock = some x → (lo ≤ x ∧ x < w.heap.size) ∧ x ≠ g := fun x e => ⟨h.row.lt x e, fun e2 => h.gt (e2 ▸ e)⟩
  have hold : ∀ x, hv.ownBlock = some x → (lo ≤ x ∧ x < w.heap.size) ∧ x ≠ g := fun x e => ⟨h.held.lt x e, fun e2 => h.gh (e2 ▸ e)⟩
  have kp : ∀ x, x < w.heap.size → some x ≠ hv.ownBlock → x ≠ g → (w2.setCell ⟨g, 0, none⟩ hv').heap[x]? = w.heap[x]? := fun x hx hn hgx => by
    rw [Deep.blk_setCell_other _ _ _ _ hgx, hg.block x (by omega) hn, h1.block x hx]
  have gh' : hv'.ownBlock ≠ some g := fun ex => by
    rcases e with e | e
    · exact h.gh (e ▸ ex)
    · have := e g ex; omega
  have bx : w2.rowIs g 56 2 (q2 hv tv) := h.box.of_block (by rw [hg.block g (by omega) (fun e => by have := hold g e.symm; omega), h1.block g gl])
  refine ⟨?_, own_of ho (Nat.le_refl _) (fun x ex hx => Deep.blk_setCell_other _ _ _ _ (fun (e2 : x = g) => gh' (e2 ▸ ex))), own_of h.row (Nat.le_refl _) (fun x ex _ => kp x (told x ex).1.2 (fun e2 => h.ap x e2.symm ex) (by have := told x ex; omega)), ?_, lg, gh', h.gt, h.ga, h.vt, fun j hj x ex => ?_, fun x ex ey => ?_⟩
  · refine (bx.set 0 hv').congr (fun i hi => ?_)
    have : i = 0 ∨ i = 1 := by omega
    rcases this with rfl | rfl <;> simp [q2]
  · refine (h.ta.keep (fun j hj x hx1 hx2 hx3 => ?_)).widen (Nat.le_refl _) (by simp [World.setCell]; omega)
    exact kp x hx3 (fun e2 => by have := h.vh j hj x e2.symm; omega) (by have := h.ga j hj; omega)
  · rcases e with e | e
    · exact h.vh j hj x (e ▸ ex)
    · have := e x ex; have := h.ta.top j hj; omega
  · rcases e with e | e
    · exact h.ap x (e ▸ ex) ey
    · have := e x ex; have := told x ey; omega

/-- Nothing is held any more. -/
theorem LX.drop {lo g : Nat} {w : World} {hv tv : Value} {hs : List Int} {ts : List TK} {us : List Value} {rs : Nat → List Value} {bl bh : Nat → Nat} (h : LX lo g w hv tv hs ts us rs bl bh) : LX lo g (w.setCell ⟨g, 0, none⟩ (.slice none 0 0)) (.slice none 0 0) tv [] ts us rs bl bh :=
  h.hold (w1 := w) (w2 := w) (hs' := []) (Below.refl _ _) ⟨rfl, .inl ⟨rfl, rfl⟩⟩ ⟨rfl, rfl, rfl, Nat.le_refl _, fun _ _ _ => rfl⟩ (.inr (fun x e => by simp [Value.ownBlock] at e))

end Go.Proofs.YtgkdplooocbonaaGreatDoor
