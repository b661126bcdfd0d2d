/- Tags: the mathematics: letters, blanks and what stands ahead of a quote; an attribute, a tag of bytes. -/
import Derived.Test.YtgkdplooocbonaaGreatDoorXV0
import Derived.Test.YtgkdplooocbonaaGreatDoorXTj
namespace Go.Proofs.YtgkdplooocbonaaGreatDoor
open Go.RowKit
set_option linter.unusedVariables false

/-- How many ahead are so. -/
def spn (p : UInt8 → Bool) : List UInt8 → Nat
  | [] => 0
  | c :: r => if p c = true then spn p r + 1 else 0
theorem spn_le (p : UInt8 → Bool) : ∀ L, spn p L ≤ L.length
  | [] => Nat.le_refl _
  | c :: r => by
    have := spn_le p r
    simp only [spn, List.length_cons]; split <;> omega
theorem spn_all (p : UInt8 → Bool) : ∀ (L : List UInt8) (j : Nat), j < spn p L → p (L.getD j 0) = true
  | [], j, h => by simp [spn] at h
  | c :: r, j, h => by
    unfold spn at h
    split at h
    · cases j with
      | zero => simpa
      | succ j => simpa using spn_all p r j (by omega)
    · omega
theorem spn_end (p : UInt8 → Bool) : ∀ (L : List UInt8), spn p L < L.length → p (L.getD (spn p L) 0) = false
  | [], h => by simp [spn] at h
  | c :: r, h => by
    unfold spn at h ⊢
    split
    · rename_i hc
      rw [if_pos hc] at h
      simpa using spn_end p r (by simpa using h)
    · rename_i hc
      simpa using hc
theorem spn_uniq (p : UInt8 → Bool) : ∀ (L : List UInt8) (k : Nat), k ≤ L.length → (∀ j, j < k → p (L.getD j 0) = true) → (k < L.length → p (L.getD k 0) = false) → spn p L = k
  | [], k, h, _, _ => by simp at h; subst h; rfl
  | c :: r, 0, h, _, h2 => by
    have := h2 (by simp)
    unfold spn
    rw [if_neg (by simpa using this)]
  | c :: r, k + 1, h, h1, h2 => by
    have hc := h1 0 (by omega)
    unfold spn
    rw [if_pos (by simpa using hc), spn_uniq p r k (by simpa using h) (fun j hj => by simpa using h1 (j + 1) (by omega)) (fun hk => by simpa using h2 (by simpa using hk))]

def pL (c : UInt8) : Bool := ltrB c.toNat
def pB (c : UInt8) : Bool := decide (c.toNat = 32)
def pQ (c : UInt8) : Bool := !decide (c.toNat = 34)

/-- An attribute ahead, and how many bytes it has. -/
def attrA (L : List UInt8) : Option (AT × Nat) :=
  if ((1 ≤ spn pL L ∧ spn pL L ≤ 8) ∧ spn pL L + 1 < L.length) ∧ ((L.getD (spn pL L) 0).toNat = 61 ∧ (L.getD (spn pL L + 1) 0).toNat = 34) then
    (if spn pL L + 2 + spn pQ (L.drop (spn pL L + 2)) < L.length then some (⟨⟨(L.take (spn pL L)).toArray⟩, decode ((L.drop (spn pL L + 2)).take (spn pQ (L.drop (spn pL L + 2))))⟩, spn pL L + 2 + spn pQ (L.drop (spn pL L + 2)) + 1) else none)
  else none

def addA (l : List AT) (a : AT) : List AT := if 0 ≤ posK l a.nm then l else l ++ [a]

/-- What is inside a start tag. -/
def insideA : Nat → List UInt8 → List AT → Option (List AT × Bool)
  | 0, _, _ => none
  | f + 1, L, acc =>
    if ((L.drop (spn pB L)).getD 0 0).toNat = 47 then (if L.drop (spn pB L + 1) = [62] then some (acc, true) else none)
    else if ((L.drop (spn pB L)).getD 0 0).toNat = 62 then (if L.drop (spn pB L) = [62] then some (acc, false) else none)
    else if spn pB L = 0 then none
    else match attrA (L.drop (spn pB L)) with
      | none => none
      | some (a, n) => insideA f (L.drop (spn pB L + n)) (addA acc a)

/-- A tag. -/
def tagA (L : List UInt8) : Option TK :=
  if (L.getD 0 0).toNat = 60 then
    (if Lib.hasPrefix (L.drop 1) [33, 45, 45] = true then (if Lib.hasSuffix (L.drop 4) [45, 45, 62] = true then some ⟨4, 0, ⟨#[]⟩, [], false⟩ else none)
    else if (L.getD 1 0).toNat = 47 then (if (1 ≤ spn pL (L.drop 2) ∧ spn pL (L.drop 2) ≤ 8) ∧ L.drop (2 + spn pL (L.drop 2)) = [62] then some ⟨3, 0, ⟨((L.drop 2).take (spn pL (L.drop 2))).toArray⟩, [], false⟩ else none)
    else if 1 ≤ spn pL (L.drop 1) ∧ spn pL (L.drop 1) ≤ 8 then
      (match insideA (L.length + 1) (L.drop (1 + spn pL (L.drop 1))) [] with
      | none => none
      | some (l, sh) => some ⟨2, 0, ⟨((L.drop 1).take (spn pL (L.drop 1))).toArray⟩, l, sh⟩)
    else none)
  else none

theorem one_left (L : List UInt8) (k : Nat) : L.drop k = [62] ↔ k + 1 = L.length ∧ (L.getD k 0).toNat = 62 := by
  constructor
  · intro h
    have hl := congrArg List.length h
    simp only [List.length_drop, List.length_cons, List.length_nil] at hl
    refine ⟨by omega, ?_⟩
    have : (L.drop k).getD 0 0 = 62 := by rw [h]; rfl
    rw [getD_drop] at this
    simp only [Nat.add_zero] at this
    rw [this]; rfl
  · rintro ⟨h1, h2⟩
    rw [drop_cons L k (by omega), List.drop_of_length_le (by omega)]
    have : L.getD k 0 = 62 := UInt8.toNat_inj.1 (by rw [h2]; rfl)
    rw [this]

theorem attrA_len {L : List UInt8} {a : AT} {n : Nat} (h : attrA L = some (a, n)) : 3 ≤ n ∧ n ≤ L.length ∧ a.nm.size ≤ 8 ∧ a.nm.size + a.vl.length ≤ L.length := by
  unfold attrA at h
  split at h
  · rename_i hc
    split at h
    · rename_i hq
      simp only [Option.some.injEq, Prod.mk.injEq] at h
      obtain ⟨rfl, rfl⟩ := h
      have e1 : (⟨(L.take (spn pL L)).toArray⟩ : ByteArray).size = spn pL L := by simp [ByteArray.size]; omega
      have e2 : (decode ((L.drop (spn pL L + 2)).take (spn pQ (L.drop (spn pL L + 2))))).length ≤ spn pQ (L.drop (spn pL L + 2)) := by
        refine Nat.le_trans (dec_len _ _) ?_
        simp
        omega
      refine ⟨by omega, by omega, by rw [e1]; omega, ?_⟩
      show (⟨(L.take (spn pL L)).toArray⟩ : ByteArray).size + (decode ((L.drop (spn pL L + 2)).take (spn pQ (L.drop (spn pL L + 2))))).length ≤ L.length
      rw [e1]; omega
    · cases h
  · cases h

theorem spn_zero_of {p : UInt8 → Bool} {L : List UInt8} (h : p (L.getD 0 0) = false) : spn p L = 0 :=
  spn_uniq p L 0 (Nat.zero_le _) (fun j hj => absurd hj (Nat.not_lt_zero _)) (fun _ => h)

/-- Blanks ahead of what is no letter: nothing is lost without them. -/
theorem inside_blank {f : Nat} {L : List UInt8} {acc : List AT} (h : pL ((L.drop (spn pB L)).getD 0 0) = false) : insideA (f + 1) (L.drop (spn pB L)) acc = insideA (f + 1) L acc := by
  have hz : spn pB (L.drop (spn pB L)) = 0 := by
    by_cases hl : spn pB L < L.length
    · refine spn_zero_of ?_
      rw [getD_drop, Nat.add_zero]
      exact spn_end pB L hl
    · rw [List.drop_of_length_le (by omega)]; rfl
  have ha : attrA (L.drop (spn pB L)) = none := by
    unfold attrA
    rw [spn_zero_of h, if_neg (by omega)]
  unfold insideA
  rw [hz]
  simp only [List.drop_drop, Nat.add_zero, ha, if_true]
  split
  · rfl
  · split
    · rfl
    · split <;> rfl

end Go.Proofs.YtgkdplooocbonaaGreatDoor

/- The model's readers of names, blanks and attributes. -/
namespace Go.Proofs.YtgkdplooocbonaaGreatDoor
open Go.RowKit
set_option linter.unusedVariables false
set_option linter.unusedSimpArgs false

theorem spn_from {p : UInt8 → Bool} {L : List UInt8} {k m : Nat} (h1 : k ≤ m) (h2 : m ≤ L.length) (h3 : ∀ j, k ≤ j → j < m → p (L.getD j 0) = true) (h4 : m < L.length → p (L.getD m 0) = false) : k + spn p (L.drop k) = m := by
  have : spn p (L.drop k) = m - k := spn_uniq p _ _ (by simp; omega) (fun j hj => by rw [getD_drop]; exact h3 _ (by omega) (by omega)) (fun hk => by
    rw [getD_drop, show k + (m - k) = m from by omega]
    exact h4 (by simp at hk; omega))
  omega

theorem take_all (L : List UInt8) : ∀ c ∈ L.take (spn pL L), ltrB c.toNat = true := by
  intro c hc
  obtain ⟨i, hi, rfl⟩ := List.mem_iff_getElem.1 hc
  have hi' : i < spn pL L ∧ i < L.length := by simp at hi; omega
  have := spn_all pL L i hi'.1
  rw [List.getElem_take]
  simpa [pL, List.getD_eq_getElem?_getD, List.getElem?_eq_getElem hi'.2] using this

theorem nmB_take (s : ByteArray) (L : List UInt8) (h : s.data.toList = L.take (spn pL L)) : nmB s = (decide (1 ≤ spn pL L) && decide (spn pL L ≤ 8)) := by
  have hs : s.size = spn pL L := by
    rw [← len_list, h, List.length_take]
    have := spn_le pL L
    omega
  unfold nmB
  rw [hs, h, List.all_eq_true.2 (fun c hc => take_all L c hc), Bool.and_true]

theorem ba_ext {a b : ByteArray} (h : a.data.toList = b.data.toList) : a = b := by
  apply ByteArray.ext
  exact Array.toList_inj.1 h

theorem ext_size (s : ByteArray) (a b : Nat) : (s.extract a b).size ≤ s.size := by simp; omega

theorem own_shape {w : World} {base : Nat} {e : TypeId} {size : Nat} {v : Value} {n : Nat} {xs : List Value} (h : w.ownsRow base e size v n xs) : ∃ a c, v = .slice a n c := by
  rcases h.2 with ⟨hv, h0⟩ | ⟨g, cap, cur, hv, _⟩
  · exact ⟨none, 0, by rw [hv, h0]⟩
  · exact ⟨_, _, hv⟩

theorem own_of {w w' : World} {base base' : Nat} {e : TypeId} {size : Nat} {v : Value} {n : Nat} {xs : List Value} (h : w.ownsRow base e size v n xs) (hb : base' ≤ base) (hk : ∀ k, v.ownBlock = some k → base ≤ k → w'.heap[k]? = w.heap[k]?) : w'.ownsRow base' e size v n xs := by
  refine ⟨h.1, ?_⟩
  rcases h.2 with h0 | ⟨g, cap, cur, rfl, hg, hh, r⟩
  · exact .inl h0
  · exact .inr ⟨g, cap, cur, rfl, Nat.le_trans hb hg, by rw [hk g rfl hg]; exact hh, r⟩
theorem own_set {w : World} {base base' : Nat} {e : TypeId} {size : Nat} {v : Value} {n : Nat} {xs : List Value} (h : w.ownsRow base e size v n xs) (hb : base' ≤ base) {p : Addr} (hp : p.block < base) (u : Value) : (w.setCell p u).ownsRow base' e size v n xs :=
  own_of h hb fun k _ hk => Deep.blk_setCell_other _ _ _ _ (by omega)

/-- What l4Attr answers. -/
def AttrP (r : Option (AT × Nat)) (k : Nat) (w : World) (e : Ending) (w' : World) : Prop := (match r with
      | none => e = .returned (.tuple #[.agg #[.string ⟨#[]⟩, .slice none 0 0], .int .i64 (-1)])
      | some (a, n) => ∃ u, e = .returned (.tuple #[.agg #[.string a.nm, u], .int .i64 ((k + n : Nat) : Int)]) ∧ w'.ownsRow w.heap.size 5 1 u a.vl.length (bcs a.vl)) ∧ Below w.heap.size w w'
theorem AttrP.no {r : Option (AT × Nat)} {k : Nat} {w w' : World} (h : r = none) (hb : Below w.heap.size w w') : AttrP r k w (.returned (.tuple #[.agg #[.string ⟨#[]⟩, .slice none 0 0], .int .i64 (-1)])) w' := by
  subst h; exact ⟨rfl, hb⟩

end Go.Proofs.YtgkdplooocbonaaGreatDoor

/- Attributes in memory of one's own. -/
namespace Go.Proofs.YtgkdplooocbonaaGreatDoor
open Go.RowKit
set_option linter.unusedVariables false
set_option linter.unusedSimpArgs false

/-- The cells of attributes: two each. -/
def acs : List AT → List Value → List Value
  | a :: l, u :: us => .string a.nm :: u :: acs l us
  | _, _ => []
theorem acs_len : ∀ (l : List AT) (us : List Value), us.length = l.length → (acs l us).length = l.length * 2
  | [], us, h => by cases us <;> rfl
  | a :: l, [], h => by simp at h
  | a :: l, u :: us, h => by
    simp only [acs, List.length_cons]
    rw [acs_len l us (by simpa using h)]; omega
theorem acs_snoc : ∀ (l : List AT) (us : List Value) (a : AT) (u : Value), us.length = l.length → acs (l ++ [a]) (us ++ [u]) = acs l us ++ [.string a.nm, u]
  | [], [], a, u, _ => rfl
  | [], u :: us, _, _, h => by simp at h
  | b :: l, [], _, _, h => by simp at h
  | b :: l, v :: us, a, u, h => by
    simp only [List.cons_append, acs]
    rw [acs_snoc l us a u (by simpa using h)]
theorem acs_get : ∀ (l : List AT) (us : List Value) (k : Nat), us.length = l.length → k < l.length → (acs l us)[k * 2]? = some (.string (atK l k).nm) ∧ (acs l us)[k * 2 + 1]? = some (us.getD k undef)
  | [], us, k, h, hk => absurd hk (Nat.not_lt_zero _)
  | a :: l, [], k, h, hk => by simp at h
  | a :: l, u :: us, 0, h, hk => by simp [acs, atK]
  | a :: l, u :: us, k + 1, h, hk => by
    have := acs_get l us k (by simpa using h) (by simpa using hk)
    rw [show (k + 1) * 2 = k * 2 + 1 + 1 from by omega]
    simpa [acs, atK] using this

/-- Attributes of one's own: a row of them, and a row of bytes for each value; no two rows are one. -/
structure OA (lo : Nat) (w : World) (v : Value) (l : List AT) (us : List Value) : Prop where
  len : us.length = l.length
  row : w.ownsRow lo 62 2 v l.length (acs l us)
  val : ∀ j, j < l.length → OB w (us.getD j undef) (atK l j).vl
  vlo : ∀ j, j < l.length → ∀ k, (us.getD j undef).ownBlock = some k → lo ≤ k
  ap : ∀ i j, i < j → j < l.length → Ap (us.getD i undef) (us.getD j undef)
  av : ∀ j, j < l.length → Ap v (us.getD j undef)

theorem OA.nil (lo : Nat) (w : World) : OA lo w (.slice none 0 0) [] [] :=
  ⟨rfl, ⟨rfl, .inl ⟨rfl, rfl⟩⟩, fun j h => absurd h (Nat.not_lt_zero _), fun j h => absurd h (Nat.not_lt_zero _), fun i j _ h => absurd h (Nat.not_lt_zero _), fun j h => absurd h (Nat.not_lt_zero _)⟩

/-- Blocks of one's own that stay. -/
theorem OA.keep {lo lo' : Nat} {w w' : World} {v : Value} {l : List AT} {us : List Value} (h : OA lo w v l us) (hlo : lo' ≤ lo) (hk : ∀ k, lo ≤ k → k < w.heap.size → w'.heap[k]? = w.heap[k]?) : OA lo' w' v l us :=
  ⟨h.len, own_of h.row hlo (fun k e hl => hk k hl (h.row.lt k e).2), fun j hj => (h.val j hj).keep (fun k e hl => hk k (h.vlo j hj k e) hl), fun j hj k e => Nat.le_trans hlo (h.vlo j hj k e), h.ap, h.av⟩
theorem OA.below {lo : Nat} {w w' : World} {v : Value} {l : List AT} {us : List Value} (h : OA lo w v l us) (hb : Below w.heap.size w w') : OA lo w' v l us := h.keep (Nat.le_refl _) (fun k _ hl => hb.block k hl)

theorem own_bat {w : World} {base : Nat} {u : Value} {l : List Int} (h : w.ownsRow base 5 1 u l.length (bcs l)) : ∃ p c, u = .slice p l.length c ∧ BAt w p l := (OB.of_own h).1.len

theorem OA.at {lo : Nat} {w : World} {v : Value} {l : List AT} {us : List Value} (h : OA lo w v l us) : ∃ a c, v = .slice a l.length c ∧ AAt w a l := by
  rcases h.row.2 with ⟨rfl, h0⟩ | ⟨g, cap, cur, rfl, hg, hh, hc, hm, hs, ht⟩
  · exact ⟨none, 0, by rw [h0], .inl (List.eq_nil_of_length_eq_zero h0)⟩
  · refine ⟨_, _, rfl, .inr ⟨g, 0, rfl, ?_, fun k hk => ?_⟩⟩
    · exact Nat.lt_of_not_le fun hn => by rw [Array.getElem?_eq_none hn] at hh; cases hh
    · obtain ⟨h1, h2⟩ := acs_get l us k h.len hk
      obtain ⟨p, c, e, hb⟩ := (h.val k hk).len
      rw [← ht] at h1 h2
      rw [List.getElem?_take_of_lt (by omega)] at h1 h2
      have q : ∀ i, w.cell? ⟨g, i, none⟩ = cur[i]? := fun i => Lib.cell_of_heap hh i
      refine ⟨by rw [q, Nat.zero_add, ← h1]; simp, p, c, ?_, hb⟩
      rw [q, Nat.zero_add, ← e, ← h2]; simp

/-- One more, put behind. -/
theorem OA.app {lo : Nat} {w w1 w2 : World} {v v' u : Value} {l : List AT} {us : List Value} {a : AT} (h : OA lo w v l us) (hw : Below w.heap.size w w1) (hu : OB w1 u a.vl) (hlo : lo ≤ w.heap.size) (hn : ∀ k, u.ownBlock = some k → w.heap.size ≤ k)
    (ho : w2.ownsRow lo 62 2 v' (l.length + 1) (acs l us ++ [.string a.nm, u])) (hg : w1.grownBy w2 v.ownBlock) (hv : v'.ownBlock = v.ownBlock ∨ v'.ownBlock = some w1.heap.size) : OA lo w2 v' (l ++ [a]) (us ++ [u]) := by
  have g1 : ∀ j, j < l.length → (us ++ [u]).getD j undef = us.getD j undef := fun j hj => by simp [List.getD_eq_getElem?_getD, List.getElem?_append_left (h.len.symm ▸ hj)]
  have g2 : (us ++ [u]).getD l.length undef = u := by simp [List.getD_eq_getElem?_getD, ← h.len]
  have a1 : ∀ j, j < l.length → atK (l ++ [a]) j = atK l j := fun j hj => by simp [atK, List.getD_eq_getElem?_getD, List.getElem?_append_left hj]
  have a2 : atK (l ++ [a]) l.length = a := by simp [atK, List.getD_eq_getElem?_getD]
  have old : ∀ j, j < l.length → ∀ k, (us.getD j undef).ownBlock = some k → k < w.heap.size := fun j hj k e => (h.val j hj).lt k e
  have vold : ∀ k, v.ownBlock = some k → k < w.heap.size := fun k e => (h.row.lt k e).2
  have ult : ∀ k, u.ownBlock = some k → k < w1.heap.size := fun k e => hu.lt k e
  have sz := hw.size
  have hvl : ∀ j, j < l.length → OB w2 (us.getD j undef) (atK l j).vl := fun j hj =>
    (h.val j hj).keep (fun k e _ => by
      rw [hg.block k (by have := old j hj k e; omega) (fun e2 => h.av j hj k e2.symm e), hw.block k (old j hj k e)])
  have huv : OB w2 u a.vl :=
    hu.keep (fun k e _ => hg.block k (ult k e) (fun e2 => by have := vold k e2.symm; have := hn k e; omega))
  refine ⟨by simp [h.len], ?_, fun j hj => ?_, fun j hj k e => ?_, fun i j hij hj => ?_, fun j hj => ?_⟩
  · rw [acs_snoc _ _ _ _ h.len, List.length_append]; exact ho
  · rw [List.length_append] at hj
    by_cases e : j = l.length
    · subst e; rw [g2, a2]; exact huv
    · rw [g1 j (by simp at hj; omega), a1 j (by simp at hj; omega)]; exact hvl j (by simp at hj; omega)
  · rw [List.length_append] at hj
    by_cases ej : j = l.length
    · subst ej; rw [g2] at e; have := hn k e; omega
    · rw [g1 j (by simp at hj; omega)] at e; exact h.vlo j (by simp at hj; omega) k e
  · rw [List.length_append] at hj
    rw [g1 i (by simp at hj; omega)]
    by_cases e : j = l.length
    · subst e; rw [g2]; intro k e1 e2; have := old i hij k e1; have := hn k e2; omega
    · rw [g1 j (by simp at hj; omega)]; exact h.ap i j hij (by simp at hj; omega)
  · rw [List.length_append] at hj
    intro k e1 e2
    rcases hv with hv | hv
    · rw [hv] at e1
      by_cases e : j = l.length
      · subst e; rw [g2] at e2; have := vold k e1; have := hn k e2; omega
      · rw [g1 j (by simp at hj; omega)] at e2; exact h.av j (by simp at hj; omega) k e1 e2
    · rw [hv] at e1
      cases e1
      by_cases e : j = l.length
      · subst e; rw [g2] at e2; have := ult _ e2; omega
      · rw [g1 j (by simp at hj; omega)] at e2; have := old j (by simp at hj; omega) _ e2; omega

theorem one_attr (w : World) (t : TypeId) (x y : Value) (g : Nat) (hg : w.heap.size = g) : ∀ j u, ([x, y] : List Value)[j]? = some u → (w.alloc (.cells #[x, y] t)).cell? ((⟨g, 0, none⟩ : Addr).add j) = some u := by
  intro j u h
  subst hg
  match j, h with
  | 0, h => cases h; simp [Addr.add]
  | 1, h => cases h; simp [Addr.add]
  | j + 2, h => simp at h

end Go.Proofs.YtgkdplooocbonaaGreatDoor
