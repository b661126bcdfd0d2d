/- The model's readers of names, blanks and attributes. -/
import Derived.Test.YtcjaldjlcnedeaaDoorZa
namespace Go.Proofs.YtcjaldjlcnedeaaDoor
open Go.RowKit
set_option linter.unusedVariables false
set_option linter.unusedSimpArgs false

theorem spn_from {p : UInt8 → Bool} {L : List UInt8} {k m : Nat} (h1 : k ≤ m) (h2 : m ≤ L.length) (h3 : ∀ j, k ≤ j → j < m → p (L.getD j 0) = true) (h4 : m < L.length → p (L.getD m 0) = false) : k + spn p (L.drop k) = m := by
  have : spn p (L.drop k) = m - k := spn_uniq p _ _ (by simp; omega) (fun j hj => by rw [getD_drop]; exact h3 _ (by omega) (by omega)) (fun hk => by
    rw [getD_drop, show k + (m - k) = m from by omega]
    exact h4 (by simp at hk; omega))
  omega

set_option maxHeartbeats 400000 in
theorem l4NameEnd_any (s : ByteArray) (k : Nat) (w : World) (hs : s.size ≤ 1048576) (hk : k ≤ s.size) :
    Calls Tryd.prog 59 #[.string s, .int .i64 k] w fun e w' => e = .returned (.int .i64 ((k + spn pL (s.data.toList.drop k) : Nat) : Int)) ∧ w' = w := by
  have hl := len_list s
  go_enter Tryd.func59, Tryd.ntmps59
  go_wp2
  go_loopw [1] (fun i wr => ∃ m : Nat, k ≤ m ∧ m ≤ s.size ∧ i = .int .i64 m ∧ (∀ j, k ≤ j → j < m → pL (s.data.toList.getD j 0) = true) ∧ wr = w) (fun i _ => s.size - (intOf i).toNat)
  case atStart => exact ⟨k, Nat.le_refl _, hk, rfl, fun j h1 h2 => by omega, rfl⟩
  case round =>
    obtain ⟨m, h1, h2, rfl, hn, rfl⟩ := hrel
    have HN := Hid.mk' hn
    clear hn
    by_cases hlt : m < s.size
    · have ci : (m : Int) < (s.size : Int) := by omega
      have G : Hid ((s[m]'hlt).toNat = (s.data.toList.getD m 0).toNat) := Hid.mk' (get_list rfl m hlt)
      have K := letter_any (s[m]'hlt).toNat
      cases hc : ltrB (s[m]'hlt).toNat with
      | true =>
        rw [hc] at K
        have HC : Hid (pL (s.data.toList.getD m 0) = true) := Hid.mk' (by unfold pL; rw [← G.out]; exact hc)
        have K := Hid.mk' (K wr)
        clear hc G
        go_wp2_with (first | go_big_skip | (go_at_call 58; refine K.out.mono ?_; rintro e w1 ⟨rfl, rfl⟩))
        go_roundw
        case rel => exact ⟨m + 1, by omega, by omega, by go_num, fun j a b => by
          by_cases h : j = m
          · subst h; exact HC.out
          · exact HN.out j a (by omega), by first | rfl | trivial⟩
        case measure => simp [intOf]; omega
      | false =>
        rw [hc] at K
        have HC : Hid (pL (s.data.toList.getD m 0) = false) := Hid.mk' (by unfold pL; rw [← G.out]; exact hc)
        have K := Hid.mk' (K wr)
        have E : Hid (k + spn pL (s.data.toList.drop k) = m) := Hid.mk' (spn_from h1 (by omega) HN.out (fun _ => HC.out))
        clear hc G
        go_wp2_with (first | go_big_skip | (go_at_call 58; refine K.out.mono ?_; rintro e w1 ⟨rfl, rfl⟩))
        go_ret
        exact ⟨ret_num (a := (m : Int)) (by have := E.out; omega), by first | rfl | trivial⟩
    · have ci : ¬ (m : Int) < (s.size : Int) := by omega
      have E : Hid (k + spn pL (s.data.toList.drop k) = m) := Hid.mk' (spn_from h1 (by omega) HN.out (fun h => by omega))
      go_wp2_with go_big_skip
      go_ret
      exact ⟨ret_num (a := (m : Int)) (by have := E.out; omega), by first | rfl | trivial⟩

set_option maxHeartbeats 400000 in
theorem l4Blanks_any (s : ByteArray) (k : Nat) (w : World) (hs : s.size ≤ 1048576) (hk : k ≤ s.size) :
    Calls Tryd.prog 60 #[.string s, .int .i64 k] w fun e w' => e = .returned (.int .i64 ((k + spn pB (s.data.toList.drop k) : Nat) : Int)) ∧ w' = w := by
  have hl := len_list s
  go_enter Tryd.func60, Tryd.ntmps60
  go_wp2
  go_loopw [1] (fun i wr => ∃ m : Nat, k ≤ m ∧ m ≤ s.size ∧ i = .int .i64 m ∧ (∀ j, k ≤ j → j < m → pB (s.data.toList.getD j 0) = true) ∧ wr = w) (fun i _ => s.size - (intOf i).toNat)
  case atStart => exact ⟨k, Nat.le_refl _, hk, rfl, fun j h1 h2 => by omega, rfl⟩
  case round =>
    obtain ⟨m, h1, h2, rfl, hn, rfl⟩ := hrel
    have HN := Hid.mk' hn
    clear hn
    by_cases hlt : m < s.size
    · have ci : (m : Int) < (s.size : Int) := by omega
      have G : Hid ((s[m]'hlt).toNat = (s.data.toList.getD m 0).toNat) := Hid.mk' (get_list rfl m hlt)
      by_cases hc : (s[m]'hlt).toNat = 32
      · have HC : Hid (pB (s.data.toList.getD m 0) = true) := Hid.mk' (by unfold pB; rw [← G.out]; simpa using hc)
        have hc' : ((s[m]'hlt).toNat : Int) = 32 := by omega
        clear G hc
        go_wp2_with go_big_skip
        go_roundw
        case rel => exact ⟨m + 1, by omega, by omega, by go_num, fun j a b => by
          by_cases h : j = m
          · subst h; exact HC.out
          · exact HN.out j a (by omega), by first | rfl | trivial⟩
        case measure => simp [intOf]; omega
      · have HC : Hid (pB (s.data.toList.getD m 0) = false) := Hid.mk' (by unfold pB; rw [← G.out]; simpa using hc)
        have E : Hid (k + spn pB (s.data.toList.drop k) = m) := Hid.mk' (spn_from h1 (by omega) HN.out (fun _ => HC.out))
        have hc' : ¬ ((s[m]'hlt).toNat : Int) = 32 := by omega
        clear G hc
        go_wp2_with go_big_skip
        go_ret
        exact ⟨ret_num (a := (m : Int)) (by have := E.out; omega), by first | rfl | trivial⟩
    · have ci : ¬ (m : Int) < (s.size : Int) := by omega
      have E : Hid (k + spn pB (s.data.toList.drop k) = m) := Hid.mk' (spn_from h1 (by omega) HN.out (fun h => by omega))
      go_wp2_with go_big_skip
      go_ret
      exact ⟨ret_num (a := (m : Int)) (by have := E.out; omega), by first | rfl | trivial⟩

theorem take_all (L : List UInt8) : ∀ c ∈ L.take (spn pL L), ltrB c.toNat = true := by
  intro c hc
  obtain ⟨i, hi, rfl⟩ := List.mem_iff_getElem.1 hc
  have hi' : i < spn pL L ∧ i < L.length := by simp at hi; omega
  have := spn_all pL L i hi'.1
  rw [List.getElem_take]
  simpa [pL, List.getD_eq_getElem?_getD, List.getElem?_eq_getElem hi'.2] using this

theorem nmB_take (s : ByteArray) (L : List UInt8) (h : s.data.toList = L.take (spn pL L)) : nmB s = (decide (1 ≤ spn pL L) && decide (spn pL L ≤ 8)) := by
  have hs : s.size = spn pL L := by
    rw [← len_list, h, List.length_take]
    have := spn_le pL L
    omega
  unfold nmB
  rw [hs, h, List.all_eq_true.2 (fun c hc => take_all L c hc), Bool.and_true]

theorem ba_ext {a b : ByteArray} (h : a.data.toList = b.data.toList) : a = b := by
  apply ByteArray.ext
  exact Array.toList_inj.1 h

theorem ext_size (s : ByteArray) (a b : Nat) : (s.extract a b).size ≤ s.size := by simp; omega

theorem own_shape {w : World} {base : Nat} {e : TypeId} {size : Nat} {v : Value} {n : Nat} {xs : List Value} (h : w.ownsRow base e size v n xs) : ∃ a c, v = .slice a n c := by
  rcases h.2 with ⟨hv, h0⟩ | ⟨g, cap, cur, hv, _⟩
  · exact ⟨none, 0, by rw [hv, h0]⟩
  · exact ⟨_, _, hv⟩

theorem own_of {w w' : World} {base base' : Nat} {e : TypeId} {size : Nat} {v : Value} {n : Nat} {xs : List Value} (h : w.ownsRow base e size v n xs) (hb : base' ≤ base) (hk : ∀ k, v.ownBlock = some k → base ≤ k → w'.heap[k]? = w.heap[k]?) : w'.ownsRow base' e size v n xs := by
  refine ⟨h.1, ?_⟩
  rcases h.2 with h0 | ⟨g, cap, cur, rfl, hg, hh, r⟩
  · exact .inl h0
  · exact .inr ⟨g, cap, cur, rfl, Nat.le_trans hb hg, by rw [hk g rfl hg]; exact hh, r⟩
theorem own_set {w : World} {base base' : Nat} {e : TypeId} {size : Nat} {v : Value} {n : Nat} {xs : List Value} (h : w.ownsRow base e size v n xs) (hb : base' ≤ base) {p : Addr} (hp : p.block < base) (u : Value) : (w.setCell p u).ownsRow base' e size v n xs :=
  own_of h hb fun k _ hk => Deep.blk_setCell_other _ _ _ _ (by omega)

/-- What l4Attr answers. -/
def AttrP (r : Option (AT × Nat)) (k : Nat) (w : World) (e : Ending) (w' : World) : Prop := (match r with
      | none => e = .returned (.tuple #[.agg #[.string ⟨#[]⟩, .slice none 0 0], .int .i64 (-1)])
      | some (a, n) => ∃ u, e = .returned (.tuple #[.agg #[.string a.nm, u], .int .i64 ((k + n : Nat) : Int)]) ∧ w'.ownsRow w.heap.size 5 1 u a.vl.length (bcs a.vl)) ∧ Below w.heap.size w w'
theorem AttrP.no {r : Option (AT × Nat)} {k : Nat} {w w' : World} (h : r = none) (hb : Below w.heap.size w w') : AttrP r k w (.returned (.tuple #[.agg #[.string ⟨#[]⟩, .slice none 0 0], .int .i64 (-1)])) w' := by
  subst h; exact ⟨rfl, hb⟩

set_option maxRecDepth 100000 in
set_option maxHeartbeats 1600000 in
theorem l4Attr_any (s : ByteArray) (k : Nat) (w : World) (hs : s.size ≤ 1000) (hk : k ≤ s.size) :
    Calls Tryd.prog 61 #[.string s, .int .i64 k] w fun e w' => AttrP (attrA (s.data.toList.drop k)) k w e w' := by
  have hl := len_list s
  have B0 := (Below.refl w.heap.size w).alloc (Nat.le_refl _) (.cells #[.string ⟨#[]⟩, .slice none 0 0] 54)
  have HB := Hid.mk' B0
  clear B0
  generalize hn : spn pL (s.data.toList.drop k) = n
  have nle : k + n ≤ s.size := by
    have := spn_le pL (s.data.toList.drop k)
    rw [hn, List.length_drop] at this
    omega
  have KE := l4NameEnd_any s k (w.alloc (.cells #[.string ⟨#[]⟩, .slice none 0 0] 54)) (by omega) hk
  rw [hn] at KE
  have KE := Hid.mk' KE
  have NB : nmB (s.extract k (k + n)) = (decide (1 ≤ n) && decide (n ≤ 8)) := by
    rw [← hn]; exact nmB_take _ _ (by rw [ext_list, hn, show k + n - k = n from by omega])
  have KN := l4Name_any (s.extract k (k + n)) (w.alloc (.cells #[.string ⟨#[]⟩, .slice none 0 0] 54)) (by have := ext_size s k (k + n); omega)
  rw [NB] at KN
  clear NB
  -- what attrA says, by its parts
  have AN : Hid (¬ (((1 ≤ n ∧ n ≤ 8) ∧ k + n + 1 < s.size) ∧ ((s.data.toList.getD (k + n) 0).toNat = 61 ∧ (s.data.toList.getD (k + n + 1) 0).toNat = 34)) → attrA (s.data.toList.drop k) = none) := Hid.mk' (fun h => by
    unfold attrA
    rw [hn, if_neg]
    rw [getD_drop, getD_drop, List.length_drop]
    intro hc
    exact h ⟨⟨hc.1.1, by omega⟩, by rw [show k + n + 1 = k + (n + 1) from rfl]; exact hc.2⟩)
  have AY : Hid (∀ m, ((1 ≤ n ∧ n ≤ 8) ∧ k + n + 1 < s.size) ∧ ((s.data.toList.getD (k + n) 0).toNat = 61 ∧ (s.data.toList.getD (k + n + 1) 0).toNat = 34) → k + n + 2 + spn pQ (s.data.toList.drop (k + n + 2)) = m → attrA (s.data.toList.drop k) = if m < s.size then some (⟨s.extract k (k + n), decode (s.extract (k + n + 2) m).data.toList⟩, m + 1 - k) else none) := Hid.mk' (fun m h hm => by
    unfold attrA
    rw [hn, if_pos (by rw [getD_drop, getD_drop, List.length_drop]; exact ⟨⟨h.1.1, by omega⟩, h.2⟩)]
    rw [List.drop_drop, List.length_drop, show k + (n + 2) = k + n + 2 from by omega]
    have e1 : (⟨((s.data.toList.drop k).take n).toArray⟩ : ByteArray) = s.extract k (k + n) := ba_ext (by rw [ext_list, show k + n - k = n from by omega])
    have e2 : (s.extract (k + n + 2) m).data.toList = (s.data.toList.drop (k + n + 2)).take (spn pQ (s.data.toList.drop (k + n + 2))) := by rw [ext_list, show m - (k + n + 2) = spn pQ (s.data.toList.drop (k + n + 2)) from by omega]
    rw [e1, ← e2]
    by_cases hq : m < s.size
    · rw [if_pos hq, if_pos (by omega), show n + 2 + spn pQ (s.data.toList.drop (k + n + 2)) + 1 = m + 1 - k from by omega]
    · rw [if_neg hq, if_neg (by omega)])
  clear hn
  by_cases c1 : 1 ≤ n ∧ n ≤ 8
  rotate_left
  · have E := Hid.mk' (AN.out (fun h => c1 h.1.1))
    rw [show (decide (1 ≤ n) && decide (n ≤ 8)) = false from by simp; omega] at KN
    have KN := Hid.mk' KN
    clear AN AY c1
    go_enter Tryd.func61, Tryd.ntmps61
    go_wp2_with (first | go_big_skip | (go_at_call 59; refine KE.out.mono ?_; rintro e w1 ⟨rfl, rfl⟩) | (go_at_call 31; refine KN.out.mono ?_; rintro e w1 ⟨rfl, rfl⟩))
    exact bodyPost_ret (v := .tuple #[.agg #[.string ⟨#[]⟩, .slice none 0 0], .int .i64 (-1)]) (by simp [results, Tryd.results61, go_sem, *]) rfl (AttrP.no E.out HB.out)
  rw [show (decide (1 ≤ n) && decide (n ≤ 8)) = true from by simp; omega] at KN
  have KN := Hid.mk' KN
  by_cases c2 : k + n + 1 < s.size
  rotate_left
  · have E := Hid.mk' (AN.out (fun h => c2 h.1.2))
    have ci : (k : Int) + n + 1 ≥ (s.size : Int) := by omega
    clear AN AY c1 c2
    go_enter Tryd.func61, Tryd.ntmps61
    go_wp2_with (first | go_big_skip | (go_at_call 59; refine KE.out.mono ?_; rintro e w1 ⟨rfl, rfl⟩) | (go_at_call 31; refine KN.out.mono ?_; rintro e w1 ⟨rfl, rfl⟩))
    exact bodyPost_ret (v := .tuple #[.agg #[.string ⟨#[]⟩, .slice none 0 0], .int .i64 (-1)]) (by simp [results, Tryd.results61, go_sem, *]) rfl (AttrP.no E.out HB.out)
  have l1 : k + n < s.size := by omega
  have ci : ¬ (k : Int) + n + 1 ≥ (s.size : Int) := by omega
  have G1 : Hid ((s[k + n]'l1).toNat = (s.data.toList.getD (k + n) 0).toNat) := Hid.mk' (get_list rfl (k + n) l1)
  have G2 : Hid ((s[k + n + 1]'c2).toNat = (s.data.toList.getD (k + n + 1) 0).toNat) := Hid.mk' (get_list rfl (k + n + 1) c2)
  by_cases c3 : (s[k + n]'l1).toNat = 61
  rotate_left
  · have E := Hid.mk' (AN.out (fun h => c3 (by rw [G1.out]; exact h.2.1)))
    have d3 : (((s[k + n]'l1).toNat : Int) != 61) = true := by simp; omega
    clear AN AY c1 c3
    go_enter Tryd.func61, Tryd.ntmps61
    go_wp2_with (first | go_big_skip | (go_at_call 59; refine KE.out.mono ?_; rintro e w1 ⟨rfl, rfl⟩) | (go_at_call 31; refine KN.out.mono ?_; rintro e w1 ⟨rfl, rfl⟩))
    exact bodyPost_ret (v := .tuple #[.agg #[.string ⟨#[]⟩, .slice none 0 0], .int .i64 (-1)]) (by simp [results, Tryd.results61, go_sem, *]) rfl (AttrP.no E.out HB.out)
  have d3 : (((s[k + n]'l1).toNat : Int) != 61) = false := by simp; omega
  by_cases c4 : (s[k + n + 1]'c2).toNat = 34
  rotate_left
  · have E := Hid.mk' (AN.out (fun h => c4 (by rw [G2.out]; exact h.2.2)))
    have d4 : (((s[k + n + 1]'c2).toNat : Int) != 34) = true := by simp; omega
    clear AN AY c1 c3 c4
    go_enter Tryd.func61, Tryd.ntmps61
    go_wp2_with (first | go_big_skip | (go_at_call 59; refine KE.out.mono ?_; rintro e w1 ⟨rfl, rfl⟩) | (go_at_call 31; refine KN.out.mono ?_; rintro e w1 ⟨rfl, rfl⟩))
    exact bodyPost_ret (v := .tuple #[.agg #[.string ⟨#[]⟩, .slice none 0 0], .int .i64 (-1)]) (by simp [results, Tryd.results61, go_sem, *]) rfl (AttrP.no E.out HB.out)
  have d4 : (((s[k + n + 1]'c2).toNat : Int) != 34) = false := by simp; omega
  have AY : Hid (∀ m, k + n + 2 + spn pQ (s.data.toList.drop (k + n + 2)) = m → attrA (s.data.toList.drop k) = if m < s.size then some (⟨s.extract k (k + n), decode (s.extract (k + n + 2) m).data.toList⟩, m + 1 - k) else none) := Hid.mk' (fun m hm => AY.out m ⟨⟨c1, c2⟩, by rw [← G1.out]; exact c3, by rw [← G2.out]; exact c4⟩ hm)
  clear AN G1 G2 c3 c4
  go_enter Tryd.func61, Tryd.ntmps61
  go_wp2_with (first | go_big_skip | (go_at_call 59; refine KE.out.mono ?_; rintro e w1 ⟨rfl, rfl⟩) | (go_at_call 31; refine KN.out.mono ?_; rintro e w1 ⟨rfl, rfl⟩))
  clear d3 d4 KE KN
  generalize hw0 : w.alloc (.cells #[.string ⟨#[]⟩, .slice none 0 0] 54) = w0 at *
  go_loopw [8] (fun i wr => ∃ m : Nat, k + n + 2 ≤ m ∧ m ≤ s.size ∧ i = .int .i64 m ∧ (∀ j, k + n + 2 ≤ j → j < m → pQ (s.data.toList.getD j 0) = true) ∧ wr = w0) (fun i _ => s.size - (intOf i).toNat)
  case atStart => exact ⟨k + n + 2, Nat.le_refl _, by omega, by simp, fun j h1 h2 => by omega, rfl⟩
  case round =>
    obtain ⟨m, h1, h2, rfl, hq, rfl⟩ := hrel
    have HQ := Hid.mk' hq
    clear hq
    subst hw0
    by_cases hlt : m < s.size
    · have cm : (m : Int) < (s.size : Int) := by omega
      have G : Hid ((s[m]'hlt).toNat = (s.data.toList.getD m 0).toNat) := Hid.mk' (get_list rfl m hlt)
      by_cases hc : (s[m]'hlt).toNat = 34
      · have d5 : (((s[m]'hlt).toNat : Int) != 34) = false := by simp; omega
        have E := Hid.mk' (AY.out m (spn_from h1 (by omega) HQ.out (fun _ => by unfold pQ; rw [← G.out]; simpa using hc)))
        rw [if_pos hlt] at E
        have ne : ¬ (m : Int) = (s.size : Int) := by omega
        have KD := Hid.mk' (fun w1 => l2Decode_any (s.extract (k + n + 2) m) w1 (by have := ext_size s (k + n + 2) m; omega))
        have wr1 : IntKind.i64.wrap ((m : Int) + 1) = (m : Int) + 1 := by rw [IntKind.wrap_i64]; omega
        have fz0 : (w.alloc (.cells #[.string ⟨#[]⟩, .slice none 0 0] 54)).frozen? ⟨w.heap.size, 0, none⟩ = false := by simp
        have fz1 : (w.alloc (.cells #[.string ⟨#[]⟩, .slice none 0 0] 54)).frozen? ⟨w.heap.size, 1, none⟩ = false := by simp
        have sz0 : (w.alloc (.cells #[.string ⟨#[]⟩, .slice none 0 0] 54)).heap.size = w.heap.size + 1 := by simp
        have i1 : (0 : Int) ≤ (k : Int) := by omega
        have i2 : (k : Int) ≤ (k : Int) + n := by omega
        have i3 : (k : Int) + n ≤ (s.size : Int) := by omega
        have i4 : (0 : Int) ≤ (k : Int) + n + 2 := by omega
        have i5 : (k : Int) + n + 2 ≤ (m : Int) := by omega
        have i6 : (m : Int) ≤ (s.size : Int) := by omega
        have i7 : ((k : Int) + n).toNat = k + n := by omega
        have i8 : ((k : Int) + n + 2).toNat = k + n + 2 := by omega
        clear AY G hc
        go_wp2_with go_big_skip
        go_region_held3 (fun w' => w'.frozen? ⟨w.heap.size, 0, none⟩ = false) (simp [*])
          ((go_at_call 78; refine (KD.out _).mono ?_; rintro e w3 ⟨v3, rfl, gr3⟩; have hbx := undrew gr3.bl; obtain ⟨hx1, hx2⟩ := bcell hbx; obtain ⟨a3, c3, rfl⟩ := own_shape gr3.own; have zz : w.heap.size < (w.alloc (.cells #[.string ⟨#[]⟩, .slice none 0 0] 54)).heap.size := (by omega); have zy := hbx.size; have zx : w.heap.size < w3.heap.size := (by omega)))
        have HB3 := Hid.mk' (HB.out.trans (hbx.mono (by omega)))
        have GR := Hid.mk' gr3.own
        have q0 : w3.cell? ⟨w.heap.size, 0, none⟩ = some (.string ⟨#[]⟩) := (hbx.cell (p := ⟨w.heap.size, 0, none⟩) zz).trans (by simp)
        have q1 : w3.cell? ⟨w.heap.size, 1, none⟩ = some (.slice none 0 0) := (hbx.cell (p := ⟨w.heap.size, 1, none⟩) zz).trans (by simp)
        clear hx1 hx2 gr3 hbx i1 i2 i3 i4 i5 i6 i7 i8
        go_wp2
        refine bodyPost_ret (v := .tuple #[.agg #[.string (s.extract k (k + n)), .slice a3 (decode (s.extract (k + n + 2) m).data.toList).length c3], .int .i64 ((m : Int) + 1)]) (by simp [results, Tryd.results61, go_sem, *]) rfl ?_
        unfold AttrP
        rw [E.out]
        refine ⟨⟨_, by rw [show k + (m + 1 - k) = m + 1 from by omega]; rfl, ?_⟩, (HB3.out.setCell (p := ⟨w.heap.size, 0, none⟩) (Nat.le_refl _) _).setCell (p := ⟨w.heap.size, 1, none⟩) (Nat.le_refl _) _⟩
        exact own_set (own_set GR.out (Nat.le_refl _) (p := ⟨w.heap.size, 0, none⟩) (by simp) _) (by simp) (p := ⟨w.heap.size, 1, none⟩) (by simp) _
      · have d5 : (((s[m]'hlt).toNat : Int) != 34) = true := by simp; omega
        have HC : Hid (pQ (s.data.toList.getD m 0) = true) := Hid.mk' (by unfold pQ; rw [← G.out]; simpa using hc)
        clear G hc
        go_wp2_with go_big_skip
        go_roundw
        case rel => exact ⟨m + 1, by omega, by omega, by go_num, fun j a b => by
          by_cases h : j = m
          · subst h; exact HC.out
          · exact HQ.out j a (by omega), by first | rfl | trivial⟩
        case measure => simp [intOf]; omega
    · have cm : ¬ (m : Int) < (s.size : Int) := by omega
      have em : m = s.size := by omega
      subst em
      have E := Hid.mk' (AY.out s.size (spn_from h1 (by omega) HQ.out (fun h => by omega)))
      rw [if_neg hlt] at E
      clear AY
      go_wp2_with go_big_skip
      exact bodyPost_ret (v := .tuple #[.agg #[.string ⟨#[]⟩, .slice none 0 0], .int .i64 (-1)]) (by simp [results, Tryd.results61, go_sem, *]) rfl (AttrP.no E.out HB.out)

end Go.Proofs.YtcjaldjlcnedeaaDoor
