/- The model's l4Start. -/
import Derived.Test.YtlaeomnacgjcgaaS14
set_option linter.unusedVariables false
set_option linter.unusedSimpArgs false
namespace Go.Proofs.Ytlaeomnacgjcgaa
open Go.RowKit

def TagP (r : Option TK) (w : World) (e : Ending) (w' : World) : Prop := ∃ (t : TK) (v : Value) (us : List Value) (ok : Bool), e = .returned (.tuple #[.agg #[.int .i64 t.kd, .int .i64 t.by_, .string t.nm, v, .bool t.sh], .bool ok]) ∧ OA w.heap.size w' v t.at_ us ∧ r = (if ok = true then some t else none) ∧ Below w.heap.size w w'

def startA (L : List UInt8) : Option TK :=
  if 1 ≤ spn pL (L.drop 1) ∧ spn pL (L.drop 1) ≤ 8 then
      (match insideA (L.length + 1) (L.drop (1 + spn pL (L.drop 1))) [] with
      | none => none
      | some (l, sh) => some ⟨2, 0, ⟨((L.drop 1).take (spn pL (L.drop 1))).toArray⟩, l, sh⟩)
    else none

theorem inside_end {f : Nat} {L : List UInt8} {k : Nat} {acc : List AT} (hb : pB (L.getD k 0) = false) : insideA (f + 1) (L.drop k) acc = (if (L.getD k 0).toNat = 47 then (if k + 1 + 1 = L.length ∧ (L.getD (k + 1) 0).toNat = 62 then some (acc, true) else none) else (if k + 1 = L.length ∧ (L.getD k 0).toNat = 62 then some (acc, false) else none)) := by
  have hz : spn pB (L.drop k) = 0 := spn_zero_of (by rw [getD_drop, Nat.add_zero]; exact hb)
  unfold insideA
  rw [hz]
  simp only [List.drop_drop, Nat.add_zero, getD_drop, Nat.zero_add, if_true, one_left]
  by_cases h47 : (L.getD k 0).toNat = 47
  · rw [if_pos h47, if_pos h47]
  · rw [if_neg h47, if_neg h47]
    by_cases h62 : (L.getD k 0).toNat = 62
    · rw [if_pos h62]
    · rw [if_neg h62, if_neg (fun h => h62 h.2)]

theorem inside_attr {f : Nat} {L : List UInt8} {acc : List AT} {b : Nat} (hs : spn pB L = b) (hb : 1 ≤ b) (hc : pL ((L.drop b).getD 0 0) = true) : insideA (f + 1) L acc = (match attrA (L.drop b) with
      | none => none
      | some (a, n) => insideA f (L.drop (b + n)) (addA acc a)) := by
  have h := (ltrB_iff _).1 hc
  unfold ltr at h
  conv => lhs; unfold insideA
  rw [hs, if_neg (by omega), if_neg (by omega), if_neg (by omega)]
  cases attrA (L.drop b) with
  | none => rfl
  | some p => rfl

theorem five_other (w : World) (g k : Nat) (x y z u v : Value) (h : k ≠ g) : (((((w.setCell ⟨g, 0, none⟩ x).setCell ⟨g, 1, none⟩ y).setCell ⟨g, 2, none⟩ z).setCell ⟨g, 3, none⟩ u).setCell ⟨g, 4, none⟩ v).heap[k]? = w.heap[k]? := by
  rw [Deep.blk_setCell_other _ _ _ _ h, Deep.blk_setCell_other _ _ _ _ h, Deep.blk_setCell_other _ _ _ _ h, Deep.blk_setCell_other _ _ _ _ h, Deep.blk_setCell_other _ _ _ _ h]
theorem five_below {B : Nat} {w w' : World} (h : Below B w w') (g : Nat) (x y z u v : Value) (hg : B ≤ g) : Below B w (((((w'.setCell ⟨g, 0, none⟩ x).setCell ⟨g, 1, none⟩ y).setCell ⟨g, 2, none⟩ z).setCell ⟨g, 3, none⟩ u).setCell ⟨g, 4, none⟩ v) :=
  ((((h.setCell (p := ⟨g, 0, none⟩) hg _).setCell (p := ⟨g, 1, none⟩) hg _).setCell (p := ⟨g, 2, none⟩) hg _).setCell (p := ⟨g, 3, none⟩) hg _).setCell (p := ⟨g, 4, none⟩) hg _

theorem drew_heap (w : World) (k : Nat) : w.drew.heap[k]? = w.heap[k]? := rfl
theorem fin_tag {r : Option TK} {w : World} {t : TK} {q : Nat} (W : World) (v : Value) (us : List Value) (ok : Bool) (ho : OA q W v t.at_ us) (hb : Below w.heap.size w W) (hq : w.heap.size < q) (hr : r = (if ok = true then some t else none)) : TagP r w (.returned (.tuple #[.agg #[.int .i64 t.kd, .int .i64 t.by_, .string t.nm, v, .bool t.sh], .bool ok])) (((((W.setCell ⟨w.heap.size, 0, none⟩ (.int .i64 t.kd)).setCell ⟨w.heap.size, 1, none⟩ (.int .i64 t.by_)).setCell ⟨w.heap.size, 2, none⟩ (.string t.nm)).setCell ⟨w.heap.size, 3, none⟩ v).setCell ⟨w.heap.size, 4, none⟩ (.bool t.sh)).drew :=
  ⟨t, v, us, ok, rfl, ho.keep (by omega) (fun k hk _ => (drew_heap _ k).trans (five_other W w.heap.size k _ _ _ _ _ (by omega))), hr, (five_below hb w.heap.size _ _ _ _ _ (Nat.le_refl _)).drew⟩

structure LS (L : List UInt8) (nm : ByteArray) (w : World) (q : Nat) (R : Option (List AT × Bool)) (m : Nat) (wr : World) (f : Nat) (acc : List AT) (v : Value) (us : List Value) : Prop where
  le : m ≤ L.length
  fu : L.length < m + f
  ins : insideA f (L.drop m) acc = R
  few : acc.length ≤ m
  box : wr.rowIs q 89 5 (r5 (.int .i64 2) (.int .i64 0) (.string nm) v (.bool false))
  res : wr.rowIs w.heap.size 89 5 (r5 (.int .i64 0) (.int .i64 0) (.string ⟨#[]⟩) (.slice none 0 0) (.bool false))
  own : OA (q + 1) wr v acc us
  bl : Below w.heap.size w wr
theorem LS.below {L : List UInt8} {nm : ByteArray} {w : World} {q : Nat} {R : Option (List AT × Bool)} {m : Nat} {wr wx : World} {f : Nat} {acc : List AT} {v : Value} {us : List Value} (h : LS L nm w q R m wr f acc v us) (hb : Below wr.heap.size wr wx) : LS L nm w q R m wx f acc v us :=
  ⟨h.le, h.fu, h.ins, h.few, rowB h.box hb, rowB h.res hb, h.own.below hb, h.bl.trans (hb.mono h.bl.size)⟩

set_option maxRecDepth 100000 in
set_option maxHeartbeats 6400000 in
theorem l4Start_any (s : ByteArray) (w : World) (hs : s.size ≤ 1000) (h1 : 1 ≤ s.size) :
    Calls Try.prog 84 #[.string s] w fun e w' => TagP (startA s.data.toList) w e w' := by
  have hl := len_list s
  generalize hn : spn pL (s.data.toList.drop 1) = n
  have nle : 1 + n ≤ s.size := by
    have := spn_le pL (s.data.toList.drop 1)
    rw [hn, List.length_drop] at this
    omega
  have NB : nmB (s.extract 1 (1 + n)) = (decide (1 ≤ n) && decide (n ≤ 8)) := by
    rw [← hn]; exact nmB_take _ _ (by rw [ext_list, hn, show 1 + n - 1 = n from by omega])
  have SA : Hid (startA s.data.toList = if 1 ≤ n ∧ n ≤ 8 then (match insideA (s.size + 1) (s.data.toList.drop (1 + n)) [] with | none => none | some (l, sh) => some ⟨2, 0, s.extract 1 (1 + n), l, sh⟩) else none) := Hid.mk' (by
    unfold startA
    rw [hn, hl, show (⟨((s.data.toList.drop 1).take n).toArray⟩ : ByteArray) = s.extract 1 (1 + n) from ba_ext (by rw [ext_list, show 1 + n - 1 = n from by omega])]
    try rfl)
  have KN := Hid.mk' (fun w1 => l4Name_any (s.extract 1 (1 + n)) w1 (by have := ext_size s 1 (1 + n); omega))
  have HN := Hid.mk' NB
  have RR := Hid.mk' (row5 w 89 (.int .i64 0) (.int .i64 0) (.string ⟨#[]⟩) (.slice none 0 0) (.bool false))
  have B0 := Hid.mk' ((Below.refl w.heap.size w).alloc (Nat.le_refl _) (.cells #[.int .i64 0, .int .i64 0, .string ⟨#[]⟩, .slice none 0 0, .bool false] 89))
  have sz0 : (w.alloc (.cells #[.int .i64 0, .int .i64 0, .string ⟨#[]⟩, .slice none 0 0, .bool false] 89)).heap.size = w.heap.size + 1 := by simp
  have KE := l4NameEnd_any s 1 (w.alloc (.cells #[.int .i64 0, .int .i64 0, .string ⟨#[]⟩, .slice none 0 0, .bool false] 89)) (by omega) h1
  rw [hn] at KE
  have KE := Hid.mk' KE
  clear NB hn
  generalize hw0 : w.alloc (.cells #[.int .i64 0, .int .i64 0, .string ⟨#[]⟩, .slice none 0 0, .bool false] 89) = w0 at *
  have i1 : (0 : Int) ≤ 1 := by omega
  have i2 : (1 : Int) ≤ 1 + (n : Int) := by omega
  have i3 : 1 + (n : Int) ≤ (s.size : Int) := by omega
  have i4 : (1 + (n : Int)).toNat = 1 + n := by omega
  go_enter Try.func84, Try.ntmps84
  go_wp2_with fail
  clear hw0
  refine KE.out.mono ?_
  rintro e w1 ⟨rfl, rfl⟩
  clear KE
  go_wp2
  have RB := row5 w1 89 (.int .i64 2) (.int .i64 0) (.string (s.extract 1 (1 + n))) (.slice none 0 0) (.bool false)
  have N1 := below_new w1 (.cells #[.int .i64 2, .int .i64 0, .string (s.extract 1 (1 + n)), .slice none 0 0, .bool false] 89)
  have ST : Hid (LS s.data.toList (s.extract 1 (1 + n)) w w1.heap.size (insideA (s.size + 1) (s.data.toList.drop (1 + n)) []) (1 + n) (w1.alloc (.cells #[.int .i64 2, .int .i64 0, .string (s.extract 1 (1 + n)), .slice none 0 0, .bool false] 89)) (s.size + 1) [] (.slice none 0 0) []) := Hid.mk'
    ⟨by omega, by omega, rfl, Nat.zero_le _, RB, rowB RR.out N1, OA.nil _ _, B0.out.trans (N1.mono (by omega))⟩
  generalize hq : w1.heap.size = q at *
  generalize hR : insideA (s.size + 1) (s.data.toList.drop (1 + n)) [] = R at *
  clear RB N1 RR B0 hR
  generalize w1.alloc (.cells #[.int .i64 2, .int .i64 0, .string (s.extract 1 (1 + n)), .slice none 0 0, .bool false] 89) = W at *
  clear hq
  subst sz0
  go_loopw [4] (fun i wr => ∃ (m f : Nat) (acc : List AT) (v : Value) (us : List Value), i = .int .i64 m ∧ LS s.data.toList (s.extract 1 (1 + n)) w (w.heap.size + 1) R m wr f acc v us) (fun i _ => s.size - (intOf i).toNat)
  case atStart => exact ⟨1 + n, s.size + 1, [], _, [], by simp, ST.out⟩
  case round =>
    obtain ⟨m, f, acc, v, us, rfl, hLS⟩ := hrel
    clear ST
    have HL := Hid.mk' hLS
    have le := hLS.le
    rw [hl] at le
    obtain ⟨f, rfl⟩ : ∃ f', f = f' + 1 := ⟨f - 1, by have := hLS.fu; omega⟩
    clear hLS
    by_cases hlt : m < s.size
    · have cm : (m : Int) < (s.size : Int) := by omega
      have G : Hid ((s[m]'hlt).toNat = (s.data.toList.getD m 0).toNat) := Hid.mk' (get_list rfl m hlt)
      by_cases hc : (s[m]'hlt).toNat = 32
      · have hc' : ((s[m]'hlt).toNat : Int) = 32 := by omega
        generalize hb : spn pB (s.data.toList.drop m) = b
        have bge : 1 ≤ b := by
          rw [← hb, drop_cons _ m (by omega)]
          unfold spn
          rw [if_pos (by unfold pB; rw [← G.out]; simpa using hc)]; omega
        have ble : m + b ≤ s.size := by
          have := spn_le pB (s.data.toList.drop m)
          rw [hb, List.length_drop] at this
          omega
        have KB := l4Blanks_any s m wr (by omega) (by omega)
        rw [hb] at KB
        have KB := Hid.mk' KB
        have SP := Hid.mk' hb
        clear hc hb G
        by_cases hx : m + b < s.size
        · have cx : (m : Int) + b < (s.size : Int) := by omega
          have G : Hid ((s[m + b]'hx).toNat = (s.data.toList.getD (m + b) 0).toNat) := Hid.mk' (get_list rfl (m + b) hx)
          have KL := letter_any (s[m + b]'hx).toNat wr
          cases hlt2 : ltrB (s[m + b]'hx).toNat with
          | true =>
            rw [hlt2] at KL
            have KL := Hid.mk' KL
            have HC : Hid (pL (s.data.toList.getD (m + b) 0) = true) := Hid.mk' (by unfold pL; rw [← G.out]; exact hlt2)
            clear hlt2 G
            have IA := inside_attr (f := f) (acc := acc) SP.out bge (by rw [List.drop_drop, getD_drop, Nat.add_zero]; exact HC.out)
            rw [HL.out.ins, List.drop_drop] at IA
            have KA := l4Attr_any s (m + b) wr hs (by omega)
            cases hA : attrA (s.data.toList.drop (m + b)) with
            | none =>
              rw [hA] at IA KA
              have KA : Hid (Calls Try.prog 88 #[.string s, .int .i64 ((m + b : Nat) : Int)] wr fun e w' => e = .returned (.tuple #[.agg #[.string ⟨#[]⟩, .slice none 0 0], .int .i64 (-1)]) ∧ Below wr.heap.size wr w') := Hid.mk' KA
              have E : Hid (startA s.data.toList = none) := Hid.mk' (by rw [SA.out, IA]; split <;> rfl)
              clear IA hA
              go_wp2_with (first | go_big_skip | (go_at_call 87; refine KB.out.mono ?_; rintro e w1 ⟨rfl, hw⟩; obtain rfl := hw.symm) | (go_at_call 61; refine KL.out.mono ?_; rintro e w1 ⟨rfl, hw⟩; obtain rfl := hw.symm) | fail)
              refine KA.out.mono ?_
              rintro e w2 ⟨rfl, hb2⟩
              have L2 := HL.out.below hb2
              obtain ⟨av, cv, rfl, _⟩ := L2.own.at
              obtain ⟨c0, c1, c2, c3, c4, c5⟩ := cells5 L2.box
              obtain ⟨d0, d1, d2, d3, d4, d5⟩ := cells5 L2.res
              have f0 := L2.res.frozen 0
              have f1 := L2.res.frozen 1
              have f2 := L2.res.frozen 2
              have f3 := L2.res.frozen 3
              have f4 := L2.res.frozen 4
              have LL := Hid.mk' L2
              clear L2 hb2 KA KB KL HL
              go_wp2
              have OF := Hid.mk' (OA.keep LL.out.own (lo' := w.heap.size) (w' := ((((((w2.setCell ⟨w.heap.size, 0, none⟩ (.int .i64 2)).setCell ⟨w.heap.size, 1, none⟩ (.int .i64 0)).setCell ⟨w.heap.size, 2, none⟩ (.string (s.extract 1 (1 + n)))).setCell ⟨w.heap.size, 3, none⟩ (.slice av acc.length cv)).setCell ⟨w.heap.size, 4, none⟩ (.bool false)).alloc (.cells #[.string ⟨#[]⟩, .slice none 0 0] 97))) (by omega) (fun k hk hl => by rw [Deep.blk_alloc_lt _ _ _ (by simpa using hl)]; exact five_other w2 w.heap.size k _ _ _ _ _ (by omega)))
              refine bodyPost_ret (v := .tuple #[.agg #[.int .i64 2, .int .i64 0, .string (s.extract 1 (1 + n)), .slice av acc.length cv, .bool false], .bool false]) (by simp [results, Try.results84, go_sem, *]) rfl ⟨⟨2, 0, s.extract 1 (1 + n), acc, false⟩, _, us, false, rfl, OF.out, by rw [E.out]; rfl, (five_below LL.out.bl w.heap.size _ _ _ _ _ (Nat.le_refl _)).alloc (by simpa using LL.out.bl.size) _⟩
            | some r =>
              obtain ⟨at1, k2⟩ := r
              rw [hA] at IA KA
              have IA : R = insideA f (s.data.toList.drop (m + (b + k2))) (addA acc at1) := by rw [IA]; show insideA f (List.drop (b + k2) (List.drop m _)) _ = _; rw [List.drop_drop]
              have KA : Hid (Calls Try.prog 88 #[.string s, .int .i64 ((m + b : Nat) : Int)] wr fun e w' => (∃ u, e = .returned (.tuple #[.agg #[.string at1.nm, u], .int .i64 ((m + b + k2 : Nat) : Int)]) ∧ w'.ownsRow wr.heap.size 5 1 u at1.vl.length (bcs at1.vl)) ∧ Below wr.heap.size wr w') := Hid.mk' KA
              obtain ⟨k3, kle, nm8, szl⟩ := attrA_len hA
              rw [List.length_drop, hl] at kle szl
              have IE := Hid.mk' IA
              clear IA hA
              go_wp2_with (first | go_big_skip | (go_at_call 87; refine KB.out.mono ?_; rintro e w1 ⟨rfl, hw⟩; obtain rfl := hw.symm) | (go_at_call 61; refine KL.out.mono ?_; rintro e w1 ⟨rfl, hw⟩; obtain rfl := hw.symm) | fail)
              refine KA.out.mono ?_
              rintro e w2 ⟨⟨u, rfl, hu⟩, hb2⟩
              obtain ⟨au, cu, rfl⟩ := own_shape hu
              have N2 := below_new w2 (.cells #[.string at1.nm, .slice au at1.vl.length cu] 97)
              have M2 := hb2.trans (N2.mono hb2.size)
              have L2 := HL.out.below M2
              have AR := Hid.mk' (rowp2 w2 97 (.string at1.nm) (.slice au at1.vl.length cu))
              have HU := Hid.mk' (own_of hu (Nat.le_refl _) (fun k e _ => N2.block k (hu.lt k e).2))
              obtain ⟨av, cv, rfl, hAA⟩ := L2.own.at
              have KH := Hid.mk' (l4Has_any av cv acc at1.nm _ hAA (by have := L2.few; omega))
              obtain ⟨c0, c1, c2, c3, c4, c5⟩ := cells5 L2.box
              have fc3 := L2.box.frozen 3
              have LL := Hid.mk' L2
              have sz2 : wr.heap.size ≤ w2.heap.size := hb2.size
              have HM := Hid.mk' M2
              clear L2 hb2 KA KB KL hAA N2 M2 hu
              generalize hW2 : w2.alloc (.cells #[.string at1.nm, .slice au at1.vl.length cu] 97) = W2 at *
              have sW : w2.heap.size < W2.heap.size := by rw [← hW2]; simp
              obtain ⟨g0, g1, g2⟩ := cells2 AR.out
              by_cases hp : 0 ≤ posK acc at1.nm
              · have np : ¬ posK acc at1.nm < 0 := by omega
                have E : Hid (addA acc at1 = acc) := Hid.mk' (by unfold addA; rw [if_pos hp])
                go_wp2_with fail
                clear hW2
                refine KH.out.mono ?_
                rintro e w3 ⟨rfl, hw⟩
                obtain rfl := hw.symm
                go_wp2
                go_roundw
                case rel => exact ⟨m + b + k2, f, acc, _, us, by first | rfl | simp, ⟨by omega, by have := HL.out.fu; omega, by rw [IE.out, E.out, show m + (b + k2) = m + b + k2 from by omega], by have := LL.out.few; omega, LL.out.box, LL.out.res, LL.out.own, LL.out.bl⟩⟩
                case measure => simp [intOf]; omega
              · have np : posK acc at1.nm < 0 := by omega
                have E : Hid (addA acc at1 = acc ++ [at1]) := Hid.mk' (by unfold addA; rw [if_neg hp])
                have few := LL.out.few
                go_wp2_with fail
                clear hW2
                refine KH.out.mono ?_
                rintro e w3 ⟨rfl, hw⟩
                obtain rfl := hw.symm
                have sq : w.heap.size + 1 + 1 ≤ W2.heap.size := by omega
                have NN := below_new W2 (.cells #[.string at1.nm, .slice au at1.vl.length cu] 97)
                have OWN := Hid.mk' (LL.out.own.below NN)
                have BN := Hid.mk' NN
                clear NN
                go_wp2_with (at_builtin; refine wpList_append_at _ rfl (.tmp 54) (.tmp 56) 42 rfl (w.heap.size + 1 + 1) 97 (.agg #[.string ⟨#[]⟩, .slice none 0 0]) 2 40 Try.underlying42 Try.info97 rfl (by decide) _ _ _ rfl OWN.out.row _ 1 _ [.string at1.nm, .slice au at1.vl.length cu] rfl rfl (.inr ⟨_, rfl, one_attr W2 _ _ _ _ rfl⟩) (by simp [Value.oneCell']) (by unfold maxLen; omega) (by omega) (by simp; omega) ?_; intro v' w4 ho hgr hat; obtain ⟨a4, q4, rfl⟩ := own_shape ho; have hx4 := grown_cells (B := w.heap.size + 1 + 1) hgr (own_lo OWN.out.row) (by simp; omega); have hy4 := grown_frozen (B := w.heap.size + 1 + 1) hgr (own_lo OWN.out.row) (by simp; omega); have y4 := hgr.size; simp at y4; have j4 : w.heap.size + 1 < w4.heap.size := (by omega))
                have swr : w.heap.size + 1 + 1 ≤ wr.heap.size := HL.out.box.lt
                have hrow : ∀ k, (Value.slice av acc.length cv).ownBlock = some k → w.heap.size + 1 + 1 ≤ k := own_lo OWN.out.row
                have szN := BN.out.size
                have b4 : ∀ k, k < w.heap.size + 1 + 1 → w4.heap[k]? = W2.heap[k]? := fun k hk => by
                  rw [hgr.block k (by omega) (fun e => by have := hrow k e.symm; omega), BN.out.block k (by omega)]
                have OA4 := HL.out.own.app (HM.out.trans (BN.out.mono HM.out.size)) ((OB.of_own HU.out).1.below BN.out) swr (fun k e => (HU.out.lt k e).1) ho hgr hat
                have L4 : Hid (LS s.data.toList (s.extract 1 (1 + n)) w (w.heap.size + 1) R (m + b + k2) (w4.setCell ⟨w.heap.size + 1, 3, none⟩ (.slice a4 (acc.length + 1) q4)) f (acc ++ [at1]) (.slice a4 (acc.length + 1) q4) (us ++ [.slice au at1.vl.length cu])) := Hid.mk'
                  ⟨by omega, by have := HL.out.fu; omega, by rw [IE.out, E.out, show m + (b + k2) = m + b + k2 from by omega], by rw [List.length_append]; simp; omega,
                    ((LL.out.box.of_block (b4 _ (by omega))).set 3 _).congr (fun j hj => by
                      by_cases h : j = 3
                      · subst h; rfl
                      · rw [if_neg h]; unfold r5; rw [if_neg h]; simp [h]),
                    (LL.out.res.of_block (b4 _ (by omega))).setOther (a := ⟨w.heap.size + 1, 3, none⟩) (by simp) _,
                    OA4.keep (Nat.le_refl _) (fun k hk _ => Deep.blk_setCell_other _ _ _ _ (by simp; omega)),
                    ((LL.out.bl.trans (BN.out.mono LL.out.bl.size)).grown hgr (by omega) (fun k e => by have := hrow k e; omega)).setCell (p := ⟨w.heap.size + 1, 3, none⟩) (by simp) _⟩
                exact ⟨⟨m + b + k2, f, acc ++ [at1], _, us ++ [.slice au at1.vl.length cu], by simp, L4.out⟩, by simp [intOf]; omega⟩
          | false =>
            rw [hlt2] at KL
            have KL := Hid.mk' KL
            have L2 : Hid (LS s.data.toList (s.extract 1 (1 + n)) w (w.heap.size + 1) R (m + b) wr (f + 1) acc v us) := Hid.mk' ⟨by omega, by have := HL.out.fu; omega, by
              rw [← HL.out.ins, ← List.drop_drop, ← SP.out]; exact inside_blank (by rw [List.drop_drop, getD_drop, Nat.add_zero, SP.out]; unfold pL; rw [← G.out]; exact hlt2), by have := HL.out.few; omega, HL.out.box, HL.out.res, HL.out.own, HL.out.bl⟩
            clear hlt2 G
            go_wp2_with (first | go_big_skip | (go_at_call 87; refine KB.out.mono ?_; rintro e w1 ⟨rfl, rfl⟩) | (go_at_call 61; refine KL.out.mono ?_; rintro e w1 ⟨rfl, rfl⟩))
            go_roundw
            case rel => exact ⟨m + b, f + 1, acc, v, us, by simp, L2.out⟩
            case measure => simp [intOf]; omega
        · have cx : ¬ (m : Int) + b < (s.size : Int) := by omega
          have L2 : Hid (LS s.data.toList (s.extract 1 (1 + n)) w (w.heap.size + 1) R (m + b) wr (f + 1) acc v us) := Hid.mk' ⟨by omega, by have := HL.out.fu; omega, by
            rw [← HL.out.ins, ← List.drop_drop, ← SP.out]; exact inside_blank (by rw [List.drop_drop, getD_drop, Nat.add_zero, SP.out]; rw [show s.data.toList.getD (m + b) 0 = 0 from by simp [List.getD_eq_getElem?_getD, List.getElem?_eq_none (show s.data.toList.length ≤ m + b by omega)]]; rfl), by have := HL.out.few; omega, HL.out.box, HL.out.res, HL.out.own, HL.out.bl⟩
          go_wp2_with (first | go_big_skip | (go_at_call 87; refine KB.out.mono ?_; rintro e w1 ⟨rfl, rfl⟩))
          go_roundw
          case rel => exact ⟨m + b, f + 1, acc, v, us, by simp, L2.out⟩
          case measure => simp [intOf]; omega
      · have hc' : ¬ ((s[m]'hlt).toNat : Int) = 32 := by omega
        have IE := inside_end (f := f) (acc := acc) (L := s.data.toList) (k := m) (by unfold pB; rw [← G.out]; simpa using hc)
        rw [HL.out.ins, ← G.out, hl] at IE
        have wr1 : IntKind.i64.wrap ((s.size : Int) - 1) = (s.size : Int) - 1 := by rw [IntKind.wrap_i64]; omega
        obtain ⟨av, cv, rfl, _⟩ := HL.out.own.at
        obtain ⟨c0, c1, c2, c3, c4, c5⟩ := cells5 HL.out.box
        obtain ⟨d0, d1, d2, d3, d4, d5⟩ := cells5 HL.out.res
        have f0 := HL.out.res.frozen 0
        have f1 := HL.out.res.frozen 1
        have f2 := HL.out.res.frozen 2
        have f3 := HL.out.res.frozen 3
        have f4 := HL.out.res.frozen 4
        have fb := HL.out.box.frozen 4
        by_cases h47 : (s[m]'hlt).toNat = 47
        · rw [if_pos h47] at IE
          have z47 : ((s[m]'hlt).toNat : Int) = 47 := by omega
          have z47' : (((s[m]'hlt).toNat : Int) == 47) = true := by simpa using z47
          have IE : R = if m + 1 + 1 = s.size ∧ (s.data.toList.getD (m + 1) 0).toNat = 62 then some (acc, true) else none := IE
          have BX : Hid ((wr.setCell ⟨w.heap.size + 1, 4, none⟩ (.bool true)).rowIs (w.heap.size + 1) 89 5 (r5 (.int .i64 2) (.int .i64 0) (.string (s.extract 1 (1 + n))) (.slice av acc.length cv) (.bool true))) := Hid.mk' ((HL.out.box.set 4 (.bool true)).congr (fun j hj => by
            by_cases h : j = 4
            · subst h; rfl
            · rw [if_neg h]; unfold r5; split; rfl; split; rfl; split; rfl; split; rfl; omega))
          have RS := Hid.mk' (HL.out.res.setOther (a := ⟨w.heap.size + 1, 4, none⟩) (by simp) (.bool true))
          have OW := Hid.mk' (HL.out.own.keep (w' := wr.setCell ⟨w.heap.size + 1, 4, none⟩ (.bool true)) (Nat.le_refl _) (fun k hk _ => Deep.blk_setCell_other _ _ _ _ (by simp; omega)))
          have BW := Hid.mk' (HL.out.bl.setCell (p := ⟨w.heap.size + 1, 4, none⟩) (by simp) (.bool true))
          clear hc h47 G
          by_cases hnm : 1 ≤ n ∧ n ≤ 8
          rotate_left
          · have E : Hid (startA s.data.toList = none) := Hid.mk' (by rw [SA.out, if_neg hnm])
            have KV : Hid (∀ w1, Calls Try.prog 55 #[.string (s.extract 1 (1 + n))] w1 fun e w' => e = .returned (.bool false) ∧ w' = w1) := Hid.mk' (fun w1 => by have := KN.out w1; rw [HN.out, show (decide (1 ≤ n) && decide (n ≤ 8)) = false from by simp; omega] at this; exact this)
            clear IE KN HN
            go_wp2_with go_big_skip
            clear c0 c1 c2 c3 c4 c5 d0 d1 d2 d3 d4 d5 f0 f1 f2 f3 f4 fb
            generalize wr.setCell ⟨w.heap.size + 1, 4, none⟩ (.bool true) = w5 at *
            obtain ⟨c0, c1, c2, c3, c4, c5⟩ := cells5 BX.out
            obtain ⟨d0, d1, d2, d3, d4, d5⟩ := cells5 RS.out
            have f0 := RS.out.frozen 0
            have f1 := RS.out.frozen 1
            have f2 := RS.out.frozen 2
            have f3 := RS.out.frozen 3
            have f4 := RS.out.frozen 4
            refine wp_region_held_drew (S := (fun w' => w'.cell? ⟨w.heap.size + 1, 0, none⟩ = some (.int .i64 2) ∧ w'.cell? ⟨w.heap.size + 1, 1, none⟩ = some (.int .i64 0) ∧ w'.cell? ⟨w.heap.size + 1, 2, none⟩ = some (.string (s.extract 1 (1 + n))) ∧ w'.cell? ⟨w.heap.size + 1, 3, none⟩ = some (.slice av acc.length cv) ∧ w'.cell? ⟨w.heap.size + 1, 4, none⟩ = some (.bool true))) (by kernel_rfl) (by simp [*]) (fun hHeld => ?_)
            refine tkY 0 ?_
            refine tkY 1 ?_
            refine tkY 2 ?_
            refine wpAnyH_ready (rs := [3]) (by kernel_rfl) (by simp) ?_
            refine AllReadyH.cons (o := ⟨_, _, _, _, _, _⟩) rfl (fun K hK => ?_) AllReadyH.nil
            go_simp
            go_at_call 55; refine (KV.out _).mono ?_; rintro e w6 ⟨rfl, hw⟩; obtain rfl := hw.symm
            refine hK.out _ _ (by (try dsimp only); simp [*]) (fun hHeld => ?_)
            clear hK K
            try clear hx hy
            try simp only [Act.put, zA, zB, zC]
            refine tkY 4 ?_
            refine tkU 5 ?_
            refine tkU 6 ?_
            refine tkU 7 ?_
            refine tkU 8 ?_
            refine tkU 9 ?_
            refine tkY 10 ?_
            refine tkY 11 ?_
            refine tkU 12 ?_
            refine tkU 13 ?_
            refine tkU 14 ?_
            refine tkU 15 ?_
            refine tkY 16 ?_
            refine wpAnyH_ready (rs := [17]) (by kernel_rfl) (by simp) ?_
            refine AllReadyH.cons (o := ⟨_, _, _, _, _, _⟩) rfl (fun K hK => ?_) AllReadyH.nil
            go_simp
            skip
            refine hK.out _ _ (by (try dsimp only); simp [go_sem, c0, c1, c2, c3, c4]) (fun hHeld => ?_)
            clear hK K
            try clear hx hy
            try simp only [Act.put, zA, zB, zC]
            refine tkY 18 ?_
            refine wpAnyH_done (by kernel_rfl) ?_ _
            go_wp2
            refine bodyPost_ret (v := .tuple #[.agg #[.int .i64 2, .int .i64 0, .string (s.extract 1 (1 + n)), .slice av acc.length cv, .bool true], .bool false]) ?_ rfl ?_
            · simp [results, Try.results84, go_sem, d0, d1, d2, d3, d4, d5]
            · exact fin_tag (t := ⟨2, 0, s.extract 1 (1 + n), acc, true⟩) w5 _ us false OW.out BW.out (by omega) (by rw [E.out]; rfl)
          have KV : Hid (∀ w1, Calls Try.prog 55 #[.string (s.extract 1 (1 + n))] w1 fun e w' => e = .returned (.bool true) ∧ w' = w1) := Hid.mk' (fun w1 => by have := KN.out w1; rw [HN.out, show (decide (1 ≤ n) && decide (n ≤ 8)) = true from by simp; omega] at this; exact this)
          clear KN HN
          by_cases hP : m + 1 + 1 = s.size
          rotate_left
          · have E : Hid (startA s.data.toList = none) := Hid.mk' (by rw [SA.out, if_pos hnm, IE, if_neg (fun h => hP h.1)])
            have e1 : (((m : Int) + 1) == (s.size : Int) - 1) = false := by simp; omega
            clear IE
            go_wp2_with go_big_skip
            clear c0 c1 c2 c3 c4 c5 d0 d1 d2 d3 d4 d5 f0 f1 f2 f3 f4 fb
            generalize wr.setCell ⟨w.heap.size + 1, 4, none⟩ (.bool true) = w5 at *
            obtain ⟨c0, c1, c2, c3, c4, c5⟩ := cells5 BX.out
            obtain ⟨d0, d1, d2, d3, d4, d5⟩ := cells5 RS.out
            have f0 := RS.out.frozen 0
            have f1 := RS.out.frozen 1
            have f2 := RS.out.frozen 2
            have f3 := RS.out.frozen 3
            have f4 := RS.out.frozen 4
            refine wp_region_held_drew (S := (fun w' => w'.cell? ⟨w.heap.size + 1, 0, none⟩ = some (.int .i64 2) ∧ w'.cell? ⟨w.heap.size + 1, 1, none⟩ = some (.int .i64 0) ∧ w'.cell? ⟨w.heap.size + 1, 2, none⟩ = some (.string (s.extract 1 (1 + n))) ∧ w'.cell? ⟨w.heap.size + 1, 3, none⟩ = some (.slice av acc.length cv) ∧ w'.cell? ⟨w.heap.size + 1, 4, none⟩ = some (.bool true))) (by kernel_rfl) (by simp [*]) (fun hHeld => ?_)
            refine tkY 0 ?_
            refine tkY 1 ?_
            refine tkY 2 ?_
            refine wpAnyH_ready (rs := [3]) (by kernel_rfl) (by simp) ?_
            refine AllReadyH.cons (o := ⟨_, _, _, _, _, _⟩) rfl (fun K hK => ?_) AllReadyH.nil
            go_simp
            go_at_call 55; refine (KV.out _).mono ?_; rintro e w6 ⟨rfl, hw⟩; obtain rfl := hw.symm
            refine hK.out _ _ (by (try dsimp only); simp [*]) (fun hHeld => ?_)
            clear hK K
            try clear hx hy
            try simp only [Act.put, zA, zB, zC]
            refine tkY 4 ?_
            refine tkY 5 ?_
            refine tkY 6 ?_
            refine tkY 7 ?_
            refine tkY 8 ?_
            refine tkY 9 ?_
            refine tkY 10 ?_
            refine tkY 11 ?_
            refine tkU 12 ?_
            refine tkU 13 ?_
            refine tkU 14 ?_
            refine tkU 15 ?_
            refine tkY 16 ?_
            refine wpAnyH_ready (rs := [17]) (by kernel_rfl) (by simp) ?_
            refine AllReadyH.cons (o := ⟨_, _, _, _, _, _⟩) rfl (fun K hK => ?_) AllReadyH.nil
            go_simp
            skip
            refine hK.out _ _ (by (try dsimp only); simp [go_sem, c0, c1, c2, c3, c4]) (fun hHeld => ?_)
            clear hK K
            try clear hx hy
            try simp only [Act.put, zA, zB, zC]
            refine tkY 18 ?_
            refine wpAnyH_done (by kernel_rfl) ?_ _
            go_wp2
            refine bodyPost_ret (v := .tuple #[.agg #[.int .i64 2, .int .i64 0, .string (s.extract 1 (1 + n)), .slice av acc.length cv, .bool true], .bool false]) ?_ rfl ?_
            · simp [results, Try.results84, go_sem, d0, d1, d2, d3, d4, d5]
            · exact fin_tag (t := ⟨2, 0, s.extract 1 (1 + n), acc, true⟩) w5 _ us false OW.out BW.out (by omega) (by rw [E.out]; rfl)
          have hPl : m + 1 < s.size := by omega
          have e1 : (((m : Int) + 1) == (s.size : Int) - 1) = true := by simp; omega
          have GP : Hid ((s[m + 1]'hPl).toNat = (s.data.toList.getD (m + 1) 0).toNat) := Hid.mk' (get_list rfl (m + 1) hPl)
          have cP : ((m : Int) + 1) < (s.size : Int) := by omega
          have cP0 : (0 : Int) ≤ ((m : Int) + 1) := by omega
          have cPn : ((m : Int) + 1).toNat = m + 1 := by omega
          by_cases h62 : (s[m + 1]'hPl).toNat = 62
          · have E : Hid (startA s.data.toList = some ⟨2, 0, s.extract 1 (1 + n), acc, true⟩) := Hid.mk' (by rw [SA.out, if_pos hnm, IE, if_pos ⟨hP, by rw [← GP.out]; exact h62⟩])
            have e2 : (((s[m + 1]'hPl).toNat : Int) == 62) = true := by simp; omega
            clear IE GP h62
            go_wp2_with go_big_skip
            clear c0 c1 c2 c3 c4 c5 d0 d1 d2 d3 d4 d5 f0 f1 f2 f3 f4 fb
            generalize wr.setCell ⟨w.heap.size + 1, 4, none⟩ (.bool true) = w5 at *
            obtain ⟨c0, c1, c2, c3, c4, c5⟩ := cells5 BX.out
            obtain ⟨d0, d1, d2, d3, d4, d5⟩ := cells5 RS.out
            have f0 := RS.out.frozen 0
            have f1 := RS.out.frozen 1
            have f2 := RS.out.frozen 2
            have f3 := RS.out.frozen 3
            have f4 := RS.out.frozen 4
            refine wp_region_held_drew (S := (fun w' => w'.cell? ⟨w.heap.size + 1, 0, none⟩ = some (.int .i64 2) ∧ w'.cell? ⟨w.heap.size + 1, 1, none⟩ = some (.int .i64 0) ∧ w'.cell? ⟨w.heap.size + 1, 2, none⟩ = some (.string (s.extract 1 (1 + n))) ∧ w'.cell? ⟨w.heap.size + 1, 3, none⟩ = some (.slice av acc.length cv) ∧ w'.cell? ⟨w.heap.size + 1, 4, none⟩ = some (.bool true))) (by kernel_rfl) (by simp [*]) (fun hHeld => ?_)
            refine tkY 0 ?_
            refine tkY 1 ?_
            refine tkY 2 ?_
            refine wpAnyH_ready (rs := [3]) (by kernel_rfl) (by simp) ?_
            refine AllReadyH.cons (o := ⟨_, _, _, _, _, _⟩) rfl (fun K hK => ?_) AllReadyH.nil
            go_simp
            go_at_call 55; refine (KV.out _).mono ?_; rintro e w6 ⟨rfl, hw⟩; obtain rfl := hw.symm
            refine hK.out _ _ (by (try dsimp only); simp [*]) (fun hHeld => ?_)
            clear hK K
            try clear hx hy
            try simp only [Act.put, zA, zB, zC]
            refine tkY 4 ?_
            refine tkY 5 ?_
            refine tkY 6 ?_
            refine tkY 7 ?_
            refine tkY 8 ?_
            refine tkY 9 ?_
            refine tkY 10 ?_
            refine tkY 11 ?_
            refine tkY 12 ?_
            refine tkY 13 ?_
            refine tkY 14 ?_
            refine tkY 15 ?_
            refine tkY 16 ?_
            refine wpAnyH_ready (rs := [17]) (by kernel_rfl) (by simp) ?_
            refine AllReadyH.cons (o := ⟨_, _, _, _, _, _⟩) rfl (fun K hK => ?_) AllReadyH.nil
            go_simp
            skip
            refine hK.out _ _ (by (try dsimp only); simp [go_sem, c0, c1, c2, c3, c4]) (fun hHeld => ?_)
            clear hK K
            try clear hx hy
            try simp only [Act.put, zA, zB, zC]
            refine tkY 18 ?_
            refine wpAnyH_done (by kernel_rfl) ?_ _
            go_wp2
            refine bodyPost_ret (v := .tuple #[.agg #[.int .i64 2, .int .i64 0, .string (s.extract 1 (1 + n)), .slice av acc.length cv, .bool true], .bool true]) ?_ rfl ?_
            · simp [results, Try.results84, go_sem, d0, d1, d2, d3, d4, d5]
            · exact fin_tag (t := ⟨2, 0, s.extract 1 (1 + n), acc, true⟩) w5 _ us true OW.out BW.out (by omega) (by rw [E.out]; rfl)
          · have E : Hid (startA s.data.toList = none) := Hid.mk' (by rw [SA.out, if_pos hnm, IE, if_neg (fun h => h62 (by rw [GP.out]; exact h.2))])
            have e2 : (((s[m + 1]'hPl).toNat : Int) == 62) = false := by simp; omega
            clear IE GP h62
            go_wp2_with go_big_skip
            clear c0 c1 c2 c3 c4 c5 d0 d1 d2 d3 d4 d5 f0 f1 f2 f3 f4 fb
            generalize wr.setCell ⟨w.heap.size + 1, 4, none⟩ (.bool true) = w5 at *
            obtain ⟨c0, c1, c2, c3, c4, c5⟩ := cells5 BX.out
            obtain ⟨d0, d1, d2, d3, d4, d5⟩ := cells5 RS.out
            have f0 := RS.out.frozen 0
            have f1 := RS.out.frozen 1
            have f2 := RS.out.frozen 2
            have f3 := RS.out.frozen 3
            have f4 := RS.out.frozen 4
            refine wp_region_held_drew (S := (fun w' => w'.cell? ⟨w.heap.size + 1, 0, none⟩ = some (.int .i64 2) ∧ w'.cell? ⟨w.heap.size + 1, 1, none⟩ = some (.int .i64 0) ∧ w'.cell? ⟨w.heap.size + 1, 2, none⟩ = some (.string (s.extract 1 (1 + n))) ∧ w'.cell? ⟨w.heap.size + 1, 3, none⟩ = some (.slice av acc.length cv) ∧ w'.cell? ⟨w.heap.size + 1, 4, none⟩ = some (.bool true))) (by kernel_rfl) (by simp [*]) (fun hHeld => ?_)
            refine tkY 0 ?_
            refine tkY 1 ?_
            refine tkY 2 ?_
            refine wpAnyH_ready (rs := [3]) (by kernel_rfl) (by simp) ?_
            refine AllReadyH.cons (o := ⟨_, _, _, _, _, _⟩) rfl (fun K hK => ?_) AllReadyH.nil
            go_simp
            go_at_call 55; refine (KV.out _).mono ?_; rintro e w6 ⟨rfl, hw⟩; obtain rfl := hw.symm
            refine hK.out _ _ (by (try dsimp only); simp [*]) (fun hHeld => ?_)
            clear hK K
            try clear hx hy
            try simp only [Act.put, zA, zB, zC]
            refine tkY 4 ?_
            refine tkY 5 ?_
            refine tkY 6 ?_
            refine tkY 7 ?_
            refine tkY 8 ?_
            refine tkY 9 ?_
            refine tkY 10 ?_
            refine tkY 11 ?_
            refine tkY 12 ?_
            refine tkY 13 ?_
            refine tkY 14 ?_
            refine tkY 15 ?_
            refine tkY 16 ?_
            refine wpAnyH_ready (rs := [17]) (by kernel_rfl) (by simp) ?_
            refine AllReadyH.cons (o := ⟨_, _, _, _, _, _⟩) rfl (fun K hK => ?_) AllReadyH.nil
            go_simp
            skip
            refine hK.out _ _ (by (try dsimp only); simp [go_sem, c0, c1, c2, c3, c4]) (fun hHeld => ?_)
            clear hK K
            try clear hx hy
            try simp only [Act.put, zA, zB, zC]
            refine tkY 18 ?_
            refine wpAnyH_done (by kernel_rfl) ?_ _
            go_wp2
            refine bodyPost_ret (v := .tuple #[.agg #[.int .i64 2, .int .i64 0, .string (s.extract 1 (1 + n)), .slice av acc.length cv, .bool true], .bool false]) ?_ rfl ?_
            · simp [results, Try.results84, go_sem, d0, d1, d2, d3, d4, d5]
            · exact fin_tag (t := ⟨2, 0, s.extract 1 (1 + n), acc, true⟩) w5 _ us false OW.out BW.out (by omega) (by rw [E.out]; rfl)
        · rw [if_neg h47] at IE
          have z47 : ¬ ((s[m]'hlt).toNat : Int) = 47 := by omega
          have z47' : (((s[m]'hlt).toNat : Int) == 47) = false := by simpa using z47
          have IE : R = if m + 1 = s.size ∧ (s.data.toList.getD m 0).toNat = 62 then some (acc, false) else none := by rw [← G.out]; exact IE
          have OW := Hid.mk' HL.out.own
          have BW := Hid.mk' HL.out.bl
          clear hc h47 G
          by_cases hnm : 1 ≤ n ∧ n ≤ 8
          rotate_left
          · have E : Hid (startA s.data.toList = none) := Hid.mk' (by rw [SA.out, if_neg hnm])
            have KV : Hid (∀ w1, Calls Try.prog 55 #[.string (s.extract 1 (1 + n))] w1 fun e w' => e = .returned (.bool false) ∧ w' = w1) := Hid.mk' (fun w1 => by have := KN.out w1; rw [HN.out, show (decide (1 ≤ n) && decide (n ≤ 8)) = false from by simp; omega] at this; exact this)
            clear IE KN HN
            go_wp2_with go_big_skip
            refine wp_region_held_drew (S := (fun w' => w'.cell? ⟨w.heap.size + 1, 0, none⟩ = some (.int .i64 2) ∧ w'.cell? ⟨w.heap.size + 1, 1, none⟩ = some (.int .i64 0) ∧ w'.cell? ⟨w.heap.size + 1, 2, none⟩ = some (.string (s.extract 1 (1 + n))) ∧ w'.cell? ⟨w.heap.size + 1, 3, none⟩ = some (.slice av acc.length cv) ∧ w'.cell? ⟨w.heap.size + 1, 4, none⟩ = some (.bool false))) (by kernel_rfl) (by simp [*]) (fun hHeld => ?_)
            refine tkY 0 ?_
            refine tkY 1 ?_
            refine tkY 2 ?_
            refine wpAnyH_ready (rs := [3]) (by kernel_rfl) (by simp) ?_
            refine AllReadyH.cons (o := ⟨_, _, _, _, _, _⟩) rfl (fun K hK => ?_) AllReadyH.nil
            go_simp
            go_at_call 55; refine (KV.out _).mono ?_; rintro e w6 ⟨rfl, hw⟩; obtain rfl := hw.symm
            refine hK.out _ _ (by (try dsimp only); simp [*]) (fun hHeld => ?_)
            clear hK K
            try clear hx hy
            try simp only [Act.put, zA, zB, zC]
            refine tkY 4 ?_
            refine tkU 5 ?_
            refine tkU 6 ?_
            refine tkU 7 ?_
            refine tkU 8 ?_
            refine tkU 9 ?_
            refine tkY 10 ?_
            refine tkY 11 ?_
            refine tkU 12 ?_
            refine tkU 13 ?_
            refine tkU 14 ?_
            refine tkU 15 ?_
            refine tkY 16 ?_
            refine wpAnyH_ready (rs := [17]) (by kernel_rfl) (by simp) ?_
            refine AllReadyH.cons (o := ⟨_, _, _, _, _, _⟩) rfl (fun K hK => ?_) AllReadyH.nil
            go_simp
            skip
            refine hK.out _ _ (by (try dsimp only); simp [go_sem, c0, c1, c2, c3, c4]) (fun hHeld => ?_)
            clear hK K
            try clear hx hy
            try simp only [Act.put, zA, zB, zC]
            refine tkY 18 ?_
            refine wpAnyH_done (by kernel_rfl) ?_ _
            go_wp2
            refine bodyPost_ret (v := .tuple #[.agg #[.int .i64 2, .int .i64 0, .string (s.extract 1 (1 + n)), .slice av acc.length cv, .bool false], .bool false]) ?_ rfl ?_
            · simp [results, Try.results84, go_sem, d0, d1, d2, d3, d4, d5]
            · exact fin_tag (t := ⟨2, 0, s.extract 1 (1 + n), acc, false⟩) wr _ us false OW.out BW.out (by omega) (by rw [E.out]; rfl)
          have KV : Hid (∀ w1, Calls Try.prog 55 #[.string (s.extract 1 (1 + n))] w1 fun e w' => e = .returned (.bool true) ∧ w' = w1) := Hid.mk' (fun w1 => by have := KN.out w1; rw [HN.out, show (decide (1 ≤ n) && decide (n ≤ 8)) = true from by simp; omega] at this; exact this)
          clear KN HN
          by_cases hP : m + 1 = s.size
          rotate_left
          · have E : Hid (startA s.data.toList = none) := Hid.mk' (by rw [SA.out, if_pos hnm, IE, if_neg (fun h => hP h.1)])
            have e1 : ((m : Int) == (s.size : Int) - 1) = false := by simp; omega
            clear IE
            go_wp2_with go_big_skip
            refine wp_region_held_drew (S := (fun w' => w'.cell? ⟨w.heap.size + 1, 0, none⟩ = some (.int .i64 2) ∧ w'.cell? ⟨w.heap.size + 1, 1, none⟩ = some (.int .i64 0) ∧ w'.cell? ⟨w.heap.size + 1, 2, none⟩ = some (.string (s.extract 1 (1 + n))) ∧ w'.cell? ⟨w.heap.size + 1, 3, none⟩ = some (.slice av acc.length cv) ∧ w'.cell? ⟨w.heap.size + 1, 4, none⟩ = some (.bool false))) (by kernel_rfl) (by simp [*]) (fun hHeld => ?_)
            refine tkY 0 ?_
            refine tkY 1 ?_
            refine tkY 2 ?_
            refine wpAnyH_ready (rs := [3]) (by kernel_rfl) (by simp) ?_
            refine AllReadyH.cons (o := ⟨_, _, _, _, _, _⟩) rfl (fun K hK => ?_) AllReadyH.nil
            go_simp
            go_at_call 55; refine (KV.out _).mono ?_; rintro e w6 ⟨rfl, hw⟩; obtain rfl := hw.symm
            refine hK.out _ _ (by (try dsimp only); simp [*]) (fun hHeld => ?_)
            clear hK K
            try clear hx hy
            try simp only [Act.put, zA, zB, zC]
            refine tkY 4 ?_
            refine tkY 5 ?_
            refine tkY 6 ?_
            refine tkY 7 ?_
            refine tkY 8 ?_
            refine tkY 9 ?_
            refine tkY 10 ?_
            refine tkY 11 ?_
            refine tkU 12 ?_
            refine tkU 13 ?_
            refine tkU 14 ?_
            refine tkU 15 ?_
            refine tkY 16 ?_
            refine wpAnyH_ready (rs := [17]) (by kernel_rfl) (by simp) ?_
            refine AllReadyH.cons (o := ⟨_, _, _, _, _, _⟩) rfl (fun K hK => ?_) AllReadyH.nil
            go_simp
            skip
            refine hK.out _ _ (by (try dsimp only); simp [go_sem, c0, c1, c2, c3, c4]) (fun hHeld => ?_)
            clear hK K
            try clear hx hy
            try simp only [Act.put, zA, zB, zC]
            refine tkY 18 ?_
            refine wpAnyH_done (by kernel_rfl) ?_ _
            go_wp2
            refine bodyPost_ret (v := .tuple #[.agg #[.int .i64 2, .int .i64 0, .string (s.extract 1 (1 + n)), .slice av acc.length cv, .bool false], .bool false]) ?_ rfl ?_
            · simp [results, Try.results84, go_sem, d0, d1, d2, d3, d4, d5]
            · exact fin_tag (t := ⟨2, 0, s.extract 1 (1 + n), acc, false⟩) wr _ us false OW.out BW.out (by omega) (by rw [E.out]; rfl)
          have hPl : m < s.size := by omega
          have e1 : ((m : Int) == (s.size : Int) - 1) = true := by simp; omega
          have GP : Hid ((s[m]'hPl).toNat = (s.data.toList.getD (m) 0).toNat) := Hid.mk' (get_list rfl (m) hPl)
          have cP : (m : Int) < (s.size : Int) := by omega
          have cP0 : (0 : Int) ≤ (m : Int) := by omega
          by_cases h62 : (s[m]'hPl).toNat = 62
          · have E : Hid (startA s.data.toList = some ⟨2, 0, s.extract 1 (1 + n), acc, false⟩) := Hid.mk' (by rw [SA.out, if_pos hnm, IE, if_pos ⟨hP, by rw [← GP.out]; exact h62⟩])
            have e2 : (((s[m]'hPl).toNat : Int) == 62) = true := by simp; omega
            clear IE GP h62
            go_wp2_with go_big_skip
            refine wp_region_held_drew (S := (fun w' => w'.cell? ⟨w.heap.size + 1, 0, none⟩ = some (.int .i64 2) ∧ w'.cell? ⟨w.heap.size + 1, 1, none⟩ = some (.int .i64 0) ∧ w'.cell? ⟨w.heap.size + 1, 2, none⟩ = some (.string (s.extract 1 (1 + n))) ∧ w'.cell? ⟨w.heap.size + 1, 3, none⟩ = some (.slice av acc.length cv) ∧ w'.cell? ⟨w.heap.size + 1, 4, none⟩ = some (.bool false))) (by kernel_rfl) (by simp [*]) (fun hHeld => ?_)
            refine tkY 0 ?_
            refine tkY 1 ?_
            refine tkY 2 ?_
            refine wpAnyH_ready (rs := [3]) (by kernel_rfl) (by simp) ?_
            refine AllReadyH.cons (o := ⟨_, _, _, _, _, _⟩) rfl (fun K hK => ?_) AllReadyH.nil
            go_simp
            go_at_call 55; refine (KV.out _).mono ?_; rintro e w6 ⟨rfl, hw⟩; obtain rfl := hw.symm
            refine hK.out _ _ (by (try dsimp only); simp [*]) (fun hHeld => ?_)
            clear hK K
            try clear hx hy
            try simp only [Act.put, zA, zB, zC]
            refine tkY 4 ?_
            refine tkY 5 ?_
            refine tkY 6 ?_
            refine tkY 7 ?_
            refine tkY 8 ?_
            refine tkY 9 ?_
            refine tkY 10 ?_
            refine tkY 11 ?_
            refine tkY 12 ?_
            refine tkY 13 ?_
            refine tkY 14 ?_
            refine tkY 15 ?_
            refine tkY 16 ?_
            refine wpAnyH_ready (rs := [17]) (by kernel_rfl) (by simp) ?_
            refine AllReadyH.cons (o := ⟨_, _, _, _, _, _⟩) rfl (fun K hK => ?_) AllReadyH.nil
            go_simp
            skip
            refine hK.out _ _ (by (try dsimp only); simp [go_sem, c0, c1, c2, c3, c4]) (fun hHeld => ?_)
            clear hK K
            try clear hx hy
            try simp only [Act.put, zA, zB, zC]
            refine tkY 18 ?_
            refine wpAnyH_done (by kernel_rfl) ?_ _
            go_wp2
            refine bodyPost_ret (v := .tuple #[.agg #[.int .i64 2, .int .i64 0, .string (s.extract 1 (1 + n)), .slice av acc.length cv, .bool false], .bool true]) ?_ rfl ?_
            · simp [results, Try.results84, go_sem, d0, d1, d2, d3, d4, d5]
            · exact fin_tag (t := ⟨2, 0, s.extract 1 (1 + n), acc, false⟩) wr _ us true OW.out BW.out (by omega) (by rw [E.out]; rfl)
          · have E : Hid (startA s.data.toList = none) := Hid.mk' (by rw [SA.out, if_pos hnm, IE, if_neg (fun h => h62 (by rw [GP.out]; exact h.2))])
            have e2 : (((s[m]'hPl).toNat : Int) == 62) = false := by simp; omega
            clear IE GP h62
            go_wp2_with go_big_skip
            refine wp_region_held_drew (S := (fun w' => w'.cell? ⟨w.heap.size + 1, 0, none⟩ = some (.int .i64 2) ∧ w'.cell? ⟨w.heap.size + 1, 1, none⟩ = some (.int .i64 0) ∧ w'.cell? ⟨w.heap.size + 1, 2, none⟩ = some (.string (s.extract 1 (1 + n))) ∧ w'.cell? ⟨w.heap.size + 1, 3, none⟩ = some (.slice av acc.length cv) ∧ w'.cell? ⟨w.heap.size + 1, 4, none⟩ = some (.bool false))) (by kernel_rfl) (by simp [*]) (fun hHeld => ?_)
            refine tkY 0 ?_
            refine tkY 1 ?_
            refine tkY 2 ?_
            refine wpAnyH_ready (rs := [3]) (by kernel_rfl) (by simp) ?_
            refine AllReadyH.cons (o := ⟨_, _, _, _, _, _⟩) rfl (fun K hK => ?_) AllReadyH.nil
            go_simp
            go_at_call 55; refine (KV.out _).mono ?_; rintro e w6 ⟨rfl, hw⟩; obtain rfl := hw.symm
            refine hK.out _ _ (by (try dsimp only); simp [*]) (fun hHeld => ?_)
            clear hK K
            try clear hx hy
            try simp only [Act.put, zA, zB, zC]
            refine tkY 4 ?_
            refine tkY 5 ?_
            refine tkY 6 ?_
            refine tkY 7 ?_
            refine tkY 8 ?_
            refine tkY 9 ?_
            refine tkY 10 ?_
            refine tkY 11 ?_
            refine tkY 12 ?_
            refine tkY 13 ?_
            refine tkY 14 ?_
            refine tkY 15 ?_
            refine tkY 16 ?_
            refine wpAnyH_ready (rs := [17]) (by kernel_rfl) (by simp) ?_
            refine AllReadyH.cons (o := ⟨_, _, _, _, _, _⟩) rfl (fun K hK => ?_) AllReadyH.nil
            go_simp
            skip
            refine hK.out _ _ (by (try dsimp only); simp [go_sem, c0, c1, c2, c3, c4]) (fun hHeld => ?_)
            clear hK K
            try clear hx hy
            try simp only [Act.put, zA, zB, zC]
            refine tkY 18 ?_
            refine wpAnyH_done (by kernel_rfl) ?_ _
            go_wp2
            refine bodyPost_ret (v := .tuple #[.agg #[.int .i64 2, .int .i64 0, .string (s.extract 1 (1 + n)), .slice av acc.length cv, .bool false], .bool false]) ?_ rfl ?_
            · simp [results, Try.results84, go_sem, d0, d1, d2, d3, d4, d5]
            · exact fin_tag (t := ⟨2, 0, s.extract 1 (1 + n), acc, false⟩) wr _ us false OW.out BW.out (by omega) (by rw [E.out]; rfl)
    · have cm : ¬ (m : Int) < (s.size : Int) := by omega
      have e0 : s.data.toList.getD m 0 = 0 := by simp [List.getD_eq_getElem?_getD, List.getElem?_eq_none (show s.data.toList.length ≤ m by omega)]
      have IE := inside_end (f := f) (acc := acc) (L := s.data.toList) (k := m) (by rw [e0]; rfl)
      rw [HL.out.ins, if_neg (by rw [e0]; decide), hl] at IE
      have wr1 : IntKind.i64.wrap ((s.size : Int) - 1) = (s.size : Int) - 1 := by rw [IntKind.wrap_i64]; omega
      have OW := Hid.mk' HL.out.own
      have BW := Hid.mk' HL.out.bl
      obtain ⟨av, cv, rfl, _⟩ := HL.out.own.at
      obtain ⟨c0, c1, c2, c3, c4, c5⟩ := cells5 HL.out.box
      obtain ⟨d0, d1, d2, d3, d4, d5⟩ := cells5 HL.out.res
      have f0 := HL.out.res.frozen 0
      have f1 := HL.out.res.frozen 1
      have f2 := HL.out.res.frozen 2
      have f3 := HL.out.res.frozen 3
      have f4 := HL.out.res.frozen 4
      have fb := HL.out.box.frozen 4
      by_cases hnm : 1 ≤ n ∧ n ≤ 8
      rotate_left
      · have E : Hid (startA s.data.toList = none) := Hid.mk' (by rw [SA.out, if_neg hnm])
        have KV : Hid (∀ w1, Calls Try.prog 55 #[.string (s.extract 1 (1 + n))] w1 fun e w' => e = .returned (.bool false) ∧ w' = w1) := Hid.mk' (fun w1 => by have := KN.out w1; rw [HN.out, show (decide (1 ≤ n) && decide (n ≤ 8)) = false from by simp; omega] at this; exact this)
        clear IE KN HN
        go_wp2_with go_big_skip
        refine wp_region_held_drew (S := (fun w' => w'.cell? ⟨w.heap.size + 1, 0, none⟩ = some (.int .i64 2) ∧ w'.cell? ⟨w.heap.size + 1, 1, none⟩ = some (.int .i64 0) ∧ w'.cell? ⟨w.heap.size + 1, 2, none⟩ = some (.string (s.extract 1 (1 + n))) ∧ w'.cell? ⟨w.heap.size + 1, 3, none⟩ = some (.slice av acc.length cv) ∧ w'.cell? ⟨w.heap.size + 1, 4, none⟩ = some (.bool false))) (by kernel_rfl) (by simp [*]) (fun hHeld => ?_)
        refine tkY 0 ?_
        refine tkY 1 ?_
        refine tkY 2 ?_
        refine wpAnyH_ready (rs := [3]) (by kernel_rfl) (by simp) ?_
        refine AllReadyH.cons (o := ⟨_, _, _, _, _, _⟩) rfl (fun K hK => ?_) AllReadyH.nil
        go_simp
        go_at_call 55; refine (KV.out _).mono ?_; rintro e w6 ⟨rfl, hw⟩; obtain rfl := hw.symm
        refine hK.out _ _ (by (try dsimp only); simp [*]) (fun hHeld => ?_)
        clear hK K
        try clear hx hy
        try simp only [Act.put, zA, zB, zC]
        refine tkY 4 ?_
        refine tkU 5 ?_
        refine tkU 6 ?_
        refine tkU 7 ?_
        refine tkU 8 ?_
        refine tkU 9 ?_
        refine tkY 10 ?_
        refine tkY 11 ?_
        refine tkU 12 ?_
        refine tkU 13 ?_
        refine tkU 14 ?_
        refine tkU 15 ?_
        refine tkY 16 ?_
        refine wpAnyH_ready (rs := [17]) (by kernel_rfl) (by simp) ?_
        refine AllReadyH.cons (o := ⟨_, _, _, _, _, _⟩) rfl (fun K hK => ?_) AllReadyH.nil
        go_simp
        skip
        refine hK.out _ _ (by (try dsimp only); simp [go_sem, c0, c1, c2, c3, c4]) (fun hHeld => ?_)
        clear hK K
        try clear hx hy
        try simp only [Act.put, zA, zB, zC]
        refine tkY 18 ?_
        refine wpAnyH_done (by kernel_rfl) ?_ _
        go_wp2
        refine bodyPost_ret (v := .tuple #[.agg #[.int .i64 2, .int .i64 0, .string (s.extract 1 (1 + n)), .slice av acc.length cv, .bool false], .bool false]) ?_ rfl ?_
        · simp [results, Try.results84, go_sem, d0, d1, d2, d3, d4, d5]
        · exact fin_tag (t := ⟨2, 0, s.extract 1 (1 + n), acc, false⟩) wr _ us false OW.out BW.out (by omega) (by rw [E.out]; rfl)
      have KV : Hid (∀ w1, Calls Try.prog 55 #[.string (s.extract 1 (1 + n))] w1 fun e w' => e = .returned (.bool true) ∧ w' = w1) := Hid.mk' (fun w1 => by have := KN.out w1; rw [HN.out, show (decide (1 ≤ n) && decide (n ≤ 8)) = true from by simp; omega] at this; exact this)
      clear KN HN
      have E : Hid (startA s.data.toList = none) := Hid.mk' (by rw [SA.out, if_pos hnm, IE, if_neg (fun h => by omega)])
      have e1 : ((m : Int) == (s.size : Int) - 1) = false := by simp; omega
      clear IE
      go_wp2_with go_big_skip
      refine wp_region_held_drew (S := (fun w' => w'.cell? ⟨w.heap.size + 1, 0, none⟩ = some (.int .i64 2) ∧ w'.cell? ⟨w.heap.size + 1, 1, none⟩ = some (.int .i64 0) ∧ w'.cell? ⟨w.heap.size + 1, 2, none⟩ = some (.string (s.extract 1 (1 + n))) ∧ w'.cell? ⟨w.heap.size + 1, 3, none⟩ = some (.slice av acc.length cv) ∧ w'.cell? ⟨w.heap.size + 1, 4, none⟩ = some (.bool false))) (by kernel_rfl) (by simp [*]) (fun hHeld => ?_)
      refine tkY 0 ?_
      refine tkY 1 ?_
      refine tkY 2 ?_
      refine wpAnyH_ready (rs := [3]) (by kernel_rfl) (by simp) ?_
      refine AllReadyH.cons (o := ⟨_, _, _, _, _, _⟩) rfl (fun K hK => ?_) AllReadyH.nil
      go_simp
      go_at_call 55; refine (KV.out _).mono ?_; rintro e w6 ⟨rfl, hw⟩; obtain rfl := hw.symm
      refine hK.out _ _ (by (try dsimp only); simp [*]) (fun hHeld => ?_)
      clear hK K
      try clear hx hy
      try simp only [Act.put, zA, zB, zC]
      refine tkY 4 ?_
      refine tkY 5 ?_
      refine tkY 6 ?_
      refine tkY 7 ?_
      refine tkY 8 ?_
      refine tkY 9 ?_
      refine tkY 10 ?_
      refine tkY 11 ?_
      refine tkU 12 ?_
      refine tkU 13 ?_
      refine tkU 14 ?_
      refine tkU 15 ?_
      refine tkY 16 ?_
      refine wpAnyH_ready (rs := [17]) (by kernel_rfl) (by simp) ?_
      refine AllReadyH.cons (o := ⟨_, _, _, _, _, _⟩) rfl (fun K hK => ?_) AllReadyH.nil
      go_simp
      skip
      refine hK.out _ _ (by (try dsimp only); simp [go_sem, c0, c1, c2, c3, c4]) (fun hHeld => ?_)
      clear hK K
      try clear hx hy
      try simp only [Act.put, zA, zB, zC]
      refine tkY 18 ?_
      refine wpAnyH_done (by kernel_rfl) ?_ _
      go_wp2
      refine bodyPost_ret (v := .tuple #[.agg #[.int .i64 2, .int .i64 0, .string (s.extract 1 (1 + n)), .slice av acc.length cv, .bool false], .bool false]) ?_ rfl ?_
      · simp [results, Try.results84, go_sem, d0, d1, d2, d3, d4, d5]
      · exact fin_tag (t := ⟨2, 0, s.extract 1 (1 + n), acc, false⟩) wr _ us false OW.out BW.out (by omega) (by rw [E.out]; rfl)

end Go.Proofs.Ytlaeomnacgjcgaa

namespace Go.Proofs.Ytlaeomnacgjcgaa
open Go.RowKit

def noteA (L : List UInt8) : Bool := decide (7 ≤ L.length) && (decide (L.take 4 = [60, 33, 45, 45]) && decide (L.drop (L.length - 3) = [45, 45, 62]))

set_option maxRecDepth 100000 in
set_option maxHeartbeats 400000 in
theorem l4Note_any (s : ByteArray) (w : World) (hs : s.size ≤ 1000) :
    Calls Try.prog 83 #[.string s] w fun e w' => e = .returned (.bool (noteA s.data.toList)) ∧ w' = w := by
  have hl := len_list s
  have P : Hid (noteA s.data.toList = (decide (7 ≤ s.size) && (decide (s.data.toList.take 4 = [60, 33, 45, 45]) && decide (s.data.toList.drop (s.size - 3) = [45, 45, 62])))) := Hid.mk' (by unfold noteA; rw [hl])
  by_cases c1 : 7 ≤ s.size
  rotate_left
  · have E : Hid (noteA s.data.toList = false) := Hid.mk' (by rw [P.out, decide_eq_false c1]; rfl)
    have d1 : ¬ (s.size : Int) ≥ 7 := by omega
    go_enter Try.func83, Try.ntmps83
    go_wp2_with go_big_skip
    go_ret
    exact ⟨by rw [E.out]; rfl, rfl⟩
  have d1 : (s.size : Int) ≥ 7 := by omega
  have i1 : (4 : Int) ≤ (s.size : Int) := by omega
  have i2 : (0 : Int) ≤ (s.size : Int) - 3 := by omega
  have i3 : (s.size : Int) - 3 ≤ (s.size : Int) := by omega
  have i4 : ((s.size : Int) - 3).toNat = s.size - 3 := by omega
  have e1 : ((s.extract 0 4).toList == [60, 33, 45, 45]) = decide (s.data.toList.take 4 = [60, 33, 45, 45]) := by rw [beq_list, ext_list]; rfl
  have e2 : ((s.extract (s.size - 3) s.size).toList == [45, 45, 62]) = decide (s.data.toList.drop (s.size - 3) = [45, 45, 62]) := by rw [beq_list, tail_list]
  by_cases c2 : s.data.toList.take 4 = [60, 33, 45, 45]
  rotate_left
  · have E : Hid (noteA s.data.toList = false) := Hid.mk' (by rw [P.out, decide_eq_false c2]; simp)
    rw [decide_eq_false c2] at e1
    clear c2 e2 P
    go_enter Try.func83, Try.ntmps83
    go_wp2_with go_big_skip
    go_ret
    exact ⟨by rw [E.out]; rfl, rfl⟩
  rw [decide_eq_true c2] at e1
  have E : Hid (noteA s.data.toList = decide (s.data.toList.drop (s.size - 3) = [45, 45, 62])) := Hid.mk' (by rw [P.out, decide_eq_true c1, decide_eq_true c2]; simp)
  clear c2 P
  rw [← e2] at E
  clear e2
  go_enter Try.func83, Try.ntmps83
  go_wp2_with go_big_skip
  go_ret
  exact ⟨by rw [E.out]; rfl, rfl⟩

theorem TagP.mk {r : Option TK} {w w' : World} (t : TK) (ok : Bool) (ht : t.at_ = []) (hr : r = (if ok = true then some t else none)) (hb : Below w.heap.size w w') : TagP r w (.returned (.tuple #[.agg #[.int .i64 t.kd, .int .i64 t.by_, .string t.nm, .slice none 0 0, .bool t.sh], .bool ok])) w' :=
  ⟨t, .slice none 0 0, [], ok, rfl, by rw [ht]; exact OA.nil _ _, hr, hb⟩

theorem note_pre (L : List UInt8) (h : (L.getD 0 0).toNat = 60) : (decide (L.take 4 = [60, 33, 45, 45])) = Lib.hasPrefix (L.drop 1) [33, 45, 45] := by
  match L, h with
  | [], h => simp at h
  | a :: r, h =>
    have ha : a = 60 := UInt8.toNat_inj.1 (by simpa using h)
    subst ha
    rw [Bool.eq_iff_iff, decide_eq_true_eq]
    show (60 :: r).take 4 = [60, 33, 45, 45] ↔ Lib.hasPrefix r [33, 45, 45] = true
    rw [prefix_iff]
    constructor
    · intro h
      have h' : r.take 3 = [33, 45, 45] := by simpa using h
      exact ⟨r.drop 3, by rw [← h', List.take_append_drop]⟩
    · rintro ⟨S, rfl⟩
      simp

theorem tag_short (L : List UInt8) (h : L.length < 3) : tagA L = none := by
  unfold tagA
  by_cases c1 : (L.getD 0 0).toNat = 60
  · rw [if_pos c1]
    have hp : ¬ Lib.hasPrefix (L.drop 1) [33, 45, 45] = true := by
      rw [prefix_iff]
      rintro ⟨S, e⟩
      have := congrArg List.length e
      simp at this
      omega
    rw [if_neg hp]
    by_cases c2 : (L.getD 1 0).toNat = 47
    · rw [if_pos c2, if_neg]
      have : L.drop 2 = [] := List.drop_of_length_le (by omega)
      rw [this]
      rintro ⟨⟨a, _⟩, _⟩
      simp [spn] at a
    · rw [if_neg c2]
      by_cases c3 : 1 ≤ spn pL (L.drop 1) ∧ spn pL (L.drop 1) ≤ 8
      · rw [if_pos c3, show L.drop (1 + spn pL (L.drop 1)) = [] from List.drop_of_length_le (by omega)]
        have : insideA (L.length + 1) [] [] = none := by unfold insideA; simp [spn]
        rw [this]
      · rw [if_neg c3]
  · rw [if_neg c1]
theorem tag_other (L : List UInt8) (h : ¬ (L.getD 0 0).toNat = 60) : tagA L = none := by unfold tagA; rw [if_neg h]
theorem suf3 (M : List UInt8) : Lib.hasSuffix M [45, 45, 62] = true ↔ 3 ≤ M.length ∧ M.drop (M.length - 3) = [45, 45, 62] := by
  unfold Lib.hasSuffix
  rw [List.isSuffixOf_iff_suffix]
  constructor
  · rintro ⟨t, rfl⟩
    refine ⟨by simp, ?_⟩
    simp
  · rintro ⟨h1, h2⟩
    exact ⟨M.take (M.length - 3), by rw [← h2, List.take_append_drop]⟩
theorem tag_note (L : List UInt8) (h0 : (L.getD 0 0).toNat = 60) (h1 : (L.getD 1 0).toNat = 33) : tagA L = if noteA L = true then some ⟨4, 0, ⟨#[]⟩, [], false⟩ else none := by
  unfold tagA noteA
  rw [if_pos h0, note_pre L h0]
  by_cases c0 : Lib.hasPrefix (L.drop 1) [33, 45, 45] = true
  · rw [if_pos c0]
    have hs := suf3 (L.drop 4)
    rw [List.length_drop, List.drop_drop] at hs
    by_cases c1 : 7 ≤ L.length
    · rw [show 4 + (L.length - 4 - 3) = L.length - 3 from by omega] at hs
      by_cases c2 : L.drop (L.length - 3) = [45, 45, 62]
      · rw [if_pos (hs.2 ⟨by omega, c2⟩), if_pos (by rw [c0, decide_eq_true c1, decide_eq_true c2]; rfl)]
      · rw [if_neg (fun h => c2 (hs.1 h).2), if_neg (by simp [c2])]
    · rw [if_neg (fun h => by have := (hs.1 h).1; omega), if_neg (by simp; omega)]
  · rw [if_neg c0, if_neg (by omega)]
    have hz : spn pL (L.drop 1) = 0 := spn_zero_of (by rw [getD_drop]; unfold pL; rw [h1]; decide)
    rw [hz, if_neg (by omega), if_neg (by rw [Bool.not_eq_true] at c0; rw [c0]; simp)]
theorem tag_start (L : List UInt8) (h0 : (L.getD 0 0).toNat = 60) (h1 : ¬ (L.getD 1 0).toNat = 33) (h2 : ¬ (L.getD 1 0).toNat = 47) : tagA L = startA L := by
  unfold tagA startA
  have hp : ¬ Lib.hasPrefix (L.drop 1) [33, 45, 45] = true := by
    rw [prefix_iff]
    rintro ⟨S, e⟩
    have : (L.drop 1).getD 0 0 = 33 := by rw [e]; rfl
    rw [getD_drop] at this
    exact h1 (by rw [this]; rfl)
  rw [if_pos h0, if_neg hp, if_neg h2]
  by_cases c3 : 1 ≤ spn pL (L.drop 1) ∧ spn pL (L.drop 1) ≤ 8
  · rw [if_pos c3, if_pos c3]
    cases insideA (L.length + 1) (L.drop (1 + spn pL (L.drop 1))) [] with
    | none => rfl
    | some p => rfl
  · rw [if_neg c3, if_neg c3]
theorem tag_end (s : ByteArray) (hs : 3 ≤ s.size) (h0 : (s.data.toList.getD 0 0).toNat = 60) (h1 : (s.data.toList.getD 1 0).toNat = 47) : tagA s.data.toList = if nmB (s.extract 2 (s.size - 1)) = true ∧ (s.data.toList.getD (s.size - 1) 0).toNat = 62 then some ⟨3, 0, s.extract 2 (s.size - 1), [], false⟩ else none := by
  have hl := len_list s
  have hp : ¬ Lib.hasPrefix (s.data.toList.drop 1) [33, 45, 45] = true := by
    rw [prefix_iff]
    rintro ⟨S, e⟩
    have : (s.data.toList.drop 1).getD 0 0 = 33 := by rw [e]; rfl
    rw [getD_drop] at this
    have h2 : (s.data.toList.getD 1 0).toNat = 33 := by rw [this]; rfl
    omega
  unfold tagA
  rw [if_pos h0, if_neg hp, if_pos h1]
  by_cases hc : nmB (s.extract 2 (s.size - 1)) = true ∧ (s.data.toList.getD (s.size - 1) 0).toNat = 62
  · rw [if_pos hc]
    have hm := (nmB_iff _).1 hc.1
    have es : (s.extract 2 (s.size - 1)).size = s.size - 3 := by simp; omega
    have hn : spn pL (s.data.toList.drop 2) = s.size - 3 := by
      have := spn_from (p := pL) (L := s.data.toList) (k := 2) (m := s.size - 1) (by omega) (by omega) (fun j a b => by
          have h := hm.2.2 (j - 2) (by rw [es]; omega) (by rw [es]; omega)
          rw [get_list (ext_list s 2 (s.size - 1)) (j - 2) (by rw [es]; omega)] at h
          refine ltrB_true ?_
          have e : ((s.data.toList.drop 2).take (s.size - 1 - 2)).getD (j - 2) 0 = s.data.toList.getD j 0 := by
            rw [List.getD_eq_getElem?_getD, List.getElem?_take_of_lt (by omega), ← List.getD_eq_getElem?_getD, getD_drop, show 2 + (j - 2) = j from by omega]
          rw [e] at h
          exact h) (fun _ => by unfold pL; rw [hc.2]; decide)
      omega
    have hz := hm.1
    have hz2 := hm.2.1
    rw [es] at hz hz2
    rw [hn, if_pos ⟨by omega, (one_left _ _).2 ⟨by omega, by rw [show 2 + (s.size - 3) = s.size - 1 from by omega]; exact hc.2⟩⟩]
    rw [show (⟨((s.data.toList.drop 2).take (s.size - 3)).toArray⟩ : ByteArray) = s.extract 2 (s.size - 1) from ba_ext (by rw [ext_list, show s.size - 1 - 2 = s.size - 3 from by omega])]
  · rw [if_neg hc, if_neg]
    rintro ⟨ha, hb⟩
    have hb := (one_left _ _).1 hb
    refine hc ⟨?_, by rw [show s.size - 1 = 2 + spn pL (s.data.toList.drop 2) from by omega]; exact hb.2⟩
    rw [nmB_take _ (s.data.toList.drop 2) (by rw [ext_list, show s.size - 1 - 2 = spn pL (s.data.toList.drop 2) from by omega])]
    simp; omega

set_option maxRecDepth 100000 in
set_option maxHeartbeats 3200000 in
theorem l4Read_any (s : ByteArray) (w : World) (hs : s.size ≤ 1000) :
    Calls Try.prog 80 #[.string s] w fun e w' => TagP (tagA s.data.toList) w e w' := by
  have hl := len_list s
  have B0 := Hid.mk' (below_new w (.cells #[.int .i64 0, .int .i64 0, .string ⟨#[]⟩, .slice none 0 0, .bool false] 89))
  have RR := row5 w 89 (.int .i64 0) (.int .i64 0) (.string ⟨#[]⟩) (.slice none 0 0) (.bool false)
  have sz0 : (w.alloc (.cells #[.int .i64 0, .int .i64 0, .string ⟨#[]⟩, .slice none 0 0, .bool false] 89)).heap.size = w.heap.size + 1 := by simp
  obtain ⟨d0, d1, d2, d3, d4, d5⟩ := cells5 RR
  have f0 := RR.frozen 0
  have f1 := RR.frozen 1
  have f2 := RR.frozen 2
  have f3 := RR.frozen 3
  have f4 := RR.frozen 4
  have HR := Hid.mk' RR
  clear RR
  generalize hw0 : w.alloc (.cells #[.int .i64 0, .int .i64 0, .string ⟨#[]⟩, .slice none 0 0, .bool false] 89) = w0 at *
  by_cases c3 : s.size < 3
  · have E : Hid (tagA s.data.toList = none) := Hid.mk' (tag_short _ (by omega))
    have ci : (s.size : Int) < 3 := by omega
    go_enter Try.func80, Try.ntmps80
    go_wp2_with go_big_skip
    clear hw0
    refine bodyPost_ret (v := .tuple #[.agg #[.int .i64 0, .int .i64 0, .string ⟨#[]⟩, .slice none 0 0, .bool false], .bool false]) ?_ rfl ?_
    · simp [results, Try.results80, go_sem, d0, d1, d2, d3, d4, d5]
    · exact TagP.mk ⟨0, 0, ⟨#[]⟩, [], false⟩ false rfl (by rw [E.out]; rfl) (five_below B0.out w.heap.size _ _ _ _ _ (Nat.le_refl _))
  have ci : ¬ (s.size : Int) < 3 := by omega
  have l0 : 0 < s.size := by omega
  have l1 : 1 < s.size := by omega
  have G0 : Hid ((s[0]'l0).toNat = (s.data.toList.getD 0 0).toNat) := Hid.mk' (get_list rfl 0 l0)
  have G1 : Hid ((s[1]'l1).toNat = (s.data.toList.getD 1 0).toNat) := Hid.mk' (get_list rfl 1 l1)
  by_cases c60 : (s[0]'l0).toNat = 60
  rotate_left
  · have E : Hid (tagA s.data.toList = none) := Hid.mk' (tag_other _ (by rw [← G0.out]; exact c60))
    have e1 : (((s[0]'l0).toNat : Int) != 60) = true := by simp; omega
    clear c60
    go_enter Try.func80, Try.ntmps80
    go_wp2_with go_big_skip
    clear hw0
    refine bodyPost_ret (v := .tuple #[.agg #[.int .i64 0, .int .i64 0, .string ⟨#[]⟩, .slice none 0 0, .bool false], .bool false]) ?_ rfl ?_
    · simp [results, Try.results80, go_sem, d0, d1, d2, d3, d4, d5]
    · exact TagP.mk ⟨0, 0, ⟨#[]⟩, [], false⟩ false rfl (by rw [E.out]; rfl) (five_below B0.out w.heap.size _ _ _ _ _ (Nat.le_refl _))
  have e1 : (((s[0]'l0).toNat : Int) != 60) = false := by simp; omega
  have H0 := Hid.mk' (show (s.data.toList.getD 0 0).toNat = 60 by rw [← G0.out]; exact c60)
  clear c60 G0
  by_cases c33 : (s[1]'l1).toNat = 33
  · have E := Hid.mk' (tag_note _ H0.out (by rw [← G1.out]; exact c33))
    have e2 : ((s[1]'l1).toNat : Int) = 33 := by omega
    have e2' : (((s[1]'l1).toNat : Int) == 33) = true := by simp; omega
    have KN := Hid.mk' (l4Note_any s w0 hs)
    clear c33
    go_enter Try.func80, Try.ntmps80
    go_wp2_with (first | go_big_skip | (go_at_call 83; refine KN.out.mono ?_; rintro e w1 ⟨rfl, hw⟩; obtain rfl := hw.symm))
    clear hw0
    refine bodyPost_ret (v := .tuple #[.agg #[.int .i64 4, .int .i64 0, .string ⟨#[]⟩, .slice none 0 0, .bool false], .bool (noteA s.data.toList)]) ?_ rfl ?_
    · simp [results, Try.results80, go_sem, d0, d1, d2, d3, d4, d5]
    · exact TagP.mk ⟨4, 0, ⟨#[]⟩, [], false⟩ (noteA s.data.toList) rfl E.out (five_below B0.out w.heap.size _ _ _ _ _ (Nat.le_refl _))
  have e2 : ¬ ((s[1]'l1).toNat : Int) = 33 := by omega
  have e2' : (((s[1]'l1).toNat : Int) == 33) = false := by simp; omega
  have H1 := Hid.mk' (show ¬ (s.data.toList.getD 1 0).toNat = 33 by rw [← G1.out]; exact c33)
  clear c33
  by_cases c47 : (s[1]'l1).toNat = 47
  rotate_left
  · have E := Hid.mk' (tag_start _ H0.out H1.out (by rw [← G1.out]; exact c47))
    have e3 : ¬ ((s[1]'l1).toNat : Int) = 47 := by omega
    have e3' : (((s[1]'l1).toNat : Int) == 47) = false := by simp; omega
    have KS := Hid.mk' (l4Start_any s w0 hs (by omega))
    clear c47
    go_enter Try.func80, Try.ntmps80
    go_wp2_with (first | go_big_skip | fail)
    clear hw0
    refine KS.out.mono ?_
    rintro e w1 ⟨t, v, us, ok, rfl, hOA, hr, hb⟩
    have R1 := rowB HR.out hb
    clear d0 d1 d2 d3 d4 d5 f0 f1 f2 f3 f4
    obtain ⟨d0, d1, d2, d3, d4, d5⟩ := cells5 R1
    have f0 := R1.frozen 0
    have f1 := R1.frozen 1
    have f2 := R1.frozen 2
    have f3 := R1.frozen 3
    have f4 := R1.frozen 4
    obtain ⟨av, cv, rfl, _⟩ := hOA.at
    have HO := Hid.mk' hOA
    have HX := Hid.mk' (E.out.trans hr)
    have B1 := Hid.mk' (B0.out.trans (hb.mono (by omega)))
    clear hb R1 hOA hr
    go_wp2
    refine bodyPost_ret (v := .tuple #[.agg #[.int .i64 t.kd, .int .i64 t.by_, .string t.nm, .slice av t.at_.length cv, .bool t.sh], .bool ok]) ?_ rfl ?_
    · simp [results, Try.results80, go_sem, d0, d1, d2, d3, d4, d5]
    · exact ⟨t, _, us, ok, rfl, HO.out.keep (by omega) (fun k hk _ => five_other w1 w.heap.size k _ _ _ _ _ (by omega)), HX.out, five_below B1.out w.heap.size _ _ _ _ _ (Nat.le_refl _)⟩
  have E := Hid.mk' (tag_end s (by omega) H0.out (by rw [← G1.out]; exact c47))
  have e3 : ((s[1]'l1).toNat : Int) = 47 := by omega
  have e3' : (((s[1]'l1).toNat : Int) == 47) = true := by simp; omega
  obtain ⟨m, hm⟩ : ∃ m, s.size - 1 = m := ⟨_, rfl⟩
  rw [hm] at E
  have lz : m < s.size := by omega
  have GZ : Hid ((s[m]'lz).toNat = (s.data.toList.getD m 0).toNat) := Hid.mk' (get_list rfl m lz)
  have im : (s.size : Int) - 1 = (m : Int) := by omega
  have i1 : (0 : Int) ≤ (m : Int) := by omega
  have i2 : (2 : Int) ≤ (m : Int) := by omega
  have i3 : (m : Int) ≤ (s.size : Int) := by omega
  have i5 : (m : Int) < (s.size : Int) := by omega
  have iw : IntKind.i64.wrap (m : Int) = (m : Int) := by rw [IntKind.wrap_i64]; omega
  have KM := l4Name_any (s.extract 2 m)
  have hx := ext_size s 2 m
  clear c47 G1 hm
  cases hnm : nmB (s.extract 2 m) with
  | false =>
    have KN : Hid (∀ w1, Calls Try.prog 55 #[.string (s.extract 2 m)] w1 fun e w' => e = .returned (.bool false) ∧ w' = w1) := Hid.mk' (fun w1 => by have := KM w1 (by omega); rw [hnm] at this; exact this)
    have E : Hid (tagA s.data.toList = none) := Hid.mk' (E.out.trans (if_neg (fun h => by rw [hnm] at h; exact absurd h.1 (by decide))))
    clear KM hnm
    go_enter Try.func80, Try.ntmps80
    go_wp2_with go_big_skip
    clear hw0
    refine wp_region_held_drew (S := (fun _ => True)) (by kernel_rfl) trivial (fun hHeld => ?_)
    refine tkY 0 ?_
    refine tkY 1 ?_
    refine tkY 2 ?_
    refine wpAnyH_ready (rs := [3]) (by kernel_rfl) (by simp) ?_
    refine AllReadyH.cons (o := ⟨_, _, _, _, _, _⟩) rfl (fun K hK => ?_) AllReadyH.nil
    go_simp
    go_at_call 55; refine (KN.out _).mono ?_; rintro e w6 ⟨rfl, hw⟩; obtain rfl := hw.symm
    refine hK.out _ _ trivial (fun hHeld => ?_)
    clear hK K
    try clear hx hy
    try simp only [Act.put, zA, zB, zC]
    refine tkY 4 ?_
    refine tkU 5 ?_
    refine tkU 6 ?_
    refine tkU 7 ?_
    refine tkU 8 ?_
    refine tkU 9 ?_
    refine tkU 10 ?_
    refine tkY 11 ?_
    refine wpAnyH_ready (rs := [12]) (by kernel_rfl) (by simp) ?_
    refine AllReadyH.cons (o := ⟨_, _, _, _, _, _⟩) rfl (fun K hK => ?_) AllReadyH.nil
    go_simp
    skip
    refine hK.out _ _ trivial (fun hHeld => ?_)
    clear hK K
    try clear hx hy
    try simp only [Act.put, zA, zB, zC]
    refine tkY 13 ?_
    refine wpAnyH_done (by kernel_rfl) ?_ _
    go_wp2
    refine bodyPost_ret (v := .tuple #[.agg #[.int .i64 3, .int .i64 0, .string (s.extract 2 m), .slice none 0 0, .bool false], .bool false]) ?_ rfl ?_
    · simp [results, Try.results80, go_sem, d0, d1, d2, d3, d4, d5]
    · exact TagP.mk ⟨3, 0, s.extract 2 m, [], false⟩ false rfl (by rw [E.out]; rfl) (five_below B0.out w.heap.size _ _ _ _ _ (Nat.le_refl _)).drew
  | true =>
    have KN : Hid (∀ w1, Calls Try.prog 55 #[.string (s.extract 2 m)] w1 fun e w' => e = .returned (.bool true) ∧ w' = w1) := Hid.mk' (fun w1 => by have := KM w1 (by omega); rw [hnm] at this; exact this)
    have E : Hid (tagA s.data.toList = if (((s[m]'lz).toNat : Int) == 62) = true then some ⟨3, 0, s.extract 2 m, [], false⟩ else none) := Hid.mk' (E.out.trans (by
      by_cases h : (s.data.toList.getD m 0).toNat = 62
      · rw [if_pos ⟨hnm, h⟩, if_pos (by rw [GZ.out, h]; rfl)]
      · rw [if_neg (fun x => h x.2), if_neg (fun x => h (by rw [GZ.out] at x; have := eq_of_beq x; omega))]))
    clear KM hnm GZ
    cases e62 : (((s[m]'lz).toNat : Int) == 62) with
    | true =>
      rw [e62] at E
      go_enter Try.func80, Try.ntmps80
      go_wp2_with go_big_skip
      clear hw0
      refine wp_region_held_drew (S := (fun _ => True)) (by kernel_rfl) trivial (fun hHeld => ?_)
      refine tkY 0 ?_
      refine tkY 1 ?_
      refine tkY 2 ?_
      refine wpAnyH_ready (rs := [3]) (by kernel_rfl) (by simp) ?_
      refine AllReadyH.cons (o := ⟨_, _, _, _, _, _⟩) rfl (fun K hK => ?_) AllReadyH.nil
      go_simp
      go_at_call 55; refine (KN.out _).mono ?_; rintro e w6 ⟨rfl, hw⟩; obtain rfl := hw.symm
      refine hK.out _ _ trivial (fun hHeld => ?_)
      clear hK K
      try clear hx hy
      try simp only [Act.put, zA, zB, zC]
      refine tkY 4 ?_
      refine tkY 5 ?_
      refine tkY 6 ?_
      refine tkY 7 ?_
      refine tkY 8 ?_
      refine tkY 9 ?_
      refine tkY 10 ?_
      refine tkY 11 ?_
      refine wpAnyH_ready (rs := [12]) (by kernel_rfl) (by simp) ?_
      refine AllReadyH.cons (o := ⟨_, _, _, _, _, _⟩) rfl (fun K hK => ?_) AllReadyH.nil
      go_simp
      skip
      refine hK.out _ _ trivial (fun hHeld => ?_)
      clear hK K
      try clear hx hy
      try simp only [Act.put, zA, zB, zC]
      refine tkY 13 ?_
      refine wpAnyH_done (by kernel_rfl) ?_ _
      go_wp2
      refine bodyPost_ret (v := .tuple #[.agg #[.int .i64 3, .int .i64 0, .string (s.extract 2 m), .slice none 0 0, .bool false], .bool true]) ?_ rfl ?_
      · simp [results, Try.results80, go_sem, d0, d1, d2, d3, d4, d5]
      · exact TagP.mk ⟨3, 0, s.extract 2 m, [], false⟩ true rfl E.out (five_below B0.out w.heap.size _ _ _ _ _ (Nat.le_refl _)).drew
    | false =>
      rw [e62] at E
      go_enter Try.func80, Try.ntmps80
      go_wp2_with go_big_skip
      clear hw0
      refine wp_region_held_drew (S := (fun _ => True)) (by kernel_rfl) trivial (fun hHeld => ?_)
      refine tkY 0 ?_
      refine tkY 1 ?_
      refine tkY 2 ?_
      refine wpAnyH_ready (rs := [3]) (by kernel_rfl) (by simp) ?_
      refine AllReadyH.cons (o := ⟨_, _, _, _, _, _⟩) rfl (fun K hK => ?_) AllReadyH.nil
      go_simp
      go_at_call 55; refine (KN.out _).mono ?_; rintro e w6 ⟨rfl, hw⟩; obtain rfl := hw.symm
      refine hK.out _ _ trivial (fun hHeld => ?_)
      clear hK K
      try clear hx hy
      try simp only [Act.put, zA, zB, zC]
      refine tkY 4 ?_
      refine tkY 5 ?_
      refine tkY 6 ?_
      refine tkY 7 ?_
      refine tkY 8 ?_
      refine tkY 9 ?_
      refine tkY 10 ?_
      refine tkY 11 ?_
      refine wpAnyH_ready (rs := [12]) (by kernel_rfl) (by simp) ?_
      refine AllReadyH.cons (o := ⟨_, _, _, _, _, _⟩) rfl (fun K hK => ?_) AllReadyH.nil
      go_simp
      skip
      refine hK.out _ _ trivial (fun hHeld => ?_)
      clear hK K
      try clear hx hy
      try simp only [Act.put, zA, zB, zC]
      refine tkY 13 ?_
      refine wpAnyH_done (by kernel_rfl) ?_ _
      go_wp2
      refine bodyPost_ret (v := .tuple #[.agg #[.int .i64 3, .int .i64 0, .string (s.extract 2 m), .slice none 0 0, .bool false], .bool false]) ?_ rfl ?_
      · simp [results, Try.results80, go_sem, d0, d1, d2, d3, d4, d5]
      · exact TagP.mk ⟨3, 0, s.extract 2 m, [], false⟩ false rfl E.out (five_below B0.out w.heap.size _ _ _ _ _ (Nat.le_refl _)).drew

end Go.Proofs.Ytlaeomnacgjcgaa

namespace Go.Proofs.Ytlaeomnacgjcgaa
open Go.RowKit

def tcs : List TK → List Value → List Value
  | t :: l, u :: us => .int .i64 t.kd :: .int .i64 t.by_ :: .string t.nm :: u :: .bool t.sh :: tcs l us
  | _, _ => []

theorem tcs_len : ∀ (l : List TK) (us : List Value), us.length = l.length → (tcs l us).length = l.length * 5
  | [], us, h => by cases us <;> rfl
  | a :: l, [], h => by simp at h
  | a :: l, u :: us, h => by
    simp only [tcs, List.length_cons]
    rw [tcs_len l us (by simpa using h)]; omega

theorem tcs_app : ∀ (l : List TK) (us : List Value) (m : List TK) (vs : List Value), us.length = l.length → tcs (l ++ m) (us ++ vs) = tcs l us ++ tcs m vs
  | [], [], m, vs, _ => rfl
  | [], u :: us, _, _, h => by simp at h
  | b :: l, [], _, _, h => by simp at h
  | b :: l, v :: us, m, vs, h => by
    simp only [List.cons_append, tcs]
    rw [tcs_app l us m vs (by simpa using h)]

def byteT (b : Int) : TK := ⟨1, b, ⟨#[]⟩, [], false⟩
def bytesT (l : List Int) : List TK := l.map byteT
def nils (n : Nat) : List Value := List.replicate n (.slice none 0 0)

theorem nils_len (n : Nat) : (nils n).length = n := by simp [nils]
theorem bytesT_len (l : List Int) : (bytesT l).length = l.length := by simp [bytesT]

theorem tcs_one : ∀ (l : List TK) (us : List Value), (∀ u ∈ us, u.oneCell' = true) → ∀ u ∈ tcs l us, u.oneCell' = true
  | [], us, _, u, hu => by cases us <;> simp [tcs] at hu
  | a :: l, [], _, u, hu => by simp [tcs] at hu
  | a :: l, v :: us, h, u, hu => by
    simp only [tcs, List.mem_cons] at hu
    rcases hu with rfl | rfl | rfl | rfl | rfl | hu
    · rfl
    · rfl
    · rfl
    · exact h _ (by simp)
    · rfl
    · exact tcs_one l us (fun u hu => h u (by simp [hu])) u hu

theorem Try.infoTok : (Try.prog.info? 89).map (fun i => (i.zero, i.size, i.bytes)) = some (some (.agg #[.int .i64 0, .int .i64 0, .string ⟨#[]⟩, .slice none 0 0, .bool false]), 5, 64) := by kernel_rfl

theorem bytesT_snoc (l : List Int) (b : Int) : tcs (bytesT (l ++ [b])) (nils (l ++ [b]).length) = tcs (bytesT l) (nils l.length) ++ [.int .i64 1, .int .i64 b, .string ⟨#[]⟩, .slice none 0 0, .bool false] := by
  have e1 : bytesT (l ++ [b]) = bytesT l ++ [byteT b] := by simp [bytesT]
  have e2 : nils (l ++ [b]).length = nils l.length ++ [.slice none 0 0] := by simp [nils, List.replicate_succ']
  rw [e1, e2, tcs_app _ _ _ _ (by rw [nils_len, bytesT_len])]
  rfl

theorem new_cells' (w : World) (t : TypeId) (xs : List Value) (g : Nat) (hg : w.heap.size = g) : ∀ j u, xs[j]? = some u → (w.alloc (.cells xs.toArray t)).cell? ((⟨g, 0, none⟩ : Addr).add j) = some u := by
  intro j u h
  subst hg
  rw [Addr.add_mid, Nat.zero_add]
  have := Lib.cell_of_heap (w := w.alloc (.cells xs.toArray t)) (Deep.blk_alloc_new w (.cells xs.toArray t)) j
  rw [this]
  simpa using h

theorem take_snoc_int {l : List Int} {k : Nat} (h : k < l.length) : l.take (k + 1) = l.take k ++ [l.getD k 0] := by
  rw [List.take_succ_eq_append_getElem h]
  simp [h]

set_option maxRecDepth 100000 in
set_option maxHeartbeats 3200000 in
theorem l5Go_any (a : Option Addr) (c : Nat) (l : List Int) (w : World) (ha : BAt w a l) (hu : ∀ k, k < l.length → 0 ≤ l.getD k 0 ∧ l.getD k 0 ≤ 255) (hl : l.length ≤ 1000) :
    Calls Try.prog 60 #[.slice a l.length c] w fun e w' => ∃ v, e = .returned v ∧ w'.ownsRow w.heap.size 89 5 v l.length (tcs (bytesT l) (nils l.length)) ∧ Below w.heap.size w w' := by
  have HA := Hid.mk' ha
  clear ha
  have O0 := Hid.mk' (World.ownsRow_lit (base := w.heap.size) (e := 89) (size := 5) w #[] 0 (Nat.le_refl _) (by unfold maxLen; omega) rfl)
  have B0 := Hid.mk' (below_new w (.cells #[] 89))
  go_enter Try.func60, Try.ntmps60
  go_wp2
  go_loopw [3, 4] (fun v i wr => ∃ k : Nat, k ≤ l.length ∧ i = .int .i64 k ∧ wr.ownsRow w.heap.size 89 5 v k (tcs (bytesT (l.take k)) (nils k)) ∧ Below w.heap.size w wr) (fun _ i _ => l.length - (intOf i).toNat)
  case atStart => exact ⟨0, Nat.zero_le _, rfl, O0.out, B0.out⟩
  case round =>
    obtain ⟨k, hk, rfl, hown, hbl⟩ := hrel
    have HO := Hid.mk' hown
    have HB := Hid.mk' hbl
    by_cases hlt : k < l.length
    · have ci : (k : Int) < (l.length : Int) := by omega
      rcases HA.out with ha | ⟨b, o, rfl, hbs, hc⟩
      · exact absurd hlt (by rw [ha]; exact Nat.not_lt_zero _)
      obtain ⟨y, hy⟩ : ∃ y, l.getD k 0 = y := ⟨_, rfl⟩
      have h1 : wr.cell? ⟨b, o + k, none⟩ = some (.int .u8 y) := by rw [← hy]; exact (hbl.cell hbs).trans (hc k hlt)
      obtain ⟨y0, y1⟩ := hu k hlt
      rw [hy] at y0 y1
      have wy : IntKind.i64.wrap y = y := by rw [IntKind.wrap_i64]; omega
      have E : Hid (tcs (bytesT (l.take (k + 1))) (nils (k + 1)) = tcs (bytesT (l.take k)) (nils k) ++ [.int .i64 1, .int .i64 y, .string ⟨#[]⟩, .slice none 0 0, .bool false]) := Hid.mk' (by
        have e := bytesT_snoc (l.take k) y
        rw [take_snoc_int hlt, hy]
        have n1 : (l.take k ++ [y]).length = k + 1 := by simp; omega
        have n2 : (l.take k).length = k := by simp; omega
        rw [n1, n2] at e
        exact e)
      have VB := below_new wr (.cells #[.int .i64 1, .int .i64 y, .string ⟨#[]⟩, .slice none 0 0, .bool false] 89)
      have OV := Hid.mk' (own_keep HO.out VB)
      have NC := Hid.mk' (new_cells' wr 89 [.int .i64 1, .int .i64 y, .string ⟨#[]⟩, .slice none 0 0, .bool false] wr.heap.size rfl)
      have HB := Hid.mk' (HB.out.trans (VB.mono HB.out.size))
      have SZ : Hid (w.heap.size ≤ (wr.alloc (.cells #[.int .i64 1, .int .i64 y, .string ⟨#[]⟩, .slice none 0 0, .bool false] 89)).heap.size) := Hid.mk' HB.out.size
      have P1 : Hid (∀ u ∈ ([.int .i64 1, .int .i64 y, .string ⟨#[]⟩, .slice none 0 0, .bool false] : List Value), u.oneCell' = true) := Hid.mk' (by
        intro u hu'
        simp only [List.mem_cons, List.not_mem_nil, or_false] at hu'
        rcases hu' with rfl | rfl | rfl | rfl | rfl <;> rfl)
      clear hc hown hbl VB hy
      go_wp2_with (at_builtin; refine wpList_append_at _ rfl (.tmp 12) (.tmp 19) 82 rfl w.heap.size 89 (.agg #[.int .i64 0, .int .i64 0, .string ⟨#[]⟩, .slice none 0 0, .bool false]) 5 64 Try.underlying82 Try.infoTok rfl (by decide) _ _ _ rfl OV.out _ 1 _ [.int .i64 1, .int .i64 y, .string ⟨#[]⟩, .slice none 0 0, .bool false] rfl rfl (.inr ⟨_, rfl, NC.out⟩) P1.out (by unfold maxLen; omega) (by omega) SZ.out ?_; intro v' w1 ho hgr hat)
      have O2 : Hid (w1.ownsRow w.heap.size 89 5 v' (k + 1) (tcs (bytesT (l.take (k + 1))) (nils (k + 1)))) := Hid.mk' (by rw [E.out]; exact ho)
      have B2 := Hid.mk' (HB.out.grown hgr SZ.out (own_lo OV.out))
      clear ho hgr hat
      go_roundw
      case rel => exact ⟨k + 1, by omega, by go_num, O2.out, B2.out⟩
      case measure => simp [intOf]; omega
    · have ci : ¬ (k : Int) < (l.length : Int) := by omega
      have e : k = l.length := by omega
      subst e
      rw [List.take_length] at hown
      have HO := Hid.mk' hown
      clear hown hbl
      go_wp2
      go_ret
      exact ⟨_, rfl, HO.out, HB.out⟩

end Go.Proofs.Ytlaeomnacgjcgaa

namespace Go.Proofs.Ytlaeomnacgjcgaa
open Go.RowKit

end Go.Proofs.Ytlaeomnacgjcgaa
