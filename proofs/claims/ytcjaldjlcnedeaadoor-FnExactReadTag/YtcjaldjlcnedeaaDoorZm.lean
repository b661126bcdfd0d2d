/- The law on ReadTag. -/
import Derived.Test.YtcjaldjlcnedeaaDoorZl
namespace Go.Proofs.YtcjaldjlcnedeaaDoor
open Go.RowKit
set_option linter.unusedVariables false
set_option linter.unusedSimpArgs false

theorem asz_snoc : ∀ (l : List AT) (a : AT), asz (l ++ [a]) = asz l + (a.nm.size + a.vl.length)
  | [], a => by simp [asz]
  | b :: l, a => by simp [asz, asz_snoc l a]; omega
theorem addA_bound (l : List AT) (a : AT) (n : Nat) (h : a.nm.size + a.vl.length ≤ n) : (addA l a).length + asz (addA l a) ≤ l.length + asz l + (n + 1) := by
  unfold addA
  split
  · omega
  · rw [asz_snoc]; simp; omega
theorem inside_bound : ∀ (f : Nat) (L : List UInt8) (acc l : List AT) (sh : Bool), L.length ≤ 160 → insideA f L acc = some (l, sh) → l.length + asz l ≤ acc.length + asz acc + f * 161
  | 0, L, acc, l, sh, _, h => by simp [insideA] at h
  | f + 1, L, acc, l, sh, hL, h => by
    unfold insideA at h
    split at h
    · split at h
      · cases h; omega
      · cases h
    · split at h
      · split at h
        · cases h; omega
        · cases h
      · split at h
        · cases h
        · split at h
          · cases h
          · rename_i a n ha
            have h1 := attrA_len ha
            have h2 := inside_bound f _ _ l sh (by rw [List.length_drop]; omega) h
            rw [List.length_drop] at h1
            have h3 := addA_bound acc a 160 (by omega)
            omega
theorem rtT_bound (L : List UInt8) : ((rtT L).at_.length : Int) + asz (rtT L).at_ ≤ 1048576 := by
  unfold rtT
  split
  · simp [asz]
  · rename_i hL
    split
    · simp [asz]
    · rename_i t ht
      unfold tagA at ht
      split at ht
      · split at ht
        · split at ht
          · cases ht; simp [asz]
          · cases ht
        · split at ht
          · split at ht
            · cases ht; simp [asz]
            · cases ht
          · split at ht
            · split at ht
              · cases ht
              · rename_i l sh hi
                cases ht
                have := inside_bound _ _ _ l sh (by rw [List.length_drop]; omega) hi
                simp [asz] at this
                have h2 : (L.length + 1) * 161 ≤ 161 * 161 := Nat.mul_le_mul_right _ (by omega)
                show (l.length : Int) + asz l ≤ 1048576
                omega
            · cases ht
      · cases ht

theorem Env.up {B C : Nat} {tp : TypeId} {pv : Value} {w : World} (h : Env B tp pv w) (h1 : B ≤ C) (h2 : C ≤ w.heap.size) : Env C tp pv w :=
  ⟨h.refs, h.errs, h.tag, h2, Nat.lt_of_lt_of_le h.b0 h1, Nat.lt_of_lt_of_le h.b1 h1, Nat.lt_of_lt_of_le h.b2 h1, Nat.lt_of_lt_of_le h.b3 h1⟩

theorem OA.aat {lo n c : Nat} {a : Option Addr} {w : World} {l : List AT} {us : List Value} (h : OA lo w (.slice a n c) l us) : AAt w a l := by
  obtain ⟨a', c', e, hh⟩ := h.at
  injection e with e1 e2 e3
  rw [e1]; exact hh

/-- A result of a reader, in its box (q), its attributes behind it (lo). -/
structure TRes (lo : Nat) (cc : Int) (t : TK) (v : Value) (l : List AT) (us : List Value) (q : Nat) (w : World) : Prop where
  box : w.rowIs q 26 6 (r6 (.int .i64 cc) (.int .i64 t.kd) (.int .i64 t.by_) (.string t.nm) v (.bool t.sh))
  oa : OA lo w v l us
  hi : Hi q v l us
  loq : lo ≤ q
theorem TRes.below {lo q : Nat} {cc : Int} {t : TK} {v : Value} {l : List AT} {us : List Value} {w w' : World} (h : TRes lo cc t v l us q w) (hb : Below w.heap.size w w') : TRes lo cc t v l us q w' :=
  ⟨rowB h.box hb, h.oa.below hb, h.hi, h.loq⟩
theorem TRes.new {lo : Nat} (cc : Int) (t : TK) {v : Value} {l : List AT} {us : List Value} {w : World} (h : OA lo w v l us) (hlo : lo ≤ w.heap.size) : TRes lo cc t v l us w.heap.size (w.alloc (.cells #[.int .i64 cc, .int .i64 t.kd, .int .i64 t.by_, .string t.nm, v, .bool t.sh] 26)) :=
  ⟨row6 w _ _ _ _ _ _ _, h.below (below_new w _), h.hi, hlo⟩
/-- Behind a call that turned what another holds. -/
theorem TRes.kept {lo q a b : Nat} {cc : Int} {t : TK} {v : Value} {l : List AT} {us : List Value} {w w' : World} (h : TRes lo cc t v l us q w) (hk : KeptIn a b w w') (ha : q < a) : TRes lo cc t v l us q w' := by
  refine ⟨rowK h.box hk (.inl ha), ⟨h.oa.len, own_of h.oa.row (Nat.le_refl _) (fun k e hl => hk.block k (h.oa.row.lt k e).2 (.inl (Nat.lt_trans (h.hi.1 k e) ha))), fun j hj => (h.oa.val j hj).keep (fun k e hl => hk.block k hl (.inl (Nat.lt_trans (h.hi.2 j hj k e) ha))), h.oa.vlo, h.oa.ap, h.oa.av⟩, h.hi, h.loq⟩

set_option maxRecDepth 100000 in
set_option maxHeartbeats 6000000 in
theorem lawReadTag_any (s : ByteArray) (tp : TypeId) (pv : Value) (w : World) (hE : Env w.heap.size tp pv w) (hsz : (s.size : Int) ≤ 9223372036854775807) :
    Calls Tryd.prog 3 #[.string s] w fun e w' => e = .returned (.bool true) ∧ Below w.heap.size w w' := by
  by_cases big : 1048576 < s.size
  · have ci : (s.size : Int) > 1048576 := by omega
    go_enter Tryd.func3, Tryd.ntmps3
    go_wp2
    go_ret
    exact ⟨rfl, Below.refl _ _⟩
  have ci : ¬ (s.size : Int) > 1048576 := by omega
  have hs : s.size ≤ 1048576 := by omega
  have HL := Hid.mk' (rtT_bound s.data.toList)
  have KS := Hid.mk' (specRT_any s w hs)
  have KI := Hid.mk' (fun (W : World) (hb : Below w.heap.size w W) => implRT_any s tp pv W ((hE.keep hb).up hb.size (Nat.le_refl _)) hs)
  clear hE
  unfold ResP at KS KI
  generalize rtC s.data.toList = cc at *
  generalize rtT s.data.toList = t at *
  have kz : ¬ (1 + (t.at_.length : Int) + (vsz t.at_ : Int) < 0) := by omega
  go_enter Tryd.func3, Tryd.ntmps3
  go_wp2_with fail
  refine KS.out.mono ?_
  rintro e w1 ⟨v1, us1, rfl, o1, hb1⟩
  have N1 := below_new w1 (.cells #[.int .i64 cc, .int .i64 t.kd, .int .i64 t.by_, .string t.nm, v1, .bool t.sh] 26)
  have W1 := Hid.mk' (TRes.new cc t o1 hb1.size)
  have B1 := Hid.mk' (hb1.trans (N1.mono hb1.size))
  have z1 : (w1.alloc (.cells #[.int .i64 cc, .int .i64 t.kd, .int .i64 t.by_, .string t.nm, v1, .bool t.sh] 26)).heap.size = w1.heap.size + 1 := by simp
  obtain ⟨a1, c1, rfl, _⟩ := o1.at
  clear KS o1 N1 hb1
  generalize hwa : w1.alloc (.cells #[.int .i64 cc, .int .i64 t.kd, .int .i64 t.by_, .string t.nm, .slice a1 t.at_.length c1, .bool t.sh] 26) = wa at *
  go_wp2_with fail
  clear hwa
  refine (KI.out wa B1.out).mono ?_
  rintro e w2 ⟨v2, us2, rfl, o2, hb2⟩
  have N2 := below_new w2 (.cells #[.int .i64 cc, .int .i64 t.kd, .int .i64 t.by_, .string t.nm, v2, .bool t.sh] 26)
  have G2 := Hid.mk' (TRes.new cc t o2 hb2.size)
  have W2 := Hid.mk' ((W1.out.below hb2).below N2)
  have B2 := Hid.mk' (B1.out.trans ((hb2.trans (N2.mono hb2.size)).mono B1.out.size))
  have z2 : (w2.alloc (.cells #[.int .i64 cc, .int .i64 t.kd, .int .i64 t.by_, .string t.nm, v2, .bool t.sh] 26)).heap.size = w2.heap.size + 1 := by simp
  have s2 := hb2.size
  obtain ⟨a2, c2, rfl, _⟩ := o2.at
  clear o2 N2 hb2 W1 B1
  generalize hwb : w2.alloc (.cells #[.int .i64 cc, .int .i64 t.kd, .int .i64 t.by_, .string t.nm, .slice a2 t.at_.length c2, .bool t.sh] 26) = wb at *
  obtain ⟨x0, x1, x2, x3, x4, x5, x6⟩ := cells6 W2.out.box
  obtain ⟨y0, y1, y2, y3, y4, y5, y6⟩ := cells6 G2.out.box
  have A1 : Hid (AAt wb a1 t.at_) := Hid.mk' W2.out.oa.aat
  have A2 : Hid (AAt wb a2 t.at_) := Hid.mk' G2.out.oa.aat
  go_wp2_with fail
  clear hwb
  refine (eqTR_is cc t a2 a1 c2 c1 wb A2.out A1.out HL.out).mono ?_
  rintro e w3 ⟨rfl, hb3⟩
  have G3 := Hid.mk' (G2.out.below hb3)
  have W3 := Hid.mk' (W2.out.below hb3)
  have B3 := Hid.mk' (B2.out.trans (hb3.mono B2.out.size))
  have s3 := hb3.size
  clear hb3 G2 W2 B2 A1 A2 x0 x1 x2 x3 x4 x5 x6 y0 y1 y2 y3 y4 y5 y6
  obtain ⟨y0, y1, y2, y3, y4, y5, y6⟩ := cells6 G3.out.box
  go_wp2_with fail
  refine (markTR_is cc t wa.heap.size w2.heap.size _ us2 w3 G3.out.oa G3.out.hi (by omega) HL.out).mono ?_
  rintro e w4 ⟨rfl, o4, hk4⟩
  have W4 := Hid.mk' (W3.out.kept hk4 (by omega))
  have G4 : Hid (TRes wa.heap.size cc t (.slice a2 t.at_.length c2) (mkA 1 t.at_) us2 w2.heap.size w4) := ⟨rowK G3.out.box hk4 (.inr (Nat.le_refl _)), o4, ⟨G3.out.hi.1, fun j hj => G3.out.hi.2 j (by rw [mkA_len] at hj; exact hj)⟩, G3.out.loq⟩
  have B4 := Hid.mk' (B3.out.trans (hk4.below (by have := W3.out.loq; omega) B3.out.size))
  have s4 := hk4.size
  clear hk4 o4 G3 W3 B3 y0 y1 y2 y3 y4 y5 y6
  obtain ⟨y0, y1, y2, y3, y4, y5, y6⟩ := cells6 G4.out.box
  have A4 : Hid (AAt w4 a2 (mkA 1 t.at_)) := Hid.mk' G4.out.oa.aat
  go_wp2_with fail
  refine (heldTR_is cc t a2 c2 w4 A4.out HL.out).mono ?_
  rintro e w5 ⟨rfl, hb5⟩
  have G5 := Hid.mk' (G4.out.below hb5)
  have W5 := Hid.mk' (W4.out.below hb5)
  have B5 := Hid.mk' (B4.out.trans (hb5.mono B4.out.size))
  clear hb5 G4 W4 B4 A4 y0 y1 y2 y3 y4 y5 y6
  go_wp2_with fail
  refine (KI.out w5 B5.out).mono ?_
  rintro e w6 ⟨v6, us6, rfl, o6, hb6⟩
  have N6 := below_new w6 (.cells #[.int .i64 cc, .int .i64 t.kd, .int .i64 t.by_, .string t.nm, v6, .bool t.sh] 26)
  have H6 := Hid.mk' (TRes.new cc t o6 hb6.size)
  have G6 := Hid.mk' ((G5.out.below hb6).below N6)
  have W6 := Hid.mk' ((W5.out.below hb6).below N6)
  have B6 := Hid.mk' (B5.out.trans ((hb6.trans (N6.mono hb6.size)).mono B5.out.size))
  obtain ⟨a6, c6, rfl, _⟩ := o6.at
  clear o6 N6 hb6 G5 W5 B5
  generalize hwc : w6.alloc (.cells #[.int .i64 cc, .int .i64 t.kd, .int .i64 t.by_, .string t.nm, .slice a6 t.at_.length c6, .bool t.sh] 26) = wc at *
  obtain ⟨x0, x1, x2, x3, x4, x5, x6⟩ := cells6 W6.out.box
  obtain ⟨y0, y1, y2, y3, y4, y5, y6⟩ := cells6 H6.out.box
  have A1 : Hid (AAt wc a1 t.at_) := Hid.mk' W6.out.oa.aat
  have A2 : Hid (AAt wc a6 t.at_) := Hid.mk' H6.out.oa.aat
  go_wp2_with fail
  clear hwc
  refine (eqTR_is cc t a6 a1 c6 c1 wc A2.out A1.out HL.out).mono ?_
  rintro e w7 ⟨rfl, hb7⟩
  have G7 := Hid.mk' (G6.out.below hb7)
  have B7 := Hid.mk' (B6.out.trans (hb7.mono B6.out.size))
  clear hb7 G6 W6 H6 B6 A1 A2 x0 x1 x2 x3 x4 x5 x6 y0 y1 y2 y3 y4 y5 y6
  obtain ⟨y0, y1, y2, y3, y4, y5, y6⟩ := cells6 G7.out.box
  have A7 : Hid (AAt w7 a2 (mkA 1 t.at_)) := Hid.mk' G7.out.oa.aat
  go_wp2_with fail
  refine (heldTR_is cc t a2 c2 w7 A7.out HL.out).mono ?_
  rintro e w8 ⟨rfl, hb8⟩
  have B8 := Hid.mk' (B7.out.trans (hb8.mono B7.out.size))
  clear hb8 G7 B7 A7 y0 y1 y2 y3 y4 y5 y6
  go_wp2
  go_ret
  exact ⟨rfl, B8.out⟩

end Go.Proofs.YtcjaldjlcnedeaaDoor
