/- SchemeOf: both sides, and the law. -/
import Derived.Test.YtlhjkjhppjogbaaDoorCr
import Derived.Test.YtlhjkjhppjogbaaDoorCm
namespace Go.Proofs.YtlhjkjhppjogbaaDoor
open Go.RowKit
set_option linter.unusedVariables false
set_option linter.unusedSimpArgs false

theorem strS_fold : ∀ (l : List Int) (r : ByteArray), (l.foldl (fun r n => r.push (UInt8.ofNat n.toNat)) r).data.toList = r.data.toList ++ l.map (fun n => UInt8.ofNat n.toNat)
  | [], r => by simp
  | x :: l, r => by
    rw [List.foldl_cons, strS_fold l]
    simp
theorem strS_list (l : List Int) : (strS l).data.toList = l.map (fun n => UInt8.ofNat n.toNat) := by
  unfold strS
  rw [strS_fold]
  rfl

theorem bytes_ext {a b : ByteArray} (h : a.data.toList = b.data.toList) : a = b := by
  cases a; cases b
  simp at h
  rw [h]

theorem low_byte {x : Int} (h0 : 0 ≤ x) (h1 : x ≤ 255) : Lib.lowerB (UInt8.ofNat x.toNat) = UInt8.ofNat (lowI x).toNat := by
  obtain ⟨n, rfl⟩ : ∃ n : Nat, x = n := ⟨x.toNat, by omega⟩
  have hn : n < 256 := by omega
  have e : Lib.isUpperB (UInt8.ofNat (n : Int).toNat) = decide (65 ≤ (n : Int) ∧ (n : Int) ≤ 90) := by
    unfold Lib.isUpperB
    rw [Bool.eq_iff_iff]
    simp [UInt8.le_iff_toNat_le, Nat.mod_eq_of_lt hn]
    omega
  unfold Lib.lowerB lowI
  rw [e]
  by_cases h : 65 ≤ (n : Int) ∧ (n : Int) ≤ 90
  · rw [decide_eq_true h, if_pos rfl, if_pos h]
    apply UInt8.toNat_inj.1
    have : ((n : Int) + 32).toNat = n + 32 := by omega
    rw [this]
    simp
  · rw [decide_eq_false h, if_neg (by simp), if_neg h]

/-- Lowered by the program. -/
theorem lower_is {l : List Int} (h : ∀ x ∈ l, 0 ≤ x ∧ x ≤ 255) : (⟨(Lib.toLowerA (strS l).data.toList).toArray⟩ : ByteArray) = strS (l.map lowI) := by
  apply bytes_ext
  rw [strS_list, strS_list]
  unfold Lib.toLowerA
  rw [List.map_map, List.map_map]
  show List.map _ l = List.map _ l
  apply List.map_congr_left
  intro x hx
  exact low_byte (h x hx).1 (h x hx).2

theorem tlLoopS (s : ByteArray) : ∀ (n i : Nat) (r : List UInt8), s.size - i = n → ByteArray.toList.loop s i r = r.reverse ++ s.data.toList.drop i := by
  intro n
  induction n with
  | zero =>
    intro i r h
    rw [ByteArray.toList.loop, if_neg (by omega)]
    have h2 : s.data.toList.length ≤ i := by
      have : s.data.toList.length = s.size := by simp
      omega
    rw [List.drop_eq_nil_of_le h2, List.append_nil]
  | succ n ih =>
    intro i r h
    have hi : i < s.size := by omega
    rw [ByteArray.toList.loop, if_pos hi, ih (i + 1) _ (by omega)]
    have h2 : i < s.data.toList.length := by
      have : s.data.toList.length = s.size := by simp
      omega
    rw [List.drop_eq_getElem_cons h2, List.reverse_cons, List.append_assoc]
    congr 1
    show [s.get! i] ++ _ = _
    have e : s.get! i = s.data.toList[i] := by
      show s.data[i]! = _
      rw [getElem!_pos s.data i (by simpa using h2)]
      simp
    rw [e]; rfl
theorem tlDataS (s : ByteArray) : s.toList = s.data.toList := by
  unfold ByteArray.toList
  rw [tlLoopS s _ 0 [] rfl]
  simp

theorem strS_nil_iff (l : List Int) : ((strS l).toList == []) = decide (l = []) := by
  have e : (strS l).toList = (strS l).data.toList := by
    have h : ∀ (s : ByteArray), s.toList = s.data.toList := tlDataS
    exact h _
  rw [e, strS_list, Bool.eq_iff_iff, beq_iff_eq, decide_eq_true_eq]
  cases l <;> simp

/-- Bytes that grow in a row of one's own. -/
structure GrS (w : World) (v : Value) (l : List Int) (wr : World) : Prop where
  own : wr.ownsRow w.heap.size 5 1 v l.length (bcs l)
  bl : Below w.heap.size w wr
  sz : w.heap.size ≤ wr.heap.size

theorem GrS.alloc {w wr : World} {v : Value} {l : List Int} (h : GrS w v l wr) (o : Obj) : GrS w v l (wr.alloc o) :=
  ⟨h.own.alloc o, h.bl.alloc h.sz o, by have := h.sz; simp; omega⟩
theorem GrS.app {w wr w1 : World} {v v' : Value} {l : List Int} {x : Int} (h : GrS w v l wr) (ho : w1.ownsRow w.heap.size 5 1 v' (l.length + 1) (bcs l ++ bcs [x])) (hg : wr.grownBy w1 v.ownBlock) : GrS w v' (l ++ [x]) w1 :=
  ⟨by rw [List.length_append, bcs_append]; exact ho, h.bl.grown hg h.sz (own_lo h.own), Nat.le_trans h.sz hg.size⟩

theorem bcs1 (x : Int) : (bcs [x]).length = 1 * 1 := rfl
theorem oneB (w : World) (x : Int) : ∀ j u, (bcs [x])[j]? = some u → (w.alloc (.cells #[.int .u8 x] 5)).cell? ((⟨w.heap.size, 0, none⟩ : Addr).add j) = some u := by
  intro j u h
  cases j with
  | zero =>
    have e : u = .int .u8 x := by simpa [bcs] using h.symm
    subst e
    simp [Addr.add]
  | succ j => simp [bcs] at h

theorem schS_bad {l : List Int} {k : Nat} (hk : k < colN l) (hl : colN l < l.length) (h : noLet (l.getD k 0) = true) : schS l = [] := by
  unfold schS
  rw [if_neg]
  rintro ⟨_, h2⟩
  have : (l.take (colN l)).any noLet = true := any_at (k := k) (by rw [List.length_take]; omega) (by
    have e : (l.take (colN l)).getD k 0 = l.getD k 0 := by
      simp [List.getD_eq_getElem?_getD, List.getElem?_take, hk]
    rw [e]; exact h)
  rw [this] at h2; cases h2

theorem map_take_snoc {l : List Int} {k : Nat} (hk : k < l.length) : (l.take (k + 1)).map lowI = (l.take k).map lowI ++ [lowI (l.getD k 0)] := by
  have e : l.take (k + 1) = l.take k ++ [l.getD k 0] := by
    rw [List.take_succ_eq_append_getElem hk]
    simp [hk]
  rw [e, List.map_append]; rfl

theorem ltr_low {x : Int} (h0 : 0 ≤ x) (h1 : x ≤ 255) : ltrB (lowI x).toNat = !noLet x := by
  unfold lowI
  by_cases h : 65 ≤ x ∧ x ≤ 90
  · rw [if_pos h, noLet_up h, ltrB_true (by unfold ltr; omega)]; rfl
  · rw [if_neg h]
    by_cases h2 : 97 ≤ x ∧ x ≤ 122
    · rw [noLet_low h2, ltrB_true (by unfold ltr; omega)]; rfl
    · rw [noLet_of (by omega) (by omega), ltrB_false (by unfold ltr; omega)]; rfl

set_option maxRecDepth 100000 in
set_option maxHeartbeats 3200000 in
theorem l8Scheme_any (a : Option Addr) (c : Nat) (l : List Int) (w : World) (ha : BAt w a l) (hu : ∀ k, k < l.length → 0 ≤ l.getD k 0 ∧ l.getD k 0 ≤ 255) (hl : (l.length : Int) ≤ 1048576) :
    Calls Tryd.prog 9 #[.slice a l.length c] w fun e w' => e = .returned (.string (strS (schS l))) ∧ Below w.heap.size w w' := by
  have HA := Hid.mk' ha
  have HU := Hid.mk' hu
  clear ha hu
  have KC : Hid (∀ wr, Below w.heap.size w wr → Calls Tryd.prog 14 #[.slice a l.length c] wr fun e w' => e = .returned (.int .i64 (colI l)) ∧ w' = wr) := fun wr hb => l8Colon_any a c l wr (HA.out.below hb) hl
  have hcl := colN_le l
  obtain ⟨ci, hci⟩ : ∃ ci, colI l = ci := ⟨_, rfl⟩
  rw [hci] at KC
  have CI : Hid ((colN l < l.length ∧ ci = (colN l : Int)) ∨ (¬ colN l < l.length ∧ ci = -1)) := Hid.mk' (by
    rw [← hci]; unfold colI
    by_cases h : colN l < l.length
    · rw [if_pos h]; exact .inl ⟨h, rfl⟩
    · rw [if_neg h]; exact .inr ⟨h, rfl⟩)
  clear hci
  go_enter Tryd.func9, Tryd.ntmps9
  go_wp2
  go_loopw [3, 4] (fun v i wr => ∃ k : Nat, (k : Int) ≤ max ci 0 ∧ i = .int .i64 k ∧ (l.take k).any noLet = false ∧ GrS w v ((l.take k).map lowI) wr) (fun _ i _ => l.length - (intOf i).toNat)
  case atStart => exact ⟨0, by omega, rfl, rfl, ⟨World.ownsRow_lit w #[] 0 (Nat.le_refl _) (by decide) rfl, below_new w _, by simp⟩⟩
  case round =>
    obtain ⟨k, hk, rfl, hf, hG⟩ := hrel
    have HF := Hid.mk' hf
    have HG := Hid.mk' hG
    have K1 := Hid.mk' (KC.out wr hG.bl)
    clear hf
    by_cases hlt : (k : Int) < ci
    · have hkc : k < colN l ∧ colN l < l.length := by rcases CI.out with ⟨h1, h2⟩ | ⟨h1, h2⟩ <;> omega
      have hkl : k < l.length := by omega
      obtain ⟨b, o, rfl, hbs, h1⟩ := bget (HA.out.below hG.bl) hkl
      have hx := HU.out k hkl
      have HT := Hid.mk' (any_take (p := noLet) hkl)
      have HM := Hid.mk' (map_take_snoc hkl)
      have HBad := Hid.mk' (schS_bad hkc.1 hkc.2)
      have HL := Hid.mk' (ltr_low hx.1 hx.2)
      have hlen : ((l.take k).map lowI).length = k := by rw [List.length_map, List.length_take]; omega
      have HLN := Hid.mk' hlen
      clear hG hlen
      generalize l.getD k 0 = x at *
      have hlow : lowI x = (if 65 ≤ x ∧ x ≤ 90 then x + 32 else x) := rfl
      have hlb : 0 ≤ lowI x ∧ lowI x ≤ 255 := by unfold lowI; split <;> omega
      have KL := letter_any (lowI x).toNat wr
      have ent : ((lowI x).toNat : Int) = lowI x := by omega
      rw [ent] at KL
      rw [HL.out] at KL
      clear ent HL
      have G1 := Hid.mk' (HG.out.alloc (.cells #[.int .u8 (lowI x)] 5))
      have O1 := Hid.mk' (oneB wr (lowI x))
      obtain ⟨y, hy⟩ : ∃ y, lowI x = y := ⟨_, rfl⟩
      rw [hy] at KL hlow hlb G1 O1 HM
      clear hy
      cases hn : noLet x with
      | true =>
        rw [hn] at KL
        have KL := Hid.mk' KL
        have E := Hid.mk' (HBad.out hn)
        by_cases u1 : x ≥ 65
        · by_cases u2 : x ≤ 90
          · rw [if_pos ⟨u1, u2⟩] at hlow
            subst hlow
            go_wp2_with fail
            refine K1.out.mono ?_
            rintro e w1 ⟨rfl, hw⟩
            obtain rfl := hw.symm
            go_wp2_with fail
            refine KL.out.mono ?_
            rintro e w1 ⟨rfl, hw⟩
            obtain rfl := hw.symm
            go_wp2
            go_ret
            exact ⟨by rw [E.out]; rfl, HG.out.bl⟩
          · rw [if_neg (by omega)] at hlow
            subst hlow
            go_wp2_with fail
            refine K1.out.mono ?_
            rintro e w1 ⟨rfl, hw⟩
            obtain rfl := hw.symm
            go_wp2_with fail
            refine KL.out.mono ?_
            rintro e w1 ⟨rfl, hw⟩
            obtain rfl := hw.symm
            go_wp2
            go_ret
            exact ⟨by rw [E.out]; rfl, HG.out.bl⟩
        · rw [if_neg (by omega)] at hlow
          subst hlow
          go_wp2_with fail
          refine K1.out.mono ?_
          rintro e w1 ⟨rfl, hw⟩
          obtain rfl := hw.symm
          go_wp2_with fail
          refine KL.out.mono ?_
          rintro e w1 ⟨rfl, hw⟩
          obtain rfl := hw.symm
          go_wp2
          go_ret
          exact ⟨by rw [E.out]; rfl, HG.out.bl⟩
      | false =>
        rw [hn] at KL
        have KL := Hid.mk' KL
        have E : Hid ((l.take (k + 1)).any noLet = false) := Hid.mk' (by rw [HT.out, HF.out, hn]; rfl)
        by_cases u1 : x ≥ 65
        · by_cases u2 : x ≤ 90
          · rw [if_pos ⟨u1, u2⟩] at hlow
            subst hlow
            go_wp2_with fail
            refine K1.out.mono ?_
            rintro e w1 ⟨rfl, hw⟩
            obtain rfl := hw.symm
            go_wp2_with fail
            refine KL.out.mono ?_
            rintro e w1 ⟨rfl, hw⟩
            obtain rfl := hw.symm
            go_wp2_with (at_builtin; refine wpList_append_at _ rfl (.tmp 28) (.tmp 30) 22 rfl w.heap.size 5 (.int .u8 0) 1 1 Tryd.underlying22 Tryd.info5' rfl (by decide) _ _ _ rfl G1.out.own _ 1 _ (bcs [x + 32]) rfl (bcs1 _) (.inr ⟨_, rfl, O1.out⟩) (bcs_one _) (by have := HLN.out; unfold maxLen; omega) (by have := HLN.out; omega) G1.out.sz ?_; intro v' w2 ho hgr hat; have G2 := Hid.mk' (G1.out.app ho hgr); clear ho hgr hat)
            go_roundw
            case rel => exact ⟨k + 1, by omega, by go_num, E.out, by rw [HM.out]; exact G2.out⟩
            case measure => simp [intOf]; omega
          · rw [if_neg (by omega)] at hlow
            subst hlow
            go_wp2_with fail
            refine K1.out.mono ?_
            rintro e w1 ⟨rfl, hw⟩
            obtain rfl := hw.symm
            go_wp2_with fail
            refine KL.out.mono ?_
            rintro e w1 ⟨rfl, hw⟩
            obtain rfl := hw.symm
            go_wp2_with (at_builtin; refine wpList_append_at _ rfl (.tmp 28) (.tmp 30) 22 rfl w.heap.size 5 (.int .u8 0) 1 1 Tryd.underlying22 Tryd.info5' rfl (by decide) _ _ _ rfl G1.out.own _ 1 _ (bcs [y]) rfl (bcs1 _) (.inr ⟨_, rfl, O1.out⟩) (bcs_one _) (by have := HLN.out; unfold maxLen; omega) (by have := HLN.out; omega) G1.out.sz ?_; intro v' w2 ho hgr hat; have G2 := Hid.mk' (G1.out.app ho hgr); clear ho hgr hat)
            go_roundw
            case rel => exact ⟨k + 1, by omega, by go_num, E.out, by rw [HM.out]; exact G2.out⟩
            case measure => simp [intOf]; omega
        · rw [if_neg (by omega)] at hlow
          subst hlow
          go_wp2_with fail
          refine K1.out.mono ?_
          rintro e w1 ⟨rfl, hw⟩
          obtain rfl := hw.symm
          go_wp2_with fail
          refine KL.out.mono ?_
          rintro e w1 ⟨rfl, hw⟩
          obtain rfl := hw.symm
          go_wp2_with (at_builtin; refine wpList_append_at _ rfl (.tmp 28) (.tmp 30) 22 rfl w.heap.size 5 (.int .u8 0) 1 1 Tryd.underlying22 Tryd.info5' rfl (by decide) _ _ _ rfl G1.out.own _ 1 _ (bcs [y]) rfl (bcs1 _) (.inr ⟨_, rfl, O1.out⟩) (bcs_one _) (by have := HLN.out; unfold maxLen; omega) (by have := HLN.out; omega) G1.out.sz ?_; intro v' w2 ho hgr hat; have G2 := Hid.mk' (G1.out.app ho hgr); clear ho hgr hat)
          go_roundw
          case rel => exact ⟨k + 1, by omega, by go_num, E.out, by rw [HM.out]; exact G2.out⟩
          case measure => simp [intOf]; omega
    · have ES : Hid ((l.take k).map lowI = schS l) := Hid.mk' (by
        rcases CI.out with ⟨h1, h2⟩ | ⟨h1, h2⟩
        · have e : k = colN l := by omega
          unfold schS
          rw [if_pos ⟨h1, by rw [← e]; exact HF.out⟩, e]
        · have e : k = 0 := by omega
          unfold schS
          rw [if_neg (fun h => h1 h.1), e]; rfl)
      obtain ⟨ob, _⟩ := OB.of_own hG.own
      obtain ⟨ao, co, rfl, hbo⟩ := ob.len
      have hcv := conv_bytesS co hbo
      have B := Hid.mk' hG.bl
      rw [ES.out] at hcv ⊢
      clear hG ob hbo HG
      go_wp2_with fail
      refine K1.out.mono ?_
      rintro e w1 ⟨rfl, hw⟩
      obtain rfl := hw.symm
      go_wp2
      go_ret
      exact ⟨rfl, B.out⟩

/-- The code and the text of a scheme. -/
def schC (l : List Int) : Int := if 240 < l.length then 6 else if schS l = [] then 4 else 0
def schT (l : List Int) : ByteArray := if 240 < l.length then ⟨#[]⟩ else strS (schS l)

/-- What SchemeOf leaves. -/
theorem specSO_any (a : Option Addr) (c : Nat) (l : List Int) (w : World) (ha : BAt w a l) (hu : ∀ k, k < l.length → 0 ≤ l.getD k 0 ∧ l.getD k 0 ≤ 255) (hl : (l.length : Int) ≤ 1048576) :
    Calls Tryd.prog 4 #[.slice a l.length c] w fun e w' => e = .returned (.agg #[.int .i64 (schC l), .string (schT l)]) ∧ Below w.heap.size w w' := by
  have N0 := below_new w (.cells #[.int .i64 0, .string ⟨#[]⟩] 24)
  have KS := Hid.mk' (l8Scheme_any a c l _ (ha.below N0) hu hl)
  have HR := Hid.mk' (rowQ2 w 24 (.int .i64 0) (.string ⟨#[]⟩))
  have HB := Hid.mk' N0
  clear ha hu N0
  generalize hW : w.alloc (.cells #[.int .i64 0, .string ⟨#[]⟩] 24) = W at *
  obtain ⟨x0, x1, x2⟩ := cellsQ2 HR.out
  obtain ⟨f0, f1⟩ := frzQ2 HR.out
  by_cases big : (l.length : Int) > 240
  · have E1 : Hid (schC l = 6) := Hid.mk' (by unfold schC; rw [if_pos (by omega)])
    have E2 : Hid (schT l = ⟨#[]⟩) := Hid.mk' (by unfold schT; rw [if_pos (by omega)])
    go_enter Tryd.func4, Tryd.ntmps4
    go_wp2
    clear hW
    refine bodyPost_ret (v := .agg #[.int .i64 6, .string ⟨#[]⟩]) (by simp [results, Tryd.results4, go_sem, *]) rfl ⟨by rw [E1.out, E2.out], ?_⟩
    exact (HB.out.setCell (p := ⟨w.heap.size, 0, none⟩) (by simp) _).setCell (p := ⟨w.heap.size, 1, none⟩) (by simp) _
  · have E2 : Hid (schT l = strS (schS l)) := Hid.mk' (by unfold schT; rw [if_neg (by omega)])
    have E1 : Hid (schC l = if schS l = [] then 4 else 0) := Hid.mk' (by unfold schC; rw [if_neg (by omega)])
    have hs := strS_nil_iff (schS l)
    go_enter Tryd.func4, Tryd.ntmps4
    go_wp2_with fail
    clear hW x0 x1 x2 f0 f1
    refine KS.out.mono ?_
    rintro e w1 ⟨rfl, hb⟩
    obtain ⟨x0, x1, x2⟩ := cellsQ2 (rowB HR.out hb)
    obtain ⟨f0, f1⟩ := frzQ2 (rowB HR.out hb)
    have HB := Hid.mk' (HB.out.trans (hb.mono HB.out.size))
    clear hb KS
    by_cases hz : schS l = []
    · rw [decide_eq_true hz] at hs
      have ET : Hid (strS (schS l) = ⟨#[]⟩) := Hid.mk' (by rw [hz]; rfl)
      rw [if_pos hz] at E1
      clear hz
      generalize strS (schS l) = t at *
      go_wp2
      refine bodyPost_ret (v := .agg #[.int .i64 4, .string ⟨#[]⟩]) (by simp [results, Tryd.results4, go_sem, *]) rfl ⟨by rw [E1.out, E2.out, ET.out], ?_⟩
      exact (HB.out.setCell (p := ⟨w.heap.size, 0, none⟩) (by simp) _).setCell (p := ⟨w.heap.size, 1, none⟩) (by simp) _
    · rw [decide_eq_false hz] at hs
      rw [if_neg hz] at E1
      clear hz
      generalize strS (schS l) = t at *
      go_wp2
      refine bodyPost_ret (v := .agg #[.int .i64 0, .string t]) (by simp [results, Tryd.results4, go_sem, *]) rfl ⟨by rw [E1.out, E2.out], ?_⟩
      exact (HB.out.setCell (p := ⟨w.heap.size, 0, none⟩) (by simp) _).setCell (p := ⟨w.heap.size, 1, none⟩) (by simp) _

end Go.Proofs.YtlhjkjhppjogbaaDoor
