/- The program's side: attributes that stand twice are found by a map. -/
import Derived.Test.YtlaeomnacgjcgaaS13
import Derived.Maps.OwnSet
import Derived.Maps.AppendAt
import Derived.SliceStrings
import Derived.Test.YtlaeomnacgjcgaaR3
import Derived.Test.YtlaeomnacgjcgaaR4
import Derived.Test.YtlaeomnacgjcgaaS5
set_option linter.unusedVariables false
set_option linter.unusedSimpArgs false
namespace Go.Proofs.Ytlaeomnacgjcgaa
open Go.RowKit Go.Maps

theorem toList_loop (s : ByteArray) : ∀ (n i : Nat) (r : List UInt8), s.size - i = n → ByteArray.toList.loop s i r = r.reverse ++ s.data.toList.drop i := by
  intro n
  induction n with
  | zero =>
    intro i r h
    rw [ByteArray.toList.loop, if_neg (by omega)]
    have h2 : s.data.toList.length ≤ i := by
      have : s.data.toList.length = s.size := by simp
      omega
    rw [List.drop_eq_nil_of_le h2, List.append_nil]
  | succ n ih =>
    intro i r h
    have hi : i < s.size := by omega
    rw [ByteArray.toList.loop, if_pos hi, ih (i + 1) _ (by omega)]
    have h2 : i < s.data.toList.length := by
      have : s.data.toList.length = s.size := by simp
      omega
    rw [List.drop_eq_getElem_cons h2, List.reverse_cons, List.append_assoc]
    congr 1
    show [s.get! i] ++ _ = _
    have e : s.get! i = s.data.toList[i] := by
      show s.data[i]! = _
      rw [getElem!_pos s.data i (by simpa using h2)]
      simp
    rw [e]; rfl
theorem toList_data (s : ByteArray) : s.toList = s.data.toList := by
  unfold ByteArray.toList
  rw [toList_loop s _ 0 [] rfl]
  simp

def keyL (x : AT) : Lit := .string x.nm.data.toList
def Sd (l : List AT) (k : Nat) : DataW Unit := setOf (.agg []) ((l.take k).map keyL)

theorem pos_any (s : ByteArray) : ∀ (l : List AT) (n : Nat), decide (0 ≤ posFrom l s n) = l.any (fun x => x.nm.toList == s.toList)
  | [], n => by simp [posFrom]
  | x :: r, n => by
    unfold posFrom
    rw [List.any_cons, ← pos_any s r (n + 1)]
    cases h : (x.nm.toList == s.toList) with
    | true => simp
    | false => simp

theorem has_Sd (l : List AT) (k : Nat) (s : ByteArray) : Maps.has (Sd l k) (.string s.data.toList) = decide (0 ≤ posK (l.take k) s) := by
  unfold Sd posK
  rw [has_setOf _ _ _ (fun y hy => by obtain ⟨_, _, rfl⟩ := List.mem_map.1 hy; trivial), List.any_map, pos_any]
  congr 1
  funext x
  show (x.nm.data.toList == s.data.toList) = (x.nm.toList == s.toList)
  rw [toList_data, toList_data]

theorem Sd_step {l : List AT} {k : Nat} (hk : k < l.length) : Sd l (k + 1) = (Sd l k).put (.string (atK l k).nm.data.toList) (.agg []) := by
  have e2 : l.take (k + 1) = l.take k ++ [atK l k] := by
    rw [List.take_succ_eq_append_getElem hk]
    unfold atK
    rw [List.getD_eq_getElem?_getD, List.getElem?_eq_getElem hk]; rfl
  unfold Sd
  rw [e2, List.map_append]
  exact setOf_snoc _ _ _

theorem law9 : Keyed Try.prog 9 := string_keyed Try.underlying9
theorem zeroU (w : World) : (zeroValue 106).run Try.prog w = .ok (.agg #[]) w := by kernel_rfl

set_option maxRecDepth 100000 in
set_option maxHeartbeats 3200000 in
theorem attrsFault_any (a : Option Addr) (c : Nat) (l : List AT) (w : World) (ha : AAt w a l) (hl : (l.length : Int) + asz l ≤ 1048576) :
    Calls Try.prog 65 #[.slice a l.length c] w fun e w' => e = .returned (.int .i64 (afault l)) ∧ Below w.heap.size w w' := by
  have hmm := @run_makeMap Try.prog
  have HA := Hid.mk' ha
  clear ha
  go_enter Try.func65, Try.ntmps65
  go_wp2
  go_loopw [11] (fun i wr => ∃ k : Nat, k ≤ l.length ∧ i = .int .i64 k ∧ wr.ownsMap Try.prog 9 unitElem w.heap.size k (Sd l k) ∧ afault l = afR (l.take k) (l.drop k) ∧ Below w.heap.size w wr) (fun i _ => l.length - (intOf i).toNat)
  case atStart => exact ⟨0, Nat.zero_le _, rfl, World.ownsMap_made _ _ _ _, rfl, (Below.refl _ _).alloc (Nat.le_refl _) _⟩
  case round =>
    obtain ⟨k, hk, rfl, hown, hf, hbl⟩ := hrel
    have HF := Hid.mk' hf
    have HB := Hid.mk' hbl
    have HW := Hid.mk' hown
    clear hmm
    by_cases hlt : k < l.length
    · have ci : (k : Int) < (l.length : Int) := by omega
      have HS := Hid.mk' (afR_step hlt)
      rcases HA.out with ha | ⟨b, o, rfl, hbs, hcl⟩
      · exact absurd hlt (by rw [ha]; exact Nat.not_lt_zero _)
      obtain ⟨q1, p, d, q2, _⟩ := hcl k hlt
      have h1 : wr.cell? ⟨b, o + k * 2, none⟩ = some (.string (atK l k).nm) := (hbl.cell hbs).trans q1
      have h2 : wr.cell? ⟨b, o + k * 2 + 1, none⟩ = some (.slice p (atK l k).vl.length d) := (hbl.cell hbs).trans q2
      have st := asz_take l k hlt
      have sl := asz_le l (k + 1)
      have HK := Hid.mk' (WideMaps.keyOf_string_mk (P := Try.prog) Try.underlying9 (s := (atK l k).nm) (by unfold maxLen; omega))
      have hh := has_Sd l k (atK l k).nm
      have SS := Hid.mk' (Sd_step hlt)
      have KN : Hid (∀ W : World, Calls Try.prog 64 #[.string (atK l k).nm] W fun e w' => e = .returned (.bool (nmB (atK l k).nm)) ∧ w' = W) := fun W => isName_any _ W (by omega)
      clear hf hbl hcl hown q1 q2 st sl
      generalize hnm : (atK l k).nm = nm at *
      generalize hvn : (atK l k).vl.length = vn at *
      cases hn : nmB nm with
      | false =>
        rw [hn] at KN HS
        go_wp2_with fail
        refine (KN.out _).mono ?_
        rintro e w1 ⟨rfl, rfl⟩
        go_wp2
        go_ret
        refine ⟨?_, HB.out.alloc HB.out.size _⟩
        rw [HF.out, HS.out]
        rfl
      | true =>
        rw [hn] at KN HS
        rw [if_pos rfl] at HS
        by_cases hp : 0 ≤ posK (l.take k) nm
        · rw [decide_eq_true hp] at hh
          have HE : Hid (afault l = 1) := Hid.mk' (by rw [HF.out, HS.out, if_pos hp])
          clear HS hp
          go_wp2_with (first | (go_at_call 64; refine (KN.out _).mono ?_; rintro e w1 ⟨rfl, rfl⟩) | (at_lookup; refine wpList_lookup_own_unit _ rfl _ _ 105 rfl 9 106 law9 Try.underlying105 (zeroU _) w.heap.size k (Sd l k) rfl (HW.out.alloc _) _ _ rfl HK.out ?_) | go_in)
          go_ret
          exact ⟨by rw [HE.out]; rfl, (HB.out.alloc HB.out.size _).alloc (by have := HB.out.size; simp; omega) _⟩
        · rw [decide_eq_false hp] at hh
          have HE : Hid (afault l = afR (l.take (k + 1)) (l.drop (k + 1))) := Hid.mk' (by rw [HF.out, HS.out, if_neg hp])
          clear HS hp
          go_wp2_with (first | (go_at_call 64; refine (KN.out _).mono ?_; rintro e w1 ⟨rfl, rfl⟩) | (at_lookup; refine wpList_lookup_own_unit _ rfl _ _ 105 rfl 9 106 law9 Try.underlying105 (zeroU _) w.heap.size k (Sd l k) rfl (HW.out.alloc _) _ _ rfl HK.out ?_) | (at_mapUpdate; refine wpList_mapUpdate_own _ rfl _ _ _ 105 rfl 9 106 law9 Try.underlying105 (unitElem (H := Unit)) w.heap.size k (Sd l k) rfl ((HW.out.alloc _).alloc _) (by unfold maxLen; omega) _ _ _ rfl rfl HK.out _ [] unitElem_mk ?_; intro w1 hown1 hgrow1) | go_in)
          go_roundw
          case rel => exact ⟨k + 1, by omega, by go_num, by rw [SS.out]; exact hown1, HE.out, ((HB.out.alloc HB.out.size _).alloc (by have := HB.out.size; simp; omega) _).grown hgrow1 (by have := HB.out.size; simp; omega) (fun j hj => by cases hj; exact Nat.le_refl _)⟩
          case measure => simp [intOf]; omega
    · have ci : ¬ (k : Int) < (l.length : Int) := by omega
      have e : k = l.length := by omega
      subst e
      go_wp2
      go_ret
      refine ⟨?_, HB.out⟩
      have h := HF.out
      rw [List.drop_length, List.take_length] at h
      first | rfl | (rw [h]; rfl)

end Go.Proofs.Ytlaeomnacgjcgaa

namespace Go.Proofs.Ytlaeomnacgjcgaa
open Go.RowKit

set_option maxHeartbeats 3200000 in
theorem implTF_any (t : TK) (a : Option Addr) (c : Nat) (w : World) (ha : AAt w a t.at_) (hn : (t.nm.size : Int) ≤ 1048576) (hl : (t.at_.length : Int) + asz t.at_ ≤ 1048576) :
    Calls Try.prog 57 #[.agg #[.int .i64 t.kd, .int .i64 t.by_, .string t.nm, .slice a t.at_.length c, .bool t.sh]] w fun e w' => e = .returned (.int .i64 (tfault t)) ∧ Below w.heap.size w w' := by
  have N0 := below_new w (.cells #[.int .i64 t.kd, .int .i64 t.by_, .string t.nm, .slice a t.at_.length c, .bool t.sh] 89)
  have KF := Hid.mk' (hasForm_any t a c (w.alloc (.cells #[.int .i64 t.kd, .int .i64 t.by_, .string t.nm, .slice a t.at_.length c, .bool t.sh] 89)))
  have HP := Hid.mk' (row5 w 89 (.int .i64 t.kd) (.int .i64 t.by_) (.string t.nm) (.slice a t.at_.length c) (.bool t.sh))
  have HA := Hid.mk' (ha.below N0)
  have HB := Hid.mk' N0
  clear ha N0
  go_enter Try.func57, Try.ntmps57
  go_wp2_with fail
  refine KF.out.mono ?_
  rintro e w1 ⟨rfl, hb⟩
  have HA := Hid.mk' (HA.out.below hb)
  have HP := Hid.mk' (rowB HP.out hb)
  have HB := Hid.mk' (HB.out.trans (hb.mono HB.out.size))
  obtain ⟨c0, c1, c2, c3, c4, c5⟩ := cells5 HP.out
  clear hb KF HP
  have KN := isName_any t.nm w1 (by omega)
  have KA := Hid.mk' (attrsFault_any a c t.at_ w1 HA.out hl)
  cases hf : tform t with
  | false =>
    have E : Hid (tfault t = 1) := Hid.mk' (by unfold tfault; rw [hf]; rfl)
    clear KN
    go_wp2
    go_ret
    exact ⟨by rw [E.out]; rfl, HB.out⟩
  | true =>
    by_cases hb : 0 ≤ t.by_ ∧ t.by_ ≤ 255
    · have y1 : ¬ t.by_ < 0 := by omega
      have y2 : ¬ t.by_ > 255 := by omega
      by_cases hk : t.kd = 2 ∨ t.kd = 3
      · cases hnm : nmB t.nm with
        | false =>
          rw [hnm] at KN
          have KN := Hid.mk' KN
          have E : Hid (tfault t = 5) := Hid.mk' (by unfold tfault; rw [if_pos hf, if_pos hb, if_pos ⟨hk, hnm⟩])
          clear hb
          rcases hk with e | e
          all_goals
            rw [e] at c0
            clear e
            go_wp2_with (first | go_big_skip | (go_at_call 64; refine KN.out.mono ?_; rintro e w2 ⟨rfl, rfl⟩))
            go_ret
            exact ⟨by rw [E.out]; rfl, HB.out⟩
        | true =>
          rw [hnm] at KN
          have KN := Hid.mk' KN
          have E : Hid (tfault t = afault t.at_) := Hid.mk' (by unfold tfault; rw [if_pos hf, if_pos hb, if_neg (by rw [hnm]; simp)])
          clear hb
          rcases hk with e | e
          all_goals
            rw [e] at c0
            clear e
            go_wp2_with (first | go_big_skip | (go_at_call 64; refine KN.out.mono ?_; rintro e w2 ⟨rfl, rfl⟩) | (go_at_call 65; refine KA.out.mono ?_; rintro e w2 ⟨rfl, hbb⟩; have HB := Hid.mk' (HB.out.trans (hbb.mono HB.out.size)); clear hbb))
            go_ret
            exact ⟨by rw [E.out]; rfl, HB.out⟩
      · have n2 : ¬ t.kd = 2 := fun e => hk (.inl e)
        have n3 : ¬ t.kd = 3 := fun e => hk (.inr e)
        have E : Hid (tfault t = afault t.at_) := Hid.mk' (by unfold tfault; rw [if_pos hf, if_pos hb, if_neg (fun h => hk h.1)])
        clear hb hk KN
        go_wp2_with (first | go_big_skip | (go_at_call 65; refine KA.out.mono ?_; rintro e w2 ⟨rfl, hbb⟩; have HB := Hid.mk' (HB.out.trans (hbb.mono HB.out.size)); clear hbb))
        go_ret
        exact ⟨by rw [E.out]; rfl, HB.out⟩
    · have E : Hid (tfault t = 3) := Hid.mk' (by unfold tfault; rw [if_pos hf, if_neg hb])
      clear KN
      by_cases y1 : t.by_ < 0
      · clear hb
        go_wp2_with go_big_skip
        go_ret
        exact ⟨by rw [E.out]; rfl, HB.out⟩
      · have y2 : t.by_ > 255 := by omega
        clear hb
        go_wp2_with go_big_skip
        go_ret
        exact ⟨by rw [E.out]; rfl, HB.out⟩

end Go.Proofs.Ytlaeomnacgjcgaa

namespace Go.Proofs.Ytlaeomnacgjcgaa
open Go.RowKit

end Go.Proofs.Ytlaeomnacgjcgaa

namespace Go.Proofs.Ytlaeomnacgjcgaa
open Go.RowKit

theorem ret_num {a b : Int} (h : a = b) : Ending.returned (.int .i64 a) = .returned (.int .i64 b) := by rw [h]

end Go.Proofs.Ytlaeomnacgjcgaa

namespace Go.Proofs.Ytlaeomnacgjcgaa
open Go.RowKit

set_option maxHeartbeats 400000 in
theorem l1Copy_own (a : Option Addr) (c : Nat) (l : List Int) (w : World) (ha : BAt w a l) (hl : (l.length : Int) ≤ 1048576) :
    Calls Try.prog 69 #[.slice a l.length c] w fun e w' => ∃ v, e = .returned v ∧ w'.ownsRow w.heap.size 5 1 v l.length (bcs l) ∧ Below w.heap.size w w' := by
  have B0 := below_new w (.cells #[] 5)
  go_enter Try.func69, Try.ntmps69
  go_wp2_with (at_builtin; refine wpList_append_any _ rfl (.tmp 3) (.tmp 4) 22 rfl w.heap.size 5 (.int .u8 0) 1 1 Try.underlying22 Try.info5 rfl (by decide) _ 0 [] rfl (World.ownsRow_lit w #[] 0 (Nat.le_refl _) (by decide) rfl) a l.length c (bcs l) rfl (bcs_len l) (ha.below B0).src (bcs_one l) (by unfold maxLen; omega) (by omega) (by simp) ?_; intro v' w1 hown hgr)
  go_ret
  rw [Nat.zero_add, List.nil_append] at hown
  refine ⟨_, rfl, hown, B0.grown hgr (by simp) (fun k hk => ?_)⟩
  simp [Act.eval, Value.ownBlock] at hk
  omega

set_option maxHeartbeats 400000 in
theorem joinBytes_nil (a b : Option Addr) (c d : Nat) (l : List Int) (w : World) (ha : BAt w a l) (hl : (l.length : Int) ≤ 2097152) :
    Calls Try.prog 34 #[.slice a l.length c, .slice b 0 d] w fun e w' => ∃ g, e = .returned (.slice (some ⟨g, 0, none⟩) l.length l.length) ∧ w.heap.size ≤ g ∧ w'.rowIs g 5 l.length (bv l) ∧ Below w.heap.size w w' := by
  have hmk := run_make_row' (P := Try.prog) 22 5 (.int .u8 0) 1 Try.underlying22 Try.info5 rfl .i64 .i64 l.length (by omega) (by omega)
  have B0 := below_new w (.cells (madeCells #[.int .u8 0] l.length) 5)
  have R0 := World.rowIs_made w (.int .u8 0) l.length 5
  obtain ⟨w1, hcp1, hr1, hk1⟩ := copy_row (P := Try.prog) 22 22 3 Try.underlying22 (by kernel_rfl) 0 l.length l.length R0 a c l (ha.below B0) (by omega) (by omega)
  have hcp2 := run_copy_none (P := Try.prog) w1 22 22 3 5 (some ⟨w.heap.size, 0, none⟩) b 0 0 0 d Try.underlying22 (by kernel_rfl) (by simp)
  have B1 := Hid.mk' (B0.trans (hk1.below (Nat.le_refl _) (by simp)))
  have R1 := Hid.mk' hr1
  clear hr1 hk1 B0 R0 ha
  go_enter Try.func34, Try.ntmps34
  go_wp2
  go_ret
  exact ⟨_, rfl, Nat.le_refl _, R1.out.congr (fun j hj => by rw [if_pos (by omega), Nat.sub_zero]), B1.out⟩

set_option maxHeartbeats 400000 in
theorem joinBytes_pos (a b : Option Addr) (c d : Nat) (l m : List Int) (w : World) (ha : BAt w a l) (hb : BAt w b m) (hm : 0 < m.length) (hl : (l.length : Int) + m.length ≤ 2097152) :
    Calls Try.prog 34 #[.slice a l.length c, .slice b m.length d] w fun e w' => ∃ g, e = .returned (.slice (some ⟨g, 0, none⟩) (l.length + m.length) (l.length + m.length)) ∧ w.heap.size ≤ g ∧ w'.rowIs g 5 (l.length + m.length) (bv (l ++ m)) ∧ Below w.heap.size w w' := by
  have hmk := run_make_row' (P := Try.prog) 22 5 (.int .u8 0) 1 Try.underlying22 Try.info5 rfl .i64 .i64 (l.length + m.length) (by omega) (by omega)
  have ec : ((l.length + m.length : Nat) : Int) = (l.length : Int) + (m.length : Int) := by omega
  rw [ec] at hmk
  clear ec
  have B0 := below_new w (.cells (madeCells #[.int .u8 0] (l.length + m.length)) 5)
  have R0 := World.rowIs_made w (.int .u8 0) (l.length + m.length) 5
  obtain ⟨w1, hcp1, hr1, hk1⟩ := copy_row (P := Try.prog) 22 22 3 Try.underlying22 (by kernel_rfl) 0 (l.length + m.length) (l.length + m.length) R0 a c l (ha.below B0) (by omega) (by omega)
  have B1 := B0.trans (hk1.below (Nat.le_refl _) (by simp))
  obtain ⟨w2, hcp2, hr2, hk2⟩ := copy_row (P := Try.prog) 22 22 3 Try.underlying22 (by kernel_rfl) l.length m.length m.length hr1 b d m (hb.below B1) (by omega) (by omega)
  have B2 := Hid.mk' (B1.trans (hk2.below (Nat.le_refl _) (by have := hr1.lt; omega)))
  have R2 := Hid.mk' hr2
  have hm0 : ¬ m.length = 0 := by omega
  clear hr1 hr2 hk1 hk2 B0 B1 R0 ha hb
  go_enter Try.func34, Try.ntmps34
  go_wp2
  go_ret
  refine ⟨_, rfl, Nat.le_refl _, R2.out.congr (fun j hj => ?_), B2.out⟩
  by_cases c1 : j < l.length
  · rw [if_neg (by omega), if_pos (by omega), bv_append_left _ _ _ c1, Nat.sub_zero]
  · rw [if_pos (by omega), bv_append_right _ _ _ (by omega)]

end Go.Proofs.Ytlaeomnacgjcgaa

namespace Go.Proofs.Ytlaeomnacgjcgaa
open Go.RowKit

end Go.Proofs.Ytlaeomnacgjcgaa

namespace Go.Proofs.Ytlaeomnacgjcgaa
open Go.RowKit

end Go.Proofs.Ytlaeomnacgjcgaa

namespace Go.Proofs.Ytlaeomnacgjcgaa
open Go.RowKit

end Go.Proofs.Ytlaeomnacgjcgaa

namespace Go.Proofs.Ytlaeomnacgjcgaa
open Go.RowKit

end Go.Proofs.Ytlaeomnacgjcgaa

namespace Go.Proofs.Ytlaeomnacgjcgaa
open Go.RowKit

def spn (p : UInt8 → Bool) : List UInt8 → Nat
  | [] => 0
  | c :: r => if p c = true then spn p r + 1 else 0
theorem spn_le (p : UInt8 → Bool) : ∀ L, spn p L ≤ L.length
  | [] => Nat.le_refl _
  | c :: r => by
    have := spn_le p r
    simp only [spn, List.length_cons]; split <;> omega
theorem spn_all (p : UInt8 → Bool) : ∀ (L : List UInt8) (j : Nat), j < spn p L → p (L.getD j 0) = true
  | [], j, h => by simp [spn] at h
  | c :: r, j, h => by
    unfold spn at h
    split at h
    · cases j with
      | zero => simpa
      | succ j => simpa using spn_all p r j (by omega)
    · omega
theorem spn_end (p : UInt8 → Bool) : ∀ (L : List UInt8), spn p L < L.length → p (L.getD (spn p L) 0) = false
  | [], h => by simp [spn] at h
  | c :: r, h => by
    unfold spn at h ⊢
    split
    · rename_i hc
      rw [if_pos hc] at h
      simpa using spn_end p r (by simpa using h)
    · rename_i hc
      simpa using hc
theorem spn_uniq (p : UInt8 → Bool) : ∀ (L : List UInt8) (k : Nat), k ≤ L.length → (∀ j, j < k → p (L.getD j 0) = true) → (k < L.length → p (L.getD k 0) = false) → spn p L = k
  | [], k, h, _, _ => by simp at h; subst h; rfl
  | c :: r, 0, h, _, h2 => by
    have := h2 (by simp)
    unfold spn
    rw [if_neg (by simpa using this)]
  | c :: r, k + 1, h, h1, h2 => by
    have hc := h1 0 (by omega)
    unfold spn
    rw [if_pos (by simpa using hc), spn_uniq p r k (by simpa using h) (fun j hj => by simpa using h1 (j + 1) (by omega)) (fun hk => by simpa using h2 (by simpa using hk))]

def pL (c : UInt8) : Bool := ltrB c.toNat
def pB (c : UInt8) : Bool := decide (c.toNat = 32)
def pQ (c : UInt8) : Bool := !decide (c.toNat = 34)

def attrA (L : List UInt8) : Option (AT × Nat) :=
  if ((1 ≤ spn pL L ∧ spn pL L ≤ 8) ∧ spn pL L + 1 < L.length) ∧ ((L.getD (spn pL L) 0).toNat = 61 ∧ (L.getD (spn pL L + 1) 0).toNat = 34) then
    (if spn pL L + 2 + spn pQ (L.drop (spn pL L + 2)) < L.length then some (⟨⟨(L.take (spn pL L)).toArray⟩, decode ((L.drop (spn pL L + 2)).take (spn pQ (L.drop (spn pL L + 2))))⟩, spn pL L + 2 + spn pQ (L.drop (spn pL L + 2)) + 1) else none)
  else none

def addA (l : List AT) (a : AT) : List AT := if 0 ≤ posK l a.nm then l else l ++ [a]

def insideA : Nat → List UInt8 → List AT → Option (List AT × Bool)
  | 0, _, _ => none
  | f + 1, L, acc =>
    if ((L.drop (spn pB L)).getD 0 0).toNat = 47 then (if L.drop (spn pB L + 1) = [62] then some (acc, true) else none)
    else if ((L.drop (spn pB L)).getD 0 0).toNat = 62 then (if L.drop (spn pB L) = [62] then some (acc, false) else none)
    else if spn pB L = 0 then none
    else match attrA (L.drop (spn pB L)) with
      | none => none
      | some (a, n) => insideA f (L.drop (spn pB L + n)) (addA acc a)

def tagA (L : List UInt8) : Option TK :=
  if (L.getD 0 0).toNat = 60 then
    (if Lib.hasPrefix (L.drop 1) [33, 45, 45] = true then (if Lib.hasSuffix (L.drop 4) [45, 45, 62] = true then some ⟨4, 0, ⟨#[]⟩, [], false⟩ else none)
    else if (L.getD 1 0).toNat = 47 then (if (1 ≤ spn pL (L.drop 2) ∧ spn pL (L.drop 2) ≤ 8) ∧ L.drop (2 + spn pL (L.drop 2)) = [62] then some ⟨3, 0, ⟨((L.drop 2).take (spn pL (L.drop 2))).toArray⟩, [], false⟩ else none)
    else if 1 ≤ spn pL (L.drop 1) ∧ spn pL (L.drop 1) ≤ 8 then
      (match insideA (L.length + 1) (L.drop (1 + spn pL (L.drop 1))) [] with
      | none => none
      | some (l, sh) => some ⟨2, 0, ⟨((L.drop 1).take (spn pL (L.drop 1))).toArray⟩, l, sh⟩)
    else none)
  else none

theorem one_left (L : List UInt8) (k : Nat) : L.drop k = [62] ↔ k + 1 = L.length ∧ (L.getD k 0).toNat = 62 := by
  constructor
  · intro h
    have hl := congrArg List.length h
    simp only [List.length_drop, List.length_cons, List.length_nil] at hl
    refine ⟨by omega, ?_⟩
    have : (L.drop k).getD 0 0 = 62 := by rw [h]; rfl
    rw [getD_drop] at this
    simp only [Nat.add_zero] at this
    rw [this]; rfl
  · rintro ⟨h1, h2⟩
    rw [drop_cons L k (by omega), List.drop_of_length_le (by omega)]
    have : L.getD k 0 = 62 := UInt8.toNat_inj.1 (by rw [h2]; rfl)
    rw [this]

theorem attrA_len {L : List UInt8} {a : AT} {n : Nat} (h : attrA L = some (a, n)) : 3 ≤ n ∧ n ≤ L.length ∧ a.nm.size ≤ 8 ∧ a.nm.size + a.vl.length ≤ L.length := by
  unfold attrA at h
  split at h
  · rename_i hc
    split at h
    · rename_i hq
      simp only [Option.some.injEq, Prod.mk.injEq] at h
      obtain ⟨rfl, rfl⟩ := h
      have e1 : (⟨(L.take (spn pL L)).toArray⟩ : ByteArray).size = spn pL L := by simp [ByteArray.size]; omega
      have e2 : (decode ((L.drop (spn pL L + 2)).take (spn pQ (L.drop (spn pL L + 2))))).length ≤ spn pQ (L.drop (spn pL L + 2)) := by
        refine Nat.le_trans (dec_len _ _) ?_
        simp
        omega
      refine ⟨by omega, by omega, by rw [e1]; omega, ?_⟩
      show (⟨(L.take (spn pL L)).toArray⟩ : ByteArray).size + (decode ((L.drop (spn pL L + 2)).take (spn pQ (L.drop (spn pL L + 2))))).length ≤ L.length
      rw [e1]; omega
    · cases h
  · cases h

theorem spn_zero_of {p : UInt8 → Bool} {L : List UInt8} (h : p (L.getD 0 0) = false) : spn p L = 0 :=
  spn_uniq p L 0 (Nat.zero_le _) (fun j hj => absurd hj (Nat.not_lt_zero _)) (fun _ => h)

theorem inside_blank {f : Nat} {L : List UInt8} {acc : List AT} (h : pL ((L.drop (spn pB L)).getD 0 0) = false) : insideA (f + 1) (L.drop (spn pB L)) acc = insideA (f + 1) L acc := by
  have hz : spn pB (L.drop (spn pB L)) = 0 := by
    by_cases hl : spn pB L < L.length
    · refine spn_zero_of ?_
      rw [getD_drop, Nat.add_zero]
      exact spn_end pB L hl
    · rw [List.drop_of_length_le (by omega)]; rfl
  have ha : attrA (L.drop (spn pB L)) = none := by
    unfold attrA
    rw [spn_zero_of h, if_neg (by omega)]
  unfold insideA
  rw [hz]
  simp only [List.drop_drop, Nat.add_zero, ha, if_true]
  split
  · rfl
  · split
    · rfl
    · split <;> rfl

end Go.Proofs.Ytlaeomnacgjcgaa

namespace Go.Proofs.Ytlaeomnacgjcgaa
open Go.RowKit

theorem spn_from {p : UInt8 → Bool} {L : List UInt8} {k m : Nat} (h1 : k ≤ m) (h2 : m ≤ L.length) (h3 : ∀ j, k ≤ j → j < m → p (L.getD j 0) = true) (h4 : m < L.length → p (L.getD m 0) = false) : k + spn p (L.drop k) = m := by
  have : spn p (L.drop k) = m - k := spn_uniq p _ _ (by simp; omega) (fun j hj => by rw [getD_drop]; exact h3 _ (by omega) (by omega)) (fun hk => by
    rw [getD_drop, show k + (m - k) = m from by omega]
    exact h4 (by simp at hk; omega))
  omega

set_option maxHeartbeats 400000 in
theorem l4NameEnd_any (s : ByteArray) (k : Nat) (w : World) (hs : s.size ≤ 1048576) (hk : k ≤ s.size) :
    Calls Try.prog 86 #[.string s, .int .i64 k] w fun e w' => e = .returned (.int .i64 ((k + spn pL (s.data.toList.drop k) : Nat) : Int)) ∧ w' = w := by
  have hl := len_list s
  go_enter Try.func86, Try.ntmps86
  go_wp2
  go_loopw [1] (fun i wr => ∃ m : Nat, k ≤ m ∧ m ≤ s.size ∧ i = .int .i64 m ∧ (∀ j, k ≤ j → j < m → pL (s.data.toList.getD j 0) = true) ∧ wr = w) (fun i _ => s.size - (intOf i).toNat)
  case atStart => exact ⟨k, Nat.le_refl _, hk, rfl, fun j h1 h2 => by omega, rfl⟩
  case round =>
    obtain ⟨m, h1, h2, rfl, hn, rfl⟩ := hrel
    have HN := Hid.mk' hn
    clear hn
    by_cases hlt : m < s.size
    · have ci : (m : Int) < (s.size : Int) := by omega
      have G : Hid ((s[m]'hlt).toNat = (s.data.toList.getD m 0).toNat) := Hid.mk' (get_list rfl m hlt)
      have K := letter_any (s[m]'hlt).toNat
      cases hc : ltrB (s[m]'hlt).toNat with
      | true =>
        rw [hc] at K
        have HC : Hid (pL (s.data.toList.getD m 0) = true) := Hid.mk' (by unfold pL; rw [← G.out]; exact hc)
        have K := Hid.mk' (K wr)
        clear hc G
        go_wp2_with (first | go_big_skip | (go_at_call 61; refine K.out.mono ?_; rintro e w1 ⟨rfl, rfl⟩))
        go_roundw
        case rel => exact ⟨m + 1, by omega, by omega, by go_num, fun j a b => by
          by_cases h : j = m
          · subst h; exact HC.out
          · exact HN.out j a (by omega), by first | rfl | trivial⟩
        case measure => simp [intOf]; omega
      | false =>
        rw [hc] at K
        have HC : Hid (pL (s.data.toList.getD m 0) = false) := Hid.mk' (by unfold pL; rw [← G.out]; exact hc)
        have K := Hid.mk' (K wr)
        have E : Hid (k + spn pL (s.data.toList.drop k) = m) := Hid.mk' (spn_from h1 (by omega) HN.out (fun _ => HC.out))
        clear hc G
        go_wp2_with (first | go_big_skip | (go_at_call 61; refine K.out.mono ?_; rintro e w1 ⟨rfl, rfl⟩))
        go_ret
        exact ⟨ret_num (a := (m : Int)) (by have := E.out; omega), by first | rfl | trivial⟩
    · have ci : ¬ (m : Int) < (s.size : Int) := by omega
      have E : Hid (k + spn pL (s.data.toList.drop k) = m) := Hid.mk' (spn_from h1 (by omega) HN.out (fun h => by omega))
      go_wp2_with go_big_skip
      go_ret
      exact ⟨ret_num (a := (m : Int)) (by have := E.out; omega), by first | rfl | trivial⟩

set_option maxHeartbeats 400000 in
theorem l4Blanks_any (s : ByteArray) (k : Nat) (w : World) (hs : s.size ≤ 1048576) (hk : k ≤ s.size) :
    Calls Try.prog 87 #[.string s, .int .i64 k] w fun e w' => e = .returned (.int .i64 ((k + spn pB (s.data.toList.drop k) : Nat) : Int)) ∧ w' = w := by
  have hl := len_list s
  go_enter Try.func87, Try.ntmps87
  go_wp2
  go_loopw [1] (fun i wr => ∃ m : Nat, k ≤ m ∧ m ≤ s.size ∧ i = .int .i64 m ∧ (∀ j, k ≤ j → j < m → pB (s.data.toList.getD j 0) = true) ∧ wr = w) (fun i _ => s.size - (intOf i).toNat)
  case atStart => exact ⟨k, Nat.le_refl _, hk, rfl, fun j h1 h2 => by omega, rfl⟩
  case round =>
    obtain ⟨m, h1, h2, rfl, hn, rfl⟩ := hrel
    have HN := Hid.mk' hn
    clear hn
    by_cases hlt : m < s.size
    · have ci : (m : Int) < (s.size : Int) := by omega
      have G : Hid ((s[m]'hlt).toNat = (s.data.toList.getD m 0).toNat) := Hid.mk' (get_list rfl m hlt)
      by_cases hc : (s[m]'hlt).toNat = 32
      · have HC : Hid (pB (s.data.toList.getD m 0) = true) := Hid.mk' (by unfold pB; rw [← G.out]; simpa using hc)
        have hc' : ((s[m]'hlt).toNat : Int) = 32 := by omega
        clear G hc
        go_wp2_with go_big_skip
        go_roundw
        case rel => exact ⟨m + 1, by omega, by omega, by go_num, fun j a b => by
          by_cases h : j = m
          · subst h; exact HC.out
          · exact HN.out j a (by omega), by first | rfl | trivial⟩
        case measure => simp [intOf]; omega
      · have HC : Hid (pB (s.data.toList.getD m 0) = false) := Hid.mk' (by unfold pB; rw [← G.out]; simpa using hc)
        have E : Hid (k + spn pB (s.data.toList.drop k) = m) := Hid.mk' (spn_from h1 (by omega) HN.out (fun _ => HC.out))
        have hc' : ¬ ((s[m]'hlt).toNat : Int) = 32 := by omega
        clear G hc
        go_wp2_with go_big_skip
        go_ret
        exact ⟨ret_num (a := (m : Int)) (by have := E.out; omega), by first | rfl | trivial⟩
    · have ci : ¬ (m : Int) < (s.size : Int) := by omega
      have E : Hid (k + spn pB (s.data.toList.drop k) = m) := Hid.mk' (spn_from h1 (by omega) HN.out (fun h => by omega))
      go_wp2_with go_big_skip
      go_ret
      exact ⟨ret_num (a := (m : Int)) (by have := E.out; omega), by first | rfl | trivial⟩

theorem take_all (L : List UInt8) : ∀ c ∈ L.take (spn pL L), ltrB c.toNat = true := by
  intro c hc
  obtain ⟨i, hi, rfl⟩ := List.mem_iff_getElem.1 hc
  have hi' : i < spn pL L ∧ i < L.length := by simp at hi; omega
  have := spn_all pL L i hi'.1
  rw [List.getElem_take]
  simpa [pL, List.getD_eq_getElem?_getD, List.getElem?_eq_getElem hi'.2] using this

theorem nmB_take (s : ByteArray) (L : List UInt8) (h : s.data.toList = L.take (spn pL L)) : nmB s = (decide (1 ≤ spn pL L) && decide (spn pL L ≤ 8)) := by
  have hs : s.size = spn pL L := by
    rw [← len_list, h, List.length_take]
    have := spn_le pL L
    omega
  unfold nmB
  rw [hs, h, List.all_eq_true.2 (fun c hc => take_all L c hc), Bool.and_true]

theorem ba_ext {a b : ByteArray} (h : a.data.toList = b.data.toList) : a = b := by
  apply ByteArray.ext
  exact Array.toList_inj.1 h

theorem ext_size (s : ByteArray) (a b : Nat) : (s.extract a b).size ≤ s.size := by simp; omega

theorem own_shape {w : World} {base : Nat} {e : TypeId} {size : Nat} {v : Value} {n : Nat} {xs : List Value} (h : w.ownsRow base e size v n xs) : ∃ a c, v = .slice a n c := by
  rcases h.2 with ⟨hv, h0⟩ | ⟨g, cap, cur, hv, _⟩
  · exact ⟨none, 0, by rw [hv, h0]⟩
  · exact ⟨_, _, hv⟩

theorem own_of {w w' : World} {base base' : Nat} {e : TypeId} {size : Nat} {v : Value} {n : Nat} {xs : List Value} (h : w.ownsRow base e size v n xs) (hb : base' ≤ base) (hk : ∀ k, v.ownBlock = some k → base ≤ k → w'.heap[k]? = w.heap[k]?) : w'.ownsRow base' e size v n xs := by
  refine ⟨h.1, ?_⟩
  rcases h.2 with h0 | ⟨g, cap, cur, rfl, hg, hh, r⟩
  · exact .inl h0
  · exact .inr ⟨g, cap, cur, rfl, Nat.le_trans hb hg, by rw [hk g rfl hg]; exact hh, r⟩
theorem own_set {w : World} {base base' : Nat} {e : TypeId} {size : Nat} {v : Value} {n : Nat} {xs : List Value} (h : w.ownsRow base e size v n xs) (hb : base' ≤ base) {p : Addr} (hp : p.block < base) (u : Value) : (w.setCell p u).ownsRow base' e size v n xs :=
  own_of h hb fun k _ hk => Deep.blk_setCell_other _ _ _ _ (by omega)

def AttrP (r : Option (AT × Nat)) (k : Nat) (w : World) (e : Ending) (w' : World) : Prop := (match r with
      | none => e = .returned (.tuple #[.agg #[.string ⟨#[]⟩, .slice none 0 0], .int .i64 (-1)])
      | some (a, n) => ∃ u, e = .returned (.tuple #[.agg #[.string a.nm, u], .int .i64 ((k + n : Nat) : Int)]) ∧ w'.ownsRow w.heap.size 5 1 u a.vl.length (bcs a.vl)) ∧ Below w.heap.size w w'
theorem AttrP.no {r : Option (AT × Nat)} {k : Nat} {w w' : World} (h : r = none) (hb : Below w.heap.size w w') : AttrP r k w (.returned (.tuple #[.agg #[.string ⟨#[]⟩, .slice none 0 0], .int .i64 (-1)])) w' := by
  subst h; exact ⟨rfl, hb⟩

set_option maxRecDepth 100000 in
set_option maxHeartbeats 1600000 in
theorem l4Attr_any (s : ByteArray) (k : Nat) (w : World) (hs : s.size ≤ 1000) (hk : k ≤ s.size) :
    Calls Try.prog 88 #[.string s, .int .i64 k] w fun e w' => AttrP (attrA (s.data.toList.drop k)) k w e w' := by
  have hl := len_list s
  have B0 := (Below.refl w.heap.size w).alloc (Nat.le_refl _) (.cells #[.string ⟨#[]⟩, .slice none 0 0] 97)
  have HB := Hid.mk' B0
  clear B0
  generalize hn : spn pL (s.data.toList.drop k) = n
  have nle : k + n ≤ s.size := by
    have := spn_le pL (s.data.toList.drop k)
    rw [hn, List.length_drop] at this
    omega
  have KE := l4NameEnd_any s k (w.alloc (.cells #[.string ⟨#[]⟩, .slice none 0 0] 97)) (by omega) hk
  rw [hn] at KE
  have KE := Hid.mk' KE
  have NB : nmB (s.extract k (k + n)) = (decide (1 ≤ n) && decide (n ≤ 8)) := by
    rw [← hn]; exact nmB_take _ _ (by rw [ext_list, hn, show k + n - k = n from by omega])
  have KN := l4Name_any (s.extract k (k + n)) (w.alloc (.cells #[.string ⟨#[]⟩, .slice none 0 0] 97)) (by have := ext_size s k (k + n); omega)
  rw [NB] at KN
  clear NB
  have AN : Hid (¬ (((1 ≤ n ∧ n ≤ 8) ∧ k + n + 1 < s.size) ∧ ((s.data.toList.getD (k + n) 0).toNat = 61 ∧ (s.data.toList.getD (k + n + 1) 0).toNat = 34)) → attrA (s.data.toList.drop k) = none) := Hid.mk' (fun h => by
    unfold attrA
    rw [hn, if_neg]
    rw [getD_drop, getD_drop, List.length_drop]
    intro hc
    exact h ⟨⟨hc.1.1, by omega⟩, by rw [show k + n + 1 = k + (n + 1) from rfl]; exact hc.2⟩)
  have AY : Hid (∀ m, ((1 ≤ n ∧ n ≤ 8) ∧ k + n + 1 < s.size) ∧ ((s.data.toList.getD (k + n) 0).toNat = 61 ∧ (s.data.toList.getD (k + n + 1) 0).toNat = 34) → k + n + 2 + spn pQ (s.data.toList.drop (k + n + 2)) = m → attrA (s.data.toList.drop k) = if m < s.size then some (⟨s.extract k (k + n), decode (s.extract (k + n + 2) m).data.toList⟩, m + 1 - k) else none) := Hid.mk' (fun m h hm => by
    unfold attrA
    rw [hn, if_pos (by rw [getD_drop, getD_drop, List.length_drop]; exact ⟨⟨h.1.1, by omega⟩, h.2⟩)]
    rw [List.drop_drop, List.length_drop, show k + (n + 2) = k + n + 2 from by omega]
    have e1 : (⟨((s.data.toList.drop k).take n).toArray⟩ : ByteArray) = s.extract k (k + n) := ba_ext (by rw [ext_list, show k + n - k = n from by omega])
    have e2 : (s.extract (k + n + 2) m).data.toList = (s.data.toList.drop (k + n + 2)).take (spn pQ (s.data.toList.drop (k + n + 2))) := by rw [ext_list, show m - (k + n + 2) = spn pQ (s.data.toList.drop (k + n + 2)) from by omega]
    rw [e1, ← e2]
    by_cases hq : m < s.size
    · rw [if_pos hq, if_pos (by omega), show n + 2 + spn pQ (s.data.toList.drop (k + n + 2)) + 1 = m + 1 - k from by omega]
    · rw [if_neg hq, if_neg (by omega)])
  clear hn
  by_cases c1 : 1 ≤ n ∧ n ≤ 8
  rotate_left
  · have E := Hid.mk' (AN.out (fun h => c1 h.1.1))
    rw [show (decide (1 ≤ n) && decide (n ≤ 8)) = false from by simp; omega] at KN
    have KN := Hid.mk' KN
    clear AN AY c1
    go_enter Try.func88, Try.ntmps88
    go_wp2_with (first | go_big_skip | (go_at_call 86; refine KE.out.mono ?_; rintro e w1 ⟨rfl, rfl⟩) | (go_at_call 55; refine KN.out.mono ?_; rintro e w1 ⟨rfl, rfl⟩))
    exact bodyPost_ret (v := .tuple #[.agg #[.string ⟨#[]⟩, .slice none 0 0], .int .i64 (-1)]) (by simp [results, Try.results88, go_sem, *]) rfl (AttrP.no E.out HB.out)
  rw [show (decide (1 ≤ n) && decide (n ≤ 8)) = true from by simp; omega] at KN
  have KN := Hid.mk' KN
  by_cases c2 : k + n + 1 < s.size
  rotate_left
  · have E := Hid.mk' (AN.out (fun h => c2 h.1.2))
    have ci : (k : Int) + n + 1 ≥ (s.size : Int) := by omega
    clear AN AY c1 c2
    go_enter Try.func88, Try.ntmps88
    go_wp2_with (first | go_big_skip | (go_at_call 86; refine KE.out.mono ?_; rintro e w1 ⟨rfl, rfl⟩) | (go_at_call 55; refine KN.out.mono ?_; rintro e w1 ⟨rfl, rfl⟩))
    exact bodyPost_ret (v := .tuple #[.agg #[.string ⟨#[]⟩, .slice none 0 0], .int .i64 (-1)]) (by simp [results, Try.results88, go_sem, *]) rfl (AttrP.no E.out HB.out)
  have l1 : k + n < s.size := by omega
  have ci : ¬ (k : Int) + n + 1 ≥ (s.size : Int) := by omega
  have G1 : Hid ((s[k + n]'l1).toNat = (s.data.toList.getD (k + n) 0).toNat) := Hid.mk' (get_list rfl (k + n) l1)
  have G2 : Hid ((s[k + n + 1]'c2).toNat = (s.data.toList.getD (k + n + 1) 0).toNat) := Hid.mk' (get_list rfl (k + n + 1) c2)
  by_cases c3 : (s[k + n]'l1).toNat = 61
  rotate_left
  · have E := Hid.mk' (AN.out (fun h => c3 (by rw [G1.out]; exact h.2.1)))
    have d3 : (((s[k + n]'l1).toNat : Int) != 61) = true := by simp; omega
    clear AN AY c1 c3
    go_enter Try.func88, Try.ntmps88
    go_wp2_with (first | go_big_skip | (go_at_call 86; refine KE.out.mono ?_; rintro e w1 ⟨rfl, rfl⟩) | (go_at_call 55; refine KN.out.mono ?_; rintro e w1 ⟨rfl, rfl⟩))
    exact bodyPost_ret (v := .tuple #[.agg #[.string ⟨#[]⟩, .slice none 0 0], .int .i64 (-1)]) (by simp [results, Try.results88, go_sem, *]) rfl (AttrP.no E.out HB.out)
  have d3 : (((s[k + n]'l1).toNat : Int) != 61) = false := by simp; omega
  by_cases c4 : (s[k + n + 1]'c2).toNat = 34
  rotate_left
  · have E := Hid.mk' (AN.out (fun h => c4 (by rw [G2.out]; exact h.2.2)))
    have d4 : (((s[k + n + 1]'c2).toNat : Int) != 34) = true := by simp; omega
    clear AN AY c1 c3 c4
    go_enter Try.func88, Try.ntmps88
    go_wp2_with (first | go_big_skip | (go_at_call 86; refine KE.out.mono ?_; rintro e w1 ⟨rfl, rfl⟩) | (go_at_call 55; refine KN.out.mono ?_; rintro e w1 ⟨rfl, rfl⟩))
    exact bodyPost_ret (v := .tuple #[.agg #[.string ⟨#[]⟩, .slice none 0 0], .int .i64 (-1)]) (by simp [results, Try.results88, go_sem, *]) rfl (AttrP.no E.out HB.out)
  have d4 : (((s[k + n + 1]'c2).toNat : Int) != 34) = false := by simp; omega
  have AY : Hid (∀ m, k + n + 2 + spn pQ (s.data.toList.drop (k + n + 2)) = m → attrA (s.data.toList.drop k) = if m < s.size then some (⟨s.extract k (k + n), decode (s.extract (k + n + 2) m).data.toList⟩, m + 1 - k) else none) := Hid.mk' (fun m hm => AY.out m ⟨⟨c1, c2⟩, by rw [← G1.out]; exact c3, by rw [← G2.out]; exact c4⟩ hm)
  clear AN G1 G2 c3 c4
  go_enter Try.func88, Try.ntmps88
  go_wp2_with (first | go_big_skip | (go_at_call 86; refine KE.out.mono ?_; rintro e w1 ⟨rfl, rfl⟩) | (go_at_call 55; refine KN.out.mono ?_; rintro e w1 ⟨rfl, rfl⟩))
  clear d3 d4 KE KN
  generalize hw0 : w.alloc (.cells #[.string ⟨#[]⟩, .slice none 0 0] 97) = w0 at *
  go_loopw [8] (fun i wr => ∃ m : Nat, k + n + 2 ≤ m ∧ m ≤ s.size ∧ i = .int .i64 m ∧ (∀ j, k + n + 2 ≤ j → j < m → pQ (s.data.toList.getD j 0) = true) ∧ wr = w0) (fun i _ => s.size - (intOf i).toNat)
  case atStart => exact ⟨k + n + 2, Nat.le_refl _, by omega, by simp, fun j h1 h2 => by omega, rfl⟩
  case round =>
    obtain ⟨m, h1, h2, rfl, hq, rfl⟩ := hrel
    have HQ := Hid.mk' hq
    clear hq
    subst hw0
    by_cases hlt : m < s.size
    · have cm : (m : Int) < (s.size : Int) := by omega
      have G : Hid ((s[m]'hlt).toNat = (s.data.toList.getD m 0).toNat) := Hid.mk' (get_list rfl m hlt)
      by_cases hc : (s[m]'hlt).toNat = 34
      · have d5 : (((s[m]'hlt).toNat : Int) != 34) = false := by simp; omega
        have E := Hid.mk' (AY.out m (spn_from h1 (by omega) HQ.out (fun _ => by unfold pQ; rw [← G.out]; simpa using hc)))
        rw [if_pos hlt] at E
        have ne : ¬ (m : Int) = (s.size : Int) := by omega
        have KD := Hid.mk' (fun w1 => l2Decode_any (s.extract (k + n + 2) m) w1 (by have := ext_size s (k + n + 2) m; omega))
        have wr1 : IntKind.i64.wrap ((m : Int) + 1) = (m : Int) + 1 := by rw [IntKind.wrap_i64]; omega
        have fz0 : (w.alloc (.cells #[.string ⟨#[]⟩, .slice none 0 0] 97)).frozen? ⟨w.heap.size, 0, none⟩ = false := by simp
        have fz1 : (w.alloc (.cells #[.string ⟨#[]⟩, .slice none 0 0] 97)).frozen? ⟨w.heap.size, 1, none⟩ = false := by simp
        have sz0 : (w.alloc (.cells #[.string ⟨#[]⟩, .slice none 0 0] 97)).heap.size = w.heap.size + 1 := by simp
        have i1 : (0 : Int) ≤ (k : Int) := by omega
        have i2 : (k : Int) ≤ (k : Int) + n := by omega
        have i3 : (k : Int) + n ≤ (s.size : Int) := by omega
        have i4 : (0 : Int) ≤ (k : Int) + n + 2 := by omega
        have i5 : (k : Int) + n + 2 ≤ (m : Int) := by omega
        have i6 : (m : Int) ≤ (s.size : Int) := by omega
        have i7 : ((k : Int) + n).toNat = k + n := by omega
        have i8 : ((k : Int) + n + 2).toNat = k + n + 2 := by omega
        clear AY G hc
        go_wp2_with go_big_skip
        go_region_held3 (fun w' => w'.frozen? ⟨w.heap.size, 0, none⟩ = false) (simp [*])
          ((go_at_call 89; refine (KD.out _).mono ?_; rintro e w3 ⟨v3, rfl, gr3⟩; have hbx := undrew gr3.bl; obtain ⟨hx1, hx2⟩ := bcell hbx; obtain ⟨a3, c3, rfl⟩ := own_shape gr3.own; have zz : w.heap.size < (w.alloc (.cells #[.string ⟨#[]⟩, .slice none 0 0] 97)).heap.size := (by omega); have zy := hbx.size; have zx : w.heap.size < w3.heap.size := (by omega)))
        have HB3 := Hid.mk' (HB.out.trans (hbx.mono (by omega)))
        have GR := Hid.mk' gr3.own
        have q0 : w3.cell? ⟨w.heap.size, 0, none⟩ = some (.string ⟨#[]⟩) := (hbx.cell (p := ⟨w.heap.size, 0, none⟩) zz).trans (by simp)
        have q1 : w3.cell? ⟨w.heap.size, 1, none⟩ = some (.slice none 0 0) := (hbx.cell (p := ⟨w.heap.size, 1, none⟩) zz).trans (by simp)
        clear hx1 hx2 gr3 hbx i1 i2 i3 i4 i5 i6 i7 i8
        go_wp2
        refine bodyPost_ret (v := .tuple #[.agg #[.string (s.extract k (k + n)), .slice a3 (decode (s.extract (k + n + 2) m).data.toList).length c3], .int .i64 ((m : Int) + 1)]) (by simp [results, Try.results88, go_sem, *]) rfl ?_
        unfold AttrP
        rw [E.out]
        refine ⟨⟨_, by rw [show k + (m + 1 - k) = m + 1 from by omega]; rfl, ?_⟩, (HB3.out.setCell (p := ⟨w.heap.size, 0, none⟩) (Nat.le_refl _) _).setCell (p := ⟨w.heap.size, 1, none⟩) (Nat.le_refl _) _⟩
        exact own_set (own_set GR.out (Nat.le_refl _) (p := ⟨w.heap.size, 0, none⟩) (by simp) _) (by simp) (p := ⟨w.heap.size, 1, none⟩) (by simp) _
      · have d5 : (((s[m]'hlt).toNat : Int) != 34) = true := by simp; omega
        have HC : Hid (pQ (s.data.toList.getD m 0) = true) := Hid.mk' (by unfold pQ; rw [← G.out]; simpa using hc)
        clear G hc
        go_wp2_with go_big_skip
        go_roundw
        case rel => exact ⟨m + 1, by omega, by omega, by go_num, fun j a b => by
          by_cases h : j = m
          · subst h; exact HC.out
          · exact HQ.out j a (by omega), by first | rfl | trivial⟩
        case measure => simp [intOf]; omega
    · have cm : ¬ (m : Int) < (s.size : Int) := by omega
      have em : m = s.size := by omega
      subst em
      have E := Hid.mk' (AY.out s.size (spn_from h1 (by omega) HQ.out (fun h => by omega)))
      rw [if_neg hlt] at E
      clear AY
      go_wp2_with go_big_skip
      exact bodyPost_ret (v := .tuple #[.agg #[.string ⟨#[]⟩, .slice none 0 0], .int .i64 (-1)]) (by simp [results, Try.results88, go_sem, *]) rfl (AttrP.no E.out HB.out)

end Go.Proofs.Ytlaeomnacgjcgaa

namespace Go.Proofs.Ytlaeomnacgjcgaa
open Go.RowKit

def acs : List AT → List Value → List Value
  | a :: l, u :: us => .string a.nm :: u :: acs l us
  | _, _ => []
theorem acs_snoc : ∀ (l : List AT) (us : List Value) (a : AT) (u : Value), us.length = l.length → acs (l ++ [a]) (us ++ [u]) = acs l us ++ [.string a.nm, u]
  | [], [], a, u, _ => rfl
  | [], u :: us, _, _, h => by simp at h
  | b :: l, [], _, _, h => by simp at h
  | b :: l, v :: us, a, u, h => by
    simp only [List.cons_append, acs]
    rw [acs_snoc l us a u (by simpa using h)]
theorem acs_get : ∀ (l : List AT) (us : List Value) (k : Nat), us.length = l.length → k < l.length → (acs l us)[k * 2]? = some (.string (atK l k).nm) ∧ (acs l us)[k * 2 + 1]? = some (us.getD k undef)
  | [], us, k, h, hk => absurd hk (Nat.not_lt_zero _)
  | a :: l, [], k, h, hk => by simp at h
  | a :: l, u :: us, 0, h, hk => by simp [acs, atK]
  | a :: l, u :: us, k + 1, h, hk => by
    have := acs_get l us k (by simpa using h) (by simpa using hk)
    rw [show (k + 1) * 2 = k * 2 + 1 + 1 from by omega]
    simpa [acs, atK] using this

structure OA (lo : Nat) (w : World) (v : Value) (l : List AT) (us : List Value) : Prop where
  len : us.length = l.length
  row : w.ownsRow lo 97 2 v l.length (acs l us)
  val : ∀ j, j < l.length → OB w (us.getD j undef) (atK l j).vl
  vlo : ∀ j, j < l.length → ∀ k, (us.getD j undef).ownBlock = some k → lo ≤ k
  ap : ∀ i j, i < j → j < l.length → Ap (us.getD i undef) (us.getD j undef)
  av : ∀ j, j < l.length → Ap v (us.getD j undef)

theorem OA.nil (lo : Nat) (w : World) : OA lo w (.slice none 0 0) [] [] :=
  ⟨rfl, ⟨rfl, .inl ⟨rfl, rfl⟩⟩, fun j h => absurd h (Nat.not_lt_zero _), fun j h => absurd h (Nat.not_lt_zero _), fun i j _ h => absurd h (Nat.not_lt_zero _), fun j h => absurd h (Nat.not_lt_zero _)⟩

theorem OA.keep {lo lo' : Nat} {w w' : World} {v : Value} {l : List AT} {us : List Value} (h : OA lo w v l us) (hlo : lo' ≤ lo) (hk : ∀ k, lo ≤ k → k < w.heap.size → w'.heap[k]? = w.heap[k]?) : OA lo' w' v l us :=
  ⟨h.len, own_of h.row hlo (fun k e hl => hk k hl (h.row.lt k e).2), fun j hj => (h.val j hj).keep (fun k e hl => hk k (h.vlo j hj k e) hl), fun j hj k e => Nat.le_trans hlo (h.vlo j hj k e), h.ap, h.av⟩
theorem OA.below {lo : Nat} {w w' : World} {v : Value} {l : List AT} {us : List Value} (h : OA lo w v l us) (hb : Below w.heap.size w w') : OA lo w' v l us := h.keep (Nat.le_refl _) (fun k _ hl => hb.block k hl)

theorem own_bat {w : World} {base : Nat} {u : Value} {l : List Int} (h : w.ownsRow base 5 1 u l.length (bcs l)) : ∃ p c, u = .slice p l.length c ∧ BAt w p l := (OB.of_own h).1.len

theorem OA.at {lo : Nat} {w : World} {v : Value} {l : List AT} {us : List Value} (h : OA lo w v l us) : ∃ a c, v = .slice a l.length c ∧ AAt w a l := by
  rcases h.row.2 with ⟨rfl, h0⟩ | ⟨g, cap, cur, rfl, hg, hh, hc, hm, hs, ht⟩
  · exact ⟨none, 0, by rw [h0], .inl (List.eq_nil_of_length_eq_zero h0)⟩
  · refine ⟨_, _, rfl, .inr ⟨g, 0, rfl, ?_, fun k hk => ?_⟩⟩
    · exact Nat.lt_of_not_le fun hn => by rw [Array.getElem?_eq_none hn] at hh; cases hh
    · obtain ⟨h1, h2⟩ := acs_get l us k h.len hk
      obtain ⟨p, c, e, hb⟩ := (h.val k hk).len
      rw [← ht] at h1 h2
      rw [List.getElem?_take_of_lt (by omega)] at h1 h2
      have q : ∀ i, w.cell? ⟨g, i, none⟩ = cur[i]? := fun i => Lib.cell_of_heap hh i
      refine ⟨by rw [q, Nat.zero_add, ← h1]; simp, p, c, ?_, hb⟩
      rw [q, Nat.zero_add, ← e, ← h2]; simp

theorem OA.app {lo : Nat} {w w1 w2 : World} {v v' u : Value} {l : List AT} {us : List Value} {a : AT} (h : OA lo w v l us) (hw : Below w.heap.size w w1) (hu : OB w1 u a.vl) (hlo : lo ≤ w.heap.size) (hn : ∀ k, u.ownBlock = some k → w.heap.size ≤ k)
    (ho : w2.ownsRow lo 97 2 v' (l.length + 1) (acs l us ++ [.string a.nm, u])) (hg : w1.grownBy w2 v.ownBlock) (hv : v'.ownBlock = v.ownBlock ∨ v'.ownBlock = some w1.heap.size) : OA lo w2 v' (l ++ [a]) (us ++ [u]) := by
  have g1 : ∀ j, j < l.length → (us ++ [u]).getD j undef = us.getD j undef := fun j hj => by simp [List.getD_eq_getElem?_getD, List.getElem?_append_left (h.len.symm ▸ hj)]
  have g2 : (us ++ [u]).getD l.length undef = u := by simp [List.getD_eq_getElem?_getD, ← h.len]
  have a1 : ∀ j, j < l.length → atK (l ++ [a]) j = atK l j := fun j hj => by simp [atK, List.getD_eq_getElem?_getD, List.getElem?_append_left hj]
  have a2 : atK (l ++ [a]) l.length = a := by simp [atK, List.getD_eq_getElem?_getD]
  have old : ∀ j, j < l.length → ∀ k, (us.getD j undef).ownBlock = some k → k < w.heap.size := fun j hj k e => (h.val j hj).lt k e
  have vold : ∀ k, v.ownBlock = some k → k < w.heap.size := fun k e => (h.row.lt k e).2
  have ult : ∀ k, u.ownBlock = some k → k < w1.heap.size := fun k e => hu.lt k e
  have sz := hw.size
  have hvl : ∀ j, j < l.length → OB w2 (us.getD j undef) (atK l j).vl := fun j hj =>
    (h.val j hj).keep (fun k e _ => by
      rw [hg.block k (by have := old j hj k e; omega) (fun e2 => h.av j hj k e2.symm e), hw.block k (old j hj k e)])
  have huv : OB w2 u a.vl :=
    hu.keep (fun k e _ => hg.block k (ult k e) (fun e2 => by have := vold k e2.symm; have := hn k e; omega))
  refine ⟨by simp [h.len], ?_, fun j hj => ?_, fun j hj k e => ?_, fun i j hij hj => ?_, fun j hj => ?_⟩
  · rw [acs_snoc _ _ _ _ h.len, List.length_append]; exact ho
  · rw [List.length_append] at hj
    by_cases e : j = l.length
    · subst e; rw [g2, a2]; exact huv
    · rw [g1 j (by simp at hj; omega), a1 j (by simp at hj; omega)]; exact hvl j (by simp at hj; omega)
  · rw [List.length_append] at hj
    by_cases ej : j = l.length
    · subst ej; rw [g2] at e; have := hn k e; omega
    · rw [g1 j (by simp at hj; omega)] at e; exact h.vlo j (by simp at hj; omega) k e
  · rw [List.length_append] at hj
    rw [g1 i (by simp at hj; omega)]
    by_cases e : j = l.length
    · subst e; rw [g2]; intro k e1 e2; have := old i hij k e1; have := hn k e2; omega
    · rw [g1 j (by simp at hj; omega)]; exact h.ap i j hij (by simp at hj; omega)
  · rw [List.length_append] at hj
    intro k e1 e2
    rcases hv with hv | hv
    · rw [hv] at e1
      by_cases e : j = l.length
      · subst e; rw [g2] at e2; have := vold k e1; have := hn k e2; omega
      · rw [g1 j (by simp at hj; omega)] at e2; exact h.av j (by simp at hj; omega) k e1 e2
    · rw [hv] at e1
      cases e1
      by_cases e : j = l.length
      · subst e; rw [g2] at e2; have := ult _ e2; omega
      · rw [g1 j (by simp at hj; omega)] at e2; have := old j (by simp at hj; omega) _ e2; omega

theorem one_attr (w : World) (t : TypeId) (x y : Value) (g : Nat) (hg : w.heap.size = g) : ∀ j u, ([x, y] : List Value)[j]? = some u → (w.alloc (.cells #[x, y] t)).cell? ((⟨g, 0, none⟩ : Addr).add j) = some u := by
  intro j u h
  subst hg
  match j, h with
  | 0, h => cases h; simp [Addr.add]
  | 1, h => cases h; simp [Addr.add]
  | j + 2, h => simp at h

end Go.Proofs.Ytlaeomnacgjcgaa
