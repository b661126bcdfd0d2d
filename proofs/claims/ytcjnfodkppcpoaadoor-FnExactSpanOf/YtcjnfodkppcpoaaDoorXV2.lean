/- The program's side: a token's form. -/
import Derived.Test.YtcjnfodkppcpoaaDoorXV1
import Derived.Maps.OwnSet
import Derived.Maps.AppendAt
import Derived.SliceStrings
namespace Go.Proofs.YtcjnfodkppcpoaaDoor
open Go.RowKit
set_option linter.unusedVariables false

set_option maxHeartbeats 3200000 in
theorem hasForm_any (t : TK) (a : Option Addr) (c : Nat) (w : World) :
    Calls Tryd.prog 86 #[.agg #[.int .i64 t.kd, .int .i64 t.by_, .string t.nm, .slice a t.at_.length c, .bool t.sh]] w fun e w' => e = .returned (.bool (tform t)) ∧ Below w.heap.size w w' := by
  have HB := Hid.mk' (below_new w (.cells #[.int .i64 t.kd, .int .i64 t.by_, .string t.nm, .slice a t.at_.length c, .bool t.sh] 105))
  by_cases k1 : 1 ≤ t.kd ∧ t.kd ≤ 4
  · have kk : t.kd = 1 ∨ t.kd = 2 ∨ t.kd = 3 ∨ t.kd = 4 := by omega
    rcases kk with e | e | e | e
    all_goals
      rw [e]
      have E := Hid.mk' e
      clear e k1
      go_enter Tryd.func86, Tryd.ntmps86
      go_wp2_with go_big_skip
    all_goals go_ret
    all_goals
      have e := E.out
      refine ⟨?_, (below_new w _)⟩
      by_cases hz : t.by_ = 0 <;> first | contradiction | (simp [tform, *])
  · have E : Hid (tform t = false) := Hid.mk' (by
      unfold tform
      rw [show (decide (1 ≤ t.kd) && decide (t.kd ≤ 4)) = false by simp; omega]
      simp)
    have n1 : ¬ t.kd = 1 := by omega
    have n2 : ¬ t.kd = 2 := by omega
    have n3 : ¬ t.kd = 3 := by omega
    have n4 : ¬ t.kd = 4 := by omega
    clear k1
    go_enter Tryd.func86, Tryd.ntmps86
    go_wp2_with go_big_skip
    go_ret
    exact ⟨by rw [E.out]; rfl, below_new w _⟩

end Go.Proofs.YtcjnfodkppcpoaaDoor

/- The program's side: attributes that stand twice are found by a map. -/
namespace Go.Proofs.YtcjnfodkppcpoaaDoor
open Go.RowKit Go.Maps
set_option linter.unusedVariables false

theorem toList_loop (s : ByteArray) : ∀ (n i : Nat) (r : List UInt8), s.size - i = n → ByteArray.toList.loop s i r = r.reverse ++ s.data.toList.drop i := by
  intro n
  induction n with
  | zero =>
    intro i r h
    rw [ByteArray.toList.loop, if_neg (by omega)]
    have h2 : s.data.toList.length ≤ i := by
      have : s.data.toList.length = s.size := by simp
      omega
    rw [List.drop_eq_nil_of_le h2, List.append_nil]
  | succ n ih =>
    intro i r h
    have hi : i < s.size := by omega
    rw [ByteArray.toList.loop, if_pos hi, ih (i + 1) _ (by omega)]
    have h2 : i < s.data.toList.length := by
      have : s.data.toList.length = s.size := by simp
      omega
    rw [List.drop_eq_getElem_cons h2, List.reverse_cons, List.append_assoc]
    congr 1
    show [s.get! i] ++ _ = _
    have e : s.get! i = s.data.toList[i] := by
      show s.data[i]! = _
      rw [getElem!_pos s.data i (by simpa using h2)]
      simp
    rw [e]; rfl
theorem toList_data (s : ByteArray) : s.toList = s.data.toList := by
  unfold ByteArray.toList
  rw [toList_loop s _ 0 [] rfl]
  simp

/-- The set of the names of the first k. -/
def keyL (x : AT) : Lit := .string x.nm.data.toList
def Sd (l : List AT) (k : Nat) : DataW Unit := setOf (.agg []) ((l.take k).map keyL)

theorem pos_any (s : ByteArray) : ∀ (l : List AT) (n : Nat), decide (0 ≤ posFrom l s n) = l.any (fun x => x.nm.toList == s.toList)
  | [], n => by simp [posFrom]
  | x :: r, n => by
    unfold posFrom
    rw [List.any_cons, ← pos_any s r (n + 1)]
    cases h : (x.nm.toList == s.toList) with
    | true => simp
    | false => simp

theorem has_Sd (l : List AT) (k : Nat) (s : ByteArray) : Maps.has (Sd l k) (.string s.data.toList) = decide (0 ≤ posK (l.take k) s) := by
  unfold Sd posK
  rw [has_setOf _ _ _ (fun y hy => by obtain ⟨_, _, rfl⟩ := List.mem_map.1 hy; trivial), List.any_map, pos_any]
  congr 1
  funext x
  show (x.nm.data.toList == s.data.toList) = (x.nm.toList == s.toList)
  rw [toList_data, toList_data]

theorem Sd_step {l : List AT} {k : Nat} (hk : k < l.length) : Sd l (k + 1) = (Sd l k).put (.string (atK l k).nm.data.toList) (.agg []) := by
  have e2 : l.take (k + 1) = l.take k ++ [atK l k] := by
    rw [List.take_succ_eq_append_getElem hk]
    unfold atK
    rw [List.getD_eq_getElem?_getD, List.getElem?_eq_getElem hk]; rfl
  unfold Sd
  rw [e2, List.map_append]
  exact setOf_snoc _ _ _

theorem law9 : Keyed Tryd.prog 9 := string_keyed Tryd.underlying9
theorem zeroU (w : World) : (zeroValue 136).run Tryd.prog w = .ok (.agg #[]) w := by kernel_rfl

set_option maxRecDepth 100000 in
set_option maxHeartbeats 3200000 in
theorem attrsFault_any (a : Option Addr) (c : Nat) (l : List AT) (w : World) (ha : AAt w a l) (hl : (l.length : Int) + asz l ≤ 1048576) :
    Calls Tryd.prog 88 #[.slice a l.length c] w fun e w' => e = .returned (.int .i64 (afault l)) ∧ Below w.heap.size w w' := by
  have hmm := @run_makeMap Tryd.prog
  have HA := Hid.mk' ha
  clear ha
  go_enter Tryd.func88, Tryd.ntmps88
  go_wp2
  go_loopw [11] (fun i wr => ∃ k : Nat, k ≤ l.length ∧ i = .int .i64 k ∧ wr.ownsMap Tryd.prog 9 unitElem w.heap.size k (Sd l k) ∧ afault l = afR (l.take k) (l.drop k) ∧ Below w.heap.size w wr) (fun i _ => l.length - (intOf i).toNat)
  case atStart => exact ⟨0, Nat.zero_le _, rfl, World.ownsMap_made _ _ _ _, rfl, (Below.refl _ _).alloc (Nat.le_refl _) _⟩
  case round =>
    obtain ⟨k, hk, rfl, hown, hf, hbl⟩ := hrel
    have HF := Hid.mk' hf
    have HB := Hid.mk' hbl
    have HW := Hid.mk' hown
    clear hmm
    by_cases hlt : k < l.length
    · have ci : (k : Int) < (l.length : Int) := by omega
      have HS := Hid.mk' (afR_step hlt)
      rcases HA.out with ha | ⟨b, o, rfl, hbs, hcl⟩
      · exact absurd hlt (by rw [ha]; exact Nat.not_lt_zero _)
      obtain ⟨q1, p, d, q2, _⟩ := hcl k hlt
      have h1 : wr.cell? ⟨b, o + k * 2, none⟩ = some (.string (atK l k).nm) := (hbl.cell hbs).trans q1
      have h2 : wr.cell? ⟨b, o + k * 2 + 1, none⟩ = some (.slice p (atK l k).vl.length d) := (hbl.cell hbs).trans q2
      have st := asz_take l k hlt
      have sl := asz_le l (k + 1)
      have HK := Hid.mk' (WideMaps.keyOf_string_mk (P := Tryd.prog) Tryd.underlying9 (s := (atK l k).nm) (by unfold maxLen; omega))
      have hh := has_Sd l k (atK l k).nm
      have SS := Hid.mk' (Sd_step hlt)
      have KN : Hid (∀ W : World, Calls Tryd.prog 87 #[.string (atK l k).nm] W fun e w' => e = .returned (.bool (nmB (atK l k).nm)) ∧ w' = W) := fun W => isName_any _ W (by omega)
      clear hf hbl hcl hown q1 q2 st sl
      generalize hnm : (atK l k).nm = nm at *
      generalize hvn : (atK l k).vl.length = vn at *
      cases hn : nmB nm with
      | false =>
        rw [hn] at KN HS
        go_wp2_with fail
        refine (KN.out _).mono ?_
        rintro e w1 ⟨rfl, rfl⟩
        go_wp2
        go_ret
        refine ⟨?_, HB.out.alloc HB.out.size _⟩
        rw [HF.out, HS.out]
        rfl
      | true =>
        rw [hn] at KN HS
        rw [if_pos rfl] at HS
        by_cases hp : 0 ≤ posK (l.take k) nm
        · rw [decide_eq_true hp] at hh
          have HE : Hid (afault l = 1) := Hid.mk' (by rw [HF.out, HS.out, if_pos hp])
          clear HS hp
          go_wp2_with (first | (go_at_call 87; refine (KN.out _).mono ?_; rintro e w1 ⟨rfl, rfl⟩) | (at_lookup; refine wpList_lookup_own_unit _ rfl _ _ 135 rfl 9 136 law9 Tryd.underlying135 (zeroU _) w.heap.size k (Sd l k) rfl (HW.out.alloc _) _ _ rfl HK.out ?_) | go_in)
          go_ret
          exact ⟨by rw [HE.out]; rfl, (HB.out.alloc HB.out.size _).alloc (by have := HB.out.size; simp; omega) _⟩
        · rw [decide_eq_false hp] at hh
          have HE : Hid (afault l = afR (l.take (k + 1)) (l.drop (k + 1))) := Hid.mk' (by rw [HF.out, HS.out, if_neg hp])
          clear HS hp
          go_wp2_with (first | (go_at_call 87; refine (KN.out _).mono ?_; rintro e w1 ⟨rfl, rfl⟩) | (at_lookup; refine wpList_lookup_own_unit _ rfl _ _ 135 rfl 9 136 law9 Tryd.underlying135 (zeroU _) w.heap.size k (Sd l k) rfl (HW.out.alloc _) _ _ rfl HK.out ?_) | (at_mapUpdate; refine wpList_mapUpdate_own _ rfl _ _ _ 135 rfl 9 136 law9 Tryd.underlying135 (unitElem (H := Unit)) w.heap.size k (Sd l k) rfl ((HW.out.alloc _).alloc _) (by unfold maxLen; omega) _ _ _ rfl rfl HK.out _ [] unitElem_mk ?_; intro w1 hown1 hgrow1) | go_in)
          go_roundw
          case rel => exact ⟨k + 1, by omega, by go_num, by rw [SS.out]; exact hown1, HE.out, ((HB.out.alloc HB.out.size _).alloc (by have := HB.out.size; simp; omega) _).grown hgrow1 (by have := HB.out.size; simp; omega) (fun j hj => by cases hj; exact Nat.le_refl _)⟩
          case measure => simp [intOf]; omega
    · have ci : ¬ (k : Int) < (l.length : Int) := by omega
      have e : k = l.length := by omega
      subst e
      go_wp2
      go_ret
      refine ⟨?_, HB.out⟩
      have h := HF.out
      rw [List.drop_length, List.take_length] at h
      first | rfl | (rw [h]; rfl)

end Go.Proofs.YtcjnfodkppcpoaaDoor

/- The program's TokenFault, and the law on it. -/
namespace Go.Proofs.YtcjnfodkppcpoaaDoor
open Go.RowKit
set_option linter.unusedVariables false
set_option linter.unusedSimpArgs false

set_option maxHeartbeats 3200000 in
theorem implTF_any (t : TK) (a : Option Addr) (c : Nat) (w : World) (ha : AAt w a t.at_) (hn : (t.nm.size : Int) ≤ 1048576) (hl : (t.at_.length : Int) + asz t.at_ ≤ 1048576) :
    Calls Tryd.prog 76 #[.agg #[.int .i64 t.kd, .int .i64 t.by_, .string t.nm, .slice a t.at_.length c, .bool t.sh]] w fun e w' => e = .returned (.int .i64 (tfault t)) ∧ Below w.heap.size w w' := by
  have N0 := below_new w (.cells #[.int .i64 t.kd, .int .i64 t.by_, .string t.nm, .slice a t.at_.length c, .bool t.sh] 105)
  have KF := Hid.mk' (hasForm_any t a c (w.alloc (.cells #[.int .i64 t.kd, .int .i64 t.by_, .string t.nm, .slice a t.at_.length c, .bool t.sh] 105)))
  have HP := Hid.mk' (row5 w 105 (.int .i64 t.kd) (.int .i64 t.by_) (.string t.nm) (.slice a t.at_.length c) (.bool t.sh))
  have HA := Hid.mk' (ha.below N0)
  have HB := Hid.mk' N0
  clear ha N0
  go_enter Tryd.func76, Tryd.ntmps76
  go_wp2_with fail
  refine KF.out.mono ?_
  rintro e w1 ⟨rfl, hb⟩
  have HA := Hid.mk' (HA.out.below hb)
  have HP := Hid.mk' (rowB HP.out hb)
  have HB := Hid.mk' (HB.out.trans (hb.mono HB.out.size))
  obtain ⟨c0, c1, c2, c3, c4, c5⟩ := cells5 HP.out
  clear hb KF HP
  have KN := isName_any t.nm w1 (by omega)
  have KA := Hid.mk' (attrsFault_any a c t.at_ w1 HA.out hl)
  cases hf : tform t with
  | false =>
    have E : Hid (tfault t = 1) := Hid.mk' (by unfold tfault; rw [hf]; rfl)
    clear KN
    go_wp2
    go_ret
    exact ⟨by rw [E.out]; rfl, HB.out⟩
  | true =>
    by_cases hb : 0 ≤ t.by_ ∧ t.by_ ≤ 255
    · have y1 : ¬ t.by_ < 0 := by omega
      have y2 : ¬ t.by_ > 255 := by omega
      by_cases hk : t.kd = 2 ∨ t.kd = 3
      · cases hnm : nmB t.nm with
        | false =>
          rw [hnm] at KN
          have KN := Hid.mk' KN
          have E : Hid (tfault t = 5) := Hid.mk' (by unfold tfault; rw [if_pos hf, if_pos hb, if_pos ⟨hk, hnm⟩])
          clear hb
          rcases hk with e | e
          all_goals
            rw [e] at c0
            clear e
            go_wp2_with (first | go_big_skip | (go_at_call 87; refine KN.out.mono ?_; rintro e w2 ⟨rfl, rfl⟩))
            go_ret
            exact ⟨by rw [E.out]; rfl, HB.out⟩
        | true =>
          rw [hnm] at KN
          have KN := Hid.mk' KN
          have E : Hid (tfault t = afault t.at_) := Hid.mk' (by unfold tfault; rw [if_pos hf, if_pos hb, if_neg (by rw [hnm]; simp)])
          clear hb
          rcases hk with e | e
          all_goals
            rw [e] at c0
            clear e
            go_wp2_with (first | go_big_skip | (go_at_call 87; refine KN.out.mono ?_; rintro e w2 ⟨rfl, rfl⟩) | (go_at_call 88; refine KA.out.mono ?_; rintro e w2 ⟨rfl, hbb⟩; have HB := Hid.mk' (HB.out.trans (hbb.mono HB.out.size)); clear hbb))
            go_ret
            exact ⟨by rw [E.out]; rfl, HB.out⟩
      · have n2 : ¬ t.kd = 2 := fun e => hk (.inl e)
        have n3 : ¬ t.kd = 3 := fun e => hk (.inr e)
        have E : Hid (tfault t = afault t.at_) := Hid.mk' (by unfold tfault; rw [if_pos hf, if_pos hb, if_neg (fun h => hk h.1)])
        clear hb hk KN
        go_wp2_with (first | go_big_skip | (go_at_call 88; refine KA.out.mono ?_; rintro e w2 ⟨rfl, hbb⟩; have HB := Hid.mk' (HB.out.trans (hbb.mono HB.out.size)); clear hbb))
        go_ret
        exact ⟨by rw [E.out]; rfl, HB.out⟩
    · have E : Hid (tfault t = 3) := Hid.mk' (by unfold tfault; rw [if_pos hf, if_neg hb])
      clear KN
      by_cases y1 : t.by_ < 0
      · clear hb
        go_wp2_with go_big_skip
        go_ret
        exact ⟨by rw [E.out]; rfl, HB.out⟩
      · have y2 : t.by_ > 255 := by omega
        clear hb
        go_wp2_with go_big_skip
        go_ret
        exact ⟨by rw [E.out]; rfl, HB.out⟩

end Go.Proofs.YtcjnfodkppcpoaaDoor
