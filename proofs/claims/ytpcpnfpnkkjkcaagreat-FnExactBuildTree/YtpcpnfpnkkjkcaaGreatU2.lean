/- The program's side: attributes that stand twice are found by a map. -/
import Derived.Test.YtpcpnfpnkkjkcaaGreatU1
import Derived.Maps.OwnSet
import Derived.Maps.AppendAt
import Derived.SliceStrings
import Derived.WalkKit
import Derived.Laws.CopyOwn
import Derived.Deep.MidRow
namespace Go.Proofs.YtpcpnfpnkkjkcaaGreat
open Go.RowKit Go.Maps
set_option linter.unusedVariables false

theorem toList_loop (s : ByteArray) : ∀ (n i : Nat) (r : List UInt8), s.size - i = n → ByteArray.toList.loop s i r = r.reverse ++ s.data.toList.drop i := by
  intro n
  induction n with
  | zero =>
    intro i r h
    rw [ByteArray.toList.loop, if_neg (by omega)]
    have h2 : s.data.toList.length ≤ i := by
      have : s.data.toList.length = s.size := by simp
      omega
    rw [List.drop_eq_nil_of_le h2, List.append_nil]
  | succ n ih =>
    intro i r h
    have hi : i < s.size := by omega
    rw [ByteArray.toList.loop, if_pos hi, ih (i + 1) _ (by omega)]
    have h2 : i < s.data.toList.length := by
      have : s.data.toList.length = s.size := by simp
      omega
    rw [List.drop_eq_getElem_cons h2, List.reverse_cons, List.append_assoc]
    congr 1
    show [s.get! i] ++ _ = _
    have e : s.get! i = s.data.toList[i] := by
      show s.data[i]! = _
      rw [getElem!_pos s.data i (by simpa using h2)]
      simp
    rw [e]; rfl
theorem toList_data (s : ByteArray) : s.toList = s.data.toList := by
  unfold ByteArray.toList
  rw [toList_loop s _ 0 [] rfl]
  simp

/-- The set of the names of the first k. -/
def keyL (x : AT) : Lit := .string x.nm.data.toList
def Sd (l : List AT) (k : Nat) : DataW Unit := setOf (.agg []) ((l.take k).map keyL)

theorem pos_any (s : ByteArray) : ∀ (l : List AT) (n : Nat), decide (0 ≤ posFrom l s n) = l.any (fun x => x.nm.toList == s.toList)
  | [], n => by simp [posFrom]
  | x :: r, n => by
    unfold posFrom
    rw [List.any_cons, ← pos_any s r (n + 1)]
    cases h : (x.nm.toList == s.toList) with
    | true => simp
    | false => simp

theorem has_Sd (l : List AT) (k : Nat) (s : ByteArray) : Maps.has (Sd l k) (.string s.data.toList) = decide (0 ≤ posK (l.take k) s) := by
  unfold Sd posK
  rw [has_setOf _ _ _ (fun y hy => by obtain ⟨_, _, rfl⟩ := List.mem_map.1 hy; trivial), List.any_map, pos_any]
  congr 1
  funext x
  show (x.nm.data.toList == s.data.toList) = (x.nm.toList == s.toList)
  rw [toList_data, toList_data]

theorem Sd_step {l : List AT} {k : Nat} (hk : k < l.length) : Sd l (k + 1) = (Sd l k).put (.string (atK l k).nm.data.toList) (.agg []) := by
  have e2 : l.take (k + 1) = l.take k ++ [atK l k] := by
    rw [List.take_succ_eq_append_getElem hk]
    unfold atK
    rw [List.getD_eq_getElem?_getD, List.getElem?_eq_getElem hk]; rfl
  unfold Sd
  rw [e2, List.map_append]
  exact setOf_snoc _ _ _

theorem law9 : Keyed Tryz.prog 9 := string_keyed Tryz.underlying9
theorem zeroU (w : World) : (zeroValue 158).run Tryz.prog w = .ok (.agg #[]) w := by kernel_rfl

set_option maxRecDepth 100000 in
set_option maxHeartbeats 3200000 in
theorem attrsFault_any (a : Option Addr) (c : Nat) (l : List AT) (w : World) (ha : AAt w a l) (hl : (l.length : Int) + asz l ≤ 1048576) :
    Calls Tryz.prog 104 #[.slice a l.length c] w fun e w' => e = .returned (.int .i64 (afault l)) ∧ Below w.heap.size w w' := by
  have hmm := @run_makeMap Tryz.prog
  have HA := Hid.mk' ha
  clear ha
  go_enter Tryz.func104, Tryz.ntmps104
  go_wp2
  go_loopw [11] (fun i wr => ∃ k : Nat, k ≤ l.length ∧ i = .int .i64 k ∧ wr.ownsMap Tryz.prog 9 unitElem w.heap.size k (Sd l k) ∧ afault l = afR (l.take k) (l.drop k) ∧ Below w.heap.size w wr) (fun i _ => l.length - (intOf i).toNat)
  case atStart => exact ⟨0, Nat.zero_le _, rfl, World.ownsMap_made _ _ _ _, rfl, (Below.refl _ _).alloc (Nat.le_refl _) _⟩
  case round =>
    obtain ⟨k, hk, rfl, hown, hf, hbl⟩ := hrel
    have HF := Hid.mk' hf
    have HB := Hid.mk' hbl
    have HW := Hid.mk' hown
    clear hmm
    by_cases hlt : k < l.length
    · have ci : (k : Int) < (l.length : Int) := by omega
      have HS := Hid.mk' (afR_step hlt)
      rcases HA.out with ha | ⟨b, o, rfl, hbs, hcl⟩
      · exact absurd hlt (by rw [ha]; exact Nat.not_lt_zero _)
      obtain ⟨q1, p, d, q2, _⟩ := hcl k hlt
      have h1 : wr.cell? ⟨b, o + k * 2, none⟩ = some (.string (atK l k).nm) := (hbl.cell hbs).trans q1
      have h2 : wr.cell? ⟨b, o + k * 2 + 1, none⟩ = some (.slice p (atK l k).vl.length d) := (hbl.cell hbs).trans q2
      have st := asz_take l k hlt
      have sl := asz_le l (k + 1)
      have HK := Hid.mk' (WideMaps.keyOf_string_mk (P := Tryz.prog) Tryz.underlying9 (s := (atK l k).nm) (by unfold maxLen; omega))
      have hh := has_Sd l k (atK l k).nm
      have SS := Hid.mk' (Sd_step hlt)
      have KN : Hid (∀ W : World, Calls Tryz.prog 103 #[.string (atK l k).nm] W fun e w' => e = .returned (.bool (nmB (atK l k).nm)) ∧ w' = W) := fun W => isName_any _ W (by omega)
      clear hf hbl hcl hown q1 q2 st sl
      generalize hnm : (atK l k).nm = nm at *
      generalize hvn : (atK l k).vl.length = vn at *
      cases hn : nmB nm with
      | false =>
        rw [hn] at KN HS
        go_wp2_with fail
        refine (KN.out _).mono ?_
        rintro e w1 ⟨rfl, rfl⟩
        go_wp2
        go_ret
        refine ⟨?_, HB.out.alloc HB.out.size _⟩
        rw [HF.out, HS.out]
        rfl
      | true =>
        rw [hn] at KN HS
        rw [if_pos rfl] at HS
        by_cases hp : 0 ≤ posK (l.take k) nm
        · rw [decide_eq_true hp] at hh
          have HE : Hid (afault l = 1) := Hid.mk' (by rw [HF.out, HS.out, if_pos hp])
          clear HS hp
          go_wp2_with (first | (go_at_call 103; refine (KN.out _).mono ?_; rintro e w1 ⟨rfl, rfl⟩) | (at_lookup; refine wpList_lookup_own_unit _ rfl _ _ 166 rfl 9 158 law9 Tryz.underlying166 (zeroU _) w.heap.size k (Sd l k) rfl (HW.out.alloc _) _ _ rfl HK.out ?_) | go_in)
          go_ret
          exact ⟨by rw [HE.out]; rfl, (HB.out.alloc HB.out.size _).alloc (by have := HB.out.size; simp; omega) _⟩
        · rw [decide_eq_false hp] at hh
          have HE : Hid (afault l = afR (l.take (k + 1)) (l.drop (k + 1))) := Hid.mk' (by rw [HF.out, HS.out, if_neg hp])
          clear HS hp
          go_wp2_with (first | (go_at_call 103; refine (KN.out _).mono ?_; rintro e w1 ⟨rfl, rfl⟩) | (at_lookup; refine wpList_lookup_own_unit _ rfl _ _ 166 rfl 9 158 law9 Tryz.underlying166 (zeroU _) w.heap.size k (Sd l k) rfl (HW.out.alloc _) _ _ rfl HK.out ?_) | (at_mapUpdate; refine wpList_mapUpdate_own _ rfl _ _ _ 166 rfl 9 158 law9 Tryz.underlying166 (unitElem (H := Unit)) w.heap.size k (Sd l k) rfl ((HW.out.alloc _).alloc _) (by unfold maxLen; omega) _ _ _ rfl rfl HK.out _ [] unitElem_mk ?_; intro w1 hown1 hgrow1) | go_in)
          go_roundw
          case rel => exact ⟨k + 1, by omega, by go_num, by rw [SS.out]; exact hown1, HE.out, ((HB.out.alloc HB.out.size _).alloc (by have := HB.out.size; simp; omega) _).grown hgrow1 (by have := HB.out.size; simp; omega) (fun j hj => by cases hj; exact Nat.le_refl _)⟩
          case measure => simp [intOf]; omega
    · have ci : ¬ (k : Int) < (l.length : Int) := by omega
      have e : k = l.length := by omega
      subst e
      go_wp2
      go_ret
      refine ⟨?_, HB.out⟩
      have h := HF.out
      rw [List.drop_length, List.take_length] at h
      first | rfl | (rw [h]; rfl)

end Go.Proofs.YtpcpnfpnkkjkcaaGreat

/- The program's TokenFault, and the law on it. -/
namespace Go.Proofs.YtpcpnfpnkkjkcaaGreat
open Go.RowKit
set_option linter.unusedVariables false
set_option linter.unusedSimpArgs false

set_option maxHeartbeats 3200000 in
theorem implTF_any (t : TK) (a : Option Addr) (c : Nat) (w : World) (ha : AAt w a t.at_) (hn : (t.nm.size : Int) ≤ 1048576) (hl : (t.at_.length : Int) + asz t.at_ ≤ 1048576) :
    Calls Tryz.prog 73 #[.agg #[.int .i64 t.kd, .int .i64 t.by_, .string t.nm, .slice a t.at_.length c, .bool t.sh]] w fun e w' => e = .returned (.int .i64 (tfault t)) ∧ Below w.heap.size w w' := by
  have N0 := below_new w (.cells #[.int .i64 t.kd, .int .i64 t.by_, .string t.nm, .slice a t.at_.length c, .bool t.sh] 40)
  have KF := Hid.mk' (hasForm_any t a c (w.alloc (.cells #[.int .i64 t.kd, .int .i64 t.by_, .string t.nm, .slice a t.at_.length c, .bool t.sh] 40)))
  have HP := Hid.mk' (row5 w 40 (.int .i64 t.kd) (.int .i64 t.by_) (.string t.nm) (.slice a t.at_.length c) (.bool t.sh))
  have HA := Hid.mk' (ha.below N0)
  have HB := Hid.mk' N0
  clear ha N0
  go_enter Tryz.func73, Tryz.ntmps73
  go_wp2_with fail
  refine KF.out.mono ?_
  rintro e w1 ⟨rfl, hb⟩
  have HA := Hid.mk' (HA.out.below hb)
  have HP := Hid.mk' (rowB HP.out hb)
  have HB := Hid.mk' (HB.out.trans (hb.mono HB.out.size))
  obtain ⟨c0, c1, c2, c3, c4, c5⟩ := cells5 HP.out
  clear hb KF HP
  have KN := isName_any t.nm w1 (by omega)
  have KA := Hid.mk' (attrsFault_any a c t.at_ w1 HA.out hl)
  cases hf : tform t with
  | false =>
    have E : Hid (tfault t = 1) := Hid.mk' (by unfold tfault; rw [hf]; rfl)
    clear KN
    go_wp2
    go_ret
    exact ⟨by rw [E.out]; rfl, HB.out⟩
  | true =>
    by_cases hb : 0 ≤ t.by_ ∧ t.by_ ≤ 255
    · have y1 : ¬ t.by_ < 0 := by omega
      have y2 : ¬ t.by_ > 255 := by omega
      by_cases hk : t.kd = 2 ∨ t.kd = 3
      · cases hnm : nmB t.nm with
        | false =>
          rw [hnm] at KN
          have KN := Hid.mk' KN
          have E : Hid (tfault t = 5) := Hid.mk' (by unfold tfault; rw [if_pos hf, if_pos hb, if_pos ⟨hk, hnm⟩])
          clear hb
          rcases hk with e | e
          all_goals
            rw [e] at c0
            clear e
            go_wp2_with (first | go_big_skip | (go_at_call 103; refine KN.out.mono ?_; rintro e w2 ⟨rfl, rfl⟩))
            go_ret
            exact ⟨by rw [E.out]; rfl, HB.out⟩
        | true =>
          rw [hnm] at KN
          have KN := Hid.mk' KN
          have E : Hid (tfault t = afault t.at_) := Hid.mk' (by unfold tfault; rw [if_pos hf, if_pos hb, if_neg (by rw [hnm]; simp)])
          clear hb
          rcases hk with e | e
          all_goals
            rw [e] at c0
            clear e
            go_wp2_with (first | go_big_skip | (go_at_call 103; refine KN.out.mono ?_; rintro e w2 ⟨rfl, rfl⟩) | (go_at_call 104; refine KA.out.mono ?_; rintro e w2 ⟨rfl, hbb⟩; have HB := Hid.mk' (HB.out.trans (hbb.mono HB.out.size)); clear hbb))
            go_ret
            exact ⟨by rw [E.out]; rfl, HB.out⟩
      · have n2 : ¬ t.kd = 2 := fun e => hk (.inl e)
        have n3 : ¬ t.kd = 3 := fun e => hk (.inr e)
        have E : Hid (tfault t = afault t.at_) := Hid.mk' (by unfold tfault; rw [if_pos hf, if_pos hb, if_neg (fun h => hk h.1)])
        clear hb hk KN
        go_wp2_with (first | go_big_skip | (go_at_call 104; refine KA.out.mono ?_; rintro e w2 ⟨rfl, hbb⟩; have HB := Hid.mk' (HB.out.trans (hbb.mono HB.out.size)); clear hbb))
        go_ret
        exact ⟨by rw [E.out]; rfl, HB.out⟩
    · have E : Hid (tfault t = 3) := Hid.mk' (by unfold tfault; rw [if_pos hf, if_neg hb])
      clear KN
      by_cases y1 : t.by_ < 0
      · clear hb
        go_wp2_with go_big_skip
        go_ret
        exact ⟨by rw [E.out]; rfl, HB.out⟩
      · have y2 : t.by_ > 255 := by omega
        clear hb
        go_wp2_with go_big_skip
        go_ret
        exact ⟨by rw [E.out]; rfl, HB.out⟩

end Go.Proofs.YtpcpnfpnkkjkcaaGreat

/- Ways: the places that a place is in, the outermost first. -/
namespace Go.Proofs.YtpcpnfpnkkjkcaaGreat
set_option linter.unusedVariables false

/-- The i-th of numbers. -/
def wv (l : List Int) (i : Nat) : Int := l.getD i 0

theorem wv_get {l : List Int} {i : Nat} (h : i < l.length) : l[i]? = some (wv l i) := by simp [wv, h]
theorem wv_take {l : List Int} {i n : Nat} (h : i < n) : wv (l.take n) i = wv l i := by
  unfold wv
  rw [List.getD_eq_getElem?_getD, List.getD_eq_getElem?_getD, List.getElem?_take_of_lt h]
theorem wv_left {l m : List Int} {i : Nat} (h : i < l.length) : wv (l ++ m) i = wv l i := by
  unfold wv
  rw [List.getD_eq_getElem?_getD, List.getD_eq_getElem?_getD, List.getElem?_append_left h]
theorem wv_end {l : List Int} {x : Int} : wv (l ++ [x]) l.length = x := by simp [wv]

/-- Where a number stands; their number, if nowhere. -/
def ixF : List Int → Int → Nat
  | [], _ => 0
  | x :: r, y => if x = y then 0 else ixF r y + 1

theorem ixF_le (l : List Int) (y : Int) : ixF l y ≤ l.length := by
  induction l with
  | nil => simp [ixF]
  | cons x r ih => unfold ixF; split <;> simp <;> omega

theorem ixF_at {l : List Int} {y : Int} (h : ixF l y < l.length) : wv l (ixF l y) = y := by
  induction l with
  | nil => simp at h
  | cons x r ih =>
    unfold ixF at h ⊢
    by_cases e : x = y
    · rw [if_pos e]; exact e
    · rw [if_neg e] at h ⊢
      have := ih (by simpa using h)
      unfold wv at this ⊢
      simpa using this

theorem ixF_found : ∀ (l : List Int) (y : Int) (k : Nat), k < l.length → (∀ j, j < k → ¬ wv l j = y) → wv l k = y → ixF l y = k
  | [], _, _, h, _, _ => absurd h (Nat.not_lt_zero _)
  | x :: r, y, 0, _, _, e => by
    have : x = y := e
    unfold ixF; rw [if_pos this]
  | x :: r, y, k + 1, h, hn, e => by
    have h0 : ¬ x = y := hn 0 (by omega)
    have := ixF_found r y k (by simpa using h) (fun j hj => by have := hn (j + 1) (by omega); simpa [wv] using this) (by simpa [wv] using e)
    unfold ixF; rw [if_neg h0, this]

theorem ixF_none : ∀ (l : List Int) (y : Int), (∀ j, j < l.length → ¬ wv l j = y) → ixF l y = l.length
  | [], _, _ => rfl
  | x :: r, y, hn => by
    have h0 : ¬ x = y := hn 0 (by simp)
    have := ixF_none r y (fun j hj => by have := hn (j + 1) (by simpa using hj); simpa [wv] using this)
    unfold ixF; rw [if_neg h0, this]; rfl

/-- The way to the k-th: -1, all that the one ahead is in, and that one. -/
def wayU (u : Nat → Int) : Nat → List Int
  | 0 => [-1]
  | k + 1 => (wayU u k).take (ixF (wayU u k) (u k) + 1) ++ [(k : Int)]

/-- How many the k-th is in. -/
def depU (u : Nat → Int) (k : Nat) : Nat := ixF (wayU u k) (u k)

/-- A way that goes up step by step. -/
structure GoodW (u : Nat → Int) (k : Nat) (l : List Int) : Prop where
  ne : 0 < l.length
  le : l.length ≤ k + 1
  hd : wv l 0 = -1
  last : wv l (l.length - 1) = (k : Int) - 1
  ch : ∀ i, i + 1 < l.length → 0 ≤ wv l (i + 1) ∧ wv l i = u (wv l (i + 1)).toNat ∧ wv l i < wv l (i + 1)

theorem GoodW.mono {u : Nat → Int} {k : Nat} {l : List Int} (h : GoodW u k l) {i : Nat} : ∀ {j}, i < j → j < l.length → wv l i < wv l j
  | 0, hi, _ => absurd hi (Nat.not_lt_zero _)
  | j + 1, hi, hj => by
    have h1 := (h.ch j hj).2.2
    by_cases e : i = j
    · subst e; exact h1
    · have := h.mono (i := i) (j := j) (by omega) (by omega)
      omega

theorem GoodW.lo {u : Nat → Int} {k : Nat} {l : List Int} (h : GoodW u k l) {i : Nat} (hi : i < l.length) : -1 ≤ wv l i := by
  by_cases e : i = 0
  · subst e; rw [h.hd]; omega
  · have := h.mono (i := 0) (j := i) (by omega) hi
    rw [h.hd] at this; omega

theorem GoodW.pos {u : Nat → Int} {k : Nat} {l : List Int} (h : GoodW u k l) {i : Nat} (h0 : 0 < i) (hi : i < l.length) : 0 ≤ wv l i := by
  have := h.mono (i := 0) (j := i) h0 hi
  rw [h.hd] at this; omega

theorem GoodW.hi {u : Nat → Int} {k : Nat} {l : List Int} (h : GoodW u k l) {i : Nat} (hi : i < l.length) : wv l i < k := by
  by_cases e : i = l.length - 1
  · subst e; rw [h.last]; omega
  · have := h.mono (i := i) (j := l.length - 1) (by omega) (by omega)
    rw [h.last] at this; omega

theorem GoodW.one {u : Nat → Int} {k : Nat} {l : List Int} (h : GoodW u k l) {i j : Nat} (hi : i < l.length) (hj : j < l.length) (e : wv l i = wv l j) : i = j := by
  by_cases c : i < j
  · have := h.mono c hj; omega
  · by_cases c' : j < i
    · have := h.mono c' hi; omega
    · omega

theorem GoodW.ix {u : Nat → Int} {k : Nat} {l : List Int} (h : GoodW u k l) {i : Nat} (hi : i < l.length) : ixF l (wv l i) = i :=
  ixF_found l _ i hi (fun j hj e => by have := h.one (by omega) hi e; omega) rfl

theorem good_way (u : Nat → Int) : ∀ k, (∀ j, j < k → depU u j < (wayU u j).length) → GoodW u k (wayU u k)
  | 0, _ => ⟨by simp [wayU], by simp [wayU], rfl, by simp [wayU, wv], fun i hi => by simp [wayU] at hi⟩
  | k + 1, h => by
    have G := good_way u k (fun j hj => h j (by omega))
    have hd : depU u k < (wayU u k).length := h k (by omega)
    have hat : wv (wayU u k) (depU u k) = u k := ixF_at hd
    have e : wayU u (k + 1) = (wayU u k).take (depU u k + 1) ++ [(k : Int)] := rfl
    have ln : ((wayU u k).take (depU u k + 1)).length = depU u k + 1 := by rw [List.length_take]; omega
    have L : (wayU u (k + 1)).length = depU u k + 2 := by rw [e, List.length_append, ln]; rfl
    have lo : ∀ i, i < depU u k + 1 → wv (wayU u (k + 1)) i = wv (wayU u k) i := fun i hi => by
      rw [e, wv_left (by omega), wv_take hi]
    have en : wv (wayU u (k + 1)) (depU u k + 1) = (k : Int) := by
      rw [e, show depU u k + 1 = ((wayU u k).take (depU u k + 1)).length from ln.symm, ln]
      have := wv_end (l := (wayU u k).take (depU u k + 1)) (x := (k : Int))
      rw [ln] at this; exact this
    refine ⟨by omega, by have := G.le; omega, ?_, ?_, fun i hi => ?_⟩
    · rw [lo 0 (by omega), G.hd]
    · rw [L, show depU u k + 2 - 1 = depU u k + 1 by omega, en]; omega
    · rw [L] at hi
      by_cases c : i = depU u k
      · subst c
        rw [en, lo _ (by omega), hat]
        have := G.hi hd
        rw [hat] at this
        exact ⟨by omega, by rw [Int.toNat_natCast], this⟩
      · rw [lo i (by omega), lo (i + 1) (by omega)]
        exact G.ch i (by omega)

/-- The way to the next one, step by step. -/
theorem way_succ (u : Nat → Int) (k : Nat) (hd : depU u k < (wayU u k).length) : (wayU u (k + 1)).length = depU u k + 2 ∧ (∀ i, i < depU u k + 1 → wv (wayU u (k + 1)) i = wv (wayU u k) i) ∧ wv (wayU u (k + 1)) (depU u k + 1) = (k : Int) := by
  have e : wayU u (k + 1) = (wayU u k).take (depU u k + 1) ++ [(k : Int)] := rfl
  have ln : ((wayU u k).take (depU u k + 1)).length = depU u k + 1 := by rw [List.length_take]; omega
  refine ⟨by rw [e, List.length_append, ln]; rfl, fun i hi => by rw [e, wv_left (by omega), wv_take hi], ?_⟩
  have := wv_end (l := (wayU u k).take (depU u k + 1)) (x := (k : Int))
  rw [ln] at this; rw [e]; exact this

/-- What is in a place is deeper, and stands right behind it. -/
theorem in_iff (u : Nat → Int) (n : Nat) (h : ∀ j, j < n → depU u j < (wayU u j).length) {a e : Nat} (hae : a < e) (hen : e < n) (hin : wv (wayU u e) (depU u a + 1) = a ∧ depU u a + 1 < (wayU u e).length) :
    (depU u a < depU u e → wv (wayU u (e + 1)) (depU u a + 1) = a ∧ depU u a + 1 < (wayU u (e + 1)).length) ∧ (¬ depU u a < depU u e → ∀ i, i < (wayU u (e + 1)).length → ¬ wv (wayU u (e + 1)) i = a) := by
  obtain ⟨L, lo, en⟩ := way_succ u e (h e hen)
  have G := good_way u e (fun j hj => h j (by omega))
  refine ⟨fun c => ⟨by rw [lo _ (by omega)]; exact hin.1, by omega⟩, fun c i hi eq => ?_⟩
  by_cases c1 : i = depU u e + 1
  · subst c1; rw [en] at eq; omega
  · rw [lo i (by omega)] at eq
    have he := h e hen
    have := G.one (i := i) (j := depU u a + 1) (by omega) hin.2 (by rw [eq, hin.1])
    omega

/-- The first that is not 0, out of n, from k on. -/
def firstF (f : Nat → Int) : Nat → Nat → Int
  | 0, _ => 0
  | n + 1, k => if f k = 0 then firstF f n (k + 1) else f k

theorem firstF_hit (f : Nat → Int) : ∀ (n i k : Nat), k < n → (∀ j, j < k → f (i + j) = 0) → ¬ f (i + k) = 0 → firstF f n i = f (i + k)
  | 0, _, _, h, _, _ => absurd h (Nat.not_lt_zero _)
  | n + 1, i, 0, _, _, hk => by unfold firstF; rw [if_neg (by simpa using hk)]; rfl
  | n + 1, i, k + 1, h, hz, hk => by
    have h0 : f i = 0 := by simpa using hz 0 (by omega)
    unfold firstF
    rw [if_pos h0, firstF_hit f n (i + 1) k (by omega) (fun j hj => by have := hz (j + 1) (by omega); rw [show i + 1 + j = i + (j + 1) by omega]; exact this) (by rw [show i + 1 + k = i + (k + 1) by omega]; exact hk)]
    rw [show i + 1 + k = i + (k + 1) by omega]

theorem firstF_none (f : Nat → Int) : ∀ (n i : Nat), (∀ j, j < n → f (i + j) = 0) → firstF f n i = 0
  | 0, _, _ => rfl
  | n + 1, i, hz => by
    have h0 : f i = 0 := by simpa using hz 0 (by omega)
    unfold firstF
    rw [if_pos h0]
    exact firstF_none f n (i + 1) (fun j hj => by have := hz (j + 1) (by omega); rw [show i + 1 + j = i + (j + 1) by omega]; exact this)

end Go.Proofs.YtpcpnfpnkkjkcaaGreat

/- Void tags: both sides, and the law on IsVoid. -/
namespace Go.Proofs.YtpcpnfpnkkjkcaaGreat
open Go.RowKit
set_option linter.unusedVariables false

/-- br or img. -/
def voidB (s : ByteArray) : Bool := (s.toList == [98, 114]) || (s.toList == [105, 109, 103])

theorem l6Void_any (s : ByteArray) (w : World) :
    Calls Tryz.prog 85 #[.string s] w fun e w' => e = .returned (.bool (voidB s)) ∧ w' = w := by
  cases h1 : (s.toList == [98, 114])
  · cases h2 : (s.toList == [105, 109, 103])
    all_goals go_enter Tryz.func85, Tryz.ntmps85
    all_goals go_wp2
    all_goals go_ret
    all_goals exact ⟨by simp [voidB, h1, h2], rfl⟩
  · go_enter Tryz.func85, Tryz.ntmps85
    go_wp2
    go_ret
    exact ⟨by simp [voidB, h1], rfl⟩

theorem implVoid_any (s : ByteArray) (w : World) :
    Calls Tryz.prog 115 #[.string s] w fun e w' => e = .returned (.bool (voidB s)) ∧ w' = w := by
  cases h1 : (s.toList == [98, 114])
  · cases h2 : (s.toList == [105, 109, 103])
    all_goals go_enter Tryz.func115, Tryz.ntmps115
    all_goals go_wp2
    all_goals go_ret
    all_goals exact ⟨by simp [voidB, h1, h2], rfl⟩
  · go_enter Tryz.func115, Tryz.ntmps115
    go_wp2
    go_ret
    exact ⟨by simp [voidB, h1], rfl⟩

end Go.Proofs.YtpcpnfpnkkjkcaaGreat

/- Lists of nodes that lie in memory; their sizes. -/
namespace Go.Proofs.YtpcpnfpnkkjkcaaGreat
open Go.RowKit
set_option linter.unusedVariables false
set_option linter.unusedSimpArgs false

/-- A node. -/
structure ND where
  up : Int
  tg : ByteArray
  at_ : List AT
  tx : List Int

/-- The k-th of nodes. -/
def ndK (l : List ND) (k : Nat) : ND := l.getD k ⟨0, ⟨#[]⟩, [], []⟩

/-- Nodes lie at an address. -/
def NsAt (w : World) (a : Option Addr) (l : List ND) : Prop :=
  l = [] ∨ ∃ b o, a = some ⟨b, o, none⟩ ∧ b < w.heap.size ∧ ∀ k, k < l.length → w.cell? ⟨b, o + k * 4, none⟩ = some (.int .i64 (ndK l k).up) ∧ w.cell? ⟨b, o + k * 4 + 1, none⟩ = some (.string (ndK l k).tg) ∧ (∃ p c, w.cell? ⟨b, o + k * 4 + 2, none⟩ = some (.slice p (ndK l k).at_.length c) ∧ (ndK l k).at_.length ≤ c ∧ AAt w p (ndK l k).at_) ∧ (∃ p c, w.cell? ⟨b, o + k * 4 + 3, none⟩ = some (.slice p (ndK l k).tx.length c) ∧ BAt w p (ndK l k).tx)

theorem NsAt.below {w w' : World} {a : Option Addr} {l : List ND} (h : NsAt w a l) (hb : Below w.heap.size w w') : NsAt w' a l := by
  rcases h with h | ⟨b, o, e, hs, hc⟩
  · exact .inl h
  · refine .inr ⟨b, o, e, Nat.lt_of_lt_of_le hs hb.size, fun k hk => ?_⟩
    obtain ⟨h1, h2, ⟨p, c, h3, h4, h5⟩, ⟨p', c', h6, h7⟩⟩ := hc k hk
    exact ⟨(hb.cell hs).trans h1, (hb.cell hs).trans h2, ⟨p, c, (hb.cell hs).trans h3, h4, h5.below hb⟩, ⟨p', c', (hb.cell hs).trans h6, h7.below hb⟩⟩

/-- The size of a node, and of nodes. -/
def nsz (t : ND) : Nat := t.tg.size + t.at_.length + asz t.at_ + t.tx.length
def nssz : List ND → Nat
  | [] => 0
  | x :: r => nsz x + nssz r

theorem nssz_take (l : List ND) : ∀ k, k < l.length → nssz (l.take (k + 1)) = nssz (l.take k) + nsz (ndK l k) := by
  induction l with
  | nil => intro k h; exact absurd h (Nat.not_lt_zero _)
  | cons x r ih =>
    intro k hk
    cases k with
    | zero => simp [nssz, ndK]
    | succ k =>
      have := ih k (by simpa using hk)
      simp only [List.take_succ_cons, nssz]
      rw [this]
      have e : ndK (x :: r) (k + 1) = ndK r k := by simp [ndK]
      rw [e]; omega

theorem nssz_le (l : List ND) (k : Nat) : nssz (l.take k) ≤ nssz l := by
  induction l generalizing k with
  | nil => simp [nssz]
  | cons x r ih =>
    cases k with
    | zero => simp [nssz]
    | succ k => simp only [List.take_succ_cons, nssz]; have := ih k; omega

theorem nssz_at {l : List ND} {k : Nat} (h : k < l.length) : nsz (ndK l k) ≤ nssz l := by
  have h1 := nssz_take l k h
  have h2 := nssz_le l (k + 1)
  omega

set_option maxHeartbeats 800000 in
theorem szNode_gen (t : ND) (a p : Option Addr) (c d : Nat) (z : Int) (w : World) (ha : AAt w a t.at_) (hw : Wide t.at_) (hn : (t.tg.size : Int) ≤ 9223372036854775807) (hl : (t.at_.length : Int) ≤ 9223372036854775807) (hx : (t.tx.length : Int) ≤ 9223372036854775807) (h0 : 0 ≤ z) (h1 : z ≤ 1048576) :
    Calls Tryz.prog 53 #[.agg #[.int .i64 t.up, .string t.tg, .slice a t.at_.length c, .slice p t.tx.length d], .int .i64 z] w fun e w' => e = .returned (.int .i64 (if z < (nsz t : Int) then -1 else z - nsz t)) ∧ Below w.heap.size w w' := by
  unfold nsz
  by_cases g1 : z < (t.tg.size : Int)
  · rw [if_pos (by omega)]
    go_enter Tryz.func53, Tryz.ntmps53
    go_wp2
    go_ret
    exact ⟨rfl, (Below.refl _ _).alloc (Nat.le_refl _) _⟩
  have N0 := below_new w (.cells #[.int .i64 t.up, .string t.tg, .slice a t.at_.length c, .slice p t.tx.length d] 89)
  have KA := Hid.mk' (szAttrS_any a c t.at_ (z - (t.tg.size : Int)) _ (ha.below N0) hw (by omega) (by omega) hl)
  have HP := Hid.mk' (row4 w 89 (.int .i64 t.up) (.string t.tg) (.slice a t.at_.length c) (.slice p t.tx.length d))
  have HB := Hid.mk' N0
  clear N0 ha hw
  by_cases g2 : z - (t.tg.size : Int) < (t.at_.length : Int) + asz t.at_
  · rw [if_pos g2] at KA
    rw [if_pos (by omega)]
    go_enter Tryz.func53, Tryz.ntmps53
    go_wp2_with fail
    refine KA.out.mono ?_
    rintro e w1 ⟨rfl, hb⟩
    have HB := Hid.mk' (HB.out.trans (hb.mono HB.out.size))
    clear hb KA
    go_wp2
    go_ret
    exact ⟨rfl, HB.out⟩
  · rw [if_neg g2] at KA
    have gy : ¬ (z - (t.tg.size : Int) - t.at_.length - asz t.at_ < 0) := by omega
    by_cases g3 : z - (t.tg.size : Int) - t.at_.length - asz t.at_ < (t.tx.length : Int)
    · rw [if_pos (by omega)]
      go_enter Tryz.func53, Tryz.ntmps53
      go_wp2_with fail
      refine KA.out.mono ?_
      rintro e w1 ⟨rfl, hb⟩
      obtain ⟨c0, c1, c2, c3, c4⟩ := cells4 (rowB HP.out hb)
      have HB := Hid.mk' (HB.out.trans (hb.mono HB.out.size))
      clear hb KA
      go_wp2_with (go_at_call 83; refine (szByteS_any _ _ _ _ _ (by omega) (by omega) (by omega)).mono ?_; rintro e w' ⟨rfl, rfl⟩)
      go_ret
      exact ⟨rfl, HB.out⟩
    · rw [if_neg (by omega)]
      go_enter Tryz.func53, Tryz.ntmps53
      go_wp2_with fail
      refine KA.out.mono ?_
      rintro e w1 ⟨rfl, hb⟩
      obtain ⟨c0, c1, c2, c3, c4⟩ := cells4 (rowB HP.out hb)
      have HB := Hid.mk' (HB.out.trans (hb.mono HB.out.size))
      clear hb KA
      go_wp2_with (go_at_call 83; refine (szByteS_any _ _ _ _ _ (by omega) (by omega) (by omega)).mono ?_; rintro e w' ⟨rfl, rfl⟩)
      go_ret
      exact ⟨by congr 2; simp; omega, HB.out⟩

/-- Nothing in them is wider than a machine's. -/
def WideN (l : List ND) : Prop := ∀ k, k < l.length → Wide (ndK l k).at_ ∧ ((ndK l k).tg.size : Int) ≤ 9223372036854775807 ∧ ((ndK l k).at_.length : Int) ≤ 9223372036854775807 ∧ ((ndK l k).tx.length : Int) ≤ 9223372036854775807

set_option maxHeartbeats 1600000 in
theorem szNodeS_any (a : Option Addr) (c : Nat) (l : List ND) (z : Int) (w : World) (ha : NsAt w a l) (hw : WideN l) (h0 : 0 ≤ z) (h1 : z ≤ 1048576) (hl : (l.length : Int) ≤ 9223372036854775807) :
    Calls Tryz.prog 30 #[.slice a l.length c, .int .i64 z] w fun e w' => e = .returned (.int .i64 (if z < (l.length : Int) + nssz l then -1 else z - l.length - nssz l)) ∧ Below w.heap.size w w' := by
  by_cases g1 : z < (l.length : Int)
  · rw [if_pos (by omega)]
    go_enter Tryz.func30, Tryz.ntmps30
    go_wp2
    go_ret
    exact ⟨rfl, Below.refl _ _⟩
  have HA := Hid.mk' ha
  have HW := Hid.mk' hw
  clear ha hw
  go_enter Tryz.func30, Tryz.ntmps30
  go_wp2
  go_loopw [1, 5] (fun x i wr => ∃ k : Nat, k ≤ l.length ∧ i = .int .i64 k ∧ x = .int .i64 (z - (l.length : Int) - (nssz (l.take k) : Int)) ∧ (nssz (l.take k) : Int) ≤ z - l.length ∧ Below w.heap.size w wr) (fun _ i _ => l.length - (intOf i).toNat)
  case atStart => exact ⟨0, Nat.zero_le _, rfl, by simp [nssz], by simp [nssz]; omega, Below.refl _ _⟩
  case round =>
    obtain ⟨k, hk, rfl, rfl, hz, hbl⟩ := hrel
    have HB := Hid.mk' hbl
    clear hbl
    by_cases hlt : k < l.length
    · have ci : (k : Int) < (l.length : Int) := by omega
      rcases HA.out.below HB.out with ha | ⟨b, o, rfl, hbs, hc⟩
      · exact absurd hlt (by rw [ha]; exact Nat.not_lt_zero _)
      obtain ⟨q1, q2, ⟨p, d, q3, _, q4⟩, ⟨p', d', q5, _⟩⟩ := hc k hlt
      obtain ⟨w1, w2, w3, w4⟩ := HW.out k hlt
      have st := nssz_take l k hlt
      have KA := Hid.mk' (szNode_gen (ndK l k) p p' d d' (z - (l.length : Int) - (nssz (l.take k) : Int)) wr q4 w1 w2 w3 w4 (by omega) (by omega))
      generalize hy : z - (l.length : Int) - (nssz (l.take k) : Int) = y at *
      clear hc q4
      by_cases g2 : y < (nsz (ndK l k) : Int)
      · rw [if_pos g2] at KA
        have gz : z < (l.length : Int) + nssz l := by have := nssz_le l (k + 1); omega
        go_wp2_with fail
        refine KA.out.mono ?_
        rintro e w1 ⟨rfl, hb⟩
        have HB := Hid.mk' (HB.out.trans (hb.mono HB.out.size))
        clear hb KA
        go_wp2
        go_ret
        exact ⟨by first | rfl | (rw [if_pos gz]; rfl), HB.out⟩
      · rw [if_neg g2] at KA
        have gy : ¬ (y - (nsz (ndK l k) : Int) < 0) := by omega
        go_wp2_with fail
        refine KA.out.mono ?_
        rintro e w1 ⟨rfl, hb⟩
        have HB := Hid.mk' (HB.out.trans (hb.mono HB.out.size))
        clear hb KA
        go_wp2
        go_roundw
        case rel => exact ⟨k + 1, by omega, by go_num, by congr 1; omega, by omega, HB.out⟩
        case measure => simp [intOf]; omega
    · have ci : ¬ (k : Int) < (l.length : Int) := by omega
      have e : k = l.length := by omega
      subst e
      rw [List.take_length] at hz
      go_wp2
      go_ret
      exact ⟨by first | rfl | (simp; done) | (rw [if_neg (by omega)]; simp), HB.out⟩

end Go.Proofs.YtpcpnfpnkkjkcaaGreat

/- Walks: nodes copied. -/
namespace Go.Proofs.YtpcpnfpnkkjkcaaGreat
open Go.RowKit
set_option linter.unusedVariables false
set_option linter.unusedSimpArgs false

/-- A row of attributes of one's own at g; the bytes of each one behind it, and all below hi. -/
def AOh (hi g : Nat) (l : List AT) (w : World) : Prop := ∃ f, w.rowIs g 106 (l.length * 2) f ∧ g < hi ∧ ∀ j, j < l.length → f (j * 2) = .string (atK l j).nm ∧ ∃ b, f (j * 2 + 1) = .slice (some ⟨b, 0, none⟩) (atK l j).vl.length (atK l j).vl.length ∧ g < b ∧ b < hi ∧ w.rowIs b 5 (atK l j).vl.length (bv (atK l j).vl)

theorem AOh.ao {hi g : Nat} {l : List AT} {w : World} (h : AOh hi g l w) : AO g l w := by
  obtain ⟨f, hf, _, hj⟩ := h
  refine ⟨f, hf, fun j hl => ?_⟩
  obtain ⟨h1, b, h2, h3, _, h4⟩ := hj j hl
  exact ⟨h1, b, h2, h3, h4⟩

theorem AO.h {hi g : Nat} {l : List AT} {w : World} (h : AO g l w) (hh : w.heap.size ≤ hi) : AOh hi g l w := by
  obtain ⟨f, hf, hj⟩ := h
  refine ⟨f, hf, Nat.lt_of_lt_of_le hf.lt hh, fun j hl => ?_⟩
  obtain ⟨h1, b, h2, h3, h4⟩ := hj j hl
  exact ⟨h1, b, h2, h3, Nat.lt_of_lt_of_le h4.lt hh, h4⟩

/-- What lies from g on and below hi stays. -/
theorem AOh.keep {hi g : Nat} {l : List AT} {w w' : World} (h : AOh hi g l w) (hk : ∀ k, g ≤ k → k < hi → k < w.heap.size → w'.heap[k]? = w.heap[k]?) : AOh hi g l w' := by
  obtain ⟨f, hf, hg, hj⟩ := h
  refine ⟨f, hf.of_block (hk g (Nat.le_refl _) hg hf.lt), hg, fun j hl => ?_⟩
  obtain ⟨h1, b, h2, h3, h4, h5⟩ := hj j hl
  exact ⟨h1, b, h2, h3, h4, h5.of_block (hk b (by omega) h4 h5.lt)⟩

theorem AOh.below {hi g : Nat} {l : List AT} {w w' : World} (h : AOh hi g l w) (hb : Below w.heap.size w w') : AOh hi g l w' := h.keep fun k _ _ hl => hb.block k hl

theorem AOh.kept {hi g lo' hi' : Nat} {l : List AT} {w w' : World} (h : AOh hi g l w) (hk : KeptIn lo' hi' w w') (hd : hi ≤ lo' ∨ hi' ≤ g) : AOh hi g l w' := h.keep fun k h1 h2 hl => hk.block k hl (by omega)

set_option maxHeartbeats 3200000 in
theorem toNode_any (t : ND) (a p : Option Addr) (c d : Nat) (w : World) (ha : AAt w a t.at_) (hp : BAt w p t.tx) (hl : (nsz t : Int) ≤ 1048576) :
    Calls Tryz.prog 67 #[.agg #[.int .i64 t.up, .string t.tg, .slice a t.at_.length c, .slice p t.tx.length d]] w fun e w' => ∃ g b, e = .returned (.agg #[.int .i64 t.up, .string t.tg, .slice (some ⟨g, 0, none⟩) t.at_.length t.at_.length, .slice (some ⟨b, 0, none⟩) t.tx.length t.tx.length]) ∧ w.heap.size ≤ g ∧ AOh b g t.at_ w' ∧ w'.rowIs b 5 t.tx.length (bv t.tx) ∧ Below w.heap.size w w' := by
  unfold nsz at hl
  have B0 := ((Below.refl w.heap.size w).alloc (Nat.le_refl _) (.cells #[.int .i64 t.up, .string t.tg, .slice a t.at_.length c, .slice p t.tx.length d] 89)).alloc (by simp) (.cells #[.int .i64 0, .string ⟨#[]⟩, .slice none 0 0, .slice none 0 0] 104)
  have B1 := B0.alloc (by simp; omega) (.cells #[.int .i64 t.up, .string t.tg, .slice none 0 0, .slice none 0 0] 104)
  have RP := ((row4 w 89 (.int .i64 t.up) (.string t.tg) (.slice a t.at_.length c) (.slice p t.tx.length d)).alloc (.cells #[.int .i64 0, .string ⟨#[]⟩, .slice none 0 0, .slice none 0 0] 104)).alloc (.cells #[.int .i64 t.up, .string t.tg, .slice none 0 0, .slice none 0 0] 104)
  have RR := (row4 (w.alloc (.cells #[.int .i64 t.up, .string t.tg, .slice a t.at_.length c, .slice p t.tx.length d] 89)) 104 (.int .i64 0) (.string ⟨#[]⟩) (.slice none 0 0) (.slice none 0 0)).alloc (.cells #[.int .i64 t.up, .string t.tg, .slice none 0 0, .slice none 0 0] 104)
  have RO := row4 ((w.alloc (.cells #[.int .i64 t.up, .string t.tg, .slice a t.at_.length c, .slice p t.tx.length d] 89)).alloc (.cells #[.int .i64 0, .string ⟨#[]⟩, .slice none 0 0, .slice none 0 0] 104)) 104 (.int .i64 t.up) (.string t.tg) (.slice none 0 0) (.slice none 0 0)
  have KB := Hid.mk' (toAttrS_any a c t.at_ _ (ha.below B1) (by omega))
  have HB := Hid.mk' B1
  have HT := Hid.mk' hp
  have z1 : (w.alloc (.cells #[.int .i64 t.up, .string t.tg, .slice a t.at_.length c, .slice p t.tx.length d] 89)).heap.size = w.heap.size + 1 := by simp
  have z2 : ((w.alloc (.cells #[.int .i64 t.up, .string t.tg, .slice a t.at_.length c, .slice p t.tx.length d] 89)).alloc (.cells #[.int .i64 0, .string ⟨#[]⟩, .slice none 0 0, .slice none 0 0] 104)).heap.size = w.heap.size + 1 + 1 := by simp
  have z3 : (((w.alloc (.cells #[.int .i64 t.up, .string t.tg, .slice a t.at_.length c, .slice p t.tx.length d] 89)).alloc (.cells #[.int .i64 0, .string ⟨#[]⟩, .slice none 0 0, .slice none 0 0] 104)).alloc (.cells #[.int .i64 t.up, .string t.tg, .slice none 0 0, .slice none 0 0] 104)).heap.size = w.heap.size + 1 + 1 + 1 := by simp
  rw [z1] at RR
  rw [z2] at RO
  have HR := Hid.mk' RR
  have HO := Hid.mk' RO
  have HP := Hid.mk' RP
  have Z3 := Hid.mk' z3
  clear ha hp B0 B1 RR RO RP z1 z2 z3
  generalize hW : ((w.alloc (.cells #[.int .i64 t.up, .string t.tg, .slice a t.at_.length c, .slice p t.tx.length d] 89)).alloc (.cells #[.int .i64 0, .string ⟨#[]⟩, .slice none 0 0, .slice none 0 0] 104)).alloc (.cells #[.int .i64 t.up, .string t.tg, .slice none 0 0, .slice none 0 0] 104) = W at *
  obtain ⟨p0, p1, p2_, p3, p4⟩ := cells4 HP.out
  go_enter Tryz.func67, Tryz.ntmps67
  go_wp2_with fail
  clear hW p0 p1 p2_ p3 p4
  refine KB.out.mono ?_
  rintro e w1 ⟨rfl, har⟩
  have hbl := har.bl
  have Hp := rowB HP.out hbl
  have Ho := rowB HO.out hbl
  have Hr := rowB HR.out hbl
  have K1 := (KeptIn.refl (w.heap.size + 1) (w.heap.size + 1 + 1 + 1) w1).setCell (p := ⟨w.heap.size + 1 + 1, 2, none⟩) (by simp) (by simp) (.slice (some ⟨W.heap.size, 0, none⟩) t.at_.length t.at_.length)
  have hz := Z3.out
  have hs1 := hbl.size
  have B2 := (HB.out.trans (hbl.mono HB.out.size)).trans (K1.below (B := w.heap.size) (by omega) (by omega))
  have KT := Hid.mk' (toByteS_any p d t.tx _ (HT.out.below B2) (by omega))
  have HA := Hid.mk' (AO.of har K1 (by omega))
  have KK := Hid.mk' K1
  have BB := Hid.mk' B2
  have Hp2 := Hid.mk' (rowK Hp K1 (.inl (by omega)))
  have Ho2 := Hid.mk' (Ho.set 2 (.slice (some ⟨W.heap.size, 0, none⟩) t.at_.length t.at_.length))
  have Hr2 := Hid.mk' (rowK (lo := w.heap.size + 1 + 1) (hi := w.heap.size + 1 + 1 + 1) Hr ((KeptIn.refl _ _ w1).setCell (p := ⟨w.heap.size + 1 + 1, 2, none⟩) (by simp) (by simp) (.slice (some ⟨W.heap.size, 0, none⟩) t.at_.length t.at_.length)) (.inl (by omega)))
  obtain ⟨p0, p1, p2_, p3, p4⟩ := cells4 Hp
  obtain ⟨o0, o1, o2, o3, o4⟩ := cells4 Ho
  have fo2 := Ho.frozen 2
  have s2 : (w1.setCell ⟨w.heap.size + 1 + 1, 2, none⟩ (.slice (some ⟨W.heap.size, 0, none⟩) t.at_.length t.at_.length)).heap.size = w1.heap.size := by simp [World.setCell]
  have p3' := Hp2.out.cell (i := 3) (by omega)
  have S2 := Hid.mk' s2
  have S1 := Hid.mk' hs1
  have ZZ := Hid.mk' hz
  clear Hp Ho Hr har hbl K1 B2 KB HO HR HP HB HT Z3 hz hs1 s2
  generalize hV : w1.setCell ⟨w.heap.size + 1 + 1, 2, none⟩ (.slice (some ⟨W.heap.size, 0, none⟩) t.at_.length t.at_.length) = V at *
  go_wp2_with fail
  clear hV p0 p1 p2_ p3 p4 o0 o1 o2 o3 o4 fo2 p3'
  refine KT.out.mono ?_
  rintro e w2 ⟨b, rfl, hb, hrow, hbl⟩
  have Ho := rowB Ho2.out hbl
  have Hr := rowB Hr2.out hbl
  have Hp := rowB Hp2.out hbl
  obtain ⟨p0, p1, p2_, p3, p4⟩ := cells4 Hp
  have o0 : w2.cell? ⟨w.heap.size + 1 + 1, 0, none⟩ = some (.int .i64 t.up) := Ho.cell (by omega)
  have o1 : w2.cell? ⟨w.heap.size + 1 + 1, 1, none⟩ = some (.string t.tg) := Ho.cell (by omega)
  have o2 : w2.cell? ⟨w.heap.size + 1 + 1, 2, none⟩ = some (.slice (some ⟨W.heap.size, 0, none⟩) t.at_.length t.at_.length) := Ho.cell (by omega)
  have o3 : w2.cell? ⟨w.heap.size + 1 + 1, 3, none⟩ = some (.slice none 0 0) := Ho.cell (by omega)
  have o4 : w.heap.size + 1 + 1 < w2.heap.size := Ho.lt
  obtain ⟨r0, r1, r2, r3_, r4_⟩ := cells4 Hr
  have fo3 := Ho.frozen 3
  have fr0 := Hr.frozen 0
  have fr1 := Hr.frozen 1
  have fr2 := Hr.frozen 2
  have fr3 := Hr.frozen 3
  have AH := Hid.mk' ((HA.out.h (hi := b) (by omega)).below hbl)
  have RW := Hid.mk' hrow
  have BL := Hid.mk' hbl
  have hb' := Hid.mk' hb
  clear Ho Hr Hp hrow hbl KT Ho2 Hr2 Hp2 HA KK hb
  go_wp2
  refine bodyPost_ret (v := .agg #[.int .i64 t.up, .string t.tg, .slice (some ⟨W.heap.size, 0, none⟩) t.at_.length t.at_.length, .slice (some ⟨b, 0, none⟩) t.tx.length t.tx.length]) (by simp [results, Tryz.results67, go_sem, *]) rfl ?_
  have e1 := ZZ.out
  have e2 := S1.out
  have e3 := S2.out
  have e4 := hb'.out
  have KK := (((((KeptIn.refl (w.heap.size + 1) (w.heap.size + 1 + 1 + 1) w2).setCell (p := ⟨w.heap.size + 1 + 1, 3, none⟩) (by simp) (by simp) (.slice (some ⟨b, 0, none⟩) t.tx.length t.tx.length)).setCell (p := ⟨w.heap.size + 1, 0, none⟩) (by simp) (by simp) (.int .i64 t.up)).setCell (p := ⟨w.heap.size + 1, 1, none⟩) (by simp) (by simp) (.string t.tg)).setCell (p := ⟨w.heap.size + 1, 2, none⟩) (by simp) (by simp) (.slice (some ⟨W.heap.size, 0, none⟩) t.at_.length t.at_.length)).setCell (p := ⟨w.heap.size + 1, 3, none⟩) (by simp) (by simp) (.slice (some ⟨b, 0, none⟩) t.tx.length t.tx.length)
  exact ⟨W.heap.size, b, rfl, by omega, AH.out.kept KK (.inr (by omega)), rowK RW.out KK (.inr (by omega)), (BB.out.trans (BL.out.mono BB.out.size)).trans (KK.below (by omega) (by omega))⟩

theorem Tryz.info104 : (Tryz.prog.info? 104).map (fun i => (i.zero, i.size, i.bytes)) = some (some (.agg #[.int .i64 0, .string ⟨#[]⟩, .slice none 0 0, .slice none 0 0]), 4, 72) := by kernel_rfl

theorem make_nodes {P : Program} (t e : TypeId) (ht : P.underlying t = some (.slice e)) (hinfo : (P.info? e).map (fun i => (i.zero, i.size, i.bytes)) = some (some (.agg #[.int .i64 0, .string ⟨#[]⟩, .slice none 0 0, .slice none 0 0]), 4, 72))
    (n : Nat) (hn : (n : Int) ≤ 1048576) (w : World) :
    (Instr.makeSlice t (.int .i64 (n : Int)) (.int .i64 (n : Int))).run P w = .ok (.slice (some ⟨w.heap.size, 0, none⟩) n n) (w.alloc (.cells (madeCells #[.int .i64 0, .string ⟨#[]⟩, .slice none 0 0, .slice none 0 0] (n * 4)) e)) := by
  obtain ⟨i, hi, hzz⟩ := Option.map_eq_some_iff.1 hinfo
  simp only [Prod.mk.injEq] at hzz
  obtain ⟨hz, hs, hb⟩ := hzz
  have hr := run_make (P := P) w t e i _ ht hi hz .i64 .i64 n n (by omega) (Int.le_refl _) (by rw [hb]; omega) (by omega)
  simp only [Int.toNat_natCast, hs] at hr
  exact hr

/-- A node in a row of nodes of one's own: its rows lie from lo on and below hi. -/
def NO (lo hi : Nat) (t : ND) (f : Nat → Value) (j : Nat) (w : World) : Prop :=
  f (j * 4) = .int .i64 t.up ∧ f (j * 4 + 1) = .string t.tg ∧ ∃ g b, f (j * 4 + 2) = .slice (some ⟨g, 0, none⟩) t.at_.length t.at_.length ∧ f (j * 4 + 3) = .slice (some ⟨b, 0, none⟩) t.tx.length t.tx.length ∧ lo ≤ g ∧ b < hi ∧ AOh b g t.at_ w ∧ w.rowIs b 5 t.tx.length (bv t.tx)

theorem AOh.lt {hi g : Nat} {l : List AT} {w : World} (h : AOh hi g l w) : g < hi := by obtain ⟨_, _, h, _⟩ := h; exact h

theorem NO.keep {lo hi : Nat} {t : ND} {f f' : Nat → Value} {j : Nat} {w w' : World} (h : NO lo hi t f j w) (hf : ∀ i, i < 4 → f' (j * 4 + i) = f (j * 4 + i)) (hk : ∀ k, lo ≤ k → k < hi → k < w.heap.size → w'.heap[k]? = w.heap[k]?) : NO lo hi t f' j w' := by
  obtain ⟨h1, h2, g, b, h3, h4, h5, h6, h7, h8⟩ := h
  have hl := h7.lt
  exact ⟨(hf 0 (by omega)).trans h1, (hf 1 (by omega)).trans h2, g, b, (hf 2 (by omega)).trans h3, (hf 3 (by omega)).trans h4, h5, h6, h7.keep (fun k a c d => hk k (by omega) (by omega) d), h8.of_block (hk b (by omega) h6 h8.lt)⟩

/-- Nodes being copied into a row of one's own: k of them are there; the rows of each one behind those of the one ahead. -/
structure NR (w : World) (l : List ND) (k : Nat) (wr : World) : Prop where
  bl : Below w.heap.size w wr
  row : ∃ (f : Nat → Value) (s : Nat → Nat), wr.rowIs w.heap.size 104 (l.length * 4) f ∧ w.heap.size < s 0 ∧ s k ≤ wr.heap.size ∧ (∀ j, j < k → s j ≤ s (j + 1)) ∧ ∀ j, j < k → NO (s j) (s (j + 1)) (ndK l j) f j wr

theorem NR.start (w : World) (l : List ND) : NR w l 0 (w.alloc (.cells (madeCells #[.int .i64 0, .string ⟨#[]⟩, .slice none 0 0, .slice none 0 0] (l.length * 4)) 104)) := by
  refine ⟨(Below.refl _ _).alloc (Nat.le_refl _) _, fun i => r4 (.int .i64 0) (.string ⟨#[]⟩) (.slice none 0 0) (.slice none 0 0) (i % 4), fun _ => w.heap.size + 1, ?_, Nat.lt_succ_self _, by simp, fun j hj => absurd hj (Nat.not_lt_zero _), fun j hj => absurd hj (Nat.not_lt_zero _)⟩
  refine ⟨_, Deep.blk_alloc_new _ _, size_madeCells _ _, fun i hi => ?_⟩
  have h : i % 4 = 0 ∨ i % 4 = 1 ∨ i % 4 = 2 ∨ i % 4 = 3 := by omega
  rcases h with h | h | h | h <;> simp [madeCells, hi, h, r4]

theorem NR.below {w wr w1 : World} {l : List ND} {k : Nat} (h : NR w l k wr) (hb : Below wr.heap.size wr w1) : NR w l k w1 := by
  obtain ⟨f, s, hf, h0, h1, h2, hj⟩ := h.row
  exact ⟨h.bl.trans (hb.mono h.bl.size), f, s, rowB hf hb, h0, Nat.le_trans h1 hb.size, h2, fun j hk => (hj j hk).keep (fun _ _ => rfl) (fun i _ _ hl => hb.block i hl)⟩

theorem mono_s {s : Nat → Nat} {k : Nat} (h : ∀ j, j < k → s j ≤ s (j + 1)) : ∀ j, j ≤ k → s 0 ≤ s j
  | 0, _ => Nat.le_refl _
  | j + 1, hj => Nat.le_trans (mono_s h j (by omega)) (h j (by omega))

theorem NR.step {w wr w1 : World} {l : List ND} {k g b : Nat} (h : NR w l k wr) (hb1 : Below wr.heap.size wr w1) (hg : wr.heap.size ≤ g) (hao : AOh b g (ndK l k).at_ w1) (hrow : w1.rowIs b 5 (ndK l k).tx.length (bv (ndK l k).tx)) :
    NR w l (k + 1) ((((w1.setCell ⟨w.heap.size, k * 4, none⟩ (.int .i64 (ndK l k).up)).setCell ⟨w.heap.size, k * 4 + 1, none⟩ (.string (ndK l k).tg)).setCell ⟨w.heap.size, k * 4 + 2, none⟩ (.slice (some ⟨g, 0, none⟩) (ndK l k).at_.length (ndK l k).at_.length)).setCell ⟨w.heap.size, k * 4 + 3, none⟩ (.slice (some ⟨b, 0, none⟩) (ndK l k).tx.length (ndK l k).tx.length)) := by
  have h' := h.below hb1
  obtain ⟨f0, s0, hf0, _, h10, _, _⟩ := h.row
  obtain ⟨f, s, hf, h0, h1, h2, hj⟩ := h.row
  have hf := rowB hf hb1
  have K := kept4 w1 w.heap.size (k * 4) (k * 4 + 1) (k * 4 + 2) (k * 4 + 3) (.int .i64 (ndK l k).up) (.string (ndK l k).tg) (.slice (some ⟨g, 0, none⟩) (ndK l k).at_.length (ndK l k).at_.length) (.slice (some ⟨b, 0, none⟩) (ndK l k).tx.length (ndK l k).tx.length)
  have hm := mono_s h2
  have hbs := hb1.size
  have hbl := hrow.lt
  have hgb := hao.lt
  have hm2 := hm k (Nat.le_refl _)
  refine ⟨h'.bl.trans (K.below (Nat.le_refl _) h'.bl.size), _, fun j => if j = k + 1 then w1.heap.size else s j, (((hf.set (k * 4) _).set (k * 4 + 1) _).set (k * 4 + 2) _).set (k * 4 + 3) _, by simpa using h0, ?_, fun j hk => ?_, fun j hk => ?_⟩
  · simp [World.setCell]
  · by_cases e : j = k
    · subst e; simp; omega
    · simp only [show ¬ j = k + 1 by omega, show ¬ j + 1 = k + 1 by omega, if_false]; exact h2 j (by omega)
  · by_cases e : j = k
    · subst e
      simp only [show ¬ j = j + 1 by omega, if_false, if_true]
      refine ⟨?_, ?_, g, b, ?_, ?_, by omega, hbl, hao.kept K (.inr (by omega)), rowK hrow K (.inr (by omega))⟩
      · dsimp only; rw [if_neg (by omega), if_neg (by omega), if_neg (by omega), if_pos rfl]
      · dsimp only; rw [if_neg (by omega), if_neg (by omega), if_pos rfl]
      · dsimp only; rw [if_neg (by omega), if_pos rfl]
      · dsimp only; rw [if_pos rfl]
    · simp only [show ¬ j = k + 1 by omega, show ¬ j + 1 = k + 1 by omega, if_false]
      have hmj := hm j (by omega)
      refine (hj j (by omega)).keep (fun i hi => ?_) (fun i h3 h4 h5 => ?_)
      · rw [if_neg (by omega), if_neg (by omega), if_neg (by omega), if_neg (by omega)]
      · exact (K.block i (by omega) (by omega)).trans (hb1.block i h5)

theorem NR.at {w wr : World} {l : List ND} (h : NR w l l.length wr) : NsAt wr (some ⟨w.heap.size, 0, none⟩) l := by
  obtain ⟨f, s, hf, h0, h1, h2, hj⟩ := h.row
  refine .inr ⟨_, _, rfl, hf.lt, fun k hk => ?_⟩
  obtain ⟨e1, e2, g, b, e3, e4, h5, h6, h7, h8⟩ := hj k hk
  have c := fun i (hi : i < 4) => hf.cell (show k * 4 + i < l.length * 4 by omega)
  refine ⟨by rw [Nat.zero_add]; exact (c 0 (by omega)).trans (by rw [Nat.add_zero, e1]), by rw [Nat.zero_add, c 1 (by omega), e2], ⟨_, _, by rw [Nat.zero_add, c 2 (by omega), e3], Nat.le_refl _, h7.ao.at⟩, ⟨_, _, by rw [Nat.zero_add, c 3 (by omega), e4], .of_row h8⟩⟩

set_option maxHeartbeats 1600000 in
theorem toNodeS_any (a : Option Addr) (c : Nat) (l : List ND) (w : World) (ha : NsAt w a l) (hl : (l.length : Int) + nssz l ≤ 1048576) :
    Calls Tryz.prog 37 #[.slice a l.length c] w fun e w' => e = .returned (.slice (some ⟨w.heap.size, 0, none⟩) l.length l.length) ∧ NR w l l.length w' := by
  have hmk := make_nodes (P := Tryz.prog) 31 104 Tryz.underlying31 Tryz.info104 l.length (by omega)
  have HA := Hid.mk' ha
  clear ha
  go_enter Tryz.func37, Tryz.ntmps37
  go_wp2
  go_loopw [4] (fun i wr => ∃ k : Nat, k ≤ l.length ∧ i = .int .i64 k ∧ NR w l k wr) (fun i _ => l.length - (intOf i).toNat)
  case atStart => exact ⟨0, Nat.zero_le _, rfl, NR.start w l⟩
  case round =>
    obtain ⟨k, hk, rfl, hr⟩ := hrel
    have HR := Hid.mk' hr
    clear hr hmk
    by_cases hlt : k < l.length
    · have ci : (k : Int) < (l.length : Int) := by omega
      rcases HA.out with ha | ⟨b, o, rfl, hbs, hc⟩
      · exact absurd hlt (by rw [ha]; exact Nat.not_lt_zero _)
      obtain ⟨q1, q2, ⟨p, d, q3, _, q4⟩, ⟨p', d', q5, q6⟩⟩ := hc k hlt
      have h1 := (HR.out.bl.cell hbs).trans q1
      have h2 := (HR.out.bl.cell hbs).trans q2
      have h3 := (HR.out.bl.cell hbs).trans q3
      have h4 := (HR.out.bl.cell hbs).trans q5
      have st := nssz_at hlt
      have KA := Hid.mk' (toNode_any (ndK l k) p p' d d' wr (q4.below HR.out.bl) (q6.below HR.out.bl) (by omega))
      clear q1 q2 q3 q4 q5 q6 hc st
      go_wp2_with fail
      refine KA.out.mono ?_
      rintro e w1 ⟨g, b1, rfl, hg, hao, hrow, hbl⟩
      have hr1 := HR.out.below hbl
      obtain ⟨f, _, hf, _⟩ := hr1.row
      have f0 := hf.frozen (k * 4)
      have f1 := hf.frozen (k * 4 + 1)
      have f2 := hf.frozen (k * 4 + 2)
      have f3 := hf.frozen (k * 4 + 3)
      obtain ⟨v0, g0⟩ : ∃ v, w1.cell? ⟨w.heap.size, k * 4, none⟩ = some v := ⟨_, hf.cell (by omega)⟩
      obtain ⟨v1, g1⟩ : ∃ v, w1.cell? ⟨w.heap.size, k * 4 + 1, none⟩ = some v := ⟨_, hf.cell (by omega)⟩
      obtain ⟨v2, g2⟩ : ∃ v, w1.cell? ⟨w.heap.size, k * 4 + 2, none⟩ = some v := ⟨_, hf.cell (by omega)⟩
      obtain ⟨v3, g3⟩ : ∃ v, w1.cell? ⟨w.heap.size, k * 4 + 3, none⟩ = some v := ⟨_, hf.cell (by omega)⟩
      have R1 := Hid.mk' (HR.out.step hbl hg hao hrow)
      clear hr1 hf hao hbl hrow KA h1 h2 h3 h4 hg
      go_wp2
      go_roundw
      case rel => exact ⟨k + 1, by omega, by go_num, R1.out⟩
      case measure => simp [intOf]; omega
    · have ci : ¬ (k : Int) < (l.length : Int) := by omega
      have e : k = l.length := by omega
      subst e
      go_wp2
      go_ret
      exact ⟨rfl, HR.out⟩

end Go.Proofs.YtpcpnfpnkkjkcaaGreat

/- Walks: nodes that are the same are told so. -/
namespace Go.Proofs.YtpcpnfpnkkjkcaaGreat
open Go.RowKit
set_option linter.unusedVariables false
set_option linter.unusedSimpArgs false

set_option maxHeartbeats 1600000 in
theorem eqNode_any (t : ND) (a b p q : Option Addr) (c d c' d' : Nat) (w : World) (ha : AAt w a t.at_) (hb : AAt w b t.at_) (hp : BAt w p t.tx) (hq : BAt w q t.tx) (hl : (nsz t : Int) ≤ 1048576) :
    Calls Tryz.prog 77 #[.agg #[.int .i64 t.up, .string t.tg, .slice a t.at_.length c, .slice p t.tx.length c'], .agg #[.int .i64 t.up, .string t.tg, .slice b t.at_.length d, .slice q t.tx.length d']] w fun e w' => e = .returned (.bool true) ∧ Below w.heap.size w w' := by
  unfold nsz at hl
  have B0 := ((Below.refl w.heap.size w).alloc (Nat.le_refl _) (.cells #[.int .i64 t.up, .string t.tg, .slice a t.at_.length c, .slice p t.tx.length c'] 104)).alloc (by simp) (.cells #[.int .i64 t.up, .string t.tg, .slice b t.at_.length d, .slice q t.tx.length d'] 104)
  have R1 := (row4 w 104 (.int .i64 t.up) (.string t.tg) (.slice a t.at_.length c) (.slice p t.tx.length c')).alloc (.cells #[.int .i64 t.up, .string t.tg, .slice b t.at_.length d, .slice q t.tx.length d'] 104)
  have R2 := row4 (w.alloc (.cells #[.int .i64 t.up, .string t.tg, .slice a t.at_.length c, .slice p t.tx.length c'] 104)) 104 (.int .i64 t.up) (.string t.tg) (.slice b t.at_.length d) (.slice q t.tx.length d')
  have z1 : (w.alloc (.cells #[.int .i64 t.up, .string t.tg, .slice a t.at_.length c, .slice p t.tx.length c'] 104)).heap.size = w.heap.size + 1 := by simp
  rw [z1] at R2
  have H1 := Hid.mk' R1
  have H2 := Hid.mk' R2
  have KB := Hid.mk' (eqAttrS_any a b c d t.at_ _ (ha.below B0) (hb.below B0) (by omega))
  have HX := Hid.mk' (hp.below B0)
  have HY := Hid.mk' (hq.below B0)
  have HB := Hid.mk' B0
  clear ha hb hp hq B0 R1 R2 z1
  generalize hW : (w.alloc (.cells #[.int .i64 t.up, .string t.tg, .slice a t.at_.length c, .slice p t.tx.length c'] 104)).alloc (.cells #[.int .i64 t.up, .string t.tg, .slice b t.at_.length d, .slice q t.tx.length d'] 104) = W at *
  obtain ⟨p0, p1, p2_, p3, p4⟩ := cells4 H1.out
  obtain ⟨q0, q1, q2, q3, q4⟩ := cells4 H2.out
  go_enter Tryz.func77, Tryz.ntmps77
  go_wp2_with fail
  clear hW p0 p1 p2_ p3 p4 q0 q1 q2 q3 q4
  refine KB.out.mono ?_
  rintro e w1 ⟨rfl, hb⟩
  obtain ⟨p0, p1, p2_, p3, p4⟩ := cells4 (rowB H1.out hb)
  obtain ⟨q0, q1, q2, q3, q4⟩ := cells4 (rowB H2.out hb)
  have KT := Hid.mk' (eqByteS_any p q c' d' t.tx w1 (HX.out.below hb) (HY.out.below hb) (by omega))
  have HB := Hid.mk' (HB.out.trans (hb.mono HB.out.size))
  clear hb KB
  go_wp2_with fail
  refine KT.out.mono ?_
  rintro e w2 ⟨rfl, hb⟩
  have HB := Hid.mk' (HB.out.trans (hb.mono HB.out.size))
  clear hb KT
  go_wp2
  go_ret
  exact ⟨rfl, HB.out⟩

set_option maxHeartbeats 1600000 in
theorem eqNodeS_any (a b : Option Addr) (c d : Nat) (l : List ND) (w : World) (ha : NsAt w a l) (hb : NsAt w b l) (hl : (l.length : Int) + nssz l ≤ 1048576) :
    Calls Tryz.prog 44 #[.slice a l.length c, .slice b l.length d] w fun e w' => e = .returned (.bool true) ∧ Below w.heap.size w w' := by
  have HA := Hid.mk' ha
  have HB := Hid.mk' hb
  clear ha hb
  go_enter Tryz.func44, Tryz.ntmps44
  go_wp2
  go_loopw [5] (fun i wr => ∃ k : Nat, k ≤ l.length ∧ i = .int .i64 k ∧ Below w.heap.size w wr) (fun i _ => l.length - (intOf i).toNat)
  case atStart => exact ⟨0, Nat.zero_le _, rfl, Below.refl _ _⟩
  case round =>
    obtain ⟨k, hk, rfl, hbl⟩ := hrel
    have R2 := Hid.mk' hbl
    by_cases hlt : k < l.length
    · have ci : (k : Int) < (l.length : Int) := by omega
      rcases HA.out.below hbl with ha | ⟨b1, o1, rfl, s1, hc1⟩
      · exact absurd hlt (by rw [ha]; exact Nat.not_lt_zero _)
      rcases HB.out.below hbl with hb | ⟨b2, o2, rfl, s2, hc2⟩
      · exact absurd hlt (by rw [hb]; exact Nat.not_lt_zero _)
      obtain ⟨x1, x2, ⟨p1, d1, x3, _, x4⟩, ⟨p3, d3, x5, x6⟩⟩ := hc1 k hlt
      obtain ⟨y1, y2, ⟨p2_, d2, y3, _, y4⟩, ⟨p4, d4, y5, y6⟩⟩ := hc2 k hlt
      have st := nssz_at hlt
      have KE := Hid.mk' (eqNode_any (ndK l k) p1 p2_ p3 p4 d1 d2 d3 d4 wr.drew (x4.below (Below.refl _ _).drew) (y4.below (Below.refl _ _).drew) (x6.below (Below.refl _ _).drew) (y6.below (Below.refl _ _).drew) (by omega))
      clear hbl hc1 hc2 x4 y4 x6 y6 st
      go_wp2
      go_region_held3 (fun w' => w'.cell? ⟨b1, o1 + k * 4, none⟩ = some (.int .i64 (ndK l k).up) ∧ w'.cell? ⟨b1, o1 + k * 4 + 1, none⟩ = some (.string (ndK l k).tg) ∧ w'.cell? ⟨b1, o1 + k * 4 + 2, none⟩ = some (.slice p1 (ndK l k).at_.length d1) ∧ w'.cell? ⟨b1, o1 + k * 4 + 3, none⟩ = some (.slice p3 (ndK l k).tx.length d3) ∧ w'.cell? ⟨b2, o2 + k * 4, none⟩ = some (.int .i64 (ndK l k).up) ∧ w'.cell? ⟨b2, o2 + k * 4 + 1, none⟩ = some (.string (ndK l k).tg) ∧ w'.cell? ⟨b2, o2 + k * 4 + 2, none⟩ = some (.slice p2_ (ndK l k).at_.length d2) ∧ w'.cell? ⟨b2, o2 + k * 4 + 3, none⟩ = some (.slice p4 (ndK l k).tx.length d4)) (simp [*])
        ((go_at_call 77; refine KE.out.mono ?_; rintro e w1 ⟨rfl, hb1⟩; replace hb1 := undrew hb1; obtain ⟨hx1, hx2⟩ := bcell hb1))
      go_wp2
      go_roundw
      case rel => exact ⟨k + 1, by omega, by go_num, R2.out.trans (hb1.mono R2.out.size)⟩
      case measure => simp [intOf]; omega
    · have ci : ¬ (k : Int) < (l.length : Int) := by omega
      go_wp2
      go_ret
      exact ⟨rfl, R2.out⟩

end Go.Proofs.YtpcpnfpnkkjkcaaGreat

/- Walks: a table copied, two tables compared. -/
namespace Go.Proofs.YtpcpnfpnkkjkcaaGreat
open Go.RowKit
set_option linter.unusedVariables false

/-- A row behind four stores into other blocks. -/
theorem four_other {w : World} {b n c d o1 o2 o3 o4 : Nat} {t : TypeId} {f : Nat → Value} {v1 v2 v3 v4 : Value} (h : w.rowIs b t n f) (h1 : b ≠ c) (h2 : b ≠ d) :
    ((((w.setCell ⟨c, o1, none⟩ v1).setCell ⟨d, o2, none⟩ v2).setCell ⟨d, o3, none⟩ v3).setCell ⟨d, o4, none⟩ v4).rowIs b t n f :=
  (((h.setOther (a := ⟨c, o1, none⟩) h1 _).setOther (a := ⟨d, o2, none⟩) h2 _).setOther (a := ⟨d, o3, none⟩) h2 _).setOther (a := ⟨d, o4, none⟩) h2 _

end Go.Proofs.YtpcpnfpnkkjkcaaGreat

/- Walks of the specification's side: the fault of a table, the sum of its sizes. -/
namespace Go.Proofs.YtpcpnfpnkkjkcaaGreat
open Go.RowKit
set_option linter.unusedVariables false

end Go.Proofs.YtpcpnfpnkkjkcaaGreat

/- Walks of the program's side: the fault of a table. -/
namespace Go.Proofs.YtpcpnfpnkkjkcaaGreat
open Go.RowKit
set_option linter.unusedVariables false

theorem below_three {B : Nat} {w w' : World} (h : Below B w w') {o1 o2 o3 : Nat} {v1 v2 v3 : Value} : Below B w (((w'.setCell ⟨B, o1, none⟩ v1).setCell ⟨B, o2, none⟩ v2).setCell ⟨B, o3, none⟩ v3) :=
  ((h.setCell (p := ⟨B, o1, none⟩) (Nat.le_refl _) _).setCell (p := ⟨B, o2, none⟩) (Nat.le_refl _) _).setCell (p := ⟨B, o3, none⟩) (Nat.le_refl _) _

theorem join2 {B : Nat} {w a b c : World} (h : Below B w a) (h1 : Below a.heap.size a b) (h2 : Below b.heap.size b c) (hB : B ≤ a.heap.size := by first | omega | (simp; omega)) : Below B w c :=
  (h.trans (h1.mono hB)).trans (h2.mono (Nat.le_trans hB h1.size))

theorem row2 {a b c : World} {g n : Nat} {t : TypeId} {f : Nat → Value} (h : a.rowIs g t n f) (h1 : Below a.heap.size a b) (h2 : Below b.heap.size b c) : c.rowIs g t n f := by
  have h' := h.of_block (h1.block _ h.lt)
  exact h'.of_block (h2.block _ h'.lt)

/-- Each piece begins at a place that is an int64. -/
def WFT (t : TB) : Prop := ∀ k, k < t.pcs.length → (pc t.pcs k).fr ≤ 9223372036854775807

end Go.Proofs.YtpcpnfpnkkjkcaaGreat

/- The walk of the law on TableFault: it answers true at every table, and turns nothing that was there. -/
namespace Go.Proofs.YtpcpnfpnkkjkcaaGreat
open Go.RowKit
set_option linter.unusedVariables false

/-- What a law holds on to while it calls: nothing old has turned; its argument lies in its box; the argument reads as the table. -/
def Hold (w : World) (ty : TypeId) (x y z : Value) (t : TB) (wi : World) : Prop := Below w.heap.size w wi ∧ wi.rowIs w.heap.size ty 3 (r3 x y z) ∧ TAt wi (.agg #[x, y, z]) t

theorem Hold.start {w : World} {ty : TypeId} {x y z : Value} {t : TB} (ht : TAt w (.agg #[x, y, z]) t) : Hold w ty x y z t (w.alloc (.cells #[x, y, z] ty)) :=
  have B0 := (Below.refl w.heap.size w).alloc (Nat.le_refl _) (.cells #[x, y, z] ty)
  ⟨B0, row3 w ty x y z, ht.below B0⟩

theorem Hold.below {w wi wj : World} {ty : TypeId} {x y z : Value} {t : TB} (h : Hold w ty x y z t wi) (hb : Below wi.heap.size wi wj) : Hold w ty x y z t wj :=
  ⟨h.1.trans (hb.mono h.1.size), h.2.1.of_block (hb.block _ h.2.1.lt), h.2.2.below hb⟩

theorem Hold.cells {w wi : World} {ty : TypeId} {x y z : Value} {t : TB} (h : Hold w ty x y z t wi) : wi.cell? ⟨w.heap.size, 0, none⟩ = some x ∧ wi.cell? ⟨w.heap.size, 1, none⟩ = some y ∧ wi.cell? ⟨w.heap.size, 2, none⟩ = some z ∧ w.heap.size < wi.heap.size :=
  ⟨h.2.1.cell (by omega), h.2.1.cell (by omega), h.2.1.cell (by omega), h.2.1.lt⟩

theorem cells3 {w : World} {g : Nat} {ty : TypeId} {x y z : Value} (h : w.rowIs g ty 3 (r3 x y z)) : w.cell? ⟨g, 0, none⟩ = some x ∧ w.cell? ⟨g, 1, none⟩ = some y ∧ w.cell? ⟨g, 2, none⟩ = some z ∧ g < w.heap.size :=
  ⟨h.cell (by omega), h.cell (by omega), h.cell (by omega), h.lt⟩

end Go.Proofs.YtpcpnfpnkkjkcaaGreat

/- Walks: the size of a table, both sides, and the law on it. -/
namespace Go.Proofs.YtpcpnfpnkkjkcaaGreat
open Go.RowKit
set_option linter.unusedVariables false

theorem below_two {B : Nat} {w w' : World} (h : Below B w w') {c o1 o2 : Nat} {v1 v2 : Value} (hc : B ≤ c) : Below B w ((w'.setCell ⟨c, o1, none⟩ v1).setCell ⟨c, o2, none⟩ v2) :=
  (h.setCell (p := ⟨c, o1, none⟩) hc _).setCell (p := ⟨c, o2, none⟩) hc _

end Go.Proofs.YtpcpnfpnkkjkcaaGreat

/- Walks: memory of one's own is marked, and the marks are held. -/
namespace Go.Proofs.YtpcpnfpnkkjkcaaGreat
open Go.RowKit
set_option linter.unusedVariables false

set_option maxHeartbeats 400000 in
theorem markByteS_row (g cap cn n k : Nat) (f : Nat → Value) (w : World) (hr : w.rowIs g 5 cn f) (hn : n ≤ cn) (hk : (k : Int) + n ≤ 100000000) :
    Calls Tryz.prog 79 #[.slice (some ⟨g, 0, none⟩) n cap, .int .i64 k] w fun e w' => e = .returned (.int .i64 ((k : Int) + n)) ∧ w'.rowIs g 5 cn (mpart f k n) ∧ KeptIn g (g + 1) w w' := by
  go_enter Tryz.func79, Tryz.ntmps79
  go_wp2
  go_loopw [1, 5] (fun s x wr => ∃ i : Nat, i ≤ n ∧ x = .int .i64 i ∧ s = .int .i64 ((k : Int) + i) ∧ wr.rowIs g 5 cn (mpart f k i) ∧ KeptIn g (g + 1) w wr) (fun _ x _ => n - (intOf x).toNat)
  case atStart => exact ⟨0, Nat.zero_le _, rfl, by simp, hr.congr (fun j _ => by simp [mpart]), KeptIn.refl _ _ _⟩
  case round =>
    obtain ⟨i, hi, rfl, rfl, hrow, hkp⟩ := hrel
    by_cases hlt : i < n
    · have f0 := hrow.frozen i
      obtain ⟨v0, g0⟩ : ∃ v, wr.cell? ⟨g, i, none⟩ = some v := ⟨_, hrow.cell (by omega)⟩
      have R1 := Hid.mk' hrow
      have R2 := Hid.mk' hkp
      clear hrow hkp
      go_wp2
      go_roundw
      case rel => exact ⟨i + 1, by omega, by go_num, by go_num, mpart_step R1.out, R2.out.setCell (p := ⟨g, i, none⟩) (Nat.le_refl _) (Nat.lt_succ_self _) _⟩
      case measure => simp [intOf]; omega
    · go_wp2
      go_ret
      have e : i = n := by omega
      subst e
      exact ⟨rfl, hrow, hkp⟩

set_option maxHeartbeats 400000 in
theorem heldByteS_any (a : Option Addr) (c n k : Nat) (w : World) (ha : BAt w a (mb k n)) (hk : (k : Int) + n ≤ 100000000) :
    Calls Tryz.prog 82 #[.slice a n c, .int .i64 k] w fun e w' => e = .returned (.int .i64 ((k : Int) + n)) ∧ Below w.heap.size w w' := by
  go_enter Tryz.func82, Tryz.ntmps82
  go_wp2
  go_loopw [1, 5] (fun s x wr => ∃ i : Nat, i ≤ n ∧ x = .int .i64 i ∧ s = .int .i64 ((k : Int) + i) ∧ Below w.heap.size w wr) (fun _ x _ => n - (intOf x).toNat)
  case atStart => exact ⟨0, Nat.zero_le _, rfl, by simp, Below.refl _ _⟩
  case round =>
    obtain ⟨i, hi, rfl, rfl, hbl⟩ := hrel
    by_cases hlt : i < n
    · rcases ha with ha | ⟨b, o, rfl, hbs, hc⟩
      · have := congrArg List.length ha
        rw [mb_len] at this
        simp at this
        omega
      have h1 : wr.cell? ⟨b, o + i, none⟩ = some (.int .u8 (((k : Int) + i) % 256)) := by rw [hbl.cell hbs, hc i (by rw [mb_len]; exact hlt), bv_mb k n i hlt]
      have R2 := Hid.mk' hbl
      clear hbl hc
      go_wp2
      go_roundw
      case rel => exact ⟨i + 1, by omega, by go_num, by go_num, R2.out⟩
      case measure => simp [intOf]; omega
    · go_wp2
      go_ret
      have e : i = n := by omega
      subst e
      exact ⟨rfl, hbl⟩

set_option maxHeartbeats 400000 in
theorem markByteS_nil (k : Nat) (w : World) (hk : (k : Int) ≤ 100000000) :
    Calls Tryz.prog 79 #[.slice none 0 0, .int .i64 k] w fun e w' => e = .returned (.int .i64 (k : Int)) ∧ w' = w := by
  go_enter Tryz.func79, Tryz.ntmps79
  go_wp2
  go_loop [1, 5] (fun s x => x = .int .i64 0 ∧ s = .int .i64 (k : Int)) (fun _ _ => 0)
  case atStart => exact ⟨rfl, rfl⟩
  case round =>
    obtain ⟨rfl, rfl⟩ := hrel
    go_wp2
    go_ret
    exact ⟨rfl, rfl⟩

theorem markByteS_own (k : Nat) (v : Value) (l : List Int) (w : World) (h : OB w v l) (hk : (k : Int) + l.length ≤ 100000000) :
    Calls Tryz.prog 79 #[v, .int .i64 k] w fun e w' => e = .returned (.int .i64 ((k : Int) + l.length)) ∧ OB w' v (mb k l.length) ∧ Turned v w w' := by
  rcases h with ⟨rfl, rfl⟩ | ⟨g, cap, cn, f, rfl, hca, hr, hl, hf⟩
  · refine (markByteS_nil k w (by simpa using hk)).mono ?_
    rintro e w' ⟨rfl, rfl⟩
    exact ⟨by simp, .inl ⟨rfl, rfl⟩, Turned.refl _ _⟩
  · refine (markByteS_row g cap cn l.length k f w hr hl hk).mono ?_
    rintro e w' ⟨rfl, hr', hk'⟩
    exact ⟨rfl, .inr ⟨g, cap, cn, _, by rw [mb_len], by rw [mb_len]; exact hca, hr', by rw [mb_len]; exact hl, fun i hi => by rw [mb_len] at hi; rw [bv_mb _ _ _ hi]; unfold mpart; rw [if_pos hi]⟩, Turned.of_kept hk'⟩

theorem ret_num {a b : Int} (h : a = b) : Ending.returned (.int .i64 a) = .returned (.int .i64 b) := by rw [h]

end Go.Proofs.YtpcpnfpnkkjkcaaGreat

/- Laws of append and copy in the form in which the walks here want them. -/
namespace Go.Proofs.YtpcpnfpnkkjkcaaGreat
open Go.RowKit
set_option linter.unusedVariables false

/-- append(v, x...): v a row of one's own, x whatever slice. -/
theorem wpList_append_any {P : Program} (w : World) {ops : Array Oper} {rest : List Oper} {o : Oper} {a : Act} {Q : Exit → Act → World → Prop} (hgd : o.guard = none) (s x : Operand) (t : TypeId)
    (ho : o.op = .call { callee := .builtin .append, args := #[s, x], argTypes := #[t, t] })
    (base : Nat) (e : TypeId) (z : Value) (size bytes : Nat) (ht : P.underlying t = some (.slice e)) (hinfo : (P.info? e).map (fun i => (i.zero, i.size, i.bytes)) = some (some z, size, bytes))
    (hzs : z.cells.size = size) (hsz : 0 < size)
    (v : Value) (n : Nat) (xs : List Value) (hs : a.eval s = v) (hown : w.ownsRow base e size v n xs)
    (ax : Option Addr) (m c : Nat) (news : List Value) (hx : a.eval x = .slice ax m c) (hl : news.length = m * size)
    (hsrc : m = 0 ∨ ∃ ad, ax = some ad ∧ ∀ j u, news[j]? = some u → w.cell? (ad.add j) = some u) (h1 : ∀ u ∈ news, u.oneCell' = true)
    (h63 : n + m ≤ maxLen) (hbytes : (n + m) * bytes ≤ 140737488355328) (hbase : base ≤ w.heap.size)
    (h : ∀ v' w', w'.ownsRow base e size v' (n + m) (xs ++ news) → w.grownBy w' v.ownBlock → wpList P ops Q rest (a.put o.dst v') w') : wpList P ops Q (o :: rest) a w := by
  obtain ⟨i, hi, hz0, hz1, hz2⟩ := info_parts hinfo
  cases ax with
  | some ad =>
    refine wpList_append_own w hgd s x t ho base e i z size bytes ht hi hz0 hz1 hz2 hzs hsz v n xs hs hown ad m c news hx hl ?_ h1 h63 hbytes hbase fun v' w' h2 h3 _ => h v' w' h2 h3
    rcases hsrc with h0 | ⟨ad', e', hc⟩
    · subst h0
      have : news = [] := List.eq_nil_of_length_eq_zero (by simpa using hl)
      subst this
      intro j u hj
      simp at hj
    · cases e'
      exact hc
  | none =>
    have hm : m = 0 := by
      rcases hsrc with h0 | ⟨ad', e', _⟩
      · exact h0
      · cases e'
    subst hm
    have hn : news = [] := List.eq_nil_of_length_eq_zero (by simpa using hl)
    subst hn
    have hr : (Builtin.append_ #[t, t] o.type #[v, .slice none 0 c]).run P w = .ok v w := by
      rcases hown.2 with ⟨rfl, rfl⟩ | ⟨g, cap, cur, rfl, _, _, hnc, _⟩
      · simp [Builtin.append_, run_underlying ht, sizeOf, typeInfo, hi, Builtin.lenOf, Builtin.firstCells]
      · simp [Builtin.append_, run_underlying ht, sizeOf, typeInfo, hi, Builtin.lenOf, Builtin.firstCells, hnc, storeCells]
    refine wpList_plain hgd fun K hK => ?_
    unfold Oper.wp execOp
    simp only [ho, resolve, invoke, builtin, Sem.run_bind, Sem.run_pure, Result.andThen_ok, List.map_toArray, List.map_cons, List.map_nil, hs, hx, hr]
    exact hK _ _ (h v w (by simpa using hown) ⟨rfl, rfl, rfl, Nat.le_refl _, fun _ _ _ => rfl⟩)

/-- The cells of bytes. -/
def bcs (l : List Int) : List Value := l.map (Value.int .u8)
/-- The cells of pieces. -/
def pcs (l : List PC) : List Value := l.flatMap fun p => [.bool p.ad, .int .i64 p.fr, .int .i64 p.sz]

theorem bcs_len (l : List Int) : (bcs l).length = l.length * 1 := by simp [bcs]
theorem pcs_len (l : List PC) : (pcs l).length = l.length * 3 := by
  induction l with
  | nil => rfl
  | cons p r ih => unfold pcs at ih ⊢; simp [ih]; omega
theorem bcs_one (l : List Int) : ∀ u ∈ bcs l, u.oneCell' = true := by
  intro u hu; simp [bcs] at hu; obtain ⟨x, _, rfl⟩ := hu; rfl
theorem pcs_one (l : List PC) : ∀ u ∈ pcs l, u.oneCell' = true := by
  intro u hu; simp [pcs] at hu
  obtain ⟨p, _, rfl | rfl | rfl⟩ := hu <;> rfl
theorem bcs_get (l : List Int) (j : Nat) (h : j < l.length) : (bcs l)[j]? = some (bv l j) := by simp [bcs, bv, h]
theorem pcs_get (l : List PC) : ∀ j, j < l.length * 3 → (pcs l)[j]? = some (pv l j) := by
  induction l with
  | nil => intro j h; simp at h
  | cons p r ih =>
    intro j h
    have e : pcs (p :: r) = [Value.bool p.ad, .int .i64 p.fr, .int .i64 p.sz] ++ pcs r := rfl
    rw [e]
    by_cases h3 : j < 3
    · have : j = 0 ∨ j = 1 ∨ j = 2 := by omega
      rcases this with rfl | rfl | rfl <;> simp [pv, pc]
    · rw [List.getElem?_append_right (by simp; omega)]
      simp only [List.length_cons, List.length_nil]
      rw [ih (j - 3) (by simp at h; omega)]
      unfold pv pc
      have m : (j - 3) % 3 = j % 3 := by omega
      have d : j / 3 = (j - 3) / 3 + 1 := by omega
      rw [m, d]
      rfl
theorem bcs_append (a b : List Int) : bcs (a ++ b) = bcs a ++ bcs b := by simp [bcs]
theorem pcs_append (a b : List PC) : pcs (a ++ b) = pcs a ++ pcs b := by simp [pcs]

theorem BAt.src {w : World} {a : Option Addr} {l : List Int} (h : BAt w a l) : l.length = 0 ∨ ∃ ad, a = some ad ∧ ∀ j u, (bcs l)[j]? = some u → w.cell? (ad.add j) = some u := by
  rcases h with h | ⟨b, o, rfl, hl, hc⟩
  · left; rw [h]; rfl
  · right
    refine ⟨_, rfl, fun j u hj => ?_⟩
    have hlt : j < l.length := by
      have := (List.getElem?_eq_some_iff.1 hj).1
      rw [bcs_len] at this; omega
    rw [bcs_get l j hlt] at hj
    rw [Addr.add_mid, hc j hlt]
    exact hj

theorem PAt.src {w : World} {a : Option Addr} {l : List PC} (h : PAt w a l) : l.length = 0 ∨ ∃ ad, a = some ad ∧ ∀ j u, (pcs l)[j]? = some u → w.cell? (ad.add j) = some u := by
  rcases h with h | ⟨b, o, rfl, hl, hc⟩
  · left; rw [h]; rfl
  · right
    refine ⟨_, rfl, fun j u hj => ?_⟩
    have hlt : j < l.length * 3 := by
      have := (List.getElem?_eq_some_iff.1 hj).1
      rw [pcs_len] at this; exact this
    rw [pcs_get l j hlt] at hj
    obtain ⟨c0, c1, c2⟩ := hc (j / 3) (by omega)
    rw [Addr.add_mid, ← hj]
    have h3 : j % 3 = 0 ∨ j % 3 = 1 ∨ j % 3 = 2 := by omega
    rcases h3 with e | e | e
    · rw [show o + j = o + j / 3 * 3 from by omega, c0]; unfold pv; rw [if_pos e]
    · rw [show o + j = o + j / 3 * 3 + 1 from by omega, c1]; unfold pv; rw [if_neg (by omega), if_pos e]
    · rw [show o + j = o + j / 3 * 3 + 2 from by omega, c2]; unfold pv; rw [if_neg (by omega), if_neg (by omega)]

theorem OB.of_own {w : World} {base : Nat} {v : Value} {l : List Int} (h : w.ownsRow base 5 1 v l.length (bcs l)) : OB w v l ∧ ∀ k, v.ownBlock = some k → base ≤ k := by
  obtain ⟨_, h | ⟨g, cap, cur, rfl, hb, hg, hn, hm, hs, ht⟩⟩ := h
  · obtain ⟨rfl, h0⟩ := h
    exact ⟨.inl ⟨rfl, List.eq_nil_of_length_eq_zero h0⟩, fun k hk => by simp [Value.ownBlock] at hk⟩
  · refine ⟨.inr ⟨g, cap, cap, fun i => cur.toList.getD i undef, rfl, hn, ⟨cur, hg, by omega, fun i hi => ?_⟩, hn, fun i hi => ?_⟩, fun k hk => by simp [Value.ownBlock] at hk; omega⟩
    · have : i < cur.size := by omega
      simp [this]
    · have e := bcs_get l i hi
      rw [← ht, List.getElem?_take, if_pos (by omega)] at e
      simp only [List.getD_eq_getElem?_getD, e, Option.getD_some]

/-- copy into a row of bytes of one's own, from place o on. -/
theorem copy_row {P : Program} (dT sT ty : TypeId) (hu : P.underlying dT = some (.slice 5)) (hs : (P.info? 5).map (·.size) = some 1) {w : World} {g cn : Nat} {f : Nat → Value} (o dn dc : Nat) (hr : w.rowIs g 5 cn f) (a : Option Addr) (c : Nat) (l : List Int)
    (ha : BAt w a l) (h1 : l.length ≤ dn) (h2 : o + l.length ≤ cn) :
    ∃ w', (Builtin.copy_ #[dT, sT] ty #[.slice (some ⟨g, o, none⟩) dn dc, .slice a l.length c]).run P w = .ok (goInt l.length) w' ∧ w'.rowIs g 5 cn (fun j => if o ≤ j ∧ j < o + l.length then bv l (j - o) else f j) ∧ KeptIn g (g + 1) w w' := by
  rcases ha.src with h0 | ⟨ad, rfl, hc⟩
  · rw [h0]
    exact ⟨w, run_copy_none w dT sT ty 5 _ a dn dc 0 c hu hs (by simp), hr.congr (fun j _ => by rw [if_neg (by omega)]), KeptIn.refl _ _ _⟩
  · obtain ⟨cur, hg, hn, hf⟩ := hr
    have hmin : (bcs l).length = Nat.min l.length dn := by rw [bcs_len, Nat.mul_one]; exact (Nat.min_eq_left h1).symm
    have hrun := run_copy_row (P := P) w dT sT ty 5 g o dn dc ad l.length c cur 5 (bcs l) hu hs hg hmin hc (by rw [bcs_len]; omega) (bcs_one l)
    rw [bcs_len, Nat.mul_one] at hrun
    refine ⟨_, hrun, ⟨_, setRow_heap w g cur _ 5 _ hg, ?_, fun i hi => ?_⟩, ⟨rfl, rfl, rfl, by simp [World.setRow], fun k hk hne => setRow_other w g k _ (by omega)⟩⟩
    · simp only [List.size_toArray, List.length_append, List.length_take, List.length_drop, Array.length_toList, bcs_len]
      omega
    · simp only [List.getElem?_toArray]
      have hlt : (cur.toList.take o).length = o := by rw [List.length_take, Array.length_toList]; omega
      by_cases c1 : i < o
      · rw [if_neg (by omega), List.append_assoc, List.getElem?_append_left (by omega), List.getElem?_take, if_pos c1, Array.getElem?_toList]
        exact hf i hi
      · by_cases c2 : i < o + l.length
        · rw [if_pos (by omega), List.append_assoc, List.getElem?_append_right (by omega), hlt, List.getElem?_append_left (by rw [bcs_len]; omega)]
          exact bcs_get l _ (by omega)
        · rw [if_neg (by omega), List.append_assoc, List.getElem?_append_right (by omega), hlt, List.getElem?_append_right (by rw [bcs_len]; omega), bcs_len, List.getElem?_drop, Array.getElem?_toList]
          rw [show o + l.length + (i - o - l.length * 1) = i from by omega]
          exact hf i hi

theorem bv_append_left (a b : List Int) (i : Nat) (h : i < a.length) : bv (a ++ b) i = bv a i := by simp [bv, List.getElem?_append_left h]
theorem bv_append_right (a b : List Int) (i : Nat) (h : a.length ≤ i) : bv (a ++ b) i = bv b (i - a.length) := by simp [bv, List.getElem?_append_right h]

end Go.Proofs.YtpcpnfpnkkjkcaaGreat

/- Walks: a new table, both sides. -/
namespace Go.Proofs.YtpcpnfpnkkjkcaaGreat
open Go.RowKit
set_option linter.unusedVariables false

set_option maxHeartbeats 400000 in
theorem l1Copy_own (a : Option Addr) (c : Nat) (l : List Int) (w : World) (ha : BAt w a l) (hl : (l.length : Int) ≤ 1048576) :
    Calls Tryz.prog 89 #[.slice a l.length c] w fun e w' => ∃ v, e = .returned v ∧ w'.ownsRow w.heap.size 5 1 v l.length (bcs l) ∧ Below w.heap.size w w' := by
  have B0 := below_new w (.cells #[] 5)
  go_enter Tryz.func89, Tryz.ntmps89
  go_wp2_with (at_builtin; refine wpList_append_any _ rfl (.tmp 3) (.tmp 4) 87 rfl w.heap.size 5 (.int .u8 0) 1 1 Tryz.underlying87 Tryz.info5 rfl (by decide) _ 0 [] rfl (World.ownsRow_lit w #[] 0 (Nat.le_refl _) (by decide) rfl) a l.length c (bcs l) rfl (bcs_len l) (ha.below B0).src (bcs_one l) (by unfold maxLen; omega) (by omega) (by simp) ?_; intro v' w1 hown hgr)
  go_ret
  rw [Nat.zero_add, List.nil_append] at hown
  refine ⟨_, rfl, hown, B0.grown hgr (by simp) (fun k hk => ?_)⟩
  simp [Act.eval, Value.ownBlock] at hk
  omega

theorem l1Copy_any (a : Option Addr) (c : Nat) (l : List Int) (w : World) (ha : BAt w a l) (hl : (l.length : Int) ≤ 1048576) :
    Calls Tryz.prog 89 #[.slice a l.length c] w fun e w' => ∃ v, e = .returned v ∧ OB w' v l ∧ In w.heap.size w'.heap.size v ∧ Below w.heap.size w w' := by
  refine (l1Copy_own a c l w ha hl).mono ?_
  rintro e w1 ⟨v, rfl, hown, hb⟩
  obtain ⟨ho, hlo⟩ := OB.of_own hown
  exact ⟨_, rfl, ho, fun k hk => ⟨hlo k hk, ho.lt k hk⟩, hb⟩

/-- The pieces of a new table. -/
def newPcs (l : List Int) : List PC := if l.length = 0 then [] else [⟨false, 0, l.length⟩]
/-- A new table. -/
def newT (l : List Int) : TB := ⟨l, [], newPcs l⟩

end Go.Proofs.YtpcpnfpnkkjkcaaGreat

/- Walks: NewTable, both sides. -/
namespace Go.Proofs.YtpcpnfpnkkjkcaaGreat
open Go.RowKit
set_option linter.unusedVariables false

/-- The code of a new table, and the table beside it. -/
def newCode (l : List Int) : Int := if 240 < l.length then 6 else 0
def newTR (l : List Int) : TB := if 240 < l.length then ⟨[], [], []⟩ else newT l

theorem ob_of_row {w : World} {g n : Nat} {l : List Int} (e : l.length = n) (h : w.rowIs g 5 n (bv l)) : OB w (.slice (some ⟨g, 0, none⟩) n n) l := by
  subst e; exact .inr ⟨g, _, _, _, rfl, Nat.le_refl _, h, Nat.le_refl _, fun _ _ => rfl⟩

end Go.Proofs.YtpcpnfpnkkjkcaaGreat

/- Plain mathematics of a table's text; append and copy as one step of a region that draws its order. -/
namespace Go.Proofs.YtpcpnfpnkkjkcaaGreat
open Go.RowKit
set_option linter.unusedVariables false

/-- The store that a piece is of. -/
def store (t : TB) (p : PC) : List Int := if p.ad then t.more else t.base
/-- The bytes of a piece. -/
def pbytes (t : TB) (p : PC) : List Int := ((store t p).drop p.fr.toNat).take p.sz.toNat
/-- The text of pieces. -/
def ptext (t : TB) (l : List PC) : List Int := l.flatMap (pbytes t)
/-- The text of a table. -/
def text (t : TB) : List Int := ptext t t.pcs

theorem room_store (t : TB) (p : PC) : room t p = ((store t p).length : Int) := by unfold room store; split <;> rfl

theorem ptext_take (t : TB) (l : List PC) (k : Nat) (h : k < l.length) : ptext t (l.take (k + 1)) = ptext t (l.take k) ++ pbytes t (pc l k) := by
  unfold ptext
  rw [take_snoc l k h, List.flatMap_append, pc_get l k h]
  simp

/-- A piece that lies in its store, in numbers from 0 on. -/
theorem lies_nat {t : TB} {p : PC} (h : lies t p = true) : ∃ f z : Nat, p.fr = f ∧ p.sz = z ∧ 1 ≤ z ∧ f + z ≤ (store t p).length ∧ pbytes t p = ((store t p).drop f).take z ∧ (pbytes t p).length = z := by
  obtain ⟨h1, h2, h3⟩ := lies_bounds h
  rw [room_store] at h3
  refine ⟨p.fr.toNat, p.sz.toNat, by omega, by omega, by omega, by omega, rfl, ?_⟩
  unfold pbytes
  rw [List.length_take, List.length_drop]
  omega

theorem lies_k {t : TB} (h : fault t = 0) (k : Nat) (hk : k < t.pcs.length) : lies t (pc t.pcs k) = true := by
  obtain ⟨_, _, _, ha, _⟩ := fault_zero h
  rw [pc_get _ _ hk]
  exact List.all_eq_true.1 ha _ (List.getElem_mem hk)

theorem ptext_len {t : TB} (h : fault t = 0) : ∀ k, k ≤ t.pcs.length → ((ptext t (t.pcs.take k)).length : Int) = total (t.pcs.take k) := by
  intro k
  induction k with
  | zero => intro _; simp [ptext, total]
  | succ k ih =>
    intro hk
    obtain ⟨f, z, e1, e2, _, _, _, e3⟩ := lies_nat (lies_k h k (by omega))
    rw [ptext_take _ _ _ (by omega), total_take _ _ (by omega), List.length_append, e2, ← ih (by omega), e3]
    omega

theorem text_len {t : TB} (h : fault t = 0) : ((text t).length : Int) = total t.pcs ∧ (text t).length ≤ 240 := by
  have := ptext_len h t.pcs.length (Nat.le_refl _)
  rw [List.take_length] at this
  have h5 := (fault_zero h).2.2.2.2
  unfold text
  omega

theorem ptext_le {t : TB} (h : fault t = 0) (k : Nat) (hk : k ≤ t.pcs.length) : (ptext t (t.pcs.take k)).length ≤ 80000 := by
  have h1 := ptext_len h k hk
  have h2 := (fault_small h).total_le k hk
  have h3 := (fault_small h).1
  omega

/-- Bytes from place f on, z of them. -/
theorem BAt.sub {w : World} {b o f z : Nat} {l : List Int} (hc : ∀ k, k < l.length → w.cell? ⟨b, o + k, none⟩ = some (bv l k)) (hb : b < w.heap.size) (h : f + z ≤ l.length) : BAt w (some ⟨b, o + f, none⟩) ((l.drop f).take z) := by
  refine .inr ⟨b, o + f, rfl, hb, fun k hk => ?_⟩
  rw [List.length_take, List.length_drop] at hk
  have hk' : k < z := by omega
  rw [show o + f + k = o + (f + k) from by omega, hc (f + k) (by omega)]
  unfold bv
  congr 2
  simp [hk']

/-- append(v, x...) as one step of a region that draws its order. -/
theorem step_append_any {P : Program} {ops : Array Oper} {o : Oper} {a : Act} {w : World} {K : Act → World → Prop} {Q : Exit → Act → World → Prop} {E : Prop} (hgd : o.guard = none) (s x : Operand) (t : TypeId)
    (ho : o.op = .call { callee := .builtin .append, args := #[s, x], argTypes := #[t, t] })
    (base : Nat) (e : TypeId) (z : Value) (size bytes : Nat) (ht : P.underlying t = some (.slice e)) (hinfo : (P.info? e).map (fun i => (i.zero, i.size, i.bytes)) = some (some z, size, bytes))
    (hzs : z.cells.size = size) (hsz : 0 < size)
    (v : Value) (n : Nat) (xs : List Value) (hs : a.eval s = v) (hown : w.ownsRow base e size v n xs)
    (ad : Addr) (m c : Nat) (news : List Value) (hx : a.eval x = .slice (some ad) m c) (hl : news.length = m * size)
    (hsrc : ∀ j u, news[j]? = some u → w.cell? (ad.add j) = some u) (h1 : ∀ u ∈ news, u.oneCell' = true)
    (h63 : n + m ≤ maxLen) (hbytes : (n + m) * bytes ≤ 140737488355328) (hbase : base ≤ w.heap.size)
    (h : ∀ v' w', w'.ownsRow base e size v' (n + m) (xs ++ news) → w.grownBy w' v.ownBlock → K (a.put o.dst v') w') :
    if Region.wanted o (yielded ops a.tmps) = true then Oper.wp P o a w K Q else E := by
  have hw : Region.wanted o (yielded ops a.tmps) = true := by simp [Region.wanted, hgd]
  rw [if_pos hw]
  obtain ⟨i, hi, hz0, hz1, hz2⟩ := info_parts hinfo
  exact wp_append_own w s x t ho base e i z size bytes ht hi hz0 hz1 hz2 hzs hsz v n xs hs hown ad m c news hx hl hsrc h1 h63 hbytes hbase fun v' w' h2 h3 _ => h v' w' h2 h3

/-- Behind an append to a row of one's own the cells below B are as they were. -/
theorem grown_cells {B : Nat} {w w1 : World} {row : Option Nat} (hg : w.grownBy w1 row) (hr : ∀ k, row = some k → B ≤ k) (hB : B ≤ w.heap.size) : ∀ b o, b < B → w1.cell? ⟨b, o, none⟩ = w.cell? ⟨b, o, none⟩ := by
  intro b o hb
  exact World.cell?_of_block (hg.block b (by omega) (fun e => by have := hr b e.symm; omega))

theorem BAt.cells {w : World} {ad : Addr} {l : List Int} (h : BAt w (some ad) l) : ∀ j u, (bcs l)[j]? = some u → w.cell? (ad.add j) = some u := by
  rcases h.src with h0 | ⟨ad', e, hc⟩
  · have : l = [] := List.eq_nil_of_length_eq_zero h0
    subst this
    intro j u hj
    simp [bcs] at hj
  · cases e; exact hc

theorem own_lo {w : World} {base : Nat} {e : TypeId} {size : Nat} {v : Value} {n : Nat} {xs : List Value} (h : w.ownsRow base e size v n xs) : ∀ k, v.ownBlock = some k → base ≤ k := fun k hk => (h.lt k hk).1

/-- copy into a row of bytes of one's own, as one step of a region that draws its order. -/
theorem step_copy_any {P : Program} {ops : Array Oper} {op : Oper} {a : Act} {w : World} {K : Act → World → Prop} {Q : Exit → Act → World → Prop} {E : Prop} (hgd : op.guard = none) (d s : Operand) (dT sT : TypeId)
    (ho : op.op = .call { callee := .builtin .copy, args := #[d, s], argTypes := #[dT, sT] }) (hu : P.underlying dT = some (.slice 5)) (hs : (P.info? 5).map (·.size) = some 1)
    (g o dn dc : Nat) (hd : a.eval d = .slice (some ⟨g, o, none⟩) dn dc) (ax : Option Addr) (m c : Nat) (hx : a.eval s = .slice ax m c) (l : List Int) (hm : l.length = m) (cn : Nat) (f : Nat → Value) (hr : w.rowIs g 5 cn f)
    (ha : BAt w ax l) (h1 : m ≤ dn) (h2 : o + m ≤ cn)
    (h : ∀ w', w'.rowIs g 5 cn (fun j => if o ≤ j ∧ j < o + m then bv l (j - o) else f j) → KeptIn g (g + 1) w w' → K (a.put op.dst (goInt m)) w') :
    if Region.wanted op (yielded ops a.tmps) = true then Oper.wp P op a w K Q else E := by
  have hw : Region.wanted op (yielded ops a.tmps) = true := by simp [Region.wanted, hgd]
  rw [if_pos hw]
  subst hm
  obtain ⟨w', hrun, hr', hk'⟩ := copy_row (P := P) dT sT op.type hu hs o dn dc hr ax c l ha h1 h2
  unfold Oper.wp
  simp [execOp, ho, resolve, invoke, builtin, hd, hx, hrun, Result.andThen]
  exact h w' hr' hk'

/-- What the text holds when the bytes of k pieces are copied. -/
def tpart (t : TB) (k j : Nat) : Value := if j < (ptext t (t.pcs.take k)).length then bv (text t) j else .int .u8 0

theorem text_split (t : TB) (k : Nat) : text t = ptext t (t.pcs.take k) ++ ptext t (t.pcs.drop k) := by
  unfold text ptext
  rw [← List.flatMap_append, List.take_append_drop]

theorem tpart_step {t : TB} {w : World} {g T k z : Nat} (hk : k < t.pcs.length) (hz : (pbytes t (pc t.pcs k)).length = z) (h : w.rowIs g 5 T (fun j => if (ptext t (t.pcs.take k)).length ≤ j ∧ j < (ptext t (t.pcs.take k)).length + z then bv (pbytes t (pc t.pcs k)) (j - (ptext t (t.pcs.take k)).length) else tpart t k j)) :
    w.rowIs g 5 T (tpart t (k + 1)) := by
  refine h.congr (fun j _ => ?_)
  have e := ptext_take t t.pcs k hk
  have el : (ptext t (t.pcs.take (k + 1))).length = (ptext t (t.pcs.take k)).length + z := by rw [e, List.length_append, hz]
  have es := text_split t (k + 1)
  by_cases c1 : j < (ptext t (t.pcs.take k)).length
  · rw [if_neg (by omega)]; unfold tpart; rw [if_pos c1, if_pos (by omega)]
  · by_cases c2 : j < (ptext t (t.pcs.take k)).length + z
    · rw [if_pos (by omega)]; unfold tpart; rw [if_pos (by omega), es, bv_append_left _ _ _ (by omega), e, bv_append_right _ _ _ (by omega)]
    · rw [if_neg (by omega)]; unfold tpart; rw [if_neg c1, if_neg (by omega)]

theorem tpart_end {t : TB} {w : World} {g : Nat} (h : w.rowIs g 5 (text t).length (tpart t t.pcs.length)) : w.rowIs g 5 (text t).length (bv (text t)) :=
  h.congr (fun j hj => by unfold tpart; rw [List.take_length]; exact if_pos hj)

theorem ptext_le_text {t : TB} (k : Nat) (hk : k < t.pcs.length) : (ptext t (t.pcs.take k)).length + (pbytes t (pc t.pcs k)).length ≤ (text t).length := by
  have e := congrArg List.length (text_split t (k + 1))
  rw [ptext_take t t.pcs k hk] at e
  simp only [List.length_append] at e
  omega

theorem grown_frozen {B : Nat} {w w1 : World} {row : Option Nat} (hg : w.grownBy w1 row) (hr : ∀ k, row = some k → B ≤ k) (hB : B ≤ w.heap.size) : ∀ b o, b < B → w1.frozen? ⟨b, o, none⟩ = w.frozen? ⟨b, o, none⟩ := by
  intro b o hb
  exact World.frozen?_of_block (hg.block b (by omega) (fun e => by have := hr b e.symm; omega))

end Go.Proofs.YtpcpnfpnkkjkcaaGreat

/- Walks: the text of a table, the model's side. -/
namespace Go.Proofs.YtpcpnfpnkkjkcaaGreat
open Go.RowKit
set_option linter.unusedVariables false

theorem kept2 (w : World) (g o1 o2 : Nat) (v1 v2 : Value) : KeptIn g (g + 1) w ((w.setCell ⟨g, o1, none⟩ v1).setCell ⟨g, o2, none⟩ v2) :=
  ((KeptIn.refl g (g + 1) w).setCell (p := ⟨g, o1, none⟩) (Nat.le_refl _) (Nat.lt_succ_self _) _).setCell (p := ⟨g, o2, none⟩) (Nat.le_refl _) (Nat.lt_succ_self _) _

/-- The store of a piece, as a slice in memory. -/
theorem store_at {w : World} {a1 a2 : Option Addr} {c1 c2 : Nat} {t : TB} (p : PC) (h1 : BAt w a1 t.base) (h2 : BAt w a2 t.more) (h0 : 0 < (store t p).length) (k1 : t.base.length ≤ c1) (k2 : t.more.length ≤ c2) :
    ∃ b o c, (if p.ad then Value.slice a2 t.more.length c2 else Value.slice a1 t.base.length c1) = .slice (some ⟨b, o, none⟩) (store t p).length c ∧ (store t p).length ≤ c ∧ b < w.heap.size ∧ ∀ k, k < (store t p).length → w.cell? ⟨b, o + k, none⟩ = some (bv (store t p) k) := by
  unfold store at *
  cases hp : p.ad <;> rw [hp] at h0
  · rcases h1 with h1 | ⟨b, o, rfl, hb, hc⟩
    · simp [h1] at h0
    · exact ⟨b, o, c1, rfl, k1, hb, hc⟩
  · rcases h2 with h2 | ⟨b, o, rfl, hb, hc⟩
    · simp [h2] at h0
    · exact ⟨b, o, c2, rfl, k2, hb, hc⟩

/-- The bytes that are told beside the code. -/
def textVal (t : TB) : List Int := if fault t = 0 then text t else []

end Go.Proofs.YtpcpnfpnkkjkcaaGreat

/- Walks: the text of a table, the program's side. -/
namespace Go.Proofs.YtpcpnfpnkkjkcaaGreat
open Go.RowKit
set_option linter.unusedVariables false

end Go.Proofs.YtpcpnfpnkkjkcaaGreat

/- An attribute of a token, both sides. -/
namespace Go.Proofs.YtpcpnfpnkkjkcaaGreat
open Go.RowKit
set_option linter.unusedVariables false
set_option linter.unusedSimpArgs false

/-- The code and the value of an attribute that is asked for. -/
def aoCode (t : TK) (s : ByteArray) : Int := if tfault t = 0 then (if 0 ≤ posK t.at_ s then 0 else 4) else tfault t
def aoVal (t : TK) (s : ByteArray) : List Int := if tfault t = 0 then (if 0 ≤ posK t.at_ s then (atK t.at_ (posK t.at_ s).toNat).vl else []) else []

theorem posFrom_lt : ∀ (l : List AT) (s : ByteArray) (n : Nat), posFrom l s n = -1 ∨ ∃ k : Nat, k < l.length ∧ posFrom l s n = ((n + k : Nat) : Int)
  | [], _, _ => .inl rfl
  | x :: r, s, n => by
    unfold posFrom
    by_cases h : (x.nm.toList == s.toList) = true
    · rw [if_pos h]; exact .inr ⟨0, by simp, by simp⟩
    · rw [if_neg h]
      rcases posFrom_lt r s (n + 1) with h' | ⟨k, h1, h2⟩
      · exact .inl h'
      · exact .inr ⟨k + 1, by simp; omega, by rw [h2]; congr 1; omega⟩
theorem posK_lt (l : List AT) (s : ByteArray) : posK l s = -1 ∨ ∃ k : Nat, k < l.length ∧ posK l s = (k : Int) := by
  rcases posFrom_lt l s 0 with h | ⟨k, h1, h2⟩
  · exact .inl h
  · exact .inr ⟨k, h1, by unfold posK; rw [h2, Nat.zero_add]⟩

end Go.Proofs.YtpcpnfpnkkjkcaaGreat

/- An attribute of a token: the program. -/
namespace Go.Proofs.YtpcpnfpnkkjkcaaGreat
open Go.RowKit
set_option linter.unusedVariables false
set_option linter.unusedSimpArgs false

end Go.Proofs.YtpcpnfpnkkjkcaaGreat
