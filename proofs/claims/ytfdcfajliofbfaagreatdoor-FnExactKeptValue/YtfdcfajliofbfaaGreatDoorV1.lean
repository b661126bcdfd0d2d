/- Schemes: the mathematics, and the small walks of both sides. -/
import Derived.Test.YtfdcfajliofbfaaGreatDoorSpl
import Derived.Test.YtfdcfajliofbfaaGreatDoorNa
import Derived.Test.YtfdcfajliofbfaaGreatDoorWb
import Derived.Test.YtfdcfajliofbfaaGreatDoorCq
import Derived.Test.YtfdcfajliofbfaaGreatDoorShp
import Derived.Laws.BytesString
import Derived.Laws.IdiomStrings
import Derived.BigGuard
import Derived.Test.YtfdcfajliofbfaaGreatDoorCm
import Derived.Lib.SlBytesConst
namespace Go.Proofs.YtfdcfajliofbfaaGreatDoor
open Go.RowKit
set_option linter.unusedVariables false
set_option linter.unusedSimpArgs false

/-- Where the first colon stands (behind all, if there is none). -/
def colN : List Int → Nat
  | [] => 0
  | x :: r => if x = 58 then 0 else colN r + 1

def colI (l : List Int) : Int := if colN l < l.length then (colN l : Int) else -1

theorem colN_le : ∀ l : List Int, colN l ≤ l.length
  | [] => Nat.le_refl _
  | x :: r => by
    unfold colN
    split
    · omega
    · have := colN_le r; simp only [List.length_cons]; omega

theorem colN_eq : ∀ (l : List Int) (k : Nat), k < l.length → l.getD k 0 = 58 → (∀ j, j < k → ¬ l.getD j 0 = 58) → colN l = k
  | [], k, h, _, _ => absurd h (Nat.not_lt_zero _)
  | x :: r, 0, _, h, _ => by
    unfold colN
    rw [if_pos (by simpa using h)]
  | x :: r, k + 1, h, h1, h2 => by
    unfold colN
    rw [if_neg (by simpa using h2 0 (by omega)), colN_eq r k (by simpa using h) (by simpa using h1) (fun j hj => by simpa using h2 (j + 1) (by omega))]

theorem colN_none : ∀ (l : List Int), (∀ j, j < l.length → ¬ l.getD j 0 = 58) → colN l = l.length
  | [], _ => rfl
  | x :: r, h => by
    unfold colN
    rw [if_neg (by simpa using h 0 (by simp)), colN_none r (fun j hj => by simpa using h (j + 1) (by simpa using hj))]
    rfl

theorem byte58 {x : Int} (h0 : 0 ≤ x) (h1 : x ≤ 255) : (UInt8.ofNat x.toNat == 58) = decide (x = 58) := by
  obtain ⟨n, rfl⟩ : ∃ n : Nat, x = n := ⟨x.toNat, by omega⟩
  rw [Bool.eq_iff_iff, beq_iff_eq, decide_eq_true_eq]
  constructor
  · intro h
    have := congrArg UInt8.toNat h
    simp at this
    omega
  · intro h
    have : n = 58 := by omega
    subst this
    rfl

theorem indexByte_is : ∀ (l : List Int), (∀ x ∈ l, 0 ≤ x ∧ x ≤ 255) → Lib.indexByte (Lib.bytesOf l) 58 = colI l
  | [], _ => rfl
  | x :: r, h => by
    have hx := h x (by simp)
    have ih := indexByte_is r (fun y hy => h y (by simp [hy]))
    have e : Lib.bytesOf (x :: r) = UInt8.ofNat x.toNat :: Lib.bytesOf r := rfl
    rw [e]
    unfold Lib.indexByte
    rw [byte58 hx.1 hx.2]
    by_cases h58 : x = 58
    · simp [h58, colI, colN]
    · have c : colN (x :: r) = colN r + 1 := by rw [colN, if_neg h58]
      rw [decide_eq_false h58, ih]
      by_cases hl : colN r < r.length
      · have e1 : colI r = (colN r : Int) := by unfold colI; rw [if_pos hl]
        have e2 : colI (x :: r) = (colN r : Int) + 1 := by
          unfold colI
          rw [c, if_pos (by simp only [List.length_cons]; omega)]
          omega
        have e3 : ((colN r : Int) == -1) = false := by rw [beq_eq_false_iff_ne]; omega
        rw [e1, e2, e3]
        rfl
      · have e1 : colI r = -1 := by unfold colI; rw [if_neg hl]
        have e2 : colI (x :: r) = -1 := by
          unfold colI
          rw [c, if_neg (by simp only [List.length_cons]; omega)]
        rw [e1, e2]
        rfl

/-- No letter. -/
def noLet (x : Int) : Bool := !(decide (97 ≤ x ∧ x ≤ 122) || decide (65 ≤ x ∧ x ≤ 90))
/-- A to Z as a to z. -/
def lowI (x : Int) : Int := if 65 ≤ x ∧ x ≤ 90 then x + 32 else x

/-- The scheme of bytes (none: there is none). -/
def schS (l : List Int) : List Int := if colN l < l.length ∧ (l.take (colN l)).any noLet = false then (l.take (colN l)).map lowI else []

theorem Tryz.info5' : (Tryz.prog.info? 5).map (fun i => (i.zero, i.size, i.bytes)) = some (some (.int .u8 0), 1, 1) := by kernel_rfl

theorem bget {w : World} {a : Option Addr} {l : List Int} (h : BAt w a l) {k : Nat} (hk : k < l.length) : ∃ b o, a = some ⟨b, o, none⟩ ∧ b < w.heap.size ∧ w.cell? ⟨b, o + k, none⟩ = some (.int .u8 (l.getD k 0)) := by
  rcases h with h | ⟨b, o, e, hs, hc⟩
  · rw [h] at hk; exact absurd hk (Nat.not_lt_zero _)
  · exact ⟨b, o, e, hs, hc k hk⟩

set_option maxHeartbeats 800000 in
theorem l8Colon_any (a : Option Addr) (c : Nat) (l : List Int) (w : World) (ha : BAt w a l) (hl : (l.length : Int) ≤ 1048576) :
    Calls Tryz.prog 161 #[.slice a l.length c] w fun e w' => e = .returned (.int .i64 (colI l)) ∧ w' = w := by
  have HA := Hid.mk' ha
  clear ha
  go_enter Tryz.func161, Tryz.ntmps161
  go_wp2
  go_loop [3] (fun i => ∃ k : Nat, k ≤ l.length ∧ i = .int .i64 k ∧ ∀ j, j < k → ¬ l.getD j 0 = 58) (fun i => l.length - (intOf i).toNat)
  case atStart => exact ⟨0, Nat.zero_le _, rfl, fun j hj => absurd hj (Nat.not_lt_zero _)⟩
  case round =>
    obtain ⟨k, hk, rfl, hf⟩ := hrel
    have HF := Hid.mk' hf
    clear hf
    by_cases hlt : k < l.length
    · have ci : (k : Int) < (l.length : Int) := by omega
      obtain ⟨b, o, rfl, hbs, h1⟩ := bget HA.out hlt
      have HE := Hid.mk' (fun h58 => colN_eq l k hlt h58 HF.out)
      have HS : Hid (¬ l.getD k 0 = 58 → ∀ j, j < k + 1 → ¬ l.getD j 0 = 58) := Hid.mk' fun h j hj => by
        by_cases e : j = k
        · subst e; exact h
        · exact HF.out j (by omega)
      generalize l.getD k 0 = x at *
      by_cases h58 : x = 58
      · have E : Hid (colI l = (k : Int)) := Hid.mk' (by unfold colI; rw [HE.out h58, if_pos hlt])
        have hb : (x == 58) = true := by rw [beq_iff_eq]; exact h58
        clear h58
        go_wp2
        go_ret
        exact ⟨by rw [E.out]; rfl, rfl⟩
      · have HS := Hid.mk' (HS.out h58)
        have hb : (x == 58) = false := by rw [beq_eq_false_iff_ne]; exact h58
        clear h58
        go_wp2
        go_round
        case rel => exact ⟨k + 1, by omega, by go_num, HS.out⟩
        case measure => simp [intOf]; omega
    · have ci : ¬ (k : Int) < (l.length : Int) := by omega
      have e : k = l.length := by omega
      subst e
      have E : Hid (colI l = -1) := Hid.mk' (by unfold colI; rw [colN_none l HF.out, if_neg (by omega)])
      go_wp2
      go_ret
      exact ⟨by rw [E.out]; rfl, rfl⟩

theorem noLet_of {x : Int} (b1 : x < 97 ∨ x > 122) (b2 : x < 65 ∨ x > 90) : noLet x = true := by
  unfold noLet
  rw [decide_eq_false (by omega), decide_eq_false (by omega)]; rfl
theorem noLet_low {x : Int} (h : 97 ≤ x ∧ x ≤ 122) : noLet x = false := by unfold noLet; rw [decide_eq_true h]; rfl
theorem noLet_up {x : Int} (h : 65 ≤ x ∧ x ≤ 90) : noLet x = false := by unfold noLet; rw [decide_eq_true h]; simp

theorem isNoLetter_any (x : Int) (w : World) :
    Calls Tryz.prog 167 #[.int .u8 x] w fun e w' => e = .returned (.bool (noLet x)) ∧ w' = w := by
  by_cases b1 : x < 97
  · by_cases b3 : x < 65
    · have E := Hid.mk' (noLet_of (.inl b1) (.inl b3))
      go_enter Tryz.func167, Tryz.ntmps167
      go_wp2_with go_big_skip
      go_ret
      exact ⟨by rw [E.out]; rfl, rfl⟩
    · by_cases b4 : x > 90
      · have E := Hid.mk' (noLet_of (.inl b1) (.inr b4))
        go_enter Tryz.func167, Tryz.ntmps167
        go_wp2_with go_big_skip
        go_ret
        exact ⟨by rw [E.out]; rfl, rfl⟩
      · have E := Hid.mk' (noLet_up (x := x) (by omega))
        go_enter Tryz.func167, Tryz.ntmps167
        go_wp2_with go_big_skip
        go_ret
        exact ⟨by rw [E.out]; rfl, rfl⟩
  · by_cases b2 : x > 122
    · have b3 : ¬ x < 65 := by omega
      have b4 : x > 90 := by omega
      have E := Hid.mk' (noLet_of (.inr b2) (.inr b4))
      go_enter Tryz.func167, Tryz.ntmps167
      go_wp2_with go_big_skip
      go_ret
      exact ⟨by rw [E.out]; rfl, rfl⟩
    · have E := Hid.mk' (noLet_low (x := x) (by omega))
      go_enter Tryz.func167, Tryz.ntmps167
      go_wp2_with go_big_skip
      go_ret
      exact ⟨by rw [E.out]; rfl, rfl⟩

theorem any_take {l : List Int} {k : Nat} {p : Int → Bool} (hk : k < l.length) : (l.take (k + 1)).any p = ((l.take k).any p || p (l.getD k 0)) := by
  have e : l.take (k + 1) = l.take k ++ [l.getD k 0] := by
    rw [List.take_succ_eq_append_getElem hk]
    simp [hk]
  rw [e, List.any_append]
  simp

theorem any_at {l : List Int} {k : Nat} {p : Int → Bool} (hk : k < l.length) (h : p (l.getD k 0) = true) : l.any p = true := by
  rw [List.any_eq_true]
  exact ⟨l[k], List.getElem_mem hk, by have e : l.getD k 0 = l[k] := by simp [hk]
                                       rw [← e]; exact h⟩

set_option maxHeartbeats 800000 in
theorem indexF_any (a : Option Addr) (c : Nat) (l : List Int) (w : World) (ha : BAt w a l) (hl : (l.length : Int) ≤ 1048576) :
    Calls Tryz.prog 164 #[.slice a l.length c, .func (.func 167) #[] #[]] w fun e w' => ∃ z : Int, e = .returned (.int .i64 z) ∧ decide (0 ≤ z) = l.any noLet ∧ w' = w := by
  have HA := Hid.mk' ha
  clear ha
  go_enter Tryz.func164, Tryz.ntmps164
  go_wp2
  go_loop [8] (fun i => ∃ k : Nat, k ≤ l.length ∧ i = .int .i64 k ∧ (l.take k).any noLet = false) (fun i => l.length - (intOf i).toNat)
  case atStart => exact ⟨0, Nat.zero_le _, rfl, rfl⟩
  case round =>
    obtain ⟨k, hk, rfl, hf⟩ := hrel
    have HF := Hid.mk' hf
    clear hf
    by_cases hlt : k < l.length
    · have ci : (k : Int) < (l.length : Int) := by omega
      obtain ⟨b, o, rfl, hbs, h1⟩ := bget HA.out hlt
      have HT := Hid.mk' (any_take (p := noLet) hlt)
      have HX := Hid.mk' (any_at (p := noLet) hlt)
      have KN := isNoLetter_any (l.getD k 0) w
      generalize l.getD k 0 = x at *
      cases he : noLet x with
      | true =>
        rw [he] at KN
        have KN := Hid.mk' KN
        have E := Hid.mk' (HX.out he)
        go_wp2_with fail
        refine KN.out.mono ?_
        rintro e w1 ⟨rfl, hw⟩
        obtain rfl := hw.symm
        go_wp2
        go_ret
        exact ⟨k, rfl, by rw [E.out]; simp, rfl⟩
      | false =>
        rw [he] at KN
        have KN := Hid.mk' KN
        have E : Hid ((l.take (k + 1)).any noLet = false) := Hid.mk' (by rw [HT.out, HF.out, he]; rfl)
        go_wp2_with fail
        refine KN.out.mono ?_
        rintro e w1 ⟨rfl, hw⟩
        obtain rfl := hw.symm
        go_wp2
        go_round
        case rel => exact ⟨k + 1, by omega, by go_num, E.out⟩
        case measure => simp [intOf]; omega
    · have ci : ¬ (k : Int) < (l.length : Int) := by omega
      have e : k = l.length := by omega
      have E : Hid (l.any noLet = false) := Hid.mk' (by have := HF.out; rw [e, List.take_length] at this; exact this)
      go_wp2
      go_ret
      exact ⟨-1, rfl, by rw [E.out]; rfl, rfl⟩

theorem containsF_any (a : Option Addr) (c : Nat) (l : List Int) (w : World) (ha : BAt w a l) (hl : (l.length : Int) ≤ 1048576) :
    Calls Tryz.prog 136 #[.slice a l.length c, .func (.func 167) #[] #[]] w fun e w' => e = .returned (.bool (l.any noLet)) ∧ w' = w := by
  have K := Hid.mk' (indexF_any a c l w ha hl)
  clear ha
  go_enter Tryz.func136, Tryz.ntmps136
  go_wp2_with fail
  refine K.out.mono ?_
  rintro e w1 ⟨z, rfl, hz, rfl⟩
  have HZ := Hid.mk' hz
  clear hz
  go_wp2
  go_ret
  exact ⟨by rw [← HZ.out]; simp, rfl⟩

end Go.Proofs.YtfdcfajliofbfaaGreatDoor

/- SchemeOf: both sides, and the law. -/
namespace Go.Proofs.YtfdcfajliofbfaaGreatDoor
open Go.RowKit
set_option linter.unusedVariables false
set_option linter.unusedSimpArgs false

theorem strS_fold : ∀ (l : List Int) (r : ByteArray), (l.foldl (fun r n => r.push (UInt8.ofNat n.toNat)) r).data.toList = r.data.toList ++ l.map (fun n => UInt8.ofNat n.toNat)
  | [], r => by simp
  | x :: l, r => by
    rw [List.foldl_cons, strS_fold l]
    simp
theorem strS_list (l : List Int) : (strS l).data.toList = l.map (fun n => UInt8.ofNat n.toNat) := by
  unfold strS
  rw [strS_fold]
  rfl

theorem bytes_ext {a b : ByteArray} (h : a.data.toList = b.data.toList) : a = b := by
  cases a; cases b
  simp at h
  rw [h]

theorem low_byte {x : Int} (h0 : 0 ≤ x) (h1 : x ≤ 255) : Lib.lowerB (UInt8.ofNat x.toNat) = UInt8.ofNat (lowI x).toNat := by
  obtain ⟨n, rfl⟩ : ∃ n : Nat, x = n := ⟨x.toNat, by omega⟩
  have hn : n < 256 := by omega
  have e : Lib.isUpperB (UInt8.ofNat (n : Int).toNat) = decide (65 ≤ (n : Int) ∧ (n : Int) ≤ 90) := by
    unfold Lib.isUpperB
    rw [Bool.eq_iff_iff]
    simp [UInt8.le_iff_toNat_le, Nat.mod_eq_of_lt hn]
    omega
  unfold Lib.lowerB lowI
  rw [e]
  by_cases h : 65 ≤ (n : Int) ∧ (n : Int) ≤ 90
  · rw [decide_eq_true h, if_pos rfl, if_pos h]
    apply UInt8.toNat_inj.1
    have : ((n : Int) + 32).toNat = n + 32 := by omega
    rw [this]
    simp
  · rw [decide_eq_false h, if_neg (by simp), if_neg h]

/-- Lowered by the program. -/
theorem lower_is {l : List Int} (h : ∀ x ∈ l, 0 ≤ x ∧ x ≤ 255) : (⟨(Lib.toLowerA (strS l).data.toList).toArray⟩ : ByteArray) = strS (l.map lowI) := by
  apply bytes_ext
  rw [strS_list, strS_list]
  unfold Lib.toLowerA
  rw [List.map_map, List.map_map]
  show List.map _ l = List.map _ l
  apply List.map_congr_left
  intro x hx
  exact low_byte (h x hx).1 (h x hx).2

theorem tlLoopS (s : ByteArray) : ∀ (n i : Nat) (r : List UInt8), s.size - i = n → ByteArray.toList.loop s i r = r.reverse ++ s.data.toList.drop i := by
  intro n
  induction n with
  | zero =>
    intro i r h
    rw [ByteArray.toList.loop, if_neg (by omega)]
    have h2 : s.data.toList.length ≤ i := by
      have : s.data.toList.length = s.size := by simp
      omega
    rw [List.drop_eq_nil_of_le h2, List.append_nil]
  | succ n ih =>
    intro i r h
    have hi : i < s.size := by omega
    rw [ByteArray.toList.loop, if_pos hi, ih (i + 1) _ (by omega)]
    have h2 : i < s.data.toList.length := by
      have : s.data.toList.length = s.size := by simp
      omega
    rw [List.drop_eq_getElem_cons h2, List.reverse_cons, List.append_assoc]
    congr 1
    show [s.get! i] ++ _ = _
    have e : s.get! i = s.data.toList[i] := by
      show s.data[i]! = _
      rw [getElem!_pos s.data i (by simpa using h2)]
      simp
    rw [e]; rfl
theorem tlDataS (s : ByteArray) : s.toList = s.data.toList := by
  unfold ByteArray.toList
  rw [tlLoopS s _ 0 [] rfl]
  simp

theorem strS_nil_iff (l : List Int) : ((strS l).toList == []) = decide (l = []) := by
  have e : (strS l).toList = (strS l).data.toList := by
    have h : ∀ (s : ByteArray), s.toList = s.data.toList := tlDataS
    exact h _
  rw [e, strS_list, Bool.eq_iff_iff, beq_iff_eq, decide_eq_true_eq]
  cases l <;> simp

/-- Bytes that grow in a row of one's own. -/
structure GrS (w : World) (v : Value) (l : List Int) (wr : World) : Prop where
  own : wr.ownsRow w.heap.size 5 1 v l.length (bcs l)
  bl : Below w.heap.size w wr
  sz : w.heap.size ≤ wr.heap.size

theorem GrS.alloc {w wr : World} {v : Value} {l : List Int} (h : GrS w v l wr) (o : Obj) : GrS w v l (wr.alloc o) :=
  ⟨h.own.alloc o, h.bl.alloc h.sz o, by have := h.sz; simp; omega⟩
theorem GrS.app {w wr w1 : World} {v v' : Value} {l : List Int} {x : Int} (h : GrS w v l wr) (ho : w1.ownsRow w.heap.size 5 1 v' (l.length + 1) (bcs l ++ bcs [x])) (hg : wr.grownBy w1 v.ownBlock) : GrS w v' (l ++ [x]) w1 :=
  ⟨by rw [List.length_append, bcs_append]; exact ho, h.bl.grown hg h.sz (own_lo h.own), Nat.le_trans h.sz hg.size⟩

theorem bcs1 (x : Int) : (bcs [x]).length = 1 * 1 := rfl
theorem oneB (w : World) (x : Int) : ∀ j u, (bcs [x])[j]? = some u → (w.alloc (.cells #[.int .u8 x] 5)).cell? ((⟨w.heap.size, 0, none⟩ : Addr).add j) = some u := by
  intro j u h
  cases j with
  | zero =>
    have e : u = .int .u8 x := by simpa [bcs] using h.symm
    subst e
    simp [Addr.add]
  | succ j => simp [bcs] at h

theorem schS_bad {l : List Int} {k : Nat} (hk : k < colN l) (hl : colN l < l.length) (h : noLet (l.getD k 0) = true) : schS l = [] := by
  unfold schS
  rw [if_neg]
  rintro ⟨_, h2⟩
  have : (l.take (colN l)).any noLet = true := any_at (k := k) (by rw [List.length_take]; omega) (by
    have e : (l.take (colN l)).getD k 0 = l.getD k 0 := by
      simp [List.getD_eq_getElem?_getD, List.getElem?_take, hk]
    rw [e]; exact h)
  rw [this] at h2; cases h2

theorem map_take_snoc {l : List Int} {k : Nat} (hk : k < l.length) : (l.take (k + 1)).map lowI = (l.take k).map lowI ++ [lowI (l.getD k 0)] := by
  have e : l.take (k + 1) = l.take k ++ [l.getD k 0] := by
    rw [List.take_succ_eq_append_getElem hk]
    simp [hk]
  rw [e, List.map_append]; rfl

theorem ltr_low {x : Int} (h0 : 0 ≤ x) (h1 : x ≤ 255) : ltrB (lowI x).toNat = !noLet x := by
  unfold lowI
  by_cases h : 65 ≤ x ∧ x ≤ 90
  · rw [if_pos h, noLet_up h, ltrB_true (by unfold ltr; omega)]; rfl
  · rw [if_neg h]
    by_cases h2 : 97 ≤ x ∧ x ≤ 122
    · rw [noLet_low h2, ltrB_true (by unfold ltr; omega)]; rfl
    · rw [noLet_of (by omega) (by omega), ltrB_false (by unfold ltr; omega)]; rfl

set_option maxRecDepth 100000 in
set_option maxHeartbeats 3200000 in
theorem l8Scheme_any (a : Option Addr) (c : Nat) (l : List Int) (w : World) (ha : BAt w a l) (hu : ∀ k, k < l.length → 0 ≤ l.getD k 0 ∧ l.getD k 0 ≤ 255) (hl : (l.length : Int) ≤ 1048576) :
    Calls Tryz.prog 133 #[.slice a l.length c] w fun e w' => e = .returned (.string (strS (schS l))) ∧ Below w.heap.size w w' := by
  have HA := Hid.mk' ha
  have HU := Hid.mk' hu
  clear ha hu
  have KC : Hid (∀ wr, Below w.heap.size w wr → Calls Tryz.prog 161 #[.slice a l.length c] wr fun e w' => e = .returned (.int .i64 (colI l)) ∧ w' = wr) := fun wr hb => l8Colon_any a c l wr (HA.out.below hb) hl
  have hcl := colN_le l
  obtain ⟨ci, hci⟩ : ∃ ci, colI l = ci := ⟨_, rfl⟩
  rw [hci] at KC
  have CI : Hid ((colN l < l.length ∧ ci = (colN l : Int)) ∨ (¬ colN l < l.length ∧ ci = -1)) := Hid.mk' (by
    rw [← hci]; unfold colI
    by_cases h : colN l < l.length
    · rw [if_pos h]; exact .inl ⟨h, rfl⟩
    · rw [if_neg h]; exact .inr ⟨h, rfl⟩)
  clear hci
  go_enter Tryz.func133, Tryz.ntmps133
  go_wp2
  go_loopw [3, 4] (fun v i wr => ∃ k : Nat, (k : Int) ≤ max ci 0 ∧ i = .int .i64 k ∧ (l.take k).any noLet = false ∧ GrS w v ((l.take k).map lowI) wr) (fun _ i _ => l.length - (intOf i).toNat)
  case atStart => exact ⟨0, by omega, rfl, rfl, ⟨World.ownsRow_lit w #[] 0 (Nat.le_refl _) (by decide) rfl, below_new w _, by simp⟩⟩
  case round =>
    obtain ⟨k, hk, rfl, hf, hG⟩ := hrel
    have HF := Hid.mk' hf
    have HG := Hid.mk' hG
    have K1 := Hid.mk' (KC.out wr hG.bl)
    clear hf
    by_cases hlt : (k : Int) < ci
    · have hkc : k < colN l ∧ colN l < l.length := by rcases CI.out with ⟨h1, h2⟩ | ⟨h1, h2⟩ <;> omega
      have hkl : k < l.length := by omega
      obtain ⟨b, o, rfl, hbs, h1⟩ := bget (HA.out.below hG.bl) hkl
      have hx := HU.out k hkl
      have HT := Hid.mk' (any_take (p := noLet) hkl)
      have HM := Hid.mk' (map_take_snoc hkl)
      have HBad := Hid.mk' (schS_bad hkc.1 hkc.2)
      have HL := Hid.mk' (ltr_low hx.1 hx.2)
      have hlen : ((l.take k).map lowI).length = k := by rw [List.length_map, List.length_take]; omega
      have HLN := Hid.mk' hlen
      clear hG hlen
      generalize l.getD k 0 = x at *
      have hlow : lowI x = (if 65 ≤ x ∧ x ≤ 90 then x + 32 else x) := rfl
      have hlb : 0 ≤ lowI x ∧ lowI x ≤ 255 := by unfold lowI; split <;> omega
      have KL := letter_any (lowI x).toNat wr
      have ent : ((lowI x).toNat : Int) = lowI x := by omega
      rw [ent] at KL
      rw [HL.out] at KL
      clear ent HL
      have G1 := Hid.mk' (HG.out.alloc (.cells #[.int .u8 (lowI x)] 5))
      have O1 := Hid.mk' (oneB wr (lowI x))
      obtain ⟨y, hy⟩ : ∃ y, lowI x = y := ⟨_, rfl⟩
      rw [hy] at KL hlow hlb G1 O1 HM
      clear hy
      cases hn : noLet x with
      | true =>
        rw [hn] at KL
        have KL := Hid.mk' KL
        have E := Hid.mk' (HBad.out hn)
        by_cases u1 : x ≥ 65
        · by_cases u2 : x ≤ 90
          · rw [if_pos ⟨u1, u2⟩] at hlow
            subst hlow
            go_wp2_with fail
            refine K1.out.mono ?_
            rintro e w1 ⟨rfl, hw⟩
            obtain rfl := hw.symm
            go_wp2_with fail
            refine KL.out.mono ?_
            rintro e w1 ⟨rfl, hw⟩
            obtain rfl := hw.symm
            go_wp2
            go_ret
            exact ⟨by rw [E.out]; rfl, HG.out.bl⟩
          · rw [if_neg (by omega)] at hlow
            subst hlow
            go_wp2_with fail
            refine K1.out.mono ?_
            rintro e w1 ⟨rfl, hw⟩
            obtain rfl := hw.symm
            go_wp2_with fail
            refine KL.out.mono ?_
            rintro e w1 ⟨rfl, hw⟩
            obtain rfl := hw.symm
            go_wp2
            go_ret
            exact ⟨by rw [E.out]; rfl, HG.out.bl⟩
        · rw [if_neg (by omega)] at hlow
          subst hlow
          go_wp2_with fail
          refine K1.out.mono ?_
          rintro e w1 ⟨rfl, hw⟩
          obtain rfl := hw.symm
          go_wp2_with fail
          refine KL.out.mono ?_
          rintro e w1 ⟨rfl, hw⟩
          obtain rfl := hw.symm
          go_wp2
          go_ret
          exact ⟨by rw [E.out]; rfl, HG.out.bl⟩
      | false =>
        rw [hn] at KL
        have KL := Hid.mk' KL
        have E : Hid ((l.take (k + 1)).any noLet = false) := Hid.mk' (by rw [HT.out, HF.out, hn]; rfl)
        by_cases u1 : x ≥ 65
        · by_cases u2 : x ≤ 90
          · rw [if_pos ⟨u1, u2⟩] at hlow
            subst hlow
            go_wp2_with fail
            refine K1.out.mono ?_
            rintro e w1 ⟨rfl, hw⟩
            obtain rfl := hw.symm
            go_wp2_with fail
            refine KL.out.mono ?_
            rintro e w1 ⟨rfl, hw⟩
            obtain rfl := hw.symm
            go_wp2_with (at_builtin; refine wpList_append_at _ rfl (.tmp 28) (.tmp 30) 30 rfl w.heap.size 5 (.int .u8 0) 1 1 Tryz.underlying30 Tryz.info5' rfl (by decide) _ _ _ rfl G1.out.own _ 1 _ (bcs [x + 32]) rfl (bcs1 _) (.inr ⟨_, rfl, O1.out⟩) (bcs_one _) (by have := HLN.out; unfold maxLen; omega) (by have := HLN.out; omega) G1.out.sz ?_; intro v' w2 ho hgr hat; have G2 := Hid.mk' (G1.out.app ho hgr); clear ho hgr hat)
            go_roundw
            case rel => exact ⟨k + 1, by omega, by go_num, E.out, by rw [HM.out]; exact G2.out⟩
            case measure => simp [intOf]; omega
          · rw [if_neg (by omega)] at hlow
            subst hlow
            go_wp2_with fail
            refine K1.out.mono ?_
            rintro e w1 ⟨rfl, hw⟩
            obtain rfl := hw.symm
            go_wp2_with fail
            refine KL.out.mono ?_
            rintro e w1 ⟨rfl, hw⟩
            obtain rfl := hw.symm
            go_wp2_with (at_builtin; refine wpList_append_at _ rfl (.tmp 28) (.tmp 30) 30 rfl w.heap.size 5 (.int .u8 0) 1 1 Tryz.underlying30 Tryz.info5' rfl (by decide) _ _ _ rfl G1.out.own _ 1 _ (bcs [y]) rfl (bcs1 _) (.inr ⟨_, rfl, O1.out⟩) (bcs_one _) (by have := HLN.out; unfold maxLen; omega) (by have := HLN.out; omega) G1.out.sz ?_; intro v' w2 ho hgr hat; have G2 := Hid.mk' (G1.out.app ho hgr); clear ho hgr hat)
            go_roundw
            case rel => exact ⟨k + 1, by omega, by go_num, E.out, by rw [HM.out]; exact G2.out⟩
            case measure => simp [intOf]; omega
        · rw [if_neg (by omega)] at hlow
          subst hlow
          go_wp2_with fail
          refine K1.out.mono ?_
          rintro e w1 ⟨rfl, hw⟩
          obtain rfl := hw.symm
          go_wp2_with fail
          refine KL.out.mono ?_
          rintro e w1 ⟨rfl, hw⟩
          obtain rfl := hw.symm
          go_wp2_with (at_builtin; refine wpList_append_at _ rfl (.tmp 28) (.tmp 30) 30 rfl w.heap.size 5 (.int .u8 0) 1 1 Tryz.underlying30 Tryz.info5' rfl (by decide) _ _ _ rfl G1.out.own _ 1 _ (bcs [y]) rfl (bcs1 _) (.inr ⟨_, rfl, O1.out⟩) (bcs_one _) (by have := HLN.out; unfold maxLen; omega) (by have := HLN.out; omega) G1.out.sz ?_; intro v' w2 ho hgr hat; have G2 := Hid.mk' (G1.out.app ho hgr); clear ho hgr hat)
          go_roundw
          case rel => exact ⟨k + 1, by omega, by go_num, E.out, by rw [HM.out]; exact G2.out⟩
          case measure => simp [intOf]; omega
    · have ES : Hid ((l.take k).map lowI = schS l) := Hid.mk' (by
        rcases CI.out with ⟨h1, h2⟩ | ⟨h1, h2⟩
        · have e : k = colN l := by omega
          unfold schS
          rw [if_pos ⟨h1, by rw [← e]; exact HF.out⟩, e]
        · have e : k = 0 := by omega
          unfold schS
          rw [if_neg (fun h => h1 h.1), e]; rfl)
      obtain ⟨ob, _⟩ := OB.of_own hG.own
      obtain ⟨ao, co, rfl, hbo⟩ := ob.len
      have hcv := conv_bytesS co hbo
      have B := Hid.mk' hG.bl
      rw [ES.out] at hcv ⊢
      clear hG ob hbo HG
      go_wp2_with fail
      refine K1.out.mono ?_
      rintro e w1 ⟨rfl, hw⟩
      obtain rfl := hw.symm
      go_wp2
      go_ret
      exact ⟨rfl, B.out⟩

/-- The code and the text of a scheme. -/
def schC (l : List Int) : Int := if 240 < l.length then 6 else if schS l = [] then 4 else 0
def schT (l : List Int) : ByteArray := if 240 < l.length then ⟨#[]⟩ else strS (schS l)

end Go.Proofs.YtfdcfajliofbfaaGreatDoor

/- SchemeOf: the program's side, and the law. -/
namespace Go.Proofs.YtfdcfajliofbfaaGreatDoor
open Go.RowKit
set_option linter.unusedVariables false
set_option linter.unusedSimpArgs false

theorem BAt.take {w : World} {a : Option Addr} {l : List Int} (h : BAt w a l) (k : Nat) : BAt w a (l.take k) := by
  rcases h with h | ⟨b, o, e, hs, hc⟩
  · exact .inl (by rw [h]; simp)
  · refine .inr ⟨b, o, e, hs, fun i hi => ?_⟩
    rw [List.length_take] at hi
    rw [hc i (by omega)]
    unfold bv
    congr 2
    simp [List.getD_eq_getElem?_getD, List.getElem?_take, show i < k by omega]

theorem low_ascii {l : List Int} (h : l.any noLet = false) : ∀ (j : Nat) (b : UInt8), (strS l).data.toList[j]? = some b → b.toNat < 128 := by
  intro j b hj
  rw [strS_list, List.getElem?_map] at hj
  cases hx : l[j]? with
  | none => rw [hx] at hj; cases hj
  | some x =>
    rw [hx] at hj
    have e : b = UInt8.ofNat x.toNat := by simpa using hj.symm
    have hm : x ∈ l := List.mem_of_getElem? hx
    have hn : noLet x = false := by
      cases hh : noLet x with
      | false => rfl
      | true => rw [List.any_eq_false] at h; exact absurd hh (h x hm)
    have hb : x.toNat < 128 := by
      by_cases h1 : x.toNat < 128
      · exact h1
      · have := noLet_of (x := x) (by omega) (by omega)
        rw [this] at hn; cases hn
    rw [e]
    simp
    omega

theorem cell_marked (w : World) (x : Value) (t : TypeId) (r : Nat × Nat) : (w.alloc (.cells #[x] t r)).cell? ⟨w.heap.size, 0, none⟩ = some x := by
  unfold World.cell?
  have h : (w.alloc (.cells #[x] t r)).heap[w.heap.size]? = some (.cells #[x] t r) := Deep.blk_alloc_new _ _
  dsimp only
  rw [h]
  rfl

theorem strS_size (l : List Int) : (strS l).size = l.length := by
  have : (strS l).data.toList.length = l.length := by rw [strS_list]; simp
  simpa using this

set_option maxRecDepth 100000 in
set_option maxHeartbeats 3200000 in
theorem implSO_any (g c : Nat) (l : List Int) (w : World) (hr : w.rowIs g 5 l.length (bv l)) (hc : l.length ≤ c) (hu : ∀ k, k < l.length → 0 ≤ l.getD k 0 ∧ l.getD k 0 ≤ 255) (hl : (l.length : Int) ≤ 1048576) :
    Calls Tryz.prog 139 #[.slice (some ⟨g, 0, none⟩) l.length c] w fun e w' => e = .returned (.agg #[.int .i64 (schC l), .string (schT l)]) ∧ Below w.heap.size w w' := by
  have N0 := below_new w (.cells #[.int .i64 0, .string ⟨#[]⟩] 23)
  have HR := Hid.mk' (rowQ2 w 23 (.int .i64 0) (.string ⟨#[]⟩))
  have HB := Hid.mk' N0
  have hmem : ∀ x ∈ l, 0 ≤ x ∧ x ≤ 255 := fun x hx => by
    obtain ⟨i, hi, rfl⟩ := List.mem_iff_getElem.1 hx
    have := hu i hi
    rwa [show l.getD i 0 = l[i] by simp [hi]] at this
  by_cases big : (l.length : Int) > 240
  · have E1 : Hid (schC l = 6) := Hid.mk' (by unfold schC; rw [if_pos (by omega)])
    have E2 : Hid (schT l = ⟨#[]⟩) := Hid.mk' (by unfold schT; rw [if_pos (by omega)])
    clear hr hu hmem N0
    generalize hW : w.alloc (.cells #[.int .i64 0, .string ⟨#[]⟩] 23) = W at *
    obtain ⟨x0, x1, x2⟩ := cellsQ2 HR.out
    obtain ⟨f0, f1⟩ := frzQ2 HR.out
    go_enter Tryz.func139, Tryz.ntmps139
    go_wp2
    clear hW
    refine bodyPost_ret (v := .agg #[.int .i64 6, .string ⟨#[]⟩]) (by simp [results, Tryz.results139, go_sem, *]) rfl ⟨by rw [E1.out, E2.out], ?_⟩
    exact (HB.out.setCell (p := ⟨w.heap.size, 0, none⟩) (by simp) _).setCell (p := ⟨w.heap.size, 1, none⟩) (by simp) _
  have E2 : Hid (schT l = strS (schS l)) := Hid.mk' (by unfold schT; rw [if_neg (by omega)])
  have E1 : Hid (schC l = if schS l = [] then 4 else 0) := Hid.mk' (by unfold schC; rw [if_neg (by omega)])
  have N1 := below_new (w.alloc (.cells #[.int .i64 0, .string ⟨#[]⟩] 23)) (.cells #[.int .u8 58] 5 (1, 2))
  have NN := N0.trans (N1.mono N0.size)
  have HB := Hid.mk' NN
  have hrW := rowB hr NN
  have HRW := Hid.mk' (rowB HR.out N1)
  have hcol : ((w.alloc (.cells #[.int .i64 0, .string ⟨#[]⟩] 23)).alloc (.cells #[.int .u8 58] 5 (1, 2))).cell? ⟨w.heap.size + 1, 0, none⟩ = some (.int .u8 58) := by
    have h := cell_marked (w.alloc (.cells #[.int .i64 0, .string ⟨#[]⟩] 23)) (.int .u8 58) 5 (1, 2)
    rw [show (w.alloc (.cells #[.int .i64 0, .string ⟨#[]⟩] 23)).heap.size = w.heap.size + 1 by simp] at h
    exact h
  have hci : -1 ≤ colI l ∧ (0 ≤ colI l → colI l + 1 ≤ l.length) := by
    unfold colI
    by_cases h : colN l < l.length
    · rw [if_pos h]; omega
    · rw [if_neg h]; omega
  have KI := Tryz.bytes_Index_one g 0 l.length c (w.heap.size + 1) 0 1 l 58 _ rfl (fun i hi => by rw [Nat.zero_add]; exact hrW.cell hi) hcol
  have e58 : ((58 : Int).toNat.toUInt8) = 58 := by decide
  rw [e58, indexByte_is l hmem] at KI
  have KC := Hid.mk' (Tryz.bytes_Cut_of (some ⟨g, 0, none⟩) (some ⟨w.heap.size + 1, 0, none⟩) l.length c 1 1 (colI l) _ hc hci.1 hci.2 (by omega) (KI.mono fun e w' ⟨h1, h2⟩ => ⟨h1, 0, h2⟩))
  have HAT := Hid.mk' (BAt.of_row hrW)
  clear hr hu N0 N1 NN hrW KI hcol hci e58
  have CC : Hid (colN l < l.length ∧ colI l = (colN l : Int) ∨ ¬ colN l < l.length ∧ colI l = -1) := Hid.mk' (by
    unfold colI
    by_cases h : colN l < l.length
    · rw [if_pos h]; exact .inl ⟨h, rfl⟩
    · rw [if_neg h]; exact .inr ⟨h, rfl⟩)
  have ZW : Hid ((w.alloc (.cells #[.int .i64 0, .string ⟨#[]⟩] 23)).heap.size = w.heap.size + 1) := Hid.mk' (by simp)
  have kcv : (convert 30 30 (.slice (some ⟨w.heap.size + 1, 0, none⟩) 1 1)).run Tryz.prog ((w.alloc (.cells #[.int .i64 0, .string ⟨#[]⟩] 23)).alloc (.cells #[.int .u8 58] 5)) = .ok (.slice (some ⟨w.heap.size + 1, 0, none⟩) 1 1) ((w.alloc (.cells #[.int .i64 0, .string ⟨#[]⟩] 23)).alloc (.cells #[.int .u8 58] 5 (1, 2))) := by
    have h := Lib.run_convert_bytes_const (P := Tryz.prog) (w.alloc (.cells #[.int .i64 0, .string ⟨#[]⟩] 23)) 30 5 #[.int .u8 58] 1 1 Tryz.underlying30 Tryz.underlying5
    rw [ZW.out] at h
    exact h
  have KCV := Hid.mk' kcv
  clear kcv
  generalize hW : (w.alloc (.cells #[.int .i64 0, .string ⟨#[]⟩] 23)).alloc (.cells #[.int .u8 58] 5 (1, 2)) = W at *
  rcases CC.out with ⟨h1, h2⟩ | ⟨h1, h2⟩
  · rw [h2] at KC
    have eV : Lib.cutV (some ⟨g, 0, none⟩) l.length c 1 ((colN l : Nat) : Int) = .tuple #[.slice (some ⟨g, 0, none⟩) (colN l) c, Lib.fromV (some ⟨g, 0, none⟩) l.length c (colN l + 1), .bool true] := by
      unfold Lib.cutV
      rw [if_pos (by omega)]
      rfl
    rw [eV] at KC
    generalize Lib.fromV (some ⟨g, 0, none⟩) l.length c (colN l + 1) = vr at *
    clear eV h2 CC
    have hcc := KCV.out
    go_enter Tryz.func139, Tryz.ntmps139
    go_wp2_with fail
    clear hW hcc
    refine KC.out.mono ?_
    rintro e w1 ⟨rfl, q, hw⟩
    have hb : Below W.heap.size W w1 := by rw [hw]; exact below_drewN (Below.refl _ _) q
    have hlen : (l.take (colN l)).length = colN l := by rw [List.length_take]; omega
    have KF := containsF_any (some ⟨g, 0, none⟩) c (l.take (colN l)) w1 ((HAT.out.below hb).take _) (by rw [hlen]; omega)
    have hcv := conv_bytesS c ((HAT.out.below hb).take (colN l))
    rw [hlen] at KF hcv
    obtain ⟨x0, x1, x2⟩ := cellsQ2 (rowB HRW.out hb)
    obtain ⟨f0, f1⟩ := frzQ2 (rowB HRW.out hb)
    have HB := Hid.mk' (HB.out.trans (hb.mono HB.out.size))
    have HRW := Hid.mk' (rowB HRW.out hb)
    have hmt : ∀ x ∈ l.take (colN l), 0 ≤ x ∧ x ≤ 255 := fun x hx => hmem x (List.mem_of_mem_take hx)
    have HMT := Hid.mk' hmt
    have SS : Hid (schS l = if (l.take (colN l)).any noLet = false then (l.take (colN l)).map lowI else []) := Hid.mk' (by
      unfold schS
      by_cases h : (l.take (colN l)).any noLet = false
      · rw [if_pos ⟨h1, h⟩, if_pos h]
      · rw [if_neg (fun hh => h hh.2), if_neg h])
    clear hb hw KC hmt hmem
    by_cases hz : colN l = 0
    · have ES : Hid (schS l = []) := Hid.mk' (by rw [SS.out, hz]; rfl)
      rw [ES.out, if_pos rfl] at E1
      rw [ES.out] at E2
      have hz' : ((colN l : Nat) : Int) = 0 := by omega
      clear KF hcv SS ES hlen h1 HMT hz
      generalize colN l = n at *
      go_wp2_with go_big_skip
      refine bodyPost_ret (v := .agg #[.int .i64 4, .string ⟨#[]⟩]) (by simp [results, Tryz.results139, go_sem, *]) rfl ⟨by rw [E1.out, E2.out]; rfl, ?_⟩
      exact (HB.out.setCell (p := ⟨w.heap.size, 0, none⟩) (by simp) _).setCell (p := ⟨w.heap.size, 1, none⟩) (by simp) _
    · have hz' : (((colN l : Nat) : Int) == 0) = false := by rw [beq_eq_false_iff_ne]; omega
      cases hn : (l.take (colN l)).any noLet with
      | true =>
        have ES : Hid (schS l = []) := Hid.mk' (by rw [SS.out, hn]; rfl)
        rw [ES.out, if_pos rfl] at E1
        rw [ES.out] at E2
        rw [hn] at KF
        have KF := Hid.mk' KF
        clear hcv SS ES hlen h1 HMT hz hn
        generalize colN l = n at *
        go_wp2_with go_big_skip
        refine KF.out.mono ?_
        rintro e w2 ⟨rfl, hw⟩
        obtain rfl := hw.symm
        go_wp2
        refine bodyPost_ret (v := .agg #[.int .i64 4, .string ⟨#[]⟩]) (by simp [results, Tryz.results139, go_sem, *]) rfl ⟨by rw [E1.out, E2.out]; rfl, ?_⟩
        exact (HB.out.setCell (p := ⟨w.heap.size, 0, none⟩) (by simp) _).setCell (p := ⟨w.heap.size, 1, none⟩) (by simp) _
      | false =>
        have ES : Hid (schS l = (l.take (colN l)).map lowI) := Hid.mk' (by rw [SS.out, hn]; rfl)
        have hne : ¬ schS l = [] := by
          rw [ES.out]
          intro h
          have := congrArg List.length h
          rw [List.length_map, hlen] at this
          exact hz this
        rw [if_neg hne] at E1
        rw [ES.out, ← lower_is HMT.out] at E2
        rw [hn] at KF
        have KF := Hid.mk' KF
        have KL := Hid.mk' (Tryz.strings_ToLower_ascii (strS (l.take (colN l))) w1 (by rw [strS_size, hlen]; omega) (low_ascii hn))
        clear SS ES hne hlen h1 HMT hz hn
        generalize (⟨(Lib.toLowerA (strS (l.take (colN l))).data.toList).toArray⟩ : ByteArray) = t at *
        generalize strS (l.take (colN l)) = s at *
        generalize colN l = n at *
        go_wp2_with go_big_skip
        refine KF.out.mono ?_
        rintro e w2 ⟨rfl, hw⟩
        obtain rfl := hw.symm
        go_wp2_with fail
        refine KL.out.mono ?_
        rintro e w2 ⟨rfl, hb⟩
        obtain ⟨y0, y1, y2⟩ := cellsQ2 (rowB HRW.out hb)
        obtain ⟨g0, g1⟩ := frzQ2 (rowB HRW.out hb)
        have HB := Hid.mk' (HB.out.trans (hb.mono HB.out.size))
        clear hb x0 x1 x2 f0 f1 KL KF hcv
        go_wp2
        refine bodyPost_ret (v := .agg #[.int .i64 0, .string t]) (by simp [results, Tryz.results139, go_sem, *]) rfl ⟨by rw [E1.out, E2.out], ?_⟩
        exact (HB.out.setCell (p := ⟨w.heap.size, 0, none⟩) (by simp) _).setCell (p := ⟨w.heap.size, 1, none⟩) (by simp) _
  · rw [h2] at KC
    have eV : Lib.cutV (some ⟨g, 0, none⟩) l.length c 1 (-1) = .tuple #[.slice (some ⟨g, 0, none⟩) l.length c, .slice none 0 0, .bool false] := by
      unfold Lib.cutV
      rw [if_neg (by omega)]
    rw [eV] at KC
    have ES : Hid (schS l = []) := Hid.mk' (by unfold schS; rw [if_neg (fun h => h1 h.1)])
    rw [ES.out, if_pos rfl] at E1
    rw [ES.out] at E2
    clear eV h2 CC h1 ES
    have hcc := KCV.out
    go_enter Tryz.func139, Tryz.ntmps139
    go_wp2_with fail
    clear hW hcc
    refine KC.out.mono ?_
    rintro e w1 ⟨rfl, q, hw⟩
    have hb : Below W.heap.size W w1 := by rw [hw]; exact below_drewN (Below.refl _ _) q
    obtain ⟨x0, x1, x2⟩ := cellsQ2 (rowB HRW.out hb)
    obtain ⟨f0, f1⟩ := frzQ2 (rowB HRW.out hb)
    have HB := Hid.mk' (HB.out.trans (hb.mono HB.out.size))
    clear hb hw KC
    go_wp2_with go_big_skip
    refine bodyPost_ret (v := .agg #[.int .i64 4, .string ⟨#[]⟩]) (by simp [results, Tryz.results139, go_sem, *]) rfl ⟨by rw [E1.out, E2.out]; rfl, ?_⟩
    exact (HB.out.setCell (p := ⟨w.heap.size, 0, none⟩) (by simp) _).setCell (p := ⟨w.heap.size, 1, none⟩) (by simp) _

theorem eqTextR_any (z : Int) (s : ByteArray) (w : World) :
    Calls Tryz.prog 10 #[.agg #[.int .i64 z, .string s], .agg #[.int .i64 z, .string s]] w fun e w' => e = .returned (.bool true) ∧ Below w.heap.size w w' := by
  go_enter Tryz.func10, Tryz.ntmps10
  go_wp2
  go_ret
  exact ⟨rfl, ((Below.refl _ _).alloc (Nat.le_refl _) _).alloc (by simp) _⟩

end Go.Proofs.YtfdcfajliofbfaaGreatDoor

/- Values that are clean; what is told ahead of a colon: both sides' small walks. -/
namespace Go.Proofs.YtfdcfajliofbfaaGreatDoor
open Go.RowKit
set_option linter.unusedVariables false
set_option linter.unusedSimpArgs false

/-- A byte that no clean value has. -/
def unc (x : Int) : Bool := decide (x < 33) || decide (127 ≤ x)
/-- A clean value. -/
def clB (l : List Int) : Bool := decide (l.length ≤ 8) && !l.any unc

theorem isUnclean_any (x : Int) (w : World) :
    Calls Tryz.prog 137 #[.int .u8 x] w fun e w' => e = .returned (.bool (unc x)) ∧ w' = w := by
  unfold unc
  by_cases b1 : x < 33
  · go_enter Tryz.func137, Tryz.ntmps137
    go_wp2_with go_big_skip
    go_ret
    exact ⟨by rw [decide_eq_true b1]; rfl, rfl⟩
  · by_cases b2 : x ≥ 127
    · go_enter Tryz.func137, Tryz.ntmps137
      go_wp2_with go_big_skip
      go_ret
      exact ⟨by first | rfl | (rw [decide_eq_true (by omega : 127 ≤ x)]; simp), rfl⟩
    · go_enter Tryz.func137, Tryz.ntmps137
      go_wp2_with go_big_skip
      go_ret
      exact ⟨by rw [decide_eq_false (by omega : ¬ 127 ≤ x), decide_eq_false (by omega : ¬ x < 33)]; rfl, rfl⟩

set_option maxHeartbeats 800000 in
theorem indexU_any (a : Option Addr) (c : Nat) (l : List Int) (w : World) (ha : BAt w a l) (hl : (l.length : Int) ≤ 1048576) :
    Calls Tryz.prog 164 #[.slice a l.length c, .func (.func 137) #[] #[]] w fun e w' => ∃ z : Int, e = .returned (.int .i64 z) ∧ decide (0 ≤ z) = l.any unc ∧ w' = w := by
  have HA := Hid.mk' ha
  clear ha
  go_enter Tryz.func164, Tryz.ntmps164
  go_wp2
  go_loop [8] (fun i => ∃ k : Nat, k ≤ l.length ∧ i = .int .i64 k ∧ (l.take k).any unc = false) (fun i => l.length - (intOf i).toNat)
  case atStart => exact ⟨0, Nat.zero_le _, rfl, rfl⟩
  case round =>
    obtain ⟨k, hk, rfl, hf⟩ := hrel
    have HF := Hid.mk' hf
    clear hf
    by_cases hlt : k < l.length
    · have ci : (k : Int) < (l.length : Int) := by omega
      obtain ⟨b, o, rfl, hbs, h1⟩ := bget HA.out hlt
      have HT := Hid.mk' (any_take (p := unc) hlt)
      have HX := Hid.mk' (any_at (p := unc) hlt)
      have KN := isUnclean_any (l.getD k 0) w
      generalize l.getD k 0 = x at *
      cases he : unc x with
      | true =>
        rw [he] at KN
        have KN := Hid.mk' KN
        have E := Hid.mk' (HX.out he)
        go_wp2_with fail
        refine KN.out.mono ?_
        rintro e w1 ⟨rfl, hw⟩
        obtain rfl := hw.symm
        go_wp2
        go_ret
        exact ⟨k, rfl, by rw [E.out]; simp, rfl⟩
      | false =>
        rw [he] at KN
        have KN := Hid.mk' KN
        have E : Hid ((l.take (k + 1)).any unc = false) := Hid.mk' (by rw [HT.out, HF.out, he]; rfl)
        go_wp2_with fail
        refine KN.out.mono ?_
        rintro e w1 ⟨rfl, hw⟩
        obtain rfl := hw.symm
        go_wp2
        go_round
        case rel => exact ⟨k + 1, by omega, by go_num, E.out⟩
        case measure => simp [intOf]; omega
    · have ci : ¬ (k : Int) < (l.length : Int) := by omega
      have e : k = l.length := by omega
      have E : Hid (l.any unc = false) := Hid.mk' (by have := HF.out; rw [e, List.take_length] at this; exact this)
      go_wp2
      go_ret
      exact ⟨-1, rfl, by rw [E.out]; rfl, rfl⟩

theorem containsU_any (a : Option Addr) (c : Nat) (l : List Int) (w : World) (ha : BAt w a l) (hl : (l.length : Int) ≤ 1048576) :
    Calls Tryz.prog 136 #[.slice a l.length c, .func (.func 137) #[] #[]] w fun e w' => e = .returned (.bool (l.any unc)) ∧ w' = w := by
  have K := Hid.mk' (indexU_any a c l w ha hl)
  clear ha
  go_enter Tryz.func136, Tryz.ntmps136
  go_wp2_with fail
  refine K.out.mono ?_
  rintro e w1 ⟨z, rfl, hz, rfl⟩
  have HZ := Hid.mk' hz
  clear hz
  go_wp2
  go_ret
  exact ⟨by rw [← HZ.out]; simp, rfl⟩

theorem isClean_any (a : Option Addr) (c : Nat) (l : List Int) (w : World) (ha : BAt w a l) (hl : (l.length : Int) ≤ 1048576) :
    Calls Tryz.prog 101 #[.slice a l.length c] w fun e w' => e = .returned (.bool (clB l)) ∧ w' = w := by
  have K := Hid.mk' (containsU_any a c l w ha hl)
  clear ha
  unfold clB
  by_cases b1 : (l.length : Int) ≤ 8
  · rw [decide_eq_true (by omega : l.length ≤ 8), Bool.true_and]
    generalize l.any unc = B at *
    go_enter Tryz.func101, Tryz.ntmps101
    go_wp2_with fail
    refine K.out.mono ?_
    rintro e w1 ⟨rfl, hw⟩
    obtain rfl := hw.symm
    go_wp2
    go_ret
    exact ⟨rfl, rfl⟩
  · rw [decide_eq_false (by omega : ¬ l.length ≤ 8), Bool.false_and]
    clear K
    go_enter Tryz.func101, Tryz.ntmps101
    go_wp2
    go_ret
    exact ⟨rfl, rfl⟩

set_option maxHeartbeats 800000 in
theorem l8Clean_any (a : Option Addr) (c : Nat) (l : List Int) (w : World) (ha : BAt w a l) (hl : (l.length : Int) ≤ 1048576) :
    Calls Tryz.prog 91 #[.slice a l.length c] w fun e w' => e = .returned (.bool (clB l)) ∧ w' = w := by
  have HA := Hid.mk' ha
  clear ha
  go_enter Tryz.func91, Tryz.ntmps91
  go_wp2
  go_loop [3] (fun i => ∃ k : Nat, k ≤ l.length ∧ i = .int .i64 k ∧ (l.take k).any unc = false) (fun i => l.length - (intOf i).toNat)
  case atStart => exact ⟨0, Nat.zero_le _, rfl, rfl⟩
  case round =>
    obtain ⟨k, hk, rfl, hf⟩ := hrel
    have HF := Hid.mk' hf
    clear hf
    by_cases hlt : k < l.length
    · have ci : (k : Int) < (l.length : Int) := by omega
      obtain ⟨b, o, rfl, hbs, h1⟩ := bget HA.out hlt
      have HT := Hid.mk' (any_take (p := unc) hlt)
      have HX := Hid.mk' (any_at (p := unc) hlt)
      generalize l.getD k 0 = x at *
      have hux : unc x = (decide (x < 33) || decide (127 ≤ x)) := rfl
      by_cases b1 : x < 33
      · have E : Hid (clB l = false) := Hid.mk' (by unfold clB; rw [HX.out (by rw [hux, decide_eq_true b1]; rfl)]; simp)
        clear hux
        go_wp2_with go_big_skip
        go_ret
        exact ⟨by rw [E.out]; rfl, rfl⟩
      · by_cases b2 : x ≥ 127
        · have E : Hid (clB l = false) := Hid.mk' (by unfold clB; rw [HX.out (by rw [hux, decide_eq_true (by omega : 127 ≤ x)]; simp)]; simp)
          clear hux
          go_wp2_with go_big_skip
          go_ret
          exact ⟨by rw [E.out]; rfl, rfl⟩
        · have E : Hid ((l.take (k + 1)).any unc = false) := Hid.mk' (by rw [HT.out, HF.out, hux, decide_eq_false b1, decide_eq_false (by omega : ¬ 127 ≤ x)]; rfl)
          clear hux
          go_wp2_with go_big_skip
          go_round
          case rel => exact ⟨k + 1, by omega, by go_num, E.out⟩
          case measure => simp [intOf]; omega
    · have ci : ¬ (k : Int) < (l.length : Int) := by omega
      have e : k = l.length := by omega
      have E : Hid (l.any unc = false) := Hid.mk' (by have := HF.out; rw [e, List.take_length] at this; exact this)
      have E2 : Hid (clB l = decide ((l.length : Int) ≤ 8)) := Hid.mk' (by
        unfold clB
        rw [E.out, Bool.not_false, Bool.and_true]
        by_cases b1 : (l.length : Int) ≤ 8
        · rw [decide_eq_true b1, decide_eq_true (by omega)]
        · rw [decide_eq_false b1, decide_eq_false (by omega)])
      go_wp2
      go_ret
      exact ⟨by rw [E2.out]; rfl, rfl⟩

/-- What begins a path. -/
def pathB (x : Int) : Bool := decide (x = 47) || decide (x = 63) || decide (x = 35)
/-- A scheme is told. -/
def toldB (l : List Int) : Bool := decide (colN l < l.length) && !(l.take (colN l)).any pathB

theorem toldB_no {l : List Int} {k : Nat} (hk : k < colN l) (h : pathB (l.getD k 0) = true) : toldB l = false := by
  have hle := colN_le l
  have : (l.take (colN l)).any pathB = true := by
    refine any_at (k := k) (by rw [List.length_take]; omega) ?_
    have e : (l.take (colN l)).getD k 0 = l.getD k 0 := by
      rw [List.getD_eq_getElem?_getD, List.getD_eq_getElem?_getD, List.getElem?_take_of_lt hk]
    rw [e]; exact h
  unfold toldB
  rw [this]; simp

set_option maxHeartbeats 800000 in
theorem l8Told_any (a : Option Addr) (c : Nat) (l : List Int) (w : World) (ha : BAt w a l) (hl : (l.length : Int) ≤ 1048576) :
    Calls Tryz.prog 132 #[.slice a l.length c] w fun e w' => e = .returned (.bool (toldB l)) ∧ w' = w := by
  have KC := l8Colon_any a c l w ha hl
  have HA := Hid.mk' ha
  clear ha
  have hle := colN_le l
  by_cases hcol : colN l < l.length
  · have ec : colI l = (colN l : Int) := by unfold colI; rw [if_pos hcol]
    rw [ec] at KC
    have KC := Hid.mk' KC
    clear ec
    go_enter Tryz.func132, Tryz.ntmps132
    go_wp2_with fail
    refine KC.out.mono ?_
    rintro e w1 ⟨rfl, hw⟩
    obtain rfl := hw.symm
    go_wp2
    go_loop [4] (fun i => ∃ k : Nat, k ≤ colN l ∧ i = .int .i64 k ∧ (l.take k).any pathB = false) (fun i => colN l - (intOf i).toNat)
    case atStart => exact ⟨0, Nat.zero_le _, rfl, rfl⟩
    case round =>
      obtain ⟨k, hk, rfl, hf⟩ := hrel
      have HF := Hid.mk' hf
      clear hf
      by_cases hlt : k < colN l
      · have ci : (k : Int) < (colN l : Int) := by omega
        have ci2 : (k : Int) < (l.length : Int) := by omega
        have hkl : k < l.length := by omega
        obtain ⟨b, o, rfl, hbs, h1⟩ := bget HA.out hkl
        have HT := Hid.mk' (any_take (p := pathB) hkl)
        have HX := Hid.mk' (toldB_no hlt)
        generalize l.getD k 0 = x at *
        generalize colN l = C at *
        have hpx : pathB x = (decide (x = 47) || decide (x = 63) || decide (x = 35)) := rfl
        by_cases b1 : x = 47
        · have E := Hid.mk' (HX.out (by rw [hpx, decide_eq_true b1]; rfl))
          have b1' : (x == 47) = true := by rw [beq_iff_eq]; exact b1
          clear hpx b1
          go_wp2_with go_big_skip
          go_ret
          exact ⟨by rw [E.out]; rfl, rfl⟩
        have b1' : (x == 47) = false := by rw [beq_eq_false_iff_ne]; exact b1
        by_cases b2 : x = 63
        · have E := Hid.mk' (HX.out (by rw [hpx, decide_eq_true b2]; simp))
          have b2' : (x == 63) = true := by rw [beq_iff_eq]; exact b2
          clear hpx b1 b2
          go_wp2_with go_big_skip
          go_ret
          exact ⟨by rw [E.out]; rfl, rfl⟩
        have b2' : (x == 63) = false := by rw [beq_eq_false_iff_ne]; exact b2
        by_cases b3 : x = 35
        · have E := Hid.mk' (HX.out (by rw [hpx, decide_eq_true b3]; simp))
          have b3' : (x == 35) = true := by rw [beq_iff_eq]; exact b3
          clear hpx b1 b2 b3
          go_wp2_with go_big_skip
          go_ret
          exact ⟨by rw [E.out]; rfl, rfl⟩
        have b3' : (x == 35) = false := by rw [beq_eq_false_iff_ne]; exact b3
        have E : Hid ((l.take (k + 1)).any pathB = false) := Hid.mk' (by rw [HT.out, HF.out, hpx, decide_eq_false b1, decide_eq_false b2, decide_eq_false b3]; rfl)
        clear hpx b1 b2 b3
        go_wp2_with go_big_skip
        go_round
        case rel => exact ⟨k + 1, by omega, by go_num, E.out⟩
        case measure => simp [intOf]; omega
      · have ci : ¬ (k : Int) < (colN l : Int) := by omega
        have e : k = colN l := by omega
        have E : Hid (toldB l = true) := Hid.mk' (by unfold toldB; have := HF.out; rw [e] at this; rw [this, decide_eq_true hcol]; rfl)
        have cg : (colN l : Int) ≥ 0 := by omega
        generalize colN l = C at *
        go_wp2
        go_ret
        exact ⟨by rw [E.out]; rfl, rfl⟩
  · have ec : colI l = -1 := by unfold colI; rw [if_neg hcol]
    have E : Hid (toldB l = false) := Hid.mk' (by unfold toldB; rw [decide_eq_false hcol]; rfl)
    rw [ec] at KC
    have KC := Hid.mk' KC
    clear ec
    go_enter Tryz.func132, Tryz.ntmps132
    go_wp2_with fail
    refine KC.out.mono ?_
    rintro e w1 ⟨rfl, hw⟩
    obtain rfl := hw.symm
    go_wp2
    go_loop [4] (fun i => i = .int .i64 0) (fun i => 0)
    case atStart => rfl
    case round =>
      subst hrel
      go_wp2
      go_ret
      exact ⟨by rw [E.out]; rfl, rfl⟩

@[go_sem] theorem run_ibs (s : ByteArray) (c : Int) (w : World) : (callFunc 239 #[.string s, .int .u8 c]).run Tryz.prog w = .ok (.value (.int .i64 (Lib.indexByte s.data.toList c.toNat.toUInt8))) w := by
  rw [run_callFunc_extern Tryz.func239 (by kernel_rfl) (by kernel_rfl) (by kernel_rfl) (e := Extern.BytealgIndexByte.indexByte) (by kernel_rfl), Lib.run_indexByteString]
  rfl

/-- One of / ? # at a place. -/
theorem ibs_is {x : Int} (h0 : 0 ≤ x) (h1 : x ≤ 255) : (0 ≤ Lib.indexByte [47, 63, 35] x.toNat.toUInt8) ↔ pathB x = true := by
  have : ∀ n : Nat, n < 256 → ((0 ≤ Lib.indexByte [47, 63, 35] n.toUInt8) ↔ pathB (n : Int) = true) := by decide +kernel
  have := this x.toNat (by omega)
  rwa [Int.toNat_of_nonneg h0] at this

end Go.Proofs.YtfdcfajliofbfaaGreatDoor

/- Is a scheme asked for: the program's side. -/
namespace Go.Proofs.YtfdcfajliofbfaaGreatDoor
open Go.RowKit
set_option linter.unusedVariables false
set_option linter.unusedSimpArgs false

theorem ascii_any (n : Int) (w : World) (h : n ≤ 8) : Calls Tryz.prog 241 #[.int .i64 n] w fun e w' => e = .returned (.bool false) ∧ w' = w := by
  have h' : ¬ n > 8 := by omega
  go_enter Tryz.func241, Tryz.ntmps241
  go_wp2
  go_ret
  exact ⟨rfl, rfl⟩

set_option maxRecDepth 100000 in
set_option maxHeartbeats 1600000 in
theorem indexAny_any (a : Option Addr) (c : Nat) (l : List Int) (w : World) (ha : BAt w a l) (hl : (l.length : Int) ≤ 8) (hu : ∀ k, k < l.length → 0 ≤ l.getD k 0 ∧ l.getD k 0 < 127) :
    Calls Tryz.prog 196 #[.slice a l.length c, .string ⟨#[47, 63, 35]⟩] w fun e w' => ∃ z : Int, e = .returned (.int .i64 z) ∧ decide (0 ≤ z) = l.any pathB ∧ w' = w := by
  have HA := Hid.mk' ha
  have HU := Hid.mk' hu
  clear ha hu
  have cs : (⟨#[47, 63, 35]⟩ : ByteArray).toList = [47, 63, 35] := by rw [ByteArray.toList_eq]
  have csz : (⟨#[47, 63, 35]⟩ : ByteArray).size = 3 := rfl
  have cdt : (⟨#[47, 63, 35]⟩ : ByteArray).data.toList = [47, 63, 35] := rfl
  by_cases h1 : l.length = 1
  · have hx := HU.out 0 (by omega)
    obtain ⟨b, o, rfl, hbs, hc⟩ := bget HA.out (k := 0) (by omega)
    rw [Nat.add_zero] at hc
    have EA : Hid (l.any pathB = pathB (l.getD 0 0)) := Hid.mk' (by
      obtain ⟨x, rfl⟩ := List.length_eq_one_iff.1 h1
      simp)
    have HI := Hid.mk' (ibs_is (x := l.getD 0 0) (by omega) (by omega))
    have e1 : ((l.length : Int) == 1) = true := by rw [beq_iff_eq]; omega
    have e2 : (0 : Int) < (l.length : Int) := by omega
    generalize l.getD 0 0 = x at *
    have r1 : ¬ x ≥ 128 := by omega
    generalize hz : Lib.indexByte [47, 63, 35] x.toNat.toUInt8 = z at *
    clear h1
    by_cases hp : z ≥ 0
    · have E : Hid (l.any pathB = true) := Hid.mk' (by rw [EA.out]; exact HI.out.1 hp)
      go_enter Tryz.func196, Tryz.ntmps196
      go_wp2
      go_ret
      exact ⟨0, rfl, by rw [E.out]; rfl, rfl⟩
    · have E : Hid (l.any pathB = false) := Hid.mk' (by rw [EA.out]; exact Bool.eq_false_iff.2 (fun h => hp (HI.out.2 h)))
      go_enter Tryz.func196, Tryz.ntmps196
      go_wp2
      go_ret
      exact ⟨-1, rfl, by rw [E.out]; rfl, rfl⟩
  · have e1 : ((l.length : Int) == 1) = false := by rw [beq_eq_false_iff_ne]; omega
    have KA := Hid.mk' (ascii_any (l.length : Int) w hl)
    go_enter Tryz.func196, Tryz.ntmps196
    go_wp2_with fail
    refine KA.out.mono ?_
    rintro e w1 ⟨rfl, hw⟩
    obtain rfl := hw.symm
    go_wp2
    go_loop [11, 12, 13] (fun wd i r => ∃ k : Nat, k ≤ l.length ∧ i = .int .i64 k ∧ (l.take k).any pathB = false) (fun _ i _ => l.length - (intOf i).toNat)
    case atStart => exact ⟨0, Nat.zero_le _, rfl, rfl⟩
    case round =>
      obtain ⟨k, hk, rfl, hf⟩ := hrel
      have HF := Hid.mk' hf
      clear hf
      by_cases hlt : k < l.length
      · have ci : (k : Int) < (l.length : Int) := by omega
        have hx := HU.out k hlt
        obtain ⟨b, o, rfl, hbs, hc⟩ := bget HA.out hlt
        have HT := Hid.mk' (any_take (p := pathB) hlt)
        have HX := Hid.mk' (any_at (p := pathB) hlt)
        have HI := Hid.mk' (ibs_is (x := l.getD k 0) (by omega) (by omega))
        generalize l.getD k 0 = x at *
        have r1 : x < 128 := by omega
        generalize hz : Lib.indexByte [47, 63, 35] x.toNat.toUInt8 = z at *
        by_cases hp : z ≥ 0
        · have E := Hid.mk' (HX.out (HI.out.1 hp))
          go_wp2
          go_ret
          exact ⟨k, rfl, by rw [E.out]; simp, rfl⟩
        · have E : Hid ((l.take (k + 1)).any pathB = false) := Hid.mk' (by rw [HT.out, HF.out, Bool.eq_false_iff.2 (fun h => hp (HI.out.2 h))]; rfl)
          go_wp2
          go_round
          case rel => exact ⟨k + 1, by omega, by go_num, E.out⟩
          case measure => simp [intOf]; omega
      · have ci : ¬ (k : Int) < (l.length : Int) := by omega
        have e : k = l.length := by omega
        have E : Hid (l.any pathB = false) := Hid.mk' (by have := HF.out; rw [e, List.take_length] at this; exact this)
        go_wp2
        go_ret
        exact ⟨-1, rfl, by rw [E.out]; rfl, rfl⟩

theorem containsAny_any (a : Option Addr) (c : Nat) (l : List Int) (w : World) (ha : BAt w a l) (hl : (l.length : Int) ≤ 8) (hu : ∀ k, k < l.length → 0 ≤ l.getD k 0 ∧ l.getD k 0 < 127) :
    Calls Tryz.prog 166 #[.slice a l.length c, .string ⟨#[47, 63, 35]⟩] w fun e w' => e = .returned (.bool (l.any pathB)) ∧ w' = w := by
  have K := Hid.mk' (indexAny_any a c l w ha hl hu)
  clear ha hu
  go_enter Tryz.func166, Tryz.ntmps166
  go_wp2_with fail
  refine K.out.mono ?_
  rintro e w1 ⟨z, rfl, hz, hw⟩
  obtain rfl := hw.symm
  have HZ := Hid.mk' hz
  clear hz
  go_wp2
  go_ret
  exact ⟨by rw [← HZ.out]; simp, rfl⟩

set_option maxRecDepth 100000 in
set_option maxHeartbeats 1600000 in
theorem asksScheme_any (g c : Nat) (l : List Int) (w : World) (hr : w.rowIs g 5 l.length (bv l)) (hc : l.length ≤ c) (hcl : clB l = true) (hu : ∀ k, k < l.length → 0 ≤ l.getD k 0 ∧ l.getD k 0 ≤ 255) :
    Calls Tryz.prog 138 #[.slice (some ⟨g, 0, none⟩) l.length c] w fun e w' => e = .returned (.bool (toldB l)) ∧ Below w.heap.size w w' := by
  unfold clB at hcl
  rw [Bool.and_eq_true, decide_eq_true_eq, Bool.not_eq_true'] at hcl
  obtain ⟨l8, hun⟩ := hcl
  have hmem : ∀ x ∈ l, 0 ≤ x ∧ x ≤ 255 := fun x hx => by
    obtain ⟨i, hi, rfl⟩ := List.mem_iff_getElem.1 hx
    have := hu i hi
    rwa [show l.getD i 0 = l[i] by simp [hi]] at this
  have hasc : ∀ k, k < l.length → 0 ≤ l.getD k 0 ∧ l.getD k 0 < 127 := fun k hk => by
    have h1 := (hu k hk).1
    refine ⟨h1, ?_⟩
    rcases Int.lt_or_le (l.getD k 0) 127 with h | h
    · exact h
    · have := any_at (p := unc) hk (by unfold unc; rw [decide_eq_true h]; simp)
      rw [this] at hun; cases hun
  have hle := colN_le l
  have N1 := below_new w (.cells #[.int .u8 58] 5 (1, 2))
  have HB := Hid.mk' N1
  have hrW := rowB hr N1
  have hcol := cell_marked w (.int .u8 58) 5 (1, 2)
  have hci : -1 ≤ colI l ∧ (0 ≤ colI l → colI l + 1 ≤ l.length) := by
    unfold colI
    by_cases h : colN l < l.length
    · rw [if_pos h]; omega
    · rw [if_neg h]; omega
  have KI := Tryz.bytes_Index_one g 0 l.length c w.heap.size 0 1 l 58 _ rfl (fun i hi => by rw [Nat.zero_add]; exact hrW.cell hi) hcol
  have e58 : ((58 : Int).toNat.toUInt8) = 58 := by decide
  rw [e58, indexByte_is l hmem] at KI
  have KC := Hid.mk' (Tryz.bytes_Cut_of (some ⟨g, 0, none⟩) (some ⟨w.heap.size, 0, none⟩) l.length c 1 1 (colI l) _ hc hci.1 hci.2 (by omega) (KI.mono fun e w' ⟨h1, h2⟩ => ⟨h1, 0, h2⟩))
  have HAT := Hid.mk' (BAt.of_row hrW)
  have kcv := Lib.run_convert_bytes_const (P := Tryz.prog) w 30 5 #[.int .u8 58] 1 1 Tryz.underlying30 Tryz.underlying5
  have KCV := Hid.mk' kcv
  have HASC := Hid.mk' hasc
  clear hr hu N1 hrW KI hcol hci e58 kcv hmem hun hasc
  generalize hW : w.alloc (.cells #[.int .u8 58] 5 (1, 2)) = W at *
  by_cases h1 : colN l < l.length
  · have h2 : colI l = (colN l : Int) := by unfold colI; rw [if_pos h1]
    rw [h2] at KC
    have eV : Lib.cutV (some ⟨g, 0, none⟩) l.length c 1 ((colN l : Nat) : Int) = .tuple #[.slice (some ⟨g, 0, none⟩) (colN l) c, Lib.fromV (some ⟨g, 0, none⟩) l.length c (colN l + 1), .bool true] := by
      unfold Lib.cutV
      rw [if_pos (by omega)]
      rfl
    rw [eV] at KC
    generalize Lib.fromV (some ⟨g, 0, none⟩) l.length c (colN l + 1) = vr at *
    have ET : Hid (toldB l = !(l.take (colN l)).any pathB) := Hid.mk' (by unfold toldB; rw [decide_eq_true h1, Bool.true_and])
    have LT : Hid ((l.take (colN l)).length = colN l) := Hid.mk' (by rw [List.length_take]; omega)
    have KA : Hid (∀ W2 : World, Below W.heap.size W W2 → Calls Tryz.prog 166 #[.slice (some ⟨g, 0, none⟩) (colN l) c, .string ⟨#[47, 63, 35]⟩] W2 fun e w' => e = .returned (.bool ((l.take (colN l)).any pathB)) ∧ w' = W2) := Hid.mk' (fun W2 hb => by
      have k := containsAny_any (some ⟨g, 0, none⟩) c (l.take (colN l)) W2 ((HAT.out.take (colN l)).below hb) (by rw [LT.out]; omega) (fun k hk => by
        rw [LT.out] at hk
        have e : (l.take (colN l)).getD k 0 = l.getD k 0 := by rw [List.getD_eq_getElem?_getD, List.getD_eq_getElem?_getD, List.getElem?_take_of_lt hk]
        rw [e]; exact HASC.out k (by omega))
      rw [LT.out] at k
      exact k)
    clear eV h2
    have hcc := KCV.out
    generalize (l.take (colN l)).any pathB = PB at *
    generalize colN l = C at *
    go_enter Tryz.func138, Tryz.ntmps138
    go_wp2_with fail
    clear hW hcc
    refine KC.out.mono ?_
    rintro e w1 ⟨rfl, q, hw⟩
    have hb : Below W.heap.size W w1 := by rw [hw]; exact below_drewN (Below.refl _ _) q
    have HB1 := Hid.mk' hb
    have HB := Hid.mk' (HB.out.trans (hb.mono HB.out.size))
    clear hb hw KC
    go_wp2_with fail
    refine (KA.out _ HB1.out).mono ?_
    rintro e w2 ⟨rfl, hw⟩
    obtain rfl := hw.symm
    go_wp2
    go_ret
    exact ⟨by rw [ET.out]; rfl, HB.out⟩
  · have h2 : colI l = -1 := by unfold colI; rw [if_neg h1]
    rw [h2] at KC
    have eV : Lib.cutV (some ⟨g, 0, none⟩) l.length c 1 (-1) = .tuple #[.slice (some ⟨g, 0, none⟩) l.length c, .slice none 0 0, .bool false] := by
      unfold Lib.cutV
      rw [if_neg (by omega)]
    rw [eV] at KC
    have ET : Hid (toldB l = false) := Hid.mk' (by unfold toldB; rw [decide_eq_false h1, Bool.false_and])
    clear eV h2
    have hcc := KCV.out
    go_enter Tryz.func138, Tryz.ntmps138
    go_wp2_with fail
    clear hW hcc
    refine KC.out.mono ?_
    rintro e w1 ⟨rfl, q, hw⟩
    have hb : Below W.heap.size W w1 := by rw [hw]; exact below_drewN (Below.refl _ _) q
    have HB := Hid.mk' (HB.out.trans (hb.mono HB.out.size))
    clear hb hw KC
    go_wp2
    go_ret
    exact ⟨by rw [ET.out]; rfl, HB.out⟩

end Go.Proofs.YtfdcfajliofbfaaGreatDoor
