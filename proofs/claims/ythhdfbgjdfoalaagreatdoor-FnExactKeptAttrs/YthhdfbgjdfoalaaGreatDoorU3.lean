/- Schemes: the mathematics, and the small walks of both sides. -/
import Derived.Test.YthhdfbgjdfoalaaGreatDoorSpl
import Derived.Test.YthhdfbgjdfoalaaGreatDoorU2
import Derived.Test.YthhdfbgjdfoalaaGreatDoorWb
import Derived.Test.YthhdfbgjdfoalaaGreatDoorShp
import Derived.Laws.BytesString
import Derived.Laws.IdiomStrings
import Derived.BigGuard
import Derived.Test.YthhdfbgjdfoalaaGreatDoorCm
namespace Go.Proofs.YthhdfbgjdfoalaaGreatDoor
open Go.RowKit
set_option linter.unusedVariables false
set_option linter.unusedSimpArgs false

/-- Where the first colon stands (behind all, if there is none). -/
def colN : List Int → Nat
  | [] => 0
  | x :: r => if x = 58 then 0 else colN r + 1

def colI (l : List Int) : Int := if colN l < l.length then (colN l : Int) else -1

theorem colN_le : ∀ l : List Int, colN l ≤ l.length
  | [] => Nat.le_refl _
  | x :: r => by
    unfold colN
    split
    · omega
    · have := colN_le r; simp only [List.length_cons]; omega

theorem colN_eq : ∀ (l : List Int) (k : Nat), k < l.length → l.getD k 0 = 58 → (∀ j, j < k → ¬ l.getD j 0 = 58) → colN l = k
  | [], k, h, _, _ => absurd h (Nat.not_lt_zero _)
  | x :: r, 0, _, h, _ => by
    unfold colN
    rw [if_pos (by simpa using h)]
  | x :: r, k + 1, h, h1, h2 => by
    unfold colN
    rw [if_neg (by simpa using h2 0 (by omega)), colN_eq r k (by simpa using h) (by simpa using h1) (fun j hj => by simpa using h2 (j + 1) (by omega))]

theorem colN_none : ∀ (l : List Int), (∀ j, j < l.length → ¬ l.getD j 0 = 58) → colN l = l.length
  | [], _ => rfl
  | x :: r, h => by
    unfold colN
    rw [if_neg (by simpa using h 0 (by simp)), colN_none r (fun j hj => by simpa using h (j + 1) (by simpa using hj))]
    rfl

theorem byte58 {x : Int} (h0 : 0 ≤ x) (h1 : x ≤ 255) : (UInt8.ofNat x.toNat == 58) = decide (x = 58) := by
  obtain ⟨n, rfl⟩ : ∃ n : Nat, x = n := ⟨x.toNat, by omega⟩
  rw [Bool.eq_iff_iff, beq_iff_eq, decide_eq_true_eq]
  constructor
  · intro h
    have := congrArg UInt8.toNat h
    simp at this
    omega
  · intro h
    have : n = 58 := by omega
    subst this
    rfl

theorem indexByte_is : ∀ (l : List Int), (∀ x ∈ l, 0 ≤ x ∧ x ≤ 255) → Lib.indexByte (Lib.bytesOf l) 58 = colI l
  | [], _ => rfl
  | x :: r, h => by
    have hx := h x (by simp)
    have ih := indexByte_is r (fun y hy => h y (by simp [hy]))
    have e : Lib.bytesOf (x :: r) = UInt8.ofNat x.toNat :: Lib.bytesOf r := rfl
    rw [e]
    unfold Lib.indexByte
    rw [byte58 hx.1 hx.2]
    by_cases h58 : x = 58
    · simp [h58, colI, colN]
    · have c : colN (x :: r) = colN r + 1 := by rw [colN, if_neg h58]
      rw [decide_eq_false h58, ih]
      by_cases hl : colN r < r.length
      · have e1 : colI r = (colN r : Int) := by unfold colI; rw [if_pos hl]
        have e2 : colI (x :: r) = (colN r : Int) + 1 := by
          unfold colI
          rw [c, if_pos (by simp only [List.length_cons]; omega)]
          omega
        have e3 : ((colN r : Int) == -1) = false := by rw [beq_eq_false_iff_ne]; omega
        rw [e1, e2, e3]
        rfl
      · have e1 : colI r = -1 := by unfold colI; rw [if_neg hl]
        have e2 : colI (x :: r) = -1 := by
          unfold colI
          rw [c, if_neg (by simp only [List.length_cons]; omega)]
        rw [e1, e2]
        rfl

/-- No letter. -/
def noLet (x : Int) : Bool := !(decide (97 ≤ x ∧ x ≤ 122) || decide (65 ≤ x ∧ x ≤ 90))
/-- A to Z as a to z. -/
def lowI (x : Int) : Int := if 65 ≤ x ∧ x ≤ 90 then x + 32 else x

/-- The scheme of bytes (none: there is none). -/
def schS (l : List Int) : List Int := if colN l < l.length ∧ (l.take (colN l)).any noLet = false then (l.take (colN l)).map lowI else []

theorem Tryz.info5' : (Tryz.prog.info? 5).map (fun i => (i.zero, i.size, i.bytes)) = some (some (.int .u8 0), 1, 1) := by kernel_rfl

theorem bget {w : World} {a : Option Addr} {l : List Int} (h : BAt w a l) {k : Nat} (hk : k < l.length) : ∃ b o, a = some ⟨b, o, none⟩ ∧ b < w.heap.size ∧ w.cell? ⟨b, o + k, none⟩ = some (.int .u8 (l.getD k 0)) := by
  rcases h with h | ⟨b, o, e, hs, hc⟩
  · rw [h] at hk; exact absurd hk (Nat.not_lt_zero _)
  · exact ⟨b, o, e, hs, hc k hk⟩

set_option maxHeartbeats 800000 in
theorem l8Colon_any (a : Option Addr) (c : Nat) (l : List Int) (w : World) (ha : BAt w a l) (hl : (l.length : Int) ≤ 1048576) :
    Calls Tryz.prog 121 #[.slice a l.length c] w fun e w' => e = .returned (.int .i64 (colI l)) ∧ w' = w := by
  have HA := Hid.mk' ha
  clear ha
  go_enter Tryz.func121, Tryz.ntmps121
  go_wp2
  go_loop [3] (fun i => ∃ k : Nat, k ≤ l.length ∧ i = .int .i64 k ∧ ∀ j, j < k → ¬ l.getD j 0 = 58) (fun i => l.length - (intOf i).toNat)
  case atStart => exact ⟨0, Nat.zero_le _, rfl, fun j hj => absurd hj (Nat.not_lt_zero _)⟩
  case round =>
    obtain ⟨k, hk, rfl, hf⟩ := hrel
    have HF := Hid.mk' hf
    clear hf
    by_cases hlt : k < l.length
    · have ci : (k : Int) < (l.length : Int) := by omega
      obtain ⟨b, o, rfl, hbs, h1⟩ := bget HA.out hlt
      have HE := Hid.mk' (fun h58 => colN_eq l k hlt h58 HF.out)
      have HS : Hid (¬ l.getD k 0 = 58 → ∀ j, j < k + 1 → ¬ l.getD j 0 = 58) := Hid.mk' fun h j hj => by
        by_cases e : j = k
        · subst e; exact h
        · exact HF.out j (by omega)
      generalize l.getD k 0 = x at *
      by_cases h58 : x = 58
      · have E : Hid (colI l = (k : Int)) := Hid.mk' (by unfold colI; rw [HE.out h58, if_pos hlt])
        have hb : (x == 58) = true := by rw [beq_iff_eq]; exact h58
        clear h58
        go_wp2
        go_ret
        exact ⟨by rw [E.out]; rfl, rfl⟩
      · have HS := Hid.mk' (HS.out h58)
        have hb : (x == 58) = false := by rw [beq_eq_false_iff_ne]; exact h58
        clear h58
        go_wp2
        go_round
        case rel => exact ⟨k + 1, by omega, by go_num, HS.out⟩
        case measure => simp [intOf]; omega
    · have ci : ¬ (k : Int) < (l.length : Int) := by omega
      have e : k = l.length := by omega
      subst e
      have E : Hid (colI l = -1) := Hid.mk' (by unfold colI; rw [colN_none l HF.out, if_neg (by omega)])
      go_wp2
      go_ret
      exact ⟨by rw [E.out]; rfl, rfl⟩

theorem noLet_of {x : Int} (b1 : x < 97 ∨ x > 122) (b2 : x < 65 ∨ x > 90) : noLet x = true := by
  unfold noLet
  rw [decide_eq_false (by omega), decide_eq_false (by omega)]; rfl
theorem noLet_low {x : Int} (h : 97 ≤ x ∧ x ≤ 122) : noLet x = false := by unfold noLet; rw [decide_eq_true h]; rfl
theorem noLet_up {x : Int} (h : 65 ≤ x ∧ x ≤ 90) : noLet x = false := by unfold noLet; rw [decide_eq_true h]; simp

theorem isNoLetter_any (x : Int) (w : World) :
    Calls Tryz.prog 132 #[.int .u8 x] w fun e w' => e = .returned (.bool (noLet x)) ∧ w' = w := by
  by_cases b1 : x < 97
  · by_cases b3 : x < 65
    · have E := Hid.mk' (noLet_of (.inl b1) (.inl b3))
      go_enter Tryz.func132, Tryz.ntmps132
      go_wp2_with go_big_skip
      go_ret
      exact ⟨by rw [E.out]; rfl, rfl⟩
    · by_cases b4 : x > 90
      · have E := Hid.mk' (noLet_of (.inl b1) (.inr b4))
        go_enter Tryz.func132, Tryz.ntmps132
        go_wp2_with go_big_skip
        go_ret
        exact ⟨by rw [E.out]; rfl, rfl⟩
      · have E := Hid.mk' (noLet_up (x := x) (by omega))
        go_enter Tryz.func132, Tryz.ntmps132
        go_wp2_with go_big_skip
        go_ret
        exact ⟨by rw [E.out]; rfl, rfl⟩
  · by_cases b2 : x > 122
    · have b3 : ¬ x < 65 := by omega
      have b4 : x > 90 := by omega
      have E := Hid.mk' (noLet_of (.inr b2) (.inr b4))
      go_enter Tryz.func132, Tryz.ntmps132
      go_wp2_with go_big_skip
      go_ret
      exact ⟨by rw [E.out]; rfl, rfl⟩
    · have E := Hid.mk' (noLet_low (x := x) (by omega))
      go_enter Tryz.func132, Tryz.ntmps132
      go_wp2_with go_big_skip
      go_ret
      exact ⟨by rw [E.out]; rfl, rfl⟩

theorem any_take {l : List Int} {k : Nat} {p : Int → Bool} (hk : k < l.length) : (l.take (k + 1)).any p = ((l.take k).any p || p (l.getD k 0)) := by
  have e : l.take (k + 1) = l.take k ++ [l.getD k 0] := by
    rw [List.take_succ_eq_append_getElem hk]
    simp [hk]
  rw [e, List.any_append]
  simp

theorem any_at {l : List Int} {k : Nat} {p : Int → Bool} (hk : k < l.length) (h : p (l.getD k 0) = true) : l.any p = true := by
  rw [List.any_eq_true]
  exact ⟨l[k], List.getElem_mem hk, by have e : l.getD k 0 = l[k] := by simp [hk]
                                       rw [← e]; exact h⟩

set_option maxHeartbeats 800000 in
theorem indexF_any (a : Option Addr) (c : Nat) (l : List Int) (w : World) (ha : BAt w a l) (hl : (l.length : Int) ≤ 1048576) :
    Calls Tryz.prog 129 #[.slice a l.length c, .func (.func 132) #[] #[]] w fun e w' => ∃ z : Int, e = .returned (.int .i64 z) ∧ decide (0 ≤ z) = l.any noLet ∧ w' = w := by
  have HA := Hid.mk' ha
  clear ha
  go_enter Tryz.func129, Tryz.ntmps129
  go_wp2
  go_loop [8] (fun i => ∃ k : Nat, k ≤ l.length ∧ i = .int .i64 k ∧ (l.take k).any noLet = false) (fun i => l.length - (intOf i).toNat)
  case atStart => exact ⟨0, Nat.zero_le _, rfl, rfl⟩
  case round =>
    obtain ⟨k, hk, rfl, hf⟩ := hrel
    have HF := Hid.mk' hf
    clear hf
    by_cases hlt : k < l.length
    · have ci : (k : Int) < (l.length : Int) := by omega
      obtain ⟨b, o, rfl, hbs, h1⟩ := bget HA.out hlt
      have HT := Hid.mk' (any_take (p := noLet) hlt)
      have HX := Hid.mk' (any_at (p := noLet) hlt)
      have KN := isNoLetter_any (l.getD k 0) w
      generalize l.getD k 0 = x at *
      cases he : noLet x with
      | true =>
        rw [he] at KN
        have KN := Hid.mk' KN
        have E := Hid.mk' (HX.out he)
        go_wp2_with fail
        refine KN.out.mono ?_
        rintro e w1 ⟨rfl, hw⟩
        obtain rfl := hw.symm
        go_wp2
        go_ret
        exact ⟨k, rfl, by rw [E.out]; simp, rfl⟩
      | false =>
        rw [he] at KN
        have KN := Hid.mk' KN
        have E : Hid ((l.take (k + 1)).any noLet = false) := Hid.mk' (by rw [HT.out, HF.out, he]; rfl)
        go_wp2_with fail
        refine KN.out.mono ?_
        rintro e w1 ⟨rfl, hw⟩
        obtain rfl := hw.symm
        go_wp2
        go_round
        case rel => exact ⟨k + 1, by omega, by go_num, E.out⟩
        case measure => simp [intOf]; omega
    · have ci : ¬ (k : Int) < (l.length : Int) := by omega
      have e : k = l.length := by omega
      have E : Hid (l.any noLet = false) := Hid.mk' (by have := HF.out; rw [e, List.take_length] at this; exact this)
      go_wp2
      go_ret
      exact ⟨-1, rfl, by rw [E.out]; rfl, rfl⟩

theorem containsF_any (a : Option Addr) (c : Nat) (l : List Int) (w : World) (ha : BAt w a l) (hl : (l.length : Int) ≤ 1048576) :
    Calls Tryz.prog 107 #[.slice a l.length c, .func (.func 132) #[] #[]] w fun e w' => e = .returned (.bool (l.any noLet)) ∧ w' = w := by
  have K := Hid.mk' (indexF_any a c l w ha hl)
  clear ha
  go_enter Tryz.func107, Tryz.ntmps107
  go_wp2_with fail
  refine K.out.mono ?_
  rintro e w1 ⟨z, rfl, hz, rfl⟩
  have HZ := Hid.mk' hz
  clear hz
  go_wp2
  go_ret
  exact ⟨by rw [← HZ.out]; simp, rfl⟩

end Go.Proofs.YthhdfbgjdfoalaaGreatDoor

/- SchemeOf: both sides, and the law. -/
namespace Go.Proofs.YthhdfbgjdfoalaaGreatDoor
open Go.RowKit
set_option linter.unusedVariables false
set_option linter.unusedSimpArgs false

theorem strS_fold : ∀ (l : List Int) (r : ByteArray), (l.foldl (fun r n => r.push (UInt8.ofNat n.toNat)) r).data.toList = r.data.toList ++ l.map (fun n => UInt8.ofNat n.toNat)
  | [], r => by simp
  | x :: l, r => by
    rw [List.foldl_cons, strS_fold l]
    simp
theorem strS_list (l : List Int) : (strS l).data.toList = l.map (fun n => UInt8.ofNat n.toNat) := by
  unfold strS
  rw [strS_fold]
  rfl

theorem bytes_ext {a b : ByteArray} (h : a.data.toList = b.data.toList) : a = b := by
  cases a; cases b
  simp at h
  rw [h]

theorem low_byte {x : Int} (h0 : 0 ≤ x) (h1 : x ≤ 255) : Lib.lowerB (UInt8.ofNat x.toNat) = UInt8.ofNat (lowI x).toNat := by
  obtain ⟨n, rfl⟩ : ∃ n : Nat, x = n := ⟨x.toNat, by omega⟩
  have hn : n < 256 := by omega
  have e : Lib.isUpperB (UInt8.ofNat (n : Int).toNat) = decide (65 ≤ (n : Int) ∧ (n : Int) ≤ 90) := by
    unfold Lib.isUpperB
    rw [Bool.eq_iff_iff]
    simp [UInt8.le_iff_toNat_le, Nat.mod_eq_of_lt hn]
    omega
  unfold Lib.lowerB lowI
  rw [e]
  by_cases h : 65 ≤ (n : Int) ∧ (n : Int) ≤ 90
  · rw [decide_eq_true h, if_pos rfl, if_pos h]
    apply UInt8.toNat_inj.1
    have : ((n : Int) + 32).toNat = n + 32 := by omega
    rw [this]
    simp
  · rw [decide_eq_false h, if_neg (by simp), if_neg h]

/-- Lowered by the program. -/
theorem lower_is {l : List Int} (h : ∀ x ∈ l, 0 ≤ x ∧ x ≤ 255) : (⟨(Lib.toLowerA (strS l).data.toList).toArray⟩ : ByteArray) = strS (l.map lowI) := by
  apply bytes_ext
  rw [strS_list, strS_list]
  unfold Lib.toLowerA
  rw [List.map_map, List.map_map]
  show List.map _ l = List.map _ l
  apply List.map_congr_left
  intro x hx
  exact low_byte (h x hx).1 (h x hx).2

theorem tlLoopS (s : ByteArray) : ∀ (n i : Nat) (r : List UInt8), s.size - i = n → ByteArray.toList.loop s i r = r.reverse ++ s.data.toList.drop i := by
  intro n
  induction n with
  | zero =>
    intro i r h
    rw [ByteArray.toList.loop, if_neg (by omega)]
    have h2 : s.data.toList.length ≤ i := by
      have : s.data.toList.length = s.size := by simp
      omega
    rw [List.drop_eq_nil_of_le h2, List.append_nil]
  | succ n ih =>
    intro i r h
    have hi : i < s.size := by omega
    rw [ByteArray.toList.loop, if_pos hi, ih (i + 1) _ (by omega)]
    have h2 : i < s.data.toList.length := by
      have : s.data.toList.length = s.size := by simp
      omega
    rw [List.drop_eq_getElem_cons h2, List.reverse_cons, List.append_assoc]
    congr 1
    show [s.get! i] ++ _ = _
    have e : s.get! i = s.data.toList[i] := by
      show s.data[i]! = _
      rw [getElem!_pos s.data i (by simpa using h2)]
      simp
    rw [e]; rfl
theorem tlDataS (s : ByteArray) : s.toList = s.data.toList := by
  unfold ByteArray.toList
  rw [tlLoopS s _ 0 [] rfl]
  simp

theorem strS_nil_iff (l : List Int) : ((strS l).toList == []) = decide (l = []) := by
  have e : (strS l).toList = (strS l).data.toList := by
    have h : ∀ (s : ByteArray), s.toList = s.data.toList := tlDataS
    exact h _
  rw [e, strS_list, Bool.eq_iff_iff, beq_iff_eq, decide_eq_true_eq]
  cases l <;> simp

/-- Bytes that grow in a row of one's own. -/
structure GrS (w : World) (v : Value) (l : List Int) (wr : World) : Prop where
  own : wr.ownsRow w.heap.size 5 1 v l.length (bcs l)
  bl : Below w.heap.size w wr
  sz : w.heap.size ≤ wr.heap.size

theorem GrS.alloc {w wr : World} {v : Value} {l : List Int} (h : GrS w v l wr) (o : Obj) : GrS w v l (wr.alloc o) :=
  ⟨h.own.alloc o, h.bl.alloc h.sz o, by have := h.sz; simp; omega⟩
theorem GrS.app {w wr w1 : World} {v v' : Value} {l : List Int} {x : Int} (h : GrS w v l wr) (ho : w1.ownsRow w.heap.size 5 1 v' (l.length + 1) (bcs l ++ bcs [x])) (hg : wr.grownBy w1 v.ownBlock) : GrS w v' (l ++ [x]) w1 :=
  ⟨by rw [List.length_append, bcs_append]; exact ho, h.bl.grown hg h.sz (own_lo h.own), Nat.le_trans h.sz hg.size⟩

theorem bcs1 (x : Int) : (bcs [x]).length = 1 * 1 := rfl
theorem oneB (w : World) (x : Int) : ∀ j u, (bcs [x])[j]? = some u → (w.alloc (.cells #[.int .u8 x] 5)).cell? ((⟨w.heap.size, 0, none⟩ : Addr).add j) = some u := by
  intro j u h
  cases j with
  | zero =>
    have e : u = .int .u8 x := by simpa [bcs] using h.symm
    subst e
    simp [Addr.add]
  | succ j => simp [bcs] at h

theorem schS_bad {l : List Int} {k : Nat} (hk : k < colN l) (hl : colN l < l.length) (h : noLet (l.getD k 0) = true) : schS l = [] := by
  unfold schS
  rw [if_neg]
  rintro ⟨_, h2⟩
  have : (l.take (colN l)).any noLet = true := any_at (k := k) (by rw [List.length_take]; omega) (by
    have e : (l.take (colN l)).getD k 0 = l.getD k 0 := by
      simp [List.getD_eq_getElem?_getD, List.getElem?_take, hk]
    rw [e]; exact h)
  rw [this] at h2; cases h2

theorem map_take_snoc {l : List Int} {k : Nat} (hk : k < l.length) : (l.take (k + 1)).map lowI = (l.take k).map lowI ++ [lowI (l.getD k 0)] := by
  have e : l.take (k + 1) = l.take k ++ [l.getD k 0] := by
    rw [List.take_succ_eq_append_getElem hk]
    simp [hk]
  rw [e, List.map_append]; rfl

theorem ltr_low {x : Int} (h0 : 0 ≤ x) (h1 : x ≤ 255) : ltrB (lowI x).toNat = !noLet x := by
  unfold lowI
  by_cases h : 65 ≤ x ∧ x ≤ 90
  · rw [if_pos h, noLet_up h, ltrB_true (by unfold ltr; omega)]; rfl
  · rw [if_neg h]
    by_cases h2 : 97 ≤ x ∧ x ≤ 122
    · rw [noLet_low h2, ltrB_true (by unfold ltr; omega)]; rfl
    · rw [noLet_of (by omega) (by omega), ltrB_false (by unfold ltr; omega)]; rfl

set_option maxRecDepth 100000 in
set_option maxHeartbeats 3200000 in
theorem l8Scheme_any (a : Option Addr) (c : Nat) (l : List Int) (w : World) (ha : BAt w a l) (hu : ∀ k, k < l.length → 0 ≤ l.getD k 0 ∧ l.getD k 0 ≤ 255) (hl : (l.length : Int) ≤ 1048576) :
    Calls Tryz.prog 103 #[.slice a l.length c] w fun e w' => e = .returned (.string (strS (schS l))) ∧ Below w.heap.size w w' := by
  have HA := Hid.mk' ha
  have HU := Hid.mk' hu
  clear ha hu
  have KC : Hid (∀ wr, Below w.heap.size w wr → Calls Tryz.prog 121 #[.slice a l.length c] wr fun e w' => e = .returned (.int .i64 (colI l)) ∧ w' = wr) := fun wr hb => l8Colon_any a c l wr (HA.out.below hb) hl
  have hcl := colN_le l
  obtain ⟨ci, hci⟩ : ∃ ci, colI l = ci := ⟨_, rfl⟩
  rw [hci] at KC
  have CI : Hid ((colN l < l.length ∧ ci = (colN l : Int)) ∨ (¬ colN l < l.length ∧ ci = -1)) := Hid.mk' (by
    rw [← hci]; unfold colI
    by_cases h : colN l < l.length
    · rw [if_pos h]; exact .inl ⟨h, rfl⟩
    · rw [if_neg h]; exact .inr ⟨h, rfl⟩)
  clear hci
  go_enter Tryz.func103, Tryz.ntmps103
  go_wp2
  go_loopw [3, 4] (fun v i wr => ∃ k : Nat, (k : Int) ≤ max ci 0 ∧ i = .int .i64 k ∧ (l.take k).any noLet = false ∧ GrS w v ((l.take k).map lowI) wr) (fun _ i _ => l.length - (intOf i).toNat)
  case atStart => exact ⟨0, by omega, rfl, rfl, ⟨World.ownsRow_lit w #[] 0 (Nat.le_refl _) (by decide) rfl, below_new w _, by simp⟩⟩
  case round =>
    obtain ⟨k, hk, rfl, hf, hG⟩ := hrel
    have HF := Hid.mk' hf
    have HG := Hid.mk' hG
    have K1 := Hid.mk' (KC.out wr hG.bl)
    clear hf
    by_cases hlt : (k : Int) < ci
    · have hkc : k < colN l ∧ colN l < l.length := by rcases CI.out with ⟨h1, h2⟩ | ⟨h1, h2⟩ <;> omega
      have hkl : k < l.length := by omega
      obtain ⟨b, o, rfl, hbs, h1⟩ := bget (HA.out.below hG.bl) hkl
      have hx := HU.out k hkl
      have HT := Hid.mk' (any_take (p := noLet) hkl)
      have HM := Hid.mk' (map_take_snoc hkl)
      have HBad := Hid.mk' (schS_bad hkc.1 hkc.2)
      have HL := Hid.mk' (ltr_low hx.1 hx.2)
      have hlen : ((l.take k).map lowI).length = k := by rw [List.length_map, List.length_take]; omega
      have HLN := Hid.mk' hlen
      clear hG hlen
      generalize l.getD k 0 = x at *
      have hlow : lowI x = (if 65 ≤ x ∧ x ≤ 90 then x + 32 else x) := rfl
      have hlb : 0 ≤ lowI x ∧ lowI x ≤ 255 := by unfold lowI; split <;> omega
      have KL := letter_any (lowI x).toNat wr
      have ent : ((lowI x).toNat : Int) = lowI x := by omega
      rw [ent] at KL
      rw [HL.out] at KL
      clear ent HL
      have G1 := Hid.mk' (HG.out.alloc (.cells #[.int .u8 (lowI x)] 5))
      have O1 := Hid.mk' (oneB wr (lowI x))
      obtain ⟨y, hy⟩ : ∃ y, lowI x = y := ⟨_, rfl⟩
      rw [hy] at KL hlow hlb G1 O1 HM
      clear hy
      cases hn : noLet x with
      | true =>
        rw [hn] at KL
        have KL := Hid.mk' KL
        have E := Hid.mk' (HBad.out hn)
        by_cases u1 : x ≥ 65
        · by_cases u2 : x ≤ 90
          · rw [if_pos ⟨u1, u2⟩] at hlow
            subst hlow
            go_wp2_with fail
            refine K1.out.mono ?_
            rintro e w1 ⟨rfl, hw⟩
            obtain rfl := hw.symm
            go_wp2_with fail
            refine KL.out.mono ?_
            rintro e w1 ⟨rfl, hw⟩
            obtain rfl := hw.symm
            go_wp2
            go_ret
            exact ⟨by rw [E.out]; rfl, HG.out.bl⟩
          · rw [if_neg (by omega)] at hlow
            subst hlow
            go_wp2_with fail
            refine K1.out.mono ?_
            rintro e w1 ⟨rfl, hw⟩
            obtain rfl := hw.symm
            go_wp2_with fail
            refine KL.out.mono ?_
            rintro e w1 ⟨rfl, hw⟩
            obtain rfl := hw.symm
            go_wp2
            go_ret
            exact ⟨by rw [E.out]; rfl, HG.out.bl⟩
        · rw [if_neg (by omega)] at hlow
          subst hlow
          go_wp2_with fail
          refine K1.out.mono ?_
          rintro e w1 ⟨rfl, hw⟩
          obtain rfl := hw.symm
          go_wp2_with fail
          refine KL.out.mono ?_
          rintro e w1 ⟨rfl, hw⟩
          obtain rfl := hw.symm
          go_wp2
          go_ret
          exact ⟨by rw [E.out]; rfl, HG.out.bl⟩
      | false =>
        rw [hn] at KL
        have KL := Hid.mk' KL
        have E : Hid ((l.take (k + 1)).any noLet = false) := Hid.mk' (by rw [HT.out, HF.out, hn]; rfl)
        by_cases u1 : x ≥ 65
        · by_cases u2 : x ≤ 90
          · rw [if_pos ⟨u1, u2⟩] at hlow
            subst hlow
            go_wp2_with fail
            refine K1.out.mono ?_
            rintro e w1 ⟨rfl, hw⟩
            obtain rfl := hw.symm
            go_wp2_with fail
            refine KL.out.mono ?_
            rintro e w1 ⟨rfl, hw⟩
            obtain rfl := hw.symm
            go_wp2_with (at_builtin; refine wpList_append_at _ rfl (.tmp 28) (.tmp 30) 51 rfl w.heap.size 5 (.int .u8 0) 1 1 Tryz.underlying51 Tryz.info5' rfl (by decide) _ _ _ rfl G1.out.own _ 1 _ (bcs [x + 32]) rfl (bcs1 _) (.inr ⟨_, rfl, O1.out⟩) (bcs_one _) (by have := HLN.out; unfold maxLen; omega) (by have := HLN.out; omega) G1.out.sz ?_; intro v' w2 ho hgr hat; have G2 := Hid.mk' (G1.out.app ho hgr); clear ho hgr hat)
            go_roundw
            case rel => exact ⟨k + 1, by omega, by go_num, E.out, by rw [HM.out]; exact G2.out⟩
            case measure => simp [intOf]; omega
          · rw [if_neg (by omega)] at hlow
            subst hlow
            go_wp2_with fail
            refine K1.out.mono ?_
            rintro e w1 ⟨rfl, hw⟩
            obtain rfl := hw.symm
            go_wp2_with fail
            refine KL.out.mono ?_
            rintro e w1 ⟨rfl, hw⟩
            obtain rfl := hw.symm
            go_wp2_with (at_builtin; refine wpList_append_at _ rfl (.tmp 28) (.tmp 30) 51 rfl w.heap.size 5 (.int .u8 0) 1 1 Tryz.underlying51 Tryz.info5' rfl (by decide) _ _ _ rfl G1.out.own _ 1 _ (bcs [y]) rfl (bcs1 _) (.inr ⟨_, rfl, O1.out⟩) (bcs_one _) (by have := HLN.out; unfold maxLen; omega) (by have := HLN.out; omega) G1.out.sz ?_; intro v' w2 ho hgr hat; have G2 := Hid.mk' (G1.out.app ho hgr); clear ho hgr hat)
            go_roundw
            case rel => exact ⟨k + 1, by omega, by go_num, E.out, by rw [HM.out]; exact G2.out⟩
            case measure => simp [intOf]; omega
        · rw [if_neg (by omega)] at hlow
          subst hlow
          go_wp2_with fail
          refine K1.out.mono ?_
          rintro e w1 ⟨rfl, hw⟩
          obtain rfl := hw.symm
          go_wp2_with fail
          refine KL.out.mono ?_
          rintro e w1 ⟨rfl, hw⟩
          obtain rfl := hw.symm
          go_wp2_with (at_builtin; refine wpList_append_at _ rfl (.tmp 28) (.tmp 30) 51 rfl w.heap.size 5 (.int .u8 0) 1 1 Tryz.underlying51 Tryz.info5' rfl (by decide) _ _ _ rfl G1.out.own _ 1 _ (bcs [y]) rfl (bcs1 _) (.inr ⟨_, rfl, O1.out⟩) (bcs_one _) (by have := HLN.out; unfold maxLen; omega) (by have := HLN.out; omega) G1.out.sz ?_; intro v' w2 ho hgr hat; have G2 := Hid.mk' (G1.out.app ho hgr); clear ho hgr hat)
          go_roundw
          case rel => exact ⟨k + 1, by omega, by go_num, E.out, by rw [HM.out]; exact G2.out⟩
          case measure => simp [intOf]; omega
    · have ES : Hid ((l.take k).map lowI = schS l) := Hid.mk' (by
        rcases CI.out with ⟨h1, h2⟩ | ⟨h1, h2⟩
        · have e : k = colN l := by omega
          unfold schS
          rw [if_pos ⟨h1, by rw [← e]; exact HF.out⟩, e]
        · have e : k = 0 := by omega
          unfold schS
          rw [if_neg (fun h => h1 h.1), e]; rfl)
      obtain ⟨ob, _⟩ := OB.of_own hG.own
      obtain ⟨ao, co, rfl, hbo⟩ := ob.len
      have hcv := conv_bytesS co hbo
      have B := Hid.mk' hG.bl
      rw [ES.out] at hcv ⊢
      clear hG ob hbo HG
      go_wp2_with fail
      refine K1.out.mono ?_
      rintro e w1 ⟨rfl, hw⟩
      obtain rfl := hw.symm
      go_wp2
      go_ret
      exact ⟨rfl, B.out⟩

/-- The code and the text of a scheme. -/
def schC (l : List Int) : Int := if 240 < l.length then 6 else if schS l = [] then 4 else 0
def schT (l : List Int) : ByteArray := if 240 < l.length then ⟨#[]⟩ else strS (schS l)

end Go.Proofs.YthhdfbgjdfoalaaGreatDoor
