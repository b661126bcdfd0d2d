/- Walks: references read, the model's side. -/
import Derived.Test.YtlaeomnacgjcgaaS9
import Derived.Lib.ParseIntB
set_option linter.unusedVariables false
set_option linter.unusedSimpArgs false
namespace Go.Proofs.Ytlaeomnacgjcgaa
open Go.RowKit

def isD (c : UInt8) : Bool := decide (48 ≤ c.toNat) && decide (c.toNat ≤ 57)
def valF (acc : Nat) : List UInt8 → Nat
  | [] => acc
  | c :: r => valF (acc * 10 + (c.toNat - 48)) r
def numOf (d : List UInt8) : Option Nat := if (1 ≤ d.length ∧ d.length ≤ 3) ∧ ¬ (d.getD 0 0).toNat = 48 then (if d.all isD = true ∧ valF 0 d ≤ 255 then some (valF 0 d) else none) else none
def optI : Option Nat → Int
  | some n => n
  | none => -1

theorem valF_snoc : ∀ (l : List UInt8) (c : UInt8) (a : Nat), valF a (l ++ [c]) = valF a l * 10 + (c.toNat - 48)
  | [], c, a => rfl
  | x :: r, c, a => valF_snoc r c _
theorem take_snoc1 (l : List UInt8) (k : Nat) (h : k < l.length) : l.take (k + 1) = l.take k ++ [l.getD k 0] := by
  rw [List.take_add_one, List.getElem?_eq_getElem h, Option.toList_some]
  simp [List.getD_eq_getElem?_getD, List.getElem?_eq_getElem h]
theorem valF_take (l : List UInt8) (k : Nat) (h : k < l.length) : valF 0 (l.take (k + 1)) = valF 0 (l.take k) * 10 + ((l.getD k 0).toNat - 48) := by rw [take_snoc1 l k h, valF_snoc]
theorem all_take (l : List UInt8) (k : Nat) (h : k < l.length) : (l.take (k + 1)).all isD = ((l.take k).all isD && isD (l.getD k 0)) := by rw [take_snoc1 l k h]; simp
theorem isD_bd {c : UInt8} (h : isD c = true) : 48 ≤ c.toNat ∧ c.toNat ≤ 57 := by unfold isD at h; simpa using h
theorem val1 (a : UInt8) (h : isD a = true) : valF 0 [a] ≤ 999 := by
  have h := isD_bd h
  have e : valF 0 [a] = 0 * 10 + (a.toNat - 48) := rfl
  rw [e]
  omega
theorem val2 (a b : UInt8) (h : isD a = true) (k : isD b = true) : valF 0 [a, b] ≤ 999 := by
  have h := isD_bd h
  have k := isD_bd k
  have e : valF 0 [a, b] = (0 * 10 + (a.toNat - 48)) * 10 + (b.toNat - 48) := rfl
  rw [e]
  omega
theorem val3 (a b c : UInt8) (h : isD a = true) (k : isD b = true) (m : isD c = true) : valF 0 [a, b, c] ≤ 999 := by
  have h := isD_bd h
  have k := isD_bd k
  have m := isD_bd m
  have e : valF 0 [a, b, c] = ((0 * 10 + (a.toNat - 48)) * 10 + (b.toNat - 48)) * 10 + (c.toNat - 48) := rfl
  rw [e]
  omega
theorem valF_small : ∀ (l : List UInt8), l.length ≤ 3 → l.all isD = true → valF 0 l ≤ 999
  | [], _, _ => Nat.zero_le _
  | [a], _, h => val1 a (by simpa using h)
  | [a, b], _, h => by
    simp only [List.all_cons, List.all_nil, Bool.and_true, Bool.and_eq_true] at h
    exact val2 a b h.1 h.2
  | [a, b, c], _, h => by
    simp only [List.all_cons, List.all_nil, Bool.and_true, Bool.and_eq_true] at h
    exact val3 a b c h.1 h.2.1 h.2.2
  | _ :: _ :: _ :: _ :: _, h, _ => by simp at h
theorem get_list {s : ByteArray} {L : List UInt8} (e : s.data.toList = L) (k : Nat) (h : k < s.size) : (s[k]'h).toNat = (L.getD k 0).toNat := by
  subst e
  have h' : k < s.data.toList.length := by rw [Array.length_toList]; exact h
  rw [List.getD_eq_getElem?_getD, List.getElem?_eq_getElem h']
  simp
  rfl
theorem len_list (s : ByteArray) : s.data.toList.length = s.size := Array.length_toList

set_option maxRecDepth 100000 in
set_option maxHeartbeats 800000 in
theorem l2Number_core (s : ByteArray) (L : List UInt8) (e : s.data.toList = L) (w : World) (hb : s.size ≤ 1048576) :
    Calls Try.prog 85 #[.string s] w fun e w' => e = .returned (.int .i64 (optI (numOf L))) ∧ w' = w := by
  have hL : L.length = s.size := by rw [← e]; exact len_list s
  have EE := Hid.mk' e
  by_cases h1 : s.size < 1
  · rw [show numOf L = none from by unfold numOf; rw [if_neg (by omega)]]
    clear e
    go_enter Try.func85, Try.ntmps85
    go_wp2
    go_ret
    exact ⟨rfl, rfl⟩
  by_cases h2 : 3 < s.size
  · rw [show numOf L = none from by unfold numOf; rw [if_neg (by omega)]]
    clear e
    go_enter Try.func85, Try.ntmps85
    go_wp2
    go_ret
    exact ⟨rfl, rfl⟩
  have hg := get_list e
  clear e
  have h0 := hg 0 (by omega)
  by_cases h3 : (s[0]'(by omega)).toNat = 48
  · rw [show numOf L = none from by unfold numOf; rw [if_neg (by rw [← h0]; simp [h3])]]
    clear hg h0
    go_enter Try.func85, Try.ntmps85
    go_wp2
    go_ret
    exact ⟨rfl, rfl⟩
  have hn : numOf L = if L.all isD = true ∧ valF 0 L ≤ 255 then some (valF 0 L) else none := by unfold numOf; rw [if_pos ⟨⟨by omega, by omega⟩, by rw [← h0]; exact h3⟩]
  have HN := Hid.mk' hn
  have HG := Hid.mk' hg
  have i1 : ¬ ((s.size : Int) < 1) := by omega
  have i2 : ¬ (3 < (s.size : Int)) := by omega
  have i3 : (((s[0]'(by omega)).toNat : Int) == 48) = false := by rw [beq_eq_false_iff_ne]; omega
  clear h0 hg hn h3
  go_enter Try.func85, Try.ntmps85
  go_wp2
  clear i3
  go_loop [3, 4] (fun n i => ∃ k : Nat, k ≤ s.size ∧ i = .int .i64 k ∧ n = .int .i64 (valF 0 (L.take k) : Nat) ∧ (L.take k).all isD = true) (fun _ i => s.size - (intOf i).toNat)
  case atStart => exact ⟨0, Nat.zero_le _, rfl, rfl, rfl⟩
  case round =>
    obtain ⟨k, hk, rfl, rfl, hall⟩ := hrel
    by_cases hlt : k < s.size
    · have e1 := HG.out k hlt
      have V := Hid.mk' (valF_take L k (by omega))
      have A := Hid.mk' (all_take L k (by omega))
      have hv' := valF_small _ (by rw [List.length_take]; omega) hall
      have HA := Hid.mk' hall
      clear hall
      generalize valF 0 (L.take k) = v at *
      by_cases hd : 48 ≤ (s[k]'hlt).toNat ∧ (s[k]'hlt).toNat ≤ 57
      · have D := Hid.mk' (show isD (L.getD k 0) = true by unfold isD; rw [← e1]; simp only [hd.1, hd.2, decide_true, Bool.and_self])
        have E1 := Hid.mk' e1
        obtain ⟨hd1, hd2⟩ := hd
        clear e1
        go_wp2
        refine ⟨⟨k + 1, hlt, by simp, ?_, by rw [A.out, HA.out, D.out]; rfl⟩, by simp [intOf]; omega⟩
        rw [V.out, ← E1.out]
        congr 1
        omega
      · have D : Hid (L.all isD = false) := by
          have : isD (L.getD k 0) = false := by
            cases hq : isD (L.getD k 0) with
            | false => rfl
            | true => exact absurd (by have := isD_bd hq; rw [← e1] at this; exact this) hd
          cases hq : L.all isD with
          | false => rfl
          | true =>
            exfalso
            have hm : L.getD k 0 ∈ L := by
              rw [List.getD_eq_getElem?_getD, List.getElem?_eq_getElem (show k < L.length by omega)]
              exact List.getElem_mem _
            rw [List.all_eq_true.1 hq _ hm] at this
            cases this
        have hd' : (decide (((s[k]'hlt).toNat : Int) < 48) || decide (57 < ((s[k]'hlt).toNat : Int))) = true := by
          simp only [Bool.or_eq_true, decide_eq_true_eq]; omega
        clear e1 hd
        by_cases hd1 : ((s[k]'hlt).toNat : Int) < 48
        · clear hd'
          go_wp2
          go_ret
          rw [HN.out, if_neg (by rw [D.out]; simp)]
          exact ⟨rfl, rfl⟩
        · have hd2 : 57 < ((s[k]'hlt).toNat : Int) := by simpa [hd1] using hd'
          clear hd'
          go_wp2
          go_ret
          rw [HN.out, if_neg (by rw [D.out]; simp)]
          exact ⟨rfl, rfl⟩
    · have e : k = s.size := by omega
      subst e
      have ht : L.take s.size = L := by rw [← hL, List.take_length]
      rw [ht] at hall ⊢
      have HA := Hid.mk' hall
      have hv' := valF_small L (by omega) hall
      clear hall
      by_cases hq : valF 0 L ≤ 255
      · have Z := Hid.mk' (show numOf L = some (valF 0 L) by rw [HN.out, if_pos ⟨HA.out, hq⟩])
        generalize valF 0 L = v at *
        go_wp2
        go_ret
        rw [Z.out]
        exact ⟨rfl, rfl⟩
      · have Z := Hid.mk' (show numOf L = none by rw [HN.out, if_neg (fun h => hq h.2)])
        generalize valF 0 L = v at *
        go_wp2
        go_ret
        rw [Z.out]
        exact ⟨rfl, rfl⟩

theorem l2Number_any (s : ByteArray) (w : World) (hb : s.size ≤ 1048576) :
    Calls Try.prog 85 #[.string s] w fun e w' => e = .returned (.int .i64 (optI (numOf s.data.toList))) ∧ w' = w := l2Number_core s _ rfl w hb
end Go.Proofs.Ytlaeomnacgjcgaa

namespace Go.Proofs.Ytlaeomnacgjcgaa
open Go.RowKit

def namedOf (w : List UInt8) : Option Nat := if w = [108, 116] then some 60 else if w = [103, 116] then some 62 else if w = [97, 109, 112] then some 38 else if w = [113, 117, 111, 116] then some 34 else if 1 < w.length ∧ (w.getD 0 0).toNat = 35 then numOf (w.drop 1) else none
def semi : List UInt8 → Nat → Option Nat
  | _, 0 => none
  | [], _ + 1 => none
  | c :: r, n + 1 => if c.toNat = 59 then some 0 else (semi r n).map (· + 1)
def refOf : List UInt8 → Nat × Nat
  | [] => (0, 0)
  | c :: R => if c.toNat = 38 then (match semi R 5 with
      | some m => (match namedOf (R.take m) with
        | some b => (b, m + 2)
        | none => (0, 0))
      | none => (0, 0)) else (0, 0)

theorem semi_some : ∀ (R : List UInt8) (n m : Nat), m < n → m < R.length → (∀ j, j < m → ¬ (R.getD j 0).toNat = 59) → (R.getD m 0).toNat = 59 → semi R n = some m
  | _, 0, _, h, _, _, _ => absurd h (Nat.not_lt_zero _)
  | [], _ + 1, _, _, h, _, _ => absurd h (Nat.not_lt_zero _)
  | c :: r, n + 1, 0, _, _, _, h => by
    have h : c.toNat = 59 := h
    simp only [semi, h, if_true]
  | c :: r, n + 1, m + 1, h1, h2, hj, h => by
    have h0 : ¬ c.toNat = 59 := hj 0 (Nat.succ_pos _)
    have ih := semi_some r n m (Nat.lt_of_succ_lt_succ h1) (Nat.lt_of_succ_lt_succ h2) (fun j hjm => hj (j + 1) (Nat.succ_lt_succ hjm)) h
    simp only [semi, if_neg h0, ih, Option.map_some]
theorem semi_none : ∀ (R : List UInt8) (n : Nat), (∀ j, j < n → j < R.length → ¬ (R.getD j 0).toNat = 59) → semi R n = none
  | [], 0, _ => rfl
  | _ :: _, 0, _ => rfl
  | [], _ + 1, _ => rfl
  | c :: r, n + 1, hj => by
    have h0 : ¬ c.toNat = 59 := hj 0 (Nat.succ_pos _) (Nat.succ_pos _)
    have ih := semi_none r n (fun j h1 h2 => hj (j + 1) (Nat.succ_lt_succ h1) (Nat.succ_lt_succ h2))
    simp only [semi, if_neg h0, ih, Option.map_none]
theorem drop_cons (L : List UInt8) (k : Nat) (h : k < L.length) : L.drop k = L.getD k 0 :: L.drop (k + 1) := by
  rw [List.drop_eq_getElem_cons h, List.getD_eq_getElem?_getD, List.getElem?_eq_getElem h]; rfl
theorem getD_drop (L : List UInt8) (k j : Nat) : (L.drop k).getD j 0 = L.getD (k + j) 0 := by
  rw [List.getD_eq_getElem?_getD, List.getD_eq_getElem?_getD, List.getElem?_drop]
theorem ext_list (s : ByteArray) (a b : Nat) : (s.extract a b).data.toList = (s.data.toList.drop a).take (b - a) := by
  rw [ByteArray.data_extract]
  simp
theorem beq_list (s : ByteArray) (l : List UInt8) : (s.toList == l) = decide (s.data.toList = l) := by
  rw [ByteArray.toList_eq]
  by_cases h : s.data.toList = l <;> simp [h]

set_option maxRecDepth 100000 in
set_option maxHeartbeats 800000 in
theorem l2Named_any (s : ByteArray) (w : World) (hb : s.size ≤ 1048576) :
    Calls Try.prog 82 #[.string s] w fun e w' => e = .returned (.int .i64 (optI (namedOf s.data.toList))) ∧ w' = w := by
  have hL := len_list s
  have e1 := beq_list s [108, 116]
  have e2 := beq_list s [103, 116]
  have e3 := beq_list s [97, 109, 112]
  have e4 := beq_list s [113, 117, 111, 116]
  unfold namedOf
  by_cases d1 : s.data.toList = [108, 116]
  · rw [if_pos d1]
    rw [decide_eq_true d1] at e1
    clear d1 e2 e3 e4
    go_enter Try.func82, Try.ntmps82
    go_wp2_with fail
    go_ret
    exact ⟨rfl, rfl⟩
  rw [if_neg d1]
  rw [decide_eq_false d1] at e1
  by_cases d2 : s.data.toList = [103, 116]
  · rw [if_pos d2]
    rw [decide_eq_true d2] at e2
    clear d1 d2 e3 e4
    go_enter Try.func82, Try.ntmps82
    go_wp2_with fail
    go_ret
    exact ⟨rfl, rfl⟩
  rw [if_neg d2]
  rw [decide_eq_false d2] at e2
  by_cases d3 : s.data.toList = [97, 109, 112]
  · rw [if_pos d3]
    rw [decide_eq_true d3] at e3
    clear d1 d2 d3 e4
    go_enter Try.func82, Try.ntmps82
    go_wp2_with fail
    go_ret
    exact ⟨rfl, rfl⟩
  rw [if_neg d3]
  rw [decide_eq_false d3] at e3
  by_cases d4 : s.data.toList = [113, 117, 111, 116]
  · rw [if_pos d4]
    rw [decide_eq_true d4] at e4
    clear d1 d2 d3 d4
    go_enter Try.func82, Try.ntmps82
    go_wp2_with fail
    go_ret
    exact ⟨rfl, rfl⟩
  rw [if_neg d4]
  rw [decide_eq_false d4] at e4
  clear d1 d2 d3 d4
  by_cases d5 : 1 < s.size
  · have hg := get_list (s := s) rfl 0 (by omega)
    by_cases d6 : (s[0]'(by omega)).toNat = 35
    · rw [if_pos ⟨by omega, by rw [← hg]; exact d6⟩]
      have F := l2Number_any (s.extract 1 s.size) w (by rw [ByteArray.size_extract]; omega)
      rw [ext_list, List.take_of_length_le (by rw [List.length_drop]; omega)] at F
      have FF := Hid.mk' F
      have i5 : 1 < (s.size : Int) := by omega
      have i6 : (((s[0]'(by omega)).toNat : Int) == 35) = true := by rw [beq_iff_eq]; omega
      clear F hg d6
      go_enter Try.func82, Try.ntmps82
      go_wp2_with fail
      refine FF.out.mono ?_
      rintro e w1 ⟨rfl, rfl⟩
      go_wp2
      go_ret
      rw [List.drop_one]
      exact ⟨rfl, rfl⟩
    · rw [if_neg (by rw [← hg]; exact fun h => d6 h.2)]
      have i5 : 1 < (s.size : Int) := by omega
      have i6 : (((s[0]'(by omega)).toNat : Int) == 35) = false := by rw [beq_eq_false_iff_ne]; omega
      clear hg d6
      go_enter Try.func82, Try.ntmps82
      go_wp2_with fail
      go_ret
      exact ⟨rfl, rfl⟩
  · rw [if_neg (by omega)]
    have i5 : ¬ 1 < (s.size : Int) := by omega
    go_enter Try.func82, Try.ntmps82
    go_wp2_with fail
    go_ret
    exact ⟨rfl, rfl⟩

theorem refOf_not (L : List UInt8) (k : Nat) (h : k < L.length) (hc : ¬ (L.getD k 0).toNat = 38) : refOf (L.drop k) = (0, 0) := by
  rw [drop_cons L k h, refOf, if_neg hc]
theorem refOf_none (L : List UInt8) (k : Nat) (h : k < L.length) (hn : ∀ j, j < 5 → k + 1 + j < L.length → ¬ (L.getD (k + 1 + j) 0).toNat = 59) : refOf (L.drop k) = (0, 0) := by
  rw [drop_cons L k h, refOf]
  rw [semi_none _ 5 (fun j h1 h2 => by rw [List.length_drop] at h2; rw [getD_drop]; exact hn j h1 (by omega))]
  split <;> rfl
theorem refOf_some (L : List UInt8) (k m : Nat) (h : k + 1 + m < L.length) (hm : m < 5) (hc : (L.getD k 0).toNat = 38) (hj : ∀ j, j < m → ¬ (L.getD (k + 1 + j) 0).toNat = 59) (he : (L.getD (k + 1 + m) 0).toNat = 59) :
    refOf (L.drop k) = (match namedOf ((L.drop (k + 1)).take m) with
        | some b => (b, m + 2)
        | none => (0, 0)) := by
  rw [drop_cons L k (by omega), refOf, if_pos hc]
  rw [semi_some _ 5 m hm (by rw [List.length_drop]; omega) (fun j h1 => by rw [getD_drop]; exact hj j h1) (by rw [getD_drop]; exact he)]

set_option maxRecDepth 100000 in
set_option maxHeartbeats 1600000 in
theorem l2At_core (s : ByteArray) (L : List UInt8) (e : s.data.toList = L) (k : Nat) (w : World) (hb : s.size ≤ 1048576) (hk : k < s.size) :
    Calls Try.prog 78 #[.string s, .int .i64 k] w fun e w' => e = .returned (.tuple #[.int .i64 (refOf (L.drop k)).1, .int .i64 (refOf (L.drop k)).2]) ∧ w' = w := by
  have hL : L.length = s.size := by rw [← e]; exact len_list s
  have hg := get_list e
  have h0 := hg k hk
  have EE := Hid.mk' e
  clear e
  by_cases hc : (s[k]'hk).toNat = 38
  · have HC := Hid.mk' (show (L.getD k 0).toNat = 38 by rw [← h0]; exact hc)
    have HG := Hid.mk' hg
    have i3 : (((s[k]'hk).toNat : Int) != 38) = false := by rw [bne_eq_false_iff_eq]; omega
    clear hg h0 hc
    go_enter Try.func78, Try.ntmps78
    go_wp2
    clear i3
    go_loopw [6] (fun i wr => ∃ m : Nat, m ≤ 5 ∧ k + 1 + m ≤ s.size ∧ i = .int .i64 (k + 1 + m : Nat) ∧ (∀ j, j < m → ¬ (L.getD (k + 1 + j) 0).toNat = 59) ∧ wr = w) (fun i _ => k + 6 - (intOf i).toNat)
    case atStart => exact ⟨0, by decide, by omega, by simp, fun j h => absurd h (Nat.not_lt_zero _), rfl⟩
    case round =>
      obtain ⟨m, hm, hms, rfl, hn, rfl⟩ := hrel
      have HN := Hid.mk' hn
      clear hn
      by_cases hlt : k + 1 + m < s.size
      · by_cases hm5 : m < 5
        · have e1 := HG.out (k + 1 + m) hlt
          by_cases hs : (s[k + 1 + m]'hlt).toNat = 59
          · have Z := Hid.mk' (refOf_some L k m (by omega) hm5 HC.out HN.out (by rw [← e1]; exact hs))
            have F := l2Named_any (s.extract (k + 1) (k + 1 + m)) wr (by rw [ByteArray.size_extract]; omega)
            rw [ext_list, EE.out, show k + 1 + m - (k + 1) = m from by omega] at F
            have FF := Hid.mk' F
            have i3 : (((s[k + 1 + m]'hlt).toNat : Int) == 59) = true := by rw [beq_iff_eq]; omega
            have i4 : ((k + 1 + m : Nat) : Int) ≤ (k : Int) + 5 := by omega
            have i5 : ((k + 1 + m : Nat) : Int) + 1 - k = (m + 2 : Nat) := by omega
            have i6 : ((k + 1 + m : Nat) : Int) < s.size := by omega
            have i7 : k + 1 ≤ k + 1 + m := by omega
            clear F e1 hs
            generalize k + 1 + m = i at *
            go_wp2_with fail
            refine FF.out.mono ?_
            rintro e w1 ⟨rfl, rfl⟩
            clear FF
            cases hq : namedOf ((L.drop (k + 1)).take m) with
            | some b =>
              rw [hq] at Z
              have i8 : ¬ (optI (some b) < 0) := by show ¬ ((b : Int) < 0); omega
              go_wp2
              go_ret2
              rw [Z.out]
              exact ⟨rfl, rfl⟩
            | none =>
              rw [hq] at Z
              have i8 : optI none < 0 := by decide
              go_wp2
              go_ret2
              rw [Z.out]
              exact ⟨rfl, rfl⟩
          · have i3 : (((s[k + 1 + m]'hlt).toNat : Int) == 59) = false := by rw [beq_eq_false_iff_ne]; omega
            have i4 : ((k + 1 + m : Nat) : Int) ≤ (k : Int) + 5 := by omega
            have i6 : ((k + 1 + m : Nat) : Int) < s.size := by omega
            have N1 := Hid.mk' (show ∀ j, j < m + 1 → ¬ (L.getD (k + 1 + j) 0).toNat = 59 from fun j hj => by
              by_cases ej : j = m
              · subst ej; rw [← e1]; exact hs
              · exact HN.out j (by omega))
            have i9 : (k + 1 + m : Nat) + 1 = k + 1 + (m + 1) := by omega
            clear e1 hs
            go_wp2
            go_roundw
            case rel =>
              exact ⟨m + 1, hm5, by omega, by rw [← i9]; go_num, N1.out, trivial⟩
            case measure => simp [intOf]; omega
        · have e5 : m = 5 := by omega
          subst e5
          have Z := Hid.mk' (refOf_none L k (by omega) (fun j h1 _ => HN.out j h1))
          have i4 : ¬ ((k + 1 + 5 : Nat) : Int) ≤ (k : Int) + 5 := by omega
          have i6 : ((k + 1 + 5 : Nat) : Int) < s.size := by omega
          go_wp2
          go_ret2
          rw [Z.out]
          exact ⟨rfl, rfl⟩
      · have Z := Hid.mk' (refOf_none L k (by omega) (fun j h1 h2 => HN.out j (by omega)))
        have i6 : ¬ ((k + 1 + m : Nat) : Int) < s.size := by omega
        go_wp2
        go_ret2
        rw [Z.out]
        exact ⟨rfl, rfl⟩
  · have Z := Hid.mk' (refOf_not L k (by omega) (by rw [← h0]; exact hc))
    have i3 : (((s[k]'hk).toNat : Int) != 38) = true := by rw [bne_iff_ne]; omega
    clear hg h0 hc
    go_enter Try.func78, Try.ntmps78
    go_wp2
    go_ret2
    rw [Z.out]
    exact ⟨rfl, rfl⟩
end Go.Proofs.Ytlaeomnacgjcgaa
