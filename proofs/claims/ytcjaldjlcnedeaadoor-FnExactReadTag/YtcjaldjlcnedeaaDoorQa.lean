/- Walks: references read, the model's side. -/
import Derived.Test.YtcjaldjlcnedeaaDoorDe
import Derived.Lib.ParseIntB
namespace Go.Proofs.YtcjaldjlcnedeaaDoor
open Go.RowKit
set_option linter.unusedVariables false

def isD (c : UInt8) : Bool := decide (48 ≤ c.toNat) && decide (c.toNat ≤ 57)
def valF (acc : Nat) : List UInt8 → Nat
  | [] => acc
  | c :: r => valF (acc * 10 + (c.toNat - 48)) r
/-- The number of a reference's digits. -/
def numOf (d : List UInt8) : Option Nat := if (1 ≤ d.length ∧ d.length ≤ 3) ∧ ¬ (d.getD 0 0).toNat = 48 then (if d.all isD = true ∧ valF 0 d ≤ 255 then some (valF 0 d) else none) else none
def optI : Option Nat → Int
  | some n => n
  | none => -1

theorem valF_snoc : ∀ (l : List UInt8) (c : UInt8) (a : Nat), valF a (l ++ [c]) = valF a l * 10 + (c.toNat - 48)
  | [], c, a => rfl
  | x :: r, c, a => valF_snoc r c _
theorem take_snoc1 (l : List UInt8) (k : Nat) (h : k < l.length) : l.take (k + 1) = l.take k ++ [l.getD k 0] := by
  rw [List.take_add_one, List.getElem?_eq_getElem h, Option.toList_some]
  simp [List.getD_eq_getElem?_getD, List.getElem?_eq_getElem h]
theorem valF_take (l : List UInt8) (k : Nat) (h : k < l.length) : valF 0 (l.take (k + 1)) = valF 0 (l.take k) * 10 + ((l.getD k 0).toNat - 48) := by rw [take_snoc1 l k h, valF_snoc]
theorem all_take (l : List UInt8) (k : Nat) (h : k < l.length) : (l.take (k + 1)).all isD = ((l.take k).all isD && isD (l.getD k 0)) := by rw [take_snoc1 l k h]; simp
theorem isD_bd {c : UInt8} (h : isD c = true) : 48 ≤ c.toNat ∧ c.toNat ≤ 57 := by unfold isD at h; simpa using h
theorem val1 (a : UInt8) (h : isD a = true) : valF 0 [a] ≤ 999 := by
  have h := isD_bd h
  have e : valF 0 [a] = 0 * 10 + (a.toNat - 48) := rfl
  rw [e]
  omega
theorem val2 (a b : UInt8) (h : isD a = true) (k : isD b = true) : valF 0 [a, b] ≤ 999 := by
  have h := isD_bd h
  have k := isD_bd k
  have e : valF 0 [a, b] = (0 * 10 + (a.toNat - 48)) * 10 + (b.toNat - 48) := rfl
  rw [e]
  omega
theorem val3 (a b c : UInt8) (h : isD a = true) (k : isD b = true) (m : isD c = true) : valF 0 [a, b, c] ≤ 999 := by
  have h := isD_bd h
  have k := isD_bd k
  have m := isD_bd m
  have e : valF 0 [a, b, c] = ((0 * 10 + (a.toNat - 48)) * 10 + (b.toNat - 48)) * 10 + (c.toNat - 48) := rfl
  rw [e]
  omega
theorem valF_small : ∀ (l : List UInt8), l.length ≤ 3 → l.all isD = true → valF 0 l ≤ 999
  | [], _, _ => Nat.zero_le _
  | [a], _, h => val1 a (by simpa using h)
  | [a, b], _, h => by
    simp only [List.all_cons, List.all_nil, Bool.and_true, Bool.and_eq_true] at h
    exact val2 a b h.1 h.2
  | [a, b, c], _, h => by
    simp only [List.all_cons, List.all_nil, Bool.and_true, Bool.and_eq_true] at h
    exact val3 a b c h.1 h.2.1 h.2.2
  | _ :: _ :: _ :: _ :: _, h, _ => by simp at h
theorem get_list {s : ByteArray} {L : List UInt8} (e : s.data.toList = L) (k : Nat) (h : k < s.size) : (s[k]'h).toNat = (L.getD k 0).toNat := by
  subst e
  have h' : k < s.data.toList.length := by rw [Array.length_toList]; exact h
  rw [List.getD_eq_getElem?_getD, List.getElem?_eq_getElem h']
  simp
  rfl
theorem len_list (s : ByteArray) : s.data.toList.length = s.size := Array.length_toList

set_option maxRecDepth 100000 in
set_option maxHeartbeats 800000 in
theorem l2Number_core (s : ByteArray) (L : List UInt8) (e : s.data.toList = L) (w : World) (hb : s.size ≤ 1048576) :
    Calls Tryd.prog 95 #[.string s] w fun e w' => e = .returned (.int .i64 (optI (numOf L))) ∧ w' = w := by
  have hL : L.length = s.size := by rw [← e]; exact len_list s
  have EE := Hid.mk' e
  by_cases h1 : s.size < 1
  · rw [show numOf L = none from by unfold numOf; rw [if_neg (by omega)]]
    clear e
    go_enter Tryd.func95, Tryd.ntmps95
    go_wp2
    go_ret
    exact ⟨rfl, rfl⟩
  by_cases h2 : 3 < s.size
  · rw [show numOf L = none from by unfold numOf; rw [if_neg (by omega)]]
    clear e
    go_enter Tryd.func95, Tryd.ntmps95
    go_wp2
    go_ret
    exact ⟨rfl, rfl⟩
  have hg := get_list e
  clear e
  have h0 := hg 0 (by omega)
  by_cases h3 : (s[0]'(by omega)).toNat = 48
  · rw [show numOf L = none from by unfold numOf; rw [if_neg (by rw [← h0]; simp [h3])]]
    clear hg h0
    go_enter Tryd.func95, Tryd.ntmps95
    go_wp2
    go_ret
    exact ⟨rfl, rfl⟩
  have hn : numOf L = if L.all isD = true ∧ valF 0 L ≤ 255 then some (valF 0 L) else none := by unfold numOf; rw [if_pos ⟨⟨by omega, by omega⟩, by rw [← h0]; exact h3⟩]
  have HN := Hid.mk' hn
  have HG := Hid.mk' hg
  have i1 : ¬ ((s.size : Int) < 1) := by omega
  have i2 : ¬ (3 < (s.size : Int)) := by omega
  have i3 : (((s[0]'(by omega)).toNat : Int) == 48) = false := by rw [beq_eq_false_iff_ne]; omega
  clear h0 hg hn h3
  go_enter Tryd.func95, Tryd.ntmps95
  go_wp2
  clear i3
  go_loop [3, 4] (fun n i => ∃ k : Nat, k ≤ s.size ∧ i = .int .i64 k ∧ n = .int .i64 (valF 0 (L.take k) : Nat) ∧ (L.take k).all isD = true) (fun _ i => s.size - (intOf i).toNat)
  case atStart => exact ⟨0, Nat.zero_le _, rfl, rfl, rfl⟩
  case round =>
    obtain ⟨k, hk, rfl, rfl, hall⟩ := hrel
    by_cases hlt : k < s.size
    · have e1 := HG.out k hlt
      have V := Hid.mk' (valF_take L k (by omega))
      have A := Hid.mk' (all_take L k (by omega))
      have hv' := valF_small _ (by rw [List.length_take]; omega) hall
      have HA := Hid.mk' hall
      clear hall
      generalize valF 0 (L.take k) = v at *
      by_cases hd : 48 ≤ (s[k]'hlt).toNat ∧ (s[k]'hlt).toNat ≤ 57
      · have D := Hid.mk' (show isD (L.getD k 0) = true by unfold isD; rw [← e1]; simp only [hd.1, hd.2, decide_true, Bool.and_self])
        have E1 := Hid.mk' e1
        obtain ⟨hd1, hd2⟩ := hd
        clear e1
        go_wp2
        refine ⟨⟨k + 1, hlt, by simp, ?_, by rw [A.out, HA.out, D.out]; rfl⟩, by simp [intOf]; omega⟩
        rw [V.out, ← E1.out]
        congr 1
        omega
      · have D : Hid (L.all isD = false) := by
          have : isD (L.getD k 0) = false := by
            cases hq : isD (L.getD k 0) with
            | false => rfl
            | true => exact absurd (by have := isD_bd hq; rw [← e1] at this; exact this) hd
          cases hq : L.all isD with
          | false => rfl
          | true =>
            exfalso
            have hm : L.getD k 0 ∈ L := by
              rw [List.getD_eq_getElem?_getD, List.getElem?_eq_getElem (show k < L.length by omega)]
              exact List.getElem_mem _
            rw [List.all_eq_true.1 hq _ hm] at this
            cases this
        have hd' : (decide (((s[k]'hlt).toNat : Int) < 48) || decide (57 < ((s[k]'hlt).toNat : Int))) = true := by
          simp only [Bool.or_eq_true, decide_eq_true_eq]; omega
        clear e1 hd
        by_cases hd1 : ((s[k]'hlt).toNat : Int) < 48
        · clear hd'
          go_wp2
          go_ret
          rw [HN.out, if_neg (by rw [D.out]; simp)]
          exact ⟨rfl, rfl⟩
        · have hd2 : 57 < ((s[k]'hlt).toNat : Int) := by simpa [hd1] using hd'
          clear hd'
          go_wp2
          go_ret
          rw [HN.out, if_neg (by rw [D.out]; simp)]
          exact ⟨rfl, rfl⟩
    · have e : k = s.size := by omega
      subst e
      have ht : L.take s.size = L := by rw [← hL, List.take_length]
      rw [ht] at hall ⊢
      have HA := Hid.mk' hall
      have hv' := valF_small L (by omega) hall
      clear hall
      by_cases hq : valF 0 L ≤ 255
      · have Z := Hid.mk' (show numOf L = some (valF 0 L) by rw [HN.out, if_pos ⟨HA.out, hq⟩])
        generalize valF 0 L = v at *
        go_wp2
        go_ret
        rw [Z.out]
        exact ⟨rfl, rfl⟩
      · have Z := Hid.mk' (show numOf L = none by rw [HN.out, if_neg (fun h => hq h.2)])
        generalize valF 0 L = v at *
        go_wp2
        go_ret
        rw [Z.out]
        exact ⟨rfl, rfl⟩

theorem l2Number_any (s : ByteArray) (w : World) (hb : s.size ≤ 1048576) :
    Calls Tryd.prog 95 #[.string s] w fun e w' => e = .returned (.int .i64 (optI (numOf s.data.toList))) ∧ w' = w := l2Number_core s _ rfl w hb
end Go.Proofs.YtcjaldjlcnedeaaDoor
