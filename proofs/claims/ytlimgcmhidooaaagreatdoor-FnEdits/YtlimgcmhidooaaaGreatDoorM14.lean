/- The program's side: attributes that stand twice are found by a map. -/
import Derived.Test.YtlimgcmhidooaaaGreatDoorM13
import Derived.Maps.OwnSet
import Derived.Maps.AppendAt
import Derived.SliceStrings
import Derived.Test.YtlimgcmhidooaaaGreatDoorM3
import Derived.Test.YtlimgcmhidooaaaGreatDoorM8
import Derived.Test.YtlimgcmhidooaaaGreatDoorM11
set_option maxHeartbeats 1600000
set_option maxRecDepth 100000
set_option linter.unusedVariables false
set_option linter.unusedSimpArgs false
namespace Go.Proofs.YtlimgcmhidooaaaGreatDoor
open Go.RowKit Go.Maps
theorem toList_loop (s : ByteArray) : ∀ (n i : Nat) (r : List UInt8), s.size - i = n → ByteArray.toList.loop s i r = r.reverse ++ s.data.toList.drop i := by
 intro n
 induction n with
 | zero =>
  intro i r h
  rw [ByteArray.toList.loop, if_neg (by omega)]
  have h2 : s.data.toList.length ≤ i := by
   have : s.data.toList.length = s.size := by simp
   omega
  rw [List.drop_eq_nil_of_le h2, List.append_nil]
 | succ n ih =>
  intro i r h
  have hi : i < s.size := by omega
  rw [ByteArray.toList.loop, if_pos hi, ih (i + 1) _ (by omega)]
  have h2 : i < s.data.toList.length := by
   have : s.data.toList.length = s.size := by simp
   omega
  rw [List.drop_eq_getElem_cons h2, List.reverse_cons, List.append_assoc]
  congr 1
  show [s.get! i] ++ _ = _
  have e : s.get! i = s.data.toList[i] := by
   show s.data[i]! = _
   rw [getElem!_pos s.data i (by simpa using h2)]
   simp
  rw [e]; rfl
theorem toList_data (s : ByteArray) : s.toList = s.data.toList := by
 unfold ByteArray.toList
 rw [toList_loop s _ 0 [] rfl]
 simp

end Go.Proofs.YtlimgcmhidooaaaGreatDoor

namespace Go.Proofs.YtlimgcmhidooaaaGreatDoor
open Go.RowKit
theorem cells3 {w : World} {g : Nat} {ty : TypeId} {x y z : Value} (h : w.rowIs g ty 3 (r3 x y z)) : w.cell? ⟨g, 0, none⟩ = some x ∧ w.cell? ⟨g, 1, none⟩ = some y ∧ w.cell? ⟨g, 2, none⟩ = some z ∧ g < w.heap.size :=
 ⟨h.cell (by omega), h.cell (by omega), h.cell (by omega), h.lt⟩
theorem ret_num {a b : Int} (h : a = b) : Ending.returned (.int .i64 a) = .returned (.int .i64 b) := by rw [h]
theorem l1Copy_own (a : Option Addr) (c : Nat) (l : List Int) (w : World) (ha : BAt w a l) (hl : (l.length : Int) ≤ 1048576) :
  Calls Tryz.prog 51 #[.slice a l.length c] w fun e w' => ∃ v, e = .returned v ∧ w'.ownsRow w.heap.size 5 1 v l.length (bcs l) ∧ Below w.heap.size w w' := by
 have B0 := below_new w (.cells #[] 5)
 go_enter Tryz.func51, Tryz.ntmps51
 go_wp2_with (at_builtin; refine wpList_append_any _ rfl (.tmp 3) (.tmp 4) 22 rfl w.heap.size 5 (.int .u8 0) 1 1 Tryz.underlying22 Tryz.info5 rfl (by decide) _ 0 [] rfl (World.ownsRow_lit w #[] 0 (Nat.le_refl _) (by decide) rfl) a l.length c (bcs l) rfl (bcs_len l) (ha.below B0).src (bcs_one l) (by unfold maxLen; omega) (by omega) (by simp) ?_; intro v' w1 hown hgr)
 go_ret
 rw [Nat.zero_add, List.nil_append] at hown
 refine ⟨_, rfl, hown, B0.grown hgr (by simp) (fun k hk => ?_)⟩
 simp [Act.eval, Value.ownBlock] at hk
 omega
theorem joinBytes_nil (a b : Option Addr) (c d : Nat) (l : List Int) (w : World) (ha : BAt w a l) (hl : (l.length : Int) ≤ 2097152) :
  Calls Tryz.prog 94 #[.slice a l.length c, .slice b 0 d] w fun e w' => ∃ g, e = .returned (.slice (some ⟨g, 0, none⟩) l.length l.length) ∧ w.heap.size ≤ g ∧ w'.rowIs g 5 l.length (bv l) ∧ Below w.heap.size w w' := by
 have hmk := run_make_row' (P := Tryz.prog) 22 5 (.int .u8 0) 1 Tryz.underlying22 Tryz.info5 rfl .i64 .i64 l.length (by omega) (by omega)
 have B0 := below_new w (.cells (madeCells #[.int .u8 0] l.length) 5)
 have R0 := World.rowIs_made w (.int .u8 0) l.length 5
 obtain ⟨w1, hcp1, hr1, hk1⟩ := copy_row (P := Tryz.prog) 22 22 3 Tryz.underlying22 (by kernel_rfl) 0 l.length l.length R0 a c l (ha.below B0) (by omega) (by omega)
 have hcp2 := run_copy_none (P := Tryz.prog) w1 22 22 3 5 (some ⟨w.heap.size, 0, none⟩) b 0 0 0 d Tryz.underlying22 (by kernel_rfl) (by simp)
 have B1 := Hid.mk' (B0.trans (hk1.below (Nat.le_refl _) (by simp)))
 have R1 := Hid.mk' hr1
 clear hr1 hk1 B0 R0 ha
 go_enter Tryz.func94, Tryz.ntmps94
 go_wp2
 go_ret
 exact ⟨_, rfl, Nat.le_refl _, R1.out.congr (fun j hj => by rw [if_pos (by omega), Nat.sub_zero]), B1.out⟩
theorem copyBytes_any (a : Option Addr) (c : Nat) (l : List Int) (w : World) (ha : BAt w a l) (hl : (l.length : Int) ≤ 1048576) :
  Calls Tryz.prog 63 #[.slice a l.length c] w fun e w' => ∃ g, e = .returned (.slice (some ⟨g, 0, none⟩) l.length l.length) ∧ w.heap.size ≤ g ∧ w'.rowIs g 5 l.length (bv l) ∧ Below w.heap.size w w' := by
 have K := Hid.mk' (joinBytes_nil a none c 0 l w ha (by omega))
 go_enter Tryz.func63, Tryz.ntmps63
 go_wp2_with fail
 refine K.out.mono ?_
 rintro e w1 ⟨g, rfl, h1, h2, h3⟩
 have H1 := Hid.mk' h2
 have H2 := Hid.mk' h3
 clear K h2 h3
 go_wp2
 go_ret
 exact ⟨g, rfl, h1, H1.out, H2.out⟩
theorem ob_of_row {w : World} {g n : Nat} {l : List Int} (e : l.length = n) (h : w.rowIs g 5 n (bv l)) : OB w (.slice (some ⟨g, 0, none⟩) n n) l := by
 subst e; exact .inr ⟨g, _, _, _, rfl, Nat.le_refl _, h, Nat.le_refl _, fun _ _ => rfl⟩
theorem placeOf_any (a : Option Addr) (c : Nat) (l : List AT) (s : ByteArray) (w : World) (ha : AAt w a l) (hl : (l.length : Int) ≤ 1048576) :
  Calls Tryz.prog 160 #[.slice a l.length c, .string s] w fun e w' => e = .returned (.int .i64 (posK l s)) ∧ Below w.heap.size w w' := by
 have HA := Hid.mk' ha
 clear ha
 go_enter Tryz.func160, Tryz.ntmps160
 go_wp2
 go_loopw [9] (fun i wr => ∃ k : Nat, k ≤ l.length ∧ i = .int .i64 k ∧ (∀ j, j < k → ((atK l j).nm.toList == s.toList) = false) ∧ Below w.heap.size w wr) (fun i _ => l.length - (intOf i).toNat)
 case atStart => exact ⟨0, Nat.zero_le _, rfl, fun j h => absurd h (Nat.not_lt_zero _), Below.refl _ _⟩
 case round =>
  obtain ⟨k, hk, rfl, hn, hbl⟩ := hrel
  have HN := Hid.mk' hn
  have HB := Hid.mk' hbl
  by_cases hlt : k < l.length
  ·have ci : (k : Int) < (l.length : Int) := by omega
   rcases HA.out.below hbl with ha | ⟨b, o, rfl, hbs, hc⟩
   ·exact absurd hlt (by rw [ha]; exact Nat.not_lt_zero _)
   obtain ⟨h1, p, d, h2, _⟩ := hc k hlt
   clear hc hn hbl
   cases e : ((atK l k).nm.toList == s.toList) with
   | true =>
    go_wp2
    go_ret
    refine ⟨?_, HB.out.alloc HB.out.size _⟩
    unfold posK
    rw [posFrom_found l s 0 k hlt HN.out e, Nat.zero_add]
    rfl
   | false =>
    go_wp2
    go_roundw
    case rel => exact ⟨k + 1, by omega, by go_num, fun j hj => by
     by_cases h : j = k
     ·subst h; exact e
     ·exact HN.out j (by omega), HB.out.alloc HB.out.size _⟩
    case measure => simp [intOf]; omega
  ·have ci : ¬ (k : Int) < (l.length : Int) := by omega
   have e : k = l.length := by omega
   subst e
   go_wp2
   go_ret
   refine ⟨?_, HB.out⟩
   unfold posK
   rw [posFrom_none l s 0 HN.out]
   rfl
def spn (p : UInt8 → Bool) : List UInt8 → Nat
 | [] => 0
 | c :: r => if p c = true then spn p r + 1 else 0
theorem spn_le (p : UInt8 → Bool) : ∀ L, spn p L ≤ L.length
 | [] => Nat.le_refl _
 | c :: r => by
  have := spn_le p r
  simp only [spn, List.length_cons]; split <;> omega
theorem spn_all (p : UInt8 → Bool) : ∀ (L : List UInt8) (j : Nat), j < spn p L → p (L.getD j 0) = true
 | [], j, h => by simp [spn] at h
 | c :: r, j, h => by
  unfold spn at h
  split at h
  ·cases j with
   | zero => simpa
   | succ j => simpa using spn_all p r j (by omega)
  ·omega
theorem spn_end (p : UInt8 → Bool) : ∀ (L : List UInt8), spn p L < L.length → p (L.getD (spn p L) 0) = false
 | [], h => by simp [spn] at h
 | c :: r, h => by
  unfold spn at h ⊢
  split
  ·rename_i hc
   rw [if_pos hc] at h
   simpa using spn_end p r (by simpa using h)
  ·rename_i hc
   simpa using hc
theorem spn_uniq (p : UInt8 → Bool) : ∀ (L : List UInt8) (k : Nat), k ≤ L.length → (∀ j, j < k → p (L.getD j 0) = true) → (k < L.length → p (L.getD k 0) = false) → spn p L = k
 | [], k, h, _, _ => by simp at h; subst h; rfl
 | c :: r, 0, h, _, h2 => by
  have := h2 (by simp)
  unfold spn
  rw [if_neg (by simpa using this)]
 | c :: r, k + 1, h, h1, h2 => by
  have hc := h1 0 (by omega)
  unfold spn
  rw [if_pos (by simpa using hc), spn_uniq p r k (by simpa using h) (fun j hj => by simpa using h1 (j + 1) (by omega)) (fun hk => by simpa using h2 (by simpa using hk))]
def pL (c : UInt8) : Bool := ltrB c.toNat
def pB (c : UInt8) : Bool := decide (c.toNat = 32)
def pQ (c : UInt8) : Bool := !decide (c.toNat = 34)
def attrA (L : List UInt8) : Option (AT × Nat) :=
 if ((1 ≤ spn pL L ∧ spn pL L ≤ 8) ∧ spn pL L + 1 < L.length) ∧ ((L.getD (spn pL L) 0).toNat = 61 ∧ (L.getD (spn pL L + 1) 0).toNat = 34) then
  (if spn pL L + 2 + spn pQ (L.drop (spn pL L + 2)) < L.length then some (⟨⟨(L.take (spn pL L)).toArray⟩, decode ((L.drop (spn pL L + 2)).take (spn pQ (L.drop (spn pL L + 2))))⟩, spn pL L + 2 + spn pQ (L.drop (spn pL L + 2)) + 1) else none)
 else none
def addA (l : List AT) (a : AT) : List AT := if 0 ≤ posK l a.nm then l else l ++ [a]
def insideA : Nat → List UInt8 → List AT → Option (List AT × Bool)
 | 0, _, _ => none
 | f + 1, L, acc =>
  if ((L.drop (spn pB L)).getD 0 0).toNat = 47 then (if L.drop (spn pB L + 1) = [62] then some (acc, true) else none)
  else if ((L.drop (spn pB L)).getD 0 0).toNat = 62 then (if L.drop (spn pB L) = [62] then some (acc, false) else none)
  else if spn pB L = 0 then none
  else match attrA (L.drop (spn pB L)) with
   | none => none
   | some (a, n) => insideA f (L.drop (spn pB L + n)) (addA acc a)
def tagA (L : List UInt8) : Option TK :=
 if (L.getD 0 0).toNat = 60 then
  (if Lib.hasPrefix (L.drop 1) [33, 45, 45] = true then (if Lib.hasSuffix (L.drop 4) [45, 45, 62] = true then some ⟨4, 0, ⟨#[]⟩, [], false⟩ else none)
  else if (L.getD 1 0).toNat = 47 then (if (1 ≤ spn pL (L.drop 2) ∧ spn pL (L.drop 2) ≤ 8) ∧ L.drop (2 + spn pL (L.drop 2)) = [62] then some ⟨3, 0, ⟨((L.drop 2).take (spn pL (L.drop 2))).toArray⟩, [], false⟩ else none)
  else if 1 ≤ spn pL (L.drop 1) ∧ spn pL (L.drop 1) ≤ 8 then
   (match insideA (L.length + 1) (L.drop (1 + spn pL (L.drop 1))) [] with
   | none => none
   | some (l, sh) => some ⟨2, 0, ⟨((L.drop 1).take (spn pL (L.drop 1))).toArray⟩, l, sh⟩)
  else none)
 else none
theorem one_left (L : List UInt8) (k : Nat) : L.drop k = [62] ↔ k + 1 = L.length ∧ (L.getD k 0).toNat = 62 := by
 constructor
 ·intro h
  have hl := congrArg List.length h
  simp only [List.length_drop, List.length_cons, List.length_nil] at hl
  refine ⟨by omega, ?_⟩
  have : (L.drop k).getD 0 0 = 62 := by rw [h]; rfl
  rw [getD_drop] at this
  simp only [Nat.add_zero] at this
  rw [this]; rfl
 ·rintro ⟨h1, h2⟩
  rw [drop_cons L k (by omega), List.drop_of_length_le (by omega)]
  have : L.getD k 0 = 62 := UInt8.toNat_inj.1 (by rw [h2]; rfl)
  rw [this]
theorem attrA_len {L : List UInt8} {a : AT} {n : Nat} (h : attrA L = some (a, n)) : 3 ≤ n ∧ n ≤ L.length ∧ a.nm.size ≤ 8 ∧ a.nm.size + a.vl.length ≤ L.length := by
 unfold attrA at h
 split at h
 ·rename_i hc
  split at h
  ·rename_i hq
   simp only [Option.some.injEq, Prod.mk.injEq] at h
   obtain ⟨rfl, rfl⟩ := h
   have e1 : (⟨(L.take (spn pL L)).toArray⟩ : ByteArray).size = spn pL L := by simp [ByteArray.size]; omega
   have e2 : (decode ((L.drop (spn pL L + 2)).take (spn pQ (L.drop (spn pL L + 2))))).length ≤ spn pQ (L.drop (spn pL L + 2)) := by
    refine Nat.le_trans (dec_len _ _) ?_
    simp
    omega
   refine ⟨by omega, by omega, by rw [e1]; omega, ?_⟩
   show (⟨(L.take (spn pL L)).toArray⟩ : ByteArray).size + (decode ((L.drop (spn pL L + 2)).take (spn pQ (L.drop (spn pL L + 2))))).length ≤ L.length
   rw [e1]; omega
  ·cases h
 ·cases h
theorem spn_zero_of {p : UInt8 → Bool} {L : List UInt8} (h : p (L.getD 0 0) = false) : spn p L = 0 :=
 spn_uniq p L 0 (Nat.zero_le _) (fun j hj => absurd hj (Nat.not_lt_zero _)) (fun _ => h)
theorem inside_blank {f : Nat} {L : List UInt8} {acc : List AT} (h : pL ((L.drop (spn pB L)).getD 0 0) = false) : insideA (f + 1) (L.drop (spn pB L)) acc = insideA (f + 1) L acc := by
 have hz : spn pB (L.drop (spn pB L)) = 0 := by
  by_cases hl : spn pB L < L.length
  ·refine spn_zero_of ?_
   rw [getD_drop, Nat.add_zero]
   exact spn_end pB L hl
  ·rw [List.drop_of_length_le (by omega)]; rfl
 have ha : attrA (L.drop (spn pB L)) = none := by
  unfold attrA
  rw [spn_zero_of h, if_neg (by omega)]
 unfold insideA
 rw [hz]
 simp only [List.drop_drop, Nat.add_zero, ha, if_true]
 split
 ·rfl
 ·split
  ·rfl
  ·split <;> rfl
theorem spn_from {p : UInt8 → Bool} {L : List UInt8} {k m : Nat} (h1 : k ≤ m) (h2 : m ≤ L.length) (h3 : ∀ j, k ≤ j → j < m → p (L.getD j 0) = true) (h4 : m < L.length → p (L.getD m 0) = false) : k + spn p (L.drop k) = m := by
 have : spn p (L.drop k) = m - k := spn_uniq p _ _ (by simp; omega) (fun j hj => by rw [getD_drop]; exact h3 _ (by omega) (by omega)) (fun hk => by
  rw [getD_drop, show k + (m - k) = m from by omega]
  exact h4 (by simp at hk; omega))
 omega
theorem l4NameEnd_any (s : ByteArray) (k : Nat) (w : World) (hs : s.size ≤ 1048576) (hk : k ≤ s.size) :
  Calls Tryz.prog 149 #[.string s, .int .i64 k] w fun e w' => e = .returned (.int .i64 ((k + spn pL (s.data.toList.drop k) : Nat) : Int)) ∧ w' = w := by
 have hl := len_list s
 go_enter Tryz.func149, Tryz.ntmps149
 go_wp2
 go_loopw [1] (fun i wr => ∃ m : Nat, k ≤ m ∧ m ≤ s.size ∧ i = .int .i64 m ∧ (∀ j, k ≤ j → j < m → pL (s.data.toList.getD j 0) = true) ∧ wr = w) (fun i _ => s.size - (intOf i).toNat)
 case atStart => exact ⟨k, Nat.le_refl _, hk, rfl, fun j h1 h2 => by omega, rfl⟩
 case round =>
  obtain ⟨m, h1, h2, rfl, hn, rfl⟩ := hrel
  have HN := Hid.mk' hn
  clear hn
  by_cases hlt : m < s.size
  ·have ci : (m : Int) < (s.size : Int) := by omega
   have G : Hid ((s[m]'hlt).toNat = (s.data.toList.getD m 0).toNat) := Hid.mk' (get_list rfl m hlt)
   have K := letter_any (s[m]'hlt).toNat
   cases hc : ltrB (s[m]'hlt).toNat with
   | true =>
    rw [hc] at K
    have HC : Hid (pL (s.data.toList.getD m 0) = true) := Hid.mk' (by unfold pL; rw [← G.out]; exact hc)
    have K := Hid.mk' (K wr)
    clear hc G
    go_wp2_with (first | go_big_skip | (go_at_call 120; refine K.out.mono ?_; rintro e w1 ⟨rfl, rfl⟩))
    go_roundw
    case rel => exact ⟨m + 1, by omega, by omega, by go_num, fun j a b => by
     by_cases h : j = m
     ·subst h; exact HC.out
     ·exact HN.out j a (by omega), by first | rfl | trivial⟩
    case measure => simp [intOf]; omega
   | false =>
    rw [hc] at K
    have HC : Hid (pL (s.data.toList.getD m 0) = false) := Hid.mk' (by unfold pL; rw [← G.out]; exact hc)
    have K := Hid.mk' (K wr)
    have E : Hid (k + spn pL (s.data.toList.drop k) = m) := Hid.mk' (spn_from h1 (by omega) HN.out (fun _ => HC.out))
    clear hc G
    go_wp2_with (first | go_big_skip | (go_at_call 120; refine K.out.mono ?_; rintro e w1 ⟨rfl, rfl⟩))
    go_ret
    exact ⟨ret_num (a := (m : Int)) (by have := E.out; omega), by first | rfl | trivial⟩
  ·have ci : ¬ (m : Int) < (s.size : Int) := by omega
   have E : Hid (k + spn pL (s.data.toList.drop k) = m) := Hid.mk' (spn_from h1 (by omega) HN.out (fun h => by omega))
   go_wp2_with go_big_skip
   go_ret
   exact ⟨ret_num (a := (m : Int)) (by have := E.out; omega), by first | rfl | trivial⟩
theorem l4Blanks_any (s : ByteArray) (k : Nat) (w : World) (hs : s.size ≤ 1048576) (hk : k ≤ s.size) :
  Calls Tryz.prog 150 #[.string s, .int .i64 k] w fun e w' => e = .returned (.int .i64 ((k + spn pB (s.data.toList.drop k) : Nat) : Int)) ∧ w' = w := by
 have hl := len_list s
 go_enter Tryz.func150, Tryz.ntmps150
 go_wp2
 go_loopw [1] (fun i wr => ∃ m : Nat, k ≤ m ∧ m ≤ s.size ∧ i = .int .i64 m ∧ (∀ j, k ≤ j → j < m → pB (s.data.toList.getD j 0) = true) ∧ wr = w) (fun i _ => s.size - (intOf i).toNat)
 case atStart => exact ⟨k, Nat.le_refl _, hk, rfl, fun j h1 h2 => by omega, rfl⟩
 case round =>
  obtain ⟨m, h1, h2, rfl, hn, rfl⟩ := hrel
  have HN := Hid.mk' hn
  clear hn
  by_cases hlt : m < s.size
  ·have ci : (m : Int) < (s.size : Int) := by omega
   have G : Hid ((s[m]'hlt).toNat = (s.data.toList.getD m 0).toNat) := Hid.mk' (get_list rfl m hlt)
   by_cases hc : (s[m]'hlt).toNat = 32
   ·have HC : Hid (pB (s.data.toList.getD m 0) = true) := Hid.mk' (by unfold pB; rw [← G.out]; simpa using hc)
    have hc' : ((s[m]'hlt).toNat : Int) = 32 := by omega
    clear G hc
    go_wp2_with go_big_skip
    go_roundw
    case rel => exact ⟨m + 1, by omega, by omega, by go_num, fun j a b => by
     by_cases h : j = m
     ·subst h; exact HC.out
     ·exact HN.out j a (by omega), by first | rfl | trivial⟩
    case measure => simp [intOf]; omega
   ·have HC : Hid (pB (s.data.toList.getD m 0) = false) := Hid.mk' (by unfold pB; rw [← G.out]; simpa using hc)
    have E : Hid (k + spn pB (s.data.toList.drop k) = m) := Hid.mk' (spn_from h1 (by omega) HN.out (fun _ => HC.out))
    have hc' : ¬ ((s[m]'hlt).toNat : Int) = 32 := by omega
    clear G hc
    go_wp2_with go_big_skip
    go_ret
    exact ⟨ret_num (a := (m : Int)) (by have := E.out; omega), by first | rfl | trivial⟩
  ·have ci : ¬ (m : Int) < (s.size : Int) := by omega
   have E : Hid (k + spn pB (s.data.toList.drop k) = m) := Hid.mk' (spn_from h1 (by omega) HN.out (fun h => by omega))
   go_wp2_with go_big_skip
   go_ret
   exact ⟨ret_num (a := (m : Int)) (by have := E.out; omega), by first | rfl | trivial⟩
theorem take_all (L : List UInt8) : ∀ c ∈ L.take (spn pL L), ltrB c.toNat = true := by
 intro c hc
 obtain ⟨i, hi, rfl⟩ := List.mem_iff_getElem.1 hc
 have hi' : i < spn pL L ∧ i < L.length := by simp at hi; omega
 have := spn_all pL L i hi'.1
 rw [List.getElem_take]
 simpa [pL, List.getD_eq_getElem?_getD, List.getElem?_eq_getElem hi'.2] using this
theorem nmB_take (s : ByteArray) (L : List UInt8) (h : s.data.toList = L.take (spn pL L)) : nmB s = (decide (1 ≤ spn pL L) && decide (spn pL L ≤ 8)) := by
 have hs : s.size = spn pL L := by
  rw [← len_list, h, List.length_take]
  have := spn_le pL L
  omega
 unfold nmB
 rw [hs, h, List.all_eq_true.2 (fun c hc => take_all L c hc), Bool.and_true]
theorem ba_ext {a b : ByteArray} (h : a.data.toList = b.data.toList) : a = b := by
 apply ByteArray.ext
 exact Array.toList_inj.1 h
theorem ext_size (s : ByteArray) (a b : Nat) : (s.extract a b).size ≤ s.size := by simp; omega
theorem own_shape {w : World} {base : Nat} {e : TypeId} {size : Nat} {v : Value} {n : Nat} {xs : List Value} (h : w.ownsRow base e size v n xs) : ∃ a c, v = .slice a n c := by
 rcases h.2 with ⟨hv, h0⟩ | ⟨g, cap, cur, hv, _⟩
 ·exact ⟨none, 0, by rw [hv, h0]⟩
 ·exact ⟨_, _, hv⟩
theorem own_of {w w' : World} {base base' : Nat} {e : TypeId} {size : Nat} {v : Value} {n : Nat} {xs : List Value} (h : w.ownsRow base e size v n xs) (hb : base' ≤ base) (hk : ∀ k, v.ownBlock = some k → base ≤ k → w'.heap[k]? = w.heap[k]?) : w'.ownsRow base' e size v n xs := by
 refine ⟨h.1, ?_⟩
 rcases h.2 with h0 | ⟨g, cap, cur, rfl, hg, hh, r⟩
 ·exact .inl h0
 ·exact .inr ⟨g, cap, cur, rfl, Nat.le_trans hb hg, by rw [hk g rfl hg]; exact hh, r⟩
theorem own_set {w : World} {base base' : Nat} {e : TypeId} {size : Nat} {v : Value} {n : Nat} {xs : List Value} (h : w.ownsRow base e size v n xs) (hb : base' ≤ base) {p : Addr} (hp : p.block < base) (u : Value) : (w.setCell p u).ownsRow base' e size v n xs :=
 own_of h hb fun k _ hk => Deep.blk_setCell_other _ _ _ _ (by omega)
def AttrP (r : Option (AT × Nat)) (k : Nat) (w : World) (e : Ending) (w' : World) : Prop := (match r with
      | none => e = .returned (.tuple #[.agg #[.string ⟨#[]⟩, .slice none 0 0], .int .i64 (-1)])
      | some (a, n) => ∃ u, e = .returned (.tuple #[.agg #[.string a.nm, u], .int .i64 ((k + n : Nat) : Int)]) ∧ w'.ownsRow w.heap.size 5 1 u a.vl.length (bcs a.vl)) ∧ Below w.heap.size w w'
theorem AttrP.no {r : Option (AT × Nat)} {k : Nat} {w w' : World} (h : r = none) (hb : Below w.heap.size w w') : AttrP r k w (.returned (.tuple #[.agg #[.string ⟨#[]⟩, .slice none 0 0], .int .i64 (-1)])) w' := by
 subst h; exact ⟨rfl, hb⟩
theorem l4Attr_any (s : ByteArray) (k : Nat) (w : World) (hs : s.size ≤ 1000) (hk : k ≤ s.size) :
  Calls Tryz.prog 151 #[.string s, .int .i64 k] w fun e w' => AttrP (attrA (s.data.toList.drop k)) k w e w' := by
 have hl := len_list s
 have B0 := (Below.refl w.heap.size w).alloc (Nat.le_refl _) (.cells #[.string ⟨#[]⟩, .slice none 0 0] 139)
 have HB := Hid.mk' B0
 clear B0
 generalize hn : spn pL (s.data.toList.drop k) = n
 have nle : k + n ≤ s.size := by
  have := spn_le pL (s.data.toList.drop k)
  rw [hn, List.length_drop] at this
  omega
 have KE := l4NameEnd_any s k (w.alloc (.cells #[.string ⟨#[]⟩, .slice none 0 0] 139)) (by omega) hk
 rw [hn] at KE
 have KE := Hid.mk' KE
 have NB : nmB (s.extract k (k + n)) = (decide (1 ≤ n) && decide (n ≤ 8)) := by
  rw [← hn]; exact nmB_take _ _ (by rw [ext_list, hn, show k + n - k = n from by omega])
 have KN := l4Name_any (s.extract k (k + n)) (w.alloc (.cells #[.string ⟨#[]⟩, .slice none 0 0] 139)) (by have := ext_size s k (k + n); omega)
 rw [NB] at KN
 clear NB
 have AN : Hid (¬ (((1 ≤ n ∧ n ≤ 8) ∧ k + n + 1 < s.size) ∧ ((s.data.toList.getD (k + n) 0).toNat = 61 ∧ (s.data.toList.getD (k + n + 1) 0).toNat = 34)) → attrA (s.data.toList.drop k) = none) := Hid.mk' (fun h => by
  unfold attrA
  rw [hn, if_neg]
  rw [getD_drop, getD_drop, List.length_drop]
  intro hc
  exact h ⟨⟨hc.1.1, by omega⟩, by rw [show k + n + 1 = k + (n + 1) from rfl]; exact hc.2⟩)
 have AY : Hid (∀ m, ((1 ≤ n ∧ n ≤ 8) ∧ k + n + 1 < s.size) ∧ ((s.data.toList.getD (k + n) 0).toNat = 61 ∧ (s.data.toList.getD (k + n + 1) 0).toNat = 34) → k + n + 2 + spn pQ (s.data.toList.drop (k + n + 2)) = m → attrA (s.data.toList.drop k) = if m < s.size then some (⟨s.extract k (k + n), decode (s.extract (k + n + 2) m).data.toList⟩, m + 1 - k) else none) := Hid.mk' (fun m h hm => by
  unfold attrA
  rw [hn, if_pos (by rw [getD_drop, getD_drop, List.length_drop]; exact ⟨⟨h.1.1, by omega⟩, h.2⟩)]
  rw [List.drop_drop, List.length_drop, show k + (n + 2) = k + n + 2 from by omega]
  have e1 : (⟨((s.data.toList.drop k).take n).toArray⟩ : ByteArray) = s.extract k (k + n) := ba_ext (by rw [ext_list, show k + n - k = n from by omega])
  have e2 : (s.extract (k + n + 2) m).data.toList = (s.data.toList.drop (k + n + 2)).take (spn pQ (s.data.toList.drop (k + n + 2))) := by rw [ext_list, show m - (k + n + 2) = spn pQ (s.data.toList.drop (k + n + 2)) from by omega]
  rw [e1, ← e2]
  by_cases hq : m < s.size
  ·rw [if_pos hq, if_pos (by omega), show n + 2 + spn pQ (s.data.toList.drop (k + n + 2)) + 1 = m + 1 - k from by omega]
  ·rw [if_neg hq, if_neg (by omega)])
 clear hn
 by_cases c1 : 1 ≤ n ∧ n ≤ 8
 rotate_left
 ·have E := Hid.mk' (AN.out (fun h => c1 h.1.1))
  rw [show (decide (1 ≤ n) && decide (n ≤ 8)) = false from by simp; omega] at KN
  have KN := Hid.mk' KN
  clear AN AY c1
  go_enter Tryz.func151, Tryz.ntmps151
  go_wp2_with (first | go_big_skip | (go_at_call 149; refine KE.out.mono ?_; rintro e w1 ⟨rfl, rfl⟩) | (go_at_call 134; refine KN.out.mono ?_; rintro e w1 ⟨rfl, rfl⟩))
  exact bodyPost_ret (v := .tuple #[.agg #[.string ⟨#[]⟩, .slice none 0 0], .int .i64 (-1)]) (by simp [results, Tryz.results151, go_sem, *]) rfl (AttrP.no E.out HB.out)
 rw [show (decide (1 ≤ n) && decide (n ≤ 8)) = true from by simp; omega] at KN
 have KN := Hid.mk' KN
 by_cases c2 : k + n + 1 < s.size
 rotate_left
 ·have E := Hid.mk' (AN.out (fun h => c2 h.1.2))
  have ci : (k : Int) + n + 1 ≥ (s.size : Int) := by omega
  clear AN AY c1 c2
  go_enter Tryz.func151, Tryz.ntmps151
  go_wp2_with (first | go_big_skip | (go_at_call 149; refine KE.out.mono ?_; rintro e w1 ⟨rfl, rfl⟩) | (go_at_call 134; refine KN.out.mono ?_; rintro e w1 ⟨rfl, rfl⟩))
  exact bodyPost_ret (v := .tuple #[.agg #[.string ⟨#[]⟩, .slice none 0 0], .int .i64 (-1)]) (by simp [results, Tryz.results151, go_sem, *]) rfl (AttrP.no E.out HB.out)
 have l1 : k + n < s.size := by omega
 have ci : ¬ (k : Int) + n + 1 ≥ (s.size : Int) := by omega
 have G1 : Hid ((s[k + n]'l1).toNat = (s.data.toList.getD (k + n) 0).toNat) := Hid.mk' (get_list rfl (k + n) l1)
 have G2 : Hid ((s[k + n + 1]'c2).toNat = (s.data.toList.getD (k + n + 1) 0).toNat) := Hid.mk' (get_list rfl (k + n + 1) c2)
 by_cases c3 : (s[k + n]'l1).toNat = 61
 rotate_left
 ·have E := Hid.mk' (AN.out (fun h => c3 (by rw [G1.out]; exact h.2.1)))
  have d3 : (((s[k + n]'l1).toNat : Int) != 61) = true := by simp; omega
  clear AN AY c1 c3
  go_enter Tryz.func151, Tryz.ntmps151
  go_wp2_with (first | go_big_skip | (go_at_call 149; refine KE.out.mono ?_; rintro e w1 ⟨rfl, rfl⟩) | (go_at_call 134; refine KN.out.mono ?_; rintro e w1 ⟨rfl, rfl⟩))
  exact bodyPost_ret (v := .tuple #[.agg #[.string ⟨#[]⟩, .slice none 0 0], .int .i64 (-1)]) (by simp [results, Tryz.results151, go_sem, *]) rfl (AttrP.no E.out HB.out)
 have d3 : (((s[k + n]'l1).toNat : Int) != 61) = false := by simp; omega
 by_cases c4 : (s[k + n + 1]'c2).toNat = 34
 rotate_left
 ·have E := Hid.mk' (AN.out (fun h => c4 (by rw [G2.out]; exact h.2.2)))
  have d4 : (((s[k + n + 1]'c2).toNat : Int) != 34) = true := by simp; omega
  clear AN AY c1 c3 c4
  go_enter Tryz.func151, Tryz.ntmps151
  go_wp2_with (first | go_big_skip | (go_at_call 149; refine KE.out.mono ?_; rintro e w1 ⟨rfl, rfl⟩) | (go_at_call 134; refine KN.out.mono ?_; rintro e w1 ⟨rfl, rfl⟩))
  exact bodyPost_ret (v := .tuple #[.agg #[.string ⟨#[]⟩, .slice none 0 0], .int .i64 (-1)]) (by simp [results, Tryz.results151, go_sem, *]) rfl (AttrP.no E.out HB.out)
 have d4 : (((s[k + n + 1]'c2).toNat : Int) != 34) = false := by simp; omega
 have AY : Hid (∀ m, k + n + 2 + spn pQ (s.data.toList.drop (k + n + 2)) = m → attrA (s.data.toList.drop k) = if m < s.size then some (⟨s.extract k (k + n), decode (s.extract (k + n + 2) m).data.toList⟩, m + 1 - k) else none) := Hid.mk' (fun m hm => AY.out m ⟨⟨c1, c2⟩, by rw [← G1.out]; exact c3, by rw [← G2.out]; exact c4⟩ hm)
 clear AN G1 G2 c3 c4
 go_enter Tryz.func151, Tryz.ntmps151
 go_wp2_with (first | go_big_skip | (go_at_call 149; refine KE.out.mono ?_; rintro e w1 ⟨rfl, rfl⟩) | (go_at_call 134; refine KN.out.mono ?_; rintro e w1 ⟨rfl, rfl⟩))
 clear d3 d4 KE KN
 generalize hw0 : w.alloc (.cells #[.string ⟨#[]⟩, .slice none 0 0] 139) = w0 at *
 go_loopw [8] (fun i wr => ∃ m : Nat, k + n + 2 ≤ m ∧ m ≤ s.size ∧ i = .int .i64 m ∧ (∀ j, k + n + 2 ≤ j → j < m → pQ (s.data.toList.getD j 0) = true) ∧ wr = w0) (fun i _ => s.size - (intOf i).toNat)
 case atStart => exact ⟨k + n + 2, Nat.le_refl _, by omega, by simp, fun j h1 h2 => by omega, rfl⟩
 case round =>
  obtain ⟨m, h1, h2, rfl, hq, rfl⟩ := hrel
  have HQ := Hid.mk' hq
  clear hq
  subst hw0
  by_cases hlt : m < s.size
  ·have cm : (m : Int) < (s.size : Int) := by omega
   have G : Hid ((s[m]'hlt).toNat = (s.data.toList.getD m 0).toNat) := Hid.mk' (get_list rfl m hlt)
   by_cases hc : (s[m]'hlt).toNat = 34
   ·have d5 : (((s[m]'hlt).toNat : Int) != 34) = false := by simp; omega
    have E := Hid.mk' (AY.out m (spn_from h1 (by omega) HQ.out (fun _ => by unfold pQ; rw [← G.out]; simpa using hc)))
    rw [if_pos hlt] at E
    have ne : ¬ (m : Int) = (s.size : Int) := by omega
    have KD := Hid.mk' (fun w1 => l2Decode_any (s.extract (k + n + 2) m) w1 (by have := ext_size s (k + n + 2) m; omega))
    have wr1 : IntKind.i64.wrap ((m : Int) + 1) = (m : Int) + 1 := by rw [IntKind.wrap_i64]; omega
    have fz0 : (w.alloc (.cells #[.string ⟨#[]⟩, .slice none 0 0] 139)).frozen? ⟨w.heap.size, 0, none⟩ = false := by simp
    have fz1 : (w.alloc (.cells #[.string ⟨#[]⟩, .slice none 0 0] 139)).frozen? ⟨w.heap.size, 1, none⟩ = false := by simp
    have sz0 : (w.alloc (.cells #[.string ⟨#[]⟩, .slice none 0 0] 139)).heap.size = w.heap.size + 1 := by simp
    have i1 : (0 : Int) ≤ (k : Int) := by omega
    have i2 : (k : Int) ≤ (k : Int) + n := by omega
    have i3 : (k : Int) + n ≤ (s.size : Int) := by omega
    have i4 : (0 : Int) ≤ (k : Int) + n + 2 := by omega
    have i5 : (k : Int) + n + 2 ≤ (m : Int) := by omega
    have i6 : (m : Int) ≤ (s.size : Int) := by omega
    have i7 : ((k : Int) + n).toNat = k + n := by omega
    have i8 : ((k : Int) + n + 2).toNat = k + n + 2 := by omega
    clear AY G hc
    go_wp2_with go_big_skip
    go_region_held3 (fun w' => w'.frozen? ⟨w.heap.size, 0, none⟩ = false) (simp [*])
     ((go_at_call 164; refine (KD.out _).mono ?_; rintro e w3 ⟨v3, rfl, gr3⟩; have hbx := undrew gr3.bl; obtain ⟨hx1, hx2⟩ := bcell hbx; obtain ⟨a3, c3, rfl⟩ := own_shape gr3.own; have zz : w.heap.size < (w.alloc (.cells #[.string ⟨#[]⟩, .slice none 0 0] 139)).heap.size := (by omega); have zy := hbx.size; have zx : w.heap.size < w3.heap.size := (by omega)))
    have HB3 := Hid.mk' (HB.out.trans (hbx.mono (by omega)))
    have GR := Hid.mk' gr3.own
    have q0 : w3.cell? ⟨w.heap.size, 0, none⟩ = some (.string ⟨#[]⟩) := (hbx.cell (p := ⟨w.heap.size, 0, none⟩) zz).trans (by simp)
    have q1 : w3.cell? ⟨w.heap.size, 1, none⟩ = some (.slice none 0 0) := (hbx.cell (p := ⟨w.heap.size, 1, none⟩) zz).trans (by simp)
    clear hx1 hx2 gr3 hbx i1 i2 i3 i4 i5 i6 i7 i8
    go_wp2
    refine bodyPost_ret (v := .tuple #[.agg #[.string (s.extract k (k + n)), .slice a3 (decode (s.extract (k + n + 2) m).data.toList).length c3], .int .i64 ((m : Int) + 1)]) (by simp [results, Tryz.results151, go_sem, *]) rfl ?_
    unfold AttrP
    rw [E.out]
    refine ⟨⟨_, by rw [show k + (m + 1 - k) = m + 1 from by omega]; rfl, ?_⟩, (HB3.out.setCell (p := ⟨w.heap.size, 0, none⟩) (Nat.le_refl _) _).setCell (p := ⟨w.heap.size, 1, none⟩) (Nat.le_refl _) _⟩
    exact own_set (own_set GR.out (Nat.le_refl _) (p := ⟨w.heap.size, 0, none⟩) (by simp) _) (by simp) (p := ⟨w.heap.size, 1, none⟩) (by simp) _
   ·have d5 : (((s[m]'hlt).toNat : Int) != 34) = true := by simp; omega
    have HC : Hid (pQ (s.data.toList.getD m 0) = true) := Hid.mk' (by unfold pQ; rw [← G.out]; simpa using hc)
    clear G hc
    go_wp2_with go_big_skip
    go_roundw
    case rel => exact ⟨m + 1, by omega, by omega, by go_num, fun j a b => by
     by_cases h : j = m
     ·subst h; exact HC.out
     ·exact HQ.out j a (by omega), by first | rfl | trivial⟩
    case measure => simp [intOf]; omega
  ·have cm : ¬ (m : Int) < (s.size : Int) := by omega
   have em : m = s.size := by omega
   subst em
   have E := Hid.mk' (AY.out s.size (spn_from h1 (by omega) HQ.out (fun h => by omega)))
   rw [if_neg hlt] at E
   clear AY
   go_wp2_with go_big_skip
   exact bodyPost_ret (v := .tuple #[.agg #[.string ⟨#[]⟩, .slice none 0 0], .int .i64 (-1)]) (by simp [results, Tryz.results151, go_sem, *]) rfl (AttrP.no E.out HB.out)
def acs : List AT → List Value → List Value
 | a :: l, u :: us => .string a.nm :: u :: acs l us
 | _, _ => []
theorem acs_snoc : ∀ (l : List AT) (us : List Value) (a : AT) (u : Value), us.length = l.length → acs (l ++ [a]) (us ++ [u]) = acs l us ++ [.string a.nm, u]
 | [], [], a, u, _ => rfl
 | [], u :: us, _, _, h => by simp at h
 | b :: l, [], _, _, h => by simp at h
 | b :: l, v :: us, a, u, h => by
  simp only [List.cons_append, acs]
  rw [acs_snoc l us a u (by simpa using h)]
theorem acs_get : ∀ (l : List AT) (us : List Value) (k : Nat), us.length = l.length → k < l.length → (acs l us)[k * 2]? = some (.string (atK l k).nm) ∧ (acs l us)[k * 2 + 1]? = some (us.getD k undef)
 | [], us, k, h, hk => absurd hk (Nat.not_lt_zero _)
 | a :: l, [], k, h, hk => by simp at h
 | a :: l, u :: us, 0, h, hk => by simp [acs, atK]
 | a :: l, u :: us, k + 1, h, hk => by
  have := acs_get l us k (by simpa using h) (by simpa using hk)
  rw [show (k + 1) * 2 = k * 2 + 1 + 1 from by omega]
  simpa [acs, atK] using this
structure OA (lo : Nat) (w : World) (v : Value) (l : List AT) (us : List Value) : Prop where
 len : us.length = l.length
 row : w.ownsRow lo 139 2 v l.length (acs l us)
 val : ∀ j, j < l.length → OB w (us.getD j undef) (atK l j).vl
 vlo : ∀ j, j < l.length → ∀ k, (us.getD j undef).ownBlock = some k → lo ≤ k
 ap : ∀ i j, i < j → j < l.length → Ap (us.getD i undef) (us.getD j undef)
 av : ∀ j, j < l.length → Ap v (us.getD j undef)
theorem OA.nil (lo : Nat) (w : World) : OA lo w (.slice none 0 0) [] [] :=
 ⟨rfl, ⟨rfl, .inl ⟨rfl, rfl⟩⟩, fun j h => absurd h (Nat.not_lt_zero _), fun j h => absurd h (Nat.not_lt_zero _), fun i j _ h => absurd h (Nat.not_lt_zero _), fun j h => absurd h (Nat.not_lt_zero _)⟩
theorem OA.keep {lo lo' : Nat} {w w' : World} {v : Value} {l : List AT} {us : List Value} (h : OA lo w v l us) (hlo : lo' ≤ lo) (hk : ∀ k, lo ≤ k → k < w.heap.size → w'.heap[k]? = w.heap[k]?) : OA lo' w' v l us :=
 ⟨h.len, own_of h.row hlo (fun k e hl => hk k hl (h.row.lt k e).2), fun j hj => (h.val j hj).keep (fun k e hl => hk k (h.vlo j hj k e) hl), fun j hj k e => Nat.le_trans hlo (h.vlo j hj k e), h.ap, h.av⟩
theorem OA.below {lo : Nat} {w w' : World} {v : Value} {l : List AT} {us : List Value} (h : OA lo w v l us) (hb : Below w.heap.size w w') : OA lo w' v l us := h.keep (Nat.le_refl _) (fun k _ hl => hb.block k hl)
theorem own_bat {w : World} {base : Nat} {u : Value} {l : List Int} (h : w.ownsRow base 5 1 u l.length (bcs l)) : ∃ p c, u = .slice p l.length c ∧ BAt w p l := (OB.of_own h).1.len
theorem OA.at {lo : Nat} {w : World} {v : Value} {l : List AT} {us : List Value} (h : OA lo w v l us) : ∃ a c, v = .slice a l.length c ∧ AAt w a l := by
 rcases h.row.2 with ⟨rfl, h0⟩ | ⟨g, cap, cur, rfl, hg, hh, hc, hm, hs, ht⟩
 ·exact ⟨none, 0, by rw [h0], .inl (List.eq_nil_of_length_eq_zero h0)⟩
 ·refine ⟨_, _, rfl, .inr ⟨g, 0, rfl, ?_, fun k hk => ?_⟩⟩
  ·exact Nat.lt_of_not_le fun hn => by rw [Array.getElem?_eq_none hn] at hh; cases hh
  ·obtain ⟨h1, h2⟩ := acs_get l us k h.len hk
   obtain ⟨p, c, e, hb⟩ := (h.val k hk).len
   rw [← ht] at h1 h2
   rw [List.getElem?_take_of_lt (by omega)] at h1 h2
   have q : ∀ i, w.cell? ⟨g, i, none⟩ = cur[i]? := fun i => Lib.cell_of_heap hh i
   refine ⟨by rw [q, Nat.zero_add, ← h1]; simp, p, c, ?_, hb⟩
   rw [q, Nat.zero_add, ← e, ← h2]; simp
theorem OA.app {lo : Nat} {w w1 w2 : World} {v v' u : Value} {l : List AT} {us : List Value} {a : AT} (h : OA lo w v l us) (hw : Below w.heap.size w w1) (hu : OB w1 u a.vl) (hlo : lo ≤ w.heap.size) (hn : ∀ k, u.ownBlock = some k → w.heap.size ≤ k)
  (ho : w2.ownsRow lo 139 2 v' (l.length + 1) (acs l us ++ [.string a.nm, u])) (hg : w1.grownBy w2 v.ownBlock) (hv : v'.ownBlock = v.ownBlock ∨ v'.ownBlock = some w1.heap.size) : OA lo w2 v' (l ++ [a]) (us ++ [u]) := by
 have g1 : ∀ j, j < l.length → (us ++ [u]).getD j undef = us.getD j undef := fun j hj => by simp [List.getD_eq_getElem?_getD, List.getElem?_append_left (h.len.symm ▸ hj)]
 have g2 : (us ++ [u]).getD l.length undef = u := by simp [List.getD_eq_getElem?_getD, ← h.len]
 have a1 : ∀ j, j < l.length → atK (l ++ [a]) j = atK l j := fun j hj => by simp [atK, List.getD_eq_getElem?_getD, List.getElem?_append_left hj]
 have a2 : atK (l ++ [a]) l.length = a := by simp [atK, List.getD_eq_getElem?_getD]
 have old : ∀ j, j < l.length → ∀ k, (us.getD j undef).ownBlock = some k → k < w.heap.size := fun j hj k e => (h.val j hj).lt k e
 have vold : ∀ k, v.ownBlock = some k → k < w.heap.size := fun k e => (h.row.lt k e).2
 have ult : ∀ k, u.ownBlock = some k → k < w1.heap.size := fun k e => hu.lt k e
 have sz := hw.size
 have hvl : ∀ j, j < l.length → OB w2 (us.getD j undef) (atK l j).vl := fun j hj =>
  (h.val j hj).keep (fun k e _ => by
   rw [hg.block k (by have := old j hj k e; omega) (fun e2 => h.av j hj k e2.symm e), hw.block k (old j hj k e)])
 have huv : OB w2 u a.vl :=
  hu.keep (fun k e _ => hg.block k (ult k e) (fun e2 => by have := vold k e2.symm; have := hn k e; omega))
 refine ⟨by simp [h.len], ?_, fun j hj => ?_, fun j hj k e => ?_, fun i j hij hj => ?_, fun j hj => ?_⟩
 ·rw [acs_snoc _ _ _ _ h.len, List.length_append]; exact ho
 ·rw [List.length_append] at hj
  by_cases e : j = l.length
  ·subst e; rw [g2, a2]; exact huv
  ·rw [g1 j (by simp at hj; omega), a1 j (by simp at hj; omega)]; exact hvl j (by simp at hj; omega)
 ·rw [List.length_append] at hj
  by_cases ej : j = l.length
  ·subst ej; rw [g2] at e; have := hn k e; omega
  ·rw [g1 j (by simp at hj; omega)] at e; exact h.vlo j (by simp at hj; omega) k e
 ·rw [List.length_append] at hj
  rw [g1 i (by simp at hj; omega)]
  by_cases e : j = l.length
  ·subst e; rw [g2]; intro k e1 e2; have := old i hij k e1; have := hn k e2; omega
  ·rw [g1 j (by simp at hj; omega)]; exact h.ap i j hij (by simp at hj; omega)
 ·rw [List.length_append] at hj
  intro k e1 e2
  rcases hv with hv | hv
  ·rw [hv] at e1
   by_cases e : j = l.length
   ·subst e; rw [g2] at e2; have := vold k e1; have := hn k e2; omega
   ·rw [g1 j (by simp at hj; omega)] at e2; exact h.av j (by simp at hj; omega) k e1 e2
  ·rw [hv] at e1
   cases e1
   by_cases e : j = l.length
   ·subst e; rw [g2] at e2; have := ult _ e2; omega
   ·rw [g1 j (by simp at hj; omega)] at e2; have := old j (by simp at hj; omega) _ e2; omega
theorem one_attr (w : World) (t : TypeId) (x y : Value) (g : Nat) (hg : w.heap.size = g) : ∀ j u, ([x, y] : List Value)[j]? = some u → (w.alloc (.cells #[x, y] t)).cell? ((⟨g, 0, none⟩ : Addr).add j) = some u := by
 intro j u h
 subst hg
 match j, h with
 | 0, h => cases h; simp [Addr.add]
 | 1, h => cases h; simp [Addr.add]
 | j + 2, h => simp at h
def RL (g : Nat) (L : List UInt8) (w : World) : Prop := w.rowIs g 168 1 (fun _ => .string ⟨L.toArray⟩)
theorem RL.cell {g : Nat} {L : List UInt8} {w : World} (h : RL g L w) : w.cell? ⟨g, 0, none⟩ = some (.string ⟨L.toArray⟩) ∧ w.frozen? ⟨g, 0, none⟩ = false ∧ g < w.heap.size := ⟨World.rowIs.cell h (by decide), World.rowIs.frozen h 0, World.rowIs.lt h⟩
theorem RL.put {g : Nat} {L : List UInt8} {w : World} (h : RL g L w) (M : List UInt8) : RL g M (w.setCell ⟨g, 0, none⟩ (.string ⟨M.toArray⟩)) ∧ KeptIn g (g + 1) w (w.setCell ⟨g, 0, none⟩ (.string ⟨M.toArray⟩)) :=
 ⟨World.rowIs.congr (World.rowIs.set h 0 _) (fun j hj => by rw [if_pos (by omega)]), (KeptIn.refl _ _ w).setCell (p := ⟨g, 0, none⟩) (Nat.le_refl _) (Nat.lt_succ_self _) _⟩
theorem RL.below {g : Nat} {L : List UInt8} {w w' : World} (h : RL g L w) (hb : Below w.heap.size w w') : RL g L w' := rowB h hb
theorem list_data (L : List UInt8) : (⟨L.toArray⟩ : ByteArray).data.toList = L := by simp
theorem list_size (L : List UInt8) : (⟨L.toArray⟩ : ByteArray).size = L.length := by simp [ByteArray.size]
theorem skip_any (g : Nat) (L p : List UInt8) (w : World) (h : RL g L w) :
  Calls Tryz.prog 139 #[.pointer (some ⟨g, 0, none⟩), .string ⟨p.toArray⟩] w fun e w' => e = .returned (.bool (Lib.hasPrefix L p)) ∧ RL g (Lib.trimPrefix L p) w' ∧ KeptIn g (g + 1) w w' := by
 obtain ⟨c0, c1, c2⟩ := h.cell
 have K := Tryz.strings_CutPrefix ⟨L.toArray⟩ ⟨p.toArray⟩ w
 rw [list_data, list_data] at K
 have K := Hid.mk' K
 have P := Hid.mk' (h.put (Lib.trimPrefix L p))
 clear h
 go_enter Tryz.func139, Tryz.ntmps139
 go_wp2_with fail
 refine K.out.mono ?_
 rintro e w1 ⟨rfl, hw⟩
 obtain rfl := hw.symm
 go_wp2
 go_ret
 exact ⟨rfl, P.out.1, P.out.2⟩
def NoTag (tp : TypeId) (p : Value) (w : World) : Prop := w.cell? ⟨1, 0, none⟩ = some (.iface tp p)
abbrev boom (tp : TypeId) (p : Value) : Ending := .panicked [{ v := .iface tp p, recovered := false }]
theorem take_yes (g : Nat) (L p : List UInt8) (w : World) (h : RL g L w) (hp : Lib.hasPrefix L p = true) :
  Calls Tryz.prog 138 #[.pointer (some ⟨g, 0, none⟩), .string ⟨p.toArray⟩] w fun e w' => e = .returned (.tuple #[]) ∧ RL g (Lib.trimPrefix L p) w' ∧ KeptIn g (g + 1) w w' := by
 have K := skip_any g L p w h
 rw [hp] at K
 have K := Hid.mk' K
 clear h
 go_enter Tryz.func138, Tryz.ntmps138
 go_wp2_with fail
 refine K.out.mono ?_
 rintro e w1 ⟨rfl, h1, h2⟩
 have H1 := Hid.mk' h1
 have H2 := Hid.mk' h2
 clear h1 h2
 go_wp2
 go_end0
 exact ⟨rfl, H1.out, H2.out⟩
theorem take_no (g : Nat) (L p : List UInt8) (w : World) (tp : TypeId) (pv : Value) (h : RL g L w) (hp : Lib.hasPrefix L p = false) (hg : 1 < g) (ht : NoTag tp pv w) :
  Calls Tryz.prog 138 #[.pointer (some ⟨g, 0, none⟩), .string ⟨p.toArray⟩] w fun e w' => e = boom tp pv ∧ KeptIn g (g + 1) w w' := by
 have K := skip_any g L p w h
 rw [hp] at K
 have K := Hid.mk' K
 have lt := h.cell.2.2
 clear h
 go_enter Tryz.func138, Tryz.ntmps138
 go_wp2_with fail
 refine K.out.mono ?_
 rintro e w1 ⟨rfl, h1, h2⟩
 have t1 : w1.cell? ⟨1, 0, none⟩ = some (.iface tp pv) := (World.cell?_of_block (h2.block _ (show 1 < w.heap.size by omega) (.inl hg))).trans ht
 have H2 := Hid.mk' h2
 clear h1 h2
 go_wp2
 exact ⟨rfl, rfl, H2.out⟩
theorem pre1 (L : List UInt8) (c : UInt8) : Lib.hasPrefix L [c] = decide (L ≠ [] ∧ L.getD 0 0 = c) := by
 cases L with
 | nil => rfl
 | cons a r =>
  by_cases h : a = c
  ·subst h; simp [Lib.hasPrefix]
  ·have e : (c == a) = false := by simpa using Ne.symm h
   simp [Lib.hasPrefix, List.isPrefixOf, e, h]
theorem trim1 (L : List UInt8) (p : List UInt8) (h : Lib.hasPrefix L p = true) : Lib.trimPrefix L p = L.drop p.length := by unfold Lib.trimPrefix; rw [if_pos h]
theorem trim0 (L : List UInt8) (p : List UInt8) (h : Lib.hasPrefix L p = false) : Lib.trimPrefix L p = L := by unfold Lib.trimPrefix; rw [if_neg (by rw [h]; decide)]
theorem skipBlanks_any (g : Nat) (L : List UInt8) (w : World) (h : RL g L w) :
  Calls Tryz.prog 141 #[.pointer (some ⟨g, 0, none⟩)] w fun e w' => e = .returned (.bool (decide (0 < spn pB L))) ∧ RL g (L.drop (spn pB L)) w' ∧ KeptIn g (g + 1) w w' := by
 have HR := Hid.mk' h
 clear h
 go_enter Tryz.func141, Tryz.ntmps141
 go_wp2
 go_loopw [3] (fun x wr => ∃ k : Nat, k ≤ L.length ∧ x = .bool (decide (0 < k)) ∧ (∀ j, j < k → pB (L.getD j 0) = true) ∧ RL g (L.drop k) wr ∧ KeptIn g (g + 1) w wr) (fun _ wr => match wr.cell? ⟨g, 0, none⟩ with | some (.string s) => s.size | _ => 0)
 case atStart => exact ⟨0, Nat.zero_le _, rfl, fun j h => absurd h (Nat.not_lt_zero _), HR.out, KeptIn.refl _ _ _⟩
 case round =>
  obtain ⟨k, hk, rfl, hn, hr, hkp⟩ := hrel
  have HN := Hid.mk' hn
  have HK := Hid.mk' hkp
  have H0 := Hid.mk' hr.cell.1
  have K := skip_any g (L.drop k) [32] wr hr
  clear hn hkp hr
  by_cases hb : k < L.length ∧ pB (L.getD k 0) = true
  ·have hp : Lib.hasPrefix (L.drop k) [32] = true := by
    rw [pre1, decide_eq_true]
    refine ⟨fun e => by have := congrArg List.length e; simp at this; omega, ?_⟩
    rw [getD_drop, Nat.add_zero]
    have := hb.2
    unfold pB at this
    exact UInt8.toNat_inj.1 (by simpa using this)
   rw [trim1 _ _ hp, hp, List.drop_drop] at K
   have K := Hid.mk' K
   have kl := hb.1
   have HB := Hid.mk' hb.2
   clear hb hp
   go_wp2_with fail
   refine K.out.mono ?_
   rintro e w1 ⟨rfl, h1, h2⟩
   have H1 := Hid.mk' h1
   have HK2 := Hid.mk' (HK.out.trans h2)
   clear h1 h2
   go_wp2
   refine ⟨⟨k + 1, by omega, by simp, fun j hj => ?_, H1.out, HK2.out⟩, ?_⟩
   ·by_cases e : j = k
    ·subst e; exact HB.out
    ·exact HN.out j (by omega)
   ·rw [H1.out.cell.1, H0.out]
    show (⟨(L.drop (k + [32].length)).toArray⟩ : ByteArray).size < (⟨(L.drop k).toArray⟩ : ByteArray).size
    rw [list_size, list_size, List.length_drop, List.length_drop]
    show L.length - (k + 1) < L.length - k
    omega
  ·have hs : spn pB L = k := spn_uniq pB L k hk HN.out (fun hl => by
    cases e : pB (L.getD k 0) with
    | false => rfl
    | true => exact absurd ⟨hl, e⟩ hb)
   have hp : Lib.hasPrefix (L.drop k) [32] = false := by
    rw [pre1]
    refine decide_eq_false fun h => hb ⟨?_, ?_⟩
    ·exact Nat.lt_of_not_le fun hl => h.1 (List.drop_of_length_le hl)
    ·have := h.2
     rw [getD_drop, Nat.add_zero] at this
     rw [this]; rfl
   rw [trim0 _ _ hp, hp] at K
   have K := Hid.mk' K
   have HS := Hid.mk' hs
   clear hb hp hs
   go_wp2_with fail
   refine K.out.mono ?_
   rintro e w1 ⟨rfl, h1, h2⟩
   have H1 := Hid.mk' h1
   have HK2 := Hid.mk' (HK.out.trans h2)
   clear h1 h2
   go_wp2
   go_ret
   refine ⟨by rw [HS.out]; rfl, by rw [HS.out]; exact H1.out, HK2.out⟩
theorem letters_spn (L : List UInt8) (w : World) (hm : L.length ≤ 1048576) :
  Calls Tryz.prog 156 #[.string ⟨L.toArray⟩] w fun e w' => e = .returned (.int .i64 (spn pL L : Nat)) ∧ w' = w := by
 refine (letters_any ⟨L.toArray⟩ w (by rw [list_size]; omega)).mono ?_
 rintro e w' ⟨n, rfl, rfl, hn, hlow, hend⟩
 rw [list_size] at hn
 have gl : ∀ k (h : k < (⟨L.toArray⟩ : ByteArray).size), ((⟨L.toArray⟩ : ByteArray)[k]'h).toNat = (L.getD k 0).toNat := fun k h => get_list (list_data L) k h
 have : spn pL L = n := spn_uniq pL L n hn (fun j hj => by
   have h := hlow j (by rw [list_size]; omega) hj
   rw [gl] at h
   exact ltrB_true h) (fun hl => by
   have h := hend (by rw [list_size]; exact hl)
   rw [gl] at h
   exact ltrB_false h)
 rw [this]
 exact ⟨rfl, rfl⟩
theorem ext_ahead (L : List UInt8) (n : Nat) : (⟨L.toArray⟩ : ByteArray).extract 0 n = ⟨(L.take n).toArray⟩ := ba_ext (by rw [ext_list, list_data, list_data]; simp)
theorem ext_behind (L : List UInt8) (n : Nat) : (⟨L.toArray⟩ : ByteArray).extract n (⟨L.toArray⟩ : ByteArray).size = ⟨(L.drop n).toArray⟩ := ba_ext (by rw [tail_list, list_data, list_data])
theorem ext_behind' (L : List UInt8) (n : Nat) : (⟨L.toArray⟩ : ByteArray).extract n L.length = ⟨(L.drop n).toArray⟩ := by rw [← ext_behind, list_size]
theorem clone_any (s : ByteArray) (w : World) (hs : s.size ≤ 1048576) :
  Calls Tryz.prog 158 #[.string s] w fun e w' => e = .returned (.string s) ∧ Below w.heap.size w w' := by
 go_enter Tryz.func158, Tryz.ntmps158
 go_wp2_with fail
 refine (Tryz.stringslite_Clone s w (by omega)).mono ?_
 rintro e w1 ⟨rfl, hb⟩
 have HB := Hid.mk' hb
 clear hb
 go_wp2
 go_ret
 exact ⟨rfl, HB.out⟩
theorem takeName_yes (g : Nat) (L : List UInt8) (w : World) (h : RL g L w) (hL : L.length ≤ 1000) (hn : 1 ≤ spn pL L ∧ spn pL L ≤ 8) :
  Calls Tryz.prog 140 #[.pointer (some ⟨g, 0, none⟩)] w fun e w' => e = .returned (.string ⟨(L.take (spn pL L)).toArray⟩) ∧ RL g (L.drop (spn pL L)) w' ∧ KeptIn g (g + 1) w w' := by
 obtain ⟨c0, c1, c2⟩ := h.cell
 have K1 := Hid.mk' (letters_spn L w (by omega))
 have KN := isName_any ⟨(L.take (spn pL L)).toArray⟩ w (by rw [list_size, List.length_take]; omega)
 rw [nmB_take _ L (list_data _), show (decide (1 ≤ spn pL L) && decide (spn pL L ≤ 8)) = true from by simp; omega] at KN
 have KN := Hid.mk' KN
 have P := h.put (L.drop (spn pL L))
 have KC := Hid.mk' (clone_any ⟨(L.take (spn pL L)).toArray⟩ (w.setCell ⟨g, 0, none⟩ (.string ⟨(L.drop (spn pL L)).toArray⟩)) (by rw [list_size, List.length_take]; omega))
 have P := Hid.mk' P
 have le := spn_le pL L
 have EA := ext_ahead L (spn pL L)
 have EB := ext_behind' L (spn pL L)
 have sz := list_size L
 clear h
 generalize hk : spn pL L = k at *
 have i1 : (0 : Int) ≤ (k : Int) := by omega
 have i2 : (k : Int) ≤ ((⟨L.toArray⟩ : ByteArray).size : Int) := by omega
 go_enter Tryz.func140, Tryz.ntmps140
 go_wp2_with (first | (go_at_call 156; refine K1.out.mono ?_; rintro e w1 ⟨rfl, hw⟩; obtain rfl := hw.symm) | fail)
 refine KN.out.mono ?_
 rintro e w1 ⟨rfl, hw⟩
 obtain rfl := hw.symm
 go_wp2_with fail
 generalize w.setCell ⟨g, 0, none⟩ (.string ⟨(L.drop k).toArray⟩) = w2 at *
 refine KC.out.mono ?_
 rintro e w3 ⟨rfl, hb⟩
 have R3 := Hid.mk' (P.out.1.below hb)
 have K3 := Hid.mk' (P.out.2.trans (KeptIn.of_below hb))
 clear hb KC KN K1 P
 go_wp2
 go_ret
 exact ⟨rfl, R3.out, K3.out⟩
theorem takeName_no (g : Nat) (L : List UInt8) (w : World) (tp : TypeId) (pv : Value) (h : RL g L w) (hL : L.length ≤ 1000) (hn : ¬ (1 ≤ spn pL L ∧ spn pL L ≤ 8)) (ht : NoTag tp pv w) :
  Calls Tryz.prog 140 #[.pointer (some ⟨g, 0, none⟩)] w fun e w' => e = boom tp pv ∧ KeptIn g (g + 1) w w' := by
 obtain ⟨c0, c1, c2⟩ := h.cell
 have K1 := Hid.mk' (letters_spn L w (by omega))
 have KN := isName_any ⟨(L.take (spn pL L)).toArray⟩ w (by rw [list_size, List.length_take]; omega)
 rw [nmB_take _ L (list_data _), show (decide (1 ≤ spn pL L) && decide (spn pL L ≤ 8)) = false from by simp; omega] at KN
 have KN := Hid.mk' KN
 have le := spn_le pL L
 have EA := ext_ahead L (spn pL L)
 have sz := list_size L
 have t1 : w.cell? ⟨1, 0, none⟩ = some (.iface tp pv) := ht
 clear h ht
 generalize hk : spn pL L = k at *
 have i1 : (0 : Int) ≤ (k : Int) := by omega
 have i2 : (k : Int) ≤ ((⟨L.toArray⟩ : ByteArray).size : Int) := by omega
 go_enter Tryz.func140, Tryz.ntmps140
 go_wp2_with (first | (go_at_call 156; refine K1.out.mono ?_; rintro e w1 ⟨rfl, hw⟩; obtain rfl := hw.symm) | fail)
 refine KN.out.mono ?_
 rintro e w1 ⟨rfl, hw⟩
 obtain rfl := hw.symm
 go_wp2
 exact ⟨rfl, rfl, KeptIn.refl _ _ _⟩
theorem index_quote : ∀ L : List UInt8, Lib.indexByte L 34 = if spn pQ L < L.length then (spn pQ L : Int) else -1
 | [] => rfl
 | c :: r => by
  unfold Lib.indexByte
  by_cases h : c = 34
  ·subst h
   have : spn pQ (34 :: r) = 0 := by unfold spn; rw [if_neg (by decide)]
   rw [if_pos (by decide), this, if_pos (by simp)]; rfl
  ·have hp : pQ c = true := by
    unfold pQ
    have : ¬ c.toNat = 34 := fun e => h (UInt8.toNat_inj.1 (by rw [e]; rfl))
    simp [this]
   have e : spn pQ (c :: r) = spn pQ r + 1 := by conv => lhs; unfold spn; rw [if_pos hp]
   rw [if_neg (by simpa using h), index_quote r, e]
   by_cases hl : spn pQ r < r.length
   ·rw [if_pos hl, if_neg (by simp), if_pos (by simpa using hl)]; omega
   ·rw [if_neg hl, if_pos (by decide), if_neg (by simpa using hl)]
theorem cutLite_any (L : List UInt8) (w : World) (hL : L.length ≤ 1000) :
  Calls Tryz.prog 170 #[.string ⟨L.toArray⟩, .string ⟨#[34]⟩] w fun e w' => e = .returned (.tuple (if spn pQ L < L.length then #[.string ⟨(L.take (spn pQ L)).toArray⟩, .string ⟨(L.drop (spn pQ L + 1)).toArray⟩, .bool true] else #[.string ⟨L.toArray⟩, .string ⟨#[]⟩, .bool false])) ∧ Below w.heap.size w w' := by
 have K := Tryz.stringslite_Index_one ⟨L.toArray⟩ 34 w
 rw [list_data, index_quote] at K
 have sz := list_size L
 have t1 : (⟨#[34]⟩ : ByteArray).size = 1 := rfl
 by_cases h : spn pQ L < L.length
 ·rw [if_pos h] at K ⊢
  have K := Hid.mk' K
  have EA := ext_ahead L (spn pQ L)
  have EB := ext_behind' L (spn pQ L + 1)
  generalize spn pQ L = k at *
  have i1 : (0 : Int) ≤ (k : Int) := by omega
  have i2 : (k : Int) ≤ ((⟨L.toArray⟩ : ByteArray).size : Int) := by omega
  have i3 : (0 : Int) ≤ (k : Int) + 1 := by omega
  have i4 : (k : Int) + 1 ≤ ((⟨L.toArray⟩ : ByteArray).size : Int) := by omega
  have i5 : ((k : Int) + 1).toNat = k + 1 := by omega
  have iw : IntKind.i64.wrap ((k : Int) + 1) = (k : Int) + 1 := by rw [IntKind.wrap_i64]; omega
  go_enter Tryz.func170, Tryz.ntmps170
  go_wp2_with fail
  refine K.out.mono ?_
  rintro e w1 ⟨rfl, hw⟩
  obtain rfl := hw.symm
  go_wp2
  go_quiet (fail)
  go_wp2
  exact bodyPost_ret (v := .tuple #[.string ⟨(L.take k).toArray⟩, .string ⟨(L.drop (k + 1)).toArray⟩, .bool true]) (by simp [results, Tryz.results170, go_sem]) rfl ⟨rfl, below_drewN (Below.refl _ _) _⟩
 ·rw [if_neg h] at K ⊢
  have K := Hid.mk' K
  go_enter Tryz.func170, Tryz.ntmps170
  go_wp2_with fail
  refine K.out.mono ?_
  rintro e w1 ⟨rfl, hw⟩
  obtain rfl := hw.symm
  go_wp2
  exact bodyPost_ret (v := .tuple #[.string ⟨L.toArray⟩, .string ⟨#[]⟩, .bool false]) (by simp [results, Tryz.results170, go_sem]) rfl ⟨rfl, Below.refl _ _⟩
theorem cut_any (L : List UInt8) (w : World) (hL : L.length ≤ 1000) :
  Calls Tryz.prog 161 #[.string ⟨L.toArray⟩, .string ⟨#[34]⟩] w fun e w' => e = .returned (.tuple (if spn pQ L < L.length then #[.string ⟨(L.take (spn pQ L)).toArray⟩, .string ⟨(L.drop (spn pQ L + 1)).toArray⟩, .bool true] else #[.string ⟨L.toArray⟩, .string ⟨#[]⟩, .bool false])) ∧ Below w.heap.size w w' := by
 have K := cutLite_any L w hL
 by_cases h : spn pQ L < L.length
 ·rw [if_pos h] at K ⊢
  have K := Hid.mk' K
  go_enter Tryz.func161, Tryz.ntmps161
  go_wp2_with fail
  refine K.out.mono ?_
  rintro e w1 ⟨rfl, hb⟩
  have HB := Hid.mk' hb
  clear hb
  go_wp2
  exact bodyPost_ret (v := .tuple #[.string ⟨(L.take (spn pQ L)).toArray⟩, .string ⟨(L.drop (spn pQ L + 1)).toArray⟩, .bool true]) (by simp [results, Tryz.results161, go_sem]) rfl ⟨rfl, HB.out⟩
 ·rw [if_neg h] at K ⊢
  have K := Hid.mk' K
  go_enter Tryz.func161, Tryz.ntmps161
  go_wp2_with fail
  refine K.out.mono ?_
  rintro e w1 ⟨rfl, hb⟩
  have HB := Hid.mk' hb
  clear hb
  go_wp2
  exact bodyPost_ret (v := .tuple #[.string ⟨L.toArray⟩, .string ⟨#[]⟩, .bool false]) (by simp [results, Tryz.results161, go_sem]) rfl ⟨rfl, HB.out⟩
structure Env (B : Nat) (tp : TypeId) (pv : Value) (w : World) : Prop where
 refs : Refs w
 errs : Errs w
 tag : NoTag tp pv w
 hB : B ≤ w.heap.size
 b0 : 1 < B
 b1 : 2 < B
 b2 : 3 < B
 b3 : 4 < B
theorem gSyn : Tryz.prog.globalNamed "strconv.ErrSyntax" = some 3 := by kernel_rfl
theorem gRan : Tryz.prog.globalNamed "strconv.ErrRange" = some 4 := by kernel_rfl
theorem var_same {w w' : World} {n : String} {g : Nat} (hg : Tryz.prog.globalNamed n = some g) (h : w'.heap[g]? = w.heap[g]?) : w'.var? Tryz.prog n = w.var? Tryz.prog n := by
 simp only [World.var?, hg, Option.bind_some]
 rw [h]
theorem Env.keep {B : Nat} {tp : TypeId} {pv : Value} {w w' : World} (h : Env B tp pv w) (hb : Below B w w') : Env B tp pv w' :=
  ⟨fun i hi => by rw [World.cell?_of_block (hb.block _ h.b1)]; exact h.refs i hi,
   ⟨by rw [var_same gSyn (hb.block _ h.b2)]; exact h.errs.1, by rw [var_same gRan (hb.block _ h.b3)]; exact h.errs.2⟩,
   (World.cell?_of_block (hb.block _ h.b0)).trans h.tag, Nat.le_trans h.hB hb.size, h.b0, h.b1, h.b2, h.b3⟩
theorem Env.kept {B lo hi : Nat} {tp : TypeId} {pv : Value} {w w' : World} (h : Env B tp pv w) (hk : KeptIn lo hi w w') (hl : B ≤ lo) : Env B tp pv w' := h.keep (hk.below hl h.hB)
theorem attrA_steps (L : List UInt8) : attrA L = (if 1 ≤ spn pL L ∧ spn pL L ≤ 8 then (if Lib.hasPrefix (L.drop (spn pL L)) [61, 34] = true then (if spn pQ (L.drop (spn pL L + 2)) < (L.drop (spn pL L + 2)).length then some (⟨⟨(L.take (spn pL L)).toArray⟩, decode ((L.drop (spn pL L + 2)).take (spn pQ (L.drop (spn pL L + 2))))⟩, spn pL L + 2 + spn pQ (L.drop (spn pL L + 2)) + 1) else none) else none) else none) := by
 unfold attrA
 generalize hn : spn pL L = n
 by_cases h1 : 1 ≤ n ∧ n ≤ 8
 ·rw [if_pos h1]
  have hp : Lib.hasPrefix (L.drop n) [61, 34] = true ↔ (n + 1 < L.length ∧ (L.getD n 0).toNat = 61 ∧ (L.getD (n + 1) 0).toNat = 34) := by
   rw [prefix_iff]
   constructor
   ·rintro ⟨S, h⟩
    have hl := congrArg List.length h
    simp at hl
    refine ⟨by omega, ?_, ?_⟩
    ·have : (L.drop n).getD 0 0 = 61 := by rw [h]; rfl
     rw [getD_drop, Nat.add_zero] at this; rw [this]; rfl
    ·have : (L.drop n).getD 1 0 = 34 := by rw [h]; rfl
     rw [getD_drop] at this; rw [this]; rfl
   ·rintro ⟨a, b, c⟩
    refine ⟨L.drop (n + 2), ?_⟩
    rw [drop_cons L n (by omega), drop_cons L (n + 1) (by omega)]
    have e1 : L.getD n 0 = 61 := UInt8.toNat_inj.1 (by rw [b]; rfl)
    have e2 : L.getD (n + 1) 0 = 34 := UInt8.toNat_inj.1 (by rw [c]; rfl)
    rw [e1, e2]; rfl
  by_cases h2 : Lib.hasPrefix (L.drop n) [61, 34] = true
  ·rw [if_pos h2, if_pos ⟨⟨h1, (hp.1 h2).1⟩, (hp.1 h2).2⟩]
   have hl := (hp.1 h2).1
   by_cases h3 : n + 2 + spn pQ (L.drop (n + 2)) < L.length
   ·rw [if_pos h3, if_pos (by rw [List.length_drop]; omega)]
   ·rw [if_neg h3, if_neg (by rw [List.length_drop]; omega)]
  ·rw [if_neg h2, if_neg (fun h => h2 (hp.2 ⟨h.1.2, h.2⟩))]
 ·rw [if_neg h1, if_neg (fun h => h1 h.1.1)]
def TakeP (r : Option (AT × Nat)) (g : Nat) (L : List UInt8) (tp : TypeId) (pv : Value) (w : World) (e : Ending) (w' : World) : Prop := (match r with
      | none => e = boom tp pv
      | some (a, n) => ∃ u, e = .returned (.agg #[.string a.nm, u]) ∧ OB w' u a.vl ∧ In w.heap.size w'.heap.size u ∧ RL g (L.drop n) w') ∧ KeptIn g (g + 1) w w'
theorem TakeP.no {r : Option (AT × Nat)} {g : Nat} {L : List UInt8} {tp : TypeId} {pv : Value} {w w' : World} (h : r = none) (hk : KeptIn g (g + 1) w w') : TakeP r g L tp pv w (boom tp pv) w' := by
 subst h; exact ⟨rfl, hk⟩
theorem takeAttr_any (B g : Nat) (L : List UInt8) (tp : TypeId) (pv : Value) (w : World) (hE : Env B tp pv w) (hg : B ≤ g) (h : RL g L w) (hL : L.length ≤ 1000) :
  Calls Tryz.prog 144 #[.pointer (some ⟨g, 0, none⟩)] w fun e w' => TakeP (attrA L) g L tp pv w e w' := by
 have hgl := h.cell.2.2
 have b0 := hE.b0
 have N0 := below_new w (.cells #[.string ⟨#[]⟩, .slice none 0 0] 139)
 have RB := Hid.mk' (rowp2 w 139 (.string ⟨#[]⟩) (.slice none 0 0))
 have K0 := Hid.mk' (KeptIn.of_below (lo := g) (hi := g + 1) N0)
 have R0 := Hid.mk' (h.below N0)
 have E0 := Hid.mk' (hE.keep (N0.mono hE.hB))
 have sz0 : (w.alloc (.cells #[.string ⟨#[]⟩, .slice none 0 0] 139)).heap.size = w.heap.size + 1 := by simp
 have ST := Hid.mk' (attrA_steps L)
 clear h hE N0
 generalize hw0 : w.alloc (.cells #[.string ⟨#[]⟩, .slice none 0 0] 139) = w0 at *
 by_cases h1 : 1 ≤ spn pL L ∧ spn pL L ≤ 8
 rotate_left
 ·have E : Hid (attrA L = none) := Hid.mk' (by rw [ST.out, if_neg h1])
  have K1 := Hid.mk' (takeName_no g L w0 tp pv R0.out hL h1 E0.out.tag)
  go_enter Tryz.func144, Tryz.ntmps144
  go_wp2_with fail
  clear hw0
  refine K1.out.mono ?_
  rintro e w1 ⟨rfl, hk⟩
  have K2 := Hid.mk' (K0.out.trans hk)
  clear hk
  go_wp2
  exact ⟨rfl, TakeP.no E.out K2.out⟩
 have ST := Hid.mk' (ST.out.trans (if_pos h1))
 have K1 := Hid.mk' (takeName_yes g L w0 R0.out hL h1)
 have le := spn_le pL L
 by_cases h2 : Lib.hasPrefix (L.drop (spn pL L)) [61, 34] = true
 rotate_left
 ·have E : Hid (attrA L = none) := Hid.mk' (by rw [ST.out, if_neg h2])
  rw [Bool.not_eq_true] at h2
  have H2 := Hid.mk' h2
  clear h2
  go_enter Tryz.func144, Tryz.ntmps144
  go_wp2_with fail
  clear hw0
  refine K1.out.mono ?_
  rintro e w1 ⟨rfl, hr1, hk1⟩
  have K2 := Hid.mk' (K0.out.trans hk1)
  have E1 := Hid.mk' (E0.out.kept hk1 hg)
  have KT := Hid.mk' (take_no g (L.drop (spn pL L)) [61, 34] w1 tp pv hr1 H2.out (by omega) E1.out.tag)
  clear hk1 hr1
  go_wp2_with fail
  refine KT.out.mono ?_
  rintro e w2 ⟨rfl, hk⟩
  have K3 := Hid.mk' (K2.out.trans hk)
  clear hk
  go_wp2
  exact ⟨rfl, TakeP.no E.out K3.out⟩
 have ST := Hid.mk' (ST.out.trans (if_pos h2))
 have H2 := Hid.mk' h2
 have dl : (L.drop (spn pL L + 2)).length ≤ 1000 := by rw [List.length_drop]; omega
 clear h2
 by_cases h3 : spn pQ (L.drop (spn pL L + 2)) < (L.drop (spn pL L + 2)).length
 rotate_left
 ·have E : Hid (attrA L = none) := Hid.mk' (by rw [ST.out, if_neg h3])
  go_enter Tryz.func144, Tryz.ntmps144
  go_wp2_with fail
  clear hw0
  refine K1.out.mono ?_
  rintro e w1 ⟨rfl, hr1, hk1⟩
  have K2 := Hid.mk' (K0.out.trans hk1)
  have E1 := Hid.mk' (E0.out.kept hk1 hg)
  have KT := take_yes g (L.drop (spn pL L)) [61, 34] w1 hr1 H2.out
  rw [trim1 _ _ H2.out, List.drop_drop] at KT
  have KT := Hid.mk' KT
  clear hk1 hr1
  go_wp2_with fail
  refine KT.out.mono ?_
  rintro e w2 ⟨rfl, hr2, hk⟩
  have K3 := Hid.mk' (K2.out.trans hk)
  have E2 := E1.out.kept hk hg
  have hr2 : RL g (L.drop (spn pL L + 2)) w2 := hr2
  obtain ⟨c0, c1, c2⟩ := hr2.cell
  have KC := cut_any (L.drop (spn pL L + 2)) w2 dl
  rw [if_neg h3] at KC
  have KC := Hid.mk' KC
  have t1 := Hid.mk' E2.tag
  have sz2 := E2.hB
  clear hk hr2 KT E2
  go_wp2_with fail
  refine KC.out.mono ?_
  rintro e w3 ⟨rfl, hb⟩
  have K4 := Hid.mk' (K3.out.trans (KeptIn.of_below hb))
  have t3 : w3.cell? ⟨1, 0, none⟩ = some (.iface tp pv) := (hb.cell (p := ⟨1, 0, none⟩) (by show 1 < w2.heap.size; omega)).trans t1.out
  clear hb KC c0 c1
  go_wp2
  exact ⟨rfl, TakeP.no E.out K4.out⟩
 have ST := Hid.mk' (ST.out.trans (if_pos h3))
 generalize hn : spn pL L = n at *
 generalize hq : spn pQ (L.drop (n + 2)) = q at *
 have DL : decV ((L.drop (n + 2)).take q) = decode ((L.drop (n + 2)).take q) := by unfold decV; rw [if_neg (by rw [List.length_take]; omega)]
 have DC : decC ((L.drop (n + 2)).take q) = 0 := by unfold decC; rw [if_neg (by rw [List.length_take]; omega)]
 go_enter Tryz.func144, Tryz.ntmps144
 go_wp2_with fail
 clear hw0
 refine K1.out.mono ?_
 rintro e w1 ⟨rfl, hr1, hk1⟩
 have K2 := Hid.mk' (K0.out.trans hk1)
 have E1 := Hid.mk' (E0.out.kept hk1 hg)
 have RB1 := Hid.mk' (rowK RB.out hk1 (.inr (by omega)))
 have KT := take_yes g (L.drop n) [61, 34] w1 hr1 H2.out
 rw [trim1 _ _ H2.out, List.drop_drop] at KT
 have KT := Hid.mk' KT
 clear hk1 hr1
 go_wp2_with fail
 refine KT.out.mono ?_
 rintro e w2 ⟨rfl, hr2, hk⟩
 have K3 := Hid.mk' (K2.out.trans hk)
 have E2 := Hid.mk' (E1.out.kept hk hg)
 have RB2 := Hid.mk' (rowK RB1.out hk (.inr (by omega)))
 have hr2 : RL g (L.drop (n + 2)) w2 := hr2
 have R2 := Hid.mk' hr2
 obtain ⟨c0, c1, c2⟩ := hr2.cell
 have KC := cut_any (L.drop (n + 2)) w2 dl
 rw [hq, if_pos h3, List.drop_drop] at KC
 have KC := Hid.mk' KC
 clear hk hr2 KT
 go_wp2_with fail
 refine KC.out.mono ?_
 rintro e w3 ⟨rfl, hb⟩
 have K4 := Hid.mk' (K3.out.trans (KeptIn.of_below hb))
 have E3 := Hid.mk' (E2.out.keep (hb.mono E2.out.hB))
 have RB3 := Hid.mk' (rowB RB2.out hb)
 have R3 := R2.out.below hb
 have P3 := R3.put (L.drop (n + 2 + (q + 1)))
 have E4 := Hid.mk' (E3.out.kept P3.2 hg)
 have K5 := Hid.mk' (K4.out.trans P3.2)
 have RB4 := Hid.mk' (rowK RB3.out P3.2 (.inr (by omega)))
 have P4 := Hid.mk' P3.1
 clear c0 c1 c2
 obtain ⟨c0, c1, c2⟩ := R3.cell
 have sz3 : w.heap.size + 1 ≤ w3.heap.size := by have := RB3.out.lt; omega
 clear hb KC P3 R3
 have KD := implDec_any ⟨((L.drop (n + 2)).take q).toArray⟩ (w3.setCell ⟨g, 0, none⟩ (.string ⟨(L.drop (n + 2 + (q + 1))).toArray⟩)) (by rw [list_size, List.length_take]; omega) E4.out.refs E4.out.errs
 rw [list_data, DL, DC] at KD
 have KD := Hid.mk' KD
 go_wp2_with fail
 generalize w3.setCell ⟨g, 0, none⟩ (.string ⟨(L.drop (n + 2 + (q + 1))).toArray⟩) = w4 at *
 refine KD.out.mono ?_
 rintro e w5 ⟨v, rfl, hob, hin, hb⟩
 have RB5 := rowB RB4.out hb
 obtain ⟨d0, d1, d2⟩ := cells2 RB5
 have f0 := RB5.frozen 0
 have f1 := RB5.frozen 1
 have K6 := Hid.mk' (K5.out.trans (KeptIn.of_below hb))
 have R6 := Hid.mk' (P4.out.below hb)
 have s4 : w.heap.size + 1 ≤ w4.heap.size := RB4.out.lt
 obtain ⟨av, cv, rfl, _⟩ := hob.len
 have OBH := Hid.mk' hob
 have INH := Hid.mk' hin
 have szb := hb.size
 have hfl : ∀ (w : World) (a : Option Addr) (m c : Nat), (Instr.field 64 (.agg #[.int .i64 0, .slice a m c]) 1).run Tryz.prog w = .ok (.slice a m c) w := fun _ _ _ _ => by kernel_rfl
 clear hb RB5 hob hin KD c0 c1 c2
 go_wp2
 refine bodyPost_ret (v := .agg #[.string ⟨(L.take n).toArray⟩, .slice av (decode ((L.drop (n + 2)).take q)).length cv]) (by simp [results, Tryz.results144, go_sem, *]) rfl ?_
 unfold TakeP
 rw [ST.out]
 have KB : KeptIn w.heap.size (w.heap.size + 1) w5 ((w5.setCell ⟨w.heap.size, 0, none⟩ (.string ⟨(L.take n).toArray⟩)).setCell ⟨w.heap.size, 1, none⟩ (.slice av (decode ((L.drop (n + 2)).take q)).length cv)) :=
  ((KeptIn.refl _ _ _).setCell (p := ⟨w.heap.size, 0, none⟩) (Nat.le_refl _) (Nat.lt_succ_self _) _).setCell (p := ⟨w.heap.size, 1, none⟩) (Nat.le_refl _) (Nat.lt_succ_self _) _
 refine ⟨⟨_, rfl, OBH.out.keep (fun k e _ => ?_), fun k e => ?_, ?_⟩, ?_⟩
 ·rw [Deep.blk_setCell_other _ _ _ _ (by have := INH.out k e; show k ≠ w.heap.size; omega), Deep.blk_setCell_other _ _ _ _ (by have := INH.out k e; show k ≠ w.heap.size; omega)]
 ·have := INH.out k e
  simp only [World.heap_size_setCell']; omega
 ·have := rowK R6.out KB (.inl (by omega))
  rw [show n + 2 + q + 1 = n + 2 + (q + 1) from by omega]
  exact this
 ·exact ⟨K6.out.os, K6.out.tape, K6.out.output, by simp only [World.heap_size_setCell']; exact K6.out.size, fun i hi hx => by
   rw [Deep.blk_setCell_other _ _ _ _ (by show i ≠ w.heap.size; omega), Deep.blk_setCell_other _ _ _ _ (by show i ≠ w.heap.size; omega)]
   exact K6.out.block i hi hx⟩
theorem OA.app2 {lo : Nat} {w w1 w2 : World} {v v' u : Value} {l : List AT} {us : List Value} {a : AT} (h : OA lo w v l us) (sz : w.heap.size ≤ w1.heap.size) (hw : ∀ k, lo ≤ k → k < w.heap.size → w1.heap[k]? = w.heap[k]?) (hu : OB w1 u a.vl) (hlo : lo ≤ w.heap.size) (hn : ∀ k, u.ownBlock = some k → w.heap.size ≤ k)
  (ho : w2.ownsRow lo 139 2 v' (l.length + 1) (acs l us ++ [.string a.nm, u])) (hg : w1.grownBy w2 v.ownBlock) (hv : v'.ownBlock = v.ownBlock ∨ v'.ownBlock = some w1.heap.size) : OA lo w2 v' (l ++ [a]) (us ++ [u]) := by
 have g1 : ∀ j, j < l.length → (us ++ [u]).getD j undef = us.getD j undef := fun j hj => by simp [List.getD_eq_getElem?_getD, List.getElem?_append_left (h.len.symm ▸ hj)]
 have g2 : (us ++ [u]).getD l.length undef = u := by simp [List.getD_eq_getElem?_getD, ← h.len]
 have a1 : ∀ j, j < l.length → atK (l ++ [a]) j = atK l j := fun j hj => by simp [atK, List.getD_eq_getElem?_getD, List.getElem?_append_left hj]
 have a2 : atK (l ++ [a]) l.length = a := by simp [atK, List.getD_eq_getElem?_getD]
 have old : ∀ j, j < l.length → ∀ k, (us.getD j undef).ownBlock = some k → k < w.heap.size := fun j hj k e => (h.val j hj).lt k e
 have vold : ∀ k, v.ownBlock = some k → k < w.heap.size := fun k e => (h.row.lt k e).2
 have ult : ∀ k, u.ownBlock = some k → k < w1.heap.size := fun k e => hu.lt k e
 have hvl : ∀ j, j < l.length → OB w2 (us.getD j undef) (atK l j).vl := fun j hj =>
  (h.val j hj).keep (fun k e _ => by
   rw [hg.block k (by have := old j hj k e; omega) (fun e2 => h.av j hj k e2.symm e), hw k (h.vlo j hj k e) (old j hj k e)])
 have huv : OB w2 u a.vl :=
  hu.keep (fun k e _ => hg.block k (ult k e) (fun e2 => by have := vold k e2.symm; have := hn k e; omega))
 refine ⟨by simp [h.len], ?_, fun j hj => ?_, fun j hj k e => ?_, fun i j hij hj => ?_, fun j hj => ?_⟩
 ·rw [acs_snoc _ _ _ _ h.len, List.length_append]; exact ho
 ·rw [List.length_append] at hj
  by_cases e : j = l.length
  ·subst e; rw [g2, a2]; exact huv
  ·rw [g1 j (by simp at hj; omega), a1 j (by simp at hj; omega)]; exact hvl j (by simp at hj; omega)
 ·rw [List.length_append] at hj
  by_cases ej : j = l.length
  ·subst ej; rw [g2] at e; have := hn k e; omega
  ·rw [g1 j (by simp at hj; omega)] at e; exact h.vlo j (by simp at hj; omega) k e
 ·rw [List.length_append] at hj
  rw [g1 i (by simp at hj; omega)]
  by_cases e : j = l.length
  ·subst e; rw [g2]; intro k e1 e2; have := old i hij k e1; have := hn k e2; omega
  ·rw [g1 j (by simp at hj; omega)]; exact h.ap i j hij (by simp at hj; omega)
 ·rw [List.length_append] at hj
  intro k e1 e2
  rcases hv with hv | hv
  ·rw [hv] at e1
   by_cases e : j = l.length
   ·subst e; rw [g2] at e2; have := vold k e1; have := hn k e2; omega
   ·rw [g1 j (by simp at hj; omega)] at e2; exact h.av j (by simp at hj; omega) k e1 e2
  ·rw [hv] at e1
   cases e1
   by_cases e : j = l.length
   ·subst e; rw [g2] at e2; have := ult _ e2; omega
   ·rw [g1 j (by simp at hj; omega)] at e2; have := old j (by simp at hj; omega) _ e2; omega
theorem withAttr_any (lo : Nat) (wz w : World) (v u : Value) (acc : List AT) (us : List Value) (a : AT) (h : OA lo wz v acc us) (hsz : wz.heap.size ≤ w.heap.size) (hk : ∀ k, lo ≤ k → k < wz.heap.size → w.heap[k]? = wz.heap[k]?) (hu : OB w u a.vl) (hn : ∀ k, u.ownBlock = some k → wz.heap.size ≤ k) (hlo : lo ≤ wz.heap.size) (few : acc.length ≤ 1000) :
  Calls Tryz.prog 143 #[v, .agg #[.string a.nm, u]] w fun e w' => ∃ v' us', e = .returned v' ∧ OA lo w' v' (addA acc a) us' ∧ Below lo w w' := by
 obtain ⟨au, cu, rfl, _⟩ := hu.len
 have N0 := below_new w (.cells #[.string a.nm, .slice au a.vl.length cu] 139)
 have HO := h.keep (Nat.le_refl _) hk
 have H0 := Hid.mk' (HO.below N0)
 have U0 := Hid.mk' (hu.below N0)
 obtain ⟨av, cv, rfl, hAA⟩ := (HO.below N0).at
 have RB := Hid.mk' (rowp2 w 139 (.string a.nm) (.slice au a.vl.length cu))
 have B0 := Hid.mk' N0
 have HZ := Hid.mk' h
 have HK := Hid.mk' hk
 have HN := Hid.mk' hn
 have sz0 : (w.alloc (.cells #[.string a.nm, .slice au a.vl.length cu] 139)).heap.size = w.heap.size + 1 := by simp
 have KP := Hid.mk' (placeOf_any av cv acc a.nm _ hAA (by omega))
 clear HO N0 hAA h hk hn hu
 generalize hw0 : w.alloc (.cells #[.string a.nm, .slice au a.vl.length cu] 139) = w0 at *
 obtain ⟨g0, g1, g2⟩ := cells2 RB.out
 by_cases hp : 0 ≤ posK acc a.nm
 ·have E : Hid (addA acc a = acc) := Hid.mk' (by unfold addA; rw [if_pos hp])
  go_enter Tryz.func143, Tryz.ntmps143
  go_wp2_with fail
  clear hw0
  refine KP.out.mono ?_
  rintro e w1 ⟨rfl, hb⟩
  have H1 := Hid.mk' (H0.out.below hb)
  have B1 := Hid.mk' ((B0.out.trans (hb.mono B0.out.size)).mono (show lo ≤ w.heap.size by omega))
  clear hb
  go_wp2
  go_ret
  exact ⟨_, us, rfl, by rw [E.out]; exact H1.out, B1.out⟩
 ·have E : Hid (addA acc a = acc ++ [a]) := Hid.mk' (by unfold addA; rw [if_neg hp])
  go_enter Tryz.func143, Tryz.ntmps143
  go_wp2_with fail
  clear hw0
  refine KP.out.mono ?_
  rintro e w1 ⟨rfl, hb⟩
  have RB1 := rowB RB.out hb
  clear g0 g1 g2
  obtain ⟨g0, g1, g2⟩ := cells2 RB1
  have sz1 := hb.size
  have NN := below_new w1 (.cells #[.string a.nm, .slice au a.vl.length cu] 139)
  have M1 := (B0.out.trans (hb.mono B0.out.size)).trans (NN.mono (show w.heap.size ≤ w1.heap.size by omega))
  have OWN := Hid.mk' ((H0.out.below hb).below NN)
  have U1 := Hid.mk' ((U0.out.below hb).below NN)
  have MM := Hid.mk' M1
  clear RB1 hb NN M1
  go_wp2_with (at_builtin; refine wpList_append_at _ rfl (.tmp 11) (.tmp 13) 105 rfl lo 139 (.agg #[.string ⟨#[]⟩, .slice none 0 0]) 2 40 Tryz.underlying105 Tryz.info139 rfl (by decide) _ _ _ rfl OWN.out.row _ 1 _ [.string a.nm, .slice au a.vl.length cu] rfl rfl (.inr ⟨_, rfl, one_attr w1 _ _ _ _ rfl⟩) (by simp [Value.oneCell']) (by unfold maxLen; omega) (by omega) (by simp; omega) ?_; intro v' w4 ho hgr hat)
  have A4 := Hid.mk' (HZ.out.app2 (w1 := w1.alloc (.cells #[.string a.nm, .slice au a.vl.length cu] 139)) (Nat.le_trans hsz MM.out.size) (fun k h1 h2 => by rw [MM.out.block k (by omega)]; exact HK.out k h1 h2) U1.out hlo HN.out ho hgr hat)
  have B4 := Hid.mk' ((MM.out.mono (show lo ≤ w.heap.size by omega)).grown hgr (by have := MM.out.size; omega) (own_lo OWN.out.row))
  clear ho hgr hat
  go_ret
  exact ⟨_, _, rfl, by rw [E.out]; exact A4.out, B4.out⟩

end Go.Proofs.YtlimgcmhidooaaaGreatDoor
