/- Walks: references read, the program's side. -/
import Derived.Test.YtlimgcmhidooaaaGreatDoorM10
import Derived.Test.YtlimgcmhidooaaaGreatDoorM11
import Derived.BigQuiet
import Derived.Deep.QuietTactic
set_option maxHeartbeats 800000
set_option maxRecDepth 100000
set_option linter.unusedVariables false
set_option linter.unusedSimpArgs false
namespace Go.Proofs.YtlimgcmhidooaaaGreatDoor
open Go.RowKit
def nameText : Nat → List UInt8
 | 0 => [38, 108, 116, 59]
 | 1 => [38, 103, 116, 59]
 | 2 => [38, 97, 109, 112, 59]
 | _ => [38, 113, 117, 111, 116, 59]
def nameOf (L : List UInt8) : Nat × Nat := if Lib.hasPrefix L (nameText 0) = true then (60, 4) else if Lib.hasPrefix L (nameText 1) = true then (62, 4) else if Lib.hasPrefix L (nameText 2) = true then (38, 5) else if Lib.hasPrefix L (nameText 3) = true then (34, 6) else (0, 0)
theorem drewN_below {B : Nat} {w w' : World} (h : Below B w w') (n : Nat) : Below B w (w'.drewN n) := ⟨h.os, h.tape, h.output, h.size, h.block⟩
theorem nameAhead_any (s : ByteArray) (w : World) (hr : Refs w) :
  Calls Tryz.prog 136 #[.string s] w fun e w' => e = .returned (.tuple #[.int .u8 (nameOf s.data.toList).1, .int .i64 (nameOf s.data.toList).2]) ∧ Below w.heap.size w w' := by
 have g0 := hr 0 (by decide)
 have g1 := hr 1 (by decide)
 have g2 := hr 2 (by decide)
 have g3 := hr 3 (by decide)
 have g4 := hr 4 (by decide)
 have g5 := hr 5 (by decide)
 have g6 := hr 6 (by decide)
 have g7 := hr 7 (by decide)
 simp only [refCell] at g0 g1 g2 g3 g4 g5 g6 g7
 clear hr
 go_enter Tryz.func136, Tryz.ntmps136
 go_wp2
 clear g0 g1 g2 g3 g4 g5 g6 g7
 go_loopw [7] (fun i wr => ∃ k : Nat, k ≤ 4 ∧ i = .int .i64 k ∧ (∀ j, j < k → ¬ Lib.hasPrefix s.data.toList (nameText j) = true) ∧ Below w.heap.size w wr) (fun i _ => 4 - (intOf i).toNat)
 case atStart => exact ⟨0, by decide, rfl, fun j h => by omega, Below.refl _ _⟩
 case round =>
  obtain ⟨k, hk, rfl, hn, hb⟩ := hrel
  have HB := Hid.mk' hb
  have hs := hb.size
  have HN := Hid.mk' hn
  clear hb hn
  match k, hk with
  | 0, _ =>
   go_wp2
   rw [show ((0 : Nat) : Int) = 0 from rfl, ix0 wr]
   go_wp2_with fail
   refine (Tryz.strings_HasPrefix s ⟨#[38, 108, 116, 59]⟩ _).mono ?_
   rintro e w1 ⟨rfl, rfl⟩
   by_cases hp : Lib.hasPrefix s.data.toList (nameText 0) = true
   ·have hp' : Lib.hasPrefix s.data.toList [38, 108, 116, 59] = true := hp
    have Z := Hid.mk' (show nameOf s.data.toList = (60, 4) by
     unfold nameOf
     rw [if_pos hp])
    clear hp
    go_wp2
    go_quiet (fail)
    go_wp2
    go_ret2
    rw [Z.out]
    exact ⟨rfl, drewN_below (HB.out.alloc hs _) _⟩
   ·have hp' : Lib.hasPrefix s.data.toList [38, 108, 116, 59] = false := eq_false_of_ne_true hp
    have HP := Hid.mk' hp
    clear hp
    go_wp2
    refine ⟨⟨1, by decide, rfl, fun j hj => ?_, HB.out.alloc hs _⟩, by decide⟩
    by_cases hjk : j = 0
    ·subst hjk
     exact HP.out
    ·exact HN.out j (by omega)
  | 1, _ =>
   go_wp2
   rw [show ((1 : Nat) : Int) = 1 from rfl, ix1 wr]
   go_wp2_with fail
   refine (Tryz.strings_HasPrefix s ⟨#[38, 103, 116, 59]⟩ _).mono ?_
   rintro e w1 ⟨rfl, rfl⟩
   by_cases hp : Lib.hasPrefix s.data.toList (nameText 1) = true
   ·have hp' : Lib.hasPrefix s.data.toList [38, 103, 116, 59] = true := hp
    have Z := Hid.mk' (show nameOf s.data.toList = (62, 4) by
     unfold nameOf
     rw [if_neg (HN.out 0 (by decide)), if_pos hp])
    clear hp
    go_wp2
    go_quiet (fail)
    go_wp2
    go_ret2
    rw [Z.out]
    exact ⟨rfl, drewN_below (HB.out.alloc hs _) _⟩
   ·have hp' : Lib.hasPrefix s.data.toList [38, 103, 116, 59] = false := eq_false_of_ne_true hp
    have HP := Hid.mk' hp
    clear hp
    go_wp2
    refine ⟨⟨2, by decide, rfl, fun j hj => ?_, HB.out.alloc hs _⟩, by decide⟩
    by_cases hjk : j = 1
    ·subst hjk
     exact HP.out
    ·exact HN.out j (by omega)
  | 2, _ =>
   go_wp2
   rw [show ((2 : Nat) : Int) = 2 from rfl, ix2 wr]
   go_wp2_with fail
   refine (Tryz.strings_HasPrefix s ⟨#[38, 97, 109, 112, 59]⟩ _).mono ?_
   rintro e w1 ⟨rfl, rfl⟩
   by_cases hp : Lib.hasPrefix s.data.toList (nameText 2) = true
   ·have hp' : Lib.hasPrefix s.data.toList [38, 97, 109, 112, 59] = true := hp
    have Z := Hid.mk' (show nameOf s.data.toList = (38, 5) by
     unfold nameOf
     rw [if_neg (HN.out 0 (by decide)), if_neg (HN.out 1 (by decide)), if_pos hp])
    clear hp
    go_wp2
    go_quiet (fail)
    go_wp2
    go_ret2
    rw [Z.out]
    exact ⟨rfl, drewN_below (HB.out.alloc hs _) _⟩
   ·have hp' : Lib.hasPrefix s.data.toList [38, 97, 109, 112, 59] = false := eq_false_of_ne_true hp
    have HP := Hid.mk' hp
    clear hp
    go_wp2
    refine ⟨⟨3, by decide, rfl, fun j hj => ?_, HB.out.alloc hs _⟩, by decide⟩
    by_cases hjk : j = 2
    ·subst hjk
     exact HP.out
    ·exact HN.out j (by omega)
  | 3, _ =>
   go_wp2
   rw [show ((3 : Nat) : Int) = 3 from rfl, ix3 wr]
   go_wp2_with fail
   refine (Tryz.strings_HasPrefix s ⟨#[38, 113, 117, 111, 116, 59]⟩ _).mono ?_
   rintro e w1 ⟨rfl, rfl⟩
   by_cases hp : Lib.hasPrefix s.data.toList (nameText 3) = true
   ·have hp' : Lib.hasPrefix s.data.toList [38, 113, 117, 111, 116, 59] = true := hp
    have Z := Hid.mk' (show nameOf s.data.toList = (34, 6) by
     unfold nameOf
     rw [if_neg (HN.out 0 (by decide)), if_neg (HN.out 1 (by decide)), if_neg (HN.out 2 (by decide)), if_pos hp])
    clear hp
    go_wp2
    go_quiet (fail)
    go_wp2
    go_ret2
    rw [Z.out]
    exact ⟨rfl, drewN_below (HB.out.alloc hs _) _⟩
   ·have hp' : Lib.hasPrefix s.data.toList [38, 113, 117, 111, 116, 59] = false := eq_false_of_ne_true hp
    have HP := Hid.mk' hp
    clear hp
    go_wp2
    refine ⟨⟨4, by decide, rfl, fun j hj => ?_, HB.out.alloc hs _⟩, by decide⟩
    by_cases hjk : j = 3
    ·subst hjk
     exact HP.out
    ·exact HN.out j (by omega)
  | 4, _ =>
   have Z := Hid.mk' (show nameOf s.data.toList = (0, 0) by
    unfold nameOf
    rw [if_neg (HN.out 0 (by decide)), if_neg (HN.out 1 (by decide)), if_neg (HN.out 2 (by decide)), if_neg (HN.out 3 (by decide))])
   go_wp2
   go_ret2
   rw [Z.out]
   exact ⟨rfl, HB.out⟩
def numAhead (L : List UInt8) : Nat × Nat := if Lib.hasPrefix L [38, 35] = true then
  (if Lib.indexByte ((L.drop 2).take 4) 59 < 1 then (0, 0) else if ((L.drop 2).getD 0 0).toNat = 48 then (0, 0) else
   match Lib.parseUintB 8 ((L.drop 2).take (Lib.indexByte ((L.drop 2).take 4) 59).toNat) with
   | .ok u => (u, 2 + (Lib.indexByte ((L.drop 2).take 4) 59).toNat + 1)
   | _ => (0, 0)) else (0, 0)
def refImpl (L : List UInt8) : Nat × Nat := if 0 < (nameOf L).2 then nameOf L else numAhead L
theorem index_semi : ∀ (D : List UInt8) (n : Nat), Lib.indexByte (D.take n) 59 = (match semi D n with | some m => (m : Int) | none => -1)
 | D, 0 => by cases D <;> rfl
 | [], n + 1 => rfl
 | c :: r, n + 1 => by
  have ih := index_semi r n
  simp only [List.take_succ_cons, Lib.indexByte, semi]
  by_cases h : c.toNat = 59
  ·have : c = 59 := UInt8.toNat_inj.1 h
   subst this
   rfl
  ·have hc : (c == 59) = false := by rw [beq_eq_false_iff_ne]; intro e; subst e; exact h rfl
   rw [if_neg h, hc, ih]
   cases semi r n with
   | none => rfl
   | some m =>
    have hm : (((m : Int)) == -1) = false := by rw [beq_eq_false_iff_ne]; omega
    simp only [Option.map_some, hm]
    rfl
theorem semi_spec : ∀ (R : List UInt8) (n m : Nat), semi R n = some m → m < n ∧ ∃ S, R = R.take m ++ 59 :: S
 | [], 0, _, h => by cases h
 | _ :: _, 0, _, h => by cases h
 | [], _ + 1, _, h => by cases h
 | c :: r, n + 1, m, h => by
  simp only [semi] at h
  by_cases hc : c.toNat = 59
  ·rw [if_pos hc] at h
   cases h
   have : c = 59 := UInt8.toNat_inj.1 hc
   subst this
   exact ⟨Nat.succ_pos _, r, rfl⟩
  ·rw [if_neg hc] at h
   cases hs : semi r n with
   | none => rw [hs] at h; cases h
   | some k =>
    rw [hs] at h
    cases h
    obtain ⟨h1, S, h2⟩ := semi_spec r n k hs
    refine ⟨Nat.succ_lt_succ h1, S, ?_⟩
    show c :: r = c :: (r.take k ++ 59 :: S)
    rw [← h2]
theorem valF_ge : ∀ (l : List UInt8) (a : Nat), a ≤ valF a l
 | [], a => Nat.le_refl a
 | c :: r, a => by
  have := valF_ge r (a * 10 + (c.toNat - 48))
  show a ≤ valF (a * 10 + (c.toNat - 48)) r
  omega
theorem parse_yes : ∀ (l : List UInt8) (a : Nat), l.all isD = true → valF a l ≤ 255 → Lib.parseUintM 255 a l = .ok (valF a l)
 | [], a, _, _ => rfl
 | c :: r, a, h, hv => by
  simp only [List.all_cons, Bool.and_eq_true] at h
  have hc := isD_bd h.1
  have hv : valF (a * 10 + (c.toNat - 48)) r ≤ 255 := hv
  have hg := valF_ge r (a * 10 + (c.toNat - 48))
  simp only [Lib.parseUintM]
  rw [if_pos hc, if_neg (by omega), if_neg (by omega)]
  exact parse_yes r _ h.2 hv
theorem parse_no : ∀ (l : List UInt8) (a u : Nat), a ≤ 255 → Lib.parseUintM 255 a l = .ok u → l.all isD = true ∧ valF a l ≤ 255
 | [], a, u, ha, _ => ⟨rfl, ha⟩
 | c :: r, a, u, ha, h => by
  simp only [Lib.parseUintM] at h
  by_cases hc : 48 ≤ c.toNat ∧ c.toNat ≤ 57
  ·rw [if_pos hc] at h
   rw [if_neg (by omega)] at h
   by_cases hv : 255 < a * 10 + (c.toNat - 48)
   ·rw [if_pos hv] at h; cases h
   ·rw [if_neg hv] at h
    have ih := parse_no r _ u (by omega) h
    refine ⟨?_, ih.2⟩
    rw [List.all_cons, ih.1]
    have : isD c = true := by unfold isD; simp only [hc.1, hc.2, decide_true, Bool.and_self]
    rw [this]; rfl
  ·rw [if_neg hc] at h; cases h
theorem prefix_iff (L p : List UInt8) : Lib.hasPrefix L p = true ↔ ∃ S, L = p ++ S := by
 unfold Lib.hasPrefix
 rw [List.isPrefixOf_iff_prefix]
 exact ⟨fun ⟨S, h⟩ => ⟨S, h.symm⟩, fun ⟨S, h⟩ => ⟨S, h.symm⟩⟩
theorem num_case (D : List UInt8) : refOf (38 :: 35 :: D) = numAhead (38 :: 35 :: D) := by
 have hp : Lib.hasPrefix (38 :: 35 :: D) [38, 35] = true := (prefix_iff _ _).2 ⟨D, rfl⟩
 unfold numAhead
 rw [if_pos hp]
 show refOf (38 :: 35 :: D) = (if Lib.indexByte (D.take 4) 59 < 1 then (0, 0) else if (D.getD 0 0).toNat = 48 then (0, 0) else
   match Lib.parseUintB 8 (D.take (Lib.indexByte (D.take 4) 59).toNat) with
   | .ok u => (u, 2 + (Lib.indexByte (D.take 4) 59).toNat + 1)
   | _ => (0, 0))
 rw [index_semi D 4]
 have hr : refOf (38 :: 35 :: D) = (match (semi D 4).map (· + 1) with
   | some m => (match namedOf ((35 :: D).take m) with
    | some b => (b, m + 2)
    | none => (0, 0))
   | none => (0, 0)) := rfl
 rw [hr]
 cases hs : semi D 4 with
 | none => rfl
 | some m =>
  obtain ⟨hm4, S, hD⟩ := semi_spec D 4 m hs
  have hlen : m < D.length := by
   have := congrArg List.length hD
   rw [List.length_append, List.length_cons, List.length_take] at this
   omega
  have htl : (D.take m).length = m := by rw [List.length_take]; omega
  simp only [Option.map_some, List.take_succ_cons, Int.toNat_natCast]
  have hn : namedOf (35 :: D.take m) = if 1 < (35 :: D.take m).length ∧ ((35 :: D.take m).getD 0 0).toNat = 35 then numOf ((35 :: D.take m).drop 1) else none := by
   unfold namedOf
   rw [if_neg (by intro e; cases e), if_neg (by intro e; cases e), if_neg (by intro e; cases e), if_neg (by intro e; cases e)]
  rw [hn, show (35 :: D.take m).drop 1 = D.take m from rfl]
  by_cases h0 : m = 0
  ·subst h0
   rfl
  ·rw [if_pos ⟨by rw [List.length_cons, htl]; omega, rfl⟩, if_neg (by omega)]
   have hg : (D.take m).getD 0 0 = D.getD 0 0 := by
    rw [List.getD_eq_getElem?_getD, List.getD_eq_getElem?_getD, List.getElem?_take, if_pos (by omega)]
   by_cases h48 : (D.getD 0 0).toNat = 48
   ·rw [if_pos h48]
    have : numOf (D.take m) = none := by unfold numOf; rw [if_neg (by rw [hg]; exact fun h => h.2 h48)]
    rw [this]
   ·rw [if_neg h48]
    have hnum : numOf (D.take m) = if (D.take m).all isD = true ∧ valF 0 (D.take m) ≤ 255 then some (valF 0 (D.take m)) else none := by
     unfold numOf; rw [if_pos ⟨⟨by omega, by omega⟩, by rw [hg]; exact h48⟩]
    have hne : ¬ D.take m = [] := by intro e; rw [e] at htl; simp at htl; omega
    have hpb : Lib.parseUintB 8 (D.take m) = Lib.parseUintM 255 0 (D.take m) := by unfold Lib.parseUintB; rw [if_neg hne]
    rw [hnum, hpb]
    by_cases hq : (D.take m).all isD = true ∧ valF 0 (D.take m) ≤ 255
    ·rw [if_pos hq, parse_yes _ 0 hq.1 hq.2]
     show (valF 0 (D.take m), m + 1 + 2) = (valF 0 (D.take m), 2 + m + 1)
     congr 1
     omega
    ·rw [if_neg hq]
     cases hP : Lib.parseUintM 255 0 (D.take m) with
     | ok u => exact absurd (parse_no _ 0 u (by decide) hP) hq
     | _ => rfl
theorem ref_same (L : List UInt8) : refImpl L = refOf L := by
 unfold refImpl nameOf
 by_cases p0 : Lib.hasPrefix L (nameText 0) = true
 ·obtain ⟨S, rfl⟩ := (prefix_iff _ _).1 p0
  rw [if_pos p0]; rfl
 rw [if_neg p0]
 by_cases p1 : Lib.hasPrefix L (nameText 1) = true
 ·obtain ⟨S, rfl⟩ := (prefix_iff _ _).1 p1
  rw [if_pos p1]; rfl
 rw [if_neg p1]
 by_cases p2 : Lib.hasPrefix L (nameText 2) = true
 ·obtain ⟨S, rfl⟩ := (prefix_iff _ _).1 p2
  rw [if_pos p2]; rfl
 rw [if_neg p2]
 by_cases p3 : Lib.hasPrefix L (nameText 3) = true
 ·obtain ⟨S, rfl⟩ := (prefix_iff _ _).1 p3
  rw [if_pos p3]; rfl
 rw [if_neg p3, if_neg (by decide)]
 by_cases p4 : Lib.hasPrefix L [38, 35] = true
 ·obtain ⟨S, rfl⟩ := (prefix_iff _ _).1 p4
  exact (num_case S).symm
 ·have hn : numAhead L = (0, 0) := by unfold numAhead; rw [if_neg p4]
  rw [hn]
  cases L with
  | nil => rfl
  | cons c R =>
   show (0, 0) = refOf (c :: R)
   rw [refOf]
   by_cases hc : c.toNat = 38
   ·have : c = 38 := UInt8.toNat_inj.1 hc
    subst this
    rw [if_pos hc]
    cases hs : semi R 5 with
    | none => rfl
    | some m =>
     obtain ⟨hm, S, hR⟩ := semi_spec R 5 m hs
     have hno : namedOf (R.take m) = none := by
      generalize R.take m = T at hR
      subst hR
      unfold namedOf
      rw [if_neg (fun e => p0 ((prefix_iff _ _).2 ⟨S, by rw [e]; rfl⟩)), if_neg (fun e => p1 ((prefix_iff _ _).2 ⟨S, by rw [e]; rfl⟩)), if_neg (fun e => p2 ((prefix_iff _ _).2 ⟨S, by rw [e]; rfl⟩)), if_neg (fun e => p3 ((prefix_iff _ _).2 ⟨S, by rw [e]; rfl⟩))]
      rw [if_neg]
      rintro ⟨h1, h2⟩
      cases T with
      | nil => simp at h1
      | cons x T' =>
       have h2 : x.toNat = 35 := h2
       have : x = 35 := UInt8.toNat_inj.1 h2
       subst this
       exact p4 ((prefix_iff _ _).2 ⟨T' ++ 59 :: S, rfl⟩)
     simp only [hno]
   ·rw [if_neg hc]
end Go.Proofs.YtlimgcmhidooaaaGreatDoor
