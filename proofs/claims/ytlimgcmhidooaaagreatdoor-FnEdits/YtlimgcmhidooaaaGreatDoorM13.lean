/- Walks: a reference by number, and either, the program's side. -/
import Derived.Test.YtlimgcmhidooaaaGreatDoorM12
import Derived.Lib.SmallJoins
import Derived.Test.YtlimgcmhidooaaaGreatDoorM9
import Derived.Test.YtlimgcmhidooaaaGreatDoorM5
set_option maxHeartbeats 2000000
set_option maxRecDepth 100000
set_option linter.unusedVariables false
set_option linter.unusedSimpArgs false
namespace Go.Proofs.YtlimgcmhidooaaaGreatDoor
open Go.RowKit
def Errs (w : World) : Prop := (∃ tp p, w.var? Tryz.prog "strconv.ErrSyntax" = some #[.iface tp p]) ∧ (∃ tp p, w.var? Tryz.prog "strconv.ErrRange" = some #[.iface tp p])
theorem var_keep {w w' : World} {n : String} {cs : Array Value} (hv : w.var? Tryz.prog n = some cs) (hb : Below w.heap.size w w') : w'.var? Tryz.prog n = some cs := by
 unfold World.var? at hv ⊢
 cases hg : Tryz.prog.globalNamed n with
 | none => rw [hg] at hv; cases hv
 | some g =>
  rw [hg] at hv
  simp only [Option.bind_some] at hv ⊢
  have hlt : g < w.heap.size := by
   refine Nat.lt_of_not_le fun hn => ?_
   rw [Array.getElem?_eq_none hn] at hv
   cases hv
  rw [hb.block g hlt]
  exact hv
theorem Errs.below {w w' : World} (h : Errs w) (hb : Below w.heap.size w w') : Errs w' := by
 obtain ⟨⟨a, b, h1⟩, ⟨c, d, h2⟩⟩ := h
 exact ⟨⟨a, b, var_keep h1 hb⟩, ⟨c, d, var_keep h2 hb⟩⟩
theorem head_list (s : ByteArray) (n : Nat) : (s.extract 0 n).data.toList = s.data.toList.take n := by rw [ext_list]; simp
theorem parse_ok_le {l : List UInt8} {u : Nat} (h : Lib.parseUintB 8 l = .ok u) : u ≤ 255 := by
 unfold Lib.parseUintB at h
 split at h
 ·cases h
 ·have h : Lib.parseUintM 255 0 l = .ok u := h
  have := parse_no l 0 u (by decide) h
  rw [parse_yes l 0 this.1 this.2] at h
  cases h
  exact this.2
theorem parse_any (s : ByteArray) (w : World) (hs : s.size ≤ 1048576) (he : Errs w) :
  Calls Tryz.prog 155 #[.string s, .int .i64 10, .int .i64 8] w fun e w' => (∃ v er, e = .returned (.tuple #[.int .u64 v, er]) ∧ ((∃ u : Nat, Lib.parseUintB 8 s.data.toList = .ok u ∧ v = u ∧ er = .nilIface) ∨ ((∀ u, ¬ Lib.parseUintB 8 s.data.toList = .ok u) ∧ ∃ b, er = .iface 207 (.pointer (some ⟨b, 0, none⟩))))) ∧ Below w.heap.size w w' := by
 obtain ⟨⟨t1, p1, h1⟩, ⟨t2, p2, h2⟩⟩ := he
 cases hP : Lib.parseUintB 8 s.data.toList with
 | ok u =>
  refine (Tryz.strconv_ParseUint_10_at8_ok s (by omega) u hP w).mono ?_
  rintro e w' ⟨rfl, h | h⟩
  ·subst h; exact ⟨⟨_, _, rfl, .inl ⟨u, rfl, rfl, rfl⟩⟩, Below.refl _ _⟩
  ·subst h; exact ⟨⟨_, _, rfl, .inl ⟨u, rfl, rfl, rfl⟩⟩, Lib.bytesWorld_below w 5 s⟩
 | «syntax» =>
  refine (Tryz.strconv_ParseUint_10_at8_syntax_var s (by omega) hP t1 p1 w h1).mono ?_
  rintro e w' ⟨N, rfl, _, _, hb⟩
  exact ⟨⟨_, _, rfl, .inr ⟨fun u h => (by cases h), N, rfl⟩⟩, hb⟩
 | range =>
  refine (Tryz.strconv_ParseUint_10_at8_range_var s (by omega) hP t2 p2 w h2).mono ?_
  rintro e w' ⟨N, rfl, _, _, hb⟩
  exact ⟨⟨_, _, rfl, .inr ⟨fun u h => (by cases h), N, rfl⟩⟩, hb⟩
theorem take_min (D : List UInt8) (n : Nat) (h : D.length = n) : D.take (min (n : Int) 4).toNat = D.take 4 := by
 by_cases hn : n ≤ 4
 ·rw [show (min (n : Int) 4).toNat = n from by omega, List.take_of_length_le (by omega), List.take_of_length_le (by omega)]
 ·rw [show (min (n : Int) 4).toNat = 4 from by omega]
theorem index_any (r : ByteArray) (D : List UInt8) (e : r.data.toList = D) (w : World) :
  Calls Tryz.prog 154 #[.string (r.extract 0 (min (r.size : Int) 4).toNat), .int .u8 59] w fun e w' => e = .returned (.int .i64 (Lib.indexByte (D.take 4) 59)) ∧ w' = w := by
 have h := Tryz.strings_IndexByte (r.extract 0 (min (r.size : Int) 4).toNat) 59 w
 rw [head_list, e, take_min D r.size (by rw [← e]; exact len_list r)] at h
 exact h
theorem index_bd (D : List UInt8) : -1 ≤ Lib.indexByte (D.take 4) 59 ∧ Lib.indexByte (D.take 4) 59 ≤ 3 ∧ (1 ≤ Lib.indexByte (D.take 4) 59 → (Lib.indexByte (D.take 4) 59).toNat < D.length) := by
 rw [index_semi D 4]
 cases hs : semi D 4 with
 | none => exact ⟨by decide, by decide, fun h => absurd h (by decide)⟩
 | some m =>
  obtain ⟨h1, S, h2⟩ := semi_spec D 4 m hs
  have hlen : m < D.length := by
   have := congrArg List.length h2
   rw [List.length_append, List.length_cons, List.length_take] at this
   omega
  refine ⟨by show -1 ≤ (m : Int); omega, by show (m : Int) ≤ 3; omega, fun _ => hlen⟩
theorem number_any (s : ByteArray) (w : World) (hs : s.size ≤ 1048576) (he : Errs w) :
  Calls Tryz.prog 137 #[.string s] w fun e w' => e = .returned (.tuple #[.int .u8 (numAhead s.data.toList).1, .int .i64 (numAhead s.data.toList).2]) ∧ Below w.heap.size w w' := by
 have hL := len_list s
 have C := Tryz.strings_CutPrefix s ⟨#[38, 35]⟩ w
 have HE := Hid.mk' he
 clear he
 cases hp : Lib.hasPrefix s.data.toList [38, 35] with
 | false =>
  have Z := Hid.mk' (show numAhead s.data.toList = (0, 0) by unfold numAhead; rw [hp]; rfl)
  have hp' : Lib.hasPrefix s.data.toList ([38, 35] : List UInt8) = false := hp
  rw [show (⟨#[38, 35]⟩ : ByteArray).data.toList = [38, 35] from rfl, hp'] at C
  have hr : (⟨(Lib.trimPrefix s.data.toList [38, 35]).toArray⟩ : ByteArray) = s := by unfold Lib.trimPrefix; rw [hp']; rfl
  rw [hr] at C
  have CC := Hid.mk' C
  clear C hp hp' hr
  go_enter Tryz.func137, Tryz.ntmps137
  go_wp2_with fail
  refine CC.out.mono ?_
  rintro e w1 ⟨rfl, rfl⟩
  clear CC
  go_wp2_with fail
  refine (index_any s _ rfl _).mono ?_
  rintro e w2 ⟨rfl, rfl⟩
  go_wp2
  go_ret2
  rw [Z.out]
  exact ⟨rfl, Below.refl _ _⟩
 | true =>
  have hp' : Lib.hasPrefix s.data.toList ([38, 35] : List UInt8) = true := hp
  have hN : numAhead s.data.toList = (if Lib.indexByte ((s.data.toList.drop 2).take 4) 59 < 1 then (0, 0) else if ((s.data.toList.drop 2).getD 0 0).toNat = 48 then (0, 0) else
   match Lib.parseUintB 8 ((s.data.toList.drop 2).take (Lib.indexByte ((s.data.toList.drop 2).take 4) 59).toNat) with
   | .ok u => (u, 2 + (Lib.indexByte ((s.data.toList.drop 2).take 4) 59).toNat + 1)
   | _ => (0, 0)) := by unfold numAhead; rw [if_pos hp]; rfl
  rw [show (⟨#[38, 35]⟩ : ByteArray).data.toList = [38, 35] from rfl, hp'] at C
  have hr : Lib.trimPrefix s.data.toList [38, 35] = s.data.toList.drop 2 := by unfold Lib.trimPrefix; rw [hp']; rfl
  rw [hr] at C
  obtain ⟨r, hrr⟩ : ∃ r : ByteArray, r = ⟨(s.data.toList.drop 2).toArray⟩ := ⟨_, rfl⟩
  have hrd : r.data.toList = s.data.toList.drop 2 := by rw [hrr]
  rw [← hrr] at C
  have hrs : r.size ≤ 1048576 := by rw [← len_list r, hrd, List.length_drop]; omega
  have hrl : (s.data.toList.drop 2).length = r.size := by rw [← hrd]; exact len_list r
  have HN := Hid.mk' hN
  have CC := Hid.mk' C
  have EE := Hid.mk' hrd
  have bd := index_bd (s.data.toList.drop 2)
  have hg := get_list hrd
  clear C hp hp' hr hrr hN hrd hL
  generalize numAhead s.data.toList = N at *
  generalize s.data.toList.drop 2 = D at *
  have IX := Hid.mk' (index_any r D EE.out w)
  generalize hix : Lib.indexByte (D.take 4) 59 = ix at *
  obtain ⟨b1, b2, b3⟩ := bd
  by_cases h1 : ix < 1
  ·have Z := Hid.mk' (show N = (0, 0) by rw [HN.out, if_pos h1])
   clear b3 hg
   go_enter Tryz.func137, Tryz.ntmps137
   go_wp2_with fail
   refine CC.out.mono ?_
   rintro e w1 ⟨rfl, rfl⟩
   clear CC
   go_wp2_with fail
   refine IX.out.mono ?_
   rintro e w2 ⟨rfl, rfl⟩
   go_wp2
   go_ret2
   rw [Z.out]
   exact ⟨rfl, Below.refl _ _⟩
  ·have b3 := b3 (by omega)
   have h00 : 0 < r.size := by omega
   have h0 := hg 0 h00
   by_cases h2 : (r[0]'h00).toNat = 48
   ·have Z := Hid.mk' (show N = (0, 0) by rw [HN.out, if_neg h1, if_pos (by rw [← h0]; exact h2)])
    have i2 : (((r[0]'h00).toNat : Int) == 48) = true := by rw [beq_iff_eq]; omega
    clear hg h0 h2
    go_enter Tryz.func137, Tryz.ntmps137
    go_wp2_with fail
    refine CC.out.mono ?_
    rintro e w1 ⟨rfl, rfl⟩
    clear CC
    go_wp2_with fail
    refine IX.out.mono ?_
    rintro e w2 ⟨rfl, rfl⟩
    go_wp2
    go_ret2
    rw [Z.out]
    exact ⟨rfl, Below.refl _ _⟩
   ·have Z := Hid.mk' (show N = (match Lib.parseUintB 8 (D.take ix.toNat) with
      | .ok u => (u, 2 + ix.toNat + 1)
      | _ => (0, 0)) by rw [HN.out, if_neg h1, if_neg (by rw [← h0]; exact h2)])
    have i2 : (((r[0]'h00).toNat : Int) == 48) = false := by rw [beq_eq_false_iff_ne]; omega
    have F := parse_any (r.extract 0 ix.toNat) w (by rw [ByteArray.size_extract]; omega) HE.out
    rw [head_list, EE.out] at F
    have FF := Hid.mk' F
    clear hg h0 h2 F
    go_enter Tryz.func137, Tryz.ntmps137
    go_wp2_with fail
    refine CC.out.mono ?_
    rintro e w1 ⟨rfl, rfl⟩
    clear CC
    go_wp2_with fail
    refine IX.out.mono ?_
    rintro e w2 ⟨rfl, rfl⟩
    go_wp2_with fail
    refine FF.out.mono ?_
    rintro e w3 ⟨⟨v, er, rfl, ⟨u, hu, rfl, rfl⟩ | ⟨hu, b, rfl⟩⟩, hb3⟩
    ·have BB := Hid.mk' hb3
     have ul := parse_ok_le hu
     have Z' := Hid.mk' (show N = (u, 2 + ix.toNat + 1) by rw [Z.out, hu])
     have hw : IntKind.u8.wrap (u : Int) = u := by unfold IntKind.wrap; simp [IntKind.bits, IntKind.signed]; omega
     have hv : ((ix.toNat : Nat) : Int) = ix := by omega
     have V := Hid.mk' hv
     clear hb3 hu FF IX hv
     go_wp2
     go_ret2
     rw [Z'.out]
     refine ⟨?_, BB.out⟩
     show Ending.returned (.tuple #[.int .u8 (u : Int), .int .i64 (2 + ix + 1)]) = .returned (.tuple #[.int .u8 (u : Int), .int .i64 ((2 + ix.toNat + 1 : Nat) : Int)])
     rw [show ((2 + ix.toNat + 1 : Nat) : Int) = 2 + ix + 1 from by have := V.out; omega]
    ·have BB := Hid.mk' hb3
     have Z' := Hid.mk' (show N = (0, 0) by
      rw [Z.out]
      cases hq : Lib.parseUintB 8 (D.take ix.toNat) with
      | ok u => exact absurd hq (hu u)
      | _ => rfl)
     clear hb3 hu FF IX
     go_wp2
     go_ret2
     rw [Z'.out]
     exact ⟨rfl, BB.out⟩
theorem nameOf_small (L : List UInt8) : (nameOf L).2 ≤ 6 := by
 unfold nameOf
 split
 ·decide
 split
 ·decide
 split
 ·decide
 split <;> decide
theorem refAhead_any (s : ByteArray) (w : World) (hs : s.size ≤ 1048576) (hr : Refs w) (he : Errs w) :
  Calls Tryz.prog 124 #[.string s] w fun e w' => e = .returned (.tuple #[.int .u8 (refOf s.data.toList).1, .int .i64 (refOf s.data.toList).2]) ∧ Below w.heap.size w w' := by
 have N := nameAhead_any s w hr
 have S : Hid (refOf s.data.toList = if 0 < (nameOf s.data.toList).2 then nameOf s.data.toList else numAhead s.data.toList) := (ref_same _).symm
 have NN := Hid.mk' N
 have HE := Hid.mk' he
 have sm := nameOf_small s.data.toList
 clear N hr he
 generalize nameOf s.data.toList = q at *
 obtain ⟨q1, q2⟩ := q
 simp only at sm S NN
 by_cases h : 0 < q2
 ·rw [if_pos h] at S
  have i1 : 0 < (q2 : Int) := by omega
  go_enter Tryz.func124, Tryz.ntmps124
  go_wp2_with fail
  refine NN.out.mono ?_
  rintro e w1 ⟨rfl, hb1⟩
  have B1 := Hid.mk' hb1
  clear hb1 NN
  go_wp2
  go_ret2
  rw [S.out]
  exact ⟨rfl, B1.out⟩
 ·rw [if_neg h] at S
  have i1 : ¬ 0 < (q2 : Int) := by omega
  go_enter Tryz.func124, Tryz.ntmps124
  go_wp2_with fail
  refine NN.out.mono ?_
  rintro e w1 ⟨rfl, hb1⟩
  have B1 := Hid.mk' hb1
  have E1 := Hid.mk' (HE.out.below hb1)
  clear hb1 NN HE
  go_wp2_with fail
  refine (number_any s _ hs E1.out).mono ?_
  rintro e w2 ⟨rfl, hb2⟩
  have B2 := Hid.mk' (B1.out.trans (hb2.mono B1.out.size))
  clear hb2 B1 E1
  go_wp2
  go_ret2
  rw [S.out]
  exact ⟨rfl, B2.out⟩
def raOf (L : List UInt8) (x : Int) : Int × Int × Int := if 0 ≤ x ∧ x < L.length then (if (refOf (L.drop x.toNat)).2 = 0 then (5, 0, 0) else (0, (refOf (L.drop x.toNat)).1, (refOf (L.drop x.toNat)).2)) else (3, 0, 0)
theorem tail_list (s : ByteArray) (k : Nat) : (s.extract k s.size).data.toList = s.data.toList.drop k := by
 rw [ext_list, List.take_of_length_le (by rw [List.length_drop, len_list]; omega)]
theorem three {B : Nat} {w w' : World} (h : Below B w w') {c : Nat} {v1 v2 v3 : Value} (hc : B ≤ c) : Below B w (((w'.setCell ⟨c, 0, none⟩ v1).setCell ⟨c, 1, none⟩ v2).setCell ⟨c, 2, none⟩ v3) :=
 ((h.setCell (p := ⟨c, 0, none⟩) hc _).setCell (p := ⟨c, 1, none⟩) hc _).setCell (p := ⟨c, 2, none⟩) hc _
theorem refOf_byte (L : List UInt8) : (refOf L).1 ≤ 255 := by
 cases L with
 | nil => exact Nat.zero_le _
 | cons c R =>
  rw [refOf]
  split
  ·cases semi R 5 with
   | none => exact Nat.zero_le _
   | some m =>
    cases hn : namedOf (R.take m) with
    | none => simp only [hn]; exact Nat.zero_le _
    | some b =>
     simp only [hn]
     unfold namedOf at hn
     split at hn
     ·cases hn; decide
     split at hn
     ·cases hn; decide
     split at hn
     ·cases hn; decide
     split at hn
     ·cases hn; decide
     split at hn
     ·unfold numOf at hn
      split at hn
      ·split at hn
       ·rename_i h; cases hn; exact h.2
       ·cases hn
      ·cases hn
     ·cases hn
  ·exact Nat.zero_le _
theorem implRA_any (s : ByteArray) (x : Int) (w : World) (hs : s.size ≤ 1048576) (b1 : -9223372036854775808 ≤ x) (b2 : x ≤ 9223372036854775807) (hr : Refs w) (he : Errs w) :
  Calls Tryz.prog 114 #[.string s, .int .i64 x] w fun e w' => e = .returned (.agg #[.int .i64 (raOf s.data.toList x).1, .int .i64 (raOf s.data.toList x).2.1, .int .i64 (raOf s.data.toList x).2.2]) ∧ Below w.heap.size w w' := by
 have hL := len_list s
 have B0 := (Below.refl w.heap.size w).alloc (Nat.le_refl _) (.cells #[.int .i64 0, .int .i64 0, .int .i64 0] 154)
 unfold raOf
 by_cases h : 0 ≤ x ∧ x < s.data.toList.length
 ·rw [if_pos h]
  obtain ⟨k, rfl⟩ : ∃ k : Nat, x = k := ⟨x.toNat, by omega⟩
  have hk : k < s.size := by omega
  have hk' : (k : Int) < s.size := by omega
  have F2 := refAhead_any (s.extract k s.size) _ (by rw [ByteArray.size_extract]; omega) (hr.below B0) (he.below B0)
  rw [tail_list] at F2
  have G2 := Hid.mk' F2
  have BB := Hid.mk' B0
  rw [Int.toNat_natCast]
  clear F2 h hL B0 hr he
  have rb := refOf_byte (s.data.toList.drop k)
  generalize refOf (s.data.toList.drop k) = q at *
  obtain ⟨q1, q2⟩ := q
  simp only at rb
  by_cases h0 : q2 = 0
  ·subst h0
   rw [if_pos rfl]
   go_enter Tryz.func114, Tryz.ntmps114
   go_wp2_with fail
   refine G2.out.mono ?_
   rintro e w1 ⟨rfl, hb1⟩
   have B1 := Hid.mk' (BB.out.trans (hb1.mono (by simp)))
   obtain ⟨hx, hy⟩ := bcell hb1
   simp at hx hy
   have y := hb1.size
   simp at y
   clear G2 hb1
   go_wp2
   exact bodyPost_ret (v := .agg #[.int .i64 5, .int .i64 0, .int .i64 0]) (by simp [results, Tryz.results114, go_sem, *]) rfl ⟨rfl, three B1.out (Nat.le_refl _)⟩
  ·rw [if_neg h0]
   have i0 : ((q2 : Int) == 0) = false := by rw [beq_eq_false_iff_ne]; omega
   clear h0
   go_enter Tryz.func114, Tryz.ntmps114
   go_wp2_with fail
   refine G2.out.mono ?_
   rintro e w1 ⟨rfl, hb1⟩
   have B1 := Hid.mk' (BB.out.trans (hb1.mono (by simp)))
   obtain ⟨hx, hy⟩ := bcell hb1
   simp at hx hy
   have y := hb1.size
   simp at y
   clear G2 hb1
   go_wp2
   exact bodyPost_ret (v := .agg #[.int .i64 0, .int .i64 (q1 : Int), .int .i64 (q2 : Int)]) (by simp [results, Tryz.results114, go_sem, *]) rfl ⟨rfl, three B1.out (Nat.le_refl _)⟩
 ·rw [if_neg h]
  clear hr he
  by_cases h1 : x < 0
  ·clear h
   go_enter Tryz.func114, Tryz.ntmps114
   go_wp2
   exact bodyPost_ret (v := .agg #[.int .i64 3, .int .i64 0, .int .i64 0]) (by simp [results, Tryz.results114, go_sem, *]) rfl ⟨rfl, (Below.refl _ _).alloc (Nat.le_refl _) _⟩
  ·have h2 : (s.size : Int) ≤ x := by omega
   clear h
   go_enter Tryz.func114, Tryz.ntmps114
   go_wp2
   exact bodyPost_ret (v := .agg #[.int .i64 3, .int .i64 0, .int .i64 0]) (by simp [results, Tryz.results114, go_sem, *]) rfl ⟨rfl, (Below.refl _ _).alloc (Nat.le_refl _) _⟩
def dec : Nat → List UInt8 → List Int
 | 0, _ => []
 | _ + 1, [] => []
 | n + 1, c :: r => if (refOf (c :: r)).2 = 0 then (c.toNat : Int) :: dec n r else ((refOf (c :: r)).1 : Int) :: dec n ((c :: r).drop (refOf (c :: r)).2)
def decode (L : List UInt8) : List Int := dec L.length L
theorem dec_nil (n : Nat) : dec n [] = [] := by cases n <;> rfl
theorem dec_len : ∀ (n : Nat) (L : List UInt8), (dec n L).length ≤ n
 | 0, _ => Nat.le_refl _
 | n + 1, [] => Nat.zero_le _
 | n + 1, c :: r => by
  unfold dec
  split
  ·have := dec_len n r; simp only [List.length_cons]; omega
  ·have := dec_len n ((c :: r).drop (refOf (c :: r)).2); simp only [List.length_cons]; omega
theorem refOf_len (L : List UInt8) : (refOf L).2 ≤ L.length := by
 cases L with
 | nil => exact Nat.le_refl _
 | cons c R =>
  show (if c.toNat = 38 then (match semi R 5 with
   | some m => (match namedOf (R.take m) with
    | some b => (b, m + 2)
    | none => (0, 0))
   | none => (0, 0)) else ((0, 0) : Nat × Nat)).2 ≤ _
  split
  ·split
   ·rename_i m hm
    obtain ⟨_, S, hS⟩ := semi_spec R 5 m hm
    split
    ·have hl := congrArg List.length hS
     simp only [List.length_append, List.length_cons, List.length_take] at hl
     simp only [List.length_cons]
     omega
    ·exact Nat.zero_le _
   ·exact Nat.zero_le _
  ·exact Nat.zero_le _
theorem dec_raw (L : List UInt8) (k f : Nat) (h : k < L.length) (hf : L.length - k ≤ f) (hr : (refOf (L.drop k)).2 = 0) : ∃ f', L.length - (k + 1) ≤ f' ∧ dec f (L.drop k) = ((L.getD k 0).toNat : Int) :: dec f' (L.drop (k + 1)) := by
 obtain ⟨f', rfl⟩ : ∃ f', f = f' + 1 := ⟨f - 1, by omega⟩
 refine ⟨f', by omega, ?_⟩
 rw [drop_cons L k h] at hr ⊢
 rw [dec, if_pos hr]
theorem dec_ref (L : List UInt8) (k f : Nat) (h : k < L.length) (hf : L.length - k ≤ f) (hr : ¬ (refOf (L.drop k)).2 = 0) : ∃ f', L.length - (k + (refOf (L.drop k)).2) ≤ f' ∧ dec f (L.drop k) = ((refOf (L.drop k)).1 : Int) :: dec f' (L.drop (k + (refOf (L.drop k)).2)) := by
 obtain ⟨f', rfl⟩ : ∃ f', f = f' + 1 := ⟨f - 1, by omega⟩
 refine ⟨f', by omega, ?_⟩
 rw [← List.drop_drop]
 have e := drop_cons L k h
 rw [e] at hr ⊢
 rw [dec, if_neg hr]
theorem one_byte (w : World) (x : Int) (g : Nat) (hg : w.heap.size = g) : ∀ j u, (bcs [x])[j]? = some u → (w.alloc (.cells #[.int .u8 x] 5)).cell? ((⟨g, 0, none⟩ : Addr).add j) = some u := by
 subst hg
 intro j u hj
 have hlt : j < 1 := by have := (List.getElem?_eq_some_iff.1 hj).1; simpa [bcs] using this
 have : j = 0 := by omega
 subst this
 simp [bcs] at hj
 subst hj
 rw [Addr.add_mid]
 simp
structure Grow (w : World) (v : Value) (l : List Int) (wr : World) : Prop where
 own : wr.ownsRow w.heap.size 5 1 v l.length (bcs l)
 bl : Below w.heap.size w wr
 sz : w.heap.size ≤ wr.heap.size
theorem Grow.alloc {w wr : World} {v : Value} {l : List Int} (h : Grow w v l wr) (o : Obj) : Grow w v l (wr.alloc o) :=
 ⟨h.own.alloc o, h.bl.alloc h.sz o, by have := h.sz; simp; omega⟩
theorem Grow.below {w wr w' : World} {v : Value} {l : List Int} (h : Grow w v l wr) (hb : Below wr.heap.size wr w') : Grow w v l w' :=
 ⟨own_keep h.own hb, h.bl.trans (hb.mono h.sz), Nat.le_trans h.sz hb.size⟩
theorem Grow.app {w wr w1 : World} {v v' : Value} {l : List Int} {x : Int} (h : Grow w v l wr) (ho : w1.ownsRow w.heap.size 5 1 v' (l.length + 1) (bcs l ++ bcs [x])) (hg : wr.grownBy w1 v.ownBlock) : Grow w v' (l ++ [x]) w1 :=
 ⟨by rw [List.length_append, bcs_append]; exact ho, h.bl.grown hg h.sz (own_lo h.own), Nat.le_trans h.sz hg.size⟩
theorem l1 (x : Int) : (bcs [x]).length = 1 * 1 := rfl
theorem l2Decode_any (s : ByteArray) (w : World) (hs : s.size ≤ 2000) :
  Calls Tryz.prog 164 #[.string s] w fun e w' => ∃ v, e = .returned v ∧ Grow w v (decode s.data.toList) w' := by
 obtain ⟨L, hL⟩ : ∃ L, s.data.toList = L := ⟨_, rfl⟩
 have hl : L.length = s.size := by rw [← hL]; exact len_list s
 rw [hL]
 obtain ⟨D, hD⟩ : ∃ D, decode L = D := ⟨_, rfl⟩
 have dl : D.length ≤ s.size := by rw [← hD, ← hl]; exact dec_len _ _
 rw [hD]
 go_enter Tryz.func164, Tryz.ntmps164
 go_wp2
 go_loopw [3, 4] (fun v i wr => ∃ (k f : Nat) (out : List Int), k ≤ L.length ∧ L.length - k ≤ f ∧ out ++ dec f (L.drop k) = D ∧ i = .int .i64 k ∧ Grow w v out wr) (fun _ i _ => L.length - (intOf i).toNat)
 case atStart => exact ⟨0, L.length, [], Nat.zero_le _, Nat.le_refl _, hD, rfl, ⟨World.ownsRow_lit w #[] 0 (Nat.le_refl _) (by decide) rfl, below_new w _, by simp⟩⟩
 case round =>
  obtain ⟨k, f, out, hk, hf, hout, rfl, hG⟩ := hrel
  by_cases hlt : k < L.length
  ·have ol : out.length ≤ 2000 := by have := congrArg List.length hout; rw [List.length_append] at this; omega
   have ci : (k : Int) < (s.size : Int) := by omega
   have hks : k < s.size := by omega
   have K := Hid.mk' (l2At_core s L hL k wr (by omega) hks)
   have hrl := refOf_len (L.drop k)
   have hrb := refOf_byte (L.drop k)
   rw [List.length_drop] at hrl
   have hg0 := get_list hL k hks
   have GG := Hid.mk' hG
   by_cases hr : (refOf (L.drop k)).2 = 0
   ·obtain ⟨f', hf', hstep⟩ := dec_raw L k f hlt hf hr
    have HO := Hid.mk' hout
    have HS := Hid.mk' hstep
    rw [hr] at K
    obtain ⟨c, hc⟩ : ∃ c : Nat, (L.getD k 0).toNat = c := ⟨_, rfl⟩
    rw [hc] at hg0 HS
    have G1 := Hid.mk' (GG.out.alloc (.cells #[.int .u8 (c : Int)] 5))
    generalize (refOf (L.drop k)).1 = rb at *
    clear hout hstep hG hr hrl hL hc
    go_wp2_with fail
    refine K.out.mono ?_
    rintro e w1 ⟨rfl, rfl⟩
    clear K
    go_wp2_with (at_builtin; refine wpList_append_at _ rfl (.tmp 20) (.tmp 24) 22 rfl w.heap.size 5 (.int .u8 0) 1 1 Tryz.underlying22 Tryz.info5 rfl (by decide) _ _ _ rfl G1.out.own _ 1 _ (bcs [(c : Int)]) rfl (l1 _) (.inr ⟨_, rfl, one_byte w1 _ _ rfl⟩) (bcs_one _) (by unfold maxLen; omega) (by omega) G1.out.sz ?_; intro v' w2 ho hgr hat; have G2 := Hid.mk' (G1.out.app ho hgr); clear ho hgr hat)
    go_roundw
    case rel => exact ⟨k + 1, f', out ++ [(c : Int)], by omega, hf', by rw [List.append_assoc, List.singleton_append, ← HS.out]; exact HO.out, by go_num, G2.out⟩
    case measure => simp [intOf]; omega
   ·obtain ⟨f', hf', hstep⟩ := dec_ref L k f hlt hf hr
    have HO := Hid.mk' hout
    have HS := Hid.mk' hstep
    have G1 := Hid.mk' (GG.out.alloc (.cells #[.int .u8 ((refOf (L.drop k)).1 : Int)] 5))
    have hz : (((refOf (L.drop k)).2 : Int) == 0) = false := by rw [beq_eq_false_iff_ne]; omega
    generalize (refOf (L.drop k)).1 = rb at *
    generalize (refOf (L.drop k)).2 = rn at *
    have hwb : IntKind.u8.wrap (rb : Int) = (rb : Int) := by rw [IntKind.wrap_u8]; omega
    clear hout hstep hG hL hg0
    go_wp2_with fail
    refine K.out.mono ?_
    rintro e w1 ⟨rfl, rfl⟩
    clear K
    go_wp2_with (at_builtin; refine wpList_append_at _ rfl (.tmp 28) (.tmp 31) 22 rfl w.heap.size 5 (.int .u8 0) 1 1 Tryz.underlying22 Tryz.info5 rfl (by decide) _ _ _ rfl G1.out.own _ 1 _ (bcs [(rb : Int)]) rfl (l1 _) (.inr ⟨_, rfl, one_byte w1 _ _ rfl⟩) (bcs_one _) (by unfold maxLen; omega) (by omega) G1.out.sz ?_; intro v' w2 ho hgr hat; have G2 := Hid.mk' (G1.out.app ho hgr); clear ho hgr hat)
    go_roundw
    case rel => exact ⟨k + rn, f', out ++ [(rb : Int)], by omega, hf', by rw [List.append_assoc, List.singleton_append, ← HS.out]; exact HO.out, by go_num, G2.out⟩
    case measure => simp [intOf]; omega
  ·have ci : ¬ (k : Int) < (s.size : Int) := by omega
   have e : k = L.length := by omega
   subst e
   rw [List.drop_length, dec_nil, List.append_nil] at hout
   subst hout
   go_wp2
   go_ret
   exact ⟨_, rfl, hG⟩
def decC (L : List UInt8) : Int := if 2000 < L.length then 6 else 0
def decV (L : List UInt8) : List Int := if 2000 < L.length then [] else decode L
theorem kept2 (w : World) (g o1 o2 : Nat) (v1 v2 : Value) : KeptIn g (g + 1) w ((w.setCell ⟨g, o1, none⟩ v1).setCell ⟨g, o2, none⟩ v2) :=
 ((KeptIn.refl g (g + 1) w).setCell (p := ⟨g, o1, none⟩) (Nat.le_refl _) (Nat.lt_succ_self _) _).setCell (p := ⟨g, o2, none⟩) (Nat.le_refl _) (Nat.lt_succ_self _) _
def sizeS : Value → Nat
 | .string s => s.size
 | _ => 0
theorem make0 (n : Nat) (hn : n ≤ 2000) (w : World) : (Instr.makeSlice 22 (.int .i64 0) (.int .i64 (n : Int))).run Tryz.prog w = .ok (.slice (some ⟨w.heap.size, 0, none⟩) 0 n) (w.alloc (.cells (madeCells #[.int .u8 0] n) 5)) := by
 obtain ⟨i, hi, hzz⟩ := Option.map_eq_some_iff.1 Tryz.info5
 simp only [Prod.mk.injEq] at hzz
 obtain ⟨hz, hs, hb⟩ := hzz
 have hr := run_make (P := Tryz.prog) w 22 5 i _ Tryz.underlying22 hi hz .i64 .i64 0 n (by omega) (by omega) (by rw [hb]; omega) (by omega)
 simp only [Int.toNat_natCast, hs, Nat.mul_one] at hr
 exact hr
theorem Grow.made (w : World) (n : Nat) (hn : n ≤ 2000) : Grow w (.slice (some ⟨w.heap.size, 0, none⟩) 0 n) [] (w.alloc (.cells (madeCells #[.int .u8 0] n) 5)) :=
 ⟨⟨rfl, .inr ⟨w.heap.size, n, _, rfl, Nat.le_refl _, Deep.blk_alloc_new _ _, Nat.zero_le _, by unfold maxLen; omega, by rw [size_madeCells]; omega, by simp [bcs]⟩⟩, below_new w _, by simp⟩
theorem ext_tail (s : ByteArray) (L : List UInt8) (k n : Nat) (h : s.data.toList = L.drop k) : (s.extract n s.size).data.toList = L.drop (k + n) := by
 rw [tail_list, h, List.drop_drop]
theorem implDec_any (s : ByteArray) (w : World) (hs : s.size ≤ 1048576) (hr : Refs w) (he : Errs w) :
  Calls Tryz.prog 162 #[.string s] w fun e w' => ∃ v, e = .returned (.agg #[.int .i64 (decC s.data.toList), v]) ∧ OB w' v (decV s.data.toList) ∧ In w.heap.size w'.heap.size v ∧ Below w.heap.size w w' := by
 have hl : s.data.toList.length = s.size := len_list s
 unfold decC decV
 have N := below_new w (.cells #[.int .i64 0, .slice none 0 0] 64)
 by_cases c : 2000 < s.size
 ·rw [if_pos (by omega), if_pos (by omega)]
  have ci : (2000 : Int) < (s.size : Int) := by omega
  clear N hr he
  go_enter Tryz.func162, Tryz.ntmps162
  go_wp2
  exact bodyPost_ret (v := .agg #[.int .i64 6, .slice none 0 0]) (by simp [results, Tryz.results162, go_sem, *]) rfl ⟨_, rfl, OB.none _, In.nil _ _, (Below.refl _ _).alloc (Nat.le_refl _) _⟩
 rw [if_neg (by omega), if_neg (by omega)]
 have ci : ¬ (2000 : Int) < (s.size : Int) := by omega
 have NN := Hid.mk' N
 have HR := Hid.mk' (hr.below N)
 have HE := Hid.mk' (he.below N)
 have R0 := Hid.mk' (rowp2 w 64 (.int .i64 0) (.slice none 0 0))
 obtain ⟨L, hL⟩ : ∃ L, s.data.toList = L := ⟨_, rfl⟩
 rw [hL] at hl ⊢
 obtain ⟨D, hD⟩ : ∃ D, decode L = D := ⟨_, rfl⟩
 have dl : D.length ≤ L.length := by rw [← hD]; exact dec_len _ _
 rw [hD]
 have hmk := make0 s.size (by omega)
 have ll : L.length ≤ 2000 := by omega
 clear N hr he
 obtain ⟨W, hW⟩ : ∃ W, w.alloc (.cells #[.int .i64 0, .slice none 0 0] 64) = W := ⟨_, rfl⟩
 rw [hW] at NN HR HE R0
 have ws : W.heap.size = w.heap.size + 1 := by rw [← hW]; simp
 have G0 := Hid.mk' (Grow.made W s.size (by omega))
 go_enter Tryz.func162, Tryz.ntmps162
 go_wp2
 rw [hW] at *
 go_loopw [0, 3] (fun t v wr => ∃ (k f : Nat) (out : List Int) (s' : ByteArray), k ≤ L.length ∧ L.length - k ≤ f ∧ out ++ dec f (L.drop k) = D ∧ s'.data.toList = L.drop k ∧ t = .string s' ∧ Grow W v out wr) (fun t _ _ => sizeS t)
 case atStart => exact ⟨0, L.length, [], s, Nat.zero_le _, Nat.le_refl _, hD, hL, rfl, by rw [← ws]; exact G0.out⟩
 case round =>
  obtain ⟨k, f, out, s', hk, hf, hout, hs', rfl, hG⟩ := hrel
  have sl : s'.size = L.length - k := by rw [← len_list s', hs', List.length_drop]
  by_cases hlt : k < L.length
  ·have ol : out.length ≤ 2000 := by have := congrArg List.length hout; rw [List.length_append] at this; omega
   have cj : (0 : Int) < (s'.size : Int) := by omega
   have c0 : 0 < s'.size := by omega
   have K0 := refAhead_any s' wr (by omega) (HR.out.below hG.bl) (HE.out.below hG.bl)
   rw [hs'] at K0
   have K := Hid.mk' K0
   have hrl := refOf_len (L.drop k)
   have hrb := refOf_byte (L.drop k)
   rw [List.length_drop] at hrl
   have hg0 := get_list hs' 0 c0
   rw [getD_drop, Nat.add_zero] at hg0
   have GG := Hid.mk' hG
   have ET := Hid.mk' (ext_tail s' L k 1 hs')
   clear K0
   by_cases hr : (refOf (L.drop k)).2 = 0
   ·obtain ⟨f', hf', hstep⟩ := dec_raw L k f hlt hf hr
    have HO := Hid.mk' hout
    have HS := Hid.mk' hstep
    rw [hr] at K
    obtain ⟨c, hc⟩ : ∃ c : Nat, (L.getD k 0).toNat = c := ⟨_, rfl⟩
    rw [hc] at hg0 HS
    generalize (refOf (L.drop k)).1 = rb at *
    clear hout hstep hG hr hrl hL hc hs'
    go_wp2_with fail
    refine K.out.mono ?_
    rintro e w1 ⟨rfl, hb1⟩
    have G1 := Hid.mk' (GG.out.below hb1)
    have G2 := Hid.mk' (G1.out.alloc (.cells #[.int .u8 (c : Int)] 5))
    clear K hb1
    have sx : 1 ≤ s'.size := by omega
    go_wp2_with (at_builtin; refine wpList_append_at _ rfl (.tmp 25) (.tmp 27) 22 rfl W.heap.size 5 (.int .u8 0) 1 1 Tryz.underlying22 Tryz.info5 rfl (by decide) _ _ _ rfl G2.out.own _ 1 _ (bcs [(c : Int)]) rfl (l1 _) (.inr ⟨_, rfl, one_byte w1 _ _ rfl⟩) (bcs_one _) (by unfold maxLen; omega) (by omega) G2.out.sz ?_; intro v' w2 ho hgr hat; have G3 := Hid.mk' (G2.out.app ho hgr); clear ho hgr hat)
    go_roundw
    case rel => exact ⟨k + 1, f', out ++ [(c : Int)], _, by omega, hf', by rw [List.append_assoc, List.singleton_append, ← HS.out]; exact HO.out, ET.out, (by rw [show s.size - k = s'.size from by omega]), G3.out⟩
    case measure => simp [sizeS]; omega
   ·obtain ⟨f', hf', hstep⟩ := dec_ref L k f hlt hf hr
    have HO := Hid.mk' hout
    have HS := Hid.mk' hstep
    have hz : (((refOf (L.drop k)).2 : Int) == 0) = false := by rw [beq_eq_false_iff_ne]; omega
    have EN := Hid.mk' (ext_tail s' L k (refOf (L.drop k)).2 hs')
    generalize (refOf (L.drop k)).1 = rb at *
    generalize (refOf (L.drop k)).2 = rn at *
    clear hout hstep hG hL hg0 hs' ET
    go_wp2_with fail
    refine K.out.mono ?_
    rintro e w1 ⟨rfl, hb1⟩
    have G1 := Hid.mk' (GG.out.below hb1)
    have G2 := Hid.mk' (G1.out.alloc (.cells #[.int .u8 (rb : Int)] 5))
    clear K hb1
    have sx : rn ≤ s'.size := by omega
    go_wp2_with (at_builtin; refine wpList_append_at _ rfl (.tmp 25) (.tmp 27) 22 rfl W.heap.size 5 (.int .u8 0) 1 1 Tryz.underlying22 Tryz.info5 rfl (by decide) _ _ _ rfl G2.out.own _ 1 _ (bcs [(rb : Int)]) rfl (l1 _) (.inr ⟨_, rfl, one_byte w1 _ _ rfl⟩) (bcs_one _) (by unfold maxLen; omega) (by omega) G2.out.sz ?_; intro v' w2 ho hgr hat; have G3 := Hid.mk' (G2.out.app ho hgr); clear ho hgr hat)
    go_roundw
    case rel => exact ⟨k + rn, f', out ++ [(rb : Int)], _, by omega, hf', by rw [List.append_assoc, List.singleton_append, ← HS.out]; exact HO.out, EN.out, (by rw [show s.size - k = s'.size from by omega]), G3.out⟩
    case measure => simp [sizeS]; omega
  ·have e : k = L.length := by omega
   subst e
   rw [List.drop_length, dec_nil, List.append_nil] at hout
   subst hout
   have cj : ¬ (0 : Int) < (s'.size : Int) := by omega
   have R1 := rowB R0.out hG.bl
   obtain ⟨z0, z1, z2⟩ := cells2 R1
   have f0 := R1.frozen 0
   have f1 := R1.frozen 1
   obtain ⟨a, d, rfl, _⟩ := (OB.of_own hG.own).1.len
   have O := Hid.mk' (OB.of_own hG.own)
   have B := Hid.mk' (NN.out.trans (hG.bl.mono (by omega)))
   have y := hG.bl.size
   clear hG R1
   go_wp2
   refine bodyPost_ret (v := .agg #[.int .i64 0, .slice a out.length d]) (by simp [results, Tryz.results162, go_sem, *]) rfl ?_
   have hk := kept2 wr w.heap.size 0 1 (.int .i64 0) (.slice a out.length d)
   have I : In (w.heap.size + 1) wr.heap.size (.slice a out.length d) := fun k e => ⟨by have := O.out.2 k e; omega, O.out.1.lt k e⟩
   exact ⟨_, rfl, O.out.1.kept I hk (.inr (by omega)), I.mono (by omega) hk.size, B.out.trans (hk.below (Nat.le_refl _) (by omega))⟩


end Go.Proofs.YtlimgcmhidooaaaGreatDoor
