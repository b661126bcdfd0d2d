/- Walks: a reference by number, and either, the program's side. -/
import Derived.Test.YtgkdplooocbonaaGreatDoorXQd
import Derived.Lib.SmallJoins
namespace Go.Proofs.YtgkdplooocbonaaGreatDoor
open Go.RowKit
set_option linter.unusedVariables false

/-- The two errors of the library that a number's reading names. -/
def Errs (w : World) : Prop := (∃ tp p, w.var? Tryz.prog "strconv.ErrSyntax" = some #[.iface tp p]) ∧ (∃ tp p, w.var? Tryz.prog "strconv.ErrRange" = some #[.iface tp p])
theorem var_keep {w w' : World} {n : String} {cs : Array Value} (hv : w.var? Tryz.prog n = some cs) (hb : Below w.heap.size w w') : w'.var? Tryz.prog n = some cs := by
  unfold World.var? at hv ⊢
  cases hg : Tryz.prog.globalNamed n with
  | none => rw [hg] at hv; cases hv
  | some g =>
    rw [hg] at hv
    simp only [Option.bind_some] at hv ⊢
    have hlt : g < w.heap.size := by
      refine Nat.lt_of_not_le fun hn => ?_
      rw [Array.getElem?_eq_none hn] at hv
      cases hv
    rw [hb.block g hlt]
    exact hv
theorem Errs.below {w w' : World} (h : Errs w) (hb : Below w.heap.size w w') : Errs w' := by
  obtain ⟨⟨a, b, h1⟩, ⟨c, d, h2⟩⟩ := h
  exact ⟨⟨a, b, var_keep h1 hb⟩, ⟨c, d, var_keep h2 hb⟩⟩

theorem head_list (s : ByteArray) (n : Nat) : (s.extract 0 n).data.toList = s.data.toList.take n := by rw [ext_list]; simp
theorem parse_ok_le {l : List UInt8} {u : Nat} (h : Lib.parseUintB 8 l = .ok u) : u ≤ 255 := by
  unfold Lib.parseUintB at h
  split at h
  · cases h
  · have h : Lib.parseUintM 255 0 l = .ok u := h
    have := parse_no l 0 u (by decide) h
    rw [parse_yes l 0 this.1 this.2] at h
    cases h
    exact this.2

/-- strconv.ParseUint at base 10 and 8 bits, in one word. -/
theorem parse_any (s : ByteArray) (w : World) (hs : s.size ≤ 1048576) (he : Errs w) :
    Calls Tryz.prog 66 #[.string s, .int .i64 10, .int .i64 8] w fun e w' => (∃ v er, e = .returned (.tuple #[.int .u64 v, er]) ∧ ((∃ u : Nat, Lib.parseUintB 8 s.data.toList = .ok u ∧ v = u ∧ er = .nilIface) ∨ ((∀ u, ¬ Lib.parseUintB 8 s.data.toList = .ok u) ∧ ∃ b, er = .iface 116 (.pointer (some ⟨b, 0, none⟩))))) ∧ Below w.heap.size w w' := by
  obtain ⟨⟨t1, p1, h1⟩, ⟨t2, p2, h2⟩⟩ := he
  cases hP : Lib.parseUintB 8 s.data.toList with
  | ok u =>
    refine (Tryz.strconv_ParseUint_10_at8_ok s (by omega) u hP w).mono ?_
    rintro e w' ⟨rfl, h | h⟩
    · subst h; exact ⟨⟨_, _, rfl, .inl ⟨u, rfl, rfl, rfl⟩⟩, Below.refl _ _⟩
    · subst h; exact ⟨⟨_, _, rfl, .inl ⟨u, rfl, rfl, rfl⟩⟩, Lib.bytesWorld_below w 5 s⟩
  | «syntax» =>
    refine (Tryz.strconv_ParseUint_10_at8_syntax_var s (by omega) hP t1 p1 w h1).mono ?_
    rintro e w' ⟨N, rfl, _, _, hb⟩
    exact ⟨⟨_, _, rfl, .inr ⟨fun u h => (by cases h), N, rfl⟩⟩, hb⟩
  | range =>
    refine (Tryz.strconv_ParseUint_10_at8_range_var s (by omega) hP t2 p2 w h2).mono ?_
    rintro e w' ⟨N, rfl, _, _, hb⟩
    exact ⟨⟨_, _, rfl, .inr ⟨fun u h => (by cases h), N, rfl⟩⟩, hb⟩

theorem take_min (D : List UInt8) (n : Nat) (h : D.length = n) : D.take (min (n : Int) 4).toNat = D.take 4 := by
  by_cases hn : n ≤ 4
  · rw [show (min (n : Int) 4).toNat = n from by omega, List.take_of_length_le (by omega), List.take_of_length_le (by omega)]
  · rw [show (min (n : Int) 4).toNat = 4 from by omega]

/-- What the semicolon's place comes to. -/
theorem index_any (r : ByteArray) (D : List UInt8) (e : r.data.toList = D) (w : World) :
    Calls Tryz.prog 65 #[.string (r.extract 0 (min (r.size : Int) 4).toNat), .int .u8 59] w fun e w' => e = .returned (.int .i64 (Lib.indexByte (D.take 4) 59)) ∧ w' = w := by
  have h := Tryz.strings_IndexByte (r.extract 0 (min (r.size : Int) 4).toNat) 59 w
  rw [head_list, e, take_min D r.size (by rw [← e]; exact len_list r)] at h
  exact h

theorem index_bd (D : List UInt8) : -1 ≤ Lib.indexByte (D.take 4) 59 ∧ Lib.indexByte (D.take 4) 59 ≤ 3 ∧ (1 ≤ Lib.indexByte (D.take 4) 59 → (Lib.indexByte (D.take 4) 59).toNat < D.length) := by
  rw [index_semi D 4]
  cases hs : semi D 4 with
  | none => exact ⟨by decide, by decide, fun h => absurd h (by decide)⟩
  | some m =>
    obtain ⟨h1, S, h2⟩ := semi_spec D 4 m hs
    have hlen : m < D.length := by
      have := congrArg List.length h2
      rw [List.length_append, List.length_cons, List.length_take] at this
      omega
    refine ⟨by show -1 ≤ (m : Int); omega, by show (m : Int) ≤ 3; omega, fun _ => hlen⟩

set_option maxRecDepth 100000 in
set_option maxHeartbeats 1600000 in
theorem number_any (s : ByteArray) (w : World) (hs : s.size ≤ 1048576) (he : Errs w) :
    Calls Tryz.prog 53 #[.string s] w fun e w' => e = .returned (.tuple #[.int .u8 (numAhead s.data.toList).1, .int .i64 (numAhead s.data.toList).2]) ∧ Below w.heap.size w w' := by
  have hL := len_list s
  have C := Tryz.strings_CutPrefix s ⟨#[38, 35]⟩ w
  have HE := Hid.mk' he
  clear he
  cases hp : Lib.hasPrefix s.data.toList [38, 35] with
  | false =>
    have Z := Hid.mk' (show numAhead s.data.toList = (0, 0) by unfold numAhead; rw [hp]; rfl)
    have hp' : Lib.hasPrefix s.data.toList ([38, 35] : List UInt8) = false := hp
    rw [show (⟨#[38, 35]⟩ : ByteArray).data.toList = [38, 35] from rfl, hp'] at C
    have hr : (⟨(Lib.trimPrefix s.data.toList [38, 35]).toArray⟩ : ByteArray) = s := by unfold Lib.trimPrefix; rw [hp']; rfl
    rw [hr] at C
    have CC := Hid.mk' C
    clear C hp hp' hr
    go_enter Tryz.func53, Tryz.ntmps53
    go_wp2_with fail
    refine CC.out.mono ?_
    rintro e w1 ⟨rfl, rfl⟩
    clear CC
    go_wp2_with fail
    refine (index_any s _ rfl _).mono ?_
    rintro e w2 ⟨rfl, rfl⟩
    go_wp2
    go_ret2
    rw [Z.out]
    exact ⟨rfl, Below.refl _ _⟩
  | true =>
    have hp' : Lib.hasPrefix s.data.toList ([38, 35] : List UInt8) = true := hp
    have hN : numAhead s.data.toList = (if Lib.indexByte ((s.data.toList.drop 2).take 4) 59 < 1 then (0, 0) else if ((s.data.toList.drop 2).getD 0 0).toNat = 48 then (0, 0) else
      match Lib.parseUintB 8 ((s.data.toList.drop 2).take (Lib.indexByte ((s.data.toList.drop 2).take 4) 59).toNat) with
      | .ok u => (u, 2 + (Lib.indexByte ((s.data.toList.drop 2).take 4) 59).toNat + 1)
      | _ => (0, 0)) := by unfold numAhead; rw [if_pos hp]; rfl
    rw [show (⟨#[38, 35]⟩ : ByteArray).data.toList = [38, 35] from rfl, hp'] at C
    have hr : Lib.trimPrefix s.data.toList [38, 35] = s.data.toList.drop 2 := by unfold Lib.trimPrefix; rw [hp']; rfl
    rw [hr] at C
    obtain ⟨r, hrr⟩ : ∃ r : ByteArray, r = ⟨(s.data.toList.drop 2).toArray⟩ := ⟨_, rfl⟩
    have hrd : r.data.toList = s.data.toList.drop 2 := by rw [hrr]
    rw [← hrr] at C
    have hrs : r.size ≤ 1048576 := by rw [← len_list r, hrd, List.length_drop]; omega
    have hrl : (s.data.toList.drop 2).length = r.size := by rw [← hrd]; exact len_list r
    have HN := Hid.mk' hN
    have CC := Hid.mk' C
    have EE := Hid.mk' hrd
    have bd := index_bd (s.data.toList.drop 2)
    have hg := get_list hrd
    clear C hp hp' hr hrr hN hrd hL
    generalize numAhead s.data.toList = N at *
    generalize s.data.toList.drop 2 = D at *
    have IX := Hid.mk' (index_any r D EE.out w)
    generalize hix : Lib.indexByte (D.take 4) 59 = ix at *
    obtain ⟨b1, b2, b3⟩ := bd
    by_cases h1 : ix < 1
    · have Z := Hid.mk' (show N = (0, 0) by rw [HN.out, if_pos h1])
      clear b3 hg
      go_enter Tryz.func53, Tryz.ntmps53
      go_wp2_with fail
      refine CC.out.mono ?_
      rintro e w1 ⟨rfl, rfl⟩
      clear CC
      go_wp2_with fail
      refine IX.out.mono ?_
      rintro e w2 ⟨rfl, rfl⟩
      go_wp2
      go_ret2
      rw [Z.out]
      exact ⟨rfl, Below.refl _ _⟩
    · have b3 := b3 (by omega)
      have h00 : 0 < r.size := by omega
      have h0 := hg 0 h00
      by_cases h2 : (r[0]'h00).toNat = 48
      · have Z := Hid.mk' (show N = (0, 0) by rw [HN.out, if_neg h1, if_pos (by rw [← h0]; exact h2)])
        have i2 : (((r[0]'h00).toNat : Int) == 48) = true := by rw [beq_iff_eq]; omega
        clear hg h0 h2
        go_enter Tryz.func53, Tryz.ntmps53
        go_wp2_with fail
        refine CC.out.mono ?_
        rintro e w1 ⟨rfl, rfl⟩
        clear CC
        go_wp2_with fail
        refine IX.out.mono ?_
        rintro e w2 ⟨rfl, rfl⟩
        go_wp2
        go_ret2
        rw [Z.out]
        exact ⟨rfl, Below.refl _ _⟩
      · have Z := Hid.mk' (show N = (match Lib.parseUintB 8 (D.take ix.toNat) with
            | .ok u => (u, 2 + ix.toNat + 1)
            | _ => (0, 0)) by rw [HN.out, if_neg h1, if_neg (by rw [← h0]; exact h2)])
        have i2 : (((r[0]'h00).toNat : Int) == 48) = false := by rw [beq_eq_false_iff_ne]; omega
        have F := parse_any (r.extract 0 ix.toNat) w (by rw [ByteArray.size_extract]; omega) HE.out
        rw [head_list, EE.out] at F
        have FF := Hid.mk' F
        clear hg h0 h2 F
        go_enter Tryz.func53, Tryz.ntmps53
        go_wp2_with fail
        refine CC.out.mono ?_
        rintro e w1 ⟨rfl, rfl⟩
        clear CC
        go_wp2_with fail
        refine IX.out.mono ?_
        rintro e w2 ⟨rfl, rfl⟩
        go_wp2_with fail
        refine FF.out.mono ?_
        rintro e w3 ⟨⟨v, er, rfl, ⟨u, hu, rfl, rfl⟩ | ⟨hu, b, rfl⟩⟩, hb3⟩
        · have BB := Hid.mk' hb3
          have ul := parse_ok_le hu
          have Z' := Hid.mk' (show N = (u, 2 + ix.toNat + 1) by rw [Z.out, hu])
          have hw : IntKind.u8.wrap (u : Int) = u := by unfold IntKind.wrap; simp [IntKind.bits, IntKind.signed]; omega
          have hv : ((ix.toNat : Nat) : Int) = ix := by omega
          have V := Hid.mk' hv
          clear hb3 hu FF IX hv
          go_wp2
          go_ret2
          rw [Z'.out]
          refine ⟨?_, BB.out⟩
          show Ending.returned (.tuple #[.int .u8 (u : Int), .int .i64 (2 + ix + 1)]) = .returned (.tuple #[.int .u8 (u : Int), .int .i64 ((2 + ix.toNat + 1 : Nat) : Int)])
          rw [show ((2 + ix.toNat + 1 : Nat) : Int) = 2 + ix + 1 from by have := V.out; omega]
        · have BB := Hid.mk' hb3
          have Z' := Hid.mk' (show N = (0, 0) by
            rw [Z.out]
            cases hq : Lib.parseUintB 8 (D.take ix.toNat) with
            | ok u => exact absurd hq (hu u)
            | _ => rfl)
          clear hb3 hu FF IX
          go_wp2
          go_ret2
          rw [Z'.out]
          exact ⟨rfl, BB.out⟩

theorem nameOf_small (L : List UInt8) : (nameOf L).2 ≤ 6 := by
  unfold nameOf
  split
  · decide
  split
  · decide
  split
  · decide
  split <;> decide

set_option maxRecDepth 100000 in
set_option maxHeartbeats 800000 in
theorem refAhead_any (s : ByteArray) (w : World) (hs : s.size ≤ 1048576) (hr : Refs w) (he : Errs w) :
    Calls Tryz.prog 44 #[.string s] w fun e w' => e = .returned (.tuple #[.int .u8 (refOf s.data.toList).1, .int .i64 (refOf s.data.toList).2]) ∧ Below w.heap.size w w' := by
  have N := nameAhead_any s w hr
  have S : Hid (refOf s.data.toList = if 0 < (nameOf s.data.toList).2 then nameOf s.data.toList else numAhead s.data.toList) := (ref_same _).symm
  have NN := Hid.mk' N
  have HE := Hid.mk' he
  have sm := nameOf_small s.data.toList
  clear N hr he
  generalize nameOf s.data.toList = q at *
  obtain ⟨q1, q2⟩ := q
  simp only at sm S NN
  by_cases h : 0 < q2
  · rw [if_pos h] at S
    have i1 : 0 < (q2 : Int) := by omega
    go_enter Tryz.func44, Tryz.ntmps44
    go_wp2_with fail
    refine NN.out.mono ?_
    rintro e w1 ⟨rfl, hb1⟩
    have B1 := Hid.mk' hb1
    clear hb1 NN
    go_wp2
    go_ret2
    rw [S.out]
    exact ⟨rfl, B1.out⟩
  · rw [if_neg h] at S
    have i1 : ¬ 0 < (q2 : Int) := by omega
    go_enter Tryz.func44, Tryz.ntmps44
    go_wp2_with fail
    refine NN.out.mono ?_
    rintro e w1 ⟨rfl, hb1⟩
    have B1 := Hid.mk' hb1
    have E1 := Hid.mk' (HE.out.below hb1)
    clear hb1 NN HE
    go_wp2_with fail
    refine (number_any s _ hs E1.out).mono ?_
    rintro e w2 ⟨rfl, hb2⟩
    have B2 := Hid.mk' (B1.out.trans (hb2.mono B1.out.size))
    clear hb2 B1 E1
    go_wp2
    go_ret2
    rw [S.out]
    exact ⟨rfl, B2.out⟩
end Go.Proofs.YtgkdplooocbonaaGreatDoor
