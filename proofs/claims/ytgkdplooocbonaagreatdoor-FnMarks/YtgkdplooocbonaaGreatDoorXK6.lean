/- The program's lexer: a byte behind a reference, in a note, in a tag. -/
import Derived.Test.YtgkdplooocbonaaGreatDoorXLxg
namespace Go.Proofs.YtgkdplooocbonaaGreatDoor
open Go.RowKit
set_option linter.unusedVariables false
set_option linter.unusedSimpArgs false

set_option maxRecDepth 100000 in
set_option maxHeartbeats 1600000 in
theorem isRefByte_any (b : Nat) (w : World) (hb : b ≤ 255) :
    Calls Tryz.prog 34 #[.int .u8 (b : Int)] w fun e w' => e = .returned (.bool (refB b)) ∧ w' = w := by
  have E : Hid (refB b = ((decide ((97 : Int) ≤ b) && decide ((b : Int) ≤ 122)) || (decide ((48 : Int) ≤ b) && decide ((b : Int) ≤ 57)) || ((b : Int) == 35))) := Hid.mk' (by
    unfold refB ltrB
    rw [Bool.eq_iff_iff]
    simp
    omega)
  rw [E.out]
  by_cases h1 : (97 : Int) ≤ b
  · by_cases h2 : (b : Int) ≤ 122
    · go_enter Tryz.func34, Tryz.ntmps34
      go_wp2_with go_big_skip
      go_ret
      exact ⟨by simp [h1, h2], rfl⟩
    · have h3 : (48 : Int) ≤ b := by omega
      have h4 : ¬ (b : Int) ≤ 57 := by omega
      have h5 : ((b : Int) == 35) = false := by simp; omega
      go_enter Tryz.func34, Tryz.ntmps34
      go_wp2_with go_big_skip
      go_ret
      exact ⟨by simp [h1, h2, h3, h4, h5], rfl⟩
  · by_cases h3 : (48 : Int) ≤ b
    · by_cases h4 : (b : Int) ≤ 57
      · go_enter Tryz.func34, Tryz.ntmps34
        go_wp2_with go_big_skip
        go_ret
        exact ⟨by simp [h1, h3, h4], rfl⟩
      · have h5 : ((b : Int) == 35) = false := by simp; omega
        go_enter Tryz.func34, Tryz.ntmps34
        go_wp2_with go_big_skip
        go_ret
        exact ⟨by simp [h1, h3, h4, h5]; omega, rfl⟩
    · cases h5 : ((b : Int) == 35)
      · go_enter Tryz.func34, Tryz.ntmps34
        go_wp2_with go_big_skip
        go_ret
        exact ⟨by simp [h1, h3, h5]; omega, rfl⟩
      · go_enter Tryz.func34, Tryz.ntmps34
        go_wp2_with go_big_skip
        go_ret
        exact ⟨by simp [h1, h3, h5], rfl⟩

theorem bytesT_two (ts : List TK) (a b : List Int) : ts ++ bytesT a ++ bytesT b = ts ++ bytesT (a ++ b) := by simp [bytesT]

set_option maxRecDepth 100000 in
set_option maxHeartbeats 3200000 in
theorem inRef_any (B lo g : Nat) (tp : TypeId) (pv : Value) (b : Nat) (w : World) (hs : List Int) (ts : List TK) (h : LXs lo g w hs ts) (hE : Env B tp pv w) (hB : B ≤ lo) (hu : Byt hs) (hb : b ≤ 255) (hl : hs.length ≤ 159) (hn : ts.length ≤ 800000) :
    Calls Tryz.prog 24 #[.pointer (some ⟨g, 0, none⟩), .int .u8 (b : Int)] w fun e w' => LxP lo g (refH hs b) (ts ++ bytesT (refT hs b)) w e w' := by
  by_cases h59 : b = 59
  · subst h59
    have KC := Hid.mk' (closeRef_any B lo g tp pv w hs ts h hE hB hu (by omega) (by omega))
    have E : Hid (refH hs 59 = []) := Hid.mk' (by unfold refH; rw [if_pos rfl])
    clear h hE
    go_enter Tryz.func24, Tryz.ntmps24
    go_wp2_with fail
    refine KC.out.mono ?_
    rintro e w1 ⟨⟨v, rfl⟩, hx, hb1⟩
    have HX := Hid.mk' hx
    have B1 := Hid.mk' hb1
    clear hx hb1 KC
    go_wp2
    go_end0
    exact ⟨⟨_, rfl⟩, by rw [E.out]; exact HX.out, B1.out⟩
  have h59' : ((b : Int) == 59) = false := by simp; omega
  have KI := isRefByte_any b w hb
  cases hr : refB b with
  | true =>
    rw [hr] at KI
    have KI := Hid.mk' KI
    have KH := Hid.mk' (hold_any lo g b 6 w hs ts h hu hb (by omega) (by omega) (by omega))
    have E1 : Hid (refH hs b = holdH 6 hs b) := Hid.mk' (by unfold refH holdH; rw [if_neg h59, if_pos hr])
    have E2 : Hid (refT hs b = holdT 6 hs b) := Hid.mk' (by unfold refT holdT; rw [if_neg h59, if_pos hr])
    clear h hE h59
    go_enter Tryz.func24, Tryz.ntmps24
    go_wp2_with fail
    refine KI.out.mono ?_
    rintro e w2 ⟨rfl, hw⟩
    obtain rfl := hw.symm
    go_wp2_with fail
    refine KH.out.mono ?_
    rintro e w1 ⟨⟨v, rfl⟩, hx, hb1⟩
    have HX := Hid.mk' hx
    have B1 := Hid.mk' hb1
    clear hx hb1 KH KI
    go_wp2
    go_end0
    exact ⟨⟨_, rfl⟩, by rw [E1.out, E2.out]; exact HX.out, B1.out⟩
  | false =>
    rw [hr] at KI
    have KI := Hid.mk' KI
    have KG := Hid.mk' (letGo_any lo g w hs ts h hu (by omega))
    have E1 : Hid (refH hs b = noneH (b : Int)) := Hid.mk' (by unfold refH; rw [if_neg h59, if_neg (by rw [hr]; exact Bool.false_ne_true)])
    have E2 : Hid (refT hs b = hs ++ noneT (b : Int)) := Hid.mk' (by unfold refT; rw [if_neg h59, if_neg (by rw [hr]; exact Bool.false_ne_true)])
    clear h hE h59
    go_enter Tryz.func24, Tryz.ntmps24
    go_wp2_with fail
    refine KI.out.mono ?_
    rintro e w2 ⟨rfl, hw⟩
    obtain rfl := hw.symm
    go_wp2_with fail
    refine KG.out.mono ?_
    rintro e w1 ⟨⟨v, rfl⟩, hx, hb1⟩
    have KO := Hid.mk' (outside_any lo g b w1 _ hx hb (by rw [List.length_append, bytesT_len]; omega))
    have B1 := Hid.mk' hb1
    clear hx hb1 KG KI
    go_wp2_with fail
    refine KO.out.mono ?_
    rintro e w3 ⟨⟨v, rfl⟩, hx, hb3⟩
    have HX := Hid.mk' hx
    have B3 := Hid.mk' (B1.out.trans hb3)
    clear hx hb3 KO
    go_wp2
    go_end0
    refine ⟨⟨_, rfl⟩, ?_, B3.out⟩
    rw [E1.out, E2.out, ← bytesT_two]
    exact HX.out

end Go.Proofs.YtgkdplooocbonaaGreatDoor

/- The program's lexer: a byte in a note, in a tag. -/
namespace Go.Proofs.YtgkdplooocbonaaGreatDoor
open Go.RowKit
set_option linter.unusedVariables false
set_option linter.unusedSimpArgs false

theorem lenX_hold (hs : List Int) (b : Nat) : lenX hs b = (bytesT (holdT 160 hs b), holdH 160 hs b) := by
  unfold lenX holdT holdH
  by_cases h : 160 ≤ hs.length + 1
  · rw [if_pos h, if_pos h, if_pos h]
  · rw [if_neg h, if_neg h, if_neg h]; rfl

set_option maxRecDepth 100000 in
set_option maxHeartbeats 3200000 in
theorem inNote_any (B lo g : Nat) (tp : TypeId) (pv : Value) (b : Nat) (w : World) (hs : List Int) (ts : List TK) (h : LXs lo g w hs ts) (hE : Env B tp pv w) (hB : B ≤ lo) (hu : Byt hs) (hb : b ≤ 255) (hl : hs.length ≤ 159) (hn : ts.length ≤ 800000) (hnt : noteB hs = true) :
    Calls Tryz.prog 26 #[.pointer (some ⟨g, 0, none⟩), .int .u8 (b : Int)] w fun e w' => LxP lo g (tagX hs b).2 (ts ++ (tagX hs b).1) w e w' := by
  have hq : quotedB hs = false := by unfold quotedB; rw [hnt]; simp
  by_cases h62 : b = 62
  · subst h62
    have KC := Hid.mk' (closeMark_any B lo g tp pv w hs ts h hE hB hl (by omega))
    have HU := Hid.mk' hu
    have E0 : Hid (tagX hs 62 = (match tagA (strU (hs ++ [62])) with | some t => ([t], []) | none => lenX hs 62)) := Hid.mk' (by
      unfold tagX
      rw [if_pos ⟨rfl, hq⟩, if_neg (by rw [hnt]; decide)]
      rfl)
    clear h hE hu hq
    go_enter Tryz.func26, Tryz.ntmps26
    go_wp2_with fail
    refine KC.out.mono ?_
    rintro e w1 (⟨ht, rfl, hx, hb1⟩ | ⟨t, ht, rfl, hx, hb1⟩)
    · have KH := Hid.mk' (hold_any lo g 62 160 w1 hs ts hx HU.out hb (by omega) (by omega) (by omega))
      have B1 := Hid.mk' hb1
      rw [ht] at E0
      clear hx hb1 KC ht
      go_wp2_with fail
      refine KH.out.mono ?_
      rintro e w2 ⟨⟨v, rfl⟩, hx, hb2⟩
      have HX := Hid.mk' hx
      have B2 := Hid.mk' (B1.out.trans hb2)
      clear hx hb2 KH
      go_wp2
      go_end0
      refine ⟨⟨_, rfl⟩, ?_, B2.out⟩
      rw [E0.out]
      show LXs lo g _ (lenX hs 62).2 (ts ++ (lenX hs 62).1)
      rw [lenX_hold]
      exact HX.out
    · have HX := Hid.mk' hx
      have B1 := Hid.mk' hb1
      rw [ht] at E0
      clear hx hb1 KC ht
      go_wp2
      (try simp only [Exit.inBlock, Exit.then])
      refine bodyPost_ret (results_none rfl _ _ _) rfl ?_
      exact ⟨⟨_, rfl⟩, by rw [E0.out]; exact HX.out, B1.out⟩
  · have e62 : ((b : Int) == 62) = false := by simp; omega
    have E0 : Hid (tagX hs b = lenX hs b) := Hid.mk' (by
      unfold tagX
      rw [if_neg (fun x => h62 x.1), if_neg (fun x => by rw [hnt] at x; exact absurd x.2.2 (by decide))])
    have KH := Hid.mk' (hold_any lo g b 160 w hs ts h hu hb (by omega) (by omega) (by omega))
    clear h hE hu hq h62
    go_enter Tryz.func26, Tryz.ntmps26
    go_wp2_with fail
    refine KH.out.mono ?_
    rintro e w2 ⟨⟨v, rfl⟩, hx, hb2⟩
    have HX := Hid.mk' hx
    have B2 := Hid.mk' hb2
    clear hx hb2 KH
    go_wp2
    go_end0
    refine ⟨⟨_, rfl⟩, ?_, B2.out⟩
    rw [E0.out, lenX_hold]
    exact HX.out

end Go.Proofs.YtgkdplooocbonaaGreatDoor
