/- MeasureOf: what it answers; the model's side. -/
import Derived.Test.YtfdcfajliofbfaaGreatDoorBe
namespace Go.Proofs.YtfdcfajliofbfaaGreatDoor
open Go.RowKit
set_option linter.unusedVariables false
set_option linter.unusedSimpArgs false

/-- A minus ahead; what stands behind it. -/
def minusB (s : ByteArray) : Bool := decide (0 < s.size) && decide (byS s 0 = 45)
def restT (s : ByteArray) : ByteArray := if minusB s = true then s.extract 1 s.size else s
def nanB (s : ByteArray) : Bool := s.toList == [110, 97, 110]
def infB (s : ByteArray) : Bool := s.toList == [105, 110, 102]

/-- Whether a text is a measure, and its bits. -/
def moB (s : ByteArray) : Bool := nanB s || infB (restT s) || okR (restT s)
def moV (s : ByteArray) : Int := if nanB s = true then 9221120237041090560 else if infB (restT s) = true then signBits (minusB s) 9218868437227405312 else if okR (restT s) = true then signBits (minusB s) (wordQ (qR (restT s))) else 0
def moC (s : ByteArray) : Int := if moB s = true then 0 else 5

theorem mo_cases (s : ByteArray) : (nanB s = true ∧ moB s = true ∧ moV s = 9221120237041090560) ∨ (nanB s = false ∧ infB (restT s) = true ∧ moB s = true ∧ moV s = signBits (minusB s) 9218868437227405312) ∨ (nanB s = false ∧ infB (restT s) = false ∧ okR (restT s) = true ∧ moB s = true ∧ moV s = signBits (minusB s) (wordQ (qR (restT s)))) ∨ (nanB s = false ∧ infB (restT s) = false ∧ okR (restT s) = false ∧ moB s = false ∧ moV s = 0) := by
  unfold moB moV
  cases h1 : nanB s
  · cases h2 : infB (restT s)
    · cases h3 : okR (restT s)
      · simp
      · simp
    · simp
  · simp

theorem mo_bd (s : ByteArray) : -9223372036854775808 ≤ moV s ∧ moV s ≤ 9223372036854775807 := by
  rcases mo_cases s with ⟨_, _, e⟩ | ⟨_, _, _, e⟩ | ⟨_, _, h3, _, e⟩ | ⟨_, _, _, _, e⟩
  · rw [e]; omega
  · rw [e]; unfold signBits; split <;> omega
  · have := wordQ_lt _ (numA_ok h3).2
    rw [e]; unfold signBits; split <;> omega
  · rw [e]; omega

theorem rest_cases (s : ByteArray) : (minusB s = false ∧ restT s = s ∧ (s.size = 0 ∨ (0 < s.size ∧ byS s 0 ≠ 45))) ∨ (minusB s = true ∧ restT s = s.extract 1 s.size ∧ 0 < s.size ∧ byS s 0 = 45) := by
  unfold restT
  cases h : minusB s
  · refine .inl ⟨rfl, by simp, ?_⟩
    unfold minusB at h
    by_cases c : 0 < s.size
    · refine .inr ⟨c, ?_⟩
      rw [decide_eq_true c, Bool.true_and, decide_eq_false_iff_not] at h
      exact h
    · exact .inl (by omega)
  · refine .inr ⟨rfl, by simp, ?_⟩
    unfold minusB at h
    rw [Bool.and_eq_true, decide_eq_true_eq, decide_eq_true_eq] at h
    exact h

theorem rest_size (s : ByteArray) : (restT s).size ≤ s.size := by
  rcases rest_cases s with ⟨_, e, _⟩ | ⟨_, e, _⟩
  · rw [e]; exact Nat.le_refl _
  · rw [e, ext_size _ _ _ (Nat.le_refl _)]; omega

set_option maxRecDepth 100000 in
set_option maxHeartbeats 1600000 in
theorem l3Of_any (s : ByteArray) (w : World) (hs : (s.size : Int) ≤ 1048576) :
    Calls Tryz.prog 39 #[.string s] w fun e w' => e = .returned (.tuple #[.int .i64 (moV s), .bool (moB s)]) ∧ w' = w := by
  have KN := l3Number_any (restT s) w (by have := rest_size s; omega)
  rcases mo_cases s with ⟨h1, e2, e3⟩ | ⟨h1, h2, e2, e3⟩ | ⟨h1, h2, h3, e2, e3⟩ | ⟨h1, h2, h3, e2, e3⟩
  · rw [e2, e3]
    have hn : (s.toList == [110, 97, 110]) = true := h1
    clear KN h1 e2 e3
    go_enter Tryz.func39, Tryz.ntmps39
    go_wp2
    go_ret2
    exact ⟨rfl, rfl⟩
  · have hn : (s.toList == [110, 97, 110]) = false := h1
    rw [e2, e3]
    clear h1 e2 e3
    have KS := l3Sign_any (minusB s) 9218868437227405312 w (by omega)
    clear KN
    obtain ⟨R, hR⟩ : ∃ R, signBits (minusB s) 9218868437227405312 = R := ⟨_, rfl⟩
    rw [hR] at KS ⊢
    clear hR
    have hi := h2
    clear h2
    obtain ⟨M, hM⟩ : ∃ M, M = minusB s := ⟨_, rfl⟩
    obtain ⟨T, hT⟩ : ∃ T, T = restT s := ⟨_, rfl⟩
    have three : (s.size = 0 ∧ M = false ∧ T = s) ∨ (0 < s.size ∧ byS s 0 ≠ 45 ∧ M = false ∧ T = s) ∨ (0 < s.size ∧ byS s 0 = 45 ∧ M = true ∧ T = s.extract 1 s.size) := by
      rw [hM, hT]
      rcases rest_cases s with ⟨x1, x2, x3 | x3⟩ | ⟨x1, x2, x3, x4⟩
      · exact .inl ⟨x3, x1, x2⟩
      · exact .inr (.inl ⟨x3.1, x3.2, x1, x2⟩)
      · exact .inr (.inr ⟨x3, x4, x1, x2⟩)
    rw [← hT] at hi
    unfold infB at hi
    rw [← hM] at KS
    clear hM hT
    rcases three with ⟨t0, t2, t3⟩ | ⟨t0, t1, t2, t3⟩ | ⟨t0, t1, t2, t3⟩
    · have c0 : ¬ (s.size : Int) > 0 := by omega
      subst t2 t3
      replace KS := Hid.mk' KS
      clear t0
      go_enter Tryz.func39, Tryz.ntmps39
      go_wp2_with fail
      refine KS.out.mono ?_
      rintro e w1 ⟨rfl, hww⟩
      obtain rfl := hww.symm
      go_wp2
      go_ret2
      exact ⟨rfl, rfl⟩
    · have c0 : (s.size : Int) > 0 := by omega
      have b0 := byS_is (s := s) (k := 0) (by omega)
      have q0 : ((byS s 0 : Int) == 45) = false := by rw [beq_eq_false_iff_ne]; omega
      subst t2 t3
      replace KS := Hid.mk' KS
      clear t1
      go_enter Tryz.func39, Tryz.ntmps39
      go_wp2_with fail
      refine KS.out.mono ?_
      rintro e w1 ⟨rfl, hww⟩
      obtain rfl := hww.symm
      go_wp2
      go_ret2
      exact ⟨rfl, rfl⟩
    · have c0 : (s.size : Int) > 0 := by omega
      have b0 := byS_is (s := s) (k := 0) (by omega)
      have q0 : ((byS s 0 : Int) == 45) = true := by rw [beq_iff_eq]; omega
      have i1 : (1 : Int) ≤ (s.size : Int) := by omega
      subst t2 t3
      replace KS := Hid.mk' KS
      clear t1
      go_enter Tryz.func39, Tryz.ntmps39
      go_wp2_with fail
      refine KS.out.mono ?_
      rintro e w1 ⟨rfl, hww⟩
      obtain rfl := hww.symm
      go_wp2
      go_ret2
      exact ⟨rfl, rfl⟩
  · have hn : (s.toList == [110, 97, 110]) = false := h1
    rw [e2, e3]
    clear h1 e2 e3
    obtain ⟨a1, a2⟩ := numA_ok h3
    have wl := wordQ_lt _ a2
    rw [a1] at KN
    have KB := Hid.mk' (l3Bits_any (qR (restT s)) w a2)
    have KS := l3Sign_any (minusB s) (wordQ (qR (restT s))) w (by omega)
    have qp : ¬ ((qR (restT s) : Int) < 0) := by omega
    clear a1 a2 h3
    generalize wordQ (qR (restT s)) = W at *
    generalize qR (restT s) = Q at *
    obtain ⟨R, hR⟩ : ∃ R, signBits (minusB s) W = R := ⟨_, rfl⟩
    rw [hR] at KS ⊢
    clear hR
    have hi := h2
    clear h2
    obtain ⟨M, hM⟩ : ∃ M, M = minusB s := ⟨_, rfl⟩
    obtain ⟨T, hT⟩ : ∃ T, T = restT s := ⟨_, rfl⟩
    have three : (s.size = 0 ∧ M = false ∧ T = s) ∨ (0 < s.size ∧ byS s 0 ≠ 45 ∧ M = false ∧ T = s) ∨ (0 < s.size ∧ byS s 0 = 45 ∧ M = true ∧ T = s.extract 1 s.size) := by
      rw [hM, hT]
      rcases rest_cases s with ⟨x1, x2, x3 | x3⟩ | ⟨x1, x2, x3, x4⟩
      · exact .inl ⟨x3, x1, x2⟩
      · exact .inr (.inl ⟨x3.1, x3.2, x1, x2⟩)
      · exact .inr (.inr ⟨x3, x4, x1, x2⟩)
    rw [← hT] at hi
    unfold infB at hi
    rw [← hT] at KN
    rw [← hM] at KS
    clear hM hT
    rcases three with ⟨t0, t2, t3⟩ | ⟨t0, t1, t2, t3⟩ | ⟨t0, t1, t2, t3⟩
    · have c0 : ¬ (s.size : Int) > 0 := by omega
      subst t2 t3
      replace KN := Hid.mk' KN
      replace KS := Hid.mk' KS
      clear t0
      go_enter Tryz.func39, Tryz.ntmps39
      go_wp2_with fail
      refine KN.out.mono ?_
      rintro e w1 ⟨rfl, hww⟩
      obtain rfl := hww.symm
      go_wp2_with fail
      refine KB.out.mono ?_
      rintro e w1 ⟨rfl, hww⟩
      obtain rfl := hww.symm
      go_wp2_with fail
      refine KS.out.mono ?_
      rintro e w1 ⟨rfl, hww⟩
      obtain rfl := hww.symm
      go_wp2
      go_ret2
      exact ⟨rfl, rfl⟩
    · have c0 : (s.size : Int) > 0 := by omega
      have b0 := byS_is (s := s) (k := 0) (by omega)
      have q0 : ((byS s 0 : Int) == 45) = false := by rw [beq_eq_false_iff_ne]; omega
      subst t2 t3
      replace KN := Hid.mk' KN
      replace KS := Hid.mk' KS
      clear t1
      go_enter Tryz.func39, Tryz.ntmps39
      go_wp2_with fail
      refine KN.out.mono ?_
      rintro e w1 ⟨rfl, hww⟩
      obtain rfl := hww.symm
      go_wp2_with fail
      refine KB.out.mono ?_
      rintro e w1 ⟨rfl, hww⟩
      obtain rfl := hww.symm
      go_wp2_with fail
      refine KS.out.mono ?_
      rintro e w1 ⟨rfl, hww⟩
      obtain rfl := hww.symm
      go_wp2
      go_ret2
      exact ⟨rfl, rfl⟩
    · have c0 : (s.size : Int) > 0 := by omega
      have b0 := byS_is (s := s) (k := 0) (by omega)
      have q0 : ((byS s 0 : Int) == 45) = true := by rw [beq_iff_eq]; omega
      have i1 : (1 : Int) ≤ (s.size : Int) := by omega
      subst t2 t3
      replace KN := Hid.mk' KN
      replace KS := Hid.mk' KS
      clear t1
      go_enter Tryz.func39, Tryz.ntmps39
      go_wp2_with fail
      refine KN.out.mono ?_
      rintro e w1 ⟨rfl, hww⟩
      obtain rfl := hww.symm
      go_wp2_with fail
      refine KB.out.mono ?_
      rintro e w1 ⟨rfl, hww⟩
      obtain rfl := hww.symm
      go_wp2_with fail
      refine KS.out.mono ?_
      rintro e w1 ⟨rfl, hww⟩
      obtain rfl := hww.symm
      go_wp2
      go_ret2
      exact ⟨rfl, rfl⟩
  · have hn : (s.toList == [110, 97, 110]) = false := h1
    rw [e2, e3]
    clear h1 e2 e3
    have qp := numA_bad h3
    clear h3
    generalize numA (restT s) = Q at *
    have hi := h2
    clear h2
    obtain ⟨M, hM⟩ : ∃ M, M = minusB s := ⟨_, rfl⟩
    obtain ⟨T, hT⟩ : ∃ T, T = restT s := ⟨_, rfl⟩
    have three : (s.size = 0 ∧ M = false ∧ T = s) ∨ (0 < s.size ∧ byS s 0 ≠ 45 ∧ M = false ∧ T = s) ∨ (0 < s.size ∧ byS s 0 = 45 ∧ M = true ∧ T = s.extract 1 s.size) := by
      rw [hM, hT]
      rcases rest_cases s with ⟨x1, x2, x3 | x3⟩ | ⟨x1, x2, x3, x4⟩
      · exact .inl ⟨x3, x1, x2⟩
      · exact .inr (.inl ⟨x3.1, x3.2, x1, x2⟩)
      · exact .inr (.inr ⟨x3, x4, x1, x2⟩)
    rw [← hT] at hi
    unfold infB at hi
    rw [← hT] at KN
    clear hM hT
    rcases three with ⟨t0, t2, t3⟩ | ⟨t0, t1, t2, t3⟩ | ⟨t0, t1, t2, t3⟩
    · have c0 : ¬ (s.size : Int) > 0 := by omega
      subst t2 t3
      replace KN := Hid.mk' KN
      clear t0
      go_enter Tryz.func39, Tryz.ntmps39
      go_wp2_with fail
      refine KN.out.mono ?_
      rintro e w1 ⟨rfl, hww⟩
      obtain rfl := hww.symm
      go_wp2
      go_ret2
      exact ⟨rfl, rfl⟩
    · have c0 : (s.size : Int) > 0 := by omega
      have b0 := byS_is (s := s) (k := 0) (by omega)
      have q0 : ((byS s 0 : Int) == 45) = false := by rw [beq_eq_false_iff_ne]; omega
      subst t2 t3
      replace KN := Hid.mk' KN
      clear t1
      go_enter Tryz.func39, Tryz.ntmps39
      go_wp2_with fail
      refine KN.out.mono ?_
      rintro e w1 ⟨rfl, hww⟩
      obtain rfl := hww.symm
      go_wp2
      go_ret2
      exact ⟨rfl, rfl⟩
    · have c0 : (s.size : Int) > 0 := by omega
      have b0 := byS_is (s := s) (k := 0) (by omega)
      have q0 : ((byS s 0 : Int) == 45) = true := by rw [beq_iff_eq]; omega
      have i1 : (1 : Int) ≤ (s.size : Int) := by omega
      subst t2 t3
      replace KN := Hid.mk' KN
      clear t1
      go_enter Tryz.func39, Tryz.ntmps39
      go_wp2_with fail
      refine KN.out.mono ?_
      rintro e w1 ⟨rfl, hww⟩
      obtain rfl := hww.symm
      go_wp2
      go_ret2
      exact ⟨rfl, rfl⟩

end Go.Proofs.YtfdcfajliofbfaaGreatDoor
