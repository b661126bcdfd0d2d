/- MeasureOf: the model's side. -/
import Derived.Test.YtfdcfajliofbfaaGreatDoorBd
import Derived.Test.YtfdcfajliofbfaaGreatDoorMd
namespace Go.Proofs.YtfdcfajliofbfaaGreatDoor
open Go.RowKit
set_option linter.unusedVariables false
set_option linter.unusedSimpArgs false

theorem byS_lt (s : ByteArray) (k : Nat) : byS s k < 256 := by
  unfold byS
  split
  · exact UInt8.toNat_lt _
  · decide

set_option maxHeartbeats 800000 in
theorem l3Digits_any (t : ByteArray) (most : Nat) (w : World) (hm : most ≤ 4) (hs : (t.size : Int) ≤ 9223372036854775807) :
    Calls Tryz.prog 119 #[.string t, .int .i64 most] w fun e w' => e = .returned (.int .i64 (if digOk t most = true then (numD t t.size : Int) else -1)) ∧ w' = w := by
  obtain ⟨V, hV⟩ : ∃ V : Int, V = (if digOk t most = true then (numD t t.size : Int) else -1) := ⟨_, rfl⟩
  rw [← hV]
  by_cases h1 : t.size < 1
  · rw [digOk_none h1] at hV
    replace hV := Hid.mk' hV
    have c1 : (t.size : Int) < 1 := by omega
    go_enter Tryz.func119, Tryz.ntmps119
    go_wp2_with go_big_skip
    go_ret
    exact ⟨by rw [hV.out]; rfl, rfl⟩
  have c1 : ¬ (t.size : Int) < 1 := by omega
  by_cases h2 : most < t.size
  · rw [digOk_many h2] at hV
    replace hV := Hid.mk' hV
    have c2 : (t.size : Int) > (most : Int) := by omega
    go_enter Tryz.func119, Tryz.ntmps119
    go_wp2_with go_big_skip
    go_ret
    exact ⟨by rw [hV.out]; rfl, rfl⟩
  have c2 : ¬ (t.size : Int) > (most : Int) := by omega
  have HV := Hid.mk' hV
  clear hV
  go_enter Tryz.func119, Tryz.ntmps119
  go_wp2_with go_big_skip
  go_loop [5, 6] (fun n i => ∃ k : Nat, k ≤ t.size ∧ i = .int .i64 k ∧ n = .int .i64 (numD t k : Int) ∧ allD t k = true) (fun _ i => t.size - (intOf i).toNat)
  case atStart => exact ⟨0, Nat.zero_le _, rfl, rfl, rfl⟩
  case round =>
    obtain ⟨k, hk, rfl, rfl, hall⟩ := hrel
    have HA := Hid.mk' hall
    have nb : numD t k < 10000 := Nat.lt_of_lt_of_le (numD_lt k hall) (pow10_le (m := 4) (by omega))
    clear hall c1 c2
    by_cases hlt : k < t.size
    · have ci : (k : Int) < (t.size : Int) := by omega
      have hc := byS_is hlt
      have en : Hid (numD t (k + 1) = 10 * numD t k + (byS t k - 48)) := Hid.mk' rfl
      have HB : Hid (¬ (48 ≤ byS t k ∧ byS t k ≤ 57) → digOk t most = false) := Hid.mk' (fun h => digOk_bad hlt h)
      have HN : Hid (48 ≤ byS t k ∧ byS t k ≤ 57 → allD t (k + 1) = true) := Hid.mk' (fun h => allD_next HA.out h)
      have c256 := byS_lt t k
      generalize byS t k = c at *
      by_cases b1 : c < 48
      · have d1 : (c : Int) < 48 := by omega
        have E := Hid.mk' (HB.out (by omega))
        go_wp2_with go_big_skip
        go_ret
        exact ⟨by rw [HV.out, E.out]; rfl, rfl⟩
      · have d1 : ¬ (c : Int) < 48 := by omega
        by_cases b2 : 57 < c
        · have d2 : (c : Int) > 57 := by omega
          have E := Hid.mk' (HB.out (by omega))
          go_wp2_with go_big_skip
          go_ret
          exact ⟨by rw [HV.out, E.out]; rfl, rfl⟩
        · have d2 : ¬ (c : Int) > 57 := by omega
          have E := Hid.mk' (HN.out (by omega))
          go_wp2_with go_big_skip
          go_round
          case rel => exact ⟨k + 1, by omega, by go_num, by rw [en.out]; go_num, E.out⟩
          case measure => simp [intOf]; omega
    · have ci : ¬ (k : Int) < (t.size : Int) := by omega
      have e : k = t.size := by omega
      subst e
      have E : Hid (digOk t most = true) := Hid.mk' (digOk_iff.2 ⟨by omega, by omega, HA.out⟩)
      go_wp2_with go_big_skip
      go_ret
      exact ⟨by rw [HV.out, E.out]; rfl, rfl⟩

theorem numA_w {r : ByteArray} (h : digOk (wholeT r) 4 = false) : numA r = -4 := by unfold numA; rw [h]; rfl
theorem numA_d {r : ByteArray} (h : digOk (wholeT r) 4 = true) (hd : dotN r = r.size) : numA r = 4 * (wholeN r : Int) := by unfold numA; rw [if_pos h, if_pos hd]
theorem numA_p {r : ByteArray} (h : digOk (wholeT r) 4 = true) (hd : ¬ dotN r = r.size) (hp : digOk (partT r) 3 = false) : numA r = -1 := by unfold numA; rw [if_pos h, if_neg hd, hp]; rfl
theorem numA_n {r : ByteArray} (h : digOk (wholeT r) 4 = true) (hd : ¬ dotN r = r.size) (hp : digOk (partT r) 3 = true) (hz : ¬ padP r % 250 = 0) : numA r = -1 := by unfold numA; rw [if_pos h, if_neg hd, if_pos hp, if_neg hz]
theorem numA_q {r : ByteArray} (h : digOk (wholeT r) 4 = true) (hd : ¬ dotN r = r.size) (hp : digOk (partT r) 3 = true) (hz : padP r % 250 = 0) : numA r = 4 * (wholeN r : Int) + (padP r / 250 : Nat) := by unfold numA; rw [if_pos h, if_neg hd, if_pos hp, if_pos hz]

set_option maxRecDepth 100000 in
set_option maxHeartbeats 1600000 in
theorem l3Number_any (r : ByteArray) (w : World) (hs : (r.size : Int) ≤ 1048576) :
    Calls Tryz.prog 76 #[.string r] w fun e w' => e = .returned (.int .i64 (numA r)) ∧ w' = w := by
  have KW := l3Digits_any (wholeT r) 4 w (by omega) (by rw [whole_size]; have := dotN_le r; omega)
  have KP := l3Digits_any (partT r) 3 w (by omega) (by rw [part_size]; omega)
  have wl := Hid.mk' (dotN_le r)
  have EW : Hid (wholeT r = r.extract 0 (dotN r)) := Hid.mk' rfl
  have EP : Hid (partT r = r.extract (dotN r + 1) r.size) := Hid.mk' rfl
  go_enter Tryz.func76, Tryz.ntmps76
  go_wp2_with fail
  go_loop [3, 4] (fun d i => ∃ k : Nat, k ≤ r.size ∧ i = .int .i64 k ∧ d = .int .i64 (dotU r k : Int)) (fun _ i => r.size - (intOf i).toNat)
  case atStart => exact ⟨0, Nat.zero_le _, rfl, rfl⟩
  case round =>
    obtain ⟨k, hk, rfl, rfl⟩ := hrel
    have du : Hid (dotU r k ≤ r.size) := Hid.mk' (by rcases dotU_spec r k hk with ⟨h, _⟩ | ⟨h, _⟩ <;> omega)
    by_cases hlt : k < r.size
    · have ci : (k : Int) < (r.size : Int) := by omega
      have hc := byS_is hlt
      have en : Hid (dotU r (k + 1) = if dotU r k = r.size ∧ byS r k = 46 then k else dotU r k) := Hid.mk' rfl
      clear KW KP
      generalize byS r k = c at *
      generalize dotU r k = d at *
      by_cases b1 : c = 46
      · have d1 : ((c : Int) == 46) = true := by rw [beq_iff_eq]; omega
        by_cases b2 : d = r.size
        · have d2 : ((d : Int) == (r.size : Int)) = true := by rw [beq_iff_eq]; omega
          have E : Hid (dotU r (k + 1) = k) := Hid.mk' (by rw [en.out, if_pos ⟨b2, b1⟩])
          clear b1 b2
          go_wp2
          go_round
          case rel => exact ⟨k + 1, by omega, by go_num, by rw [E.out]⟩
          case measure => simp [intOf]; omega
        · have d2 : ((d : Int) == (r.size : Int)) = false := by rw [beq_eq_false_iff_ne]; omega
          have E : Hid (dotU r (k + 1) = d) := Hid.mk' (by rw [en.out, if_neg (fun h => b2 h.1)])
          clear b1 b2
          go_wp2
          go_round
          case rel => exact ⟨k + 1, by omega, by go_num, by rw [E.out]⟩
          case measure => simp [intOf]; omega
      · have d1 : ((c : Int) == 46) = false := by rw [beq_eq_false_iff_ne]; omega
        have E : Hid (dotU r (k + 1) = d) := Hid.mk' (by rw [en.out, if_neg (fun h => b1 h.2)])
        clear b1
        go_wp2
        go_round
        case rel => exact ⟨k + 1, by omega, by go_num, by rw [E.out]⟩
        case measure => simp [intOf]; omega
    · have ci : ¬ (k : Int) < (r.size : Int) := by omega
      have e : k = r.size := by omega
      subst e
      have e2 : dotU r r.size = dotN r := rfl
      rw [e2]
      clear e2 du hk hlt
      have wl' := wl.out
      rw [EW.out] at KW
      rw [EP.out] at KP
      have i1 : (0 : Int) ≤ (dotN r : Int) := by omega
      have i2 : (dotN r : Int) ≤ (r.size : Int) := by omega
      cases hw : digOk (wholeT r) 4
      · have E := Hid.mk' (numA_w hw)
        rw [← EW.out, hw, EW.out] at KW
        have KW := Hid.mk' KW
        clear KP
        generalize dotN r = d at *
        go_wp2_with fail
        refine KW.out.mono ?_
        rintro e w1 ⟨rfl, hww⟩
        obtain rfl := hww.symm
        go_wp2_with go_big_skip
        go_ret
        exact ⟨by rw [E.out]; rfl, rfl⟩
      rw [← EW.out, hw, if_pos rfl] at KW
      have hwn : Hid (numD (wholeT r) (wholeT r).size = wholeN r) := Hid.mk' rfl
      rw [hwn.out, EW.out] at KW
      have KW := Hid.mk' KW
      have wn := wholeN_lt hw
      by_cases hd : dotN r = r.size
      · have E := Hid.mk' (numA_d hw hd)
        have d2 : ((dotN r : Int) == (r.size : Int)) = true := by rw [beq_iff_eq]; omega
        clear KP hd hw
        generalize wholeN r = n at *
        generalize dotN r = d at *
        go_wp2_with fail
        refine KW.out.mono ?_
        rintro e w1 ⟨rfl, hww⟩
        obtain rfl := hww.symm
        go_wp2_with go_big_skip
        go_ret
        exact ⟨by rw [E.out]; rfl, rfl⟩
      have d2 : ((dotN r : Int) == (r.size : Int)) = false := by rw [beq_eq_false_iff_ne]; omega
      have i3 : (dotN r : Int) + 1 ≤ (r.size : Int) := by omega
      have i4 : ((dotN r : Int) + 1).toNat = dotN r + 1 := by omega
      have i5 : (0 : Int) ≤ (dotN r : Int) + 1 := by omega
      cases hp : digOk (partT r) 3
      · have E := Hid.mk' (numA_p hw hd hp)
        rw [← EP.out, hp, EP.out] at KP
        have KP := Hid.mk' KP
        clear hd hw hp
        generalize wholeN r = n at *
        generalize dotN r = d at *
        go_wp2_with fail
        refine KW.out.mono ?_
        rintro e w1 ⟨rfl, hww⟩
        obtain rfl := hww.symm
        go_wp2_with fail
        refine KP.out.mono ?_
        rintro e w1 ⟨rfl, hww⟩
        obtain rfl := hww.symm
        go_wp2_with go_big_skip
        go_ret
        exact ⟨by rw [E.out]; rfl, rfl⟩
      rw [← EP.out, hp, if_pos rfl] at KP
      have hpn : Hid (numD (partT r) (partT r).size = partN r) := Hid.mk' rfl
      rw [hpn.out, EP.out] at KP
      have KP := Hid.mk' KP
      have sz := part_size r
      have pz : Hid (∀ f : Nat, f = (partT r).size → padP r = partN r * 10 ^ (3 - f)) := Hid.mk' (fun f hf => by rw [hf]; rfl)
      have cs := part_sizes hp
      have E0 : Hid (padP r % 250 = 0 → numA r = 4 * (wholeN r : Int) + (padP r / 250 : Nat)) := Hid.mk' (numA_q hw hd hp)
      have E1 : Hid (¬ padP r % 250 = 0 → numA r = -1) := Hid.mk' (numA_n hw hd hp)
      clear hw hp
      obtain ⟨f, hf, hf1, hf3, p0, pd⟩ : ∃ f : Nat, (r.size : Int) - (dotN r : Int) - 1 = (f : Int) ∧ 1 ≤ f ∧ f ≤ 3 ∧ partN r < 1000 ∧ padP r = partN r * 10 ^ (3 - f) := by
        rcases cs with ⟨a, b, c⟩ | ⟨a, b, c⟩ | ⟨a, b, c⟩
        · exact ⟨1, by omega, by omega, by omega, by omega, by rw [c]⟩
        · exact ⟨2, by omega, by omega, by omega, by omega, by rw [c]⟩
        · exact ⟨3, by omega, by omega, by omega, by omega, by rw [c]; simp⟩
      have pl : padP r < 1000 := by rcases cs with ⟨a, b, c⟩ | ⟨a, b, c⟩ | ⟨a, b, c⟩ <;> omega
      clear cs sz hd
      generalize wholeN r = n at *
      generalize partN r = m at *
      generalize padP r = g at *
      generalize dotN r = d at *
      go_wp2_with fail
      refine KW.out.mono ?_
      rintro e w1 ⟨rfl, hww⟩
      obtain rfl := hww.symm
      go_wp2_with fail
      refine KP.out.mono ?_
      rintro e w1 ⟨rfl, hww⟩
      obtain rfl := hww.symm
      go_wp2_with go_big_skip
      have PD := Hid.mk' pd
      clear pd
      go_loop [6, 7] (fun p i => ∃ k a : Nat, k ≤ 3 ∧ i = .int .i64 k ∧ p = .int .i64 (a : Int) ∧ a * 10 ^ (3 - k) = g) (fun _ i => 3 - (intOf i).toNat)
      case atStart => exact ⟨f, m, by omega, rfl, rfl, PD.out.symm⟩
      case round =>
        obtain ⟨k, a, hk, rfl, rfl, hg⟩ := hrel
        have hg' := Hid.mk' hg
        have ha : a ≤ g := by
          rw [← hg]
          exact Nat.le_mul_of_pos_right _ (Nat.pow_pos (by decide))
        clear hg
        by_cases c : k < 3
        · have ci : (k : Int) < 3 := by omega
          go_wp2_with go_big_skip
          go_round
          case rel => exact ⟨k + 1, 10 * a, by omega, by go_num, by go_num, by
            have := hg'.out
            rw [show 3 - k = (3 - (k + 1)) + 1 by omega, Nat.pow_succ] at this
            rw [← this, Nat.mul_comm 10 a, Nat.mul_assoc, Nat.mul_comm 10]⟩
          case measure => simp [intOf]; omega
        · have ci : ¬ (k : Int) < 3 := by omega
          have ek : k = 3 := by omega
          have ea : a = g := by have := hg'.out; rw [ek] at this; simpa using this
          subst ea
          clear ek c ha
          by_cases hz : a % 250 = 0
          · have E := Hid.mk' (E0.out hz)
            have hz1 : (((a : Int) % 250) == 0) = true := by rw [beq_iff_eq]; omega
            go_wp2_with go_big_skip
            go_ret
            exact ⟨by rw [E.out]; go_num, rfl⟩
          · have E := Hid.mk' (E1.out hz)
            have hz1 : (((a : Int) % 250) == 0) = false := by rw [beq_eq_false_iff_ne]; omega
            go_wp2_with go_big_skip
            go_ret
            exact ⟨by rw [E.out]; rfl, rfl⟩

end Go.Proofs.YtfdcfajliofbfaaGreatDoor
