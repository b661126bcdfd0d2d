/- readFloat at a text of digits with at most one point: its walk. -/
import Derived.Test.YthhdfbgjdfoalaaGreatDoorFp
namespace Go.Proofs.YthhdfbgjdfoalaaGreatDoor
open Go.RowKit
set_option linter.unusedVariables false
set_option linter.unusedSimpArgs false

set_option maxRecDepth 100000 in
set_option maxHeartbeats 6400000 in
theorem readFloat_short (s : ByteArray) (w : World) (hd : isDec s) (h2 : s.size ≤ 2) :
    Calls Tryz.prog 261 #[.string s] w fun e w' => e = .returned (.tuple #[.int .u64 (rfM s s.size), .int .i64 (if rfM s s.size = 0 then 0 else if rfD s s.size = true then -(rfF s s.size : Int) else 0), .bool false, .bool false, .bool false, .int .i64 s.size, .bool true]) ∧ w' = w := by
  obtain ⟨X, hX⟩ : ∃ X : Int, X = (if rfM s s.size = 0 then 0 else if rfD s s.size = true then -(rfF s s.size : Int) else 0) := ⟨_, rfl⟩
  rw [← hX]
  replace hX := Hid.mk' hX
  have n8 := hd.2.1
  have n0 := hd.1
  have p1 : ¬ (0 : Int) ≥ (s.size : Int) := by omega
  have b0 := byS_is (s := s) (k := 0) (by omega)
  have q1 : ((byS s 0 : Int) == 43) = false := by rw [beq_eq_false_iff_ne]; have := hd.2.2.1; omega
  have hse : ¬ s = ByteArray.empty := by rintro rfl; simp at n0
  have hsz : ¬ s.size = 0 := by omega
  have q2 : ((byS s 0 : Int) == 45) = false := by rw [beq_eq_false_iff_ne]; have := hd.2.2.1; omega
  have p2 : ¬ (2 : Int) < (s.size : Int) := by omega
  go_enter Tryz.func261, Tryz.ntmps261
  go_wp2
  refine wp_scope_plain (fun l a w h => ?_) ?_
  · exact h
  go_wp2
  refine wp_label ?_
  go_wp2
  go_loop [2, 5, 7, 9, 13, 14, 15, 16, 17] (fun m tr i us sd sg nd nm dp => ∃ (k : Nat) (z : Int), tr = .bool false ∧ us = .bool false ∧ k ≤ s.size ∧ m = .int .u64 (rfM s k) ∧ i = .int .i64 k ∧ sd = .bool (rfD s k) ∧ sg = .bool (decide (0 < k)) ∧ nd = .int .i64 (rfN s k) ∧ nm = .int .i64 (rfN s k) ∧ dp = .int .i64 z ∧ (rfD s k = true → z = (rfN s k : Int) - rfF s k) ∧ -(k : Int) ≤ z ∧ z ≤ k) (fun _ _ i _ _ _ _ _ _ => s.size - (intOf i).toNat)
  case atStart => exact ⟨0, 0, rfl, rfl, Nat.zero_le _, rfl, rfl, rfl, rfl, rfl, rfl, rfl, fun h => (by cases h), by omega, by omega⟩
  case round =>
    obtain ⟨k, z, rfl, rfl, hk, rfl, rfl, rfl, rfl, rfl, rfl, rfl, hz, z1, z2⟩ := hrel
    have HZ := Hid.mk' hz
    clear hz
    have n1 := rfN_le s k
    have m1 := rfM_bd s hd k hk
    by_cases hlt : k < s.size
    · have ci : (k : Int) < (s.size : Int) := by omega
      have hc := byS_is hlt
      have hC := hd.2.2.2 k hlt
      have eM : Hid (rfM s (k + 1) = if byS s k = 46 then rfM s k else rfM s k * 10 + (byS s k - 48)) := Hid.mk' rfl
      have eN : Hid (rfN s (k + 1) = if byS s k = 46 then rfN s k else if byS s k = 48 ∧ rfN s k = 0 then 0 else rfN s k + 1) := Hid.mk' rfl
      have eD : Hid (rfD s (k + 1) = if byS s k = 46 then true else rfD s k) := Hid.mk' rfl
      have eF : Hid (rfF s (k + 1) = if byS s k = 46 then 0 else if rfD s k = true then rfF s k + 1 else 0) := Hid.mk' rfl
      obtain ⟨c, hcc⟩ : ∃ c, byS s k = c := ⟨_, rfl⟩
      rw [hcc] at hc hC eM eN eD eF
      obtain ⟨nn, hnn⟩ : ∃ nn, rfN s k = nn := ⟨_, rfl⟩
      obtain ⟨mm, hmm⟩ : ∃ mm, rfM s k = mm := ⟨_, rfl⟩
      obtain ⟨dd, hdd⟩ : ∃ dd, rfD s k = dd := ⟨_, rfl⟩
      obtain ⟨ff, hff⟩ : ∃ ff, rfF s k = ff := ⟨_, rfl⟩
      rw [hnn] at n1 eN HZ
      rw [hmm] at m1 eM
      rw [hdd] at eD eF HZ hC
      rw [hff] at eF HZ
      simp only [hnn, hmm, hdd]
      have u1 : ((c : Int) == 95) = false := by rw [beq_eq_false_iff_ne]; omega
      have hk0 : c = 46 → 0 < k := fun h => by
        rcases Nat.eq_zero_or_pos k with h0 | h0
        · rw [h0] at hcc; have := hd.2.2.1; omega
        · exact h0
      have hm0 : nn = 0 → mm = 0 := fun h => by rw [← hmm]; exact rfM_zero s hd k hk (by rw [hnn]; exact h)
      clear hnn hmm hdd hff hcc
      by_cases h46 : c = 46
      · have hdf : dd = false := by rcases hC with h | h; omega; exact h.2
        subst hdf
        have hk1 := hk0 h46
        subst h46
        clear hC
        go_wp2
        go_round
        case rel => exact ⟨k + 1, nn, rfl, rfl, by omega, by rw [eM.out]; rfl, by go_num, by rw [eD.out]; rfl, by simp [hk1], by rw [eN.out]; rfl, by rw [eN.out]; rfl, rfl, fun _ => by rw [eN.out, eF.out]; simp, by omega, by omega⟩
        case measure => simp [intOf]; omega
      · have hcd : 48 ≤ c ∧ c ≤ 57 := by rcases hC with h | h; exact h; omega
        have u2 : ((c : Int) == 46) = false := by rw [beq_eq_false_iff_ne]; omega
        have u3 : (48 : Int) ≤ (c : Int) := by omega
        have u4 : (c : Int) ≤ 57 := by omega
        rw [if_neg h46] at eM eN eD eF
        clear hC
        by_cases hzz : c = 48 ∧ nn = 0
        · obtain ⟨rfl, rfl⟩ := hzz
          rw [if_pos ⟨rfl, rfl⟩] at eN
          go_wp2
          go_round
          case rel => exact ⟨k + 1, z - 1, rfl, rfl, by omega, by rw [eM.out, hm0 rfl], by go_num, by rw [eD.out], by simp, by rw [eN.out], by rw [eN.out], by go_num, fun h => by rw [eN.out, eF.out, if_pos (by rw [← eD.out]; exact h)]; have := HZ.out (by rw [← eD.out]; exact h); omega, by omega, by omega⟩
          case measure => simp [intOf]; omega
        · rw [if_neg hzz] at eN
          have u5 : (nn : Int) < 19 := by omega
          by_cases h48 : c = 48
          · subst h48
            have u6 : ((nn : Int) == 0) = false := by rw [beq_eq_false_iff_ne]; omega
            have u7 : ¬ nn = 0 := by omega
            go_wp2
            go_round
            case rel => exact ⟨k + 1, z, rfl, rfl, by omega, by rw [eM.out]; first | (congr 1; omega) | (congr 1) | rfl, by go_num, by rw [eD.out], by simp, by rw [eN.out]; go_num, by rw [eN.out]; go_num, rfl, fun h => by rw [eN.out, eF.out, if_pos (by rw [← eD.out]; exact h)]; have := HZ.out (by rw [← eD.out]; exact h); omega, by omega, by omega⟩
            case measure => simp [intOf]; omega
          · have u6 : ((c : Int) == 48) = false := by rw [beq_eq_false_iff_ne]; omega
            go_wp2
            go_round
            case rel => exact ⟨k + 1, z, rfl, rfl, by omega, by rw [eM.out]; first | (congr 1; omega) | (congr 1) | rfl, by go_num, by rw [eD.out], by simp, by rw [eN.out]; go_num, by rw [eN.out]; go_num, rfl, fun h => by rw [eN.out, eF.out, if_pos (by rw [← eD.out]; exact h)]; have := HZ.out (by rw [← eD.out]; exact h); omega, by omega, by omega⟩
            case measure => simp [intOf]; omega
    · have ci : ¬ (k : Int) < (s.size : Int) := by omega
      obtain rfl : k = s.size := by omega
      have v1 : decide (0 < s.size) = true := by rw [decide_eq_true_eq]; omega
      obtain ⟨N, hN⟩ : ∃ n, n = s.size := ⟨_, rfl⟩
      obtain ⟨mm, hmm⟩ : ∃ mm, rfM s s.size = mm := ⟨_, rfl⟩
      obtain ⟨dd, hdd⟩ : ∃ dd, rfD s s.size = dd := ⟨_, rfl⟩
      obtain ⟨nn, hnn⟩ : ∃ nn, rfN s s.size = nn := ⟨_, rfl⟩
      rw [hmm, hdd] at hX
      rw [hdd, hnn] at HZ
      rw [hnn] at n1
      rw [hmm] at m1
      have f1 := rfF_le s s.size
      simp only [hnn, hmm, hdd]
      have HM := Hid.mk' hmm
      clear hmm hdd hnn
      generalize rfF s s.size = ff at *
      by_cases hM : mm = 0
      · subst hM
        rw [if_pos rfl] at hX
        cases dd
        · go_wp2
          (try simp only [Exit.inBlock, Exit.then])
          refine bodyPost_ret (results_tmp7 rfl _ _ _) rfl ?_
          refine ⟨?_, rfl⟩
          rw [hX.out, HM.out]
          rfl
        · go_wp2
          (try simp only [Exit.inBlock, Exit.then])
          refine bodyPost_ret (results_tmp7 rfl _ _ _) rfl ?_
          refine ⟨?_, rfl⟩
          rw [hX.out, HM.out]
          rfl
      · rw [if_neg hM] at hX
        have v2 : ((mm : Int) != 0) = true := by rw [bne_iff_ne]; omega
        cases dd
        · rw [if_neg (by decide)] at hX
          go_wp2
          (try simp only [Exit.inBlock, Exit.then])
          refine bodyPost_ret (results_tmp7 rfl _ _ _) rfl ?_
          refine ⟨?_, rfl⟩
          rw [hX.out, HM.out]
          rfl
        · rw [if_pos rfl] at hX
          have hz := HZ.out rfl
          subst hz
          have v3 : (nn : Int) - (ff : Int) - nn = -(ff : Int) := by omega
          go_wp2
          (try simp only [Exit.inBlock, Exit.then])
          refine bodyPost_ret (results_tmp7 rfl _ _ _) rfl ?_
          refine ⟨?_, rfl⟩
          rw [hX.out, HM.out]
          rfl

set_option maxRecDepth 100000 in
set_option maxHeartbeats 6400000 in
theorem readFloat_other (s : ByteArray) (w : World) (hd : isDec s) (h2 : 2 < s.size) (h3 : byS s 0 ≠ 48) :
    Calls Tryz.prog 261 #[.string s] w fun e w' => e = .returned (.tuple #[.int .u64 (rfM s s.size), .int .i64 (if rfM s s.size = 0 then 0 else if rfD s s.size = true then -(rfF s s.size : Int) else 0), .bool false, .bool false, .bool false, .int .i64 s.size, .bool true]) ∧ w' = w := by
  obtain ⟨X, hX⟩ : ∃ X : Int, X = (if rfM s s.size = 0 then 0 else if rfD s s.size = true then -(rfF s s.size : Int) else 0) := ⟨_, rfl⟩
  rw [← hX]
  replace hX := Hid.mk' hX
  have n8 := hd.2.1
  have n0 := hd.1
  have p1 : ¬ (0 : Int) ≥ (s.size : Int) := by omega
  have b0 := byS_is (s := s) (k := 0) (by omega)
  have q1 : ((byS s 0 : Int) == 43) = false := by rw [beq_eq_false_iff_ne]; have := hd.2.2.1; omega
  have hse : ¬ s = ByteArray.empty := by rintro rfl; simp at n0
  have hsz : ¬ s.size = 0 := by omega
  have q2 : ((byS s 0 : Int) == 45) = false := by rw [beq_eq_false_iff_ne]; have := hd.2.2.1; omega
  have p2 : (2 : Int) < (s.size : Int) := by omega
  have q3 : ((byS s 0 : Int) == 48) = false := by rw [beq_eq_false_iff_ne]; omega
  go_enter Tryz.func261, Tryz.ntmps261
  go_wp2
  refine wp_scope_plain (fun l a w h => ?_) ?_
  · exact h
  go_wp2
  refine wp_label ?_
  go_wp2
  go_loop [2, 5, 7, 9, 13, 14, 15, 16, 17] (fun m tr i us sd sg nd nm dp => ∃ (k : Nat) (z : Int), tr = .bool false ∧ us = .bool false ∧ k ≤ s.size ∧ m = .int .u64 (rfM s k) ∧ i = .int .i64 k ∧ sd = .bool (rfD s k) ∧ sg = .bool (decide (0 < k)) ∧ nd = .int .i64 (rfN s k) ∧ nm = .int .i64 (rfN s k) ∧ dp = .int .i64 z ∧ (rfD s k = true → z = (rfN s k : Int) - rfF s k) ∧ -(k : Int) ≤ z ∧ z ≤ k) (fun _ _ i _ _ _ _ _ _ => s.size - (intOf i).toNat)
  case atStart => exact ⟨0, 0, rfl, rfl, Nat.zero_le _, rfl, rfl, rfl, rfl, rfl, rfl, rfl, fun h => (by cases h), by omega, by omega⟩
  case round =>
    obtain ⟨k, z, rfl, rfl, hk, rfl, rfl, rfl, rfl, rfl, rfl, rfl, hz, z1, z2⟩ := hrel
    have HZ := Hid.mk' hz
    clear hz
    have n1 := rfN_le s k
    have m1 := rfM_bd s hd k hk
    by_cases hlt : k < s.size
    · have ci : (k : Int) < (s.size : Int) := by omega
      have hc := byS_is hlt
      have hC := hd.2.2.2 k hlt
      have eM : Hid (rfM s (k + 1) = if byS s k = 46 then rfM s k else rfM s k * 10 + (byS s k - 48)) := Hid.mk' rfl
      have eN : Hid (rfN s (k + 1) = if byS s k = 46 then rfN s k else if byS s k = 48 ∧ rfN s k = 0 then 0 else rfN s k + 1) := Hid.mk' rfl
      have eD : Hid (rfD s (k + 1) = if byS s k = 46 then true else rfD s k) := Hid.mk' rfl
      have eF : Hid (rfF s (k + 1) = if byS s k = 46 then 0 else if rfD s k = true then rfF s k + 1 else 0) := Hid.mk' rfl
      obtain ⟨c, hcc⟩ : ∃ c, byS s k = c := ⟨_, rfl⟩
      rw [hcc] at hc hC eM eN eD eF
      obtain ⟨nn, hnn⟩ : ∃ nn, rfN s k = nn := ⟨_, rfl⟩
      obtain ⟨mm, hmm⟩ : ∃ mm, rfM s k = mm := ⟨_, rfl⟩
      obtain ⟨dd, hdd⟩ : ∃ dd, rfD s k = dd := ⟨_, rfl⟩
      obtain ⟨ff, hff⟩ : ∃ ff, rfF s k = ff := ⟨_, rfl⟩
      rw [hnn] at n1 eN HZ
      rw [hmm] at m1 eM
      rw [hdd] at eD eF HZ hC
      rw [hff] at eF HZ
      simp only [hnn, hmm, hdd]
      have u1 : ((c : Int) == 95) = false := by rw [beq_eq_false_iff_ne]; omega
      have hk0 : c = 46 → 0 < k := fun h => by
        rcases Nat.eq_zero_or_pos k with h0 | h0
        · rw [h0] at hcc; have := hd.2.2.1; omega
        · exact h0
      have hm0 : nn = 0 → mm = 0 := fun h => by rw [← hmm]; exact rfM_zero s hd k hk (by rw [hnn]; exact h)
      clear hnn hmm hdd hff hcc
      by_cases h46 : c = 46
      · have hdf : dd = false := by rcases hC with h | h; omega; exact h.2
        subst hdf
        have hk1 := hk0 h46
        subst h46
        clear hC
        go_wp2
        go_round
        case rel => exact ⟨k + 1, nn, rfl, rfl, by omega, by rw [eM.out]; rfl, by go_num, by rw [eD.out]; rfl, by simp [hk1], by rw [eN.out]; rfl, by rw [eN.out]; rfl, rfl, fun _ => by rw [eN.out, eF.out]; simp, by omega, by omega⟩
        case measure => simp [intOf]; omega
      · have hcd : 48 ≤ c ∧ c ≤ 57 := by rcases hC with h | h; exact h; omega
        have u2 : ((c : Int) == 46) = false := by rw [beq_eq_false_iff_ne]; omega
        have u3 : (48 : Int) ≤ (c : Int) := by omega
        have u4 : (c : Int) ≤ 57 := by omega
        rw [if_neg h46] at eM eN eD eF
        clear hC
        by_cases hzz : c = 48 ∧ nn = 0
        · obtain ⟨rfl, rfl⟩ := hzz
          rw [if_pos ⟨rfl, rfl⟩] at eN
          go_wp2
          go_round
          case rel => exact ⟨k + 1, z - 1, rfl, rfl, by omega, by rw [eM.out, hm0 rfl], by go_num, by rw [eD.out], by simp, by rw [eN.out], by rw [eN.out], by go_num, fun h => by rw [eN.out, eF.out, if_pos (by rw [← eD.out]; exact h)]; have := HZ.out (by rw [← eD.out]; exact h); omega, by omega, by omega⟩
          case measure => simp [intOf]; omega
        · rw [if_neg hzz] at eN
          have u5 : (nn : Int) < 19 := by omega
          by_cases h48 : c = 48
          · subst h48
            have u6 : ((nn : Int) == 0) = false := by rw [beq_eq_false_iff_ne]; omega
            have u7 : ¬ nn = 0 := by omega
            go_wp2
            go_round
            case rel => exact ⟨k + 1, z, rfl, rfl, by omega, by rw [eM.out]; first | (congr 1; omega) | (congr 1) | rfl, by go_num, by rw [eD.out], by simp, by rw [eN.out]; go_num, by rw [eN.out]; go_num, rfl, fun h => by rw [eN.out, eF.out, if_pos (by rw [← eD.out]; exact h)]; have := HZ.out (by rw [← eD.out]; exact h); omega, by omega, by omega⟩
            case measure => simp [intOf]; omega
          · have u6 : ((c : Int) == 48) = false := by rw [beq_eq_false_iff_ne]; omega
            go_wp2
            go_round
            case rel => exact ⟨k + 1, z, rfl, rfl, by omega, by rw [eM.out]; first | (congr 1; omega) | (congr 1) | rfl, by go_num, by rw [eD.out], by simp, by rw [eN.out]; go_num, by rw [eN.out]; go_num, rfl, fun h => by rw [eN.out, eF.out, if_pos (by rw [← eD.out]; exact h)]; have := HZ.out (by rw [← eD.out]; exact h); omega, by omega, by omega⟩
            case measure => simp [intOf]; omega
    · have ci : ¬ (k : Int) < (s.size : Int) := by omega
      obtain rfl : k = s.size := by omega
      have v1 : decide (0 < s.size) = true := by rw [decide_eq_true_eq]; omega
      obtain ⟨N, hN⟩ : ∃ n, n = s.size := ⟨_, rfl⟩
      obtain ⟨mm, hmm⟩ : ∃ mm, rfM s s.size = mm := ⟨_, rfl⟩
      obtain ⟨dd, hdd⟩ : ∃ dd, rfD s s.size = dd := ⟨_, rfl⟩
      obtain ⟨nn, hnn⟩ : ∃ nn, rfN s s.size = nn := ⟨_, rfl⟩
      rw [hmm, hdd] at hX
      rw [hdd, hnn] at HZ
      rw [hnn] at n1
      rw [hmm] at m1
      have f1 := rfF_le s s.size
      simp only [hnn, hmm, hdd]
      have HM := Hid.mk' hmm
      clear hmm hdd hnn
      generalize rfF s s.size = ff at *
      by_cases hM : mm = 0
      · subst hM
        rw [if_pos rfl] at hX
        cases dd
        · go_wp2
          (try simp only [Exit.inBlock, Exit.then])
          refine bodyPost_ret (results_tmp7 rfl _ _ _) rfl ?_
          refine ⟨?_, rfl⟩
          rw [hX.out, HM.out]
          rfl
        · go_wp2
          (try simp only [Exit.inBlock, Exit.then])
          refine bodyPost_ret (results_tmp7 rfl _ _ _) rfl ?_
          refine ⟨?_, rfl⟩
          rw [hX.out, HM.out]
          rfl
      · rw [if_neg hM] at hX
        have v2 : ((mm : Int) != 0) = true := by rw [bne_iff_ne]; omega
        cases dd
        · rw [if_neg (by decide)] at hX
          go_wp2
          (try simp only [Exit.inBlock, Exit.then])
          refine bodyPost_ret (results_tmp7 rfl _ _ _) rfl ?_
          refine ⟨?_, rfl⟩
          rw [hX.out, HM.out]
          rfl
        · rw [if_pos rfl] at hX
          have hz := HZ.out rfl
          subst hz
          have v3 : (nn : Int) - (ff : Int) - nn = -(ff : Int) := by omega
          go_wp2
          (try simp only [Exit.inBlock, Exit.then])
          refine bodyPost_ret (results_tmp7 rfl _ _ _) rfl ?_
          refine ⟨?_, rfl⟩
          rw [hX.out, HM.out]
          rfl

set_option maxRecDepth 100000 in
set_option maxHeartbeats 6400000 in
theorem readFloat_nought (s : ByteArray) (w : World) (hd : isDec s) (h2 : 2 < s.size) (h3 : byS s 0 = 48) :
    Calls Tryz.prog 261 #[.string s] w fun e w' => e = .returned (.tuple #[.int .u64 (rfM s s.size), .int .i64 (if rfM s s.size = 0 then 0 else if rfD s s.size = true then -(rfF s s.size : Int) else 0), .bool false, .bool false, .bool false, .int .i64 s.size, .bool true]) ∧ w' = w := by
  obtain ⟨X, hX⟩ : ∃ X : Int, X = (if rfM s s.size = 0 then 0 else if rfD s s.size = true then -(rfF s s.size : Int) else 0) := ⟨_, rfl⟩
  rw [← hX]
  replace hX := Hid.mk' hX
  have n8 := hd.2.1
  have n0 := hd.1
  have p1 : ¬ (0 : Int) ≥ (s.size : Int) := by omega
  have b0 := byS_is (s := s) (k := 0) (by omega)
  have q1 : ((byS s 0 : Int) == 43) = false := by rw [beq_eq_false_iff_ne]; have := hd.2.2.1; omega
  have hse : ¬ s = ByteArray.empty := by rintro rfl; simp at n0
  have hsz : ¬ s.size = 0 := by omega
  have q2 : ((byS s 0 : Int) == 45) = false := by rw [beq_eq_false_iff_ne]; have := hd.2.2.1; omega
  have p2 : (2 : Int) < (s.size : Int) := by omega
  have p3 : (1 : Int) < (s.size : Int) := by omega
  have q3 : ((byS s 0 : Int) == 48) = true := by rw [beq_iff_eq]; omega
  have b1 := byS_is (s := s) (k := 1) (by omega)
  have hc1 := hd.2.2.2 1 (by omega)
  have q4 : ((byS s 1 : Int) == 120) = false := by rw [beq_eq_false_iff_ne]; omega
  have KLw : Hid (∀ W : World, Calls Tryz.prog 240 #[.int .u8 (byS s 1)] W fun e w' => e = .returned (.int .u8 (byS s 1)) ∧ w' = W) := fun W => lower_any (byS s 1) W (by omega)
  clear hc1
  go_enter Tryz.func261, Tryz.ntmps261
  go_wp2
  refine wp_scope_plain (fun l a w h => ?_) ?_
  · exact h
  go_wp2_with ((go_at_call 240; refine (KLw.out _).mono ?_; rintro e w1 ⟨rfl, hw⟩; obtain rfl := hw.symm))
  refine wp_label ?_
  go_wp2
  go_loop [2, 5, 7, 9, 13, 14, 15, 16, 17] (fun m tr i us sd sg nd nm dp => ∃ (k : Nat) (z : Int), tr = .bool false ∧ us = .bool false ∧ k ≤ s.size ∧ m = .int .u64 (rfM s k) ∧ i = .int .i64 k ∧ sd = .bool (rfD s k) ∧ sg = .bool (decide (0 < k)) ∧ nd = .int .i64 (rfN s k) ∧ nm = .int .i64 (rfN s k) ∧ dp = .int .i64 z ∧ (rfD s k = true → z = (rfN s k : Int) - rfF s k) ∧ -(k : Int) ≤ z ∧ z ≤ k) (fun _ _ i _ _ _ _ _ _ => s.size - (intOf i).toNat)
  case atStart => exact ⟨0, 0, rfl, rfl, Nat.zero_le _, rfl, rfl, rfl, rfl, rfl, rfl, rfl, fun h => (by cases h), by omega, by omega⟩
  case round =>
    obtain ⟨k, z, rfl, rfl, hk, rfl, rfl, rfl, rfl, rfl, rfl, rfl, hz, z1, z2⟩ := hrel
    have HZ := Hid.mk' hz
    clear hz
    have n1 := rfN_le s k
    have m1 := rfM_bd s hd k hk
    by_cases hlt : k < s.size
    · have ci : (k : Int) < (s.size : Int) := by omega
      have hc := byS_is hlt
      have hC := hd.2.2.2 k hlt
      have eM : Hid (rfM s (k + 1) = if byS s k = 46 then rfM s k else rfM s k * 10 + (byS s k - 48)) := Hid.mk' rfl
      have eN : Hid (rfN s (k + 1) = if byS s k = 46 then rfN s k else if byS s k = 48 ∧ rfN s k = 0 then 0 else rfN s k + 1) := Hid.mk' rfl
      have eD : Hid (rfD s (k + 1) = if byS s k = 46 then true else rfD s k) := Hid.mk' rfl
      have eF : Hid (rfF s (k + 1) = if byS s k = 46 then 0 else if rfD s k = true then rfF s k + 1 else 0) := Hid.mk' rfl
      obtain ⟨c, hcc⟩ : ∃ c, byS s k = c := ⟨_, rfl⟩
      rw [hcc] at hc hC eM eN eD eF
      obtain ⟨nn, hnn⟩ : ∃ nn, rfN s k = nn := ⟨_, rfl⟩
      obtain ⟨mm, hmm⟩ : ∃ mm, rfM s k = mm := ⟨_, rfl⟩
      obtain ⟨dd, hdd⟩ : ∃ dd, rfD s k = dd := ⟨_, rfl⟩
      obtain ⟨ff, hff⟩ : ∃ ff, rfF s k = ff := ⟨_, rfl⟩
      rw [hnn] at n1 eN HZ
      rw [hmm] at m1 eM
      rw [hdd] at eD eF HZ hC
      rw [hff] at eF HZ
      simp only [hnn, hmm, hdd]
      have u1 : ((c : Int) == 95) = false := by rw [beq_eq_false_iff_ne]; omega
      have hk0 : c = 46 → 0 < k := fun h => by
        rcases Nat.eq_zero_or_pos k with h0 | h0
        · rw [h0] at hcc; have := hd.2.2.1; omega
        · exact h0
      have hm0 : nn = 0 → mm = 0 := fun h => by rw [← hmm]; exact rfM_zero s hd k hk (by rw [hnn]; exact h)
      clear hnn hmm hdd hff hcc
      by_cases h46 : c = 46
      · have hdf : dd = false := by rcases hC with h | h; omega; exact h.2
        subst hdf
        have hk1 := hk0 h46
        subst h46
        clear hC
        go_wp2
        go_round
        case rel => exact ⟨k + 1, nn, rfl, rfl, by omega, by rw [eM.out]; rfl, by go_num, by rw [eD.out]; rfl, by simp [hk1], by rw [eN.out]; rfl, by rw [eN.out]; rfl, rfl, fun _ => by rw [eN.out, eF.out]; simp, by omega, by omega⟩
        case measure => simp [intOf]; omega
      · have hcd : 48 ≤ c ∧ c ≤ 57 := by rcases hC with h | h; exact h; omega
        have u2 : ((c : Int) == 46) = false := by rw [beq_eq_false_iff_ne]; omega
        have u3 : (48 : Int) ≤ (c : Int) := by omega
        have u4 : (c : Int) ≤ 57 := by omega
        rw [if_neg h46] at eM eN eD eF
        clear hC
        by_cases hzz : c = 48 ∧ nn = 0
        · obtain ⟨rfl, rfl⟩ := hzz
          rw [if_pos ⟨rfl, rfl⟩] at eN
          go_wp2
          go_round
          case rel => exact ⟨k + 1, z - 1, rfl, rfl, by omega, by rw [eM.out, hm0 rfl], by go_num, by rw [eD.out], by simp, by rw [eN.out], by rw [eN.out], by go_num, fun h => by rw [eN.out, eF.out, if_pos (by rw [← eD.out]; exact h)]; have := HZ.out (by rw [← eD.out]; exact h); omega, by omega, by omega⟩
          case measure => simp [intOf]; omega
        · rw [if_neg hzz] at eN
          have u5 : (nn : Int) < 19 := by omega
          by_cases h48 : c = 48
          · subst h48
            have u6 : ((nn : Int) == 0) = false := by rw [beq_eq_false_iff_ne]; omega
            have u7 : ¬ nn = 0 := by omega
            go_wp2
            go_round
            case rel => exact ⟨k + 1, z, rfl, rfl, by omega, by rw [eM.out]; first | (congr 1; omega) | (congr 1) | rfl, by go_num, by rw [eD.out], by simp, by rw [eN.out]; go_num, by rw [eN.out]; go_num, rfl, fun h => by rw [eN.out, eF.out, if_pos (by rw [← eD.out]; exact h)]; have := HZ.out (by rw [← eD.out]; exact h); omega, by omega, by omega⟩
            case measure => simp [intOf]; omega
          · have u6 : ((c : Int) == 48) = false := by rw [beq_eq_false_iff_ne]; omega
            go_wp2
            go_round
            case rel => exact ⟨k + 1, z, rfl, rfl, by omega, by rw [eM.out]; first | (congr 1; omega) | (congr 1) | rfl, by go_num, by rw [eD.out], by simp, by rw [eN.out]; go_num, by rw [eN.out]; go_num, rfl, fun h => by rw [eN.out, eF.out, if_pos (by rw [← eD.out]; exact h)]; have := HZ.out (by rw [← eD.out]; exact h); omega, by omega, by omega⟩
            case measure => simp [intOf]; omega
    · have ci : ¬ (k : Int) < (s.size : Int) := by omega
      obtain rfl : k = s.size := by omega
      have v1 : decide (0 < s.size) = true := by rw [decide_eq_true_eq]; omega
      obtain ⟨N, hN⟩ : ∃ n, n = s.size := ⟨_, rfl⟩
      obtain ⟨mm, hmm⟩ : ∃ mm, rfM s s.size = mm := ⟨_, rfl⟩
      obtain ⟨dd, hdd⟩ : ∃ dd, rfD s s.size = dd := ⟨_, rfl⟩
      obtain ⟨nn, hnn⟩ : ∃ nn, rfN s s.size = nn := ⟨_, rfl⟩
      rw [hmm, hdd] at hX
      rw [hdd, hnn] at HZ
      rw [hnn] at n1
      rw [hmm] at m1
      have f1 := rfF_le s s.size
      simp only [hnn, hmm, hdd]
      have HM := Hid.mk' hmm
      clear hmm hdd hnn
      generalize rfF s s.size = ff at *
      by_cases hM : mm = 0
      · subst hM
        rw [if_pos rfl] at hX
        cases dd
        · go_wp2
          (try simp only [Exit.inBlock, Exit.then])
          refine bodyPost_ret (results_tmp7 rfl _ _ _) rfl ?_
          refine ⟨?_, rfl⟩
          rw [hX.out, HM.out]
          rfl
        · go_wp2
          (try simp only [Exit.inBlock, Exit.then])
          refine bodyPost_ret (results_tmp7 rfl _ _ _) rfl ?_
          refine ⟨?_, rfl⟩
          rw [hX.out, HM.out]
          rfl
      · rw [if_neg hM] at hX
        have v2 : ((mm : Int) != 0) = true := by rw [bne_iff_ne]; omega
        cases dd
        · rw [if_neg (by decide)] at hX
          go_wp2
          (try simp only [Exit.inBlock, Exit.then])
          refine bodyPost_ret (results_tmp7 rfl _ _ _) rfl ?_
          refine ⟨?_, rfl⟩
          rw [hX.out, HM.out]
          rfl
        · rw [if_pos rfl] at hX
          have hz := HZ.out rfl
          subst hz
          have v3 : (nn : Int) - (ff : Int) - nn = -(ff : Int) := by omega
          go_wp2
          (try simp only [Exit.inBlock, Exit.then])
          refine bodyPost_ret (results_tmp7 rfl _ _ _) rfl ?_
          refine ⟨?_, rfl⟩
          rw [hX.out, HM.out]
          rfl

theorem readFloat_any (s : ByteArray) (w : World) (hd : isDec s) :
    Calls Tryz.prog 261 #[.string s] w fun e w' => e = .returned (.tuple #[.int .u64 (rfM s s.size), .int .i64 (if rfM s s.size = 0 then 0 else if rfD s s.size = true then -(rfF s s.size : Int) else 0), .bool false, .bool false, .bool false, .int .i64 s.size, .bool true]) ∧ w' = w := by
  by_cases h2 : s.size ≤ 2
  · exact readFloat_short s w hd h2
  · by_cases h3 : byS s 0 = 48
    · exact readFloat_nought s w hd (by omega) h3
    · exact readFloat_other s w hd (by omega) h3

end Go.Proofs.YthhdfbgjdfoalaaGreatDoor
