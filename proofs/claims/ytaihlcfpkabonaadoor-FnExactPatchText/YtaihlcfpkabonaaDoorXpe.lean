/- PatchesFault: the model, the program. -/
import Derived.Test.YtaihlcfpkabonaaDoorXpc
namespace Go.Proofs.YtaihlcfpkabonaaDoor
open Go.RowKit
set_option linter.unusedVariables false
set_option linter.unusedSimpArgs false

theorem l1InX_any (v lo hi : Int) (w : World) : Calls Tryd.prog 19 #[.int .i64 v, .int .i64 lo, .int .i64 hi] w fun e w' => e = .returned (.bool (decide (lo ≤ v) && decide (v ≤ hi))) ∧ w' = w := by
  by_cases h1 : lo ≤ v
  · by_cases h2 : v ≤ hi
    · go_enter Tryd.func19, Tryd.ntmps19
      go_wp2
      go_ret
      exact ⟨by simp [h1, h2], rfl⟩
    · go_enter Tryd.func19, Tryd.ntmps19
      go_wp2
      go_ret
      exact ⟨by simp; omega, rfl⟩
  · go_enter Tryd.func19, Tryd.ntmps19
    go_wp2
    go_ret
    exact ⟨by simp; omega, rfl⟩

theorem fits_any (x y s : Int) (p : Option Addr) (n d : Nat) (w : World) (h0 : 0 ≤ s) (h1 : s ≤ 2000) (x1 : -9223372036854775808 ≤ x) (x2 : x ≤ 9223372036854775807) :
    Calls Tryd.prog 23 #[.agg #[.int .i64 x, .int .i64 y, .slice p n d], .int .i64 s] w fun e w' => e = .returned (.bool (decide (0 ≤ x ∧ 0 ≤ y ∧ y ≤ s - x))) ∧ Below w.heap.size w w' := by
  by_cases g1 : 0 ≤ x
  · by_cases g2 : 0 ≤ y
    · have wr1 : IntKind.i64.wrap (s - x) = s - x := by rw [IntKind.wrap_i64]; omega
      by_cases g3 : y ≤ s - x
      · go_enter Tryd.func23, Tryd.ntmps23
        go_wp2
        go_ret
        exact ⟨by simp [g1, g2, g3], (Below.refl _ _).alloc (Nat.le_refl _) _⟩
      · go_enter Tryd.func23, Tryd.ntmps23
        go_wp2
        go_ret
        exact ⟨by simp [g1, g2, g3], (Below.refl _ _).alloc (Nat.le_refl _) _⟩
    · go_enter Tryd.func23, Tryd.ntmps23
      go_wp2
      go_ret
      exact ⟨by simp; omega, (Below.refl _ _).alloc (Nat.le_refl _) _⟩
  · go_enter Tryd.func23, Tryd.ntmps23
    go_wp2
    go_ret
    exact ⟨by simp; omega, (Below.refl _ _).alloc (Nat.le_refl _) _⟩

set_option maxHeartbeats 1600000 in
theorem l14Fault_any (a : Option Addr) (c : Nat) (l : List XK) (s : Int) (w : World) (ha : XsAt w a l) (hw : WideX l) :
    Calls Tryd.prog 11 #[.slice a l.length c, .int .i64 s] w fun e w' => e = .returned (.int .i64 (patF l s)) ∧ Below w.heap.size w w' := by
  have K1 := Hid.mk' (l1InX_any s 0 2000 w)
  by_cases hs : s < 0 ∨ 2000 < s
  · have E : Hid (patF l s = 3) := Hid.mk' (by unfold patF; rw [if_pos hs])
    have K1 := K1.out
    rw [show (decide (0 ≤ s) && decide (s ≤ 2000)) = false by simp; omega] at K1
    have K1 := Hid.mk' K1
    clear ha hw hs
    go_enter Tryd.func11, Tryd.ntmps11
    go_wp2_with (go_at_call 19; with_reducible refine K1.out.mono ?_; rintro e w1 ⟨rfl, hw1⟩; obtain rfl := hw1.symm)
    go_ret
    exact ⟨by rw [E.out]; rfl, Below.refl _ _⟩
  have K1 := K1.out
  rw [show (decide (0 ≤ s) && decide (s ≤ 2000)) = true by simp; omega] at K1
  have K1 := Hid.mk' K1
  by_cases h20 : 20 < (l.length : Int)
  · have E : Hid (patF l s = 2) := Hid.mk' (by unfold patF; rw [if_neg hs, if_pos (by omega)])
    clear ha hw hs
    go_enter Tryd.func11, Tryd.ntmps11
    go_wp2_with (go_at_call 19; with_reducible refine K1.out.mono ?_; rintro e w1 ⟨rfl, hw1⟩; obtain rfl := hw1.symm)
    go_ret
    exact ⟨by rw [E.out]; rfl, Below.refl _ _⟩
  have E : Hid (patF l s = pallX l s 0) := Hid.mk' (by unfold patF; rw [if_neg hs, if_neg (by omega)])
  have HA := Hid.mk' ha
  have HW := Hid.mk' hw
  have hs1 : 0 ≤ s := by omega
  have hs2 : s ≤ 2000 := by omega
  clear ha hw hs
  generalize hA : patF l s = A at *
  go_enter Tryd.func11, Tryd.ntmps11
  go_wp2_with (go_at_call 19; with_reducible refine K1.out.mono ?_; rintro e w1 ⟨rfl, hw1⟩; obtain rfl := hw1.symm)
  clear K1
  go_loopw [5, 6, 7] (fun x i _ wr => ∃ (k : Nat) (f : Int), k ≤ l.length ∧ i = .int .i64 k ∧ x = .int .i64 f ∧ pallX (l.drop k) s f = A ∧ Below w.heap.size w wr) (fun _ i _ _ => l.length - (intOf i).toNat)
  case atStart => exact ⟨0, 0, Nat.zero_le _, rfl, rfl, by rw [E.out]; simp, Below.refl _ _⟩
  case round =>
    obtain ⟨k, f, hk, rfl, rfl, hz, hbl⟩ := hrel
    have HB := Hid.mk' hbl
    clear hbl E
    by_cases hlt : k < l.length
    · have ci : (k : Int) < (l.length : Int) := by omega
      rcases HA.out.below HB.out with ha | ⟨b, o, rfl, hbs, hc⟩
      · exact absurd hlt (by rw [ha]; exact Nat.not_lt_zero _)
      obtain ⟨q1, q3, p, d, q2, _⟩ := hc k hlt
      obtain ⟨_, x1, x2, y1, y2⟩ := HW.out k hlt
      have ST := pall_step hlt hz
      unfold pone at ST
      clear hc hz
      generalize hn2 : (xkK l k).hd.length = n at *
      generalize hn1 : (xkK l k).pl = pl at *
      generalize hn3 : (xkK l k).ct = ct at *
      by_cases g : 240 < n
      · have EA : Hid (A = 2) := Hid.mk' (by rw [if_pos g] at ST; omega)
        have g' : 240 < (n : Int) := by omega
        clear g ST
        go_wp2
        go_ret
        exact ⟨by rw [EA.out]; rfl, HB.out⟩
      rw [if_neg g] at ST
      have g' : ¬ 240 < (n : Int) := by omega
      clear g
      by_cases h1 : 0 ≤ pl ∧ pl ≤ s
      · have K1 : Hid (∀ W, Calls Tryd.prog 19 #[.int .i64 pl, .int .i64 0, .int .i64 s] W fun e w' => e = .returned (.bool true) ∧ w' = W) := Hid.mk' (fun W => by
          have := l1InX_any pl 0 s W
          rwa [show (decide (0 ≤ pl) && decide (pl ≤ s)) = true by simp [h1]] at this)
        have wr1 : IntKind.i64.wrap (s - pl) = s - pl := by rw [IntKind.wrap_i64]; omega
        by_cases h2 : 0 ≤ ct ∧ ct ≤ s - pl
        · have K2 : Hid (∀ W, Calls Tryd.prog 19 #[.int .i64 ct, .int .i64 0, .int .i64 (s - pl)] W fun e w' => e = .returned (.bool true) ∧ w' = W) := Hid.mk' (fun W => by
            have := l1InX_any ct 0 (s - pl) W
            rwa [show (decide (0 ≤ ct) && decide (ct ≤ s - pl)) = true by simp [h2]] at this)
          have wr2 : IntKind.i64.wrap (pl + ct) = pl + ct := by rw [IntKind.wrap_i64]; omega
          rw [if_neg (by omega)] at ST
          by_cases h3 : pl < f
          · have EA : Hid (A = 1) := Hid.mk' (by rw [if_pos h3] at ST; omega)
            clear h1 h2 ST
            go_wp2
            go_region_held3 (fun w' => w'.cell? ⟨b, o + k * 3, none⟩ = some (.int .i64 pl) ∧ w'.cell? ⟨b, o + k * 3 + 1, none⟩ = some (.int .i64 ct)) (simp [*])
            (first | (go_at_call 19; with_reducible refine (K1.out _).mono ?_; rintro e w5 ⟨rfl, hw5⟩; obtain rfl := hw5.symm) | (go_at_call 19; with_reducible refine (K2.out _).mono ?_; rintro e w6 ⟨rfl, hw6⟩; obtain rfl := hw6.symm))
            go_wp2
            go_ret
            exact ⟨by rw [EA.out]; rfl, HB.out.drew⟩
          · have EA : Hid (pallX (l.drop (k + 1)) s (pl + ct) = A) := Hid.mk' (by rw [if_neg h3] at ST; omega)
            clear h1 h2 ST
            go_wp2
            go_region_held3 (fun w' => w'.cell? ⟨b, o + k * 3, none⟩ = some (.int .i64 pl) ∧ w'.cell? ⟨b, o + k * 3 + 1, none⟩ = some (.int .i64 ct)) (simp [*])
            (first | (go_at_call 19; with_reducible refine (K1.out _).mono ?_; rintro e w5 ⟨rfl, hw5⟩; obtain rfl := hw5.symm) | (go_at_call 19; with_reducible refine (K2.out _).mono ?_; rintro e w6 ⟨rfl, hw6⟩; obtain rfl := hw6.symm))
            go_wp2
            go_region_held3 (fun w' => w'.cell? ⟨b, o + k * 3, none⟩ = some (.int .i64 pl) ∧ w'.cell? ⟨b, o + k * 3 + 1, none⟩ = some (.int .i64 ct)) (simp [*])
            (fail)
            go_wp2
            go_roundw
            case rel => exact ⟨k + 1, pl + ct, by omega, by go_num, rfl, EA.out, by first | exact HB.out.drew.drew | exact HB.out.drew⟩
            case measure => simp [intOf]; omega
        · have K2 : Hid (∀ W, Calls Tryd.prog 19 #[.int .i64 ct, .int .i64 0, .int .i64 (s - pl)] W fun e w' => e = .returned (.bool false) ∧ w' = W) := Hid.mk' (fun W => by
            have := l1InX_any ct 0 (s - pl) W
            rwa [show (decide (0 ≤ ct) && decide (ct ≤ s - pl)) = false by simp; omega] at this)
          have EA : Hid (A = 3) := Hid.mk' (by rw [if_pos (by omega)] at ST; omega)
          clear h1 h2 ST
          go_wp2
          go_region_held3 (fun w' => w'.cell? ⟨b, o + k * 3, none⟩ = some (.int .i64 pl) ∧ w'.cell? ⟨b, o + k * 3 + 1, none⟩ = some (.int .i64 ct)) (simp [*])
            (first | (go_at_call 19; with_reducible refine (K1.out _).mono ?_; rintro e w5 ⟨rfl, hw5⟩; obtain rfl := hw5.symm) | (go_at_call 19; with_reducible refine (K2.out _).mono ?_; rintro e w6 ⟨rfl, hw6⟩; obtain rfl := hw6.symm))
          go_wp2
          go_ret
          exact ⟨by rw [EA.out]; rfl, HB.out.drew⟩
      · have K1 : Hid (∀ W, Calls Tryd.prog 19 #[.int .i64 pl, .int .i64 0, .int .i64 s] W fun e w' => e = .returned (.bool false) ∧ w' = W) := Hid.mk' (fun W => by
          have := l1InX_any pl 0 s W
          rwa [show (decide (0 ≤ pl) && decide (pl ≤ s)) = false by simp; omega] at this)
        have EA : Hid (A = 3) := Hid.mk' (by rw [if_pos (by omega)] at ST; omega)
        clear h1 ST
        go_wp2
        refine wp_region_held_drew (S := (fun w' => w'.cell? ⟨b, o + k * 3, none⟩ = some (.int .i64 pl) ∧ w'.cell? ⟨b, o + k * 3 + 1, none⟩ = some (.int .i64 ct))) (by kernel_rfl) (by simp [*]) (fun hHeld => ?_)
        refine wpAnyH_take (i := 0) (oi := ⟨_, _, _, _, _, _⟩) (v := ?_) rfl (by kernel_rfl) (by kernel_rfl) (by kernel_rfl) (fun _ _ _ h => h) (Or.inl ⟨by rfl, ?_⟩) (by assumption) ?_
        rotate_left
        · (intro w hSw; (try dsimp only at hSw); go_simp; (try with_reducible rfl))
        try simp only [Act.put, List.setIfInBounds_toArray, List.set_cons_zero, List.set_cons_succ]
        refine wpAnyH_take (i := 1) (oi := ⟨_, _, _, _, _, _⟩) (v := ?_) rfl (by kernel_rfl) (by kernel_rfl) (by kernel_rfl) (fun _ _ _ h => h) (Or.inl ⟨by rfl, ?_⟩) (by assumption) ?_
        rotate_left
        · (intro w hSw; (try dsimp only at hSw); go_simp; (try with_reducible rfl))
        try simp only [Act.put, List.setIfInBounds_toArray, List.set_cons_zero, List.set_cons_succ]
        refine wpAnyH_take (i := 2) (oi := ⟨_, _, _, _, _, _⟩) (v := ?_) rfl (by kernel_rfl) (by kernel_rfl) (by kernel_rfl) (fun _ _ _ h => h) (Or.inl ⟨by rfl, ?_⟩) (by assumption) ?_
        rotate_left
        · (intro w hSw; (try dsimp only at hSw); go_simp; (try with_reducible rfl))
        try simp only [Act.put, List.setIfInBounds_toArray, List.set_cons_zero, List.set_cons_succ]
        refine wpAnyH_take (i := 3) (oi := ⟨_, _, _, _, _, _⟩) (v := ?_) rfl (by kernel_rfl) (by kernel_rfl) (by kernel_rfl) (fun _ _ _ h => h) (Or.inl ⟨by rfl, ?_⟩) (by assumption) ?_
        rotate_left
        · (intro w hSw; (try dsimp only at hSw); go_simp; (try with_reducible rfl))
        try simp only [Act.put, List.setIfInBounds_toArray, List.set_cons_zero, List.set_cons_succ]
        refine wpAnyH_take (i := 4) (oi := ⟨_, _, _, _, _, _⟩) (v := ?_) rfl (by kernel_rfl) (by kernel_rfl) (by kernel_rfl) (fun _ _ _ h => h) (Or.inl ⟨by rfl, ?_⟩) (by assumption) ?_
        rotate_left
        · (intro w hSw; (try dsimp only at hSw); go_simp; (try with_reducible rfl))
        try simp only [Act.put, List.setIfInBounds_toArray, List.set_cons_zero, List.set_cons_succ]
        refine wpAnyH_ready (rs := [5]) (by kernel_rfl) (by simp) ?_
        refine AllReadyH.cons (o := ⟨_, _, _, _, _, _⟩) rfl (fun K hK => ?_) AllReadyH.nil
        go_simp
        go_at_call 19
        refine (K1.out _).mono ?_
        rintro e w5 ⟨rfl, hw5⟩
        obtain rfl := hw5.symm
        refine hK.out _ _ (by (try dsimp only); go_keep) (fun hHeld => ?_)
        clear hK K
        try simp only [Act.put, List.setIfInBounds_toArray, List.set_cons_zero, List.set_cons_succ]
        refine wpAnyH_take (i := 6) (oi := ⟨_, _, _, _, _, _⟩) (v := ?_) rfl (by kernel_rfl) (by kernel_rfl) (by kernel_rfl) (fun _ _ _ h => h) (Or.inl ⟨by rfl, ?_⟩) (by assumption) ?_
        rotate_left
        · (intro w hSw; (try dsimp only at hSw); go_simp; (try with_reducible rfl))
        try simp only [Act.put, List.setIfInBounds_toArray, List.set_cons_zero, List.set_cons_succ]
        refine wpAnyH_take (i := 7) (oi := ⟨_, _, _, _, _, _⟩) (v := ?_) rfl (by kernel_rfl) (by kernel_rfl) (by kernel_rfl) (fun _ _ _ h => h) (Or.inl ⟨by rfl, ?_⟩) (by assumption) ?_
        rotate_left
        · (intro w hSw; (try dsimp only at hSw); go_simp; (try with_reducible rfl))
        try simp only [Act.put, List.setIfInBounds_toArray, List.set_cons_zero, List.set_cons_succ]
        refine wpAnyH_take (i := 8) (oi := ⟨_, _, _, _, _, _⟩) (v := undef) rfl (by kernel_rfl) (by kernel_rfl) (by kernel_rfl) (fun _ _ _ h => h) (Or.inr ⟨by rfl, rfl⟩) (by assumption) ?_
        try simp only [Act.put, List.setIfInBounds_toArray, List.set_cons_zero, List.set_cons_succ]
        refine wpAnyH_take (i := 9) (oi := ⟨_, _, _, _, _, _⟩) (v := undef) rfl (by kernel_rfl) (by kernel_rfl) (by kernel_rfl) (fun _ _ _ h => h) (Or.inr ⟨by rfl, rfl⟩) (by assumption) ?_
        try simp only [Act.put, List.setIfInBounds_toArray, List.set_cons_zero, List.set_cons_succ]
        refine wpAnyH_take (i := 10) (oi := ⟨_, _, _, _, _, _⟩) (v := undef) rfl (by kernel_rfl) (by kernel_rfl) (by kernel_rfl) (fun _ _ _ h => h) (Or.inr ⟨by rfl, rfl⟩) (by assumption) ?_
        try simp only [Act.put, List.setIfInBounds_toArray, List.set_cons_zero, List.set_cons_succ]
        refine wpAnyH_take (i := 11) (oi := ⟨_, _, _, _, _, _⟩) (v := undef) rfl (by kernel_rfl) (by kernel_rfl) (by kernel_rfl) (fun _ _ _ h => h) (Or.inr ⟨by rfl, rfl⟩) (by assumption) ?_
        try simp only [Act.put, List.setIfInBounds_toArray, List.set_cons_zero, List.set_cons_succ]
        refine wpAnyH_take (i := 12) (oi := ⟨_, _, _, _, _, _⟩) (v := undef) rfl (by kernel_rfl) (by kernel_rfl) (by kernel_rfl) (fun _ _ _ h => h) (Or.inr ⟨by rfl, rfl⟩) (by assumption) ?_
        try simp only [Act.put, List.setIfInBounds_toArray, List.set_cons_zero, List.set_cons_succ]
        refine wpAnyH_take (i := 13) (oi := ⟨_, _, _, _, _, _⟩) (v := undef) rfl (by kernel_rfl) (by kernel_rfl) (by kernel_rfl) (fun _ _ _ h => h) (Or.inr ⟨by rfl, rfl⟩) (by assumption) ?_
        try simp only [Act.put, List.setIfInBounds_toArray, List.set_cons_zero, List.set_cons_succ]
        refine wpAnyH_take (i := 14) (oi := ⟨_, _, _, _, _, _⟩) (v := undef) rfl (by kernel_rfl) (by kernel_rfl) (by kernel_rfl) (fun _ _ _ h => h) (Or.inr ⟨by rfl, rfl⟩) (by assumption) ?_
        try simp only [Act.put, List.setIfInBounds_toArray, List.set_cons_zero, List.set_cons_succ]
        refine wpAnyH_take (i := 15) (oi := ⟨_, _, _, _, _, _⟩) (v := undef) rfl (by kernel_rfl) (by kernel_rfl) (by kernel_rfl) (fun _ _ _ h => h) (Or.inr ⟨by rfl, rfl⟩) (by assumption) ?_
        try simp only [Act.put, List.setIfInBounds_toArray, List.set_cons_zero, List.set_cons_succ]
        refine wpAnyH_take (i := 16) (oi := ⟨_, _, _, _, _, _⟩) (v := undef) rfl (by kernel_rfl) (by kernel_rfl) (by kernel_rfl) (fun _ _ _ h => h) (Or.inr ⟨by rfl, rfl⟩) (by assumption) ?_
        try simp only [Act.put, List.setIfInBounds_toArray, List.set_cons_zero, List.set_cons_succ]
        refine wpAnyH_take (i := 17) (oi := ⟨_, _, _, _, _, _⟩) (v := undef) rfl (by kernel_rfl) (by kernel_rfl) (by kernel_rfl) (fun _ _ _ h => h) (Or.inr ⟨by rfl, rfl⟩) (by assumption) ?_
        try simp only [Act.put, List.setIfInBounds_toArray, List.set_cons_zero, List.set_cons_succ]
        refine wpAnyH_take (i := 18) (oi := ⟨_, _, _, _, _, _⟩) (v := undef) rfl (by kernel_rfl) (by kernel_rfl) (by kernel_rfl) (fun _ _ _ h => h) (Or.inr ⟨by rfl, rfl⟩) (by assumption) ?_
        try simp only [Act.put, List.setIfInBounds_toArray, List.set_cons_zero, List.set_cons_succ]
        refine wpAnyH_take (i := 19) (oi := ⟨_, _, _, _, _, _⟩) (v := undef) rfl (by kernel_rfl) (by kernel_rfl) (by kernel_rfl) (fun _ _ _ h => h) (Or.inr ⟨by rfl, rfl⟩) (by assumption) ?_
        try simp only [Act.put, List.setIfInBounds_toArray, List.set_cons_zero, List.set_cons_succ]
        refine wpAnyH_take (i := 20) (oi := ⟨_, _, _, _, _, _⟩) (v := ?_) rfl (by kernel_rfl) (by kernel_rfl) (by kernel_rfl) (fun _ _ _ h => h) (Or.inl ⟨by rfl, ?_⟩) (by assumption) ?_
        rotate_left
        · (intro w hSw; (try dsimp only at hSw); go_simp; (try with_reducible rfl))
        try simp only [Act.put, List.setIfInBounds_toArray, List.set_cons_zero, List.set_cons_succ]
        refine wpAnyH_done (by kernel_rfl) ?_ _

        go_wp2
        go_ret
        exact ⟨by rw [EA.out]; rfl, HB.out.drew⟩
    · have ci : ¬ (k : Int) < (l.length : Int) := by omega
      have e : k = l.length := by omega
      subst e
      have EA := Hid.mk' (pall_end hz)
      clear hz
      go_wp2
      go_ret
      exact ⟨by rw [EA.out]; rfl, HB.out⟩

end Go.Proofs.YtaihlcfpkabonaaDoor
