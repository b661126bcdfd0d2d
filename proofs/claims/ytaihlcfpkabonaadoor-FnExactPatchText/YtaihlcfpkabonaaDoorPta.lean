/- Numbers in decimal: the model's; and that they are the numerals of Go's library. -/
import Derived.Test.YtaihlcfpkabonaaDoorCm
import Derived.Deep.RegionHeld3
import Derived.Lib.ItoaNum
import Derived.Lib.SmallJoins
namespace Go.Proofs.YtaihlcfpkabonaaDoor
open Go.RowKit Go.Joins
set_option linter.unusedVariables false
set_option linter.unusedSimpArgs false

def digF : Nat → Nat → List Int
  | 0, _ => []
  | f + 1, n => if n < 10 then [((48 + n : Nat) : Int)] else digF f (n / 10) ++ [((48 + n % 10 : Nat) : Int)]
theorem conv_at (W : World) (g : Nat) (x : Int) (hl : g < W.heap.size) (h : W.cell? ⟨g, 0, none⟩ = some (.int .u8 x)) : (convert 33 9 (.slice (some ⟨g, 0, none⟩) 1 1)).run Tryd.prog W = .ok (.string (strS [x])) W :=
  conv_bytesS (l := [x]) 1 (.inr ⟨_, _, rfl, hl, fun k hk => by
    obtain rfl : k = 0 := by simpa using hk
    simpa [bv] using h⟩)

theorem foldS : ∀ (b : List Int) (s : ByteArray), b.foldl (fun r n => r.push (UInt8.ofNat n.toNat)) s = s ++ strS b
  | [], s => by
    show s = s ++ ByteArray.empty
    simp
  | x :: b, s => by
    have e : strS (x :: b) = ByteArray.empty.push (UInt8.ofNat x.toNat) ++ strS b := foldS b _
    rw [e, List.foldl_cons, foldS b]
    apply ByteArray.ext
    simp [ByteArray.data_append, ByteArray.data_push]
theorem strS_app (a b : List Int) : strS (a ++ b) = strS a ++ strS b := by
  show (a ++ b).foldl _ _ = _
  rw [List.foldl_append]
  exact foldS b _
theorem strS_len : ∀ (b : List Int), (strS b).size = b.length
  | [] => rfl
  | x :: b => by
    have e : strS (x :: b) = ByteArray.empty.push (UInt8.ofNat x.toNat) ++ strS b := foldS b _
    rw [e, ByteArray.size_append, strS_len b]
    show 1 + b.length = b.length + 1
    omega
theorem digF_len : ∀ (f n : Nat), (digF f n).length ≤ f
  | 0, n => Nat.le_refl _
  | f + 1, n => by
    unfold digF
    split
    · simp
    · have := digF_len f (n / 10); simp; omega

set_option maxRecDepth 100000 in
set_option maxHeartbeats 1600000 in
theorem l1Digits_any : ∀ (f n : Nat) (w : World), n < 10 ^ (f + 1) → f ≤ 4 →
    Calls Tryd.prog 20 #[.int .i64 (n : Int)] w fun e w' => e = .returned (.string (strS (digF (f + 1) n))) ∧ Below w.heap.size w w'
  | 0, n, w, hn, hf => by
    have hn : n < 10 := by simpa using hn
    rw [show digF (0 + 1) n = [((48 + n : Nat) : Int)] by rw [digF, if_pos hn]]
    have hcv := conv_oneS w
    have B := below_new w (.cells #[.int .u8 (48 + (n : Int))] 5)
    have HB := Hid.mk' B
    clear B
    go_enter Tryd.func20, Tryd.ntmps20
    go_wp2
    go_ret
    exact ⟨by simp, HB.out⟩
  | f + 1, n, w, hn, hf => by
    by_cases c : n < 10
    · rw [show digF (f + 1 + 1) n = [((48 + n : Nat) : Int)] by rw [digF, if_pos c]]
      have hcv := conv_oneS w
      have B := below_new w (.cells #[.int .u8 (48 + (n : Int))] 5)
      have HB := Hid.mk' B
      clear B
      go_enter Tryd.func20, Tryd.ntmps20
      go_wp2
      go_ret
      exact ⟨by simp, HB.out⟩
    · rw [show digF (f + 1 + 1) n = digF (f + 1) (n / 10) ++ [((48 + n % 10 : Nat) : Int)] by rw [digF, if_neg c], strS_app]
      have hb9 : (n : Int) ≤ 1000000 := by
        have : 10 ^ (f + 1 + 1) ≤ 10 ^ 6 := Nat.pow_le_pow_right (by decide) (by omega)
        omega
      have hX : (IntKind.u8.wrap (IntKind.i64.wrap (48 + (n : Int).tmod 10))) = ((48 + n % 10 : Nat) : Int) := by
        rw [Int.tmod_eq_emod_of_nonneg (by omega), IntKind.wrap_i64, IntKind.wrap_u8]; omega
      rw [← hX]
      replace hX := Hid.mk' hX
      have KR : Hid (∀ W : World, Calls Tryd.prog 20 #[.int .i64 (IntKind.i64.wrap ((n : Int) / 10))] W fun e w' => e = .returned (.string (strS (digF (f + 1) (n / 10)))) ∧ Below W.heap.size W w') := fun W => by
        have h := l1Digits_any f (n / 10) W (by rw [Nat.pow_succ] at hn; omega) (by omega)
        rw [show ((n / 10 : Nat) : Int) = IntKind.i64.wrap ((n : Int) / 10) by rw [IntKind.wrap_i64]; omega] at h
        exact h
      have c2 : ¬ (n : Int) < 10 := by omega
      go_enter Tryd.func20, Tryd.ntmps20
      go_wp2_with fail
      have z1 : (strS (digF (f + 1) (n / 10))).size ≤ 100 := by rw [strS_len]; have := digF_len (f + 1) (n / 10); omega
      have z2 := strS_one (IntKind.u8.wrap (IntKind.i64.wrap (48 + (n : Int).tmod 10)))
      have z3 : ¬ 9223372036854775807 < (strS (digF (f + 1) (n / 10))).size + 1 := by omega
      have HN : Hid (Below w.heap.size w (w.alloc (.cells #[.int .u8 (IntKind.u8.wrap (IntKind.i64.wrap (48 + (n : Int).tmod 10)))] 5)).drew) := Hid.mk' ((below_new w _).trans ⟨rfl, rfl, rfl, Nat.le_refl _, fun _ _ => rfl⟩)
      refine wp_region_held_drew (S := fun _ => True) (by kernel_rfl) trivial (fun hHeld => ?_)
      refine wpAnyH_take (i := 0) (oi := ⟨_, _, _, _, _, _⟩) (v := ?_) rfl (by kernel_rfl) (by kernel_rfl) (by kernel_rfl) (fun _ _ _ h => h) (Or.inl ⟨by rfl, ?_⟩) (by assumption) ?_
      rotate_left
      · (intro w hSw; (try dsimp only at hSw); go_simp; (try with_reducible rfl))
      try simp only [Act.put, List.setIfInBounds_toArray, List.set_cons_zero, List.set_cons_succ]
      refine wpAnyH_take (i := 1) (oi := ⟨_, _, _, _, _, _⟩) (v := ?_) rfl (by kernel_rfl) (by kernel_rfl) (by kernel_rfl) (fun _ _ _ h => h) (Or.inl ⟨by rfl, ?_⟩) (by assumption) ?_
      rotate_left
      · (intro w hSw; (try dsimp only at hSw); go_simp; (try with_reducible rfl))
      try simp only [Act.put, List.setIfInBounds_toArray, List.set_cons_zero, List.set_cons_succ]
      refine wpAnyH_take (i := 3) (oi := ⟨_, _, _, _, _, _⟩) (v := ?_) rfl (by kernel_rfl) (by kernel_rfl) (by kernel_rfl) (fun _ _ _ h => h) (Or.inl ⟨by rfl, ?_⟩) (by assumption) ?_
      rotate_left
      · (intro w hSw; (try dsimp only at hSw); go_simp; (try with_reducible rfl))
      try simp only [Act.put, List.setIfInBounds_toArray, List.set_cons_zero, List.set_cons_succ]
      refine wpAnyH_take (i := 4) (oi := ⟨_, _, _, _, _, _⟩) (v := ?_) rfl (by kernel_rfl) (by kernel_rfl) (by kernel_rfl) (fun _ _ _ h => h) (Or.inl ⟨by rfl, ?_⟩) (by assumption) ?_
      rotate_left
      · (intro w hSw; (try dsimp only at hSw); go_simp; (try with_reducible rfl))
      try simp only [Act.put, List.setIfInBounds_toArray, List.set_cons_zero, List.set_cons_succ]
      refine wpAnyH_take (i := 5) (oi := ⟨_, _, _, _, _, _⟩) (v := ?_) rfl (by kernel_rfl) (by kernel_rfl) (by kernel_rfl) (fun _ _ _ h => h) (Or.inl ⟨by rfl, ?_⟩) (by assumption) ?_
      rotate_left
      · (intro w hSw; (try dsimp only at hSw); go_simp; (try with_reducible rfl))
      try simp only [Act.put, List.setIfInBounds_toArray, List.set_cons_zero, List.set_cons_succ]
      refine wpAnyH_take (i := 6) (oi := ⟨_, _, _, _, _, _⟩) (v := ?_) rfl (by kernel_rfl) (by kernel_rfl) (by kernel_rfl) (fun _ _ _ h => h) (Or.inl ⟨by rfl, ?_⟩) (by assumption) ?_
      rotate_left
      · (intro w hSw; (try dsimp only at hSw); go_simp; (try with_reducible rfl))
      try simp only [Act.put, List.setIfInBounds_toArray, List.set_cons_zero, List.set_cons_succ]
      refine wpAnyH_ready (rs := [2, 7]) (by kernel_rfl) (by simp) ?_
      refine AllReadyH.cons (o := ⟨_, _, _, _, _, _⟩) rfl (fun K hK => ?_) (AllReadyH.cons (o := ⟨_, _, _, _, _, _⟩) rfl (fun K hK => ?_) AllReadyH.nil)
      · go_simp
        refine (KR.out _).mono ?_
        rintro e w1 ⟨rfl, hb1⟩
        have hcv := conv_oneS w1 (IntKind.u8.wrap (IntKind.i64.wrap (48 + (n : Int).tmod 10)))
        refine hK.out _ _ trivial (fun hHeld => ?_)
        clear hK K
        try simp only [Act.put, List.setIfInBounds_toArray, List.set_cons_zero, List.set_cons_succ]
        refine wpAnyH_ready (rs := [7]) (by kernel_rfl) (by simp) ?_
        refine AllReadyH.cons (o := ⟨_, _, _, _, _, _⟩) rfl (fun K hK => ?_) AllReadyH.nil
        go_simp
        refine hK.out _ _ trivial (fun hHeld => ?_)
        clear hK K
        try simp only [Act.put, List.setIfInBounds_toArray, List.set_cons_zero, List.set_cons_succ]
        refine wpAnyH_ready (rs := [8]) (by kernel_rfl) (by simp) ?_
        refine AllReadyH.cons (o := ⟨_, _, _, _, _, _⟩) rfl (fun K hK => ?_) AllReadyH.nil
        go_simp
        refine hK.out _ _ trivial (fun hHeld => ?_)
        clear hK K
        try simp only [Act.put, List.setIfInBounds_toArray, List.set_cons_zero, List.set_cons_succ]
        refine wpAnyH_take (i := 9) (oi := ⟨_, _, _, _, _, _⟩) (v := ?_) rfl (by kernel_rfl) (by kernel_rfl) (by kernel_rfl) (fun _ _ _ h => h) (Or.inl ⟨by rfl, ?_⟩) (by assumption) ?_
        rotate_left
        · (intro w hSw; (try dsimp only at hSw); go_simp; (try with_reducible rfl))
        try simp only [Act.put, List.setIfInBounds_toArray, List.set_cons_zero, List.set_cons_succ]
        refine wpAnyH_take (i := 10) (oi := ⟨_, _, _, _, _, _⟩) (v := ?_) rfl (by kernel_rfl) (by kernel_rfl) (by kernel_rfl) (fun _ _ _ h => h) (Or.inl ⟨by rfl, ?_⟩) (by assumption) ?_
        rotate_left
        · (intro w hSw; (try dsimp only at hSw); go_simp; (try with_reducible rfl))
        try simp only [Act.put, List.setIfInBounds_toArray, List.set_cons_zero, List.set_cons_succ]
        refine wpAnyH_done (by kernel_rfl) ?_ _
        go_wp2
        go_ret
        exact ⟨by rfl, (undrew hb1).alloc (undrew hb1).size _⟩
      · go_simp
        refine hK.out _ _ trivial (fun hHeld => ?_)
        clear hK K
        try simp only [Act.put, List.setIfInBounds_toArray, List.set_cons_zero, List.set_cons_succ]
        refine wpAnyH_ready (rs := [2, 8]) (by kernel_rfl) (by simp) ?_
        refine AllReadyH.cons (o := ⟨_, _, _, _, _, _⟩) rfl (fun K hK => ?_) (AllReadyH.cons (o := ⟨_, _, _, _, _, _⟩) rfl (fun K hK => ?_) AllReadyH.nil)
        · go_simp
          refine (KR.out _).mono ?_
          rintro e w1 ⟨rfl, hb1⟩
          have hcv : (convert 33 9 (.slice (some ⟨w.heap.size, 0, none⟩) 1 1)).run Tryd.prog w1 = .ok (.string (strS [(IntKind.u8.wrap (IntKind.i64.wrap (48 + (n : Int).tmod 10)))])) w1 := conv_at w1 _ _ (by have h := hb1.size; simp at h; omega) (by rw [hb1.cell (by simp)]; simp)
          refine hK.out _ _ trivial (fun hHeld => ?_)
          clear hK K
          try simp only [Act.put, List.setIfInBounds_toArray, List.set_cons_zero, List.set_cons_succ]
          refine wpAnyH_ready (rs := [8]) (by kernel_rfl) (by simp) ?_
          refine AllReadyH.cons (o := ⟨_, _, _, _, _, _⟩) rfl (fun K hK => ?_) AllReadyH.nil
          go_simp
          refine hK.out _ _ trivial (fun hHeld => ?_)
          clear hK K
          try simp only [Act.put, List.setIfInBounds_toArray, List.set_cons_zero, List.set_cons_succ]
          refine wpAnyH_take (i := 9) (oi := ⟨_, _, _, _, _, _⟩) (v := ?_) rfl (by kernel_rfl) (by kernel_rfl) (by kernel_rfl) (fun _ _ _ h => h) (Or.inl ⟨by rfl, ?_⟩) (by assumption) ?_
          rotate_left
          · (intro w hSw; (try dsimp only at hSw); go_simp; (try with_reducible rfl))
          try simp only [Act.put, List.setIfInBounds_toArray, List.set_cons_zero, List.set_cons_succ]
          refine wpAnyH_take (i := 10) (oi := ⟨_, _, _, _, _, _⟩) (v := ?_) rfl (by kernel_rfl) (by kernel_rfl) (by kernel_rfl) (fun _ _ _ h => h) (Or.inl ⟨by rfl, ?_⟩) (by assumption) ?_
          rotate_left
          · (intro w hSw; (try dsimp only at hSw); go_simp; (try with_reducible rfl))
          try simp only [Act.put, List.setIfInBounds_toArray, List.set_cons_zero, List.set_cons_succ]
          refine wpAnyH_done (by kernel_rfl) ?_ _
          go_wp2
          go_ret
          exact ⟨by rfl, HN.out.trans (hb1.mono (by simp))⟩
        · have hcv := conv_at (w.alloc (.cells #[.int .u8 (IntKind.u8.wrap (IntKind.i64.wrap (48 + (n : Int).tmod 10)))] 5)).drew w.heap.size (IntKind.u8.wrap (IntKind.i64.wrap (48 + (n : Int).tmod 10))) (by simp) (by simp)
          go_simp
          refine hK.out _ _ trivial (fun hHeld => ?_)
          clear hK K
          try simp only [Act.put, List.setIfInBounds_toArray, List.set_cons_zero, List.set_cons_succ]
          refine wpAnyH_ready (rs := [2]) (by kernel_rfl) (by simp) ?_
          refine AllReadyH.cons (o := ⟨_, _, _, _, _, _⟩) rfl (fun K hK => ?_) AllReadyH.nil
          go_simp
          refine (KR.out _).mono ?_
          rintro e w1 ⟨rfl, hb1⟩
          refine hK.out _ _ trivial (fun hHeld => ?_)
          clear hK K
          try simp only [Act.put, List.setIfInBounds_toArray, List.set_cons_zero, List.set_cons_succ]
          refine wpAnyH_take (i := 9) (oi := ⟨_, _, _, _, _, _⟩) (v := ?_) rfl (by kernel_rfl) (by kernel_rfl) (by kernel_rfl) (fun _ _ _ h => h) (Or.inl ⟨by rfl, ?_⟩) (by assumption) ?_
          rotate_left
          · (intro w hSw; (try dsimp only at hSw); go_simp; (try with_reducible rfl))
          try simp only [Act.put, List.setIfInBounds_toArray, List.set_cons_zero, List.set_cons_succ]
          refine wpAnyH_take (i := 10) (oi := ⟨_, _, _, _, _, _⟩) (v := ?_) rfl (by kernel_rfl) (by kernel_rfl) (by kernel_rfl) (fun _ _ _ h => h) (Or.inl ⟨by rfl, ?_⟩) (by assumption) ?_
          rotate_left
          · (intro w hSw; (try dsimp only at hSw); go_simp; (try with_reducible rfl))
          try simp only [Act.put, List.setIfInBounds_toArray, List.set_cons_zero, List.set_cons_succ]
          refine wpAnyH_done (by kernel_rfl) ?_ _
          go_wp2
          go_ret
          exact ⟨by rfl, HN.out.trans (hb1.mono (by simp))⟩

/-- A number in decimal. -/
def dgB (n : Nat) : ByteArray := ⟨(Lib.decDigits n).toArray⟩

theorem strS_single (x : Int) : strS [x] = ⟨#[UInt8.ofNat x.toNat]⟩ := rfl
theorem digF_dec : ∀ (f n : Nat), n < 10 ^ (f + 1) → strS (digF (f + 1) n) = dgB n
  | f, n, h => by
    unfold dgB
    rw [Lib.decDigits]
    by_cases c : n < 10
    · rw [show digF (f + 1) n = [((48 + n : Nat) : Int)] by rw [digF, if_pos c], dif_pos c, strS_single]
      rfl
    · cases f with
      | zero => simp at h; omega
      | succ f =>
        rw [show digF (f + 1 + 1) n = digF (f + 1) (n / 10) ++ [((48 + n % 10 : Nat) : Int)] by rw [digF, if_neg c], strS_app, digF_dec f (n / 10) (by rw [Nat.pow_succ] at h; omega), dif_neg c]
        unfold dgB
        apply ByteArray.ext
        rw [ByteArray.data_append, strS_single, Int.toNat_natCast]
        simp
theorem dgB_size (n : Nat) (h : n < 100000) : (dgB n).size ≤ 5 := by
  rw [← digF_dec 4 n h, strS_len]
  exact digF_len 5 n

theorem l1Digits_dg (n : Nat) (w : World) (h : n < 100000) :
    Calls Tryd.prog 20 #[.int .i64 (n : Int)] w fun e w' => e = .returned (.string (dgB n)) ∧ Below w.heap.size w w' := by
  rw [← digF_dec 4 n h]
  exact l1Digits_any 4 n w h (Nat.le_refl _)

/-- What is said of a patch. -/
def oneT (x y z : Nat) : ByteArray := dgB x ++ ⟨#[44]⟩ ++ dgB y ++ ⟨#[44]⟩ ++ dgB z

end Go.Proofs.YtaihlcfpkabonaaDoor
