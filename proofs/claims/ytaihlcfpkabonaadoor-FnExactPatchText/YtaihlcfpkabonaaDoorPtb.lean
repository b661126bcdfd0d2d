/- PatchText in the model. -/
import Derived.Test.YtaihlcfpkabonaaDoorPta
import Derived.Test.YtaihlcfpkabonaaDoorXpf
import Derived.Test.YtaihlcfpkabonaaDoorCq
import Derived.Test.YtaihlcfpkabonaaDoorCb
namespace Go.Proofs.YtaihlcfpkabonaaDoor
open Go.RowKit Go.Joins
set_option linter.unusedVariables false
set_option linter.unusedSimpArgs false

/-- Patches whose numbers are small. -/
def SmallX (l : List XK) : Prop := l.length ≤ 20 ∧ ∀ k, k < l.length → ∃ x y : Nat, (xkK l k).pl = (x : Int) ∧ (xkK l k).ct = (y : Int) ∧ x ≤ 2000 ∧ y ≤ 2000 ∧ (xkK l k).hd.length ≤ 240

theorem pall_small : ∀ (l : List XK) (e : Int), pallX l 2000 e = 0 → ∀ k, k < l.length → ∃ x y : Nat, (xkK l k).pl = (x : Int) ∧ (xkK l k).ct = (y : Int) ∧ x ≤ 2000 ∧ y ≤ 2000 ∧ (xkK l k).hd.length ≤ 240
  | [], _, _, k, hk => absurd hk (Nat.not_lt_zero _)
  | x :: r, e, h, k, hk => by
    unfold pallX at h
    by_cases g : pone x 2000 e = 0
    · rw [if_pos g] at h
      cases k with
      | zero =>
        unfold pone at g
        split at g
        · exact absurd g (by decide)
        · split at g
          · exact absurd g (by decide)
          · rename_i g1 g2
            have g2 : 0 ≤ x.pl ∧ 0 ≤ x.ct ∧ x.ct ≤ 2000 - x.pl := Classical.not_not.1 g2
            refine ⟨x.pl.toNat, x.ct.toNat, ?_, ?_, by omega, by omega, ?_⟩
            · show x.pl = _; omega
            · show x.ct = _; omega
            · show x.hd.length ≤ 240; omega
      | succ k => exact pall_small r _ h k (by simpa using hk)
    · rw [if_neg g] at h
      exact absurd h g

theorem pat_small {l : List XK} (h : patF l 2000 = 0) : SmallX l := by
  unfold patF at h
  rw [if_neg (by omega)] at h
  by_cases g : 20 < l.length
  · rw [if_pos g] at h; exact absurd h (by decide)
  · rw [if_neg g] at h
    exact ⟨by omega, pall_small l 0 h⟩

/-- What is said of the k-th patch, behind a text. -/
def onT (o : ByteArray) (x : XK) : ByteArray := o ++ dgB x.pl.toNat ++ ⟨#[44]⟩ ++ dgB x.ct.toNat ++ ⟨#[44]⟩ ++ dgB x.hd.length
/-- What is said of the first k patches. -/
def txS (l : List XK) : Nat → ByteArray
  | 0 => ⟨#[]⟩
  | k + 1 => onT (if 0 < k then txS l k ++ ⟨#[59]⟩ else txS l k) (xkK l k)
/-- What is said of patches. -/
def ptT (l : List XK) : ByteArray := if l.length = 0 then ⟨#[110, 111, 110, 101]⟩ else txS l l.length

theorem onT_size {o : ByteArray} {x : XK} (h1 : x.pl.toNat ≤ 2000) (h2 : x.ct.toNat ≤ 2000) (h3 : x.hd.length ≤ 240) : (onT o x).size ≤ o.size + 17 := by
  unfold onT
  have e1 := dgB_size x.pl.toNat (by omega)
  have e2 := dgB_size x.ct.toNat (by omega)
  have e3 := dgB_size x.hd.length (by omega)
  simp only [ByteArray.size_append]
  have : (⟨#[44]⟩ : ByteArray).size = 1 := rfl
  omega
theorem txS_size {l : List XK} (h : SmallX l) : ∀ k, k ≤ l.length → (txS l k).size ≤ 18 * k
  | 0, _ => Nat.le_refl 0
  | k + 1, hk => by
    have ih := txS_size h k (by omega)
    obtain ⟨x, y, e1, e2, h1, h2, h3⟩ := h.2 k (by omega)
    have := onT_size (o := if 0 < k then txS l k ++ ⟨#[59]⟩ else txS l k) (x := xkK l k) (by rw [e1]; omega) (by rw [e2]; omega) h3
    have e : (if 0 < k then txS l k ++ ⟨#[59]⟩ else txS l k : ByteArray).size ≤ 18 * k + 1 := by
      split
      · rw [ByteArray.size_append]; have : (⟨#[59]⟩ : ByteArray).size = 1 := rfl; omega
      · omega
    show (onT _ _).size ≤ _
    omega

theorem txS_pos (l : List XK) (k : Nat) (h : 0 < k) : (txS l k).toList.isEmpty = false := by
  cases k with
  | zero => omega
  | succ k =>
    have hz : 0 < (txS l (k + 1)).size := by
      show 0 < (onT _ _).size
      unfold onT
      simp only [ByteArray.size_append]
      have : (⟨#[44]⟩ : ByteArray).size = 1 := rfl
      omega
    rw [tlData]
    cases e : (txS l (k + 1)).data.toList with
    | nil => rw [show (txS l (k + 1)).size = (txS l (k + 1)).data.toList.length from rfl, e] at hz; simp at hz
    | cons a b => rfl

set_option maxRecDepth 100000 in
set_option maxHeartbeats 3200000 in
theorem l16Patches_any (a : Option Addr) (c : Nat) (l : List XK) (w : World) (ha : XsAt w a l) (hs : SmallX l) :
    Calls Tryd.prog 12 #[.slice a l.length c] w fun e w' => e = .returned (.string (ptT l)) ∧ Below w.heap.size w w' := by
  have HA := Hid.mk' ha
  have HS := Hid.mk' hs
  have hl := hs.1
  clear ha hs
  go_enter Tryd.func12, Tryd.ntmps12
  go_wp2
  go_loopw [3, 4] (fun o i wr => ∃ k : Nat, k ≤ l.length ∧ i = .int .i64 k ∧ o = .string (txS l k) ∧ Below w.heap.size w wr) (fun _ i _ => l.length - (intOf i).toNat)
  case atStart => exact ⟨0, Nat.zero_le _, rfl, rfl, Below.refl _ _⟩
  case round =>
    obtain ⟨k, hk, rfl, rfl, hbl⟩ := hrel
    have HB := Hid.mk' hbl
    by_cases hlt : k < l.length
    · have ci : (k : Int) < (l.length : Int) := by omega
      rcases HA.out.below hbl with ha | ⟨b, o, rfl, hbs, hc⟩
      · exact absurd hlt (by rw [ha]; exact Nat.not_lt_zero _)
      obtain ⟨h1, h2, p, d, h3, _⟩ := hc k hlt
      obtain ⟨x, y, e1, e2, l1, l2, l3⟩ := HS.out.2 k hlt
      have zO := txS_size HS.out k hk
      have d1 := dgB_size x (by omega)
      have d2 := dgB_size y (by omega)
      have d3 := dgB_size (xkK l k).hd.length (by omega)
      have E : Hid (txS l (k + 1) = onT (if 0 < k then txS l k ++ ⟨#[59]⟩ else txS l k) (xkK l k)) := Hid.mk' rfl
      have K1 : Hid (∀ V, Below wr.heap.size wr V → Calls Tryd.prog 20 #[.int .i64 (x : Int)] V fun e w' => e = .returned (.string (dgB x)) ∧ Below wr.heap.size wr w') := Hid.mk' (fun V hV => (l1Digits_dg x V (by omega)).mono (fun e w' h => ⟨h.1, hV.trans (h.2.mono hV.size)⟩))
      have K2 : Hid (∀ V, Below wr.heap.size wr V → Calls Tryd.prog 20 #[.int .i64 (y : Int)] V fun e w' => e = .returned (.string (dgB y)) ∧ Below wr.heap.size wr w') := Hid.mk' (fun V hV => (l1Digits_dg y V (by omega)).mono (fun e w' h => ⟨h.1, hV.trans (h.2.mono hV.size)⟩))
      have K3 : Hid (∀ V, Below wr.heap.size wr V → Calls Tryd.prog 20 #[.int .i64 (((xkK l k).hd.length : Nat) : Int)] V fun e w' => e = .returned (.string (dgB (xkK l k).hd.length)) ∧ Below wr.heap.size wr w') := Hid.mk' (fun V hV => (l1Digits_dg (xkK l k).hd.length V (by omega)).mono (fun e w' h => ⟨h.1, hV.trans (h.2.mono hV.size)⟩))
      have b0 : Below wr.heap.size wr wr := Below.refl _ _
      unfold onT at E
      rw [e1, e2, Int.toNat_natCast, Int.toNat_natCast] at E
      rw [e1] at h1
      rw [e2] at h2
      generalize dgB x = D1 at *
      generalize dgB y = D2 at *
      generalize dgB (xkK l k).hd.length = D3 at *
      generalize (xkK l k).hd.length = z at *
      generalize hO : txS l k = O at *
      have hbs2 : b < wr.heap.size := hbs
      clear hc hbl e1 e2
      by_cases hk0 : 0 < k
      · have ck : (k : Int) > 0 := by omega
        rw [if_pos hk0] at E
        have z0 : ¬ 9223372036854775807 < O.size + 1 := by omega
        have z1 : ¬ 9223372036854775807 < O.size + 1 + D1.size := by omega
        have z2 : ¬ 9223372036854775807 < O.size + 1 + D1.size + 1 := by omega
        have z3 : ¬ 9223372036854775807 < O.size + 1 + D1.size + 1 + D2.size := by omega
        have z4 : ¬ 9223372036854775807 < O.size + 1 + D1.size + 1 + D2.size + 1 := by omega
        have z5 : ¬ 9223372036854775807 < O.size + 1 + D1.size + 1 + D2.size + 1 + D3.size := by omega
        go_wp2
        refine wp_region_held_drew (S := fun w' => w'.cell? ⟨b, o + k * 3, none⟩ = some (.int .i64 (x : Int)) ∧ w'.cell? ⟨b, o + k * 3 + 1, none⟩ = some (.int .i64 (y : Int)) ∧ w'.cell? ⟨b, o + k * 3 + 2, none⟩ = some (.slice p z d)) (by kernel_rfl) (by simp [*]) (fun hHeld => ?_)
        refine wpAnyH_take (i := 0) (oi := ⟨_, _, _, _, _, _⟩) (v := ?_) rfl (by kernel_rfl) (by kernel_rfl) (by kernel_rfl) (fun _ _ _ h => h) (Or.inl ⟨by rfl, ?_⟩) (by assumption) ?_
        rotate_left
        · (intro w hSw; (try dsimp only at hSw); go_simp; (try with_reducible rfl))
        try simp only [Act.put, List.setIfInBounds_toArray, List.set_cons_zero, List.set_cons_succ]
        refine wpAnyH_take (i := 1) (oi := ⟨_, _, _, _, _, _⟩) (v := ?_) rfl (by kernel_rfl) (by kernel_rfl) (by kernel_rfl) (fun _ _ _ h => h) (Or.inl ⟨by rfl, ?_⟩) (by assumption) ?_
        rotate_left
        · (intro w hSw; (try dsimp only at hSw); go_simp; (try with_reducible rfl))
        try simp only [Act.put, List.setIfInBounds_toArray, List.set_cons_zero, List.set_cons_succ]
        refine wpAnyH_take (i := 2) (oi := ⟨_, _, _, _, _, _⟩) (v := ?_) rfl (by kernel_rfl) (by kernel_rfl) (by kernel_rfl) (fun _ _ _ h => h) (Or.inl ⟨by rfl, ?_⟩) (by assumption) ?_
        rotate_left
        · (intro w hSw; (try dsimp only at hSw); go_simp; (try with_reducible rfl))
        try simp only [Act.put, List.setIfInBounds_toArray, List.set_cons_zero, List.set_cons_succ]
        refine wpAnyH_take (i := 3) (oi := ⟨_, _, _, _, _, _⟩) (v := ?_) rfl (by kernel_rfl) (by kernel_rfl) (by kernel_rfl) (fun _ _ _ h => h) (Or.inl ⟨by rfl, ?_⟩) (by assumption) ?_
        rotate_left
        · (intro w hSw; (try dsimp only at hSw); go_simp; (try with_reducible rfl))
        try simp only [Act.put, List.setIfInBounds_toArray, List.set_cons_zero, List.set_cons_succ]
        refine wpAnyH_take (i := 4) (oi := ⟨_, _, _, _, _, _⟩) (v := ?_) rfl (by kernel_rfl) (by kernel_rfl) (by kernel_rfl) (fun _ _ _ h => h) (Or.inl ⟨by rfl, ?_⟩) (by assumption) ?_
        rotate_left
        · (intro w hSw; (try dsimp only at hSw); go_simp; (try with_reducible rfl))
        try simp only [Act.put, List.setIfInBounds_toArray, List.set_cons_zero, List.set_cons_succ]
        refine wpAnyH_take (i := 5) (oi := ⟨_, _, _, _, _, _⟩) (v := ?_) rfl (by kernel_rfl) (by kernel_rfl) (by kernel_rfl) (fun _ _ _ h => h) (Or.inl ⟨by rfl, ?_⟩) (by assumption) ?_
        rotate_left
        · (intro w hSw; (try dsimp only at hSw); go_simp; (try with_reducible rfl))
        try simp only [Act.put, List.setIfInBounds_toArray, List.set_cons_zero, List.set_cons_succ]
        refine wpAnyH_take (i := 9) (oi := ⟨_, _, _, _, _, _⟩) (v := ?_) rfl (by kernel_rfl) (by kernel_rfl) (by kernel_rfl) (fun _ _ _ h => h) (Or.inl ⟨by rfl, ?_⟩) (by assumption) ?_
        rotate_left
        · (intro w hSw; (try dsimp only at hSw); go_simp; (try with_reducible rfl))
        try simp only [Act.put, List.setIfInBounds_toArray, List.set_cons_zero, List.set_cons_succ]
        refine wpAnyH_take (i := 10) (oi := ⟨_, _, _, _, _, _⟩) (v := ?_) rfl (by kernel_rfl) (by kernel_rfl) (by kernel_rfl) (fun _ _ _ h => h) (Or.inl ⟨by rfl, ?_⟩) (by assumption) ?_
        rotate_left
        · (intro w hSw; (try dsimp only at hSw); go_simp; (try with_reducible rfl))
        try simp only [Act.put, List.setIfInBounds_toArray, List.set_cons_zero, List.set_cons_succ]
        refine wpAnyH_take (i := 11) (oi := ⟨_, _, _, _, _, _⟩) (v := ?_) rfl (by kernel_rfl) (by kernel_rfl) (by kernel_rfl) (fun _ _ _ h => h) (Or.inl ⟨by rfl, ?_⟩) (by assumption) ?_
        rotate_left
        · (intro w hSw; (try dsimp only at hSw); go_simp; (try with_reducible rfl))
        try simp only [Act.put, List.setIfInBounds_toArray, List.set_cons_zero, List.set_cons_succ]
        refine wpAnyH_take (i := 12) (oi := ⟨_, _, _, _, _, _⟩) (v := ?_) rfl (by kernel_rfl) (by kernel_rfl) (by kernel_rfl) (fun _ _ _ h => h) (Or.inl ⟨by rfl, ?_⟩) (by assumption) ?_
        rotate_left
        · (intro w hSw; (try dsimp only at hSw); go_simp; (try with_reducible rfl))
        try simp only [Act.put, List.setIfInBounds_toArray, List.set_cons_zero, List.set_cons_succ]
        refine wpAnyH_take (i := 13) (oi := ⟨_, _, _, _, _, _⟩) (v := ?_) rfl (by kernel_rfl) (by kernel_rfl) (by kernel_rfl) (fun _ _ _ h => h) (Or.inl ⟨by rfl, ?_⟩) (by assumption) ?_
        rotate_left
        · (intro w hSw; (try dsimp only at hSw); go_simp; (try with_reducible rfl))
        try simp only [Act.put, List.setIfInBounds_toArray, List.set_cons_zero, List.set_cons_succ]
        refine wpAnyH_take (i := 17) (oi := ⟨_, _, _, _, _, _⟩) (v := ?_) rfl (by kernel_rfl) (by kernel_rfl) (by kernel_rfl) (fun _ _ _ h => h) (Or.inl ⟨by rfl, ?_⟩) (by assumption) ?_
        rotate_left
        · (intro w hSw; (try dsimp only at hSw); go_simp; (try with_reducible rfl))
        try simp only [Act.put, List.setIfInBounds_toArray, List.set_cons_zero, List.set_cons_succ]
        refine wpAnyH_take (i := 18) (oi := ⟨_, _, _, _, _, _⟩) (v := ?_) rfl (by kernel_rfl) (by kernel_rfl) (by kernel_rfl) (fun _ _ _ h => h) (Or.inl ⟨by rfl, ?_⟩) (by assumption) ?_
        rotate_left
        · (intro w hSw; (try dsimp only at hSw); go_simp; (try with_reducible rfl))
        try simp only [Act.put, List.setIfInBounds_toArray, List.set_cons_zero, List.set_cons_succ]
        refine wpAnyH_take (i := 19) (oi := ⟨_, _, _, _, _, _⟩) (v := ?_) rfl (by kernel_rfl) (by kernel_rfl) (by kernel_rfl) (fun _ _ _ h => h) (Or.inl ⟨by rfl, ?_⟩) (by assumption) ?_
        rotate_left
        · (intro w hSw; (try dsimp only at hSw); go_simp; (try with_reducible rfl))
        try simp only [Act.put, List.setIfInBounds_toArray, List.set_cons_zero, List.set_cons_succ]
        refine wpAnyH_take (i := 20) (oi := ⟨_, _, _, _, _, _⟩) (v := ?_) rfl (by kernel_rfl) (by kernel_rfl) (by kernel_rfl) (fun _ _ _ h => h) (Or.inl ⟨by rfl, ?_⟩) (by assumption) ?_
        rotate_left
        · (intro w hSw; (try dsimp only at hSw); go_simp; (try with_reducible rfl))
        try simp only [Act.put, List.setIfInBounds_toArray, List.set_cons_zero, List.set_cons_succ]
        refine wpAnyH_take (i := 21) (oi := ⟨_, _, _, _, _, _⟩) (v := ?_) rfl (by kernel_rfl) (by kernel_rfl) (by kernel_rfl) (fun _ _ _ h => h) (Or.inl ⟨by rfl, ?_⟩) (by assumption) ?_
        rotate_left
        · (intro w hSw; (try dsimp only at hSw); go_simp; (try with_reducible rfl))
        try simp only [Act.put, List.setIfInBounds_toArray, List.set_cons_zero, List.set_cons_succ]
        refine wpAnyH_take (i := 22) (oi := ⟨_, _, _, _, _, _⟩) (v := ?_) rfl (by kernel_rfl) (by kernel_rfl) (by kernel_rfl) (fun _ _ _ h => h) (Or.inl ⟨by rfl, ?_⟩) (by assumption) ?_
        rotate_left
        · (intro w hSw; (try dsimp only at hSw); go_simp; (try with_reducible rfl))
        try simp only [Act.put, List.setIfInBounds_toArray, List.set_cons_zero, List.set_cons_succ]
        refine wpAnyH_ready (rs := [6]) (by kernel_rfl) (by simp) ?_
        refine AllReadyH.cons (o := ⟨_, _, _, _, _, _⟩) rfl (fun K hK => ?_) AllReadyH.nil
        go_simp
        refine (K1.out _ (by first | assumption | exact Below.drew (by assumption))).mono ?_
        rintro e wA1 ⟨rfl, hbA1⟩
        refine hK.out _ _ ⟨(hbA1.cell hbs2).trans h1, (hbA1.cell hbs2).trans h2, (hbA1.cell hbs2).trans h3⟩ (fun hHeld => ?_)
        clear hK K
        try simp only [Act.put, List.setIfInBounds_toArray, List.set_cons_zero, List.set_cons_succ]
        refine wpAnyH_take (i := 7) (oi := ⟨_, _, _, _, _, _⟩) (v := ?_) rfl (by kernel_rfl) (by kernel_rfl) (by kernel_rfl) (fun _ _ _ h => h) (Or.inl ⟨by rfl, ?_⟩) (by assumption) ?_
        rotate_left
        · (intro w hSw; (try dsimp only at hSw); go_simp; (try with_reducible rfl))
        try simp only [Act.put, List.setIfInBounds_toArray, List.set_cons_zero, List.set_cons_succ]
        refine wpAnyH_take (i := 8) (oi := ⟨_, _, _, _, _, _⟩) (v := ?_) rfl (by kernel_rfl) (by kernel_rfl) (by kernel_rfl) (fun _ _ _ h => h) (Or.inl ⟨by rfl, ?_⟩) (by assumption) ?_
        rotate_left
        · (intro w hSw; (try dsimp only at hSw); go_simp; (try with_reducible rfl))
        try simp only [Act.put, List.setIfInBounds_toArray, List.set_cons_zero, List.set_cons_succ]
        refine wpAnyH_ready (rs := [14]) (by kernel_rfl) (by simp) ?_
        refine AllReadyH.cons (o := ⟨_, _, _, _, _, _⟩) rfl (fun K hK => ?_) AllReadyH.nil
        go_simp
        refine (K2.out _ (by first | assumption | exact Below.drew (by assumption))).mono ?_
        rintro e wA2 ⟨rfl, hbA2⟩
        refine hK.out _ _ ⟨(hbA2.cell hbs2).trans h1, (hbA2.cell hbs2).trans h2, (hbA2.cell hbs2).trans h3⟩ (fun hHeld => ?_)
        clear hK K
        try simp only [Act.put, List.setIfInBounds_toArray, List.set_cons_zero, List.set_cons_succ]
        refine wpAnyH_take (i := 15) (oi := ⟨_, _, _, _, _, _⟩) (v := ?_) rfl (by kernel_rfl) (by kernel_rfl) (by kernel_rfl) (fun _ _ _ h => h) (Or.inl ⟨by rfl, ?_⟩) (by assumption) ?_
        rotate_left
        · (intro w hSw; (try dsimp only at hSw); go_simp; (try with_reducible rfl))
        try simp only [Act.put, List.setIfInBounds_toArray, List.set_cons_zero, List.set_cons_succ]
        refine wpAnyH_take (i := 16) (oi := ⟨_, _, _, _, _, _⟩) (v := ?_) rfl (by kernel_rfl) (by kernel_rfl) (by kernel_rfl) (fun _ _ _ h => h) (Or.inl ⟨by rfl, ?_⟩) (by assumption) ?_
        rotate_left
        · (intro w hSw; (try dsimp only at hSw); go_simp; (try with_reducible rfl))
        try simp only [Act.put, List.setIfInBounds_toArray, List.set_cons_zero, List.set_cons_succ]
        refine wpAnyH_ready (rs := [23]) (by kernel_rfl) (by simp) ?_
        refine AllReadyH.cons (o := ⟨_, _, _, _, _, _⟩) rfl (fun K hK => ?_) AllReadyH.nil
        go_simp
        refine (K3.out _ (by first | assumption | exact Below.drew (by assumption))).mono ?_
        rintro e wA3 ⟨rfl, hbA3⟩
        refine hK.out _ _ ⟨(hbA3.cell hbs2).trans h1, (hbA3.cell hbs2).trans h2, (hbA3.cell hbs2).trans h3⟩ (fun hHeld => ?_)
        clear hK K
        try simp only [Act.put, List.setIfInBounds_toArray, List.set_cons_zero, List.set_cons_succ]
        refine wpAnyH_take (i := 24) (oi := ⟨_, _, _, _, _, _⟩) (v := ?_) rfl (by kernel_rfl) (by kernel_rfl) (by kernel_rfl) (fun _ _ _ h => h) (Or.inl ⟨by rfl, ?_⟩) (by assumption) ?_
        rotate_left
        · (intro w hSw; (try dsimp only at hSw); go_simp; (try with_reducible rfl))
        try simp only [Act.put, List.setIfInBounds_toArray, List.set_cons_zero, List.set_cons_succ]
        refine wpAnyH_take (i := 25) (oi := ⟨_, _, _, _, _, _⟩) (v := ?_) rfl (by kernel_rfl) (by kernel_rfl) (by kernel_rfl) (fun _ _ _ h => h) (Or.inl ⟨by rfl, ?_⟩) (by assumption) ?_
        rotate_left
        · (intro w hSw; (try dsimp only at hSw); go_simp; (try with_reducible rfl))
        try simp only [Act.put, List.setIfInBounds_toArray, List.set_cons_zero, List.set_cons_succ]
        refine wpAnyH_done (by kernel_rfl) ?_ _
        have HB := Hid.mk' (HB.out.trans (hbA3.mono HB.out.size))
        go_wp2
        go_roundw
        case rel => exact ⟨k + 1, by omega, by go_num, by rw [E.out], HB.out⟩
        case measure => simp [intOf]; omega
      · have ck : ¬ (k : Int) > 0 := by omega
        rw [if_neg hk0] at E
        have z0 : ¬ 9223372036854775807 < O.size + D1.size := by omega
        have z1 : ¬ 9223372036854775807 < O.size + D1.size + 1 := by omega
        have z2 : ¬ 9223372036854775807 < O.size + D1.size + 1 + D2.size := by omega
        have z3 : ¬ 9223372036854775807 < O.size + D1.size + 1 + D2.size + 1 := by omega
        have z4 : ¬ 9223372036854775807 < O.size + D1.size + 1 + D2.size + 1 + D3.size := by omega
        go_wp2
        refine wp_region_held_drew (S := fun w' => w'.cell? ⟨b, o + k * 3, none⟩ = some (.int .i64 (x : Int)) ∧ w'.cell? ⟨b, o + k * 3 + 1, none⟩ = some (.int .i64 (y : Int)) ∧ w'.cell? ⟨b, o + k * 3 + 2, none⟩ = some (.slice p z d)) (by kernel_rfl) (by simp [*]) (fun hHeld => ?_)
        refine wpAnyH_take (i := 0) (oi := ⟨_, _, _, _, _, _⟩) (v := ?_) rfl (by kernel_rfl) (by kernel_rfl) (by kernel_rfl) (fun _ _ _ h => h) (Or.inl ⟨by rfl, ?_⟩) (by assumption) ?_
        rotate_left
        · (intro w hSw; (try dsimp only at hSw); go_simp; (try with_reducible rfl))
        try simp only [Act.put, List.setIfInBounds_toArray, List.set_cons_zero, List.set_cons_succ]
        refine wpAnyH_take (i := 1) (oi := ⟨_, _, _, _, _, _⟩) (v := ?_) rfl (by kernel_rfl) (by kernel_rfl) (by kernel_rfl) (fun _ _ _ h => h) (Or.inl ⟨by rfl, ?_⟩) (by assumption) ?_
        rotate_left
        · (intro w hSw; (try dsimp only at hSw); go_simp; (try with_reducible rfl))
        try simp only [Act.put, List.setIfInBounds_toArray, List.set_cons_zero, List.set_cons_succ]
        refine wpAnyH_take (i := 2) (oi := ⟨_, _, _, _, _, _⟩) (v := ?_) rfl (by kernel_rfl) (by kernel_rfl) (by kernel_rfl) (fun _ _ _ h => h) (Or.inl ⟨by rfl, ?_⟩) (by assumption) ?_
        rotate_left
        · (intro w hSw; (try dsimp only at hSw); go_simp; (try with_reducible rfl))
        try simp only [Act.put, List.setIfInBounds_toArray, List.set_cons_zero, List.set_cons_succ]
        refine wpAnyH_take (i := 3) (oi := ⟨_, _, _, _, _, _⟩) (v := ?_) rfl (by kernel_rfl) (by kernel_rfl) (by kernel_rfl) (fun _ _ _ h => h) (Or.inl ⟨by rfl, ?_⟩) (by assumption) ?_
        rotate_left
        · (intro w hSw; (try dsimp only at hSw); go_simp; (try with_reducible rfl))
        try simp only [Act.put, List.setIfInBounds_toArray, List.set_cons_zero, List.set_cons_succ]
        refine wpAnyH_take (i := 4) (oi := ⟨_, _, _, _, _, _⟩) (v := ?_) rfl (by kernel_rfl) (by kernel_rfl) (by kernel_rfl) (fun _ _ _ h => h) (Or.inl ⟨by rfl, ?_⟩) (by assumption) ?_
        rotate_left
        · (intro w hSw; (try dsimp only at hSw); go_simp; (try with_reducible rfl))
        try simp only [Act.put, List.setIfInBounds_toArray, List.set_cons_zero, List.set_cons_succ]
        refine wpAnyH_take (i := 5) (oi := ⟨_, _, _, _, _, _⟩) (v := ?_) rfl (by kernel_rfl) (by kernel_rfl) (by kernel_rfl) (fun _ _ _ h => h) (Or.inl ⟨by rfl, ?_⟩) (by assumption) ?_
        rotate_left
        · (intro w hSw; (try dsimp only at hSw); go_simp; (try with_reducible rfl))
        try simp only [Act.put, List.setIfInBounds_toArray, List.set_cons_zero, List.set_cons_succ]
        refine wpAnyH_take (i := 9) (oi := ⟨_, _, _, _, _, _⟩) (v := ?_) rfl (by kernel_rfl) (by kernel_rfl) (by kernel_rfl) (fun _ _ _ h => h) (Or.inl ⟨by rfl, ?_⟩) (by assumption) ?_
        rotate_left
        · (intro w hSw; (try dsimp only at hSw); go_simp; (try with_reducible rfl))
        try simp only [Act.put, List.setIfInBounds_toArray, List.set_cons_zero, List.set_cons_succ]
        refine wpAnyH_take (i := 10) (oi := ⟨_, _, _, _, _, _⟩) (v := ?_) rfl (by kernel_rfl) (by kernel_rfl) (by kernel_rfl) (fun _ _ _ h => h) (Or.inl ⟨by rfl, ?_⟩) (by assumption) ?_
        rotate_left
        · (intro w hSw; (try dsimp only at hSw); go_simp; (try with_reducible rfl))
        try simp only [Act.put, List.setIfInBounds_toArray, List.set_cons_zero, List.set_cons_succ]
        refine wpAnyH_take (i := 11) (oi := ⟨_, _, _, _, _, _⟩) (v := ?_) rfl (by kernel_rfl) (by kernel_rfl) (by kernel_rfl) (fun _ _ _ h => h) (Or.inl ⟨by rfl, ?_⟩) (by assumption) ?_
        rotate_left
        · (intro w hSw; (try dsimp only at hSw); go_simp; (try with_reducible rfl))
        try simp only [Act.put, List.setIfInBounds_toArray, List.set_cons_zero, List.set_cons_succ]
        refine wpAnyH_take (i := 12) (oi := ⟨_, _, _, _, _, _⟩) (v := ?_) rfl (by kernel_rfl) (by kernel_rfl) (by kernel_rfl) (fun _ _ _ h => h) (Or.inl ⟨by rfl, ?_⟩) (by assumption) ?_
        rotate_left
        · (intro w hSw; (try dsimp only at hSw); go_simp; (try with_reducible rfl))
        try simp only [Act.put, List.setIfInBounds_toArray, List.set_cons_zero, List.set_cons_succ]
        refine wpAnyH_take (i := 13) (oi := ⟨_, _, _, _, _, _⟩) (v := ?_) rfl (by kernel_rfl) (by kernel_rfl) (by kernel_rfl) (fun _ _ _ h => h) (Or.inl ⟨by rfl, ?_⟩) (by assumption) ?_
        rotate_left
        · (intro w hSw; (try dsimp only at hSw); go_simp; (try with_reducible rfl))
        try simp only [Act.put, List.setIfInBounds_toArray, List.set_cons_zero, List.set_cons_succ]
        refine wpAnyH_take (i := 17) (oi := ⟨_, _, _, _, _, _⟩) (v := ?_) rfl (by kernel_rfl) (by kernel_rfl) (by kernel_rfl) (fun _ _ _ h => h) (Or.inl ⟨by rfl, ?_⟩) (by assumption) ?_
        rotate_left
        · (intro w hSw; (try dsimp only at hSw); go_simp; (try with_reducible rfl))
        try simp only [Act.put, List.setIfInBounds_toArray, List.set_cons_zero, List.set_cons_succ]
        refine wpAnyH_take (i := 18) (oi := ⟨_, _, _, _, _, _⟩) (v := ?_) rfl (by kernel_rfl) (by kernel_rfl) (by kernel_rfl) (fun _ _ _ h => h) (Or.inl ⟨by rfl, ?_⟩) (by assumption) ?_
        rotate_left
        · (intro w hSw; (try dsimp only at hSw); go_simp; (try with_reducible rfl))
        try simp only [Act.put, List.setIfInBounds_toArray, List.set_cons_zero, List.set_cons_succ]
        refine wpAnyH_take (i := 19) (oi := ⟨_, _, _, _, _, _⟩) (v := ?_) rfl (by kernel_rfl) (by kernel_rfl) (by kernel_rfl) (fun _ _ _ h => h) (Or.inl ⟨by rfl, ?_⟩) (by assumption) ?_
        rotate_left
        · (intro w hSw; (try dsimp only at hSw); go_simp; (try with_reducible rfl))
        try simp only [Act.put, List.setIfInBounds_toArray, List.set_cons_zero, List.set_cons_succ]
        refine wpAnyH_take (i := 20) (oi := ⟨_, _, _, _, _, _⟩) (v := ?_) rfl (by kernel_rfl) (by kernel_rfl) (by kernel_rfl) (fun _ _ _ h => h) (Or.inl ⟨by rfl, ?_⟩) (by assumption) ?_
        rotate_left
        · (intro w hSw; (try dsimp only at hSw); go_simp; (try with_reducible rfl))
        try simp only [Act.put, List.setIfInBounds_toArray, List.set_cons_zero, List.set_cons_succ]
        refine wpAnyH_take (i := 21) (oi := ⟨_, _, _, _, _, _⟩) (v := ?_) rfl (by kernel_rfl) (by kernel_rfl) (by kernel_rfl) (fun _ _ _ h => h) (Or.inl ⟨by rfl, ?_⟩) (by assumption) ?_
        rotate_left
        · (intro w hSw; (try dsimp only at hSw); go_simp; (try with_reducible rfl))
        try simp only [Act.put, List.setIfInBounds_toArray, List.set_cons_zero, List.set_cons_succ]
        refine wpAnyH_take (i := 22) (oi := ⟨_, _, _, _, _, _⟩) (v := ?_) rfl (by kernel_rfl) (by kernel_rfl) (by kernel_rfl) (fun _ _ _ h => h) (Or.inl ⟨by rfl, ?_⟩) (by assumption) ?_
        rotate_left
        · (intro w hSw; (try dsimp only at hSw); go_simp; (try with_reducible rfl))
        try simp only [Act.put, List.setIfInBounds_toArray, List.set_cons_zero, List.set_cons_succ]
        refine wpAnyH_ready (rs := [6]) (by kernel_rfl) (by simp) ?_
        refine AllReadyH.cons (o := ⟨_, _, _, _, _, _⟩) rfl (fun K hK => ?_) AllReadyH.nil
        go_simp
        refine (K1.out _ (by first | assumption | exact Below.drew (by assumption))).mono ?_
        rintro e wA1 ⟨rfl, hbA1⟩
        refine hK.out _ _ ⟨(hbA1.cell hbs2).trans h1, (hbA1.cell hbs2).trans h2, (hbA1.cell hbs2).trans h3⟩ (fun hHeld => ?_)
        clear hK K
        try simp only [Act.put, List.setIfInBounds_toArray, List.set_cons_zero, List.set_cons_succ]
        refine wpAnyH_take (i := 7) (oi := ⟨_, _, _, _, _, _⟩) (v := ?_) rfl (by kernel_rfl) (by kernel_rfl) (by kernel_rfl) (fun _ _ _ h => h) (Or.inl ⟨by rfl, ?_⟩) (by assumption) ?_
        rotate_left
        · (intro w hSw; (try dsimp only at hSw); go_simp; (try with_reducible rfl))
        try simp only [Act.put, List.setIfInBounds_toArray, List.set_cons_zero, List.set_cons_succ]
        refine wpAnyH_take (i := 8) (oi := ⟨_, _, _, _, _, _⟩) (v := ?_) rfl (by kernel_rfl) (by kernel_rfl) (by kernel_rfl) (fun _ _ _ h => h) (Or.inl ⟨by rfl, ?_⟩) (by assumption) ?_
        rotate_left
        · (intro w hSw; (try dsimp only at hSw); go_simp; (try with_reducible rfl))
        try simp only [Act.put, List.setIfInBounds_toArray, List.set_cons_zero, List.set_cons_succ]
        refine wpAnyH_ready (rs := [14]) (by kernel_rfl) (by simp) ?_
        refine AllReadyH.cons (o := ⟨_, _, _, _, _, _⟩) rfl (fun K hK => ?_) AllReadyH.nil
        go_simp
        refine (K2.out _ (by first | assumption | exact Below.drew (by assumption))).mono ?_
        rintro e wA2 ⟨rfl, hbA2⟩
        refine hK.out _ _ ⟨(hbA2.cell hbs2).trans h1, (hbA2.cell hbs2).trans h2, (hbA2.cell hbs2).trans h3⟩ (fun hHeld => ?_)
        clear hK K
        try simp only [Act.put, List.setIfInBounds_toArray, List.set_cons_zero, List.set_cons_succ]
        refine wpAnyH_take (i := 15) (oi := ⟨_, _, _, _, _, _⟩) (v := ?_) rfl (by kernel_rfl) (by kernel_rfl) (by kernel_rfl) (fun _ _ _ h => h) (Or.inl ⟨by rfl, ?_⟩) (by assumption) ?_
        rotate_left
        · (intro w hSw; (try dsimp only at hSw); go_simp; (try with_reducible rfl))
        try simp only [Act.put, List.setIfInBounds_toArray, List.set_cons_zero, List.set_cons_succ]
        refine wpAnyH_take (i := 16) (oi := ⟨_, _, _, _, _, _⟩) (v := ?_) rfl (by kernel_rfl) (by kernel_rfl) (by kernel_rfl) (fun _ _ _ h => h) (Or.inl ⟨by rfl, ?_⟩) (by assumption) ?_
        rotate_left
        · (intro w hSw; (try dsimp only at hSw); go_simp; (try with_reducible rfl))
        try simp only [Act.put, List.setIfInBounds_toArray, List.set_cons_zero, List.set_cons_succ]
        refine wpAnyH_ready (rs := [23]) (by kernel_rfl) (by simp) ?_
        refine AllReadyH.cons (o := ⟨_, _, _, _, _, _⟩) rfl (fun K hK => ?_) AllReadyH.nil
        go_simp
        refine (K3.out _ (by first | assumption | exact Below.drew (by assumption))).mono ?_
        rintro e wA3 ⟨rfl, hbA3⟩
        refine hK.out _ _ ⟨(hbA3.cell hbs2).trans h1, (hbA3.cell hbs2).trans h2, (hbA3.cell hbs2).trans h3⟩ (fun hHeld => ?_)
        clear hK K
        try simp only [Act.put, List.setIfInBounds_toArray, List.set_cons_zero, List.set_cons_succ]
        refine wpAnyH_take (i := 24) (oi := ⟨_, _, _, _, _, _⟩) (v := ?_) rfl (by kernel_rfl) (by kernel_rfl) (by kernel_rfl) (fun _ _ _ h => h) (Or.inl ⟨by rfl, ?_⟩) (by assumption) ?_
        rotate_left
        · (intro w hSw; (try dsimp only at hSw); go_simp; (try with_reducible rfl))
        try simp only [Act.put, List.setIfInBounds_toArray, List.set_cons_zero, List.set_cons_succ]
        refine wpAnyH_take (i := 25) (oi := ⟨_, _, _, _, _, _⟩) (v := ?_) rfl (by kernel_rfl) (by kernel_rfl) (by kernel_rfl) (fun _ _ _ h => h) (Or.inl ⟨by rfl, ?_⟩) (by assumption) ?_
        rotate_left
        · (intro w hSw; (try dsimp only at hSw); go_simp; (try with_reducible rfl))
        try simp only [Act.put, List.setIfInBounds_toArray, List.set_cons_zero, List.set_cons_succ]
        refine wpAnyH_done (by kernel_rfl) ?_ _
        have HB := Hid.mk' (HB.out.trans (hbA3.mono HB.out.size))
        go_wp2
        go_roundw
        case rel => exact ⟨k + 1, by omega, by go_num, by rw [E.out], HB.out⟩
        case measure => simp [intOf]; omega
    · have ci : ¬ (k : Int) < (l.length : Int) := by omega
      have e : k = l.length := by omega
      subst e
      by_cases h0 : l.length = 0
      · have E : Hid (ptT l = ⟨#[110, 111, 110, 101]⟩) := Hid.mk' (by unfold ptT; rw [if_pos h0])
        rw [h0, show txS l 0 = ⟨#[]⟩ from rfl]
        clear hbl
        go_wp2
        go_ret
        exact ⟨by rw [E.out]; rfl, HB.out⟩
      · have E : Hid (ptT l = txS l l.length) := Hid.mk' (by unfold ptT; rw [if_neg h0])
        have hne := txS_pos l l.length (by omega)
        clear hbl
        generalize txS l l.length = O at *
        go_wp2
        go_ret
        exact ⟨by rw [E.out]; rfl, HB.out⟩

/-- What PatchText answers: its code, its text. -/
def ptC (l : List XK) : ByteArray := if patF l 2000 = 0 then ptT l else ⟨#[]⟩

theorem specPT_any (a : Option Addr) (c : Nat) (l : List XK) (w : World) (ha : XsAt w a l) (hw : WideX l) :
    Calls Tryd.prog 5 #[.slice a l.length c] w fun e w' => e = .returned (.agg #[.int .i64 (patF l 2000), .string (ptC l)]) ∧ Below w.heap.size w w' := by
  have HB := Hid.mk' (below_new w (.cells #[.int .i64 0, .string ⟨#[]⟩] 25))
  have HR := Hid.mk' (rowQ2 w 25 (.int .i64 0) (.string ⟨#[]⟩))
  have HA := Hid.mk' (ha.below HB.out)
  generalize hW : w.alloc (.cells #[.int .i64 0, .string ⟨#[]⟩] 25) = W at *
  have hz : w.heap.size < W.heap.size := HR.out.lt
  have K := Hid.mk' (l14Fault_any a c l 2000 W HA.out hw)
  have EC : Hid (ptC l = if patF l 2000 = 0 then ptT l else ⟨#[]⟩) := Hid.mk' rfl
  have SM : Hid (patF l 2000 = 0 → SmallX l) := Hid.mk' pat_small
  clear ha hw
  generalize hF : patF l 2000 = F at *
  go_enter Tryd.func5, Tryd.ntmps5
  go_wp2_with fail
  clear hW
  refine K.out.mono ?_
  rintro e w1 ⟨rfl, hb⟩
  have HR := Hid.mk' (rowB HR.out hb)
  have HA := Hid.mk' (HA.out.below hb)
  have HB := Hid.mk' (HB.out.trans (hb.mono HB.out.size))
  have hz := Nat.lt_of_lt_of_le hz hb.size
  clear hb K
  by_cases h0 : F = 0
  · subst h0
    have SM2 := Hid.mk' (SM.out rfl)
    clear SM
    rw [if_pos rfl] at EC
    go_wp2_with fail
    refine (l16Patches_any a c l w1 HA.out SM2.out).mono ?_
    rintro e w2 ⟨rfl, hb⟩
    obtain ⟨x0, x1, x2⟩ := cellsQ2 (rowB HR.out hb)
    obtain ⟨f0, f1⟩ := frzQ2 (rowB HR.out hb)
    have HB := Hid.mk' (HB.out.trans (hb.mono HB.out.size))
    clear hb
    generalize ptT l = O at *
    go_wp2
    refine bodyPost_ret (v := .agg #[.int .i64 0, .string O]) (by simp [results, Tryd.results5, go_sem, *]) rfl ?_
    have KK := ((KeptIn.refl w.heap.size (w.heap.size + 1) w2).setCell (p := ⟨w.heap.size, 0, none⟩) (by simp) (by simp) (.int .i64 0)).setCell (p := ⟨w.heap.size, 1, none⟩) (by simp) (by simp) (.string O)
    exact ⟨by rw [EC.out], HB.out.trans (KK.below (Nat.le_refl _) HB.out.size)⟩
  · rw [if_neg h0] at EC
    obtain ⟨x0, x1, x2⟩ := cellsQ2 HR.out
    obtain ⟨f0, f1⟩ := frzQ2 HR.out
    go_wp2
    refine bodyPost_ret (v := .agg #[.int .i64 F, .string ⟨#[]⟩]) (by simp [results, Tryd.results5, go_sem, *]) rfl ?_
    have KK := ((KeptIn.refl w.heap.size (w.heap.size + 1) w1).setCell (p := ⟨w.heap.size, 0, none⟩) (by simp) (by simp) (.int .i64 F)).setCell (p := ⟨w.heap.size, 1, none⟩) (by simp) (by simp) (.string ⟨#[]⟩)
    exact ⟨by rw [EC.out], HB.out.trans (KK.below (Nat.le_refl _) HB.out.size)⟩

end Go.Proofs.YtaihlcfpkabonaaDoor
