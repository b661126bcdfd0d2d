/- The draws of FnPatches. -/
import Derived.Test.YtmabfeckmklenaaXqg
import Derived.Test.YtmabfeckmklenaaXqb
namespace Go.Proofs.Ytmabfeckmklenaa
open Go.RowKit
set_option linter.unusedVariables false
set_option linter.unusedSimpArgs false

theorem l1MaxP_any (x y : Int) (w : World) : Calls Try.prog 36 #[.int .i64 x, .int .i64 y] w fun e w' => e = .returned (.int .i64 (if y < x then x else y)) ∧ w' = w := by
  by_cases h : y < x
  · rw [if_pos h]
    go_enter Try.func36, Try.ntmps36
    go_wp2
    go_ret
    exact ⟨rfl, rfl⟩
  · rw [if_neg h]
    go_enter Try.func36, Try.ntmps36
    go_wp2
    go_ret
    exact ⟨rfl, rfl⟩

/-- Patches that were drawn. -/
def DrL (w : World) (e : Ending) (w' : World) : Prop := ∃ (a : Option Addr) (L : List XK) (c : Nat), e = .returned (.slice a L.length c) ∧ XsAt w' a L ∧ TameX L ∧ L.length ≤ 21 ∧ Below w.heap.size w w'

def DrF (w : World) (e : Ending) (w' : World) : Prop := ∃ (a : Option Addr) (L : List XK) (c : Nat) (z : Int), e = .returned (.tuple #[.slice a L.length c, .int .i64 z]) ∧ XsAt w' a L ∧ TameX L ∧ L.length ≤ 21 ∧ Below w.heap.size w w'

def DrA (w : World) (e : Ending) (w' : World) : Prop := ∃ (D : List Int) (g d : Nat) (a : Option Addr) (L : List XK) (c : Nat), e = .returned (.tuple #[.slice (some ⟨g, 0, none⟩) D.length d, .slice a L.length c]) ∧ CAt w' g 0 D ∧ D.length ≤ d ∧ D.length ≤ 1990 ∧ XsAt w' a L ∧ TameX L ∧ L.length ≤ 21 ∧ Below w.heap.size w w'

set_option maxHeartbeats 1600000 in
theorem drawPS_any (a : Option Addr) (c : Nat) (l : List Int) (w : World) (ha : BAt w a l) (hu : ∀ i, i < l.length → 0 ≤ l.getD i 0 ∧ l.getD i 0 ≤ 255) (hl : (l.length : Int) ≤ 1048576) :
    Calls Try.prog 15 #[.slice a l.length c] w fun e w' => DrL w e w' := by
  have K := Hid.mk' (l1Source_any a c l w ha hu)
  clear ha hu
  go_enter Try.func15, Try.ntmps15
  go_wp2_with fail
  refine K.out.mono ?_
  rintro e w1 ⟨rfl, hS, hb⟩
  have HB := Hid.mk' hb
  have HS := Hid.mk' hS
  clear K hS hb
  go_wp2_with fail
  refine (l14Draw_any w.heap.size 0 9 l w1 HS.out (by omega) (by omega) hl).mono ?_
  rintro e w2 ⟨a2, L, c2, k2, rfl, hx, hT, hL, _, _, hK⟩
  have HX := Hid.mk' hx
  have HT := Hid.mk' hT
  have B2 := Hid.mk' (hK.below' w (Nat.le_refl _) HB.out)
  clear hx hT hK HB HS
  go_wp2
  go_ret
  exact ⟨a2, L, c2, rfl, HX.out, HT.out, hL, B2.out⟩

set_option maxHeartbeats 1600000 in
theorem drawPF_any (a : Option Addr) (c : Nat) (l : List Int) (w : World) (ha : BAt w a l) (hu : ∀ i, i < l.length → 0 ≤ l.getD i 0 ∧ l.getD i 0 ≤ 255) (hl : (l.length : Int) ≤ 1048576) :
    Calls Try.prog 14 #[.slice a l.length c] w fun e w' => DrF w e w' := by
  have K := Hid.mk' (l1Source_any a c l w ha hu)
  clear ha hu
  go_enter Try.func14, Try.ntmps14
  go_wp2_with fail
  refine K.out.mono ?_
  rintro e w1 ⟨rfl, hS, hb⟩
  have HB := Hid.mk' hb
  have HS := Hid.mk' hS
  clear K hS hb
  go_wp2_with fail
  refine (l1Next_any w.heap.size 0 l 12 w1 HS.out (by omega) (by decide) (by decide) hl).mono ?_
  rintro e w2 ⟨x, rfl, x0, x1, hS2, hK2⟩
  have B2 := Hid.mk' (hK2.below' w (Nat.le_refl _) HB.out)
  have HS2 := Hid.mk' hS2
  have bw2 := hS2.lt
  clear HB HS hS2 hK2
  go_wp2_with fail
  refine (l1Pick_any w.heap.size 1 w2.heap.size 5 l [x, 0, 2000, 2001, -1] _ (HS2.out.below (below_new w2 _)) (iat_lit w2 [x, 0, 2000, 2001, -1]) (by omega) (by omega) (by simp) (by simp) hl).mono ?_
  rintro e w3 ⟨i, hi, rfl, hS3, hK3⟩
  generalize ([x, 0, 2000, 2001, -1] : List Int).getD i 0 = z at *
  have B3 := Hid.mk' (hK3.below' w (Nat.le_refl _) (B2.out.alloc B2.out.size _))
  have HS3 := Hid.mk' hS3
  obtain ⟨s, hs, hs12⟩ : ∃ s : Nat, (if (if (12 : Int) < z then (12 : Int) else z) < 0 then (0 : Int) else (if (12 : Int) < z then (12 : Int) else z)) = (s : Int) ∧ s ≤ 12 := by
    by_cases h1 : (12 : Int) < z
    · rw [if_pos h1]
      exact ⟨12, by rw [if_neg (by omega)]; rfl, by omega⟩
    · rw [if_neg h1]
      by_cases h2 : z < 0
      · exact ⟨0, by rw [if_pos h2]; rfl, by omega⟩
      · exact ⟨z.toNat, by rw [if_neg h2]; omega, by omega⟩
  have KM := Hid.mk' (fun W => l1MinP_any 12 z W)
  have KX := Hid.mk' (fun W => l1MaxP_any 0 (if (12 : Int) < z then (12 : Int) else z) W)
  generalize hq : (if (12 : Int) < z then (12 : Int) else z) = q at *
  have KX := KX.out
  rw [hs] at KX
  have KX := Hid.mk' KX
  clear B2 HS2 hS3 hK3 hq hs
  go_wp2_with (first | (go_at_call 34; refine (KM.out _).mono ?_; rintro e wq ⟨rfl, hwq⟩; obtain rfl := hwq.symm) | (go_at_call 36; refine (KX.out _).mono ?_; rintro e wq ⟨rfl, hwq⟩; obtain rfl := hwq.symm))
  refine (l14Draw_any w.heap.size 2 s l _ HS3.out (by omega) (by omega) hl).mono ?_
  rintro e w5 ⟨a2, L, c2, k2, rfl, hx, hT, hL, _, _, hK⟩
  have HX := Hid.mk' hx
  have HT := Hid.mk' hT
  have B5 := Hid.mk' (hK.below' w (Nat.le_refl _) B3.out)
  clear hx hT hK B3 HS3
  go_wp2
  refine bodyPost_ret (v := .tuple #[.slice a2 L.length c2, .int .i64 z]) (by simp [results, Try.results14, go_sem, *]) rfl ?_
  exact ⟨a2, L, c2, z, rfl, HX.out, HT.out, hL, B5.out⟩

set_option maxHeartbeats 1600000 in
theorem drawAP_any (a : Option Addr) (c : Nat) (l : List Int) (w : World) (ha : BAt w a l) (hu : ∀ i, i < l.length → 0 ≤ l.getD i 0 ∧ l.getD i 0 ≤ 255) (hl : (l.length : Int) ≤ 1048576) :
    Calls Try.prog 13 #[.slice a l.length c] w fun e w' => DrA w e w' := by
  have K := Hid.mk' (l1Source_any a c l w ha hu)
  clear ha hu
  go_enter Try.func13, Try.ntmps13
  go_wp2_with fail
  refine K.out.mono ?_
  rintro e w1 ⟨rfl, hS, hb⟩
  have HB := Hid.mk' hb
  have HS := Hid.mk' hS
  have bw1 := hS.lt
  clear K hS hb
  go_wp2_with fail
  refine (l1Next_any w.heap.size 0 l 12 w1 HS.out (by omega) (by decide) (by decide) hl).mono ?_
  rintro e w2 ⟨x, rfl, x0, x1, hS2, hK2⟩
  obtain ⟨x, rfl⟩ : ∃ n : Nat, x = (n : Int) := ⟨x.toNat, by omega⟩
  have B2 := Hid.mk' (hK2.below' w (Nat.le_refl _) HB.out)
  have HS2 := Hid.mk' hS2
  have y2 := hK2.size
  clear HB HS hS2 hK2
  go_wp2_with fail
  refine (l1Some_any w.heap.size 1 x l w2 HS2.out (by omega) (by omega) hl).mono ?_
  rintro e w3 ⟨v, D, rfl, hD, hDr, hsm⟩
  subst hD
  obtain ⟨g, d, ev, hd, hg, hat⟩ := own_some hDr.own hsm
  subst ev
  have B3 := Hid.mk' (hDr.kept.below' w (Nat.le_refl _) B2.out)
  have HS3 := Hid.mk' hDr.src
  have C3 := Hid.mk' hat
  obtain ⟨k3, hk3, hk3b⟩ : ∃ k3, 1 + D.length = k3 ∧ k3 ≤ 20 := ⟨_, rfl, by omega⟩
  rw [hk3] at HS3
  clear B2 HS2 hDr hsm hat hk3
  go_wp2_with fail
  refine (l1Chance_any w.heap.size k3 l 20 w3 HS3.out (by omega) (by decide) (by decide) hl).mono ?_
  rintro e w4 ⟨v4, rfl, hS4, hK4⟩
  have B4 := Hid.mk' (hK4.below' w (Nat.le_refl _) B3.out)
  have HS4 := Hid.mk' hS4
  have C4 := Hid.mk' (cat_kept C3.out hK4 (.inr (by omega)))
  have bw4 := hS4.lt
  clear B3 HS3 C3 hS4 hK4
  cases v4 with
  | true =>
    have hmk : ∀ W : World, (Instr.makeSlice 22 (.int .i64 1990) (.int .i64 1990)).run Try.prog W = .ok (.slice (some ⟨W.heap.size, 0, none⟩) 1990 1990) (W.alloc (.cells (madeCells #[.int .u8 0] 1990) 5)) := fun W => run_make_row' (P := Try.prog) 22 5 (.int .u8 0) 1 Try.underlying22 Try.info5 rfl .i64 .i64 1990 (by omega) (by omega) W
    have CZ := Hid.mk' (zerosC w4 1990)
    have BZ := Hid.mk' (B4.out.alloc B4.out.size (.cells (madeCells #[.int .u8 0] 1990) 5))
    have HSZ := Hid.mk' (HS4.out.below (below_new w4 (.cells (madeCells #[.int .u8 0] 1990) 5)))
    obtain ⟨s, hs, hs12⟩ : ∃ s : Nat, (if (12 : Int) < 1990 then (12 : Int) else 1990) = (s : Int) ∧ s ≤ 12 := ⟨12, by decide, by omega⟩
    clear B4 HS4 C4
    have KM := fun W => l1MinP_any 12 (1990 : Int) W
    rw [hs] at KM
    have KM := Hid.mk' KM
    clear hs
    go_wp2_with (go_at_call 34; refine (KM.out _).mono ?_; rintro e wq ⟨rfl, hwq⟩; obtain rfl := hwq.symm)
    refine (l14Draw_any w.heap.size (k3 + 1) s l _ HSZ.out (by omega) (by omega) hl).mono ?_
    rintro e w9 ⟨a2, L, c2, k2, rfl, hx, hT, hL, _, _, hK⟩
    have HX := Hid.mk' hx
    have HT := Hid.mk' hT
    have B9 := Hid.mk' (hK.below' w (Nat.le_refl _) BZ.out)
    have C9 := Hid.mk' (cat_kept CZ.out hK (.inr (by omega)))
    clear hx hT hK BZ HSZ CZ
    go_wp2
    refine bodyPost_ret (v := .tuple #[.slice (some ⟨w4.heap.size, 0, none⟩) 1990 1990, .slice a2 L.length c2]) (by simp [results, Try.results13, go_sem, *]) rfl ?_
    exact ⟨List.replicate 1990 0, w4.heap.size, 1990, a2, L, c2, by rw [List.length_replicate], C9.out, by rw [List.length_replicate]; omega, by rw [List.length_replicate]; omega, HX.out, HT.out, hL, B9.out⟩
  | false =>
    have CZ := C4
    have BZ := B4
    have HSZ := HS4
    obtain ⟨s, hs, hs12⟩ : ∃ s : Nat, (if (12 : Int) < (D.length : Int) then (12 : Int) else (D.length : Int)) = (s : Int) ∧ s ≤ 12 := by
      split
      · exact ⟨12, rfl, by omega⟩
      · exact ⟨D.length, rfl, by omega⟩
    clear B4 HS4 C4
    have KM := fun W => l1MinP_any 12 (D.length : Int) W
    rw [hs] at KM
    have KM := Hid.mk' KM
    clear hs
    go_wp2_with (go_at_call 34; refine (KM.out _).mono ?_; rintro e wq ⟨rfl, hwq⟩; obtain rfl := hwq.symm)
    refine (l14Draw_any w.heap.size (k3 + 1) s l _ HSZ.out (by omega) (by omega) hl).mono ?_
    rintro e w9 ⟨a2, L, c2, k2, rfl, hx, hT, hL, _, _, hK⟩
    have HX := Hid.mk' hx
    have HT := Hid.mk' hT
    have B9 := Hid.mk' (hK.below' w (Nat.le_refl _) BZ.out)
    have C9 := Hid.mk' (cat_kept CZ.out hK (.inr (by omega)))
    clear hx hT hK BZ HSZ CZ
    go_wp2
    refine bodyPost_ret (v := .tuple #[.slice (some ⟨g, 0, none⟩) D.length d, .slice a2 L.length c2]) (by simp [results, Try.results13, go_sem, *]) rfl ?_
    exact ⟨D, g, d, a2, L, c2, rfl, C9.out, hd, (by omega), HX.out, HT.out, hL, B9.out⟩

end Go.Proofs.Ytmabfeckmklenaa
