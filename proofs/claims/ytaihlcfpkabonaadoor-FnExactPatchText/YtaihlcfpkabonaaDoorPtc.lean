/- PatchText in the program. -/
import Derived.Test.YtaihlcfpkabonaaDoorPtb
import Derived.Test.YtaihlcfpkabonaaDoorShp
import Derived.OpenShut
namespace Go.Proofs.YtaihlcfpkabonaaDoor
open Go.RowKit Go.Joins
set_option linter.unusedVariables false
set_option linter.unusedSimpArgs false

abbrev TabW (w : World) : Prop := Lib.TabIs Tryd.prog w "internal/strconv.uint64pow10" .u64 Lib.pow10Tab
theorem tab_below {w w' : World} (h : TabW w) (hb : Below w.heap.size w w') : TabW w' := var_stays (g := 1) (by kernel_rfl) h hb (Nat.le_refl _)

theorem below_grow (w : World) (k : Nat) (os : Array Obj) : Below w.heap.size w (Go.Sort.grow (w.drewN k) os) :=
  ⟨rfl, rfl, rfl, by show w.heap.size ≤ (w.heap ++ os).size; rw [Array.size_append]; omega, fun j hj => by
    show (w.heap ++ os)[j]? = w.heap[j]?
    rw [Array.getElem?_append_left hj]⟩

theorem digitsOf_any (n : Nat) (w : World) (ht : TabW w) (hn : n < 100000) :
    Calls Tryd.prog 24 #[.int .i64 (n : Int)] w fun e w' => e = .returned (.string (dgB n)) ∧ Below w.heap.size w w' := by
  have K := Hid.mk' (Tryd.strconv_FormatInt_10 (n : Int) (by omega) (by omega) w ht)
  have E : Hid ((⟨(Lib.itoa (n : Int)).toArray⟩ : ByteArray) = dgB n) := Hid.mk' (by unfold Lib.itoa dgB; rw [if_neg (by omega), Int.toNat_natCast])
  clear ht
  go_enter Tryd.func24, Tryd.ntmps24
  go_wp2_with fail
  refine K.out.mono ?_
  rintro e w1 ⟨rfl, k, os, rfl⟩
  rw [E.out]
  have HB := Hid.mk' (below_grow w k os)
  clear K E
  generalize Go.Sort.grow (w.drewN k) os = w1 at *
  go_wp2
  go_ret
  exact ⟨rfl, HB.out⟩

theorem cells3P {w : World} {g : Nat} {ty : TypeId} {x y z : Value} (h : w.rowIs g ty 3 (r3 x y z)) : w.cell? ⟨g, 0, none⟩ = some x ∧ w.cell? ⟨g, 1, none⟩ = some y ∧ w.cell? ⟨g, 2, none⟩ = some z ∧ g < w.heap.size :=
  ⟨by rw [h.cell (by omega)]; rfl, by rw [h.cell (by omega)]; rfl, by rw [h.cell (by omega)]; rfl, h.lt⟩

set_option maxRecDepth 100000 in
set_option maxHeartbeats 1600000 in
theorem said_any (x y z : Nat) (p : Option Addr) (d : Nat) (w : World) (ht : TabW w) (hx : x ≤ 2000) (hy : y ≤ 2000) (hz : z ≤ 240) :
    Calls Tryd.prog 15 #[.agg #[.int .i64 (x : Int), .int .i64 (y : Int), .slice p z d]] w fun e w' => e = .returned (.string (dgB x ++ ⟨#[44]⟩ ++ dgB y ++ ⟨#[44]⟩ ++ dgB z)) ∧ Below w.heap.size w w' := by
  have NB := below_new w (.cells #[.int .i64 (x : Int), .int .i64 (y : Int), .slice p z d] 38)
  have R := row3 w 38 (.int .i64 (x : Int)) (.int .i64 (y : Int)) (.slice p z d)
  have ht2 := tab_below ht NB
  have HB := Hid.mk' NB
  obtain ⟨y0, y1, y2, hg⟩ := cells3P R
  generalize hW : w.alloc (.cells #[.int .i64 (x : Int), .int .i64 (y : Int), .slice p z d] 38) = W at *
  have K1 : Hid (∀ V, Below W.heap.size W V → Calls Tryd.prog 24 #[.int .i64 (x : Int)] V fun e w' => e = .returned (.string (dgB x)) ∧ Below W.heap.size W w') := Hid.mk' (fun V hV => (digitsOf_any x V (tab_below ht2 hV) (by omega)).mono (fun e w' h => ⟨h.1, hV.trans (h.2.mono hV.size)⟩))
  have K2 : Hid (∀ V, Below W.heap.size W V → Calls Tryd.prog 24 #[.int .i64 (y : Int)] V fun e w' => e = .returned (.string (dgB y)) ∧ Below W.heap.size W w') := Hid.mk' (fun V hV => (digitsOf_any y V (tab_below ht2 hV) (by omega)).mono (fun e w' h => ⟨h.1, hV.trans (h.2.mono hV.size)⟩))
  have K3 : Hid (∀ V, Below W.heap.size W V → Calls Tryd.prog 24 #[.int .i64 (z : Int)] V fun e w' => e = .returned (.string (dgB z)) ∧ Below W.heap.size W w') := Hid.mk' (fun V hV => (digitsOf_any z V (tab_below ht2 hV) (by omega)).mono (fun e w' h => ⟨h.1, hV.trans (h.2.mono hV.size)⟩))
  have d1 := dgB_size x (by omega)
  have d2 := dgB_size y (by omega)
  have d3 := dgB_size z (by omega)
  clear ht2 NB R ht
  generalize dgB x = D1 at *
  generalize dgB y = D2 at *
  generalize dgB z = D3 at *
  have b0 : Below W.heap.size W W := Below.refl _ _
  have z1 : ¬ 9223372036854775807 < D1.size + 1 := by omega
  have z2 : ¬ 9223372036854775807 < D1.size + 1 + D2.size := by omega
  have z3 : ¬ 9223372036854775807 < D1.size + 1 + D2.size + 1 := by omega
  have z4 : ¬ 9223372036854775807 < D1.size + 1 + D2.size + 1 + D3.size := by omega
  go_enter Tryd.func15, Tryd.ntmps15
  go_wp2_with fail
  clear hW
  refine wp_region_held_drew (S := fun w' => w'.cell? ⟨w.heap.size, 0, none⟩ = some (.int .i64 (x : Int)) ∧ w'.cell? ⟨w.heap.size, 1, none⟩ = some (.int .i64 (y : Int)) ∧ w'.cell? ⟨w.heap.size, 2, none⟩ = some (.slice p z d)) (by kernel_rfl) (by simp [*]) (fun hHeld => ?_)
  refine wpAnyH_take (i := 0) (oi := ⟨_, _, _, _, _, _⟩) (v := ?_) rfl (by kernel_rfl) (by kernel_rfl) (by kernel_rfl) (fun _ _ _ h => h) (Or.inl ⟨by rfl, ?_⟩) (by assumption) ?_
  rotate_left
  · (intro w hSw; (try dsimp only at hSw); go_simp; (try with_reducible rfl))
  try simp only [Act.put, List.setIfInBounds_toArray, List.set_cons_zero, List.set_cons_succ]
  refine wpAnyH_take (i := 1) (oi := ⟨_, _, _, _, _, _⟩) (v := ?_) rfl (by kernel_rfl) (by kernel_rfl) (by kernel_rfl) (fun _ _ _ h => h) (Or.inl ⟨by rfl, ?_⟩) (by assumption) ?_
  rotate_left
  · (intro w hSw; (try dsimp only at hSw); go_simp; (try with_reducible rfl))
  try simp only [Act.put, List.setIfInBounds_toArray, List.set_cons_zero, List.set_cons_succ]
  refine wpAnyH_take (i := 4) (oi := ⟨_, _, _, _, _, _⟩) (v := ?_) rfl (by kernel_rfl) (by kernel_rfl) (by kernel_rfl) (fun _ _ _ h => h) (Or.inl ⟨by rfl, ?_⟩) (by assumption) ?_
  rotate_left
  · (intro w hSw; (try dsimp only at hSw); go_simp; (try with_reducible rfl))
  try simp only [Act.put, List.setIfInBounds_toArray, List.set_cons_zero, List.set_cons_succ]
  refine wpAnyH_take (i := 5) (oi := ⟨_, _, _, _, _, _⟩) (v := ?_) rfl (by kernel_rfl) (by kernel_rfl) (by kernel_rfl) (fun _ _ _ h => h) (Or.inl ⟨by rfl, ?_⟩) (by assumption) ?_
  rotate_left
  · (intro w hSw; (try dsimp only at hSw); go_simp; (try with_reducible rfl))
  try simp only [Act.put, List.setIfInBounds_toArray, List.set_cons_zero, List.set_cons_succ]
  refine wpAnyH_take (i := 9) (oi := ⟨_, _, _, _, _, _⟩) (v := ?_) rfl (by kernel_rfl) (by kernel_rfl) (by kernel_rfl) (fun _ _ _ h => h) (Or.inl ⟨by rfl, ?_⟩) (by assumption) ?_
  rotate_left
  · (intro w hSw; (try dsimp only at hSw); go_simp; (try with_reducible rfl))
  try simp only [Act.put, List.setIfInBounds_toArray, List.set_cons_zero, List.set_cons_succ]
  refine wpAnyH_take (i := 10) (oi := ⟨_, _, _, _, _, _⟩) (v := ?_) rfl (by kernel_rfl) (by kernel_rfl) (by kernel_rfl) (fun _ _ _ h => h) (Or.inl ⟨by rfl, ?_⟩) (by assumption) ?_
  rotate_left
  · (intro w hSw; (try dsimp only at hSw); go_simp; (try with_reducible rfl))
  try simp only [Act.put, List.setIfInBounds_toArray, List.set_cons_zero, List.set_cons_succ]
  refine wpAnyH_take (i := 11) (oi := ⟨_, _, _, _, _, _⟩) (v := ?_) rfl (by kernel_rfl) (by kernel_rfl) (by kernel_rfl) (fun _ _ _ h => h) (Or.inl ⟨by rfl, ?_⟩) (by assumption) ?_
  rotate_left
  · (intro w hSw; (try dsimp only at hSw); go_simp; (try with_reducible rfl))
  try simp only [Act.put, List.setIfInBounds_toArray, List.set_cons_zero, List.set_cons_succ]
  refine wpAnyH_ready (rs := [2]) (by kernel_rfl) (by simp) ?_
  refine AllReadyH.cons (o := ⟨_, _, _, _, _, _⟩) rfl (fun K hK => ?_) AllReadyH.nil
  go_simp
  refine (K1.out _ (by first | assumption | exact Below.drew (by assumption))).mono ?_
  rintro e wA1 ⟨rfl, hbA1⟩
  refine hK.out _ _ ⟨(hbA1.cell hg).trans y0, (hbA1.cell hg).trans y1, (hbA1.cell hg).trans y2⟩ (fun hHeld => ?_)
  clear hK K
  try simp only [Act.put, List.setIfInBounds_toArray, List.set_cons_zero, List.set_cons_succ]
  refine wpAnyH_take (i := 3) (oi := ⟨_, _, _, _, _, _⟩) (v := ?_) rfl (by kernel_rfl) (by kernel_rfl) (by kernel_rfl) (fun _ _ _ h => h) (Or.inl ⟨by rfl, ?_⟩) (by assumption) ?_
  rotate_left
  · (intro w hSw; (try dsimp only at hSw); go_simp; (try with_reducible rfl))
  try simp only [Act.put, List.setIfInBounds_toArray, List.set_cons_zero, List.set_cons_succ]
  refine wpAnyH_ready (rs := [6]) (by kernel_rfl) (by simp) ?_
  refine AllReadyH.cons (o := ⟨_, _, _, _, _, _⟩) rfl (fun K hK => ?_) AllReadyH.nil
  go_simp
  refine (K2.out _ (by first | assumption | exact Below.drew (by assumption))).mono ?_
  rintro e wA2 ⟨rfl, hbA2⟩
  refine hK.out _ _ ⟨(hbA2.cell hg).trans y0, (hbA2.cell hg).trans y1, (hbA2.cell hg).trans y2⟩ (fun hHeld => ?_)
  clear hK K
  try simp only [Act.put, List.setIfInBounds_toArray, List.set_cons_zero, List.set_cons_succ]
  refine wpAnyH_take (i := 7) (oi := ⟨_, _, _, _, _, _⟩) (v := ?_) rfl (by kernel_rfl) (by kernel_rfl) (by kernel_rfl) (fun _ _ _ h => h) (Or.inl ⟨by rfl, ?_⟩) (by assumption) ?_
  rotate_left
  · (intro w hSw; (try dsimp only at hSw); go_simp; (try with_reducible rfl))
  try simp only [Act.put, List.setIfInBounds_toArray, List.set_cons_zero, List.set_cons_succ]
  refine wpAnyH_take (i := 8) (oi := ⟨_, _, _, _, _, _⟩) (v := ?_) rfl (by kernel_rfl) (by kernel_rfl) (by kernel_rfl) (fun _ _ _ h => h) (Or.inl ⟨by rfl, ?_⟩) (by assumption) ?_
  rotate_left
  · (intro w hSw; (try dsimp only at hSw); go_simp; (try with_reducible rfl))
  try simp only [Act.put, List.setIfInBounds_toArray, List.set_cons_zero, List.set_cons_succ]
  refine wpAnyH_ready (rs := [12]) (by kernel_rfl) (by simp) ?_
  refine AllReadyH.cons (o := ⟨_, _, _, _, _, _⟩) rfl (fun K hK => ?_) AllReadyH.nil
  go_simp
  refine (K3.out _ (by first | assumption | exact Below.drew (by assumption))).mono ?_
  rintro e wA3 ⟨rfl, hbA3⟩
  refine hK.out _ _ ⟨(hbA3.cell hg).trans y0, (hbA3.cell hg).trans y1, (hbA3.cell hg).trans y2⟩ (fun hHeld => ?_)
  clear hK K
  try simp only [Act.put, List.setIfInBounds_toArray, List.set_cons_zero, List.set_cons_succ]
  refine wpAnyH_take (i := 13) (oi := ⟨_, _, _, _, _, _⟩) (v := ?_) rfl (by kernel_rfl) (by kernel_rfl) (by kernel_rfl) (fun _ _ _ h => h) (Or.inl ⟨by rfl, ?_⟩) (by assumption) ?_
  rotate_left
  · (intro w hSw; (try dsimp only at hSw); go_simp; (try with_reducible rfl))
  try simp only [Act.put, List.setIfInBounds_toArray, List.set_cons_zero, List.set_cons_succ]
  refine wpAnyH_take (i := 14) (oi := ⟨_, _, _, _, _, _⟩) (v := ?_) rfl (by kernel_rfl) (by kernel_rfl) (by kernel_rfl) (fun _ _ _ h => h) (Or.inl ⟨by rfl, ?_⟩) (by assumption) ?_
  rotate_left
  · (intro w hSw; (try dsimp only at hSw); go_simp; (try with_reducible rfl))
  try simp only [Act.put, List.setIfInBounds_toArray, List.set_cons_zero, List.set_cons_succ]
  refine wpAnyH_done (by kernel_rfl) ?_ _
  have HF := Hid.mk' (HB.out.trans (hbA3.mono HB.out.size))
  go_wp2
  go_ret
  exact ⟨rfl, HF.out⟩

end Go.Proofs.YtaihlcfpkabonaaDoor
