/- Draws of texts of measures. -/
import Derived.Test.YteakocifjmkmjaaGreatDoorBl
import Derived.Test.YteakocifjmkmjaaGreatDoorCa
namespace Go.Proofs.YteakocifjmkmjaaGreatDoor
open Go.RowKit
set_option linter.unusedVariables false
set_option linter.unusedSimpArgs false

def sgnL : List ByteArray := [⟨#[]⟩, ⟨#[45]⟩]
def txtL : List ByteArray := [⟨#[110, 97, 110]⟩, ⟨#[105, 110, 102]⟩, ⟨#[48]⟩, ⟨#[49, 46, 53]⟩, ⟨#[49, 50, 46, 50, 53]⟩, ⟨#[57, 57, 57, 57, 46, 55, 53]⟩, ⟨#[49, 48, 48, 48, 48]⟩, ⟨#[49, 46, 53, 48]⟩, ⟨#[49, 46, 53, 48, 48]⟩, ⟨#[49, 46, 50]⟩, ⟨#[48, 48, 55]⟩, ⟨#[46, 53]⟩, ⟨#[49, 46]⟩, ⟨#[120]⟩, ⟨#[]⟩, ⟨#[48, 46, 55, 53, 48]⟩, ⟨#[49, 46, 53, 46, 53]⟩]

theorem strs_new (w : World) (cs : Array Value) (l : List ByteArray) (hs : cs.size = l.length) (h : ∀ i, i < cs.size → cs[i]? = some (sv l i)) {i : Nat} (hi : i < l.length) : (w.alloc (.cells cs 9)).cell? ⟨w.heap.size, i, none⟩ = some (.string (sK l i)) ∧ w.heap.size < (w.alloc (.cells cs 9)).heap.size := by
  have R := World.rowIs_alloc w cs 9 (sv l) h
  exact ⟨R.cell (by omega), R.lt⟩

set_option maxRecDepth 100000 in
set_option maxHeartbeats 1600000 in
theorem drawMO_any (a : Option Addr) (c : Nat) (l : List Int) (w : World) (ha : BAt w a l) (hu : ∀ i, i < l.length → 0 ≤ l.getD i 0 ∧ l.getD i 0 ≤ 255) (hl : (l.length : Int) ≤ 1048576) :
    Calls Tryz.prog 18 #[.slice a l.length c] w fun e w' => ∃ (i j : Nat), i < 2 ∧ j < 17 ∧ e = .returned (.string (sK sgnL i ++ sK txtL j)) ∧ Below w.heap.size w w' := by
  have K1 := Hid.mk' (l1Source_any a c l w ha hu)
  clear ha hu
  go_enter Tryz.func18, Tryz.ntmps18
  go_wp2_with fail
  refine K1.out.mono ?_
  rintro e w1 ⟨rfl, hS, hb⟩
  have HS := Hid.mk' hS
  have HB := Hid.mk' hb
  have HZ := Hid.mk' hb.size
  obtain ⟨g, hg⟩ : ∃ g, w.heap.size = g := ⟨_, rfl⟩
  rw [hg] at HS HB HZ ⊢
  have HG := Hid.mk' hg
  clear hS hb K1 hg
  go_wp2_with fail
  have NB := below_new w1 (.cells #[.string ⟨#[]⟩, .string ⟨#[45]⟩] 9)
  have HC := Hid.mk' (fun (i : Nat) (hi : i < 2) => strs_new w1 #[.string ⟨#[]⟩, .string ⟨#[45]⟩] sgnL rfl (fun i hi => by
    have hi' : i < 2 := hi
    have c : i = 0 ∨ i = 1 := by omega
    rcases c with rfl | rfl <;> rfl) (i := i) hi)
  have KP := l1Next_any g 0 l 2 _ (HS.out.below NB) (by omega) (by omega) (by omega) hl
  have HB := Hid.mk' (HB.out.trans (NB.mono HZ.out))
  have HL := Hid.mk' HS.out.lt
  have HZ := Hid.mk' (Nat.le_trans HZ.out NB.size)
  clear NB
  refine KP.mono ?_
  rintro e w2 ⟨v, rfl, v0, v1, hS, hK⟩
  obtain ⟨i, rfl⟩ : ∃ i : Nat, v = (i : Int) := ⟨v.toNat, by omega⟩
  have il : i < 2 := by omega
  have hc : w2.cell? ⟨w1.heap.size, i, none⟩ = some (.string (sK sgnL i)) := (hK.cell (p := ⟨w1.heap.size, i, none⟩) (HC.out i il).2 (.inr (show g + 1 ≤ w1.heap.size by have := HL.out; omega))).trans (HC.out i il).1
  have HSZ : Hid ((sK sgnL i).size ≤ 1) := Hid.mk' (by
    have c : i = 0 ∨ i = 1 := by omega
    rcases c with rfl | rfl <;> decide)
  have HI := Hid.mk' il
  have HS := Hid.mk' hS
  have HB := Hid.mk' (kept_below HB.out hK HZ.out)
  have HZ := Hid.mk' (Nat.le_trans HZ.out hK.size)
  generalize hX : sK sgnL i = X at *
  have HX := Hid.mk' hX
  clear hS hK KP HC hX
  go_wp2_with fail
  have NB := below_new w2 (.cells #[.string ⟨#[110, 97, 110]⟩, .string ⟨#[105, 110, 102]⟩, .string ⟨#[48]⟩, .string ⟨#[49, 46, 53]⟩, .string ⟨#[49, 50, 46, 50, 53]⟩, .string ⟨#[57, 57, 57, 57, 46, 55, 53]⟩, .string ⟨#[49, 48, 48, 48, 48]⟩, .string ⟨#[49, 46, 53, 48]⟩, .string ⟨#[49, 46, 53, 48, 48]⟩, .string ⟨#[49, 46, 50]⟩, .string ⟨#[48, 48, 55]⟩, .string ⟨#[46, 53]⟩, .string ⟨#[49, 46]⟩, .string ⟨#[120]⟩, .string ⟨#[]⟩, .string ⟨#[48, 46, 55, 53, 48]⟩, .string ⟨#[49, 46, 53, 46, 53]⟩] 9)
  have HC := Hid.mk' (fun (j : Nat) (hj : j < 17) => strs_new w2 #[.string ⟨#[110, 97, 110]⟩, .string ⟨#[105, 110, 102]⟩, .string ⟨#[48]⟩, .string ⟨#[49, 46, 53]⟩, .string ⟨#[49, 50, 46, 50, 53]⟩, .string ⟨#[57, 57, 57, 57, 46, 55, 53]⟩, .string ⟨#[49, 48, 48, 48, 48]⟩, .string ⟨#[49, 46, 53, 48]⟩, .string ⟨#[49, 46, 53, 48, 48]⟩, .string ⟨#[49, 46, 50]⟩, .string ⟨#[48, 48, 55]⟩, .string ⟨#[46, 53]⟩, .string ⟨#[49, 46]⟩, .string ⟨#[120]⟩, .string ⟨#[]⟩, .string ⟨#[48, 46, 55, 53, 48]⟩, .string ⟨#[49, 46, 53, 46, 53]⟩] txtL rfl (fun j hj => by
    have hj' : j < 17 := hj
    have c : j = 0 ∨ j = 1 ∨ j = 2 ∨ j = 3 ∨ j = 4 ∨ j = 5 ∨ j = 6 ∨ j = 7 ∨ j = 8 ∨ j = 9 ∨ j = 10 ∨ j = 11 ∨ j = 12 ∨ j = 13 ∨ j = 14 ∨ j = 15 ∨ j = 16 := by omega
    rcases c with rfl | rfl | rfl | rfl | rfl | rfl | rfl | rfl | rfl | rfl | rfl | rfl | rfl | rfl | rfl | rfl | rfl <;> rfl) (i := j) hj)
  have KP := l1Next_any g 1 l 17 _ (HS.out.below NB) (by omega) (by omega) (by omega) hl
  have HB := Hid.mk' (HB.out.trans (NB.mono HZ.out))
  have HL := Hid.mk' HS.out.lt
  have HZ := Hid.mk' (Nat.le_trans HZ.out NB.size)
  clear NB
  refine KP.mono ?_
  rintro e w3 ⟨v, rfl, v0', v1', hS, hK⟩
  obtain ⟨j, rfl⟩ : ∃ j : Nat, v = (j : Int) := ⟨v.toNat, by omega⟩
  have jl : j < 17 := by omega
  have hc' : w3.cell? ⟨w2.heap.size, j, none⟩ = some (.string (sK txtL j)) := (hK.cell (p := ⟨w2.heap.size, j, none⟩) (HC.out j jl).2 (.inr (show g + 1 ≤ w2.heap.size by have := HL.out; omega))).trans (HC.out j jl).1
  have HTZ : (sK txtL j).size ≤ 7 := (by decide : ∀ j, j < 17 → (sK txtL j).size ≤ 7) j jl
  have HXZ := HSZ.out
  have HJ := Hid.mk' jl
  have HB := Hid.mk' (kept_below HB.out hK HZ.out)
  generalize hY : sK txtL j = Y at *
  have HY := Hid.mk' hY
  have nb : ¬ 9223372036854775807 < X.size + Y.size := by omega
  clear hS hK KP HC hY
  go_wp2
  go_ret
  exact ⟨i, j, HI.out, HJ.out, by rw [HX.out, HY.out]; rfl, by rw [HG.out]; exact HB.out⟩

theorem drawWT_any (a : Option Addr) (c : Nat) (l : List Int) (w : World) (ha : BAt w a l) (hu : ∀ i, i < l.length → 0 ≤ l.getD i 0 ∧ l.getD i 0 ≤ 255) (hl : (l.length : Int) ≤ 1048576) :
    Calls Tryz.prog 16 #[.slice a l.length c] w fun e w' => ∃ (i j : Nat), i < 2 ∧ j < 17 ∧ e = .returned (.string (sK sgnL i ++ sK txtL j)) ∧ Below w.heap.size w w' := by
  have K1 := Hid.mk' (drawMO_any a c l w ha hu hl)
  clear ha hu
  go_enter Tryz.func16, Tryz.ntmps16
  go_wp2_with fail
  refine K1.out.mono ?_
  rintro e w1 ⟨i, j, hi, hj, rfl, hb⟩
  have HI := Hid.mk' hi
  have HJ := Hid.mk' hj
  have HB := Hid.mk' hb
  clear hi hj hb K1
  go_wp2
  go_ret
  exact ⟨i, j, HI.out, HJ.out, rfl, HB.out⟩

end Go.Proofs.YteakocifjmkmjaaGreatDoor
