/- Draws of measures. -/
import Derived.Test.YteakocifjmkmjaaGreatDoorXz
import Derived.Test.YteakocifjmkmjaaGreatDoorMc
import Derived.Deep.RegionHeld3
import Derived.Test.YteakocifjmkmjaaGreatDoorCa
import Derived.Test.YteakocifjmkmjaaGreatDoorBj
import Derived.Test.YteakocifjmkmjaaGreatDoorMd
import Derived.Test.YteakocifjmkmjaaGreatDoorMe
namespace Go.Proofs.YteakocifjmkmjaaGreatDoor
open Go.RowKit
set_option linter.unusedVariables false
set_option linter.unusedSimpArgs false

/-- The sizes that are drawn, and those with a sign. -/
def drawnN : List Nat := [0, 9218868437227405312, 9218868437227405317, wordQ 39999, wordQ 39999 + 1, 1, 4602678819172646912, 4670232813583204352] ++ (List.range 60).map (fun v => wordQ (1 + v))
def Drawn3 (b : Int) : Prop := ∃ (m : Bool) (n : Nat), n ∈ drawnN ∧ b = signBits m n

theorem IAt.below {w w' : World} {g : Nat} {l : List Int} (h : IAt w g l) (hb : Below w.heap.size w w') : IAt w' g l :=
  ⟨Nat.lt_of_lt_of_le h.1 hb.size, fun i hi => (hb.cell h.1).trans (h.2 i hi)⟩

theorem IAt.new (w : World) (cs : Array Value) (t : TypeId) (l : List Int) (hs : cs.size = l.length) (h : ∀ i, i < cs.size → cs[i]? = some (.int .i64 (l.getD i 0))) : IAt (w.alloc (.cells cs t)) w.heap.size l := by
  have R := World.rowIs_alloc w cs t (fun i => .int .i64 (l.getD i 0)) h
  exact ⟨R.lt, fun i hi => R.cell (by omega)⟩

theorem drawn_lt {n : Nat} (h : n ∈ drawnN) : n < 9223372036854775808 := by
  have : ∀ n ∈ drawnN, n < 9223372036854775808 := by decide +kernel
  exact this n h

set_option maxRecDepth 100000 in
set_option maxHeartbeats 1600000 in
theorem l3Draw_any (b k : Nat) (l : List Int) (w : World) (h : Src b l k w) (hk : k ≤ 100000) (hl : (l.length : Int) ≤ 1048576) :
    Calls Tryz.prog 24 #[.pointer (some ⟨b, 0, none⟩)] w fun e w' => ∃ v : Int, e = .returned (.int .i64 v) ∧ Drawn3 v ∧ Src b l (k + 3) w' ∧ KeptIn b (b + 1) w w' := by
  have K1 := Hid.mk' (l1Next_any b k l 60 w h (by omega) (by omega) (by omega) hl)
  have hbl := h.lt
  clear h
  have K2 : Hid (∀ (q : Nat) (W : World), q ≤ 39999 → Calls Tryz.prog 40 #[.int .i64 (q : Int)] W fun e w' => e = .returned (.int .i64 (wordQ q)) ∧ w' = W) := fun q W hq => l3Bits_any q W hq
  go_enter Tryz.func24, Tryz.ntmps24
  go_wp2_with fail
  refine K1.out.mono ?_
  rintro e w1 ⟨v, rfl, v0, v1, hS, hK⟩
  obtain ⟨q, rfl⟩ : ∃ q : Nat, v = (q : Int) := ⟨v.toNat, by omega⟩
  have q60 : q < 60 := by omega
  have HS := Hid.mk' hS
  have HK := Hid.mk' hK
  have e1 : Hid ((1 : Int) + (q : Int) = ((1 + q : Nat) : Int)) := Hid.mk' (by omega)
  have w39 := wordQ_lt 39999 (by omega)
  have wq1 := wordQ_lt (1 + q) (by omega)
  clear K1 hS hK v0 v1
  go_wp2_with fail
  rw [e1.out]
  refine (K2.out (1 + q) _ (by omega)).mono ?_
  rintro e w2 ⟨rfl, hw⟩
  obtain rfl := hw.symm
  go_wp2_with fail
  refine (K2.out 39999 _ (by omega)).mono ?_
  rintro e w2 ⟨rfl, hw⟩
  obtain rfl := hw.symm
  go_wp2_with fail
  refine (K2.out 39999 _ (by omega)).mono ?_
  rintro e w2 ⟨rfl, hw⟩
  obtain rfl := hw.symm
  have hdn : Hid (∀ i, i < 9 → ∃ n : Nat, n ∈ drawnN ∧ ([0, 9218868437227405312, 9218868437227405317, (wordQ (1 + q) : Int), (wordQ 39999 : Int), (wordQ 39999 : Int) + 1, 1, 4602678819172646912, 4670232813583204352] : List Int).getD i 0 = (n : Int)) := Hid.mk' (fun i hi => by
    have hm : wordQ (1 + q) ∈ drawnN := List.mem_append_right _ (List.mem_map.2 ⟨q, List.mem_range.2 q60, rfl⟩)
    have c : i = 0 ∨ i = 1 ∨ i = 2 ∨ i = 3 ∨ i = 4 ∨ i = 5 ∨ i = 6 ∨ i = 7 ∨ i = 8 := by omega
    rcases c with rfl | rfl | rfl | rfl | rfl | rfl | rfl | rfl | rfl
    · exact ⟨0, by simp [drawnN], rfl⟩
    · exact ⟨9218868437227405312, by simp [drawnN], rfl⟩
    · exact ⟨9218868437227405317, by simp [drawnN], rfl⟩
    · exact ⟨_, hm, rfl⟩
    · exact ⟨wordQ 39999, by simp [drawnN], rfl⟩
    · exact ⟨wordQ 39999 + 1, by simp [drawnN], rfl⟩
    · exact ⟨1, by simp [drawnN], rfl⟩
    · exact ⟨4602678819172646912, by simp [drawnN], rfl⟩
    · exact ⟨4670232813583204352, by simp [drawnN], rfl⟩)
  generalize wordQ (1 + q) = A at *
  generalize wordQ 39999 = B at *
  go_wp2_with fail
  have HI := IAt.new w1 #[.int .i64 0, .int .i64 9218868437227405312, .int .i64 9218868437227405317, .int .i64 A, .int .i64 B, .int .i64 ((B : Int) + 1), .int .i64 1, .int .i64 4602678819172646912, .int .i64 4670232813583204352] 2 [0, 9218868437227405312, 9218868437227405317, (A : Int), (B : Int), (B : Int) + 1, 1, 4602678819172646912, 4670232813583204352] rfl (fun i hi => by
    have hi' : i < 9 := hi
    have c : i = 0 ∨ i = 1 ∨ i = 2 ∨ i = 3 ∨ i = 4 ∨ i = 5 ∨ i = 6 ∨ i = 7 ∨ i = 8 := by omega
    rcases c with rfl | rfl | rfl | rfl | rfl | rfl | rfl | rfl | rfl <;> rfl)
  have NB := below_new w1 (.cells #[.int .i64 0, .int .i64 9218868437227405312, .int .i64 9218868437227405317, .int .i64 A, .int .i64 B, .int .i64 ((B : Int) + 1), .int .i64 1, .int .i64 4602678819172646912, .int .i64 4670232813583204352] 2)
  have KP := l1Pick_any b (k + 1) w1.heap.size 9 l [0, 9218868437227405312, 9218868437227405317, (A : Int), (B : Int), (B : Int) + 1, 1, 4602678819172646912, 4670232813583204352] _ (HS.out.below NB) HI (by have := HS.out.lt; omega) (by omega) (by simp) (by simp) hl
  have HK := Hid.mk' (HK.out.trans (KeptIn.of_below NB))
  clear HI NB
  refine KP.mono ?_
  rintro e w2 ⟨i, hi, rfl, hS, hK⟩
  obtain ⟨n, hn, en⟩ := hdn.out i hi
  rw [en]
  have HS := Hid.mk' hS
  have HK := Hid.mk' (HK.out.trans hK)
  have HN := Hid.mk' hn
  have nl := drawn_lt hn
  clear hS hK KP hdn hn en hi
  go_wp2_with fail
  refine (l1Chance_any b (k + 1 + 1) l 2 w2 HS.out (by omega) (by omega) (by omega) hl).mono ?_
  rintro e w3 ⟨m, rfl, hS, hK⟩
  have HS := Hid.mk' hS
  have HK := Hid.mk' (HK.out.trans hK)
  clear hS hK
  go_wp2_with fail
  refine (l3Sign_any m n w3 nl).mono ?_
  rintro e w4 ⟨rfl, hw⟩
  obtain rfl := hw.symm
  go_wp2
  go_ret
  exact ⟨_, rfl, ⟨m, n, HN.out, rfl⟩, HS.out, HK.out⟩

theorem kept_below {b : Nat} {w w1 w2 : World} (hb : Below b w w1) (hk : KeptIn b (b + 1) w1 w2) (hs : b ≤ w1.heap.size) : Below b w w2 :=
  ⟨hk.os.trans hb.os, hk.tape.trans hb.tape, hk.output.trans hb.output, Nat.le_trans hb.size hk.size, fun k hk' => (hk.block k (by omega) (.inl hk')).trans (hb.block k hk')⟩

theorem drawMT_any (a : Option Addr) (c : Nat) (l : List Int) (w : World) (ha : BAt w a l) (hu : ∀ i, i < l.length → 0 ≤ l.getD i 0 ∧ l.getD i 0 ≤ 255) (hl : (l.length : Int) ≤ 1048576) :
    Calls Tryz.prog 6 #[.slice a l.length c] w fun e w' => ∃ v : Int, e = .returned (.int .i64 v) ∧ Drawn3 v ∧ Below w.heap.size w w' := by
  have K1 := Hid.mk' (l1Source_any a c l w ha hu)
  clear ha hu
  go_enter Tryz.func6, Tryz.ntmps6
  go_wp2_with fail
  refine K1.out.mono ?_
  rintro e w1 ⟨rfl, hS, hb⟩
  have HS := Hid.mk' hS
  have HB := Hid.mk' hb
  clear hS hb K1
  go_wp2_with fail
  refine (l3Draw_any _ 0 l w1 HS.out (by omega) hl).mono ?_
  rintro e w2 ⟨v, rfl, hv, hS, hK⟩
  have HV := Hid.mk' hv
  have HB := Hid.mk' (kept_below HB.out hK HB.out.size)
  clear hv hS hK
  go_wp2
  go_ret
  exact ⟨v, rfl, HV.out, HB.out⟩

theorem drawMP_any (a : Option Addr) (c : Nat) (l : List Int) (w : World) (ha : BAt w a l) (hu : ∀ i, i < l.length → 0 ≤ l.getD i 0 ∧ l.getD i 0 ≤ 255) (hl : (l.length : Int) ≤ 1048576) :
    Calls Tryz.prog 8 #[.slice a l.length c] w fun e w' => ∃ v : Int, e = .returned (.int .i64 v) ∧ Drawn3 v ∧ Below w.heap.size w w' := by
  have K1 := Hid.mk' (l1Source_any a c l w ha hu)
  clear ha hu
  go_enter Tryz.func8, Tryz.ntmps8
  go_wp2_with fail
  refine K1.out.mono ?_
  rintro e w1 ⟨rfl, hS, hb⟩
  have HS := Hid.mk' hS
  have HB := Hid.mk' hb
  clear hS hb K1
  go_wp2_with fail
  refine (l3Draw_any _ 0 l w1 HS.out (by omega) hl).mono ?_
  rintro e w2 ⟨v, rfl, hv, hS, hK⟩
  have HV := Hid.mk' hv
  have HB := Hid.mk' (kept_below HB.out hK HB.out.size)
  clear hv hS hK
  go_wp2
  go_ret
  exact ⟨v, rfl, HV.out, HB.out⟩

theorem drawIW_any (a : Option Addr) (c : Nat) (l : List Int) (w : World) (ha : BAt w a l) (hu : ∀ i, i < l.length → 0 ≤ l.getD i 0 ∧ l.getD i 0 ≤ 255) (hl : (l.length : Int) ≤ 1048576) :
    Calls Tryz.prog 19 #[.slice a l.length c] w fun e w' => ∃ v : Int, e = .returned (.int .i64 v) ∧ Drawn3 v ∧ Below w.heap.size w w' := by
  have K1 := Hid.mk' (l1Source_any a c l w ha hu)
  clear ha hu
  go_enter Tryz.func19, Tryz.ntmps19
  go_wp2_with fail
  refine K1.out.mono ?_
  rintro e w1 ⟨rfl, hS, hb⟩
  have HS := Hid.mk' hS
  have HB := Hid.mk' hb
  clear hS hb K1
  go_wp2_with fail
  refine (l3Draw_any _ 0 l w1 HS.out (by omega) hl).mono ?_
  rintro e w2 ⟨v, rfl, hv, hS, hK⟩
  have HV := Hid.mk' hv
  have HB := Hid.mk' (kept_below HB.out hK HB.out.size)
  clear hv hS hK
  go_wp2
  go_ret
  exact ⟨v, rfl, HV.out, HB.out⟩

def drawnX : List Int := [0, 1, 9999, 10000, 37]
def drawnY : List Int := [0, 1, 2, 3, 4, -1]

set_option maxRecDepth 100000 in
set_option maxHeartbeats 1600000 in
theorem drawBO_any (a : Option Addr) (c : Nat) (l : List Int) (w : World) (ha : BAt w a l) (hu : ∀ i, i < l.length → 0 ≤ l.getD i 0 ∧ l.getD i 0 ≤ 255) (hl : (l.length : Int) ≤ 1048576) :
    Calls Tryz.prog 10 #[.slice a l.length c] w fun e w' => ∃ (m : Bool) (x y : Int), e = .returned (.tuple #[.bool m, .int .i64 x, .int .i64 y]) ∧ x ∈ drawnX ∧ y ∈ drawnY ∧ Below w.heap.size w w' := by
  have K1 := Hid.mk' (l1Source_any a c l w ha hu)
  clear ha hu
  go_enter Tryz.func10, Tryz.ntmps10
  go_wp2_with fail
  refine K1.out.mono ?_
  rintro e w1 ⟨rfl, hS, hb⟩
  have HS := Hid.mk' hS
  have HB := Hid.mk' hb
  have HZ := Hid.mk' hb.size
  obtain ⟨g, hg⟩ : ∃ g, w.heap.size = g := ⟨_, rfl⟩
  rw [hg] at HS HB HZ ⊢
  have HG := Hid.mk' hg
  clear hS hb K1 hg
  go_wp2_with fail
  refine (l1Chance_any _ 0 l 2 w1 HS.out (by omega) (by omega) (by omega) hl).mono ?_
  rintro e w2 ⟨m, rfl, hS, hK⟩
  have HS := Hid.mk' hS
  have HB := Hid.mk' (kept_below HB.out hK HZ.out)
  have HZ := Hid.mk' (Nat.le_trans HZ.out hK.size)
  clear hS hK
  go_wp2_with fail
  have HI := IAt.new w2 #[.int .i64 0, .int .i64 1, .int .i64 9999, .int .i64 10000, .int .i64 37] 2 [0, 1, 9999, 10000, 37] rfl (fun i hi => by
    have hi' : i < 5 := hi
    have c : i = 0 ∨ i = 1 ∨ i = 2 ∨ i = 3 ∨ i = 4 := by omega
    rcases c with rfl | rfl | rfl | rfl | rfl <;> rfl)
  have NB := below_new w2 (.cells #[.int .i64 0, .int .i64 1, .int .i64 9999, .int .i64 10000, .int .i64 37] 2)
  have KP := l1Pick_any g 1 w2.heap.size 5 l [0, 1, 9999, 10000, 37] _ (HS.out.below NB) HI (by have := HS.out.lt; omega) (by omega) (by simp) (by simp) hl
  have HB := Hid.mk' (HB.out.trans (NB.mono HZ.out))
  have HZ := Hid.mk' (Nat.le_trans HZ.out NB.size)
  clear HI NB
  refine KP.mono ?_
  rintro e w3 ⟨i, hi, rfl, hS, hK⟩
  have HX : Hid ((([0, 1, 9999, 10000, 37] : List Int).getD i 0) ∈ drawnX) := Hid.mk' (by
    rw [List.getD_eq_getElem?_getD, List.getElem?_eq_getElem hi]; exact List.getElem_mem hi)
  generalize ([0, 1, 9999, 10000, 37] : List Int).getD i 0 = x at *
  have HS := Hid.mk' hS
  have HB := Hid.mk' (kept_below HB.out hK HZ.out)
  have HZ := Hid.mk' (Nat.le_trans HZ.out hK.size)
  clear hS hK hi KP
  go_wp2_with fail
  have HI := IAt.new w3 #[.int .i64 0, .int .i64 1, .int .i64 2, .int .i64 3, .int .i64 4, .int .i64 (-1)] 2 [0, 1, 2, 3, 4, -1] rfl (fun i hi => by
    have hi' : i < 6 := hi
    have c : i = 0 ∨ i = 1 ∨ i = 2 ∨ i = 3 ∨ i = 4 ∨ i = 5 := by omega
    rcases c with rfl | rfl | rfl | rfl | rfl | rfl <;> rfl)
  have NB := below_new w3 (.cells #[.int .i64 0, .int .i64 1, .int .i64 2, .int .i64 3, .int .i64 4, .int .i64 (-1)] 2)
  have KP := l1Pick_any g 2 w3.heap.size 6 l [0, 1, 2, 3, 4, -1] _ (HS.out.below NB) HI (by have := HS.out.lt; omega) (by omega) (by simp) (by simp) hl
  have HB := Hid.mk' (HB.out.trans (NB.mono HZ.out))
  have HZ := Hid.mk' (Nat.le_trans HZ.out NB.size)
  clear HI NB
  refine KP.mono ?_
  rintro e w4 ⟨j, hj, rfl, hS, hK⟩
  have HY : Hid ((([0, 1, 2, 3, 4, -1] : List Int).getD j 0) ∈ drawnY) := Hid.mk' (by
    rw [List.getD_eq_getElem?_getD, List.getElem?_eq_getElem hj]; exact List.getElem_mem hj)
  generalize ([0, 1, 2, 3, 4, -1] : List Int).getD j 0 = y at *
  have HB := Hid.mk' (kept_below HB.out hK HZ.out)
  clear hS hK hj KP
  go_wp2
  refine bodyPost_ret (v := .tuple #[.bool m, .int .i64 x, .int .i64 y]) (by simp [results, Tryz.results10, go_sem]) rfl ?_
  exact ⟨m, x, y, rfl, HX.out, HY.out, by rw [HG.out]; exact HB.out⟩

end Go.Proofs.YteakocifjmkmjaaGreatDoor

/- Draws of texts of measures. -/
namespace Go.Proofs.YteakocifjmkmjaaGreatDoor
open Go.RowKit
set_option linter.unusedVariables false
set_option linter.unusedSimpArgs false

def sgnL : List ByteArray := [⟨#[]⟩, ⟨#[45]⟩]
def txtL : List ByteArray := [⟨#[110, 97, 110]⟩, ⟨#[105, 110, 102]⟩, ⟨#[48]⟩, ⟨#[49, 46, 53]⟩, ⟨#[49, 50, 46, 50, 53]⟩, ⟨#[57, 57, 57, 57, 46, 55, 53]⟩, ⟨#[49, 48, 48, 48, 48]⟩, ⟨#[49, 46, 53, 48]⟩, ⟨#[49, 46, 53, 48, 48]⟩, ⟨#[49, 46, 50]⟩, ⟨#[48, 48, 55]⟩, ⟨#[46, 53]⟩, ⟨#[49, 46]⟩, ⟨#[120]⟩, ⟨#[]⟩, ⟨#[48, 46, 55, 53, 48]⟩, ⟨#[49, 46, 53, 46, 53]⟩]

theorem strs_new (w : World) (cs : Array Value) (l : List ByteArray) (hs : cs.size = l.length) (h : ∀ i, i < cs.size → cs[i]? = some (sv l i)) {i : Nat} (hi : i < l.length) : (w.alloc (.cells cs 9)).cell? ⟨w.heap.size, i, none⟩ = some (.string (sK l i)) ∧ w.heap.size < (w.alloc (.cells cs 9)).heap.size := by
  have R := World.rowIs_alloc w cs 9 (sv l) h
  exact ⟨R.cell (by omega), R.lt⟩

set_option maxRecDepth 100000 in
set_option maxHeartbeats 1600000 in
theorem drawMO_any (a : Option Addr) (c : Nat) (l : List Int) (w : World) (ha : BAt w a l) (hu : ∀ i, i < l.length → 0 ≤ l.getD i 0 ∧ l.getD i 0 ≤ 255) (hl : (l.length : Int) ≤ 1048576) :
    Calls Tryz.prog 18 #[.slice a l.length c] w fun e w' => ∃ (i j : Nat), i < 2 ∧ j < 17 ∧ e = .returned (.string (sK sgnL i ++ sK txtL j)) ∧ Below w.heap.size w w' := by
  have K1 := Hid.mk' (l1Source_any a c l w ha hu)
  clear ha hu
  go_enter Tryz.func18, Tryz.ntmps18
  go_wp2_with fail
  refine K1.out.mono ?_
  rintro e w1 ⟨rfl, hS, hb⟩
  have HS := Hid.mk' hS
  have HB := Hid.mk' hb
  have HZ := Hid.mk' hb.size
  obtain ⟨g, hg⟩ : ∃ g, w.heap.size = g := ⟨_, rfl⟩
  rw [hg] at HS HB HZ ⊢
  have HG := Hid.mk' hg
  clear hS hb K1 hg
  go_wp2_with fail
  have NB := below_new w1 (.cells #[.string ⟨#[]⟩, .string ⟨#[45]⟩] 9)
  have HC := Hid.mk' (fun (i : Nat) (hi : i < 2) => strs_new w1 #[.string ⟨#[]⟩, .string ⟨#[45]⟩] sgnL rfl (fun i hi => by
    have hi' : i < 2 := hi
    have c : i = 0 ∨ i = 1 := by omega
    rcases c with rfl | rfl <;> rfl) (i := i) hi)
  have KP := l1Next_any g 0 l 2 _ (HS.out.below NB) (by omega) (by omega) (by omega) hl
  have HB := Hid.mk' (HB.out.trans (NB.mono HZ.out))
  have HL := Hid.mk' HS.out.lt
  have HZ := Hid.mk' (Nat.le_trans HZ.out NB.size)
  clear NB
  refine KP.mono ?_
  rintro e w2 ⟨v, rfl, v0, v1, hS, hK⟩
  obtain ⟨i, rfl⟩ : ∃ i : Nat, v = (i : Int) := ⟨v.toNat, by omega⟩
  have il : i < 2 := by omega
  have hc : w2.cell? ⟨w1.heap.size, i, none⟩ = some (.string (sK sgnL i)) := (hK.cell (p := ⟨w1.heap.size, i, none⟩) (HC.out i il).2 (.inr (show g + 1 ≤ w1.heap.size by have := HL.out; omega))).trans (HC.out i il).1
  have HSZ : Hid ((sK sgnL i).size ≤ 1) := Hid.mk' (by
    have c : i = 0 ∨ i = 1 := by omega
    rcases c with rfl | rfl <;> decide)
  have HI := Hid.mk' il
  have HS := Hid.mk' hS
  have HB := Hid.mk' (kept_below HB.out hK HZ.out)
  have HZ := Hid.mk' (Nat.le_trans HZ.out hK.size)
  generalize hX : sK sgnL i = X at *
  have HX := Hid.mk' hX
  clear hS hK KP HC hX
  go_wp2_with fail
  have NB := below_new w2 (.cells #[.string ⟨#[110, 97, 110]⟩, .string ⟨#[105, 110, 102]⟩, .string ⟨#[48]⟩, .string ⟨#[49, 46, 53]⟩, .string ⟨#[49, 50, 46, 50, 53]⟩, .string ⟨#[57, 57, 57, 57, 46, 55, 53]⟩, .string ⟨#[49, 48, 48, 48, 48]⟩, .string ⟨#[49, 46, 53, 48]⟩, .string ⟨#[49, 46, 53, 48, 48]⟩, .string ⟨#[49, 46, 50]⟩, .string ⟨#[48, 48, 55]⟩, .string ⟨#[46, 53]⟩, .string ⟨#[49, 46]⟩, .string ⟨#[120]⟩, .string ⟨#[]⟩, .string ⟨#[48, 46, 55, 53, 48]⟩, .string ⟨#[49, 46, 53, 46, 53]⟩] 9)
  have HC := Hid.mk' (fun (j : Nat) (hj : j < 17) => strs_new w2 #[.string ⟨#[110, 97, 110]⟩, .string ⟨#[105, 110, 102]⟩, .string ⟨#[48]⟩, .string ⟨#[49, 46, 53]⟩, .string ⟨#[49, 50, 46, 50, 53]⟩, .string ⟨#[57, 57, 57, 57, 46, 55, 53]⟩, .string ⟨#[49, 48, 48, 48, 48]⟩, .string ⟨#[49, 46, 53, 48]⟩, .string ⟨#[49, 46, 53, 48, 48]⟩, .string ⟨#[49, 46, 50]⟩, .string ⟨#[48, 48, 55]⟩, .string ⟨#[46, 53]⟩, .string ⟨#[49, 46]⟩, .string ⟨#[120]⟩, .string ⟨#[]⟩, .string ⟨#[48, 46, 55, 53, 48]⟩, .string ⟨#[49, 46, 53, 46, 53]⟩] txtL rfl (fun j hj => by
    have hj' : j < 17 := hj
    have c : j = 0 ∨ j = 1 ∨ j = 2 ∨ j = 3 ∨ j = 4 ∨ j = 5 ∨ j = 6 ∨ j = 7 ∨ j = 8 ∨ j = 9 ∨ j = 10 ∨ j = 11 ∨ j = 12 ∨ j = 13 ∨ j = 14 ∨ j = 15 ∨ j = 16 := by omega
    rcases c with rfl | rfl | rfl | rfl | rfl | rfl | rfl | rfl | rfl | rfl | rfl | rfl | rfl | rfl | rfl | rfl | rfl <;> rfl) (i := j) hj)
  have KP := l1Next_any g 1 l 17 _ (HS.out.below NB) (by omega) (by omega) (by omega) hl
  have HB := Hid.mk' (HB.out.trans (NB.mono HZ.out))
  have HL := Hid.mk' HS.out.lt
  have HZ := Hid.mk' (Nat.le_trans HZ.out NB.size)
  clear NB
  refine KP.mono ?_
  rintro e w3 ⟨v, rfl, v0', v1', hS, hK⟩
  obtain ⟨j, rfl⟩ : ∃ j : Nat, v = (j : Int) := ⟨v.toNat, by omega⟩
  have jl : j < 17 := by omega
  have hc' : w3.cell? ⟨w2.heap.size, j, none⟩ = some (.string (sK txtL j)) := (hK.cell (p := ⟨w2.heap.size, j, none⟩) (HC.out j jl).2 (.inr (show g + 1 ≤ w2.heap.size by have := HL.out; omega))).trans (HC.out j jl).1
  have HTZ : (sK txtL j).size ≤ 7 := (by decide : ∀ j, j < 17 → (sK txtL j).size ≤ 7) j jl
  have HXZ := HSZ.out
  have HJ := Hid.mk' jl
  have HB := Hid.mk' (kept_below HB.out hK HZ.out)
  generalize hY : sK txtL j = Y at *
  have HY := Hid.mk' hY
  have nb : ¬ 9223372036854775807 < X.size + Y.size := by omega
  clear hS hK KP HC hY
  go_wp2
  go_ret
  exact ⟨i, j, HI.out, HJ.out, by rw [HX.out, HY.out]; rfl, by rw [HG.out]; exact HB.out⟩

theorem drawWT_any (a : Option Addr) (c : Nat) (l : List Int) (w : World) (ha : BAt w a l) (hu : ∀ i, i < l.length → 0 ≤ l.getD i 0 ∧ l.getD i 0 ≤ 255) (hl : (l.length : Int) ≤ 1048576) :
    Calls Tryz.prog 16 #[.slice a l.length c] w fun e w' => ∃ (i j : Nat), i < 2 ∧ j < 17 ∧ e = .returned (.string (sK sgnL i ++ sK txtL j)) ∧ Below w.heap.size w w' := by
  have K1 := Hid.mk' (drawMO_any a c l w ha hu hl)
  clear ha hu
  go_enter Tryz.func16, Tryz.ntmps16
  go_wp2_with fail
  refine K1.out.mono ?_
  rintro e w1 ⟨i, j, hi, hj, rfl, hb⟩
  have HI := Hid.mk' hi
  have HJ := Hid.mk' hj
  have HB := Hid.mk' hb
  clear hi hj hb K1
  go_wp2
  go_ret
  exact ⟨i, j, HI.out, HJ.out, rfl, HB.out⟩

end Go.Proofs.YteakocifjmkmjaaGreatDoor

/- Measures that are drawn: what the kernel tells of each. -/
namespace Go.Proofs.YteakocifjmkmjaaGreatDoor
open Go.RowKit
set_option linter.unusedVariables false
set_option linter.unusedSimpArgs false

/-- The same, as the kernel can reckon it. -/
def moBk (s : ByteArray) : Bool := (s.data.toList == [110, 97, 110]) || ((restT s).data.toList == [105, 110, 102]) || okR (restT s)
def moVk (s : ByteArray) : Int := if (s.data.toList == [110, 97, 110]) = true then 9221120237041090560 else if ((restT s).data.toList == [105, 110, 102]) = true then signBits (minusB s) 9218868437227405312 else if okR (restT s) = true then signBits (minusB s) (wordQ (qR (restT s))) else 0
theorem moBk_is (s : ByteArray) : moB s = moBk s := by unfold moB moBk nanB infB; rw [ByteArray.toList_eq, ByteArray.toList_eq]
theorem moVk_is (s : ByteArray) : moV s = moVk s := by unfold moV moVk nanB infB; rw [ByteArray.toList_eq, ByteArray.toList_eq]
def wtCk (s : ByteArray) : Int := if moBk s = true then (if width (moVk s) = true then 0 else 3) else 5
def wtTk (s : ByteArray) : ByteArray := if moBk s = true then (if width (moVk s) = true then mtT (rung (moVk s) : Int) else ⟨#[]⟩) else ⟨#[]⟩
theorem wtCk_is (s : ByteArray) : wtC s = wtCk s := by unfold wtC wtCk; rw [moBk_is, moVk_is]
theorem wtTk_is (s : ByteArray) : wtT s = wtTk s := by unfold wtT wtTk; rw [moBk_is, moVk_is]

/-- What is asked of a drawn measure. -/
def chkM (b : Int) : Bool :=
  (!decide (partsC b = 0) || (decide (bitsV (partsM b) (partsW b) (partsQ b) = b) && decide (bitsC (partsW b) (partsQ b) = 0))) &&
  (!decide (mtC b = 0) || (moBk (mtT b) && (decide (moVk (mtT b) = b) || ((mtT b).data.toList == [110, 97, 110])) && decide ((mtT (moVk (mtT b))).data.toList = (mtT b).data.toList) && decide ((mtT b).size ≤ 100)))

set_option maxRecDepth 100000 in
theorem chkM_all : (drawnN.all fun n => chkM (signBits true n) && chkM (signBits false n)) = true := by decide +kernel

theorem chkM_of {b : Int} (h : Drawn3 b) : chkM b = true := by
  obtain ⟨m, n, hn, rfl⟩ := h
  have := List.all_eq_true.1 chkM_all n hn
  rw [Bool.and_eq_true] at this
  cases m
  · exact this.2
  · exact this.1

theorem drawn_bd {b : Int} (h : Drawn3 b) : -9223372036854775808 ≤ b ∧ b ≤ 9223372036854775807 := by
  obtain ⟨m, n, hn, rfl⟩ := h
  have := drawn_lt hn
  unfold signBits
  split <;> omega

theorem ba_same {x y : ByteArray} (h : x.data.toList = y.data.toList) : x = y := by
  cases x; cases y
  simp at h
  rw [h]

theorem parts_back {b : Int} (h : Drawn3 b) (hc : partsC b = 0) : bitsV (partsM b) (partsW b) (partsQ b) = b := by
  have := chkM_of h
  unfold chkM at this
  rw [decide_eq_true hc] at this
  simp only [Bool.not_true, Bool.false_or, Bool.and_eq_true, decide_eq_true_eq] at this
  exact this.1.1

theorem text_back {b : Int} (h : Drawn3 b) (hc : mtC b = 0) : moB (mtT b) = true ∧ (moV (mtT b) = b ∨ ((mtT b).toList == [110, 97, 110]) = true) ∧ mtT (moV (mtT b)) = mtT b ∧ (mtT b).size ≤ 100 := by
  have := chkM_of h
  unfold chkM at this
  rw [decide_eq_true hc] at this
  simp only [Bool.not_true, Bool.false_or, Bool.and_eq_true, Bool.or_eq_true, decide_eq_true_eq] at this
  obtain ⟨_, ⟨⟨⟨a1, a2⟩, a3⟩, a4⟩⟩ := this
  rw [moBk_is, moVk_is, ByteArray.toList_eq]
  exact ⟨a1, a2, ba_same a3, a4⟩

/-- What is asked of drawn parts. -/
def chkB (m : Bool) (x y : Int) : Bool := !decide (bitsC x y = 0) || (decide (partsM (bitsV m x y) = m) && decide (partsW (bitsV m x y) = x) && decide (partsQ (bitsV m x y) = y))
theorem chkB_all : (drawnX.all fun x => drawnY.all fun y => chkB true x y && chkB false x y) = true := by decide +kernel
theorem bits_back {m : Bool} {x y : Int} (hx : x ∈ drawnX) (hy : y ∈ drawnY) (hc : bitsC x y = 0) : partsM (bitsV m x y) = m ∧ partsW (bitsV m x y) = x ∧ partsQ (bitsV m x y) = y := by
  have := List.all_eq_true.1 (List.all_eq_true.1 chkB_all x hx) y hy
  rw [Bool.and_eq_true] at this
  have k : chkB m x y = true := by cases m; exact this.2; exact this.1
  unfold chkB at k
  rw [decide_eq_true hc] at k
  simp only [Bool.not_true, Bool.false_or, Bool.and_eq_true, decide_eq_true_eq] at k
  exact ⟨k.1.1, k.1.2, k.2⟩
theorem bits_bd {m : Bool} {x y : Int} (hx : x ∈ drawnX) (hy : y ∈ drawnY) : -9223372036854775808 ≤ bitsV m x y ∧ bitsV m x y ≤ 9223372036854775807 := by
  have : ∀ m : Bool, ∀ x ∈ drawnX, ∀ y ∈ drawnY, -9223372036854775808 ≤ bitsV m x y ∧ bitsV m x y ≤ 9223372036854775807 := by decide +kernel
  exact this m x hx y hy

/-- What is asked of a drawn width. -/
def chkW (t : ByteArray) : Bool := !decide (wtCk t = 0) || (decide ((wtTk (wtTk t)).data.toList = (wtTk t).data.toList) && moBk (wtTk t) && width (moVk (wtTk t)) && !((wtTk t).data.toList == [110, 97, 110]) && !((wtTk t).data.toList == [105, 110, 102]) && decide (1 ≤ (wtTk t).size) && decide (byS (wtTk t) 0 ≠ 45) && decide ((wtTk t).size ≤ 100))
theorem chkW_all : ∀ i, i < 2 → ∀ j, j < 17 → chkW (sK sgnL i ++ sK txtL j) = true := by decide +kernel
theorem txt_size : ∀ i, i < 2 → ∀ j, j < 17 → (sK sgnL i ++ sK txtL j).size ≤ 100 := by decide +kernel

theorem width_back {i j : Nat} (hi : i < 2) (hj : j < 17) {t : ByteArray} (ht : t = sK sgnL i ++ sK txtL j) (hc : wtC t = 0) :
    wtT (wtT t) = wtT t ∧ moB (wtT t) = true ∧ width (moV (wtT t)) = true ∧ ((wtT t).toList == [110, 97, 110]) = false ∧ ((wtT t).toList == [105, 110, 102]) = false ∧ 1 ≤ (wtT t).size ∧ byS (wtT t) 0 ≠ 45 ∧ (wtT t).size ≤ 100 := by
  subst ht
  have := chkW_all i hi j hj
  generalize sK sgnL i ++ sK txtL j = t at *
  unfold chkW at this
  rw [wtCk_is] at hc
  rw [decide_eq_true hc] at this
  simp only [Bool.not_true, Bool.false_or, Bool.and_eq_true, decide_eq_true_eq, Bool.not_eq_true'] at this
  obtain ⟨⟨⟨⟨⟨⟨⟨a1, a2⟩, a3⟩, a4⟩, a5⟩, a6⟩, a7⟩, a8⟩ := this
  rw [ByteArray.toList_eq, wtTk_is t, wtTk_is (wtTk t), moBk_is, moVk_is]
  exact ⟨ba_same a1, a2, a3, a4, a5, a6, a7, a8⟩

end Go.Proofs.YteakocifjmkmjaaGreatDoor
