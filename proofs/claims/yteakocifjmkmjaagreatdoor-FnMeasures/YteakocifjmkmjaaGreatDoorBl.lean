/- Draws of measures. -/
import Derived.Test.YteakocifjmkmjaaGreatDoorXz
import Derived.Test.YteakocifjmkmjaaGreatDoorMc
import Derived.Deep.RegionHeld3
namespace Go.Proofs.YteakocifjmkmjaaGreatDoor
open Go.RowKit
set_option linter.unusedVariables false
set_option linter.unusedSimpArgs false

/-- The sizes that are drawn, and those with a sign. -/
def drawnN : List Nat := [0, 9218868437227405312, 9218868437227405317, wordQ 39999, wordQ 39999 + 1, 1, 4602678819172646912, 4670232813583204352] ++ (List.range 60).map (fun v => wordQ (1 + v))
def Drawn3 (b : Int) : Prop := ∃ (m : Bool) (n : Nat), n ∈ drawnN ∧ b = signBits m n

theorem IAt.below {w w' : World} {g : Nat} {l : List Int} (h : IAt w g l) (hb : Below w.heap.size w w') : IAt w' g l :=
  ⟨Nat.lt_of_lt_of_le h.1 hb.size, fun i hi => (hb.cell h.1).trans (h.2 i hi)⟩

theorem IAt.new (w : World) (cs : Array Value) (t : TypeId) (l : List Int) (hs : cs.size = l.length) (h : ∀ i, i < cs.size → cs[i]? = some (.int .i64 (l.getD i 0))) : IAt (w.alloc (.cells cs t)) w.heap.size l := by
  have R := World.rowIs_alloc w cs t (fun i => .int .i64 (l.getD i 0)) h
  exact ⟨R.lt, fun i hi => R.cell (by omega)⟩

theorem drawn_lt {n : Nat} (h : n ∈ drawnN) : n < 9223372036854775808 := by
  have : ∀ n ∈ drawnN, n < 9223372036854775808 := by decide +kernel
  exact this n h

set_option maxRecDepth 100000 in
set_option maxHeartbeats 1600000 in
theorem l3Draw_any (b k : Nat) (l : List Int) (w : World) (h : Src b l k w) (hk : k ≤ 100000) (hl : (l.length : Int) ≤ 1048576) :
    Calls Tryz.prog 24 #[.pointer (some ⟨b, 0, none⟩)] w fun e w' => ∃ v : Int, e = .returned (.int .i64 v) ∧ Drawn3 v ∧ Src b l (k + 3) w' ∧ KeptIn b (b + 1) w w' := by
  have K1 := Hid.mk' (l1Next_any b k l 60 w h (by omega) (by omega) (by omega) hl)
  have hbl := h.lt
  clear h
  have K2 : Hid (∀ (q : Nat) (W : World), q ≤ 39999 → Calls Tryz.prog 40 #[.int .i64 (q : Int)] W fun e w' => e = .returned (.int .i64 (wordQ q)) ∧ w' = W) := fun q W hq => l3Bits_any q W hq
  go_enter Tryz.func24, Tryz.ntmps24
  go_wp2_with fail
  refine K1.out.mono ?_
  rintro e w1 ⟨v, rfl, v0, v1, hS, hK⟩
  obtain ⟨q, rfl⟩ : ∃ q : Nat, v = (q : Int) := ⟨v.toNat, by omega⟩
  have q60 : q < 60 := by omega
  have HS := Hid.mk' hS
  have HK := Hid.mk' hK
  have e1 : Hid ((1 : Int) + (q : Int) = ((1 + q : Nat) : Int)) := Hid.mk' (by omega)
  have w39 := wordQ_lt 39999 (by omega)
  have wq1 := wordQ_lt (1 + q) (by omega)
  clear K1 hS hK v0 v1
  go_wp2_with fail
  rw [e1.out]
  refine (K2.out (1 + q) _ (by omega)).mono ?_
  rintro e w2 ⟨rfl, hw⟩
  obtain rfl := hw.symm
  go_wp2_with fail
  refine (K2.out 39999 _ (by omega)).mono ?_
  rintro e w2 ⟨rfl, hw⟩
  obtain rfl := hw.symm
  go_wp2_with fail
  refine (K2.out 39999 _ (by omega)).mono ?_
  rintro e w2 ⟨rfl, hw⟩
  obtain rfl := hw.symm
  have hdn : Hid (∀ i, i < 9 → ∃ n : Nat, n ∈ drawnN ∧ ([0, 9218868437227405312, 9218868437227405317, (wordQ (1 + q) : Int), (wordQ 39999 : Int), (wordQ 39999 : Int) + 1, 1, 4602678819172646912, 4670232813583204352] : List Int).getD i 0 = (n : Int)) := Hid.mk' (fun i hi => by
    have hm : wordQ (1 + q) ∈ drawnN := List.mem_append_right _ (List.mem_map.2 ⟨q, List.mem_range.2 q60, rfl⟩)
    have c : i = 0 ∨ i = 1 ∨ i = 2 ∨ i = 3 ∨ i = 4 ∨ i = 5 ∨ i = 6 ∨ i = 7 ∨ i = 8 := by omega
    rcases c with rfl | rfl | rfl | rfl | rfl | rfl | rfl | rfl | rfl
    · exact ⟨0, by simp [drawnN], rfl⟩
    · exact ⟨9218868437227405312, by simp [drawnN], rfl⟩
    · exact ⟨9218868437227405317, by simp [drawnN], rfl⟩
    · exact ⟨_, hm, rfl⟩
    · exact ⟨wordQ 39999, by simp [drawnN], rfl⟩
    · exact ⟨wordQ 39999 + 1, by simp [drawnN], rfl⟩
    · exact ⟨1, by simp [drawnN], rfl⟩
    · exact ⟨4602678819172646912, by simp [drawnN], rfl⟩
    · exact ⟨4670232813583204352, by simp [drawnN], rfl⟩)
  generalize wordQ (1 + q) = A at *
  generalize wordQ 39999 = B at *
  go_wp2_with fail
  have HI := IAt.new w1 #[.int .i64 0, .int .i64 9218868437227405312, .int .i64 9218868437227405317, .int .i64 A, .int .i64 B, .int .i64 ((B : Int) + 1), .int .i64 1, .int .i64 4602678819172646912, .int .i64 4670232813583204352] 2 [0, 9218868437227405312, 9218868437227405317, (A : Int), (B : Int), (B : Int) + 1, 1, 4602678819172646912, 4670232813583204352] rfl (fun i hi => by
    have hi' : i < 9 := hi
    have c : i = 0 ∨ i = 1 ∨ i = 2 ∨ i = 3 ∨ i = 4 ∨ i = 5 ∨ i = 6 ∨ i = 7 ∨ i = 8 := by omega
    rcases c with rfl | rfl | rfl | rfl | rfl | rfl | rfl | rfl | rfl <;> rfl)
  have NB := below_new w1 (.cells #[.int .i64 0, .int .i64 9218868437227405312, .int .i64 9218868437227405317, .int .i64 A, .int .i64 B, .int .i64 ((B : Int) + 1), .int .i64 1, .int .i64 4602678819172646912, .int .i64 4670232813583204352] 2)
  have KP := l1Pick_any b (k + 1) w1.heap.size 9 l [0, 9218868437227405312, 9218868437227405317, (A : Int), (B : Int), (B : Int) + 1, 1, 4602678819172646912, 4670232813583204352] _ (HS.out.below NB) HI (by have := HS.out.lt; omega) (by omega) (by simp) (by simp) hl
  have HK := Hid.mk' (HK.out.trans (KeptIn.of_below NB))
  clear HI NB
  refine KP.mono ?_
  rintro e w2 ⟨i, hi, rfl, hS, hK⟩
  obtain ⟨n, hn, en⟩ := hdn.out i hi
  rw [en]
  have HS := Hid.mk' hS
  have HK := Hid.mk' (HK.out.trans hK)
  have HN := Hid.mk' hn
  have nl := drawn_lt hn
  clear hS hK KP hdn hn en hi
  go_wp2_with fail
  refine (l1Chance_any b (k + 1 + 1) l 2 w2 HS.out (by omega) (by omega) (by omega) hl).mono ?_
  rintro e w3 ⟨m, rfl, hS, hK⟩
  have HS := Hid.mk' hS
  have HK := Hid.mk' (HK.out.trans hK)
  clear hS hK
  go_wp2_with fail
  refine (l3Sign_any m n w3 nl).mono ?_
  rintro e w4 ⟨rfl, hw⟩
  obtain rfl := hw.symm
  go_wp2
  go_ret
  exact ⟨_, rfl, ⟨m, n, HN.out, rfl⟩, HS.out, HK.out⟩

theorem kept_below {b : Nat} {w w1 w2 : World} (hb : Below b w w1) (hk : KeptIn b (b + 1) w1 w2) (hs : b ≤ w1.heap.size) : Below b w w2 :=
  ⟨hk.os.trans hb.os, hk.tape.trans hb.tape, hk.output.trans hb.output, Nat.le_trans hb.size hk.size, fun k hk' => (hk.block k (by omega) (.inl hk')).trans (hb.block k hk')⟩

theorem drawMT_any (a : Option Addr) (c : Nat) (l : List Int) (w : World) (ha : BAt w a l) (hu : ∀ i, i < l.length → 0 ≤ l.getD i 0 ∧ l.getD i 0 ≤ 255) (hl : (l.length : Int) ≤ 1048576) :
    Calls Tryz.prog 6 #[.slice a l.length c] w fun e w' => ∃ v : Int, e = .returned (.int .i64 v) ∧ Drawn3 v ∧ Below w.heap.size w w' := by
  have K1 := Hid.mk' (l1Source_any a c l w ha hu)
  clear ha hu
  go_enter Tryz.func6, Tryz.ntmps6
  go_wp2_with fail
  refine K1.out.mono ?_
  rintro e w1 ⟨rfl, hS, hb⟩
  have HS := Hid.mk' hS
  have HB := Hid.mk' hb
  clear hS hb K1
  go_wp2_with fail
  refine (l3Draw_any _ 0 l w1 HS.out (by omega) hl).mono ?_
  rintro e w2 ⟨v, rfl, hv, hS, hK⟩
  have HV := Hid.mk' hv
  have HB := Hid.mk' (kept_below HB.out hK HB.out.size)
  clear hv hS hK
  go_wp2
  go_ret
  exact ⟨v, rfl, HV.out, HB.out⟩

theorem drawMP_any (a : Option Addr) (c : Nat) (l : List Int) (w : World) (ha : BAt w a l) (hu : ∀ i, i < l.length → 0 ≤ l.getD i 0 ∧ l.getD i 0 ≤ 255) (hl : (l.length : Int) ≤ 1048576) :
    Calls Tryz.prog 8 #[.slice a l.length c] w fun e w' => ∃ v : Int, e = .returned (.int .i64 v) ∧ Drawn3 v ∧ Below w.heap.size w w' := by
  have K1 := Hid.mk' (l1Source_any a c l w ha hu)
  clear ha hu
  go_enter Tryz.func8, Tryz.ntmps8
  go_wp2_with fail
  refine K1.out.mono ?_
  rintro e w1 ⟨rfl, hS, hb⟩
  have HS := Hid.mk' hS
  have HB := Hid.mk' hb
  clear hS hb K1
  go_wp2_with fail
  refine (l3Draw_any _ 0 l w1 HS.out (by omega) hl).mono ?_
  rintro e w2 ⟨v, rfl, hv, hS, hK⟩
  have HV := Hid.mk' hv
  have HB := Hid.mk' (kept_below HB.out hK HB.out.size)
  clear hv hS hK
  go_wp2
  go_ret
  exact ⟨v, rfl, HV.out, HB.out⟩

theorem drawIW_any (a : Option Addr) (c : Nat) (l : List Int) (w : World) (ha : BAt w a l) (hu : ∀ i, i < l.length → 0 ≤ l.getD i 0 ∧ l.getD i 0 ≤ 255) (hl : (l.length : Int) ≤ 1048576) :
    Calls Tryz.prog 19 #[.slice a l.length c] w fun e w' => ∃ v : Int, e = .returned (.int .i64 v) ∧ Drawn3 v ∧ Below w.heap.size w w' := by
  have K1 := Hid.mk' (l1Source_any a c l w ha hu)
  clear ha hu
  go_enter Tryz.func19, Tryz.ntmps19
  go_wp2_with fail
  refine K1.out.mono ?_
  rintro e w1 ⟨rfl, hS, hb⟩
  have HS := Hid.mk' hS
  have HB := Hid.mk' hb
  clear hS hb K1
  go_wp2_with fail
  refine (l3Draw_any _ 0 l w1 HS.out (by omega) hl).mono ?_
  rintro e w2 ⟨v, rfl, hv, hS, hK⟩
  have HV := Hid.mk' hv
  have HB := Hid.mk' (kept_below HB.out hK HB.out.size)
  clear hv hS hK
  go_wp2
  go_ret
  exact ⟨v, rfl, HV.out, HB.out⟩

def drawnX : List Int := [0, 1, 9999, 10000, 37]
def drawnY : List Int := [0, 1, 2, 3, 4, -1]

set_option maxRecDepth 100000 in
set_option maxHeartbeats 1600000 in
theorem drawBO_any (a : Option Addr) (c : Nat) (l : List Int) (w : World) (ha : BAt w a l) (hu : ∀ i, i < l.length → 0 ≤ l.getD i 0 ∧ l.getD i 0 ≤ 255) (hl : (l.length : Int) ≤ 1048576) :
    Calls Tryz.prog 10 #[.slice a l.length c] w fun e w' => ∃ (m : Bool) (x y : Int), e = .returned (.tuple #[.bool m, .int .i64 x, .int .i64 y]) ∧ x ∈ drawnX ∧ y ∈ drawnY ∧ Below w.heap.size w w' := by
  have K1 := Hid.mk' (l1Source_any a c l w ha hu)
  clear ha hu
  go_enter Tryz.func10, Tryz.ntmps10
  go_wp2_with fail
  refine K1.out.mono ?_
  rintro e w1 ⟨rfl, hS, hb⟩
  have HS := Hid.mk' hS
  have HB := Hid.mk' hb
  have HZ := Hid.mk' hb.size
  obtain ⟨g, hg⟩ : ∃ g, w.heap.size = g := ⟨_, rfl⟩
  rw [hg] at HS HB HZ ⊢
  have HG := Hid.mk' hg
  clear hS hb K1 hg
  go_wp2_with fail
  refine (l1Chance_any _ 0 l 2 w1 HS.out (by omega) (by omega) (by omega) hl).mono ?_
  rintro e w2 ⟨m, rfl, hS, hK⟩
  have HS := Hid.mk' hS
  have HB := Hid.mk' (kept_below HB.out hK HZ.out)
  have HZ := Hid.mk' (Nat.le_trans HZ.out hK.size)
  clear hS hK
  go_wp2_with fail
  have HI := IAt.new w2 #[.int .i64 0, .int .i64 1, .int .i64 9999, .int .i64 10000, .int .i64 37] 2 [0, 1, 9999, 10000, 37] rfl (fun i hi => by
    have hi' : i < 5 := hi
    have c : i = 0 ∨ i = 1 ∨ i = 2 ∨ i = 3 ∨ i = 4 := by omega
    rcases c with rfl | rfl | rfl | rfl | rfl <;> rfl)
  have NB := below_new w2 (.cells #[.int .i64 0, .int .i64 1, .int .i64 9999, .int .i64 10000, .int .i64 37] 2)
  have KP := l1Pick_any g 1 w2.heap.size 5 l [0, 1, 9999, 10000, 37] _ (HS.out.below NB) HI (by have := HS.out.lt; omega) (by omega) (by simp) (by simp) hl
  have HB := Hid.mk' (HB.out.trans (NB.mono HZ.out))
  have HZ := Hid.mk' (Nat.le_trans HZ.out NB.size)
  clear HI NB
  refine KP.mono ?_
  rintro e w3 ⟨i, hi, rfl, hS, hK⟩
  have HX : Hid ((([0, 1, 9999, 10000, 37] : List Int).getD i 0) ∈ drawnX) := Hid.mk' (by
    rw [List.getD_eq_getElem?_getD, List.getElem?_eq_getElem hi]; exact List.getElem_mem hi)
  generalize ([0, 1, 9999, 10000, 37] : List Int).getD i 0 = x at *
  have HS := Hid.mk' hS
  have HB := Hid.mk' (kept_below HB.out hK HZ.out)
  have HZ := Hid.mk' (Nat.le_trans HZ.out hK.size)
  clear hS hK hi KP
  go_wp2_with fail
  have HI := IAt.new w3 #[.int .i64 0, .int .i64 1, .int .i64 2, .int .i64 3, .int .i64 4, .int .i64 (-1)] 2 [0, 1, 2, 3, 4, -1] rfl (fun i hi => by
    have hi' : i < 6 := hi
    have c : i = 0 ∨ i = 1 ∨ i = 2 ∨ i = 3 ∨ i = 4 ∨ i = 5 := by omega
    rcases c with rfl | rfl | rfl | rfl | rfl | rfl <;> rfl)
  have NB := below_new w3 (.cells #[.int .i64 0, .int .i64 1, .int .i64 2, .int .i64 3, .int .i64 4, .int .i64 (-1)] 2)
  have KP := l1Pick_any g 2 w3.heap.size 6 l [0, 1, 2, 3, 4, -1] _ (HS.out.below NB) HI (by have := HS.out.lt; omega) (by omega) (by simp) (by simp) hl
  have HB := Hid.mk' (HB.out.trans (NB.mono HZ.out))
  have HZ := Hid.mk' (Nat.le_trans HZ.out NB.size)
  clear HI NB
  refine KP.mono ?_
  rintro e w4 ⟨j, hj, rfl, hS, hK⟩
  have HY : Hid ((([0, 1, 2, 3, 4, -1] : List Int).getD j 0) ∈ drawnY) := Hid.mk' (by
    rw [List.getD_eq_getElem?_getD, List.getElem?_eq_getElem hj]; exact List.getElem_mem hj)
  generalize ([0, 1, 2, 3, 4, -1] : List Int).getD j 0 = y at *
  have HB := Hid.mk' (kept_below HB.out hK HZ.out)
  clear hS hK hj KP
  go_wp2
  refine bodyPost_ret (v := .tuple #[.bool m, .int .i64 x, .int .i64 y]) (by simp [results, Tryz.results10, go_sem]) rfl ?_
  exact ⟨m, x, y, rfl, HX.out, HY.out, by rw [HG.out]; exact HB.out⟩

end Go.Proofs.YteakocifjmkmjaaGreatDoor
