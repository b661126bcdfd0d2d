/- The program's lexer: which method takes the next byte. -/
import Derived.Test.YtdloogkjnjklcaaGreatDoorE21
import Derived.Test.YtdloogkjnjklcaaGreatDoorE22
import Derived.Lib.SlBytesConst
import Derived.Test.YtdloogkjnjklcaaGreatDoorE14
import Derived.Test.YtdloogkjnjklcaaGreatDoorE18
set_option linter.unusedVariables false
set_option linter.unusedSimpArgs false
namespace Go.Proofs.YtdloogkjnjklcaaGreatDoor
open Go.RowKit

def stN (hs : List Int) : Nat := if hs = [] then 97 else if hs.getD 0 0 = 38 then 98 else if noteB hs = true then 100 else 101

theorem bytesOf_strI (l : List Int) : (strI l).toList = Lib.bytesOf l := by
  have : ∀ (l : List Int) (r : ByteArray), (l.foldl (fun r n => r.push (UInt8.ofNat n.toNat)) r).data.toList = r.data.toList ++ Lib.bytesOf l := by
    intro l
    induction l with
    | nil => intro r; simp [Lib.bytesOf]
    | cons x l ih =>
      intro r
      rw [List.foldl_cons, ih]
      simp [Lib.bytesOf, ByteArray.push]
  rw [Lib.toList_data]
  unfold strI
  rw [this]
  rfl

theorem note_prefix (l : List Int) : Lib.hasPrefix (Lib.bytesOf l) (Lib.bytesOf [60, 33, 45, 45]) = noteB l := by
  have e4 : Lib.bytesOf [60, 33, 45, 45] = [60, 33, 45, 45] := rfl
  unfold noteB
  rw [bytesOf_strI, e4]
  match l with
  | [] => rfl
  | [a] => simp [Lib.hasPrefix, Lib.bytesOf, List.isPrefixOf]
  | [a, b] => simp [Lib.hasPrefix, Lib.bytesOf, List.isPrefixOf]
  | [a, b, c] => simp [Lib.hasPrefix, Lib.bytesOf, List.isPrefixOf]
  | a :: b :: c :: d :: r =>
    have h4 : decide (4 ≤ (a :: b :: c :: d :: r).length) = true := by simp
    rw [h4, Bool.true_and]
    simp only [Lib.hasPrefix, Lib.bytesOf, List.map_cons, List.isPrefixOf, List.take_succ_cons, List.take_zero, List.map_nil]
    rw [Bool.eq_iff_iff]
    simp only [Bool.and_eq_true, beq_iff_eq, List.cons.injEq, and_true]
    constructor
    · rintro ⟨h1, h2, h3, h4⟩; exact ⟨h1.symm, h2.symm, h3.symm, h4.symm⟩
    · rintro ⟨h1, h2, h3, h4⟩; exact ⟨h1.symm, h2.symm, h3.symm, h4.symm⟩

theorem quotes_count : ∀ (l : List Int), (∀ x ∈ l, 0 ≤ x ∧ x ≤ 255) → Lib.countByte (Lib.bytesOf l) 34 = quotes l
  | [], _ => rfl
  | x :: l, h => by
    have ih := quotes_count l (fun y hy => h y (List.mem_cons_of_mem _ hy))
    obtain ⟨h0, h1⟩ := h x (List.mem_cons_self ..)
    have e : (UInt8.ofNat x.toNat == 34) = decide (x = 34) := by
      rw [Bool.eq_iff_iff, beq_iff_eq, decide_eq_true_iff]
      constructor
      · intro hx
        have := congrArg UInt8.toNat hx
        simp at this
        omega
      · rintro rfl; rfl
    have hq : quotes (x :: l) = (if x = 34 then 1 else 0) + quotes l := rfl
    unfold Lib.countByte Lib.bytesOf at ih ⊢
    rw [List.map_cons, List.count_cons, ih, e, hq]
    by_cases hx : x = 34 <;> simp [hx, Nat.add_comm]

theorem Byt.mem {l : List Int} (h : Byt l) : ∀ x ∈ l, 0 ≤ x ∧ x ≤ 255 := fun x hx => by
  obtain ⟨k, hk, e⟩ := List.getElem_of_mem hx
  have := h k hk
  simpa [List.getD_eq_getElem?_getD, hk, e] using this

theorem cell_in (w : World) (xs : Array Value) (t : TypeId) (r : Nat × Nat) (i : Nat) : (w.alloc (.cells xs t r)).cell? ⟨w.heap.size, i, none⟩ = xs[i]? := by
  unfold World.cell?
  have h : (w.alloc (.cells xs t r)).heap[w.heap.size]? = some (.cells xs t r) := Deep.blk_alloc_new _ _
  dsimp only
  rw [h]
  rfl

set_option maxRecDepth 100000 in
set_option maxHeartbeats 3200000 in
theorem lexState_any (lo g : Nat) (w : World) (hs : List Int) (ts : List TK) (h : LXs lo g w hs ts) (hu : Byt hs) (hl : hs.length ≤ 200) :
    Calls Tryz.prog 79 #[.pointer (some ⟨g, 0, none⟩)] w fun e w' => e = .returned (.func (.func (stN hs)) #[.pointer (some ⟨g, 0, none⟩)] #[]) ∧ LXs lo g w' hs ts ∧ Below lo w w' := by
  have HS := Hid.mk' h
  obtain ⟨hv, tv, us, rs, bl, bh, h⟩ := h
  have lg := h.lg
  obtain ⟨c0, c1, c2⟩ := cellsQ2 h.box
  obtain ⟨p, c, rfl, hb⟩ := own_bat h.held
  by_cases h0 : hs = []
  · have E : Hid (stN hs = 97) := Hid.mk' (by unfold stN; rw [if_pos h0])
    subst h0
    clear h
    go_enter Tryz.func79, Tryz.ntmps79
    go_wp2
    go_ret
    exact ⟨by rw [E.out]; rfl, HS.out, Below.refl _ _⟩
  have hp : 0 < hs.length := List.length_pos_iff.2 h0
  have hz : ((hs.length : Int) == 0) = false := by simp; omega
  rcases hb with hb | ⟨b, o, rfl, hlt, hc⟩
  · exact absurd hb h0
  have d0 : w.cell? ⟨b, o + 0, none⟩ = some (.int .u8 (hs.getD 0 0)) := hc 0 hp
  rw [Nat.add_zero] at d0
  obtain ⟨y, hy⟩ : ∃ y, hs.getD 0 0 = y := ⟨_, rfl⟩
  rw [hy] at d0
  by_cases h1 : hs.getD 0 0 = 38
  · have E : Hid (stN hs = 98) := Hid.mk' (by unfold stN; rw [if_neg h0, if_pos h1])
    rw [← hy, h1] at d0
    clear h hc h1 h0 hy
    go_enter Tryz.func79, Tryz.ntmps79
    go_wp2
    go_ret
    exact ⟨by rw [E.out]; rfl, HS.out, Below.refl _ _⟩
  have e1 : (y == 38) = false := by rw [← hy]; simpa using h1
  obtain ⟨a9, c9, e9, hcap⟩ := own_cap h.held
  cases e9
  have kcv := Lib.run_convert_bytes_const (P := Tryz.prog) w 22 5 #[.int .u8 60, .int .u8 33, .int .u8 45, .int .u8 45] 4 4 Tryz.underlying22 Tryz.underlying5
  have NB := below_new w (.cells #[.int .u8 60, .int .u8 33, .int .u8 45, .int .u8 45] 5 (4, 5))
  have KH := Tryz.bytes_HasPrefix b o hs.length c w.heap.size 0 4 4 hs [60, 33, 45, 45] (w.alloc (.cells #[.int .u8 60, .int .u8 33, .int .u8 45, .int .u8 45] 5 (4, 5))) rfl rfl hcap (fun i hi => (NB.cell hlt).trans (hc i hi)) (fun i hi => by
    have : i = 0 ∨ i = 1 ∨ i = 2 ∨ i = 3 := by omega
    rw [Nat.zero_add, cell_in]
    rcases this with rfl | rfl | rfl | rfl <;> rfl)
  rw [note_prefix] at KH
  have KH := Hid.mk' KH
  have BB := Hid.mk' NB
  have HL := Hid.mk' h
  clear hc NB h
  cases hn : noteB hs with
  | true =>
    have E : Hid (stN hs = 100) := Hid.mk' (by unfold stN; rw [if_neg h0, if_neg h1, if_pos hn])
    rw [hn] at KH
    clear h1 h0 hn hy
    go_enter Tryz.func79, Tryz.ntmps79
    go_wp2_with fail
    refine KH.out.mono ?_
    rintro e w2 ⟨rfl, hw⟩
    obtain rfl := hw.symm
    go_wp2
    go_ret
    exact ⟨by rw [E.out]; rfl, ⟨_, _, _, _, _, _, HL.out.below BB.out⟩, BB.out.mono (by omega)⟩
  | false =>
    have E : Hid (stN hs = 101) := Hid.mk' (by unfold stN; rw [if_neg h0, if_neg h1, if_neg (by rw [hn]; exact Bool.false_ne_true)])
    rw [hn] at KH
    clear h1 h0 hn hy
    go_enter Tryz.func79, Tryz.ntmps79
    go_wp2_with fail
    refine KH.out.mono ?_
    rintro e w2 ⟨rfl, hw⟩
    obtain rfl := hw.symm
    go_wp2
    go_ret
    exact ⟨by rw [E.out]; rfl, ⟨_, _, _, _, _, _, HL.out.below BB.out⟩, BB.out.mono (by omega)⟩

end Go.Proofs.YtdloogkjnjklcaaGreatDoor

namespace Go.Proofs.YtdloogkjnjklcaaGreatDoor
open Go.RowKit

set_option maxRecDepth 100000 in
set_option maxHeartbeats 1600000 in
theorem isRefByte_any (b : Nat) (w : World) (hb : b ≤ 255) :
    Calls Tryz.prog 118 #[.int .u8 (b : Int)] w fun e w' => e = .returned (.bool (refB b)) ∧ w' = w := by
  have E : Hid (refB b = ((decide ((97 : Int) ≤ b) && decide ((b : Int) ≤ 122)) || (decide ((48 : Int) ≤ b) && decide ((b : Int) ≤ 57)) || ((b : Int) == 35))) := Hid.mk' (by
    unfold refB ltrB
    rw [Bool.eq_iff_iff]
    simp
    omega)
  rw [E.out]
  by_cases h1 : (97 : Int) ≤ b
  · by_cases h2 : (b : Int) ≤ 122
    · go_enter Tryz.func118, Tryz.ntmps118
      go_wp2_with go_big_skip
      go_ret
      exact ⟨by simp [h1, h2], rfl⟩
    · have h3 : (48 : Int) ≤ b := by omega
      have h4 : ¬ (b : Int) ≤ 57 := by omega
      have h5 : ((b : Int) == 35) = false := by simp; omega
      go_enter Tryz.func118, Tryz.ntmps118
      go_wp2_with go_big_skip
      go_ret
      exact ⟨by simp [h1, h2, h3, h4, h5], rfl⟩
  · by_cases h3 : (48 : Int) ≤ b
    · by_cases h4 : (b : Int) ≤ 57
      · go_enter Tryz.func118, Tryz.ntmps118
        go_wp2_with go_big_skip
        go_ret
        exact ⟨by simp [h1, h3, h4], rfl⟩
      · have h5 : ((b : Int) == 35) = false := by simp; omega
        go_enter Tryz.func118, Tryz.ntmps118
        go_wp2_with go_big_skip
        go_ret
        exact ⟨by simp [h1, h3, h4, h5]; omega, rfl⟩
    · cases h5 : ((b : Int) == 35)
      · go_enter Tryz.func118, Tryz.ntmps118
        go_wp2_with go_big_skip
        go_ret
        exact ⟨by simp [h1, h3, h5]; omega, rfl⟩
      · go_enter Tryz.func118, Tryz.ntmps118
        go_wp2_with go_big_skip
        go_ret
        exact ⟨by simp [h1, h3, h5], rfl⟩

theorem bytesT_two (ts : List TK) (a b : List Int) : ts ++ bytesT a ++ bytesT b = ts ++ bytesT (a ++ b) := by simp [bytesT]

set_option maxRecDepth 100000 in
set_option maxHeartbeats 3200000 in
theorem inRef_any (B lo g : Nat) (tp : TypeId) (pv : Value) (b : Nat) (w : World) (hs : List Int) (ts : List TK) (h : LXs lo g w hs ts) (hE : Env B tp pv w) (hB : B ≤ lo) (hu : Byt hs) (hb : b ≤ 255) (hl : hs.length ≤ 159) (hn : ts.length ≤ 800000) :
    Calls Tryz.prog 98 #[.pointer (some ⟨g, 0, none⟩), .int .u8 (b : Int)] w fun e w' => LxP lo g (refH hs b) (ts ++ bytesT (refT hs b)) w e w' := by
  by_cases h59 : b = 59
  · subst h59
    have KC := Hid.mk' (closeRef_any B lo g tp pv w hs ts h hE hB hu (by omega) (by omega))
    have E : Hid (refH hs 59 = []) := Hid.mk' (by unfold refH; rw [if_pos rfl])
    clear h hE
    go_enter Tryz.func98, Tryz.ntmps98
    go_wp2_with fail
    refine KC.out.mono ?_
    rintro e w1 ⟨⟨v, rfl⟩, hx, hb1⟩
    have HX := Hid.mk' hx
    have B1 := Hid.mk' hb1
    clear hx hb1 KC
    go_wp2
    go_end0
    exact ⟨⟨_, rfl⟩, by rw [E.out]; exact HX.out, B1.out⟩
  have h59' : ((b : Int) == 59) = false := by simp; omega
  have KI := isRefByte_any b w hb
  cases hr : refB b with
  | true =>
    rw [hr] at KI
    have KI := Hid.mk' KI
    have KH := Hid.mk' (hold_any lo g b 6 w hs ts h hu hb (by omega) (by omega) (by omega))
    have E1 : Hid (refH hs b = holdH 6 hs b) := Hid.mk' (by unfold refH holdH; rw [if_neg h59, if_pos hr])
    have E2 : Hid (refT hs b = holdT 6 hs b) := Hid.mk' (by unfold refT holdT; rw [if_neg h59, if_pos hr])
    clear h hE h59
    go_enter Tryz.func98, Tryz.ntmps98
    go_wp2_with fail
    refine KI.out.mono ?_
    rintro e w2 ⟨rfl, hw⟩
    obtain rfl := hw.symm
    go_wp2_with fail
    refine KH.out.mono ?_
    rintro e w1 ⟨⟨v, rfl⟩, hx, hb1⟩
    have HX := Hid.mk' hx
    have B1 := Hid.mk' hb1
    clear hx hb1 KH KI
    go_wp2
    go_end0
    exact ⟨⟨_, rfl⟩, by rw [E1.out, E2.out]; exact HX.out, B1.out⟩
  | false =>
    rw [hr] at KI
    have KI := Hid.mk' KI
    have KG := Hid.mk' (letGo_any lo g w hs ts h hu (by omega))
    have E1 : Hid (refH hs b = noneH (b : Int)) := Hid.mk' (by unfold refH; rw [if_neg h59, if_neg (by rw [hr]; exact Bool.false_ne_true)])
    have E2 : Hid (refT hs b = hs ++ noneT (b : Int)) := Hid.mk' (by unfold refT; rw [if_neg h59, if_neg (by rw [hr]; exact Bool.false_ne_true)])
    clear h hE h59
    go_enter Tryz.func98, Tryz.ntmps98
    go_wp2_with fail
    refine KI.out.mono ?_
    rintro e w2 ⟨rfl, hw⟩
    obtain rfl := hw.symm
    go_wp2_with fail
    refine KG.out.mono ?_
    rintro e w1 ⟨⟨v, rfl⟩, hx, hb1⟩
    have KO := Hid.mk' (outside_any lo g b w1 _ hx hb (by rw [List.length_append, bytesT_len]; omega))
    have B1 := Hid.mk' hb1
    clear hx hb1 KG KI
    go_wp2_with fail
    refine KO.out.mono ?_
    rintro e w3 ⟨⟨v, rfl⟩, hx, hb3⟩
    have HX := Hid.mk' hx
    have B3 := Hid.mk' (B1.out.trans hb3)
    clear hx hb3 KO
    go_wp2
    go_end0
    refine ⟨⟨_, rfl⟩, ?_, B3.out⟩
    rw [E1.out, E2.out, ← bytesT_two]
    exact HX.out

end Go.Proofs.YtdloogkjnjklcaaGreatDoor

namespace Go.Proofs.YtdloogkjnjklcaaGreatDoor
open Go.RowKit

theorem lenX_hold (hs : List Int) (b : Nat) : lenX hs b = (bytesT (holdT 160 hs b), holdH 160 hs b) := by
  unfold lenX holdT holdH
  by_cases h : 160 ≤ hs.length + 1
  · rw [if_pos h, if_pos h, if_pos h]
  · rw [if_neg h, if_neg h, if_neg h]; rfl

set_option maxRecDepth 100000 in
set_option maxHeartbeats 3200000 in
theorem inNote_any (B lo g : Nat) (tp : TypeId) (pv : Value) (b : Nat) (w : World) (hs : List Int) (ts : List TK) (h : LXs lo g w hs ts) (hE : Env B tp pv w) (hB : B ≤ lo) (hu : Byt hs) (hb : b ≤ 255) (hl : hs.length ≤ 159) (hn : ts.length ≤ 800000) (hnt : noteB hs = true) :
    Calls Tryz.prog 100 #[.pointer (some ⟨g, 0, none⟩), .int .u8 (b : Int)] w fun e w' => LxP lo g (tagX hs b).2 (ts ++ (tagX hs b).1) w e w' := by
  have hq : quotedB hs = false := by unfold quotedB; rw [hnt]; simp
  by_cases h62 : b = 62
  · subst h62
    have KC := Hid.mk' (closeMark_any B lo g tp pv w hs ts h hE hB hl (by omega))
    have HU := Hid.mk' hu
    have E0 : Hid (tagX hs 62 = (match tagA (strU (hs ++ [62])) with | some t => ([t], []) | none => lenX hs 62)) := Hid.mk' (by
      unfold tagX
      rw [if_pos ⟨rfl, hq⟩, if_neg (by rw [hnt]; decide)]
      rfl)
    clear h hE hu hq
    go_enter Tryz.func100, Tryz.ntmps100
    go_wp2_with fail
    refine KC.out.mono ?_
    rintro e w1 (⟨ht, rfl, hx, hb1⟩ | ⟨t, ht, rfl, hx, hb1⟩)
    · have KH := Hid.mk' (hold_any lo g 62 160 w1 hs ts hx HU.out hb (by omega) (by omega) (by omega))
      have B1 := Hid.mk' hb1
      rw [ht] at E0
      clear hx hb1 KC ht
      go_wp2_with fail
      refine KH.out.mono ?_
      rintro e w2 ⟨⟨v, rfl⟩, hx, hb2⟩
      have HX := Hid.mk' hx
      have B2 := Hid.mk' (B1.out.trans hb2)
      clear hx hb2 KH
      go_wp2
      go_end0
      refine ⟨⟨_, rfl⟩, ?_, B2.out⟩
      rw [E0.out]
      show LXs lo g _ (lenX hs 62).2 (ts ++ (lenX hs 62).1)
      rw [lenX_hold]
      exact HX.out
    · have HX := Hid.mk' hx
      have B1 := Hid.mk' hb1
      rw [ht] at E0
      clear hx hb1 KC ht
      go_wp2
      (try simp only [Exit.inBlock, Exit.then])
      refine bodyPost_ret (results_none rfl _ _ _) rfl ?_
      exact ⟨⟨_, rfl⟩, by rw [E0.out]; exact HX.out, B1.out⟩
  · have e62 : ((b : Int) == 62) = false := by simp; omega
    have E0 : Hid (tagX hs b = lenX hs b) := Hid.mk' (by
      unfold tagX
      rw [if_neg (fun x => h62 x.1), if_neg (fun x => by rw [hnt] at x; exact absurd x.2.2 (by decide))])
    have KH := Hid.mk' (hold_any lo g b 160 w hs ts h hu hb (by omega) (by omega) (by omega))
    clear h hE hu hq h62
    go_enter Tryz.func100, Tryz.ntmps100
    go_wp2_with fail
    refine KH.out.mono ?_
    rintro e w2 ⟨⟨v, rfl⟩, hx, hb2⟩
    have HX := Hid.mk' hx
    have B2 := Hid.mk' hb2
    clear hx hb2 KH
    go_wp2
    go_end0
    refine ⟨⟨_, rfl⟩, ?_, B2.out⟩
    rw [E0.out, lenX_hold]
    exact HX.out

end Go.Proofs.YtdloogkjnjklcaaGreatDoor

namespace Go.Proofs.YtdloogkjnjklcaaGreatDoor
open Go.RowKit

set_option maxRecDepth 100000 in
set_option maxHeartbeats 3200000 in
theorem inTag_any (B lo g : Nat) (tp : TypeId) (pv : Value) (b : Nat) (w : World) (hs : List Int) (ts : List TK) (h : LXs lo g w hs ts) (hE : Env B tp pv w) (hB : B ≤ lo) (hu : Byt hs) (hb : b ≤ 255) (hl : hs.length ≤ 159) (hn : ts.length ≤ 800000) (h0 : ¬ hs = []) (hnt : noteB hs = false) :
    Calls Tryz.prog 101 #[.pointer (some ⟨g, 0, none⟩), .int .u8 (b : Int)] w fun e w' => LxP lo g (tagX hs b).2 (ts ++ (tagX hs b).1) w e w' := by
  obtain ⟨hv, tv, us, rs, bl, bh, h⟩ := h
  have lg := h.lg
  obtain ⟨c0, c1, c2⟩ := cellsQ2 h.box
  obtain ⟨p, c, rfl, hbt⟩ := own_bat h.held
  rcases hbt with hbt | ⟨a, o, rfl, hlt, hc⟩
  · exact absurd hbt h0
  have NB := below_new w (.cells #[.int .u8 34] 5)
  have KC := Tryz.bytes_Count_one a o hs.length c w.heap.size 0 1 hs 34 (w.alloc (.cells #[.int .u8 34] 5)) rfl (fun i hi => (NB.cell hlt).trans (hc i hi)) (by simp)
  have e34 : ((34 : Int).toNat.toUInt8) = 34 := by decide
  rw [e34, quotes_count hs hu.mem] at KC
  have KC := Hid.mk' KC
  have hqb : Hid (quotedB hs = decide (quotes hs % 2 = 1)) := Hid.mk' (by unfold quotedB; rw [hnt]; simp)
  have ql := quotes_le hs
  have HL := Hid.mk' (h.below NB)
  have HB := Hid.mk' NB
  have HE := Hid.mk' hE
  have HU := Hid.mk' hu
  clear h hc hE hu NB
  have hcell := cellsQ2 HL.out.box
  generalize quotes hs = q at *
  have W1 : Hid (LXs lo g (w.alloc (.cells #[.int .u8 34] 5)) hs ts) := Hid.mk' ⟨_, _, _, _, _, _, HL.out⟩
  have EW := Hid.mk' (HE.out.keep ((HB.out).mono (show B ≤ w.heap.size by omega)))
  have BW := Hid.mk' (HB.out.mono (show lo ≤ w.heap.size by omega))
  by_cases hq : q % 2 = 1
  · -- within quotes
    have hqi : ((q : Int) % 2 == 1) = true := by simp; omega
    have E0 : Hid (tagX hs b = lenX hs b) := Hid.mk' (by
      have : quotedB hs = true := by rw [hqb.out]; simpa using hq
      unfold tagX
      rw [if_neg (fun x => by rw [this] at x; exact absurd x.2 (by decide)), if_neg (fun x => by rw [this] at x; exact absurd x.2.1 (by decide))])
    have KH := Hid.mk' (hold_any lo g b 160 _ hs ts W1.out HU.out hb (by omega) (by omega) (by omega))
    clear hq hcell
    generalize hV : w.alloc (.cells #[.int .u8 34] 5) = V at *
    cases e62 : ((b : Int) == 62) <;> cases e60 : ((b : Int) == 60)
    all_goals
      go_enter Tryz.func101, Tryz.ntmps101
      go_wp2_with fail
      (try clear hV)
      refine KC.out.mono ?_
      rintro e w1 ⟨rfl, hw⟩
      obtain rfl := hw.symm
      go_wp2_with fail
      refine KH.out.mono ?_
      rintro e w2 ⟨⟨v, rfl⟩, hx, hb2⟩
      have HX := Hid.mk' hx
      have B2 := Hid.mk' (BW.out.trans hb2)
      clear hx hb2 KH
      go_wp2
      go_end0
      refine ⟨⟨_, rfl⟩, ?_, B2.out⟩
      rw [E0.out, lenX_hold]
      exact HX.out
  have hqi : ((q : Int) % 2 == 1) = false := by simp; omega
  have hqf : quotedB hs = false := by rw [hqb.out]; simpa using hq
  by_cases h62 : b = 62
  · subst h62
    have KM := Hid.mk' (closeMark_any B lo g tp pv _ hs ts W1.out EW.out hB hl (by omega))
    have E0 : Hid (tagX hs 62 = (match tagA (strU (hs ++ [62])) with | some t => ([t], []) | none => (bytesT (hs ++ [62]), []))) := Hid.mk' (by
      unfold tagX
      rw [if_pos ⟨rfl, hqf⟩, if_pos hnt]
      rfl)
    clear hq hqf hcell
    generalize hV : w.alloc (.cells #[.int .u8 34] 5) = V at *
    go_enter Tryz.func101, Tryz.ntmps101
    go_wp2_with fail
    clear hV
    refine KC.out.mono ?_
    rintro e w1 ⟨rfl, hw⟩
    obtain rfl := hw.symm
    go_wp2_with fail
    refine KM.out.mono ?_
    rintro e w2 (⟨ht, rfl, hx, hb2⟩ | ⟨t, ht, rfl, hx, hb2⟩)
    · obtain ⟨hv3, tv3, us3, rs3, bl3, bh3, h3⟩ := hx
      have N3 := below_new w2 (.cells #[.int .u8 62] 5)
      have HX := Hid.mk' (h3.below N3)
      have NC := Hid.mk' (new_cells' w2 5 [.int .u8 62] w2.heap.size rfl)
      have H := Hid.mk' h3
      obtain ⟨x0, x1, x2⟩ := cellsQ2 h3.box
      have HN := Hid.mk' N3
      have SZ : Hid (lo ≤ (w2.alloc (.cells #[.int .u8 62] 5)).heap.size) := Hid.mk' (by simp; omega)
      have P1 : Hid (∀ u ∈ ([.int .u8 62] : List Value), u.oneCell' = true) := Hid.mk' (by intro u hu'; rw [List.mem_singleton] at hu'; rw [hu']; rfl)
      obtain ⟨ha, hc', rfl, _⟩ := own_src h3.held
      have BX := Hid.mk' (BW.out.trans hb2)
      rw [ht] at E0
      clear h3 N3 KM hb2 ht c0 c1 c2 HL HB W1 EW BW
      go_wp2_with (first | (at_builtin; refine wpList_append_at _ rfl (.tmp 30) (.tmp 32) 22 rfl lo 5 (.int .u8 0) 1 1 Tryz.underlying22 Tryz.info5 rfl (by decide) _ _ _ rfl HX.out.held _ 1 _ [.int .u8 62] rfl rfl (.inr ⟨_, rfl, NC.out⟩) P1.out (by unfold maxLen; omega) (by omega) SZ.out ?_; intro v' w4 ho hgr hat; obtain ⟨a', c', rfl, _⟩ := own_src ho; obtain ⟨d1, f1⟩ := HX.out.spotH hgr) | fail)
      have L2 := holdX H.out HN.out ho hgr hat
      have B2 := Hid.mk' (BX.out.trans (heldBl HX.out HN.out hgr (.slice a' (hs.length + 1) c') (by omega)))
      have KG := Hid.mk' (letGo_any lo g _ (hs ++ [62]) ts ⟨_, _, _, _, _, _, L2⟩ (HU.out.snoc 62 (by omega)) (by simp; omega))
      clear L2 ho hgr hat d1 f1
      refine KG.out.mono ?_
      rintro e w5 ⟨⟨v, rfl⟩, hx, hb5⟩
      have HX5 := Hid.mk' hx
      have B5 := Hid.mk' (B2.out.trans hb5)
      clear hx hb5 KG
      go_wp2
      go_end0
      exact ⟨⟨_, rfl⟩, by rw [E0.out]; exact HX5.out, B5.out⟩
    · have HX := Hid.mk' hx
      have B2 := Hid.mk' (BW.out.trans hb2)
      rw [ht] at E0
      clear hx hb2 KM ht
      go_wp2
      go_end0
      exact ⟨⟨_, rfl⟩, by rw [E0.out]; exact HX.out, B2.out⟩
  have e62 : ((b : Int) == 62) = false := by simp; omega
  by_cases h60 : b = 60
  · subst h60
    have KG := Hid.mk' (letGo_any lo g _ hs ts W1.out HU.out (by omega))
    have E0 : Hid (tagX hs 60 = (bytesT hs, [60])) := Hid.mk' (by
      unfold tagX
      rw [if_neg (fun x => h62 x.1), if_pos ⟨rfl, hqf, hnt⟩]
      rfl)
    clear hq hqf h62 hcell
    generalize hV : w.alloc (.cells #[.int .u8 34] 5) = V at *
    go_enter Tryz.func101, Tryz.ntmps101
    go_wp2_with fail
    clear hV
    refine KC.out.mono ?_
    rintro e w1 ⟨rfl, hw⟩
    obtain rfl := hw.symm
    go_wp2_with fail
    refine KG.out.mono ?_
    rintro e w2 ⟨⟨v, rfl⟩, hx, hb2⟩
    have KO := Hid.mk' (outside_any lo g 60 w2 _ hx hb (by rw [List.length_append, bytesT_len]; omega))
    have B2 := Hid.mk' (BW.out.trans hb2)
    clear hx hb2 KG
    go_wp2_with fail
    refine KO.out.mono ?_
    rintro e w3 ⟨⟨v, rfl⟩, hx, hb3⟩
    have HX := Hid.mk' hx
    have B3 := Hid.mk' (B2.out.trans hb3)
    clear hx hb3 KO
    go_wp2
    go_end0
    refine ⟨⟨_, rfl⟩, ?_, B3.out⟩
    rw [E0.out]
    have := HX.out
    rw [bytesT_two] at this
    simpa [noneH, noneT] using this
  · have e60 : ((b : Int) == 60) = false := by simp; omega
    have E0 : Hid (tagX hs b = lenX hs b) := Hid.mk' (by
      unfold tagX
      rw [if_neg (fun x => h62 x.1), if_neg (fun x => h60 x.1)])
    have KH := Hid.mk' (hold_any lo g b 160 _ hs ts W1.out HU.out hb (by omega) (by omega) (by omega))
    clear hq hqf h62 h60 hcell
    generalize hV : w.alloc (.cells #[.int .u8 34] 5) = V at *
    go_enter Tryz.func101, Tryz.ntmps101
    go_wp2_with fail
    clear hV
    refine KC.out.mono ?_
    rintro e w1 ⟨rfl, hw⟩
    obtain rfl := hw.symm
    go_wp2_with fail
    refine KH.out.mono ?_
    rintro e w2 ⟨⟨v, rfl⟩, hx, hb2⟩
    have HX := Hid.mk' hx
    have B2 := Hid.mk' (BW.out.trans hb2)
    clear hx hb2 KH
    go_wp2
    go_end0
    refine ⟨⟨_, rfl⟩, ?_, B2.out⟩
    rw [E0.out, lenX_hold]
    exact HX.out

end Go.Proofs.YtdloogkjnjklcaaGreatDoor

namespace Go.Proofs.YtdloogkjnjklcaaGreatDoor
open Go.RowKit

theorem feed_any (B lo g : Nat) (tp : TypeId) (pv : Value) (b : Nat) (w : World) (hs : List Int) (ts : List TK) (h : LXs lo g w hs ts) (hE : Env B tp pv w) (hB : B ≤ lo) (hu : Byt hs) (hb : b ≤ 255) (hl : hs.length ≤ 159) (hn : ts.length ≤ 800000) :
    Calls Tryz.prog (stN hs) #[.pointer (some ⟨g, 0, none⟩), .int .u8 (b : Int)] w fun e w' => LxP lo g (feedX hs b).2 (ts ++ (feedX hs b).1) w e w' := by
  by_cases h0 : hs = []
  · subst h0
    have e : stN [] = 97 := rfl
    rw [e]
    exact outside_any lo g b w ts h hb (by omega)
  by_cases h1 : hs.getD 0 0 = 38
  · have e : stN hs = 98 := by unfold stN; rw [if_neg h0, if_pos h1]
    have e2 : feedX hs b = (bytesT (refT hs b), refH hs b) := by unfold feedX; rw [if_neg h0, if_pos h1]
    rw [e, e2]
    exact inRef_any B lo g tp pv b w hs ts h hE hB hu hb hl hn
  have e2 : feedX hs b = tagX hs b := by unfold feedX; rw [if_neg h0, if_neg h1]
  rw [e2]
  cases hn' : noteB hs with
  | true =>
    have e : stN hs = 100 := by unfold stN; rw [if_neg h0, if_neg h1, if_pos hn']
    rw [e]
    exact inNote_any B lo g tp pv b w hs ts h hE hB hu hb hl hn hn'
  | false =>
    have e : stN hs = 101 := by unfold stN; rw [if_neg h0, if_neg h1, if_neg (by rw [hn']; exact Bool.false_ne_true)]
    rw [e]
    exact inTag_any B lo g tp pv b w hs ts h hE hB hu hb hl hn h0 hn'

def GoodH (hs : List Int) : Prop := hs = [] ∨ (hs.getD 0 0 = 60 ∧ hs.length ≤ 159) ∨ (hs.getD 0 0 = 38 ∧ hs.length ≤ 5)

theorem GoodH.len {hs : List Int} (h : GoodH hs) : hs.length ≤ 159 := by
  rcases h with rfl | h | h
  · simp
  · exact h.2
  · omega

theorem none_good (b : Int) : GoodH (noneH b) := by
  unfold noneH
  by_cases h : b = 60 ∨ b = 38
  · rw [if_pos h]
    rcases h with rfl | rfl
    · exact .inr (.inl ⟨rfl, by simp⟩)
    · exact .inr (.inr ⟨rfl, by simp⟩)
  · rw [if_neg h]; exact .inl rfl

theorem head_snoc {l : List Int} (x : Int) (h : ¬ l = []) : (l ++ [x]).getD 0 0 = l.getD 0 0 := by
  cases l with
  | nil => exact absurd rfl h
  | cons a l => rfl

theorem len_good {hs : List Int} (b : Nat) (h0 : ¬ hs = []) (h : hs.getD 0 0 = 60) : GoodH (lenX hs b).2 := by
  unfold lenX
  by_cases c : 160 ≤ hs.length + 1
  · rw [if_pos c]; exact .inl rfl
  · rw [if_neg c]
    exact .inr (.inl ⟨by show (hs ++ [(b : Int)]).getD 0 0 = 60; rw [head_snoc _ h0]; exact h, by simp; omega⟩)

theorem feed_good {hs : List Int} (b : Nat) (h : GoodH hs) : GoodH (feedX hs b).2 := by
  unfold feedX
  by_cases h0 : hs = []
  · rw [if_pos h0]; exact none_good _
  · rw [if_neg h0]
    by_cases h1 : hs.getD 0 0 = 38
    · rw [if_pos h1]
      show GoodH (refH hs b)
      unfold refH
      by_cases c : b = 59
      · rw [if_pos c]; exact .inl rfl
      · rw [if_neg c]
        by_cases d : refB b = true
        · rw [if_pos d]
          by_cases e : 6 ≤ hs.length + 1
          · rw [if_pos e]; exact .inl rfl
          · rw [if_neg e]
            exact .inr (.inr ⟨by rw [head_snoc _ h0]; exact h1, by simp; omega⟩)
        · rw [if_neg d]; exact none_good _
    · rw [if_neg h1]
      have h60 : hs.getD 0 0 = 60 := by
        rcases h with h | h | h
        · exact absurd h h0
        · exact h.1
        · exact absurd h.1 h1
      unfold tagX
      split
      · split
        · exact .inl rfl
        · split
          · exact .inl rfl
          · exact len_good b h0 h60
      · split
        · rename_i hh
          exact .inr (.inl ⟨by show ((b : Int)) = 60; have := hh.1; omega, by simp⟩)
        · exact len_good b h0 h60

set_option maxRecDepth 100000 in
set_option maxHeartbeats 1600000 in
theorem lexFault_any (a : Option Addr) (c : Nat) (hs : List Int) (w : World) (ha : BAt w a hs) (h : GoodH hs) :
    Calls Tryz.prog 77 #[.agg #[.slice a hs.length c]] w fun e w' => e = .returned (.int .i64 0) ∧ Below w.heap.size w w' := by
  have NB := below_new w (.cells #[.slice a hs.length c] 53)
  have HB := Hid.mk' NB
  rcases h with rfl | ⟨h1, h2⟩ | ⟨h1, h2⟩
  · clear NB
    go_enter Tryz.func77, Tryz.ntmps77
    go_wp2_with go_big_skip
    go_ret
    exact ⟨rfl, HB.out⟩
  · rcases ha with ha | ⟨b, o, rfl, hlt, hc⟩
    · rw [ha] at h1; cases h1
    have hp : 0 < hs.length := by
      cases hs with
      | nil => cases h1
      | cons a l => simp
    have d0 : (w.alloc (.cells #[.slice (some ⟨b, o, none⟩) hs.length c] 53)).cell? ⟨b, o, none⟩ = some (.int .u8 60) := by
      have := (NB.cell hlt).trans (hc 0 hp)
      rw [Nat.add_zero] at this
      rw [this]; unfold bv; rw [h1]
    have e1 : ((hs.length : Int) == 0) = false := beq_eq_false_iff_ne.2 (by omega)
    have e2 : ¬ (160 : Int) ≤ hs.length := by omega
    clear NB hc h1
    go_enter Tryz.func77, Tryz.ntmps77
    go_wp2_with go_big_skip
    go_ret
    exact ⟨rfl, HB.out⟩
  · rcases ha with ha | ⟨b, o, rfl, hlt, hc⟩
    · rw [ha] at h1; cases h1
    have hp : 0 < hs.length := by
      cases hs with
      | nil => cases h1
      | cons a l => simp
    have d0 : (w.alloc (.cells #[.slice (some ⟨b, o, none⟩) hs.length c] 53)).cell? ⟨b, o, none⟩ = some (.int .u8 38) := by
      have := (NB.cell hlt).trans (hc 0 hp)
      rw [Nat.add_zero] at this
      rw [this]; unfold bv; rw [h1]
    have e1 : ((hs.length : Int) == 0) = false := beq_eq_false_iff_ne.2 (by omega)
    have e2 : ¬ (6 : Int) ≤ hs.length := by omega
    clear NB hc h1
    go_enter Tryz.func77, Tryz.ntmps77
    go_wp2_with go_big_skip
    go_ret
    exact ⟨rfl, HB.out⟩

theorem own_row {w : World} {g lo : Nat} {l : List Int} (h : w.rowIs g 5 l.length (bv l)) (hl : l.length ≤ 1000000) (hg : lo ≤ g) : w.ownsRow lo 5 1 (.slice (some ⟨g, 0, none⟩) l.length l.length) l.length (bcs l) := by
  obtain ⟨cs, h1, h2, h3⟩ := h
  refine ⟨by rw [bcs_len], .inr ⟨g, l.length, cs, rfl, hg, h1, Nat.le_refl _, by unfold maxLen; omega, by rw [h2, Nat.mul_one], ?_⟩⟩
  apply List.ext_getElem?
  intro i
  by_cases hi : i < l.length
  · rw [List.getElem?_take_of_lt (by omega), bcs_get l i hi]
    have := h3 i hi
    simpa using this
  · rw [List.getElem?_eq_none (by rw [List.length_take]; omega), List.getElem?_eq_none (by rw [bcs_len]; omega)]

set_option maxRecDepth 100000 in
set_option maxHeartbeats 1600000 in
theorem newLexer_any (a : Option Addr) (c : Nat) (hs : List Int) (w : World) (ha : BAt w a hs) (hl : hs.length ≤ 200) :
    Calls Tryz.prog 78 #[.agg #[.slice a hs.length c]] w fun e w' => ∃ g, e = .returned (.pointer (some ⟨g, 0, none⟩)) ∧ LXs w.heap.size g w' hs [] ∧ Below w.heap.size w w' := by
  have NB := below_new w (.cells #[.slice a hs.length c] 53)
  have KC := Hid.mk' (copyBytes_any a c hs _ (ha.below NB) (by omega))
  have HB := Hid.mk' NB
  clear ha NB
  go_enter Tryz.func78, Tryz.ntmps78
  go_wp2_with fail
  refine KC.out.mono ?_
  rintro e w1 ⟨g, rfl, hg, hr, hb⟩
  have HR := Hid.mk' hr
  have B1 := Hid.mk' (HB.out.trans (hb.mono HB.out.size))
  have HG := Hid.mk' hg
  clear hr hb hg KC
  go_wp2
  go_ret
  have N2 := below_new w1 (.cells #[.slice (some ⟨g, 0, none⟩) hs.length hs.length, .slice none 0 0] 143)
  have gl := HR.out.lt
  have gg := HG.out
  have b1 := B1.out.size
  have b0 := HB.out.size
  refine ⟨w1.heap.size, rfl, ⟨.slice (some ⟨g, 0, none⟩) hs.length hs.length, .slice none 0 0, [], fun _ => [], fun _ => 0, fun _ => 0, ?_⟩, B1.out.trans (N2.mono b1)⟩
  refine ⟨rowQ2 w1 _ _ _, ?_, ⟨rfl, .inl ⟨rfl, rfl⟩⟩, TA.nil _ _ _, b1, fun e => ?_, fun e => ?_, fun j hj => absurd hj (Nat.not_lt_zero _), fun j hj => absurd hj (Nat.not_lt_zero _), fun j hj => absurd hj (Nat.not_lt_zero _), fun k _ e => ?_⟩
  · exact own_keep (own_row HR.out (by omega) (by omega)) N2
  · simp [Value.ownBlock] at e; omega
  · simp [Value.ownBlock] at e
  · simp [Value.ownBlock] at e

theorem three_other (V : World) (a g i : Nat) (h : a ≠ g) (x y z : Value) : (((V.setCell ⟨a, 0, none⟩ x).setCell ⟨a, 1, none⟩ y).setCell ⟨a, 2, none⟩ z).drew.cell? ⟨g, i, none⟩ = V.cell? ⟨g, i, none⟩ := by
  show (((V.setCell ⟨a, 0, none⟩ x).setCell ⟨a, 1, none⟩ y).setCell ⟨a, 2, none⟩ z).cell? ⟨g, i, none⟩ = V.cell? ⟨g, i, none⟩
  have ne : ∀ j, (⟨g, i, none⟩ : Addr) ≠ ⟨a, j, none⟩ := fun j e => h (congrArg Addr.block e).symm
  have ne' : ∀ j, (⟨a, j, none⟩ : Addr) ≠ ⟨g, i, none⟩ := fun j e => h (congrArg Addr.block e)
  rw [World.cell?_setCell_other _ _ _ _ (by first | exact ne 2 | exact ne' 2), World.cell?_setCell_other _ _ _ _ (by first | exact ne 1 | exact ne' 1), World.cell?_setCell_other _ _ _ _ (by first | exact ne 0 | exact ne' 0)]

set_option maxRecDepth 100000 in
set_option maxHeartbeats 1600000 in
theorem result_any (lo g : Nat) (w : World) (hv tv : Value) (hs : List Int) (ts : List TK) (us : List Value) (rs : Nat → List Value) (bl bh : Nat → Nat) (h : LX lo g w hv tv hs ts us rs bl bh) :
    Calls Tryz.prog 80 #[.pointer (some ⟨g, 0, none⟩)] w fun e w' => e = .returned (.agg #[.int .i64 0, tv, hv]) ∧ LX lo g w' hv tv hs ts us rs bl bh ∧ Below w.heap.size w w' := by
  have NB := below_new w (.cells #[.int .i64 0, .slice none 0 0, .slice none 0 0] 55)
  have HR := row3 w 55 (.int .i64 0) (.slice none 0 0) (.slice none 0 0)
  obtain ⟨d0, d1, d2, d3⟩ := cells3 HR
  have f0 := HR.frozen 0
  have f1 := HR.frozen 1
  have f2 := HR.frozen 2
  obtain ⟨c0, c1, c2⟩ := cellsQ2 (h.below NB).box
  obtain ⟨pa, pc, rfl, _⟩ := own_src h.held
  obtain ⟨qa, qc, rfl, _⟩ := own_src h.row
  have H := Hid.mk' h
  have HB := Hid.mk' NB
  have glt := h.lt
  clear h NB HR
  generalize hW : w.alloc (.cells #[.int .i64 0, .slice none 0 0, .slice none 0 0] 55) = W at *
  go_enter Tryz.func80, Tryz.ntmps80
  go_wp2_with fail
  refine wp_region_held_drew (S := (fun w' => w'.cell? ⟨g, 0, none⟩ = some (.slice pa hs.length pc) ∧ w'.cell? ⟨g, 1, none⟩ = some (.slice qa ts.length qc))) (by kernel_rfl) ⟨c0, c1⟩ (fun hHeld => ?_)
  refine wpAnyH_take (i := 0) (oi := ⟨_, _, _, _, _, _⟩) (v := ?_) rfl (by kernel_rfl) (by kernel_rfl) (by kernel_rfl) (fun _ _ _ h => h) (Or.inl ⟨by rfl, ?_⟩) (by assumption) ?_
  rotate_left
  · (intro w hSw; (try dsimp only at hSw); go_simp; (try with_reducible rfl))
  try simp only [Act.put, zA, zB, zC]
  refine wpAnyH_take (i := 1) (oi := ⟨_, _, _, _, _, _⟩) (v := ?_) rfl (by kernel_rfl) (by kernel_rfl) (by kernel_rfl) (fun _ _ _ h => h) (Or.inl ⟨by rfl, ?_⟩) (by assumption) ?_
  rotate_left
  · (intro w hSw; (try dsimp only at hSw); go_simp; (try with_reducible rfl))
  try simp only [Act.put, zA, zB, zC]
  refine wpAnyH_take (i := 2) (oi := ⟨_, _, _, _, _, _⟩) (v := ?_) rfl (by kernel_rfl) (by kernel_rfl) (by kernel_rfl) (fun _ _ _ h => h) (Or.inl ⟨by rfl, ?_⟩) (by assumption) ?_
  rotate_left
  · (intro w hSw; (try dsimp only at hSw); go_simp; (try with_reducible rfl))
  try simp only [Act.put, zA, zB, zC]
  refine wpAnyH_take (i := 3) (oi := ⟨_, _, _, _, _, _⟩) (v := ?_) rfl (by kernel_rfl) (by kernel_rfl) (by kernel_rfl) (fun _ _ _ h => h) (Or.inl ⟨by rfl, ?_⟩) (by assumption) ?_
  rotate_left
  · (intro w hSw; (try dsimp only at hSw); go_simp; (try with_reducible rfl))
  try simp only [Act.put, zA, zB, zC]
  refine wpAnyH_take (i := 4) (oi := ⟨_, _, _, _, _, _⟩) (v := ?_) rfl (by kernel_rfl) (by kernel_rfl) (by kernel_rfl) (fun _ _ _ h => h) (Or.inl ⟨by rfl, ?_⟩) (by assumption) ?_
  rotate_left
  · (intro w hSw; (try dsimp only at hSw); go_simp; (try with_reducible rfl))
  try simp only [Act.put, zA, zB, zC]
  refine wpAnyH_take (i := 5) (oi := ⟨_, _, _, _, _, _⟩) (v := ?_) rfl (by kernel_rfl) (by kernel_rfl) (by kernel_rfl) (fun _ _ _ h => h) (Or.inl ⟨by rfl, ?_⟩) (by assumption) ?_
  rotate_left
  · (intro w hSw; (try dsimp only at hSw); go_simp; (try with_reducible rfl))
  try simp only [Act.put, zA, zB, zC]
  refine wpAnyH_take (i := 6) (oi := ⟨_, _, _, _, _, _⟩) (v := ?_) rfl (by kernel_rfl) (by kernel_rfl) (by kernel_rfl) (fun _ _ _ h => h) (Or.inl ⟨by rfl, ?_⟩) (by assumption) ?_
  rotate_left
  · (intro w hSw; (try dsimp only at hSw); go_simp; (try with_reducible rfl))
  try simp only [Act.put, zA, zB, zC]
  refine wpAnyH_take (i := 7) (oi := ⟨_, _, _, _, _, _⟩) (v := ?_) rfl (by kernel_rfl) (by kernel_rfl) (by kernel_rfl) (fun _ _ _ h => h) (Or.inl ⟨by rfl, ?_⟩) (by assumption) ?_
  rotate_left
  · (intro w hSw; (try dsimp only at hSw); go_simp; (try with_reducible rfl))
  try simp only [Act.put, zA, zB, zC]
  refine wpAnyH_take (i := 8) (oi := ⟨_, _, _, _, _, _⟩) (v := ?_) rfl (by kernel_rfl) (by kernel_rfl) (by kernel_rfl) (fun _ _ _ h => h) (Or.inl ⟨by rfl, ?_⟩) (by assumption) ?_
  rotate_left
  · (intro w hSw; (try dsimp only at hSw); go_simp; (try with_reducible rfl))
  try simp only [Act.put, zA, zB, zC]
  refine wpAnyH_take (i := 9) (oi := ⟨_, _, _, _, _, _⟩) (v := ?_) rfl (by kernel_rfl) (by kernel_rfl) (by kernel_rfl) (fun _ _ _ h => h) (Or.inl ⟨by rfl, ?_⟩) (by assumption) ?_
  rotate_left
  · (intro w hSw; (try dsimp only at hSw); go_simp; (try with_reducible rfl))
  try simp only [Act.put, zA, zB, zC]
  refine wpAnyH_ready (rs := [10]) (by kernel_rfl) (by simp) ?_
  refine AllReadyH.cons (o := ⟨_, _, _, _, _, _⟩) rfl (fun K hK => ?_) AllReadyH.nil
  go_simp
  refine hK.out _ _ ⟨(three_other W w.heap.size g 0 (by omega) _ _ _).trans c0, (three_other W w.heap.size g 1 (by omega) _ _ _).trans c1⟩ (fun hHeld => ?_)
  clear hK K
  try simp only [Act.put, zA, zB, zC]
  refine wpAnyH_done (by kernel_rfl) ?_ _
  have BF : Hid (Below w.heap.size w (((W.setCell ⟨w.heap.size, 0, none⟩ (.int .i64 0)).setCell ⟨w.heap.size, 1, none⟩ (.slice qa ts.length qc)).setCell ⟨w.heap.size, 2, none⟩ (.slice pa hs.length pc)).drew) := Hid.mk' (((HB.out.setCell (p := ⟨w.heap.size, 0, none⟩) (by simp) _).setCell (p := ⟨w.heap.size, 1, none⟩) (by simp) _).setCell (p := ⟨w.heap.size, 2, none⟩) (by simp) _).drew
  have LF := Hid.mk' (H.out.below BF.out)
  clear hHeld
  go_wp2
  refine bodyPost_ret (v := .agg #[.int .i64 0, .slice qa ts.length qc, .slice pa hs.length pc]) (by simp [results, Tryz.results80, go_sem, *]) rfl ?_
  exact ⟨rfl, LF.out, BF.out⟩

end Go.Proofs.YtdloogkjnjklcaaGreatDoor

namespace Go.Proofs.YtdloogkjnjklcaaGreatDoor
open Go.RowKit

theorem LX.keep {lo g : Nat} {w w' : World} {hv tv : Value} {hs : List Int} {ts : List TK} {us : List Value} {rs : Nat → List Value} {bl bh : Nat → Nat} (h : LX lo g w hv tv hs ts us rs bl bh) (hs' : w.heap.size ≤ w'.heap.size) (hk : ∀ k, lo ≤ k → k < w.heap.size → w'.heap[k]? = w.heap[k]?) : LX lo g w' hv tv hs ts us rs bl bh :=
  ⟨h.box.of_block (hk g h.lg h.lt), own_of h.held (Nat.le_refl _) (fun k e hl => hk k hl (h.held.lt k e).2), own_of h.row (Nat.le_refl _) (fun k e hl => hk k hl (h.row.lt k e).2), (h.ta.keep (fun j hj k h1 h2 h3 => hk k (Nat.le_trans (h.ta.low j hj) h1) h3)).widen (Nat.le_refl _) hs', h.lg, h.gh, h.gt, h.ga, h.vt, h.vh, h.ap⟩

theorem boxesF (w : World) (x : Value) :
    let W := (w.alloc (.cells #[x] 53)).alloc (.cells #[.int .i64 0, .slice none 0 0, .slice none 0 0] 55)
    Below w.heap.size w W ∧ W.cell? ⟨w.heap.size, 0, none⟩ = some x ∧ W.rowIs (w.heap.size + 1) 55 3 (r3 (.int .i64 0) (.slice none 0 0) (.slice none 0 0)) := by
  refine ⟨(below_new w _).alloc (by simp) _, ?_, ?_⟩
  · have h1 := cell_in w #[x] 53 (0, 0) 0
    have := (below_new (w.alloc (.cells #[x] 53)) (.cells #[.int .i64 0, .slice none 0 0, .slice none 0 0] 55)).cell (p := ⟨w.heap.size, 0, none⟩) (by simp)
    rw [this, h1]; rfl
  · have := row3 (w.alloc (.cells #[x] 53)) 55 (.int .i64 0) (.slice none 0 0) (.slice none 0 0)
    rw [show (w.alloc (.cells #[x] 53)).heap.size = w.heap.size + 1 by simp] at this
    exact this

theorem stN_cases (hs : List Int) : stN hs = 97 ∨ stN hs = 98 ∨ stN hs = 100 ∨ stN hs = 101 := by
  unfold stN
  split
  · exact .inl rfl
  · split
    · exact .inr (.inl rfl)
    · split
      · exact .inr (.inr (.inl rfl))
      · exact .inr (.inr (.inr rfl))

end Go.Proofs.YtdloogkjnjklcaaGreatDoor

namespace Go.Proofs.YtdloogkjnjklcaaGreatDoor
open Go.RowKit

theorem allX_good : ∀ (l : List Int) (ts : List TK) (hs : List Int), GoodH hs → GoodH (allX ts hs l).2
  | [], _, _, h => h
  | x :: l, ts, hs, h => allX_good l _ _ (feed_good _ h)

theorem allX_byt : ∀ (l : List Int) (ts : List TK) (hs : List Int), (∀ x ∈ l, 0 ≤ x ∧ x ≤ 255) → Byt hs → Byt (allX ts hs l).2
  | [], _, _, _, h => h
  | x :: l, ts, hs, hl, h => allX_byt l _ _ (fun y hy => hl y (List.mem_cons_of_mem _ hy)) (feedX_byt h (by have := hl x (List.mem_cons_self ..); omega))

theorem allX_len : ∀ (l : List Int) (ts : List TK) (hs : List Int), hs.length ≤ 160 → (allX ts hs l).1.length ≤ ts.length + 161 * l.length
  | [], ts, hs, _ => by simp [allX]
  | x :: l, ts, hs, h => by
    have ih := allX_len l (ts ++ (feedX hs x.toNat).1) (feedX hs x.toNat).2 (feedX_held hs x.toNat)
    have := feedX_len hs x.toNat
    have e : allX ts hs (x :: l) = allX (ts ++ (feedX hs x.toNat).1) (feedX hs x.toNat).2 l := rfl
    rw [e]
    rw [List.length_append] at ih
    rw [List.length_cons]
    omega

structure TP (lo : Nat) (w : World) (tv : Value) (ts : List TK) (us : List Value) (rs : Nat → List Value) (bl bh : Nat → Nat) : Prop where
  row : w.ownsRow lo 101 5 tv ts.length (tcs ts us)
  ta : TA lo w.heap.size w ts us rs bl bh
  vt : ∀ j, j < ts.length → ∀ k, tv.ownBlock = some k → k < bl j ∨ bh j ≤ k

theorem TP.keep {lo : Nat} {w w' : World} {tv : Value} {ts : List TK} {us : List Value} {rs : Nat → List Value} {bl bh : Nat → Nat} (h : TP lo w tv ts us rs bl bh) (hs' : w.heap.size ≤ w'.heap.size) (hk : ∀ k, lo ≤ k → k < w.heap.size → w'.heap[k]? = w.heap[k]?) : TP lo w' tv ts us rs bl bh :=
  ⟨own_of h.row (Nat.le_refl _) (fun k e hl => hk k hl (h.row.lt k e).2), (h.ta.keep (fun j hj k h1 h2 h3 => hk k (Nat.le_trans (h.ta.low j hj) h1) h3)).widen (Nat.le_refl _) hs', h.vt⟩
theorem TP.below {lo : Nat} {w w' : World} {tv : Value} {ts : List TK} {us : List Value} {rs : Nat → List Value} {bl bh : Nat → Nat} (h : TP lo w tv ts us rs bl bh) (hb : Below w.heap.size w w') : TP lo w' tv ts us rs bl bh := h.keep hb.size (fun k _ hk => hb.block k hk)
theorem TP.down {lo lo' : Nat} {w : World} {tv : Value} {ts : List TK} {us : List Value} {rs : Nat → List Value} {bl bh : Nat → Nat} (h : TP lo w tv ts us rs bl bh) (hl : lo' ≤ lo) : TP lo' w tv ts us rs bl bh := ⟨own_down h.row hl, h.ta.widen hl (Nat.le_refl _), h.vt⟩

theorem TP.app {lo : Nat} {w w1 w2 : World} {tv tv' : Value} {ts ts1 : List TK} {us us1 : List Value} {rs rs1 : Nat → List Value} {bl bh bl1 bh1 : Nat → Nat} (h : TP lo w tv ts us rs bl bh) (hlo : lo ≤ w.heap.size) (h1 : Below w.heap.size w w1) (k : TA w.heap.size w1.heap.size w1 ts1 us1 rs1 bl1 bh1)
    (ho : w2.ownsRow lo 101 5 tv' (ts.length + ts1.length) (tcs ts us ++ tcs ts1 us1)) (hg : w1.grownBy w2 tv.ownBlock) (e : tv'.ownBlock = tv.ownBlock ∨ tv'.ownBlock = some w1.heap.size) :
    TP lo w2 tv' (ts ++ ts1) (us ++ us1) (thenN ts.length rs rs1) (thenN ts.length bl bl1) (thenN ts.length bh bh1) := by
  have s1 := h1.size
  have s2 := hg.size
  have told : ∀ x, tv.ownBlock = some x → lo ≤ x ∧ x < w.heap.size := fun x e => h.row.lt x e
  refine ⟨by rw [tcs_app _ _ _ _ h.ta.len, List.length_append]; exact ho, ?_, fun j hj x ex => ?_⟩
  · refine (TA.app (h.ta.keep (fun j hj x hx1 hx2 hx3 => ?_)) (k.keep (fun j hj x hx1 hx2 hx3 => ?_)) hlo s1).widen (Nat.le_refl _) s2
    · rw [hg.block x (by omega) (fun e2 => by have := h.vt j hj x e2.symm; omega), h1.block x hx3]
    · rw [hg.block x hx3 (fun e2 => by have := told x e2.symm; have := k.low j hj; omega)]
  · by_cases c : j < ts.length
    · rw [thenN_l c, thenN_l c]
      rcases e with e | e
      · exact h.vt j c x (e ▸ ex)
      · rw [e] at ex; cases ex; have := h.ta.top j c; omega
    · have hj' : j - ts.length < ts1.length := by rw [List.length_append] at hj; omega
      rw [thenN_r c, thenN_r c]
      rcases e with e | e
      · rw [e] at ex; have := told x ex; have := k.low _ hj'; omega
      · rw [e] at ex; cases ex; have := k.top _ hj'; omega

end Go.Proofs.YtdloogkjnjklcaaGreatDoor

namespace Go.Proofs.YtdloogkjnjklcaaGreatDoor
open Go.RowKit

end Go.Proofs.YtdloogkjnjklcaaGreatDoor

namespace Go.Proofs.YtdloogkjnjklcaaGreatDoor
open Go.RowKit

end Go.Proofs.YtdloogkjnjklcaaGreatDoor

namespace Go.Proofs.YtdloogkjnjklcaaGreatDoor
open Go.RowKit

theorem tssz_app : ∀ (a b : List TK), tssz (a ++ b) = tssz a + tssz b
  | [], b => by simp [tssz]
  | x :: a, b => by simp [tssz, tssz_app a b]; omega

theorem tssz_bytes : ∀ (l : List Int), tssz (bytesT l) = 0
  | [] => rfl
  | x :: l => by
    have := tssz_bytes l
    unfold bytesT at this ⊢
    rw [List.map_cons]
    simp only [tssz, this]
    rfl

theorem asz_end : ∀ (l : List AT) (a : AT), asz (l ++ [a]) = asz l + (a.nm.size + a.vl.length)
  | [], a => by simp [asz]
  | b :: l, a => by simp [asz, asz_end l a]; omega

theorem attr_fits {L : List UInt8} {a : AT} {n : Nat} (h : attrA L = some (a, n)) : a.nm.size + a.vl.length + 1 ≤ n ∧ n ≤ L.length := by
  unfold attrA at h
  split at h
  · split at h
    · rename_i h1 h2
      injection h with h
      injection h with ha hn
      have e1 : a.nm.size = (L.take (spn pL L)).length := by rw [← ha]; simp [ByteArray.size]
      have e2 : a.vl.length ≤ ((L.drop (spn pL L + 2)).take (spn pQ (L.drop (spn pL L + 2)))).length := by rw [← ha]; exact Nat.le_trans (dec_len _ _) (Nat.le_refl _)
      rw [List.length_take] at e1 e2
      omega
    · cases h
  · cases h

theorem inside_fits : ∀ (f : Nat) (L : List UInt8) (acc l : List AT) (sh : Bool), insideA f L acc = some (l, sh) → l.length + asz l ≤ acc.length + asz acc + L.length
  | 0, L, acc, l, sh, h => by simp [insideA] at h
  | f + 1, L, acc, l, sh, h => by
    unfold insideA at h
    split at h
    · split at h
      · cases h; omega
      · cases h
    · split at h
      · split at h
        · cases h; omega
        · cases h
      · split at h
        · cases h
        · split at h
          · cases h
          · rename_i a n ha
            have h1 := attr_fits ha
            have h2 := inside_fits f _ _ l sh h
            rw [List.length_drop] at h1 h2
            have h3 : (addA acc a).length + asz (addA acc a) ≤ acc.length + asz acc + (a.nm.size + a.vl.length + 1) := by
              unfold addA
              split
              · omega
              · rw [asz_end]; simp; omega
            omega

theorem tag_fits {L : List UInt8} {t : TK} (h : tagA L = some t) : tsz t ≤ L.length := by
  unfold tagA at h
  split at h
  · split at h
    · split at h
      · cases h; simp [tsz, asz, ByteArray.size]
      · cases h
    · split at h
      · split at h
        · cases h; simp [tsz, asz, ByteArray.size]; omega
        · cases h
      · split at h
        · split at h
          · cases h
          · rename_i l sh hi
            cases h
            have := inside_fits _ _ _ l sh hi
            rw [List.length_drop] at this
            simp only [tsz, asz, ByteArray.size, List.size_toArray, List.length_take, List.length_drop, List.length_nil] at this ⊢
            omega
        · cases h
  · cases h

def wei (ts : List TK) : Nat := ts.length + tssz ts
theorem wei_app (a b : List TK) : wei (a ++ b) = wei a + wei b := by unfold wei; rw [List.length_append, tssz_app]; omega
theorem wei_bytes (l : List Int) : wei (bytesT l) = l.length := by unfold wei; rw [bytesT_len, tssz_bytes]; rfl

theorem len_fits (hs : List Int) (b : Nat) : wei (lenX hs b).1 + 2 * (lenX hs b).2.length ≤ 2 * hs.length + 2 := by
  unfold lenX
  split
  · show wei (bytesT _) + 2 * 0 ≤ _
    rw [wei_bytes]; simp; omega
  · show 0 + 2 * (hs ++ [(b : Int)]).length ≤ _
    simp; omega

theorem strU_len (l : List Int) : (strU l).length = l.length := by unfold strU; rw [len_list, strI_size]

theorem feed_fits (hs : List Int) (b : Nat) : wei (feedX hs b).1 + 2 * (feedX hs b).2.length ≤ 2 * hs.length + 2 := by
  unfold feedX
  split
  · show wei (bytesT (noneT (b : Int))) + 2 * (noneH (b : Int)).length ≤ _
    rw [wei_bytes]
    unfold noneT noneH
    split <;> simp <;> omega
  · split
    · show wei (bytesT (refT hs b)) + 2 * (refH hs b).length ≤ _
      rw [wei_bytes]
      unfold refT refH
      split
      · split
        · simp
        · simp; omega
      · split
        · split
          · simp; omega
          · simp; omega
        · unfold noneT noneH
          rw [List.length_append]
          split <;> simp <;> omega
    · unfold tagX
      split
      · split
        · rename_i t ht
          have := tag_fits ht
          rw [strU_len] at this
          show ([t].length + (tsz t + 0)) + 2 * 0 ≤ _
          simp at this ⊢
          omega
        · split
          · show wei (bytesT _) + 2 * 0 ≤ _
            rw [wei_bytes]; simp; omega
          · exact len_fits hs b
      · split
        · show wei (bytesT hs) + 2 * 1 ≤ _
          rw [wei_bytes]; omega
        · exact len_fits hs b

theorem all_fits : ∀ (l : List Int) (ts : List TK) (hs : List Int), wei (allX ts hs l).1 + 2 * (allX ts hs l).2.length ≤ wei ts + 2 * hs.length + 2 * l.length
  | [], ts, hs => by show wei ts + 2 * hs.length ≤ _; simp
  | x :: l, ts, hs => by
    have ih := all_fits l (ts ++ (feedX hs x.toNat).1) (feedX hs x.toNat).2
    have := feed_fits hs x.toNat
    rw [wei_app] at ih
    show wei (allX (ts ++ (feedX hs x.toNat).1) (feedX hs x.toNat).2 l).1 + 2 * (allX (ts ++ (feedX hs x.toNat).1) (feedX hs x.toNat).2 l).2.length ≤ _
    rw [List.length_cons]
    omega

end Go.Proofs.YtdloogkjnjklcaaGreatDoor

namespace Go.Proofs.YtdloogkjnjklcaaGreatDoor
open Go.RowKit

structure Kp (p : Nat → Prop) (w w' : World) : Prop where
  os : w'.os = w.os
  tape : w'.tape = w.tape
  output : w'.output = w.output
  size : w.heap.size ≤ w'.heap.size
  block : ∀ k, k < w.heap.size → p k → w'.heap[k]? = w.heap[k]?

theorem Kp.refl (p : Nat → Prop) (w : World) : Kp p w w := ⟨rfl, rfl, rfl, Nat.le_refl _, fun _ _ _ => rfl⟩
theorem Kp.trans {p : Nat → Prop} {a b c : World} (h : Kp p a b) (k : Kp p b c) : Kp p a c :=
  ⟨k.os.trans h.os, k.tape.trans h.tape, k.output.trans h.output, Nat.le_trans h.size k.size, fun i hi hp => (k.block i (Nat.lt_of_lt_of_le hi h.size) hp).trans (h.block i hi hp)⟩
theorem Kp.mono {p q : Nat → Prop} {a b : World} (h : Kp p a b) (hq : ∀ k, q k → p k) : Kp q a b := ⟨h.os, h.tape, h.output, h.size, fun k hk e => h.block k hk (hq k e)⟩
theorem Kp.of_below {p : Nat → Prop} {a b : World} (h : Below a.heap.size a b) : Kp p a b := ⟨h.os, h.tape, h.output, h.size, fun k hk _ => h.block k hk⟩
theorem Kp.of_turned {p : Nat → Prop} {v : Value} {a b : World} (h : Turned v a b) (hp : ∀ k, p k → v.ownBlock ≠ some k) : Kp p a b := ⟨h.os, h.tape, h.output, h.size, fun k hk e => h.block k hk (hp k e)⟩
theorem Kp.setCell {p : Nat → Prop} {a w : World} (h : Kp p a w) {q : Addr} (hq : ¬ p q.block) (u : Value) : Kp p a (w.setCell q u) :=
  h.trans ⟨rfl, rfl, rfl, by simp [World.setCell], fun k hk e => Below.heap_setCell _ _ _ _ (fun e' => hq (e' ▸ e))⟩

theorem OA.keepOf {lo : Nat} {w w' : World} {v : Value} {l : List AT} {us : List Value} (h : OA lo w v l us) (hv : ∀ k, v.ownBlock = some k → k < w.heap.size → w'.heap[k]? = w.heap[k]?) (hu : ∀ i, i < l.length → ∀ k, (us.getD i undef).ownBlock = some k → k < w.heap.size → w'.heap[k]? = w.heap[k]?) : OA lo w' v l us :=
  ⟨h.len, own_of h.row (Nat.le_refl _) (fun k e _ => hv k e (h.row.lt k e).2), fun j hj => (h.val j hj).keep (fun k e hl => hu j hj k e hl), h.vlo, h.ap, h.av⟩

def dgs : Nat → Nat → ByteArray → ByteArray
  | 0, _, s => s
  | f + 1, m, s => if m = 0 then s else dgs f (m / 10) (strI [48 + (m : Int) % 10] ++ s)
theorem dgs_zero (f : Nat) (s : ByteArray) : dgs f 0 s = s := by cases f <;> simp [dgs]
theorem dgs_step (f m : Nat) (s : ByteArray) (h : 0 < m) (hf : m ≤ f) : ∃ f', m / 10 ≤ f' ∧ dgs f m s = dgs f' (m / 10) (strI [48 + (m : Int) % 10] ++ s) := by
  cases f with
  | zero => omega
  | succ f => exact ⟨f, by omega, by simp [dgs]; omega⟩
def mtx (k : Nat) : ByteArray := ⟨#[109]⟩ ++ dgs k k ⟨#[]⟩

set_option maxHeartbeats 1600000 in
theorem markText_is (k : Nat) (w : World) (h0 : 0 < k) (hk : k ≤ 100000000) :
    Calls Tryz.prog 72 #[.int .i64 k] w fun e w' => e = .returned (.string (mtx k)) ∧ Below w.heap.size w w' := by
  have k0 : ¬ (k : Int) ≤ 0 := by omega
  go_enter Tryz.func72, Tryz.ntmps72
  go_wp2
  go_loopw [0, 3] (fun x o wr => ∃ (m f : Nat) (s : ByteArray), x = .int .i64 m ∧ m ≤ 100000000 ∧ o = .string s ∧ s.size + m ≤ 100000001 ∧ m ≤ f ∧ dgs f m s = dgs k k ⟨#[]⟩ ∧ Below w.heap.size w wr) (fun x _ _ => (intOf x).toNat)
  case atStart => exact ⟨k, k, ⟨#[]⟩, rfl, hk, rfl, by have : (⟨#[]⟩ : ByteArray).size = 0 := rfl; omega, Nat.le_refl _, rfl, Below.refl _ _⟩
  case round =>
    obtain ⟨m, f, s, rfl, hm, rfl, hs, hf, hd, hbl⟩ := hrel
    have HB := Hid.mk' hbl
    have HD := Hid.mk' hd
    clear hbl hd
    by_cases hz : 0 < m
    · have ci : (m : Int) > 0 := by omega
      have hcv := conv_one wr
      have hst := strI_one (48 + (m : Int) % 10)
      obtain ⟨f', hf', hd'⟩ := dgs_step f m s hz hf
      have HD' := Hid.mk' hd'
      clear hd'
      go_wp2
      go_roundw
      case rel => exact ⟨m / 10, f', _, by go_num, by omega, rfl, by rw [ByteArray.size_append, hst]; omega, hf', by rw [← HD.out, HD'.out], HB.out.alloc HB.out.size _⟩
      case measure => simp [intOf]; omega
    · have ci : ¬ (m : Int) > 0 := by omega
      have em : m = 0 := by omega
      subst em
      have E : Hid (⟨#[109]⟩ ++ s = mtx k) := Hid.mk' (by unfold mtx; rw [← HD.out, dgs_zero])
      go_wp2
      go_ret
      exact ⟨by rw [← E.out]; rfl, HB.out⟩

def mkA : Nat → List AT → List AT
  | _, [] => []
  | k, a :: l => ⟨mtx k, mb (k + 1) a.vl.length⟩ :: mkA (k + 1 + a.vl.length) l
theorem mkA_len : ∀ (k : Nat) (l : List AT), (mkA k l).length = l.length
  | _, [] => rfl
  | k, a :: l => by simp [mkA, mkA_len]
theorem mkA_snoc : ∀ (k : Nat) (l : List AT) (a : AT), mkA k (l ++ [a]) = mkA k l ++ [⟨mtx (k + l.length + vsz l), mb (k + l.length + vsz l + 1) a.vl.length⟩]
  | k, [], a => by simp [mkA, vsz]
  | k, b :: l, a => by
    simp only [List.cons_append, mkA, mkA_snoc (k + 1 + b.vl.length) l a, List.length_cons, vsz]
    rw [show k + 1 + b.vl.length + l.length + vsz l = k + (l.length + 1) + (b.vl.length + vsz l) from by omega]
theorem mkA_get {k : Nat} {l : List AT} {i : Nat} (h : i < l.length) : atK (mkA k l) i = ⟨mtx (k + i + vsz (l.take i)), mb (k + i + vsz (l.take i) + 1) (atK l i).vl.length⟩ := by
  induction l generalizing k i with
  | nil => exact absurd h (Nat.not_lt_zero _)
  | cons b l ih =>
    cases i with
    | zero => simp [mkA, atK, vsz]
    | succ i =>
      have := ih (k := k + 1 + b.vl.length) (i := i) (by simpa using h)
      have e1 : atK (mkA k (b :: l)) (i + 1) = atK (mkA (k + 1 + b.vl.length) l) i := by simp [mkA, atK]
      have e2 : atK (b :: l) (i + 1) = atK l i := by simp [atK]
      rw [e1, this, e2]
      simp only [List.take_succ_cons, vsz]
      rw [show k + 1 + b.vl.length + i + vsz (l.take i) = k + (i + 1) + (b.vl.length + vsz (l.take i)) from by omega]

theorem acs_set : ∀ (l : List AT) (us : List Value) (i : Nat) (a : AT), us.length = l.length → i < l.length → acs (l.set i a) us = (acs l us).set (i * 2) (.string a.nm)
  | [], us, i, a, _, h => absurd h (Nat.not_lt_zero _)
  | b :: l, [], i, a, h, _ => by simp at h
  | b :: l, u :: us, 0, a, h, _ => by simp [acs]
  | b :: l, u :: us, i + 1, a, h, hi => by
    have := acs_set l us i a (by simpa using h) (by simpa using hi)
    rw [show (i + 1) * 2 = i * 2 + 1 + 1 from by omega]
    simp [acs, this]

theorem own_cell {w : World} {base g n cap : Nat} {e : TypeId} {xs : List Value} (h : w.ownsRow base e 2 (.slice (some ⟨g, 0, none⟩) n cap) n xs) (j : Nat) (hj : j < n * 2) (x : Value) : (w.setCell ⟨g, j, none⟩ x).ownsRow base e 2 (.slice (some ⟨g, 0, none⟩) n cap) n (xs.set j x) := by
  refine ⟨by rw [List.length_set]; exact h.1, .inr ?_⟩
  rcases h.2 with ⟨h0, _⟩ | ⟨g', cap', cur, hv, hg, hh, hc, hm, hs, ht⟩
  · cases h0
  · cases hv
    refine ⟨g, cap, cur.setIfInBounds j x, rfl, hg, ?_, hc, hm, by simpa using hs, ?_⟩
    · simp [World.setCell, Array.getElem?_modify, hh]
    · rw [← ht]
      simp [List.take_set]

theorem set_get (l : List AT) (i j : Nat) (a : AT) (h : i < l.length) : atK (l.set i a) j = if j = i then a else atK l j := by
  unfold atK
  by_cases e : j = i
  · subst e; simp [List.getD_eq_getElem?_getD, h]
  · rw [if_neg e]; simp [List.getD_eq_getElem?_getD, List.getElem?_set, Ne.symm e]

theorem OA.name {lo g cap : Nat} {w : World} {l : List AT} {us : List Value} (h : OA lo w (.slice (some ⟨g, 0, none⟩) l.length cap) l us) (i : Nat) (hi : i < l.length) (s : ByteArray) : OA lo (w.setCell ⟨g, i * 2, none⟩ (.string s)) (.slice (some ⟨g, 0, none⟩) l.length cap) (l.set i ⟨s, (atK l i).vl⟩) us := by
  have hg : ∀ j, j < l.length → ∀ k, (us.getD j undef).ownBlock = some k → k ≠ g := fun j hj k e ek => h.av j hj k (by rw [ek]; rfl) e
  refine ⟨by rw [List.length_set]; exact h.len, ?_, fun j hj => ?_, fun j hj => h.vlo j (by simpa using hj), fun a b hab hb => h.ap a b hab (by simpa using hb), fun j hj => h.av j (by simpa using hj)⟩
  · rw [acs_set l us i _ h.len hi, List.length_set]
    exact own_cell h.row (i * 2) (by omega) _
  · rw [List.length_set] at hj
    rw [set_get l i j _ hi]
    have : OB (w.setCell ⟨g, i * 2, none⟩ (.string s)) (us.getD j undef) (atK l j).vl := (h.val j hj).keep (fun k e _ => Deep.blk_setCell_other _ _ _ _ (hg j hj k e))
    by_cases e : j = i
    · subst e; rw [if_pos rfl]; exact this
    · rw [if_neg e]; exact this

theorem set_same {α : Type} : ∀ (l : List α) (i : Nat) (x : α), l[i]? = some x → l.set i x = l
  | [], i, x, h => by simp at h
  | a :: l, 0, x, h => by simp at h; simp [h]
  | a :: l, i + 1, x, h => by simp at h; simp [set_same l i x h]

theorem OA.value {lo : Nat} {w w' : World} {v : Value} {l : List AT} {us : List Value} (h : OA lo w v l us) (i : Nat) (hi : i < l.length) (m : List Int) (ho : OB w' (us.getD i undef) m) (ht : Turned (us.getD i undef) w w') : OA lo w' v (l.set i ⟨(atK l i).nm, m⟩) us := by
  have hb : ∀ k, k < w.heap.size → (us.getD i undef).ownBlock ≠ some k → w'.heap[k]? = w.heap[k]? := fun k hk hn => ht.block k hk hn
  have nms : acs (l.set i ⟨(atK l i).nm, m⟩) us = acs l us := by
    rw [acs_set l us i _ h.len hi]
    have := (acs_get l us i h.len hi).1
    exact set_same _ _ _ this
  refine ⟨by rw [List.length_set]; exact h.len, ?_, fun j hj => ?_, fun j hj => h.vlo j (by simpa using hj), fun a b hab hb' => h.ap a b hab (by simpa using hb'), fun j hj => h.av j (by simpa using hj)⟩
  · rw [nms, List.length_set]
    exact own_of h.row (Nat.le_refl _) (fun k e _ => hb k (h.row.lt k e).2 (fun e2 => h.av i hi k e e2))
  · rw [List.length_set] at hj
    rw [set_get l i j _ hi]
    by_cases e : j = i
    · subst e; rw [if_pos rfl]; exact ho
    · rw [if_neg e]
      refine (h.val j hj).keep (fun k e1 hl => hb k hl (fun e2 => ?_))
      rcases Nat.lt_or_gt_of_ne e with hlt | hgt
      · exact h.ap j i hlt hi k e1 e2
      · exact h.ap i j hgt hj k e2 e1

theorem OA.spot {lo : Nat} {w : World} {v : Value} {l : List AT} {us : List Value} (h : OA lo w v l us) (hl : 0 < l.length) : ∃ g cap, v = .slice (some ⟨g, 0, none⟩) l.length cap ∧ lo ≤ g ∧ g < w.heap.size ∧ ∀ k, k < l.length → w.cell? ⟨g, k * 2, none⟩ = some (.string (atK l k).nm) ∧ w.cell? ⟨g, k * 2 + 1, none⟩ = some (us.getD k undef) ∧ w.frozen? ⟨g, k * 2, none⟩ = false := by
  rcases h.row.2 with ⟨rfl, h0⟩ | ⟨g, cap, cur, rfl, hg, hh, hc, hm, hs, ht⟩
  · omega
  · refine ⟨g, cap, rfl, hg, ?_, fun k hk => ?_⟩
    · exact Nat.lt_of_not_le fun hn => by rw [Array.getElem?_eq_none hn] at hh; cases hh
    · obtain ⟨h1, h2⟩ := acs_get l us k h.len hk
      rw [← ht] at h1 h2
      rw [List.getElem?_take_of_lt (by omega)] at h1 h2
      have q : ∀ i, w.cell? ⟨g, i, none⟩ = cur[i]? := fun i => Lib.cell_of_heap hh i
      exact ⟨by rw [q, ← h1]; simp, by rw [q, ← h2]; simp, Lib.frozen_of_heap hh _⟩

def half (z : Nat) (l : List AT) (k : Nat) : List AT := mkA z (l.take k) ++ l.drop k
theorem half_len (z : Nat) (l : List AT) (k : Nat) : (half z l k).length = l.length := by simp [half, mkA_len]; omega
theorem half_get (z : Nat) (l : List AT) (k : Nat) (h : k < l.length) : atK (half z l k) k = atK l k := by
  have e : (mkA z (l.take k)).length = k := by rw [mkA_len, List.length_take]; omega
  unfold half atK
  rw [List.getD_eq_getElem?_getD, List.getElem?_append_right (by omega), e, Nat.sub_self, List.getElem?_drop, Nat.add_zero, ← List.getD_eq_getElem?_getD]
theorem half_set (z : Nat) (l : List AT) (k : Nat) (h : k < l.length) : (half z l k).set k ⟨mtx (z + k + vsz (l.take k)), mb (z + k + vsz (l.take k) + 1) (atK l k).vl.length⟩ = half z l (k + 1) := by
  have e : (mkA z (l.take k)).length = k := by rw [mkA_len, List.length_take]; omega
  have e2 : l.take (k + 1) = l.take k ++ [atK l k] := by
    rw [List.take_add_one, List.getElem?_eq_getElem h]
    simp [atK, List.getD_eq_getElem?_getD, List.getElem?_eq_getElem h]
  have e3 : (l.take k).length = k := by rw [List.length_take]; omega
  unfold half
  rw [e2, mkA_snoc, e3, List.set_append_right _ _ (by omega), e, Nat.sub_self, List.drop_eq_getElem_cons h, List.set_cons_zero, List.append_assoc]
  rfl

def AFree (v : Value) (us : List Value) (n j : Nat) : Prop := v.ownBlock ≠ some j ∧ ∀ i, i < n → (us.getD i undef).ownBlock ≠ some j

set_option maxHeartbeats 3200000 in
theorem markAttrS_is (z lo : Nat) (v : Value) (l : List AT) (us : List Value) (w : World) (h : OA lo w v l us) (hlo : lo ≤ w.heap.size) (hz : 0 < z) (hz2 : (z : Int) ≤ 90000000) (hl : (l.length : Int) + asz l ≤ 2000000) :
    Calls Tryz.prog 73 #[v, .int .i64 (z : Int)] w fun e w' => e = .returned (.int .i64 ((z : Int) + (l.length : Int) + (vsz l : Int))) ∧ OA lo w' v (mkA z l) us ∧ Kp (AFree v us l.length) w w' := by
  have HM := Hid.mk' h
  obtain ⟨av, cv, rfl, _⟩ := h.at
  clear h
  go_enter Tryz.func73, Tryz.ntmps73
  go_wp2
  go_loopw [1, 5] (fun x i wr => ∃ k : Nat, k ≤ l.length ∧ i = .int .i64 k ∧ x = .int .i64 ((z + k + vsz (l.take k) : Nat) : Int) ∧ OA lo wr (.slice av l.length cv) (half z l k) us ∧ Kp (AFree (.slice av l.length cv) us l.length) w wr) (fun _ i _ => l.length - (intOf i).toNat)
  case atStart => exact ⟨0, Nat.zero_le _, rfl, by simp [vsz], by simpa [half, mkA] using HM.out, Kp.refl _ _⟩
  case round =>
    obtain ⟨k, hk, rfl, rfl, hoa, hbl⟩ := hrel
    have HR := Hid.mk' hoa
    have HB := Hid.mk' hbl
    have szr := hbl.size
    clear hbl
    by_cases hlt : k < l.length
    · have ci : (k : Int) < (l.length : Int) := by omega
      have st := vsz_take l k hlt
      have sl := vsz_le l (k + 1)
      have hln := half_len z l k
      obtain ⟨g, cap, ev, hg1, hg2, hcell⟩ := hoa.spot (by omega)
      rw [hln] at ev
      cases ev
      obtain ⟨q, hq⟩ : ∃ q : Nat, z + k + vsz (l.take k) = q := ⟨_, rfl⟩
      have hq1 : z + (k + 1) + vsz (l.take (k + 1)) = q + 1 + (atK l k).vl.length := by omega
      have hq2 : q + 1 + (atK l k).vl.length ≤ 100000000 := by omega
      have Q1 := Hid.mk' hq1
      have HS := half_set z l k hlt
      rw [hq] at HS
      have HS := Hid.mk' HS
      have KT := Hid.mk' (markText_is q wr (by omega) (by omega))
      rw [hq]
      clear st sl hq hq1 hoa hcell
      go_wp2_with fail
      refine KT.out.mono ?_
      rintro e w1 ⟨rfl, hb⟩
      have O1 := HR.out.below hb
      obtain ⟨g', cap', ev, hg3, hg4, hcell⟩ := O1.spot (by omega)
      rw [hln] at ev
      cases ev
      obtain ⟨c0, c1, c2⟩ := hcell k (by omega)
      have O2 : OA lo (w1.setCell ⟨g, k * 2, none⟩ (.string (mtx q))) (.slice (some ⟨g, 0, none⟩) l.length cv) ((half z l k).set k ⟨mtx q, (atK l k).vl⟩) us := by
        have := OA.name (cap := cv) (g := g) (by rw [hln]; exact O1) k (by omega) (mtx q)
        rw [half_get z l k hlt, hln] at this
        exact this
      have hl2 : ((half z l k).set k ⟨mtx q, (atK l k).vl⟩).length = l.length := by rw [List.length_set]; exact hln
      have V2 := O2.val k (by omega)
      rw [set_get _ _ _ _ (by omega), if_pos rfl] at V2
      have KB := markByteS_own (q + 1) (us.getD k undef) (atK l k).vl _ V2 (by omega)
      obtain ⟨pu, cu, eu, _⟩ := V2.len
      have B2 := Hid.mk' ((HB.out.trans (Kp.of_below hb)).setCell (q := ⟨g, k * 2, none⟩) (fun e => e.1 rfl) (.string (mtx q)))
      have d1 : (w1.setCell ⟨g, k * 2, none⟩ (.string (mtx q))).cell? ⟨g, k * 2 + 1, none⟩ = some (.slice pu (atK l k).vl.length cu) := by
        obtain ⟨g'', cap'', ev, _, _, hc2⟩ := O2.spot (by omega)
        rw [hl2] at ev
        cases ev
        have := (hc2 k (by omega)).2.1
        rw [this, eu]
      rw [eu] at KB
      have KB := Hid.mk' KB
      have O2 := Hid.mk' O2
      have EU := Hid.mk' eu
      have s2 : (w1.setCell ⟨g, k * 2, none⟩ (.string (mtx q))).heap.size = w1.heap.size := by simp [World.setCell]
      have sb := hb.size
      clear hb O1 KT HR hcell V2 eu c1
      generalize hV : w1.setCell ⟨g, k * 2, none⟩ (.string (mtx q)) = V at *
      go_wp2_with fail
      clear hV
      refine KB.out.mono ?_
      rintro e w2 ⟨rfl, hob, htu⟩
      rw [← EU.out] at hob htu
      have O3 := O2.out.value k (by omega) (mb (q + 1) (atK l k).vl.length) hob htu
      rw [set_get _ _ _ _ (by omega), if_pos rfl, List.set_set, HS.out] at O3
      have O3 := Hid.mk' O3
      have B3 := Hid.mk' (B2.out.trans (Kp.of_turned htu (fun j e => e.2 k hlt)))
      clear hob htu KB
      go_wp2
      go_roundw
      case rel => exact ⟨k + 1, by omega, by go_num, by rw [Q1.out]; simp, O3.out, B3.out⟩
      case measure => simp [intOf]; omega
    · have ci : ¬ (k : Int) < (l.length : Int) := by omega
      have e : k = l.length := by omega
      subst e
      have EH : half z l l.length = mkA z l := by unfold half; rw [List.take_length, List.drop_length, List.append_nil]
      rw [EH] at hoa
      have HO := Hid.mk' hoa
      clear hoa HR
      rw [List.take_length]
      go_wp2
      go_ret
      exact ⟨ret_num (by omega), HO.out, HB.out⟩

set_option maxHeartbeats 3200000 in
theorem heldAttrS_is (z : Nat) (a : Option Addr) (c : Nat) (l : List AT) (w : World) (ha : AAt w a (mkA z l)) (hz : 0 < z) (hz2 : (z : Int) ≤ 90000000) (hl : (l.length : Int) + asz l ≤ 2000000) :
    Calls Tryz.prog 81 #[.slice a l.length c, .int .i64 (z : Int)] w fun e w' => e = .returned (.int .i64 ((z : Int) + (l.length : Int) + (vsz l : Int))) ∧ Below w.heap.size w w' := by
  have HA := Hid.mk' ha
  clear ha
  go_enter Tryz.func81, Tryz.ntmps81
  go_wp2
  go_loopw [1, 5] (fun x i wr => ∃ k : Nat, k ≤ l.length ∧ i = .int .i64 k ∧ x = .int .i64 ((z + k + vsz (l.take k) : Nat) : Int) ∧ Below w.heap.size w wr) (fun _ i _ => l.length - (intOf i).toNat)
  case atStart => exact ⟨0, Nat.zero_le _, rfl, by simp [vsz], Below.refl _ _⟩
  case round =>
    obtain ⟨k, hk, rfl, rfl, hbl⟩ := hrel
    have HB := Hid.mk' hbl
    by_cases hlt : k < l.length
    · have ci : (k : Int) < (l.length : Int) := by omega
      have st := vsz_take l k hlt
      have sl := vsz_le l (k + 1)
      rcases HA.out.below hbl with h0 | ⟨b1, o1, rfl, s1, hc1⟩
      · have := mkA_len z l; rw [h0] at this; simp at this; omega
      obtain ⟨h1, p1, d1, h2, h3⟩ := hc1 k (by rw [mkA_len]; exact hlt)
      rw [mkA_get hlt] at h1 h2 h3
      obtain ⟨q, hq⟩ : ∃ q : Nat, z + k + vsz (l.take k) = q := ⟨_, rfl⟩
      rw [hq] at h1 h2 h3 ⊢
      have hq1 : z + (k + 1) + vsz (l.take (k + 1)) = q + 1 + (atK l k).vl.length := by omega
      have hq2 : q + 1 + (atK l k).vl.length ≤ 100000000 := by omega
      have Q1 := Hid.mk' hq1
      simp only [mb_len] at h1 h2 h3
      have H3 := Hid.mk' h3
      have KT := Hid.mk' (markText_is q wr.drew (by omega) (by omega))
      clear st sl hq hq1 hc1 h3 hbl
      go_wp2_with fail
      go_region_held3 (fun w' => w'.cell? ⟨b1, o1 + k * 2, none⟩ = some (.string (mtx q))) (simp [*])
        ((go_at_call 72; refine KT.out.mono ?_; rintro e w1 ⟨rfl, hb1⟩; replace hb1 := undrew hb1; obtain ⟨hx1, hx2⟩ := bcell hb1))
      have B1 := Hid.mk' (HB.out.trans (hb1.mono HB.out.size))
      have g2 : w1.cell? ⟨b1, o1 + k * 2 + 1, none⟩ = some (.slice p1 (atK l k).vl.length d1) := (hx1 _ _ s1).trans h2
      have KB := Hid.mk' (heldByteS_any p1 d1 (atK l k).vl.length (q + 1) w1 (H3.out.below hb1) (by omega))
      clear hb1 hx1 hx2 KT
      go_wp2_with fail
      refine KB.out.mono ?_
      rintro e w2 ⟨rfl, hb2⟩
      have B2 := Hid.mk' (B1.out.trans (hb2.mono B1.out.size))
      have zz : ¬ (((q + 1 : Nat) : Int) + (atK l k).vl.length < 0) := by omega
      clear hb2 KB
      go_wp2
      go_roundw
      case rel => exact ⟨k + 1, by omega, by go_num, by rw [Q1.out]; simp, B2.out⟩
      case measure => simp [intOf]; omega
    · have ci : ¬ (k : Int) < (l.length : Int) := by omega
      have e : k = l.length := by omega
      subst e
      rw [List.take_length]
      go_wp2
      go_ret
      exact ⟨ret_num (by omega), HB.out⟩

end Go.Proofs.YtdloogkjnjklcaaGreatDoor
