/- The program's lexer: which method takes the next byte. -/
import Derived.Test.YtlimgcmhidooaaaGreatDoorM19
import Derived.Test.YtlimgcmhidooaaaGreatDoorM20
import Derived.Lib.SlBytesConst
set_option maxHeartbeats 3200000
set_option maxRecDepth 100000
set_option linter.unusedVariables false
set_option linter.unusedSimpArgs false
namespace Go.Proofs.YtlimgcmhidooaaaGreatDoor
open Go.RowKit
def stN (hs : List Int) : Nat := if hs = [] then 82 else if hs.getD 0 0 = 38 then 83 else if noteB hs = true then 85 else 86
theorem bytesOf_strI (l : List Int) : (strI l).toList = Lib.bytesOf l := by
 have : ∀ (l : List Int) (r : ByteArray), (l.foldl (fun r n => r.push (UInt8.ofNat n.toNat)) r).data.toList = r.data.toList ++ Lib.bytesOf l := by
  intro l
  induction l with
  | nil => intro r; simp [Lib.bytesOf]
  | cons x l ih =>
   intro r
   rw [List.foldl_cons, ih]
   simp [Lib.bytesOf, ByteArray.push]
 rw [Lib.toList_data]
 unfold strI
 rw [this]
 rfl
theorem note_prefix (l : List Int) : Lib.hasPrefix (Lib.bytesOf l) (Lib.bytesOf [60, 33, 45, 45]) = noteB l := by
 have e4 : Lib.bytesOf [60, 33, 45, 45] = [60, 33, 45, 45] := rfl
 unfold noteB
 rw [bytesOf_strI, e4]
 match l with
 | [] => rfl
 | [a] => simp [Lib.hasPrefix, Lib.bytesOf, List.isPrefixOf]
 | [a, b] => simp [Lib.hasPrefix, Lib.bytesOf, List.isPrefixOf]
 | [a, b, c] => simp [Lib.hasPrefix, Lib.bytesOf, List.isPrefixOf]
 | a :: b :: c :: d :: r =>
  have h4 : decide (4 ≤ (a :: b :: c :: d :: r).length) = true := by simp
  rw [h4, Bool.true_and]
  simp only [Lib.hasPrefix, Lib.bytesOf, List.map_cons, List.isPrefixOf, List.take_succ_cons, List.take_zero, List.map_nil]
  rw [Bool.eq_iff_iff]
  simp only [Bool.and_eq_true, beq_iff_eq, List.cons.injEq, and_true]
  constructor
  ·rintro ⟨h1, h2, h3, h4⟩; exact ⟨h1.symm, h2.symm, h3.symm, h4.symm⟩
  ·rintro ⟨h1, h2, h3, h4⟩; exact ⟨h1.symm, h2.symm, h3.symm, h4.symm⟩
theorem quotes_count : ∀ (l : List Int), (∀ x ∈ l, 0 ≤ x ∧ x ≤ 255) → Lib.countByte (Lib.bytesOf l) 34 = quotes l
 | [], _ => rfl
 | x :: l, h => by
  have ih := quotes_count l (fun y hy => h y (List.mem_cons_of_mem _ hy))
  obtain ⟨h0, h1⟩ := h x (List.mem_cons_self ..)
  have e : (UInt8.ofNat x.toNat == 34) = decide (x = 34) := by
   rw [Bool.eq_iff_iff, beq_iff_eq, decide_eq_true_iff]
   constructor
   ·intro hx
    have := congrArg UInt8.toNat hx
    simp at this
    omega
   ·rintro rfl; rfl
  have hq : quotes (x :: l) = (if x = 34 then 1 else 0) + quotes l := rfl
  unfold Lib.countByte Lib.bytesOf at ih ⊢
  rw [List.map_cons, List.count_cons, ih, e, hq]
  by_cases hx : x = 34 <;> simp [hx, Nat.add_comm]
theorem Byt.mem {l : List Int} (h : Byt l) : ∀ x ∈ l, 0 ≤ x ∧ x ≤ 255 := fun x hx => by
 obtain ⟨k, hk, e⟩ := List.getElem_of_mem hx
 have := h k hk
 simpa [List.getD_eq_getElem?_getD, hk, e] using this
theorem cell_in (w : World) (xs : Array Value) (t : TypeId) (r : Nat × Nat) (i : Nat) : (w.alloc (.cells xs t r)).cell? ⟨w.heap.size, i, none⟩ = xs[i]? := by
 unfold World.cell?
 have h : (w.alloc (.cells xs t r)).heap[w.heap.size]? = some (.cells xs t r) := Deep.blk_alloc_new _ _
 dsimp only
 rw [h]
 rfl
theorem lexState_any (lo g : Nat) (w : World) (hs : List Int) (ts : List TK) (h : LXs lo g w hs ts) (hu : Byt hs) (hl : hs.length ≤ 200) :
  Calls Tryz.prog 54 #[.pointer (some ⟨g, 0, none⟩)] w fun e w' => e = .returned (.func (.func (stN hs)) #[.pointer (some ⟨g, 0, none⟩)] #[]) ∧ LXs lo g w' hs ts ∧ Below lo w w' := by
 have HS := Hid.mk' h
 obtain ⟨hv, tv, us, rs, bl, bh, h⟩ := h
 have lg := h.lg
 obtain ⟨c0, c1, c2⟩ := cellsQ2 h.box
 obtain ⟨p, c, rfl, hb⟩ := own_bat h.held
 by_cases h0 : hs = []
 ·have E : Hid (stN hs = 82) := Hid.mk' (by unfold stN; rw [if_pos h0])
  subst h0
  clear h
  go_enter Tryz.func54, Tryz.ntmps54
  go_wp2
  go_ret
  exact ⟨by rw [E.out]; rfl, HS.out, Below.refl _ _⟩
 have hp : 0 < hs.length := List.length_pos_iff.2 h0
 have hz : ((hs.length : Int) == 0) = false := by simp; omega
 rcases hb with hb | ⟨b, o, rfl, hlt, hc⟩
 ·exact absurd hb h0
 have d0 : w.cell? ⟨b, o + 0, none⟩ = some (.int .u8 (hs.getD 0 0)) := hc 0 hp
 rw [Nat.add_zero] at d0
 obtain ⟨y, hy⟩ : ∃ y, hs.getD 0 0 = y := ⟨_, rfl⟩
 rw [hy] at d0
 by_cases h1 : hs.getD 0 0 = 38
 ·have E : Hid (stN hs = 83) := Hid.mk' (by unfold stN; rw [if_neg h0, if_pos h1])
  rw [← hy, h1] at d0
  clear h hc h1 h0 hy
  go_enter Tryz.func54, Tryz.ntmps54
  go_wp2
  go_ret
  exact ⟨by rw [E.out]; rfl, HS.out, Below.refl _ _⟩
 have e1 : (y == 38) = false := by rw [← hy]; simpa using h1
 obtain ⟨a9, c9, e9, hcap⟩ := own_cap h.held
 cases e9
 have kcv := Lib.run_convert_bytes_const (P := Tryz.prog) w 22 5 #[.int .u8 60, .int .u8 33, .int .u8 45, .int .u8 45] 4 4 Tryz.underlying22 Tryz.underlying5
 have NB := below_new w (.cells #[.int .u8 60, .int .u8 33, .int .u8 45, .int .u8 45] 5 (4, 5))
 have KH := Tryz.bytes_HasPrefix b o hs.length c w.heap.size 0 4 4 hs [60, 33, 45, 45] (w.alloc (.cells #[.int .u8 60, .int .u8 33, .int .u8 45, .int .u8 45] 5 (4, 5))) rfl rfl hcap (fun i hi => (NB.cell hlt).trans (hc i hi)) (fun i hi => by
  have : i = 0 ∨ i = 1 ∨ i = 2 ∨ i = 3 := by omega
  rw [Nat.zero_add, cell_in]
  rcases this with rfl | rfl | rfl | rfl <;> rfl)
 rw [note_prefix] at KH
 have KH := Hid.mk' KH
 have BB := Hid.mk' NB
 have HL := Hid.mk' h
 clear hc NB h
 cases hn : noteB hs with
 | true =>
  have E : Hid (stN hs = 85) := Hid.mk' (by unfold stN; rw [if_neg h0, if_neg h1, if_pos hn])
  rw [hn] at KH
  clear h1 h0 hn hy
  go_enter Tryz.func54, Tryz.ntmps54
  go_wp2_with fail
  refine KH.out.mono ?_
  rintro e w2 ⟨rfl, hw⟩
  obtain rfl := hw.symm
  go_wp2
  go_ret
  exact ⟨by rw [E.out]; rfl, ⟨_, _, _, _, _, _, HL.out.below BB.out⟩, BB.out.mono (by omega)⟩
 | false =>
  have E : Hid (stN hs = 86) := Hid.mk' (by unfold stN; rw [if_neg h0, if_neg h1, if_neg (by rw [hn]; exact Bool.false_ne_true)])
  rw [hn] at KH
  clear h1 h0 hn hy
  go_enter Tryz.func54, Tryz.ntmps54
  go_wp2_with fail
  refine KH.out.mono ?_
  rintro e w2 ⟨rfl, hw⟩
  obtain rfl := hw.symm
  go_wp2
  go_ret
  exact ⟨by rw [E.out]; rfl, ⟨_, _, _, _, _, _, HL.out.below BB.out⟩, BB.out.mono (by omega)⟩
theorem isRefByte_any (b : Nat) (w : World) (hb : b ≤ 255) :
  Calls Tryz.prog 104 #[.int .u8 (b : Int)] w fun e w' => e = .returned (.bool (refB b)) ∧ w' = w := by
 have E : Hid (refB b = ((decide ((97 : Int) ≤ b) && decide ((b : Int) ≤ 122)) || (decide ((48 : Int) ≤ b) && decide ((b : Int) ≤ 57)) || ((b : Int) == 35))) := Hid.mk' (by
  unfold refB ltrB
  rw [Bool.eq_iff_iff]
  simp
  omega)
 rw [E.out]
 by_cases h1 : (97 : Int) ≤ b
 ·by_cases h2 : (b : Int) ≤ 122
  ·go_enter Tryz.func104, Tryz.ntmps104
   go_wp2_with go_big_skip
   go_ret
   exact ⟨by simp [h1, h2], rfl⟩
  ·have h3 : (48 : Int) ≤ b := by omega
   have h4 : ¬ (b : Int) ≤ 57 := by omega
   have h5 : ((b : Int) == 35) = false := by simp; omega
   go_enter Tryz.func104, Tryz.ntmps104
   go_wp2_with go_big_skip
   go_ret
   exact ⟨by simp [h1, h2, h3, h4, h5], rfl⟩
 ·by_cases h3 : (48 : Int) ≤ b
  ·by_cases h4 : (b : Int) ≤ 57
   ·go_enter Tryz.func104, Tryz.ntmps104
    go_wp2_with go_big_skip
    go_ret
    exact ⟨by simp [h1, h3, h4], rfl⟩
   ·have h5 : ((b : Int) == 35) = false := by simp; omega
    go_enter Tryz.func104, Tryz.ntmps104
    go_wp2_with go_big_skip
    go_ret
    exact ⟨by simp [h1, h3, h4, h5]; omega, rfl⟩
  ·cases h5 : ((b : Int) == 35)
   ·go_enter Tryz.func104, Tryz.ntmps104
    go_wp2_with go_big_skip
    go_ret
    exact ⟨by simp [h1, h3, h5]; omega, rfl⟩
   ·go_enter Tryz.func104, Tryz.ntmps104
    go_wp2_with go_big_skip
    go_ret
    exact ⟨by simp [h1, h3, h5], rfl⟩
theorem bytesT_two (ts : List TK) (a b : List Int) : ts ++ bytesT a ++ bytesT b = ts ++ bytesT (a ++ b) := by simp [bytesT]
theorem inRef_any (B lo g : Nat) (tp : TypeId) (pv : Value) (b : Nat) (w : World) (hs : List Int) (ts : List TK) (h : LXs lo g w hs ts) (hE : Env B tp pv w) (hB : B ≤ lo) (hu : Byt hs) (hb : b ≤ 255) (hl : hs.length ≤ 159) (hn : ts.length ≤ 800000) :
  Calls Tryz.prog 83 #[.pointer (some ⟨g, 0, none⟩), .int .u8 (b : Int)] w fun e w' => LxP lo g (refH hs b) (ts ++ bytesT (refT hs b)) w e w' := by
 by_cases h59 : b = 59
 ·subst h59
  have KC := Hid.mk' (closeRef_any B lo g tp pv w hs ts h hE hB hu (by omega) (by omega))
  have E : Hid (refH hs 59 = []) := Hid.mk' (by unfold refH; rw [if_pos rfl])
  clear h hE
  go_enter Tryz.func83, Tryz.ntmps83
  go_wp2_with fail
  refine KC.out.mono ?_
  rintro e w1 ⟨⟨v, rfl⟩, hx, hb1⟩
  have HX := Hid.mk' hx
  have B1 := Hid.mk' hb1
  clear hx hb1 KC
  go_wp2
  go_end0
  exact ⟨⟨_, rfl⟩, by rw [E.out]; exact HX.out, B1.out⟩
 have h59' : ((b : Int) == 59) = false := by simp; omega
 have KI := isRefByte_any b w hb
 cases hr : refB b with
 | true =>
  rw [hr] at KI
  have KI := Hid.mk' KI
  have KH := Hid.mk' (hold_any lo g b 6 w hs ts h hu hb (by omega) (by omega) (by omega))
  have E1 : Hid (refH hs b = holdH 6 hs b) := Hid.mk' (by unfold refH holdH; rw [if_neg h59, if_pos hr])
  have E2 : Hid (refT hs b = holdT 6 hs b) := Hid.mk' (by unfold refT holdT; rw [if_neg h59, if_pos hr])
  clear h hE h59
  go_enter Tryz.func83, Tryz.ntmps83
  go_wp2_with fail
  refine KI.out.mono ?_
  rintro e w2 ⟨rfl, hw⟩
  obtain rfl := hw.symm
  go_wp2_with fail
  refine KH.out.mono ?_
  rintro e w1 ⟨⟨v, rfl⟩, hx, hb1⟩
  have HX := Hid.mk' hx
  have B1 := Hid.mk' hb1
  clear hx hb1 KH KI
  go_wp2
  go_end0
  exact ⟨⟨_, rfl⟩, by rw [E1.out, E2.out]; exact HX.out, B1.out⟩
 | false =>
  rw [hr] at KI
  have KI := Hid.mk' KI
  have KG := Hid.mk' (letGo_any lo g w hs ts h hu (by omega))
  have E1 : Hid (refH hs b = noneH (b : Int)) := Hid.mk' (by unfold refH; rw [if_neg h59, if_neg (by rw [hr]; exact Bool.false_ne_true)])
  have E2 : Hid (refT hs b = hs ++ noneT (b : Int)) := Hid.mk' (by unfold refT; rw [if_neg h59, if_neg (by rw [hr]; exact Bool.false_ne_true)])
  clear h hE h59
  go_enter Tryz.func83, Tryz.ntmps83
  go_wp2_with fail
  refine KI.out.mono ?_
  rintro e w2 ⟨rfl, hw⟩
  obtain rfl := hw.symm
  go_wp2_with fail
  refine KG.out.mono ?_
  rintro e w1 ⟨⟨v, rfl⟩, hx, hb1⟩
  have KO := Hid.mk' (outside_any lo g b w1 _ hx hb (by rw [List.length_append, bytesT_len]; omega))
  have B1 := Hid.mk' hb1
  clear hx hb1 KG KI
  go_wp2_with fail
  refine KO.out.mono ?_
  rintro e w3 ⟨⟨v, rfl⟩, hx, hb3⟩
  have HX := Hid.mk' hx
  have B3 := Hid.mk' (B1.out.trans hb3)
  clear hx hb3 KO
  go_wp2
  go_end0
  refine ⟨⟨_, rfl⟩, ?_, B3.out⟩
  rw [E1.out, E2.out, ← bytesT_two]
  exact HX.out
theorem lenX_hold (hs : List Int) (b : Nat) : lenX hs b = (bytesT (holdT 160 hs b), holdH 160 hs b) := by
 unfold lenX holdT holdH
 by_cases h : 160 ≤ hs.length + 1
 ·rw [if_pos h, if_pos h, if_pos h]
 ·rw [if_neg h, if_neg h, if_neg h]; rfl
theorem inNote_any (B lo g : Nat) (tp : TypeId) (pv : Value) (b : Nat) (w : World) (hs : List Int) (ts : List TK) (h : LXs lo g w hs ts) (hE : Env B tp pv w) (hB : B ≤ lo) (hu : Byt hs) (hb : b ≤ 255) (hl : hs.length ≤ 159) (hn : ts.length ≤ 800000) (hnt : noteB hs = true) :
  Calls Tryz.prog 85 #[.pointer (some ⟨g, 0, none⟩), .int .u8 (b : Int)] w fun e w' => LxP lo g (tagX hs b).2 (ts ++ (tagX hs b).1) w e w' := by
 have hq : quotedB hs = false := by unfold quotedB; rw [hnt]; simp
 by_cases h62 : b = 62
 ·subst h62
  have KC := Hid.mk' (closeMark_any B lo g tp pv w hs ts h hE hB hl (by omega))
  have HU := Hid.mk' hu
  have E0 : Hid (tagX hs 62 = (match tagA (strU (hs ++ [62])) with | some t => ([t], []) | none => lenX hs 62)) := Hid.mk' (by
   unfold tagX
   rw [if_pos ⟨rfl, hq⟩, if_neg (by rw [hnt]; decide)]
   rfl)
  clear h hE hu hq
  go_enter Tryz.func85, Tryz.ntmps85
  go_wp2_with fail
  refine KC.out.mono ?_
  rintro e w1 (⟨ht, rfl, hx, hb1⟩ | ⟨t, ht, rfl, hx, hb1⟩)
  ·have KH := Hid.mk' (hold_any lo g 62 160 w1 hs ts hx HU.out hb (by omega) (by omega) (by omega))
   have B1 := Hid.mk' hb1
   rw [ht] at E0
   clear hx hb1 KC ht
   go_wp2_with fail
   refine KH.out.mono ?_
   rintro e w2 ⟨⟨v, rfl⟩, hx, hb2⟩
   have HX := Hid.mk' hx
   have B2 := Hid.mk' (B1.out.trans hb2)
   clear hx hb2 KH
   go_wp2
   go_end0
   refine ⟨⟨_, rfl⟩, ?_, B2.out⟩
   rw [E0.out]
   show LXs lo g _ (lenX hs 62).2 (ts ++ (lenX hs 62).1)
   rw [lenX_hold]
   exact HX.out
  ·have HX := Hid.mk' hx
   have B1 := Hid.mk' hb1
   rw [ht] at E0
   clear hx hb1 KC ht
   go_wp2
   (try simp only [Exit.inBlock, Exit.then])
   refine bodyPost_ret (results_none rfl _ _ _) rfl ?_
   exact ⟨⟨_, rfl⟩, by rw [E0.out]; exact HX.out, B1.out⟩
 ·have e62 : ((b : Int) == 62) = false := by simp; omega
  have E0 : Hid (tagX hs b = lenX hs b) := Hid.mk' (by
   unfold tagX
   rw [if_neg (fun x => h62 x.1), if_neg (fun x => by rw [hnt] at x; exact absurd x.2.2 (by decide))])
  have KH := Hid.mk' (hold_any lo g b 160 w hs ts h hu hb (by omega) (by omega) (by omega))
  clear h hE hu hq h62
  go_enter Tryz.func85, Tryz.ntmps85
  go_wp2_with fail
  refine KH.out.mono ?_
  rintro e w2 ⟨⟨v, rfl⟩, hx, hb2⟩
  have HX := Hid.mk' hx
  have B2 := Hid.mk' hb2
  clear hx hb2 KH
  go_wp2
  go_end0
  refine ⟨⟨_, rfl⟩, ?_, B2.out⟩
  rw [E0.out, lenX_hold]
  exact HX.out
theorem inTag_any (B lo g : Nat) (tp : TypeId) (pv : Value) (b : Nat) (w : World) (hs : List Int) (ts : List TK) (h : LXs lo g w hs ts) (hE : Env B tp pv w) (hB : B ≤ lo) (hu : Byt hs) (hb : b ≤ 255) (hl : hs.length ≤ 159) (hn : ts.length ≤ 800000) (h0 : ¬ hs = []) (hnt : noteB hs = false) :
  Calls Tryz.prog 86 #[.pointer (some ⟨g, 0, none⟩), .int .u8 (b : Int)] w fun e w' => LxP lo g (tagX hs b).2 (ts ++ (tagX hs b).1) w e w' := by
 obtain ⟨hv, tv, us, rs, bl, bh, h⟩ := h
 have lg := h.lg
 obtain ⟨c0, c1, c2⟩ := cellsQ2 h.box
 obtain ⟨p, c, rfl, hbt⟩ := own_bat h.held
 rcases hbt with hbt | ⟨a, o, rfl, hlt, hc⟩
 ·exact absurd hbt h0
 have NB := below_new w (.cells #[.int .u8 34] 5)
 have KC := Tryz.bytes_Count_one a o hs.length c w.heap.size 0 1 hs 34 (w.alloc (.cells #[.int .u8 34] 5)) rfl (fun i hi => (NB.cell hlt).trans (hc i hi)) (by simp)
 have e34 : ((34 : Int).toNat.toUInt8) = 34 := by decide
 rw [e34, quotes_count hs hu.mem] at KC
 have KC := Hid.mk' KC
 have hqb : Hid (quotedB hs = decide (quotes hs % 2 = 1)) := Hid.mk' (by unfold quotedB; rw [hnt]; simp)
 have ql := quotes_le hs
 have HL := Hid.mk' (h.below NB)
 have HB := Hid.mk' NB
 have HE := Hid.mk' hE
 have HU := Hid.mk' hu
 clear h hc hE hu NB
 have hcell := cellsQ2 HL.out.box
 generalize quotes hs = q at *
 have W1 : Hid (LXs lo g (w.alloc (.cells #[.int .u8 34] 5)) hs ts) := Hid.mk' ⟨_, _, _, _, _, _, HL.out⟩
 have EW := Hid.mk' (HE.out.keep ((HB.out).mono (show B ≤ w.heap.size by omega)))
 have BW := Hid.mk' (HB.out.mono (show lo ≤ w.heap.size by omega))
 by_cases hq : q % 2 = 1
 ·-- within quotes
  have hqi : ((q : Int) % 2 == 1) = true := by simp; omega
  have E0 : Hid (tagX hs b = lenX hs b) := Hid.mk' (by
   have : quotedB hs = true := by rw [hqb.out]; simpa using hq
   unfold tagX
   rw [if_neg (fun x => by rw [this] at x; exact absurd x.2 (by decide)), if_neg (fun x => by rw [this] at x; exact absurd x.2.1 (by decide))])
  have KH := Hid.mk' (hold_any lo g b 160 _ hs ts W1.out HU.out hb (by omega) (by omega) (by omega))
  clear hq hcell
  generalize hV : w.alloc (.cells #[.int .u8 34] 5) = V at *
  cases e62 : ((b : Int) == 62) <;> cases e60 : ((b : Int) == 60)
  all_goals
   go_enter Tryz.func86, Tryz.ntmps86
   go_wp2_with fail
   (try clear hV)
   refine KC.out.mono ?_
   rintro e w1 ⟨rfl, hw⟩
   obtain rfl := hw.symm
   go_wp2_with fail
   refine KH.out.mono ?_
   rintro e w2 ⟨⟨v, rfl⟩, hx, hb2⟩
   have HX := Hid.mk' hx
   have B2 := Hid.mk' (BW.out.trans hb2)
   clear hx hb2 KH
   go_wp2
   go_end0
   refine ⟨⟨_, rfl⟩, ?_, B2.out⟩
   rw [E0.out, lenX_hold]
   exact HX.out
 have hqi : ((q : Int) % 2 == 1) = false := by simp; omega
 have hqf : quotedB hs = false := by rw [hqb.out]; simpa using hq
 by_cases h62 : b = 62
 ·subst h62
  have KM := Hid.mk' (closeMark_any B lo g tp pv _ hs ts W1.out EW.out hB hl (by omega))
  have E0 : Hid (tagX hs 62 = (match tagA (strU (hs ++ [62])) with | some t => ([t], []) | none => (bytesT (hs ++ [62]), []))) := Hid.mk' (by
   unfold tagX
   rw [if_pos ⟨rfl, hqf⟩, if_pos hnt]
   rfl)
  clear hq hqf hcell
  generalize hV : w.alloc (.cells #[.int .u8 34] 5) = V at *
  go_enter Tryz.func86, Tryz.ntmps86
  go_wp2_with fail
  clear hV
  refine KC.out.mono ?_
  rintro e w1 ⟨rfl, hw⟩
  obtain rfl := hw.symm
  go_wp2_with fail
  refine KM.out.mono ?_
  rintro e w2 (⟨ht, rfl, hx, hb2⟩ | ⟨t, ht, rfl, hx, hb2⟩)
  ·obtain ⟨hv3, tv3, us3, rs3, bl3, bh3, h3⟩ := hx
   have N3 := below_new w2 (.cells #[.int .u8 62] 5)
   have HX := Hid.mk' (h3.below N3)
   have NC := Hid.mk' (new_cells' w2 5 [.int .u8 62] w2.heap.size rfl)
   have H := Hid.mk' h3
   obtain ⟨x0, x1, x2⟩ := cellsQ2 h3.box
   have HN := Hid.mk' N3
   have SZ : Hid (lo ≤ (w2.alloc (.cells #[.int .u8 62] 5)).heap.size) := Hid.mk' (by simp; omega)
   have P1 : Hid (∀ u ∈ ([.int .u8 62] : List Value), u.oneCell' = true) := Hid.mk' (by intro u hu'; rw [List.mem_singleton] at hu'; rw [hu']; rfl)
   obtain ⟨ha, hc', rfl, _⟩ := own_src h3.held
   have BX := Hid.mk' (BW.out.trans hb2)
   rw [ht] at E0
   clear h3 N3 KM hb2 ht c0 c1 c2 HL HB W1 EW BW
   go_wp2_with (first | (at_builtin; refine wpList_append_at _ rfl (.tmp 30) (.tmp 32) 22 rfl lo 5 (.int .u8 0) 1 1 Tryz.underlying22 Tryz.info5 rfl (by decide) _ _ _ rfl HX.out.held _ 1 _ [.int .u8 62] rfl rfl (.inr ⟨_, rfl, NC.out⟩) P1.out (by unfold maxLen; omega) (by omega) SZ.out ?_; intro v' w4 ho hgr hat; obtain ⟨a', c', rfl, _⟩ := own_src ho; obtain ⟨d1, f1⟩ := HX.out.spotH hgr) | fail)
   have L2 := holdX H.out HN.out ho hgr hat
   have B2 := Hid.mk' (BX.out.trans (heldBl HX.out HN.out hgr (.slice a' (hs.length + 1) c') (by omega)))
   have KG := Hid.mk' (letGo_any lo g _ (hs ++ [62]) ts ⟨_, _, _, _, _, _, L2⟩ (HU.out.snoc 62 (by omega)) (by simp; omega))
   clear L2 ho hgr hat d1 f1
   refine KG.out.mono ?_
   rintro e w5 ⟨⟨v, rfl⟩, hx, hb5⟩
   have HX5 := Hid.mk' hx
   have B5 := Hid.mk' (B2.out.trans hb5)
   clear hx hb5 KG
   go_wp2
   go_end0
   exact ⟨⟨_, rfl⟩, by rw [E0.out]; exact HX5.out, B5.out⟩
  ·have HX := Hid.mk' hx
   have B2 := Hid.mk' (BW.out.trans hb2)
   rw [ht] at E0
   clear hx hb2 KM ht
   go_wp2
   go_end0
   exact ⟨⟨_, rfl⟩, by rw [E0.out]; exact HX.out, B2.out⟩
 have e62 : ((b : Int) == 62) = false := by simp; omega
 by_cases h60 : b = 60
 ·subst h60
  have KG := Hid.mk' (letGo_any lo g _ hs ts W1.out HU.out (by omega))
  have E0 : Hid (tagX hs 60 = (bytesT hs, [60])) := Hid.mk' (by
   unfold tagX
   rw [if_neg (fun x => h62 x.1), if_pos ⟨rfl, hqf, hnt⟩]
   rfl)
  clear hq hqf h62 hcell
  generalize hV : w.alloc (.cells #[.int .u8 34] 5) = V at *
  go_enter Tryz.func86, Tryz.ntmps86
  go_wp2_with fail
  clear hV
  refine KC.out.mono ?_
  rintro e w1 ⟨rfl, hw⟩
  obtain rfl := hw.symm
  go_wp2_with fail
  refine KG.out.mono ?_
  rintro e w2 ⟨⟨v, rfl⟩, hx, hb2⟩
  have KO := Hid.mk' (outside_any lo g 60 w2 _ hx hb (by rw [List.length_append, bytesT_len]; omega))
  have B2 := Hid.mk' (BW.out.trans hb2)
  clear hx hb2 KG
  go_wp2_with fail
  refine KO.out.mono ?_
  rintro e w3 ⟨⟨v, rfl⟩, hx, hb3⟩
  have HX := Hid.mk' hx
  have B3 := Hid.mk' (B2.out.trans hb3)
  clear hx hb3 KO
  go_wp2
  go_end0
  refine ⟨⟨_, rfl⟩, ?_, B3.out⟩
  rw [E0.out]
  have := HX.out
  rw [bytesT_two] at this
  simpa [noneH, noneT] using this
 ·have e60 : ((b : Int) == 60) = false := by simp; omega
  have E0 : Hid (tagX hs b = lenX hs b) := Hid.mk' (by
   unfold tagX
   rw [if_neg (fun x => h62 x.1), if_neg (fun x => h60 x.1)])
  have KH := Hid.mk' (hold_any lo g b 160 _ hs ts W1.out HU.out hb (by omega) (by omega) (by omega))
  clear hq hqf h62 h60 hcell
  generalize hV : w.alloc (.cells #[.int .u8 34] 5) = V at *
  go_enter Tryz.func86, Tryz.ntmps86
  go_wp2_with fail
  clear hV
  refine KC.out.mono ?_
  rintro e w1 ⟨rfl, hw⟩
  obtain rfl := hw.symm
  go_wp2_with fail
  refine KH.out.mono ?_
  rintro e w2 ⟨⟨v, rfl⟩, hx, hb2⟩
  have HX := Hid.mk' hx
  have B2 := Hid.mk' (BW.out.trans hb2)
  clear hx hb2 KH
  go_wp2
  go_end0
  refine ⟨⟨_, rfl⟩, ?_, B2.out⟩
  rw [E0.out, lenX_hold]
  exact HX.out
theorem feed_any (B lo g : Nat) (tp : TypeId) (pv : Value) (b : Nat) (w : World) (hs : List Int) (ts : List TK) (h : LXs lo g w hs ts) (hE : Env B tp pv w) (hB : B ≤ lo) (hu : Byt hs) (hb : b ≤ 255) (hl : hs.length ≤ 159) (hn : ts.length ≤ 800000) :
  Calls Tryz.prog (stN hs) #[.pointer (some ⟨g, 0, none⟩), .int .u8 (b : Int)] w fun e w' => LxP lo g (feedX hs b).2 (ts ++ (feedX hs b).1) w e w' := by
 by_cases h0 : hs = []
 ·subst h0
  have e : stN [] = 82 := rfl
  rw [e]
  exact outside_any lo g b w ts h hb (by omega)
 by_cases h1 : hs.getD 0 0 = 38
 ·have e : stN hs = 83 := by unfold stN; rw [if_neg h0, if_pos h1]
  have e2 : feedX hs b = (bytesT (refT hs b), refH hs b) := by unfold feedX; rw [if_neg h0, if_pos h1]
  rw [e, e2]
  exact inRef_any B lo g tp pv b w hs ts h hE hB hu hb hl hn
 have e2 : feedX hs b = tagX hs b := by unfold feedX; rw [if_neg h0, if_neg h1]
 rw [e2]
 cases hn' : noteB hs with
 | true =>
  have e : stN hs = 85 := by unfold stN; rw [if_neg h0, if_neg h1, if_pos hn']
  rw [e]
  exact inNote_any B lo g tp pv b w hs ts h hE hB hu hb hl hn hn'
 | false =>
  have e : stN hs = 86 := by unfold stN; rw [if_neg h0, if_neg h1, if_neg (by rw [hn']; exact Bool.false_ne_true)]
  rw [e]
  exact inTag_any B lo g tp pv b w hs ts h hE hB hu hb hl hn h0 hn'
def GoodH (hs : List Int) : Prop := hs = [] ∨ (hs.getD 0 0 = 60 ∧ hs.length ≤ 159) ∨ (hs.getD 0 0 = 38 ∧ hs.length ≤ 5)
theorem GoodH.len {hs : List Int} (h : GoodH hs) : hs.length ≤ 159 := by
 rcases h with rfl | h | h
 ·simp
 ·exact h.2
 ·omega
theorem none_good (b : Int) : GoodH (noneH b) := by
 unfold noneH
 by_cases h : b = 60 ∨ b = 38
 ·rw [if_pos h]
  rcases h with rfl | rfl
  ·exact .inr (.inl ⟨rfl, by simp⟩)
  ·exact .inr (.inr ⟨rfl, by simp⟩)
 ·rw [if_neg h]; exact .inl rfl
theorem head_snoc {l : List Int} (x : Int) (h : ¬ l = []) : (l ++ [x]).getD 0 0 = l.getD 0 0 := by
 cases l with
 | nil => exact absurd rfl h
 | cons a l => rfl
theorem len_good {hs : List Int} (b : Nat) (h0 : ¬ hs = []) (h : hs.getD 0 0 = 60) : GoodH (lenX hs b).2 := by
 unfold lenX
 by_cases c : 160 ≤ hs.length + 1
 ·rw [if_pos c]; exact .inl rfl
 ·rw [if_neg c]
  exact .inr (.inl ⟨by show (hs ++ [(b : Int)]).getD 0 0 = 60; rw [head_snoc _ h0]; exact h, by simp; omega⟩)
theorem feed_good {hs : List Int} (b : Nat) (h : GoodH hs) : GoodH (feedX hs b).2 := by
 unfold feedX
 by_cases h0 : hs = []
 ·rw [if_pos h0]; exact none_good _
 ·rw [if_neg h0]
  by_cases h1 : hs.getD 0 0 = 38
  ·rw [if_pos h1]
   show GoodH (refH hs b)
   unfold refH
   by_cases c : b = 59
   ·rw [if_pos c]; exact .inl rfl
   ·rw [if_neg c]
    by_cases d : refB b = true
    ·rw [if_pos d]
     by_cases e : 6 ≤ hs.length + 1
     ·rw [if_pos e]; exact .inl rfl
     ·rw [if_neg e]
      exact .inr (.inr ⟨by rw [head_snoc _ h0]; exact h1, by simp; omega⟩)
    ·rw [if_neg d]; exact none_good _
  ·rw [if_neg h1]
   have h60 : hs.getD 0 0 = 60 := by
    rcases h with h | h | h
    ·exact absurd h h0
    ·exact h.1
    ·exact absurd h.1 h1
   unfold tagX
   split
   ·split
    ·exact .inl rfl
    ·split
     ·exact .inl rfl
     ·exact len_good b h0 h60
   ·split
    ·rename_i hh
     exact .inr (.inl ⟨by show ((b : Int)) = 60; have := hh.1; omega, by simp⟩)
    ·exact len_good b h0 h60
theorem lexFault_any (a : Option Addr) (c : Nat) (hs : List Int) (w : World) (ha : BAt w a hs) (h : GoodH hs) :
  Calls Tryz.prog 52 #[.agg #[.slice a hs.length c]] w fun e w' => e = .returned (.int .i64 0) ∧ Below w.heap.size w w' := by
 have NB := below_new w (.cells #[.slice a hs.length c] 39)
 have HB := Hid.mk' NB
 rcases h with rfl | ⟨h1, h2⟩ | ⟨h1, h2⟩
 ·clear NB
  go_enter Tryz.func52, Tryz.ntmps52
  go_wp2_with go_big_skip
  go_ret
  exact ⟨rfl, HB.out⟩
 ·rcases ha with ha | ⟨b, o, rfl, hlt, hc⟩
  ·rw [ha] at h1; cases h1
  have hp : 0 < hs.length := by
   cases hs with
   | nil => cases h1
   | cons a l => simp
  have d0 : (w.alloc (.cells #[.slice (some ⟨b, o, none⟩) hs.length c] 39)).cell? ⟨b, o, none⟩ = some (.int .u8 60) := by
   have := (NB.cell hlt).trans (hc 0 hp)
   rw [Nat.add_zero] at this
   rw [this]; unfold bv; rw [h1]
  have e1 : ((hs.length : Int) == 0) = false := beq_eq_false_iff_ne.2 (by omega)
  have e2 : ¬ (160 : Int) ≤ hs.length := by omega
  clear NB hc h1
  go_enter Tryz.func52, Tryz.ntmps52
  go_wp2_with go_big_skip
  go_ret
  exact ⟨rfl, HB.out⟩
 ·rcases ha with ha | ⟨b, o, rfl, hlt, hc⟩
  ·rw [ha] at h1; cases h1
  have hp : 0 < hs.length := by
   cases hs with
   | nil => cases h1
   | cons a l => simp
  have d0 : (w.alloc (.cells #[.slice (some ⟨b, o, none⟩) hs.length c] 39)).cell? ⟨b, o, none⟩ = some (.int .u8 38) := by
   have := (NB.cell hlt).trans (hc 0 hp)
   rw [Nat.add_zero] at this
   rw [this]; unfold bv; rw [h1]
  have e1 : ((hs.length : Int) == 0) = false := beq_eq_false_iff_ne.2 (by omega)
  have e2 : ¬ (6 : Int) ≤ hs.length := by omega
  clear NB hc h1
  go_enter Tryz.func52, Tryz.ntmps52
  go_wp2_with go_big_skip
  go_ret
  exact ⟨rfl, HB.out⟩
theorem own_row {w : World} {g lo : Nat} {l : List Int} (h : w.rowIs g 5 l.length (bv l)) (hl : l.length ≤ 1000000) (hg : lo ≤ g) : w.ownsRow lo 5 1 (.slice (some ⟨g, 0, none⟩) l.length l.length) l.length (bcs l) := by
 obtain ⟨cs, h1, h2, h3⟩ := h
 refine ⟨by rw [bcs_len], .inr ⟨g, l.length, cs, rfl, hg, h1, Nat.le_refl _, by unfold maxLen; omega, by rw [h2, Nat.mul_one], ?_⟩⟩
 apply List.ext_getElem?
 intro i
 by_cases hi : i < l.length
 ·rw [List.getElem?_take_of_lt (by omega), bcs_get l i hi]
  have := h3 i hi
  simpa using this
 ·rw [List.getElem?_eq_none (by rw [List.length_take]; omega), List.getElem?_eq_none (by rw [bcs_len]; omega)]
theorem newLexer_any (a : Option Addr) (c : Nat) (hs : List Int) (w : World) (ha : BAt w a hs) (hl : hs.length ≤ 200) :
  Calls Tryz.prog 53 #[.agg #[.slice a hs.length c]] w fun e w' => ∃ g, e = .returned (.pointer (some ⟨g, 0, none⟩)) ∧ LXs w.heap.size g w' hs [] ∧ Below w.heap.size w w' := by
 have NB := below_new w (.cells #[.slice a hs.length c] 39)
 have KC := Hid.mk' (copyBytes_any a c hs _ (ha.below NB) (by omega))
 have HB := Hid.mk' NB
 clear ha NB
 go_enter Tryz.func53, Tryz.ntmps53
 go_wp2_with fail
 refine KC.out.mono ?_
 rintro e w1 ⟨g, rfl, hg, hr, hb⟩
 have HR := Hid.mk' hr
 have B1 := Hid.mk' (HB.out.trans (hb.mono HB.out.size))
 have HG := Hid.mk' hg
 clear hr hb hg KC
 go_wp2
 go_ret
 have N2 := below_new w1 (.cells #[.slice (some ⟨g, 0, none⟩) hs.length hs.length, .slice none 0 0] 121)
 have gl := HR.out.lt
 have gg := HG.out
 have b1 := B1.out.size
 have b0 := HB.out.size
 refine ⟨w1.heap.size, rfl, ⟨.slice (some ⟨g, 0, none⟩) hs.length hs.length, .slice none 0 0, [], fun _ => [], fun _ => 0, fun _ => 0, ?_⟩, B1.out.trans (N2.mono b1)⟩
 refine ⟨rowQ2 w1 _ _ _, ?_, ⟨rfl, .inl ⟨rfl, rfl⟩⟩, TA.nil _ _ _, b1, fun e => ?_, fun e => ?_, fun j hj => absurd hj (Nat.not_lt_zero _), fun j hj => absurd hj (Nat.not_lt_zero _), fun j hj => absurd hj (Nat.not_lt_zero _), fun k _ e => ?_⟩
 ·exact own_keep (own_row HR.out (by omega) (by omega)) N2
 ·simp [Value.ownBlock] at e; omega
 ·simp [Value.ownBlock] at e
 ·simp [Value.ownBlock] at e
theorem three_other (V : World) (a g i : Nat) (h : a ≠ g) (x y z : Value) : (((V.setCell ⟨a, 0, none⟩ x).setCell ⟨a, 1, none⟩ y).setCell ⟨a, 2, none⟩ z).drew.cell? ⟨g, i, none⟩ = V.cell? ⟨g, i, none⟩ := by
 show (((V.setCell ⟨a, 0, none⟩ x).setCell ⟨a, 1, none⟩ y).setCell ⟨a, 2, none⟩ z).cell? ⟨g, i, none⟩ = V.cell? ⟨g, i, none⟩
 have ne : ∀ j, (⟨g, i, none⟩ : Addr) ≠ ⟨a, j, none⟩ := fun j e => h (congrArg Addr.block e).symm
 have ne' : ∀ j, (⟨a, j, none⟩ : Addr) ≠ ⟨g, i, none⟩ := fun j e => h (congrArg Addr.block e)
 rw [World.cell?_setCell_other _ _ _ _ (by first | exact ne 2 | exact ne' 2), World.cell?_setCell_other _ _ _ _ (by first | exact ne 1 | exact ne' 1), World.cell?_setCell_other _ _ _ _ (by first | exact ne 0 | exact ne' 0)]
theorem result_any (lo g : Nat) (w : World) (hv tv : Value) (hs : List Int) (ts : List TK) (us : List Value) (rs : Nat → List Value) (bl bh : Nat → Nat) (h : LX lo g w hv tv hs ts us rs bl bh) :
  Calls Tryz.prog 55 #[.pointer (some ⟨g, 0, none⟩)] w fun e w' => e = .returned (.agg #[.int .i64 0, tv, hv]) ∧ LX lo g w' hv tv hs ts us rs bl bh ∧ Below w.heap.size w w' := by
 have NB := below_new w (.cells #[.int .i64 0, .slice none 0 0, .slice none 0 0] 41)
 have HR := row3 w 41 (.int .i64 0) (.slice none 0 0) (.slice none 0 0)
 obtain ⟨d0, d1, d2, d3⟩ := cells3 HR
 have f0 := HR.frozen 0
 have f1 := HR.frozen 1
 have f2 := HR.frozen 2
 obtain ⟨c0, c1, c2⟩ := cellsQ2 (h.below NB).box
 obtain ⟨pa, pc, rfl, _⟩ := own_src h.held
 obtain ⟨qa, qc, rfl, _⟩ := own_src h.row
 have H := Hid.mk' h
 have HB := Hid.mk' NB
 have glt := h.lt
 clear h NB HR
 generalize hW : w.alloc (.cells #[.int .i64 0, .slice none 0 0, .slice none 0 0] 41) = W at *
 go_enter Tryz.func55, Tryz.ntmps55
 go_wp2_with fail
 refine wp_region_held_drew (S := (fun w' => w'.cell? ⟨g, 0, none⟩ = some (.slice pa hs.length pc) ∧ w'.cell? ⟨g, 1, none⟩ = some (.slice qa ts.length qc))) (by kernel_rfl) ⟨c0, c1⟩ (fun hHeld => ?_)
 refine tkY 0 ?_
 refine tkY 1 ?_
 refine tkY 2 ?_
 refine tkY 3 ?_
 refine tkY 4 ?_
 refine tkY 5 ?_
 refine tkY 6 ?_
 refine tkY 7 ?_
 refine tkY 8 ?_
 refine tkY 9 ?_
 refine wpAnyH_ready (rs := [10]) (by kernel_rfl) (by simp) ?_
 refine AllReadyH.cons (o := ⟨_, _, _, _, _, _⟩) rfl (fun K hK => ?_) AllReadyH.nil
 go_simp
 refine hK.out _ _ ⟨(three_other W w.heap.size g 0 (by omega) _ _ _).trans c0, (three_other W w.heap.size g 1 (by omega) _ _ _).trans c1⟩ (fun hHeld => ?_)
 clear hK K
 try simp only [Act.put, zA, zB, zC]
 refine wpAnyH_done (by kernel_rfl) ?_ _
 have BF : Hid (Below w.heap.size w (((W.setCell ⟨w.heap.size, 0, none⟩ (.int .i64 0)).setCell ⟨w.heap.size, 1, none⟩ (.slice qa ts.length qc)).setCell ⟨w.heap.size, 2, none⟩ (.slice pa hs.length pc)).drew) := Hid.mk' (((HB.out.setCell (p := ⟨w.heap.size, 0, none⟩) (by simp) _).setCell (p := ⟨w.heap.size, 1, none⟩) (by simp) _).setCell (p := ⟨w.heap.size, 2, none⟩) (by simp) _).drew
 have LF := Hid.mk' (H.out.below BF.out)
 clear hHeld
 go_wp2
 refine bodyPost_ret (v := .agg #[.int .i64 0, .slice qa ts.length qc, .slice pa hs.length pc]) (by simp [results, Tryz.results55, go_sem, *]) rfl ?_
 exact ⟨rfl, LF.out, BF.out⟩
theorem LX.keep {lo g : Nat} {w w' : World} {hv tv : Value} {hs : List Int} {ts : List TK} {us : List Value} {rs : Nat → List Value} {bl bh : Nat → Nat} (h : LX lo g w hv tv hs ts us rs bl bh) (hs' : w.heap.size ≤ w'.heap.size) (hk : ∀ k, lo ≤ k → k < w.heap.size → w'.heap[k]? = w.heap[k]?) : LX lo g w' hv tv hs ts us rs bl bh :=
 ⟨h.box.of_block (hk g h.lg h.lt), own_of h.held (Nat.le_refl _) (fun k e hl => hk k hl (h.held.lt k e).2), own_of h.row (Nat.le_refl _) (fun k e hl => hk k hl (h.row.lt k e).2), (h.ta.keep (fun j hj k h1 h2 h3 => hk k (Nat.le_trans (h.ta.low j hj) h1) h3)).widen (Nat.le_refl _) hs', h.lg, h.gh, h.gt, h.ga, h.vt, h.vh, h.ap⟩
def FaP (d : List Int) (w : World) (e : Ending) (w' : World) : Prop :=
 (240 < d.length ∧ e = .returned (.agg #[.int .i64 6, .slice none 0 0, .slice none 0 0]) ∧ Below w.heap.size w w') ∨
 (¬ 240 < d.length ∧ ∃ hv tv us rs bl bh lo g, e = .returned (.agg #[.int .i64 0, tv, hv]) ∧ w.heap.size ≤ lo ∧ LX lo g w' hv tv (allX [] [] d).2 (allX [] [] d).1 us rs bl bh ∧ Below w.heap.size w w')
theorem boxesF (w : World) (x : Value) :
  let W := (w.alloc (.cells #[x] 39)).alloc (.cells #[.int .i64 0, .slice none 0 0, .slice none 0 0] 41)
  Below w.heap.size w W ∧ W.cell? ⟨w.heap.size, 0, none⟩ = some x ∧ W.rowIs (w.heap.size + 1) 41 3 (r3 (.int .i64 0) (.slice none 0 0) (.slice none 0 0)) := by
 refine ⟨(below_new w _).alloc (by simp) _, ?_, ?_⟩
 ·have h1 := cell_in w #[x] 39 (0, 0) 0
  have := (below_new (w.alloc (.cells #[x] 39)) (.cells #[.int .i64 0, .slice none 0 0, .slice none 0 0] 41)).cell (p := ⟨w.heap.size, 0, none⟩) (by simp)
  rw [this, h1]; rfl
 ·have := row3 (w.alloc (.cells #[x] 39)) 41 (.int .i64 0) (.slice none 0 0) (.slice none 0 0)
  rw [show (w.alloc (.cells #[x] 39)).heap.size = w.heap.size + 1 by simp] at this
  exact this
theorem stN_cases (hs : List Int) : stN hs = 82 ∨ stN hs = 83 ∨ stN hs = 85 ∨ stN hs = 86 := by
 unfold stN
 split
 ·exact .inl rfl
 ·split
  ·exact .inr (.inl rfl)
  ·split
   ·exact .inr (.inr (.inl rfl))
   ·exact .inr (.inr (.inr rfl))
theorem feedAll_any (tp : TypeId) (pv : Value) (d : List Int) (ad : Option Addr) (cd : Nat) (w : World) (hE : Env w.heap.size tp pv w) (hd : BAt w ad d) (hu : Byt d) (hl : (d.length : Int) ≤ 9223372036854775807) :
  Calls Tryz.prog 15 #[.agg #[.slice none 0 0], .slice ad d.length cd] w fun e w' => FaP d w e w' := by
 obtain ⟨N0, x0, RR⟩ := boxesF w (.slice none 0 0)
 have KF : Hid (∀ V : World, Calls Tryz.prog 52 #[.agg #[.slice none 0 0]] V fun e w' => e = .returned (.int .i64 0) ∧ Below V.heap.size V w') := Hid.mk' (fun V => lexFault_any none 0 [] V (.inl rfl) (.inl rfl))
 have KN : Hid (∀ V : World, Calls Tryz.prog 53 #[.agg #[.slice none 0 0]] V fun e w' => ∃ g, e = .returned (.pointer (some ⟨g, 0, none⟩)) ∧ LXs V.heap.size g w' [] [] ∧ Below V.heap.size V w') := Hid.mk' (fun V => newLexer_any none 0 [] V (.inl rfl) (by simp))
 have HB := Hid.mk' N0
 have HD := Hid.mk' (hd.below N0)
 have HE := Hid.mk' (hE.keep N0)
 have HR := Hid.mk' RR
 clear N0 hd hE RR
 generalize hW : (w.alloc (.cells #[.slice none 0 0] 39)).alloc (.cells #[.int .i64 0, .slice none 0 0, .slice none 0 0] 41) = W at *
 by_cases h6 : 240 < d.length
 ·have c6 : (240 : Int) < d.length := by omega
  go_enter Tryz.func15, Tryz.ntmps15
  go_wp2_with fail
  clear hW
  refine (KF.out _).mono ?_
  rintro e w1 ⟨rfl, hb1⟩
  have B1 := Hid.mk' (HB.out.trans (hb1.mono HB.out.size))
  have R1 := rowB HR.out hb1
  obtain ⟨y0, y1, y2, y3⟩ := cells3 R1
  have f0 := R1.frozen 0
  have f1 := R1.frozen 1
  have f2 := R1.frozen 2
  clear hb1 R1
  go_wp2
  refine bodyPost_ret (v := .agg #[.int .i64 6, .slice none 0 0, .slice none 0 0]) (by simp [results, Tryz.results15, go_sem, *]) rfl ?_
  exact .inl ⟨h6, rfl, three B1.out (by omega)⟩
 have c6 : ¬ (240 : Int) < d.length := by omega
 go_enter Tryz.func15, Tryz.ntmps15
 go_wp2_with fail
 clear hW
 refine (KF.out _).mono ?_
 rintro e w1 ⟨rfl, hb1⟩
 have B1 := Hid.mk' (HB.out.trans (hb1.mono HB.out.size))
 have R1 := Hid.mk' (rowB HR.out hb1)
 have D1 := Hid.mk' (HD.out.below hb1)
 have E1 := Hid.mk' (HE.out.keep (hb1.mono HB.out.size))
 have x1 := (hb1.cell (p := ⟨w.heap.size, 0, none⟩) (by have := HR.out.lt; show w.heap.size < _; omega)).trans x0
 clear hb1 x0 HR HD HE
 go_wp2_with fail
 refine (KN.out w1).mono ?_
 rintro e w2 ⟨g, rfl, hx, hb2⟩
 have B2 := Hid.mk' hb2
 have X2 := Hid.mk' hx
 have SB := B1.out.size
 clear hb2 x1 hx
 go_wp2
 go_loopw [24] (fun i wr => ∃ k : Nat, k ≤ d.length ∧ i = .int .i64 k ∧ LXs w1.heap.size g wr (allX [] [] (d.take k)).2 (allX [] [] (d.take k)).1 ∧ GoodH (allX [] [] (d.take k)).2 ∧ Byt (allX [] [] (d.take k)).2 ∧ (allX [] [] (d.take k)).1.length ≤ 161 * k ∧ Below w1.heap.size w1 wr) (fun i _ => d.length - (intOf i).toNat)
 case atStart => exact ⟨0, Nat.zero_le _, rfl, X2.out, .inl rfl, Byt.nil, Nat.zero_le _, B2.out⟩
 case round =>
  obtain ⟨k, hk, rfl, hx, hg, hy, hn, hbl⟩ := hrel
  by_cases hlt : k < d.length
  ·have ci : (k : Int) < (d.length : Int) := by omega
   rcases D1.out.below hbl with hd | ⟨a, o, rfl, hbs, hc⟩
   ·exact absurd hlt (by rw [hd]; exact Nat.not_lt_zero _)
   obtain ⟨y0, y1⟩ := hu k hlt
   obtain ⟨y, hyy⟩ : ∃ y : Nat, d.getD k 0 = (y : Int) := ⟨(d.getD k 0).toNat, by omega⟩
   rw [hyy] at y1
   have hcell : wr.cell? ⟨a, o + k, none⟩ = some (.int .u8 y) := by rw [← hyy]; exact hc k hlt
   have ES : Hid (allX [] [] (d.take (k + 1)) = ((allX [] [] (d.take k)).1 ++ (feedX (allX [] [] (d.take k)).2 y).1, (feedX (allX [] [] (d.take k)).2 y).2)) := Hid.mk' (by
    rw [take_snoc_int hlt, allX_append, hyy]
    simp [allX])
   clear hc hyy y0
   generalize (allX [] [] (d.take k)).1 = T at *
   generalize (allX [] [] (d.take k)).2 = H at *
   have fl := feedX_len H y
   have gl := hg.len
   have G2 := Hid.mk' (feed_good y hg)
   have Y2 := Hid.mk' (feedX_byt (b := y) hy (by omega))
   have KS := Hid.mk' (lexState_any w1.heap.size g wr H T hx hy (by omega))
   have HY := Hid.mk' hy
   have BL := Hid.mk' hbl
   have KX : Hid (∀ w3 : World, LXs w1.heap.size g w3 H T → Below w1.heap.size wr w3 → Calls Tryz.prog (stN H) #[.pointer (some ⟨g, 0, none⟩), .int .u8 (y : Int)] w3 fun e w' => LxP w1.heap.size g (feedX H y).2 (T ++ (feedX H y).1) w3 e w') := Hid.mk' (fun w3 hx3 hb3 =>
    feed_any w1.heap.size w1.heap.size g tp pv y w3 H T hx3 ((E1.out.up SB (Nat.le_refl _)).keep (BL.out.trans hb3)) (Nat.le_refl _) HY.out (by omega) gl (by omega))
   clear hx hg hy hbl
   generalize (feedX H y).1 = FT at *
   generalize (feedX H y).2 = FH at *
   rcases stN_cases H with est | est | est | est
   all_goals
    rw [est] at KS KX
    clear est
    go_wp2_with fail
    refine KS.out.mono ?_
    rintro e w3 ⟨rfl, hx3, hb3⟩
    have KF2 := Hid.mk' (KX.out w3 hx3 hb3)
    have B3 := Hid.mk' (BL.out.trans hb3)
    clear hx3 hb3 KS KX
    go_wp2_with fail
    refine KF2.out.mono ?_
    rintro e w4 ⟨⟨v, rfl⟩, hx4, hb4⟩
    have X4 := Hid.mk' hx4
    have B4 := Hid.mk' (B3.out.trans hb4)
    clear hx4 hb4 KF2
    go_wp2
    go_roundw
    case rel => exact ⟨k + 1, by omega, by go_num, by rw [ES.out]; exact X4.out, by rw [ES.out]; exact G2.out, by rw [ES.out]; exact Y2.out, by rw [ES.out]; show (T ++ FT).length ≤ _; rw [List.length_append]; omega, B4.out⟩
    case measure => simp [intOf]; omega
  ·have ci : ¬ (k : Int) < (d.length : Int) := by omega
   have e : k = d.length := by omega
   subst e
   rw [List.take_length] at hx
   obtain ⟨hv, tv, us, rs, bl, bh, h⟩ := hx
   have KR := Hid.mk' (result_any w1.heap.size g wr hv tv _ _ us rs bl bh h)
   have BL := Hid.mk' hbl
   obtain ⟨ha, hc, rfl, _⟩ := own_src h.held
   obtain ⟨ta, tc, rfl, _⟩ := own_src h.row
   clear hg hy hn hbl h
   go_wp2_with fail
   refine KR.out.mono ?_
   rintro e w3 ⟨rfl, hx3, hb3⟩
   have B3 := Hid.mk' (BL.out.trans (hb3.mono BL.out.size))
   have R3 := rowB R1.out B3.out
   obtain ⟨y0, y1, y2, y3⟩ := cells3 R3
   have f0 := R3.frozen 0
   have f1 := R3.frozen 1
   have f2 := R3.frozen 2
   have X3 := Hid.mk' hx3
   clear hx3 hb3 KR R3
   generalize hT : (allX [] [] d).1 = T at *
   generalize hH : (allX [] [] d).2 = H at *
   have HT := Hid.mk' hT
   have HH := Hid.mk' hH
   clear hT hH
   go_wp2
   refine bodyPost_ret (v := .agg #[.int .i64 0, .slice ta T.length tc, .slice ha H.length hc]) (by simp [results, Tryz.results15, go_sem, *]) rfl ?_
   have b1s := R1.out.lt
   refine .inr ⟨h6, _, _, us, rs, bl, bh, w1.heap.size, g, rfl, SB, ?_, three (B1.out.trans (B3.out.mono SB)) (by omega)⟩
   rw [HT.out, HH.out]
   exact X3.out.keep (by simp [World.setCell]) (fun k h1 h2 => by
    rw [Deep.blk_setCell_other _ _ _ _ (by show k ≠ w.heap.size + 1; omega), Deep.blk_setCell_other _ _ _ _ (by show k ≠ w.heap.size + 1; omega), Deep.blk_setCell_other _ _ _ _ (by show k ≠ w.heap.size + 1; omega)])
theorem allX_good : ∀ (l : List Int) (ts : List TK) (hs : List Int), GoodH hs → GoodH (allX ts hs l).2
 | [], _, _, h => h
 | x :: l, ts, hs, h => allX_good l _ _ (feed_good _ h)
theorem allX_byt : ∀ (l : List Int) (ts : List TK) (hs : List Int), (∀ x ∈ l, 0 ≤ x ∧ x ≤ 255) → Byt hs → Byt (allX ts hs l).2
 | [], _, _, _, h => h
 | x :: l, ts, hs, hl, h => allX_byt l _ _ (fun y hy => hl y (List.mem_cons_of_mem _ hy)) (feedX_byt h (by have := hl x (List.mem_cons_self ..); omega))
theorem allX_len : ∀ (l : List Int) (ts : List TK) (hs : List Int), hs.length ≤ 160 → (allX ts hs l).1.length ≤ ts.length + 161 * l.length
 | [], ts, hs, _ => by simp [allX]
 | x :: l, ts, hs, h => by
  have ih := allX_len l (ts ++ (feedX hs x.toNat).1) (feedX hs x.toNat).2 (feedX_held hs x.toNat)
  have := feedX_len hs x.toNat
  have e : allX ts hs (x :: l) = allX (ts ++ (feedX hs x.toNat).1) (feedX hs x.toNat).2 l := rfl
  rw [e]
  rw [List.length_append] at ih
  rw [List.length_cons]
  omega
theorem finishLex_any (a : Option Addr) (c : Nat) (hs : List Int) (w : World) (ha : BAt w a hs) (hg : GoodH hs) (hu : Byt hs) :
  Calls Tryz.prog 66 #[.agg #[.slice a hs.length c]] w fun e w' => ∃ hv tv us rs bl bh lo g, e = .returned (.agg #[.int .i64 0, tv, hv]) ∧ w.heap.size ≤ lo ∧ LX lo g w' hv tv [] (bytesT hs) us rs bl bh ∧ Below w.heap.size w w' := by
 obtain ⟨N0, x0, RR⟩ := boxesF w (.slice a hs.length c)
 have gl := hg.len
 have KF := lexFault_any a c hs _ (ha.below N0) hg
 have KF := Hid.mk' KF
 have HB := Hid.mk' N0
 have HA := Hid.mk' (ha.below N0)
 have HR := Hid.mk' RR
 clear N0 ha RR
 generalize hW : (w.alloc (.cells #[.slice a hs.length c] 39)).alloc (.cells #[.int .i64 0, .slice none 0 0, .slice none 0 0] 41) = W at *
 go_enter Tryz.func66, Tryz.ntmps66
 go_wp2_with fail
 clear hW
 refine KF.out.mono ?_
 rintro e w1 ⟨rfl, hb1⟩
 have B1 := Hid.mk' (HB.out.trans (hb1.mono HB.out.size))
 have R1 := Hid.mk' (rowB HR.out hb1)
 have KN := Hid.mk' (newLexer_any a c hs w1 (HA.out.below hb1) (by omega))
 have x1 := (hb1.cell (p := ⟨w.heap.size, 0, none⟩) (by have := HR.out.lt; show w.heap.size < _; omega)).trans x0
 clear hb1 x0 HR HA KF
 go_wp2_with fail
 refine KN.out.mono ?_
 rintro e w2 ⟨g, rfl, hx, hb2⟩
 have B2 := Hid.mk' hb2
 have KG := Hid.mk' (letGo_any w1.heap.size g w2 hs [] hx hu (by simp; omega))
 have SB := B1.out.size
 clear hb2 x1 hx KN
 go_wp2_with fail
 refine KG.out.mono ?_
 rintro e w3 ⟨⟨v, rfl⟩, hx3, hb3⟩
 rw [List.nil_append] at hx3
 obtain ⟨hv, tv, us, rs, bl, bh, h⟩ := hx3
 have KR := Hid.mk' (result_any w1.heap.size g w3 hv tv _ _ us rs bl bh h)
 have BL := Hid.mk' (B2.out.trans hb3)
 obtain ⟨ha, hc, rfl, _⟩ := own_src h.held
 obtain ⟨ta, tc, rfl, _⟩ := own_src h.row
 clear hb3 h KG
 go_wp2_with fail
 refine KR.out.mono ?_
 rintro e w4 ⟨rfl, hx4, hb4⟩
 have B4 := Hid.mk' (BL.out.trans (hb4.mono BL.out.size))
 have R4 := rowB R1.out B4.out
 obtain ⟨y0, y1, y2, y3⟩ := cells3 R4
 have f0 := R4.frozen 0
 have f1 := R4.frozen 1
 have f2 := R4.frozen 2
 have X4 := Hid.mk' hx4
 clear hx4 hb4 KR R4
 generalize hT : bytesT hs = T at *
 have HT := Hid.mk' hT
 clear hT
 go_wp2
 refine bodyPost_ret (v := .agg #[.int .i64 0, .slice ta T.length tc, .slice ha ([] : List Int).length hc]) (by simp [results, Tryz.results66, go_sem, *]) rfl ?_
 have b1s := R1.out.lt
 refine ⟨_, _, us, rs, bl, bh, w1.heap.size, g, rfl, SB, ?_, three (B1.out.trans (B4.out.mono SB)) (by omega)⟩
 rw [HT.out]
 exact X4.out.keep (by simp [World.setCell]) (fun k h1 h2 => by
  rw [Deep.blk_setCell_other _ _ _ _ (by show k ≠ w.heap.size + 1; omega), Deep.blk_setCell_other _ _ _ _ (by show k ≠ w.heap.size + 1; omega), Deep.blk_setCell_other _ _ _ _ (by show k ≠ w.heap.size + 1; omega)])
structure TP (lo : Nat) (w : World) (tv : Value) (ts : List TK) (us : List Value) (rs : Nat → List Value) (bl bh : Nat → Nat) : Prop where
 row : w.ownsRow lo 107 5 tv ts.length (tcs ts us)
 ta : TA lo w.heap.size w ts us rs bl bh
 vt : ∀ j, j < ts.length → ∀ k, tv.ownBlock = some k → k < bl j ∨ bh j ≤ k
theorem LX.tp {lo g : Nat} {w : World} {hv tv : Value} {hs : List Int} {ts : List TK} {us : List Value} {rs : Nat → List Value} {bl bh : Nat → Nat} (h : LX lo g w hv tv hs ts us rs bl bh) : TP lo w tv ts us rs bl bh := ⟨h.row, h.ta, h.vt⟩
theorem TP.keep {lo : Nat} {w w' : World} {tv : Value} {ts : List TK} {us : List Value} {rs : Nat → List Value} {bl bh : Nat → Nat} (h : TP lo w tv ts us rs bl bh) (hs' : w.heap.size ≤ w'.heap.size) (hk : ∀ k, lo ≤ k → k < w.heap.size → w'.heap[k]? = w.heap[k]?) : TP lo w' tv ts us rs bl bh :=
 ⟨own_of h.row (Nat.le_refl _) (fun k e hl => hk k hl (h.row.lt k e).2), (h.ta.keep (fun j hj k h1 h2 h3 => hk k (Nat.le_trans (h.ta.low j hj) h1) h3)).widen (Nat.le_refl _) hs', h.vt⟩
theorem TP.below {lo : Nat} {w w' : World} {tv : Value} {ts : List TK} {us : List Value} {rs : Nat → List Value} {bl bh : Nat → Nat} (h : TP lo w tv ts us rs bl bh) (hb : Below w.heap.size w w') : TP lo w' tv ts us rs bl bh := h.keep hb.size (fun k _ hk => hb.block k hk)
theorem TP.down {lo lo' : Nat} {w : World} {tv : Value} {ts : List TK} {us : List Value} {rs : Nat → List Value} {bl bh : Nat → Nat} (h : TP lo w tv ts us rs bl bh) (hl : lo' ≤ lo) : TP lo' w tv ts us rs bl bh := ⟨own_down h.row hl, h.ta.widen hl (Nat.le_refl _), h.vt⟩
theorem TP.app {lo : Nat} {w w1 w2 : World} {tv tv' : Value} {ts ts1 : List TK} {us us1 : List Value} {rs rs1 : Nat → List Value} {bl bh bl1 bh1 : Nat → Nat} (h : TP lo w tv ts us rs bl bh) (hlo : lo ≤ w.heap.size) (h1 : Below w.heap.size w w1) (k : TA w.heap.size w1.heap.size w1 ts1 us1 rs1 bl1 bh1)
  (ho : w2.ownsRow lo 107 5 tv' (ts.length + ts1.length) (tcs ts us ++ tcs ts1 us1)) (hg : w1.grownBy w2 tv.ownBlock) (e : tv'.ownBlock = tv.ownBlock ∨ tv'.ownBlock = some w1.heap.size) :
  TP lo w2 tv' (ts ++ ts1) (us ++ us1) (thenN ts.length rs rs1) (thenN ts.length bl bl1) (thenN ts.length bh bh1) := by
 have s1 := h1.size
 have s2 := hg.size
 have told : ∀ x, tv.ownBlock = some x → lo ≤ x ∧ x < w.heap.size := fun x e => h.row.lt x e
 refine ⟨by rw [tcs_app _ _ _ _ h.ta.len, List.length_append]; exact ho, ?_, fun j hj x ex => ?_⟩
 ·refine (TA.app (h.ta.keep (fun j hj x hx1 hx2 hx3 => ?_)) (k.keep (fun j hj x hx1 hx2 hx3 => ?_)) hlo s1).widen (Nat.le_refl _) s2
  ·rw [hg.block x (by omega) (fun e2 => by have := h.vt j hj x e2.symm; omega), h1.block x hx3]
  ·rw [hg.block x hx3 (fun e2 => by have := told x e2.symm; have := k.low j hj; omega)]
 ·by_cases c : j < ts.length
  ·rw [thenN_l c, thenN_l c]
   rcases e with e | e
   ·exact h.vt j c x (e ▸ ex)
   ·rw [e] at ex; cases ex; have := h.ta.top j c; omega
  ·have hj' : j - ts.length < ts1.length := by rw [List.length_append] at hj; omega
   rw [thenN_r c, thenN_r c]
   rcases e with e | e
   ·rw [e] at ex; have := told x ex; have := k.low _ hj'; omega
   ·rw [e] at ex; cases ex; have := k.top _ hj'; omega

end Go.Proofs.YtlimgcmhidooaaaGreatDoor
