/-
 DERIVED: THE SHELF's CONTRACTS AT THIS DUMP, IN PLAIN WORDS (tools/lay-plain.mjs out of 'YtlimgcmhidooaaaGreatDoorShy.lean', which tools/lay-shelf.mjs wrote): THE SAME DECLARATIONS UNDER THE SAME NAMES: 'import', 'namespace', 'open', 'def', 'theorem' AND NOTHING ELSE: no command of the shelf's: FOR A HAND-IN. Each laying: the table of numbers ('.._ren') and one theorem, a field a fact of the dump's own or the kernel's comparison; each contract: ONE APPLICATION.
-/
import Derived.Shelf.Small.Strs
import Derived.Shelf.Small.Wraps
import Derived.Shelf.Utf8.RuneCount
import Derived.Shelf.Strconv.Itoa0
import Derived.Shelf.Strconv.Itoa1
import Derived.Shelf.LaysM
import Derived.Shelf.Strconv.Itoa2
import Derived.Shelf.Strconv.Itoa3
import Derived.Shelf.Strconv.Clone
import Derived.Shelf.Pu.ParseUintPublic10
import Derived.Shelf.Pu.ErrVarParseUint
import Derived.Shelf.Strings.Search1
import Derived.Shelf.Strings.Search2
import Derived.Shelf.Strings.Prefix
import Derived.Shelf.Strings.RuneCount
import Derived.Ground.SlbNamesProg
import Derived.Shelf.Bytes.SlCountOne
import Derived.Shelf.Bytes.Small
import Derived.Test.YtlimgcmhidooaaaGreatDoorProg
import Derived.Test.YtlimgcmhidooaaaGreatDoorM17
set_option maxHeartbeats 1600000
set_option maxRecDepth 100000
set_option linter.unusedVariables false
set_option linter.unusedSimpArgs false
namespace Go.Proofs.YtlimgcmhidooaaaGreatDoor
open Go.Shelf
def Tryz.laysSlB13_ren : Go.Shelf.Ren := ⟨fun | 13 => 107 | 24 => 116 | 25 => 117 | 12 => 118 | 31 => 127 | 19 => 128 | 20 => 46 | 21 => 129 | 22 => 130 | 23 => 131 | 29 => 146 | 30 => 147 | n => n, fun | 22 => 22 | 3 => 3 | 4 => 4 | 0 => 0 | 5 => 5 | 9 => 9 | 33 => 172 | 40 => 184 | 39 => 183 | n => n, fun | 0 => 0 | n => n⟩
theorem Tryz.laysSlB13 : Go.Proofs.SlLaysB.n13 Tryz.prog Tryz.laysSlB13_ren := {
 mixed := by kernel_rfl
 f13 := Tryz.func107.trans (congrArg some (by kernel_rfl))
 f25 := Tryz.func117.trans (congrArg some (by kernel_rfl))
 t0 := Tryz.underlying0
 a0 := Tryz.isAgg0
 z0 := Tryz.sizeOf0
 v0 := Tryz.zeroValue0
 t3 := Tryz.underlying3
 a3 := Tryz.isAgg3
 z3 := Tryz.sizeOf3
 v3 := Tryz.zeroValue3
 t4 := Tryz.underlying4
 a4 := Tryz.isAgg4
 z4 := Tryz.sizeOf4
 v4 := Tryz.zeroValue4
 t5 := Tryz.underlying5
 a5 := Tryz.isAgg5
 z5 := Tryz.sizeOf5
 v5 := Tryz.zeroValue5
 t22 := Tryz.underlying22
 a22 := Tryz.isAgg22
 z22 := Tryz.sizeOf22
 v22 := Tryz.zeroValue22 }
open Go.RowKit Go.Lib in
theorem Tryz.bytes_Count_one (b o n c b2 o2 d : Nat) (xs : List Int) (cv : Int) (w : World) (hx : xs.length = n) (hc : ∀ i, i < n → w.cell? ⟨b, o + i, none⟩ = some (.int .u8 (xs.getD i 0))) (hc2 : w.cell? ⟨b2, o2, none⟩ = some (.int .u8 cv)) :
  Calls Tryz.prog 107 #[.slice (some ⟨b, o, none⟩) n c, .slice (some ⟨b2, o2, none⟩) 1 d] w fun e w' => e = .returned (.int .i64 (Lib.countByte (Lib.bytesOf xs) cv.toNat.toUInt8)) ∧ w' = w := Any.bytes_Count_one Tryz.laysSlB13 b o n c b2 o2 d xs cv w hx hc hc2
open Go.RowKit Go.Lib in
def Tryz.laysnb116_ren : Go.Shelf.Ren := ⟨fun | 116 => 84 | 115 => 46 | n => n, fun | 37 => 22 | 4 => 4 | 3 => 3 | 9 => 9 | 5 => 5 | n => n, fun | n => n⟩
theorem Tryz.laysnb116 : Go.Proofs.Lays.nb116 Tryz.prog Tryz.laysnb116_ren := {
 mixed := by kernel_rfl
 f115 := Tryz.func46.trans (congrArg some (by kernel_rfl))
 f116 := Tryz.func84.trans (congrArg some (by kernel_rfl))
 t3 := Tryz.underlying3
 a3 := Tryz.isAgg3
 z3 := Tryz.sizeOf3
 v3 := Tryz.zeroValue3
 t4 := Tryz.underlying4
 a4 := Tryz.isAgg4
 z4 := Tryz.sizeOf4
 v4 := Tryz.zeroValue4
 t9 := Tryz.underlying9
 a9 := Tryz.isAgg9
 z9 := Tryz.sizeOf9
 v9 := Tryz.zeroValue9
 t37 := Tryz.underlying22
 a37 := Tryz.isAgg22
 z37 := Tryz.sizeOf22
 v37 := Tryz.zeroValue22
 t5 := Tryz.underlying5
 a5 := Tryz.isAgg5
 z5 := Tryz.sizeOf5
 v5 := Tryz.zeroValue5 }
theorem Tryz.bytes_HasPrefix (b1 o1 n c b2 o2 m d : Nat) (xs ys : List Int) (w : World) (hx : xs.length = n) (hy : ys.length = m) (hnc : n ≤ c) (hc1 : ∀ i, i < n → w.cell? ⟨b1, o1 + i, none⟩ = some (.int .u8 (xs.getD i 0))) (hc2 : ∀ i, i < m → w.cell? ⟨b2, o2 + i, none⟩ = some (.int .u8 (ys.getD i 0))) :
  Calls Tryz.prog 84 #[.slice (some ⟨b1, o1, none⟩) n c, .slice (some ⟨b2, o2, none⟩) m d] w fun e w' => e = .returned (.bool (Lib.hasPrefix (Lib.bytesOf xs) (Lib.bytesOf ys))) ∧ w' = w := Any.bytes_HasPrefix Tryz.laysnb116 b1 o1 n c b2 o2 m d xs ys w hx hy hnc hc1 hc2
end Go.Proofs.YtlimgcmhidooaaaGreatDoor

namespace Go.Proofs.YtlimgcmhidooaaaGreatDoor
open Go.RowKit
theorem feed_next {w w2 w3 : World} {m : List Int} {b : Int} {v : Value} (hb : Below w.heap.size w w2) (ho : w3.ownsRow w2.heap.size 107 5 v m.length (tcs (bytesT m) (nils m.length))) (h3 : Below w2.heap.size w2 w3) :
  FeedB m [b] w (.returned (.tuple #[v, .slice (some ⟨w3.heap.size, 0, none⟩) 1 1])) (w3.alloc (.cells #[.int .u8 b] 5)) := by
 have hs : w.heap.size ≤ w3.heap.size := Nat.le_trans hb.size h3.size
 refine ⟨_, _, rfl, (own_down ho hb.size).alloc _, ?_, fun k e1 e2 => ?_, (hb.trans (h3.mono hb.size)).alloc hs _⟩
 ·exact World.ownsRow_lit (base := w.heap.size) (e := 5) (size := 1) w3 #[.int .u8 b] 1 hs (by unfold maxLen; omega) rfl
 ·have := (ho.lt k e1).2
  simp [Value.ownBlock] at e2
  omega
theorem l5Tag_o1 (a : Option Addr) (c : Nat) (l : List Int) (b : Nat) (w : World) (ha : BAt w a l) (hu : Byt l) (hc : l.length ≤ c) (hl : l.length ≤ 200) (hb : b ≤ 255) (h1 : ¬ b = 62) (h2 : ¬ b = 60) (h6 : 160 ≤ l.length + 1) :
  Calls Tryz.prog 112 #[.slice a l.length c, .int .u8 b] w fun e w' => FeedB (l ++ [(b : Int)]) [] w e w' := by
 obtain ⟨m, hm⟩ : ∃ m, m = l ++ [(b : Int)] := ⟨_, rfl⟩
 rw [← hm]
 have lm : m.length = l.length + 1 := by rw [hm]; simp
 have hum : Hid (Byt m) := Hid.mk' (by rw [hm]; exact hu.snoc b hb)
 have HM : Hid (bcs m = bcs l ++ [.int .u8 b]) := Hid.mk' (by rw [hm, bcs_append]; rfl)
 have e62 : ((b : Int) == 62) = false := by rw [beq_eq_false_iff_ne]; omega
 have e60 : ((b : Int) == 60) = false := by rw [beq_eq_false_iff_ne]; omega
 clear h1 h2
 have g6 : (m.length : Int) ≥ 160 := by omega
 clear h6
 have KC := Hid.mk' (l1Copy_own a c l w ha (by omega))
 have HA := Hid.mk' ha
 have HU := Hid.mk' hu
 have LM := Hid.mk' lm
 clear ha hu hm lm
 go_enter Tryz.func112, Tryz.ntmps112
 go_wp2_with (first | go_big_skip | fail)
 refine KC.out.mono ?_
 rintro e w1 ⟨v, rfl, ho, hbl⟩
 have VB := below_new w1 (.cells #[.int .u8 b] 5)
 have OV := Hid.mk' (own_keep ho VB)
 have NC := Hid.mk' (new_cells' w1 5 [.int .u8 b] w1.heap.size rfl)
 have HB := Hid.mk' (hbl.trans (VB.mono hbl.size))
 have SZ := Hid.mk' HB.out.size
 have P1 : Hid (∀ u ∈ ([.int .u8 b] : List Value), u.oneCell' = true) := Hid.mk' (by
  intro u hu'
  simp only [List.mem_cons, List.not_mem_nil, or_false] at hu'
  subst hu'; rfl)
 clear ho hbl VB KC
 go_wp2_with (first | go_big_skip | (at_builtin; refine wpList_append_at _ rfl (.tmp 11) (.tmp 13) 22 rfl w.heap.size 5 (.int .u8 0) 1 1 Tryz.underlying22 Tryz.info5 rfl (by decide) _ _ _ rfl OV.out _ 1 _ [.int .u8 b] rfl rfl (.inr ⟨_, rfl, NC.out⟩) P1.out (by unfold maxLen; omega) (by omega) SZ.out ?_; intro v' w2 ho hgr hat; have OA : Hid (w2.ownsRow w.heap.size 5 1 v' m.length (bcs m)) := Hid.mk' (by rw [HM.out, LM.out]; exact ho); have BW := Hid.mk' (HB.out.grown hgr SZ.out (own_lo OV.out)); obtain ⟨aa, cc, rfl, ba⟩ := (OB.of_own OA.out).1.len; have BA := Hid.mk' ba; have KQ := Hid.mk' (l5Quoted_any a c l w2 (HA.out.below BW.out) hc (by omega)); have KN := Hid.mk' (l5Note_any a c l w2 (HA.out.below BW.out) hc (by omega)); clear ho hgr hat ba) | (go_at_call 121; refine KQ.out.mono ?_; rintro e9 w9 ⟨rfl, hw9⟩; obtain rfl := hw9.symm) | (go_at_call 123; refine KN.out.mono ?_; rintro e9 w9 ⟨rfl, hw9⟩; obtain rfl := hw9.symm))
 refine (l5Go_any aa cc m _ BA.out hum.out (by have := LM.out; omega)).mono ?_
 rintro e w3 ⟨v3, rfl, o3, b3⟩
 have F := Hid.mk' (feed_go rfl rfl BW.out o3 b3)
 clear o3 b3
 go_wp2
 go_ret2
 exact F.out
theorem l5Tag_gq1 (a : Option Addr) (c : Nat) (l : List Int) (b : Nat) (w : World) (ha : BAt w a l) (hu : Byt l) (hc : l.length ≤ c) (hl : l.length ≤ 200) (hb : b ≤ 255) (h1 : b = 62) (hq : quotedB l = true) (h6 : 160 ≤ l.length + 1) :
  Calls Tryz.prog 112 #[.slice a l.length c, .int .u8 b] w fun e w' => FeedB (l ++ [(b : Int)]) [] w e w' := by
 obtain ⟨m, hm⟩ : ∃ m, m = l ++ [(b : Int)] := ⟨_, rfl⟩
 rw [← hm]
 have lm : m.length = l.length + 1 := by rw [hm]; simp
 have hum : Hid (Byt m) := Hid.mk' (by rw [hm]; exact hu.snoc b hb)
 have HM : Hid (bcs m = bcs l ++ [.int .u8 b]) := Hid.mk' (by rw [hm, bcs_append]; rfl)
 have e62 : ((b : Int) == 62) = true := by rw [beq_iff_eq]; omega
 have e60 : ((b : Int) == 60) = false := by rw [beq_eq_false_iff_ne]; omega
 clear h1
 have g6 : (m.length : Int) ≥ 160 := by omega
 clear h6
 have KC := Hid.mk' (l1Copy_own a c l w ha (by omega))
 have HA := Hid.mk' ha
 have HU := Hid.mk' hu
 have LM := Hid.mk' lm
 clear ha hu hm lm
 go_enter Tryz.func112, Tryz.ntmps112
 go_wp2_with (first | go_big_skip | fail)
 refine KC.out.mono ?_
 rintro e w1 ⟨v, rfl, ho, hbl⟩
 have VB := below_new w1 (.cells #[.int .u8 b] 5)
 have OV := Hid.mk' (own_keep ho VB)
 have NC := Hid.mk' (new_cells' w1 5 [.int .u8 b] w1.heap.size rfl)
 have HB := Hid.mk' (hbl.trans (VB.mono hbl.size))
 have SZ := Hid.mk' HB.out.size
 have P1 : Hid (∀ u ∈ ([.int .u8 b] : List Value), u.oneCell' = true) := Hid.mk' (by
  intro u hu'
  simp only [List.mem_cons, List.not_mem_nil, or_false] at hu'
  subst hu'; rfl)
 clear ho hbl VB KC
 go_wp2_with (first | go_big_skip | (at_builtin; refine wpList_append_at _ rfl (.tmp 11) (.tmp 13) 22 rfl w.heap.size 5 (.int .u8 0) 1 1 Tryz.underlying22 Tryz.info5 rfl (by decide) _ _ _ rfl OV.out _ 1 _ [.int .u8 b] rfl rfl (.inr ⟨_, rfl, NC.out⟩) P1.out (by unfold maxLen; omega) (by omega) SZ.out ?_; intro v' w2 ho hgr hat; have OA : Hid (w2.ownsRow w.heap.size 5 1 v' m.length (bcs m)) := Hid.mk' (by rw [HM.out, LM.out]; exact ho); have BW := Hid.mk' (HB.out.grown hgr SZ.out (own_lo OV.out)); obtain ⟨aa, cc, rfl, ba⟩ := (OB.of_own OA.out).1.len; have BA := Hid.mk' ba; have KQ := Hid.mk' (l5Quoted_any a c l w2 (HA.out.below BW.out) hc (by omega)); have KN := Hid.mk' (l5Note_any a c l w2 (HA.out.below BW.out) hc (by omega)); rw [hq] at KQ; clear ho hgr hat ba) | (go_at_call 121; refine KQ.out.mono ?_; rintro e9 w9 ⟨rfl, hw9⟩; obtain rfl := hw9.symm) | (go_at_call 123; refine KN.out.mono ?_; rintro e9 w9 ⟨rfl, hw9⟩; obtain rfl := hw9.symm))
 refine (l5Go_any aa cc m _ BA.out hum.out (by have := LM.out; omega)).mono ?_
 rintro e w3 ⟨v3, rfl, o3, b3⟩
 have F := Hid.mk' (feed_go rfl rfl BW.out o3 b3)
 clear o3 b3
 go_wp2
 go_ret2
 exact F.out
theorem l5Tag_lq1 (a : Option Addr) (c : Nat) (l : List Int) (b : Nat) (w : World) (ha : BAt w a l) (hu : Byt l) (hc : l.length ≤ c) (hl : l.length ≤ 200) (hb : b ≤ 255) (h1 : b = 60) (hq : quotedB l = true) (h6 : 160 ≤ l.length + 1) :
  Calls Tryz.prog 112 #[.slice a l.length c, .int .u8 b] w fun e w' => FeedB (l ++ [(b : Int)]) [] w e w' := by
 obtain ⟨m, hm⟩ : ∃ m, m = l ++ [(b : Int)] := ⟨_, rfl⟩
 rw [← hm]
 have lm : m.length = l.length + 1 := by rw [hm]; simp
 have hum : Hid (Byt m) := Hid.mk' (by rw [hm]; exact hu.snoc b hb)
 have HM : Hid (bcs m = bcs l ++ [.int .u8 b]) := Hid.mk' (by rw [hm, bcs_append]; rfl)
 have e62 : ((b : Int) == 62) = false := by rw [beq_eq_false_iff_ne]; omega
 have e60 : ((b : Int) == 60) = true := by rw [beq_iff_eq]; omega
 clear h1
 have g6 : (m.length : Int) ≥ 160 := by omega
 clear h6
 have KC := Hid.mk' (l1Copy_own a c l w ha (by omega))
 have HA := Hid.mk' ha
 have HU := Hid.mk' hu
 have LM := Hid.mk' lm
 clear ha hu hm lm
 go_enter Tryz.func112, Tryz.ntmps112
 go_wp2_with (first | go_big_skip | fail)
 refine KC.out.mono ?_
 rintro e w1 ⟨v, rfl, ho, hbl⟩
 have VB := below_new w1 (.cells #[.int .u8 b] 5)
 have OV := Hid.mk' (own_keep ho VB)
 have NC := Hid.mk' (new_cells' w1 5 [.int .u8 b] w1.heap.size rfl)
 have HB := Hid.mk' (hbl.trans (VB.mono hbl.size))
 have SZ := Hid.mk' HB.out.size
 have P1 : Hid (∀ u ∈ ([.int .u8 b] : List Value), u.oneCell' = true) := Hid.mk' (by
  intro u hu'
  simp only [List.mem_cons, List.not_mem_nil, or_false] at hu'
  subst hu'; rfl)
 clear ho hbl VB KC
 go_wp2_with (first | go_big_skip | (at_builtin; refine wpList_append_at _ rfl (.tmp 11) (.tmp 13) 22 rfl w.heap.size 5 (.int .u8 0) 1 1 Tryz.underlying22 Tryz.info5 rfl (by decide) _ _ _ rfl OV.out _ 1 _ [.int .u8 b] rfl rfl (.inr ⟨_, rfl, NC.out⟩) P1.out (by unfold maxLen; omega) (by omega) SZ.out ?_; intro v' w2 ho hgr hat; have OA : Hid (w2.ownsRow w.heap.size 5 1 v' m.length (bcs m)) := Hid.mk' (by rw [HM.out, LM.out]; exact ho); have BW := Hid.mk' (HB.out.grown hgr SZ.out (own_lo OV.out)); obtain ⟨aa, cc, rfl, ba⟩ := (OB.of_own OA.out).1.len; have BA := Hid.mk' ba; have KQ := Hid.mk' (l5Quoted_any a c l w2 (HA.out.below BW.out) hc (by omega)); have KN := Hid.mk' (l5Note_any a c l w2 (HA.out.below BW.out) hc (by omega)); rw [hq] at KQ; clear ho hgr hat ba) | (go_at_call 121; refine KQ.out.mono ?_; rintro e9 w9 ⟨rfl, hw9⟩; obtain rfl := hw9.symm) | (go_at_call 123; refine KN.out.mono ?_; rintro e9 w9 ⟨rfl, hw9⟩; obtain rfl := hw9.symm))
 refine (l5Go_any aa cc m _ BA.out hum.out (by have := LM.out; omega)).mono ?_
 rintro e w3 ⟨v3, rfl, o3, b3⟩
 have F := Hid.mk' (feed_go rfl rfl BW.out o3 b3)
 clear o3 b3
 go_wp2
 go_ret2
 exact F.out
theorem l5Tag_ln1 (a : Option Addr) (c : Nat) (l : List Int) (b : Nat) (w : World) (ha : BAt w a l) (hu : Byt l) (hc : l.length ≤ c) (hl : l.length ≤ 200) (hb : b ≤ 255) (h1 : b = 60) (hq : quotedB l = false) (hn : noteB l = true) (h6 : 160 ≤ l.length + 1) :
  Calls Tryz.prog 112 #[.slice a l.length c, .int .u8 b] w fun e w' => FeedB (l ++ [(b : Int)]) [] w e w' := by
 obtain ⟨m, hm⟩ : ∃ m, m = l ++ [(b : Int)] := ⟨_, rfl⟩
 rw [← hm]
 have lm : m.length = l.length + 1 := by rw [hm]; simp
 have hum : Hid (Byt m) := Hid.mk' (by rw [hm]; exact hu.snoc b hb)
 have HM : Hid (bcs m = bcs l ++ [.int .u8 b]) := Hid.mk' (by rw [hm, bcs_append]; rfl)
 have e62 : ((b : Int) == 62) = false := by rw [beq_eq_false_iff_ne]; omega
 have e60 : ((b : Int) == 60) = true := by rw [beq_iff_eq]; omega
 clear h1
 have g6 : (m.length : Int) ≥ 160 := by omega
 clear h6
 have KC := Hid.mk' (l1Copy_own a c l w ha (by omega))
 have HA := Hid.mk' ha
 have HU := Hid.mk' hu
 have LM := Hid.mk' lm
 clear ha hu hm lm
 go_enter Tryz.func112, Tryz.ntmps112
 go_wp2_with (first | go_big_skip | fail)
 refine KC.out.mono ?_
 rintro e w1 ⟨v, rfl, ho, hbl⟩
 have VB := below_new w1 (.cells #[.int .u8 b] 5)
 have OV := Hid.mk' (own_keep ho VB)
 have NC := Hid.mk' (new_cells' w1 5 [.int .u8 b] w1.heap.size rfl)
 have HB := Hid.mk' (hbl.trans (VB.mono hbl.size))
 have SZ := Hid.mk' HB.out.size
 have P1 : Hid (∀ u ∈ ([.int .u8 b] : List Value), u.oneCell' = true) := Hid.mk' (by
  intro u hu'
  simp only [List.mem_cons, List.not_mem_nil, or_false] at hu'
  subst hu'; rfl)
 clear ho hbl VB KC
 go_wp2_with (first | go_big_skip | (at_builtin; refine wpList_append_at _ rfl (.tmp 11) (.tmp 13) 22 rfl w.heap.size 5 (.int .u8 0) 1 1 Tryz.underlying22 Tryz.info5 rfl (by decide) _ _ _ rfl OV.out _ 1 _ [.int .u8 b] rfl rfl (.inr ⟨_, rfl, NC.out⟩) P1.out (by unfold maxLen; omega) (by omega) SZ.out ?_; intro v' w2 ho hgr hat; have OA : Hid (w2.ownsRow w.heap.size 5 1 v' m.length (bcs m)) := Hid.mk' (by rw [HM.out, LM.out]; exact ho); have BW := Hid.mk' (HB.out.grown hgr SZ.out (own_lo OV.out)); obtain ⟨aa, cc, rfl, ba⟩ := (OB.of_own OA.out).1.len; have BA := Hid.mk' ba; have KQ := Hid.mk' (l5Quoted_any a c l w2 (HA.out.below BW.out) hc (by omega)); have KN := Hid.mk' (l5Note_any a c l w2 (HA.out.below BW.out) hc (by omega)); rw [hq] at KQ; rw [hn] at KN; clear ho hgr hat ba) | (go_at_call 121; refine KQ.out.mono ?_; rintro e9 w9 ⟨rfl, hw9⟩; obtain rfl := hw9.symm) | (go_at_call 123; refine KN.out.mono ?_; rintro e9 w9 ⟨rfl, hw9⟩; obtain rfl := hw9.symm))
 refine (l5Go_any aa cc m _ BA.out hum.out (by have := LM.out; omega)).mono ?_
 rintro e w3 ⟨v3, rfl, o3, b3⟩
 have F := Hid.mk' (feed_go rfl rfl BW.out o3 b3)
 clear o3 b3
 go_wp2
 go_ret2
 exact F.out
theorem l5Tag_o0 (a : Option Addr) (c : Nat) (l : List Int) (b : Nat) (w : World) (ha : BAt w a l) (hu : Byt l) (hc : l.length ≤ c) (hl : l.length ≤ 200) (hb : b ≤ 255) (h1 : ¬ b = 62) (h2 : ¬ b = 60) (h6 : ¬ 160 ≤ l.length + 1) :
  Calls Tryz.prog 112 #[.slice a l.length c, .int .u8 b] w fun e w' => FeedB [] (l ++ [(b : Int)]) w e w' := by
 obtain ⟨m, hm⟩ : ∃ m, m = l ++ [(b : Int)] := ⟨_, rfl⟩
 rw [← hm]
 have lm : m.length = l.length + 1 := by rw [hm]; simp
 have hum : Hid (Byt m) := Hid.mk' (by rw [hm]; exact hu.snoc b hb)
 have HM : Hid (bcs m = bcs l ++ [.int .u8 b]) := Hid.mk' (by rw [hm, bcs_append]; rfl)
 have e62 : ((b : Int) == 62) = false := by rw [beq_eq_false_iff_ne]; omega
 have e60 : ((b : Int) == 60) = false := by rw [beq_eq_false_iff_ne]; omega
 clear h1 h2
 have g6 : ¬ (m.length : Int) ≥ 160 := by omega
 clear h6
 have KC := Hid.mk' (l1Copy_own a c l w ha (by omega))
 have HA := Hid.mk' ha
 have HU := Hid.mk' hu
 have LM := Hid.mk' lm
 clear ha hu hm lm
 go_enter Tryz.func112, Tryz.ntmps112
 go_wp2_with (first | go_big_skip | fail)
 refine KC.out.mono ?_
 rintro e w1 ⟨v, rfl, ho, hbl⟩
 have VB := below_new w1 (.cells #[.int .u8 b] 5)
 have OV := Hid.mk' (own_keep ho VB)
 have NC := Hid.mk' (new_cells' w1 5 [.int .u8 b] w1.heap.size rfl)
 have HB := Hid.mk' (hbl.trans (VB.mono hbl.size))
 have SZ := Hid.mk' HB.out.size
 have P1 : Hid (∀ u ∈ ([.int .u8 b] : List Value), u.oneCell' = true) := Hid.mk' (by
  intro u hu'
  simp only [List.mem_cons, List.not_mem_nil, or_false] at hu'
  subst hu'; rfl)
 clear ho hbl VB KC
 go_wp2_with (first | go_big_skip | (at_builtin; refine wpList_append_at _ rfl (.tmp 11) (.tmp 13) 22 rfl w.heap.size 5 (.int .u8 0) 1 1 Tryz.underlying22 Tryz.info5 rfl (by decide) _ _ _ rfl OV.out _ 1 _ [.int .u8 b] rfl rfl (.inr ⟨_, rfl, NC.out⟩) P1.out (by unfold maxLen; omega) (by omega) SZ.out ?_; intro v' w2 ho hgr hat; have OA : Hid (w2.ownsRow w.heap.size 5 1 v' m.length (bcs m)) := Hid.mk' (by rw [HM.out, LM.out]; exact ho); have BW := Hid.mk' (HB.out.grown hgr SZ.out (own_lo OV.out)); obtain ⟨aa, cc, rfl, ba⟩ := (OB.of_own OA.out).1.len; have BA := Hid.mk' ba; have KQ := Hid.mk' (l5Quoted_any a c l w2 (HA.out.below BW.out) hc (by omega)); have KN := Hid.mk' (l5Note_any a c l w2 (HA.out.below BW.out) hc (by omega)); clear ho hgr hat ba) | (go_at_call 121; refine KQ.out.mono ?_; rintro e9 w9 ⟨rfl, hw9⟩; obtain rfl := hw9.symm) | (go_at_call 123; refine KN.out.mono ?_; rintro e9 w9 ⟨rfl, hw9⟩; obtain rfl := hw9.symm))
 have F := Hid.mk' (feed_hold rfl rfl BW.out OA.out)
 go_ret2
 exact F.out
theorem l5Tag_gq0 (a : Option Addr) (c : Nat) (l : List Int) (b : Nat) (w : World) (ha : BAt w a l) (hu : Byt l) (hc : l.length ≤ c) (hl : l.length ≤ 200) (hb : b ≤ 255) (h1 : b = 62) (hq : quotedB l = true) (h6 : ¬ 160 ≤ l.length + 1) :
  Calls Tryz.prog 112 #[.slice a l.length c, .int .u8 b] w fun e w' => FeedB [] (l ++ [(b : Int)]) w e w' := by
 obtain ⟨m, hm⟩ : ∃ m, m = l ++ [(b : Int)] := ⟨_, rfl⟩
 rw [← hm]
 have lm : m.length = l.length + 1 := by rw [hm]; simp
 have hum : Hid (Byt m) := Hid.mk' (by rw [hm]; exact hu.snoc b hb)
 have HM : Hid (bcs m = bcs l ++ [.int .u8 b]) := Hid.mk' (by rw [hm, bcs_append]; rfl)
 have e62 : ((b : Int) == 62) = true := by rw [beq_iff_eq]; omega
 have e60 : ((b : Int) == 60) = false := by rw [beq_eq_false_iff_ne]; omega
 clear h1
 have g6 : ¬ (m.length : Int) ≥ 160 := by omega
 clear h6
 have KC := Hid.mk' (l1Copy_own a c l w ha (by omega))
 have HA := Hid.mk' ha
 have HU := Hid.mk' hu
 have LM := Hid.mk' lm
 clear ha hu hm lm
 go_enter Tryz.func112, Tryz.ntmps112
 go_wp2_with (first | go_big_skip | fail)
 refine KC.out.mono ?_
 rintro e w1 ⟨v, rfl, ho, hbl⟩
 have VB := below_new w1 (.cells #[.int .u8 b] 5)
 have OV := Hid.mk' (own_keep ho VB)
 have NC := Hid.mk' (new_cells' w1 5 [.int .u8 b] w1.heap.size rfl)
 have HB := Hid.mk' (hbl.trans (VB.mono hbl.size))
 have SZ := Hid.mk' HB.out.size
 have P1 : Hid (∀ u ∈ ([.int .u8 b] : List Value), u.oneCell' = true) := Hid.mk' (by
  intro u hu'
  simp only [List.mem_cons, List.not_mem_nil, or_false] at hu'
  subst hu'; rfl)
 clear ho hbl VB KC
 go_wp2_with (first | go_big_skip | (at_builtin; refine wpList_append_at _ rfl (.tmp 11) (.tmp 13) 22 rfl w.heap.size 5 (.int .u8 0) 1 1 Tryz.underlying22 Tryz.info5 rfl (by decide) _ _ _ rfl OV.out _ 1 _ [.int .u8 b] rfl rfl (.inr ⟨_, rfl, NC.out⟩) P1.out (by unfold maxLen; omega) (by omega) SZ.out ?_; intro v' w2 ho hgr hat; have OA : Hid (w2.ownsRow w.heap.size 5 1 v' m.length (bcs m)) := Hid.mk' (by rw [HM.out, LM.out]; exact ho); have BW := Hid.mk' (HB.out.grown hgr SZ.out (own_lo OV.out)); obtain ⟨aa, cc, rfl, ba⟩ := (OB.of_own OA.out).1.len; have BA := Hid.mk' ba; have KQ := Hid.mk' (l5Quoted_any a c l w2 (HA.out.below BW.out) hc (by omega)); have KN := Hid.mk' (l5Note_any a c l w2 (HA.out.below BW.out) hc (by omega)); rw [hq] at KQ; clear ho hgr hat ba) | (go_at_call 121; refine KQ.out.mono ?_; rintro e9 w9 ⟨rfl, hw9⟩; obtain rfl := hw9.symm) | (go_at_call 123; refine KN.out.mono ?_; rintro e9 w9 ⟨rfl, hw9⟩; obtain rfl := hw9.symm))
 have F := Hid.mk' (feed_hold rfl rfl BW.out OA.out)
 go_ret2
 exact F.out
theorem l5Tag_lq0 (a : Option Addr) (c : Nat) (l : List Int) (b : Nat) (w : World) (ha : BAt w a l) (hu : Byt l) (hc : l.length ≤ c) (hl : l.length ≤ 200) (hb : b ≤ 255) (h1 : b = 60) (hq : quotedB l = true) (h6 : ¬ 160 ≤ l.length + 1) :
  Calls Tryz.prog 112 #[.slice a l.length c, .int .u8 b] w fun e w' => FeedB [] (l ++ [(b : Int)]) w e w' := by
 obtain ⟨m, hm⟩ : ∃ m, m = l ++ [(b : Int)] := ⟨_, rfl⟩
 rw [← hm]
 have lm : m.length = l.length + 1 := by rw [hm]; simp
 have hum : Hid (Byt m) := Hid.mk' (by rw [hm]; exact hu.snoc b hb)
 have HM : Hid (bcs m = bcs l ++ [.int .u8 b]) := Hid.mk' (by rw [hm, bcs_append]; rfl)
 have e62 : ((b : Int) == 62) = false := by rw [beq_eq_false_iff_ne]; omega
 have e60 : ((b : Int) == 60) = true := by rw [beq_iff_eq]; omega
 clear h1
 have g6 : ¬ (m.length : Int) ≥ 160 := by omega
 clear h6
 have KC := Hid.mk' (l1Copy_own a c l w ha (by omega))
 have HA := Hid.mk' ha
 have HU := Hid.mk' hu
 have LM := Hid.mk' lm
 clear ha hu hm lm
 go_enter Tryz.func112, Tryz.ntmps112
 go_wp2_with (first | go_big_skip | fail)
 refine KC.out.mono ?_
 rintro e w1 ⟨v, rfl, ho, hbl⟩
 have VB := below_new w1 (.cells #[.int .u8 b] 5)
 have OV := Hid.mk' (own_keep ho VB)
 have NC := Hid.mk' (new_cells' w1 5 [.int .u8 b] w1.heap.size rfl)
 have HB := Hid.mk' (hbl.trans (VB.mono hbl.size))
 have SZ := Hid.mk' HB.out.size
 have P1 : Hid (∀ u ∈ ([.int .u8 b] : List Value), u.oneCell' = true) := Hid.mk' (by
  intro u hu'
  simp only [List.mem_cons, List.not_mem_nil, or_false] at hu'
  subst hu'; rfl)
 clear ho hbl VB KC
 go_wp2_with (first | go_big_skip | (at_builtin; refine wpList_append_at _ rfl (.tmp 11) (.tmp 13) 22 rfl w.heap.size 5 (.int .u8 0) 1 1 Tryz.underlying22 Tryz.info5 rfl (by decide) _ _ _ rfl OV.out _ 1 _ [.int .u8 b] rfl rfl (.inr ⟨_, rfl, NC.out⟩) P1.out (by unfold maxLen; omega) (by omega) SZ.out ?_; intro v' w2 ho hgr hat; have OA : Hid (w2.ownsRow w.heap.size 5 1 v' m.length (bcs m)) := Hid.mk' (by rw [HM.out, LM.out]; exact ho); have BW := Hid.mk' (HB.out.grown hgr SZ.out (own_lo OV.out)); obtain ⟨aa, cc, rfl, ba⟩ := (OB.of_own OA.out).1.len; have BA := Hid.mk' ba; have KQ := Hid.mk' (l5Quoted_any a c l w2 (HA.out.below BW.out) hc (by omega)); have KN := Hid.mk' (l5Note_any a c l w2 (HA.out.below BW.out) hc (by omega)); rw [hq] at KQ; clear ho hgr hat ba) | (go_at_call 121; refine KQ.out.mono ?_; rintro e9 w9 ⟨rfl, hw9⟩; obtain rfl := hw9.symm) | (go_at_call 123; refine KN.out.mono ?_; rintro e9 w9 ⟨rfl, hw9⟩; obtain rfl := hw9.symm))
 have F := Hid.mk' (feed_hold rfl rfl BW.out OA.out)
 go_ret2
 exact F.out
theorem l5Tag_ln0 (a : Option Addr) (c : Nat) (l : List Int) (b : Nat) (w : World) (ha : BAt w a l) (hu : Byt l) (hc : l.length ≤ c) (hl : l.length ≤ 200) (hb : b ≤ 255) (h1 : b = 60) (hq : quotedB l = false) (hn : noteB l = true) (h6 : ¬ 160 ≤ l.length + 1) :
  Calls Tryz.prog 112 #[.slice a l.length c, .int .u8 b] w fun e w' => FeedB [] (l ++ [(b : Int)]) w e w' := by
 obtain ⟨m, hm⟩ : ∃ m, m = l ++ [(b : Int)] := ⟨_, rfl⟩
 rw [← hm]
 have lm : m.length = l.length + 1 := by rw [hm]; simp
 have hum : Hid (Byt m) := Hid.mk' (by rw [hm]; exact hu.snoc b hb)
 have HM : Hid (bcs m = bcs l ++ [.int .u8 b]) := Hid.mk' (by rw [hm, bcs_append]; rfl)
 have e62 : ((b : Int) == 62) = false := by rw [beq_eq_false_iff_ne]; omega
 have e60 : ((b : Int) == 60) = true := by rw [beq_iff_eq]; omega
 clear h1
 have g6 : ¬ (m.length : Int) ≥ 160 := by omega
 clear h6
 have KC := Hid.mk' (l1Copy_own a c l w ha (by omega))
 have HA := Hid.mk' ha
 have HU := Hid.mk' hu
 have LM := Hid.mk' lm
 clear ha hu hm lm
 go_enter Tryz.func112, Tryz.ntmps112
 go_wp2_with (first | go_big_skip | fail)
 refine KC.out.mono ?_
 rintro e w1 ⟨v, rfl, ho, hbl⟩
 have VB := below_new w1 (.cells #[.int .u8 b] 5)
 have OV := Hid.mk' (own_keep ho VB)
 have NC := Hid.mk' (new_cells' w1 5 [.int .u8 b] w1.heap.size rfl)
 have HB := Hid.mk' (hbl.trans (VB.mono hbl.size))
 have SZ := Hid.mk' HB.out.size
 have P1 : Hid (∀ u ∈ ([.int .u8 b] : List Value), u.oneCell' = true) := Hid.mk' (by
  intro u hu'
  simp only [List.mem_cons, List.not_mem_nil, or_false] at hu'
  subst hu'; rfl)
 clear ho hbl VB KC
 go_wp2_with (first | go_big_skip | (at_builtin; refine wpList_append_at _ rfl (.tmp 11) (.tmp 13) 22 rfl w.heap.size 5 (.int .u8 0) 1 1 Tryz.underlying22 Tryz.info5 rfl (by decide) _ _ _ rfl OV.out _ 1 _ [.int .u8 b] rfl rfl (.inr ⟨_, rfl, NC.out⟩) P1.out (by unfold maxLen; omega) (by omega) SZ.out ?_; intro v' w2 ho hgr hat; have OA : Hid (w2.ownsRow w.heap.size 5 1 v' m.length (bcs m)) := Hid.mk' (by rw [HM.out, LM.out]; exact ho); have BW := Hid.mk' (HB.out.grown hgr SZ.out (own_lo OV.out)); obtain ⟨aa, cc, rfl, ba⟩ := (OB.of_own OA.out).1.len; have BA := Hid.mk' ba; have KQ := Hid.mk' (l5Quoted_any a c l w2 (HA.out.below BW.out) hc (by omega)); have KN := Hid.mk' (l5Note_any a c l w2 (HA.out.below BW.out) hc (by omega)); rw [hq] at KQ; rw [hn] at KN; clear ho hgr hat ba) | (go_at_call 121; refine KQ.out.mono ?_; rintro e9 w9 ⟨rfl, hw9⟩; obtain rfl := hw9.symm) | (go_at_call 123; refine KN.out.mono ?_; rintro e9 w9 ⟨rfl, hw9⟩; obtain rfl := hw9.symm))
 have F := Hid.mk' (feed_hold rfl rfl BW.out OA.out)
 go_ret2
 exact F.out
theorem l5Tag_gn1 (a : Option Addr) (c : Nat) (l : List Int) (b : Nat) (w : World) (ha : BAt w a l) (hu : Byt l) (hc : l.length ≤ c) (hl : l.length ≤ 200) (hb : b ≤ 255) (h1 : b = 62) (ht : tagA (strU (l ++ [(b : Int)])) = none) (hq : quotedB l = false) (hn : noteB l = true) (h6 : 160 ≤ l.length + 1) :
  Calls Tryz.prog 112 #[.slice a l.length c, .int .u8 b] w fun e w' => FeedB (l ++ [(b : Int)]) [] w e w' := by
 obtain ⟨m, hm⟩ : ∃ m, m = l ++ [(b : Int)] := ⟨_, rfl⟩
 rw [← hm]
 have lm : m.length = l.length + 1 := by rw [hm]; simp
 have hum : Hid (Byt m) := Hid.mk' (by rw [hm]; exact hu.snoc b hb)
 have HM : Hid (bcs m = bcs l ++ [.int .u8 b]) := Hid.mk' (by rw [hm, bcs_append]; rfl)
 have e62 : ((b : Int) == 62) = true := by rw [beq_iff_eq]; omega
 have e60 : ((b : Int) == 60) = false := by rw [beq_eq_false_iff_ne]; omega
 have HT : Hid (tagA (strI m).data.toList = none) := Hid.mk' (by rw [hm]; exact ht)
 clear h1 ht
 have g6 : (m.length : Int) ≥ 160 := by omega
 clear h6
 have KC := Hid.mk' (l1Copy_own a c l w ha (by omega))
 have HA := Hid.mk' ha
 have HU := Hid.mk' hu
 have LM := Hid.mk' lm
 clear ha hu hm lm
 go_enter Tryz.func112, Tryz.ntmps112
 go_wp2_with (first | go_big_skip | fail)
 refine KC.out.mono ?_
 rintro e w1 ⟨v, rfl, ho, hbl⟩
 have VB := below_new w1 (.cells #[.int .u8 b] 5)
 have OV := Hid.mk' (own_keep ho VB)
 have NC := Hid.mk' (new_cells' w1 5 [.int .u8 b] w1.heap.size rfl)
 have HB := Hid.mk' (hbl.trans (VB.mono hbl.size))
 have SZ := Hid.mk' HB.out.size
 have P1 : Hid (∀ u ∈ ([.int .u8 b] : List Value), u.oneCell' = true) := Hid.mk' (by
  intro u hu'
  simp only [List.mem_cons, List.not_mem_nil, or_false] at hu'
  subst hu'; rfl)
 clear ho hbl VB KC
 go_wp2_with (first | go_big_skip | (at_builtin; refine wpList_append_at _ rfl (.tmp 11) (.tmp 13) 22 rfl w.heap.size 5 (.int .u8 0) 1 1 Tryz.underlying22 Tryz.info5 rfl (by decide) _ _ _ rfl OV.out _ 1 _ [.int .u8 b] rfl rfl (.inr ⟨_, rfl, NC.out⟩) P1.out (by unfold maxLen; omega) (by omega) SZ.out ?_; intro v' w2 ho hgr hat; have OA : Hid (w2.ownsRow w.heap.size 5 1 v' m.length (bcs m)) := Hid.mk' (by rw [HM.out, LM.out]; exact ho); have BW := Hid.mk' (HB.out.grown hgr SZ.out (own_lo OV.out)); obtain ⟨aa, cc, rfl, ba⟩ := (OB.of_own OA.out).1.len; have BA := Hid.mk' ba; have KQ := Hid.mk' (l5Quoted_any a c l w2 (HA.out.below BW.out) hc (by omega)); have KN := Hid.mk' (l5Note_any a c l w2 (HA.out.below BW.out) hc (by omega)); rw [hq] at KQ; rw [hn] at KN; have hcv := conv_bytesT cc ba; have KR := Hid.mk' (l4Read_any (strI m) w2 (by rw [strI_size, LM.out]; omega)); rw [HT.out] at KR; clear ho hgr hat ba) | (go_at_call 121; refine KQ.out.mono ?_; rintro e9 w9 ⟨rfl, hw9⟩; obtain rfl := hw9.symm) | (go_at_call 123; refine KN.out.mono ?_; rintro e9 w9 ⟨rfl, hw9⟩; obtain rfl := hw9.symm) | (go_at_call 122; refine KR.out.mono ?_; rintro e9 w9 ⟨t, vt, us, ok, rfl, hoa, hok, hb9⟩; obtain rfl : ok = false := (by cases ok; rfl; simp at hok); obtain ⟨pa, pc, rfl, haat⟩ := hoa.at; have hx := below_new w9 (.cells #[.int .i64 t.kd, .int .i64 t.by_, .string t.nm, .slice pa t.at_.length pc, .bool t.sh] 107); have hb10 := hb9.trans (hx.mono hb9.size); have OA := Hid.mk' (own_keep OA.out hb10); have BA := Hid.mk' (BA.out.below hb10); have BW := Hid.mk' (BW.out.trans (hb10.mono BW.out.size)); have KN := Hid.mk' (l5Note_any a c l _ (HA.out.below BW.out) hc (by omega)); rw [hn] at KN; clear hoa hok hb9 hx hb10 haat KR))
 refine (l5Go_any aa cc m _ BA.out hum.out (by have := LM.out; omega)).mono ?_
 rintro e w3 ⟨v3, rfl, o3, b3⟩
 have F := Hid.mk' (feed_go rfl rfl BW.out o3 b3)
 clear o3 b3
 go_wp2
 go_ret2
 exact F.out
theorem l5Tag_gn0 (a : Option Addr) (c : Nat) (l : List Int) (b : Nat) (w : World) (ha : BAt w a l) (hu : Byt l) (hc : l.length ≤ c) (hl : l.length ≤ 200) (hb : b ≤ 255) (h1 : b = 62) (ht : tagA (strU (l ++ [(b : Int)])) = none) (hq : quotedB l = false) (hn : noteB l = true) (h6 : ¬ 160 ≤ l.length + 1) :
  Calls Tryz.prog 112 #[.slice a l.length c, .int .u8 b] w fun e w' => FeedB [] (l ++ [(b : Int)]) w e w' := by
 obtain ⟨m, hm⟩ : ∃ m, m = l ++ [(b : Int)] := ⟨_, rfl⟩
 rw [← hm]
 have lm : m.length = l.length + 1 := by rw [hm]; simp
 have hum : Hid (Byt m) := Hid.mk' (by rw [hm]; exact hu.snoc b hb)
 have HM : Hid (bcs m = bcs l ++ [.int .u8 b]) := Hid.mk' (by rw [hm, bcs_append]; rfl)
 have e62 : ((b : Int) == 62) = true := by rw [beq_iff_eq]; omega
 have e60 : ((b : Int) == 60) = false := by rw [beq_eq_false_iff_ne]; omega
 have HT : Hid (tagA (strI m).data.toList = none) := Hid.mk' (by rw [hm]; exact ht)
 clear h1 ht
 have g6 : ¬ (m.length : Int) ≥ 160 := by omega
 clear h6
 have KC := Hid.mk' (l1Copy_own a c l w ha (by omega))
 have HA := Hid.mk' ha
 have HU := Hid.mk' hu
 have LM := Hid.mk' lm
 clear ha hu hm lm
 go_enter Tryz.func112, Tryz.ntmps112
 go_wp2_with (first | go_big_skip | fail)
 refine KC.out.mono ?_
 rintro e w1 ⟨v, rfl, ho, hbl⟩
 have VB := below_new w1 (.cells #[.int .u8 b] 5)
 have OV := Hid.mk' (own_keep ho VB)
 have NC := Hid.mk' (new_cells' w1 5 [.int .u8 b] w1.heap.size rfl)
 have HB := Hid.mk' (hbl.trans (VB.mono hbl.size))
 have SZ := Hid.mk' HB.out.size
 have P1 : Hid (∀ u ∈ ([.int .u8 b] : List Value), u.oneCell' = true) := Hid.mk' (by
  intro u hu'
  simp only [List.mem_cons, List.not_mem_nil, or_false] at hu'
  subst hu'; rfl)
 clear ho hbl VB KC
 go_wp2_with (first | go_big_skip | (at_builtin; refine wpList_append_at _ rfl (.tmp 11) (.tmp 13) 22 rfl w.heap.size 5 (.int .u8 0) 1 1 Tryz.underlying22 Tryz.info5 rfl (by decide) _ _ _ rfl OV.out _ 1 _ [.int .u8 b] rfl rfl (.inr ⟨_, rfl, NC.out⟩) P1.out (by unfold maxLen; omega) (by omega) SZ.out ?_; intro v' w2 ho hgr hat; have OA : Hid (w2.ownsRow w.heap.size 5 1 v' m.length (bcs m)) := Hid.mk' (by rw [HM.out, LM.out]; exact ho); have BW := Hid.mk' (HB.out.grown hgr SZ.out (own_lo OV.out)); obtain ⟨aa, cc, rfl, ba⟩ := (OB.of_own OA.out).1.len; have BA := Hid.mk' ba; have KQ := Hid.mk' (l5Quoted_any a c l w2 (HA.out.below BW.out) hc (by omega)); have KN := Hid.mk' (l5Note_any a c l w2 (HA.out.below BW.out) hc (by omega)); rw [hq] at KQ; rw [hn] at KN; have hcv := conv_bytesT cc ba; have KR := Hid.mk' (l4Read_any (strI m) w2 (by rw [strI_size, LM.out]; omega)); rw [HT.out] at KR; clear ho hgr hat ba) | (go_at_call 121; refine KQ.out.mono ?_; rintro e9 w9 ⟨rfl, hw9⟩; obtain rfl := hw9.symm) | (go_at_call 123; refine KN.out.mono ?_; rintro e9 w9 ⟨rfl, hw9⟩; obtain rfl := hw9.symm) | (go_at_call 122; refine KR.out.mono ?_; rintro e9 w9 ⟨t, vt, us, ok, rfl, hoa, hok, hb9⟩; obtain rfl : ok = false := (by cases ok; rfl; simp at hok); obtain ⟨pa, pc, rfl, haat⟩ := hoa.at; have hx := below_new w9 (.cells #[.int .i64 t.kd, .int .i64 t.by_, .string t.nm, .slice pa t.at_.length pc, .bool t.sh] 107); have hb10 := hb9.trans (hx.mono hb9.size); have OA := Hid.mk' (own_keep OA.out hb10); have BA := Hid.mk' (BA.out.below hb10); have BW := Hid.mk' (BW.out.trans (hb10.mono BW.out.size)); have KN := Hid.mk' (l5Note_any a c l _ (HA.out.below BW.out) hc (by omega)); rw [hn] at KN; clear hoa hok hb9 hx hb10 haat KR))
 have F := feed_hold rfl rfl BW.out OA.out
 rw [World.heap_size_alloc'] at F
 have F := Hid.mk' F
 go_ret2
 exact F.out
theorem l5Tag_gx (a : Option Addr) (c : Nat) (l : List Int) (b : Nat) (w : World) (ha : BAt w a l) (hu : Byt l) (hc : l.length ≤ c) (hl : l.length ≤ 200) (hb : b ≤ 255) (h1 : b = 62) (ht : tagA (strU (l ++ [(b : Int)])) = none) (hq : quotedB l = false) (hn : noteB l = false) :
  Calls Tryz.prog 112 #[.slice a l.length c, .int .u8 b] w fun e w' => FeedB (l ++ [(b : Int)]) [] w e w' := by
 obtain ⟨m, hm⟩ : ∃ m, m = l ++ [(b : Int)] := ⟨_, rfl⟩
 rw [← hm]
 have lm : m.length = l.length + 1 := by rw [hm]; simp
 have hum : Hid (Byt m) := Hid.mk' (by rw [hm]; exact hu.snoc b hb)
 have HM : Hid (bcs m = bcs l ++ [.int .u8 b]) := Hid.mk' (by rw [hm, bcs_append]; rfl)
 have e62 : ((b : Int) == 62) = true := by rw [beq_iff_eq]; omega
 have e60 : ((b : Int) == 60) = false := by rw [beq_eq_false_iff_ne]; omega
 have HT : Hid (tagA (strI m).data.toList = none) := Hid.mk' (by rw [hm]; exact ht)
 clear h1 ht
 have KC := Hid.mk' (l1Copy_own a c l w ha (by omega))
 have HA := Hid.mk' ha
 have HU := Hid.mk' hu
 have LM := Hid.mk' lm
 clear ha hu hm lm
 go_enter Tryz.func112, Tryz.ntmps112
 go_wp2_with (first | go_big_skip | fail)
 refine KC.out.mono ?_
 rintro e w1 ⟨v, rfl, ho, hbl⟩
 have VB := below_new w1 (.cells #[.int .u8 b] 5)
 have OV := Hid.mk' (own_keep ho VB)
 have NC := Hid.mk' (new_cells' w1 5 [.int .u8 b] w1.heap.size rfl)
 have HB := Hid.mk' (hbl.trans (VB.mono hbl.size))
 have SZ := Hid.mk' HB.out.size
 have P1 : Hid (∀ u ∈ ([.int .u8 b] : List Value), u.oneCell' = true) := Hid.mk' (by
  intro u hu'
  simp only [List.mem_cons, List.not_mem_nil, or_false] at hu'
  subst hu'; rfl)
 clear ho hbl VB KC
 go_wp2_with (first | go_big_skip | (at_builtin; refine wpList_append_at _ rfl (.tmp 11) (.tmp 13) 22 rfl w.heap.size 5 (.int .u8 0) 1 1 Tryz.underlying22 Tryz.info5 rfl (by decide) _ _ _ rfl OV.out _ 1 _ [.int .u8 b] rfl rfl (.inr ⟨_, rfl, NC.out⟩) P1.out (by unfold maxLen; omega) (by omega) SZ.out ?_; intro v' w2 ho hgr hat; have OA : Hid (w2.ownsRow w.heap.size 5 1 v' m.length (bcs m)) := Hid.mk' (by rw [HM.out, LM.out]; exact ho); have BW := Hid.mk' (HB.out.grown hgr SZ.out (own_lo OV.out)); obtain ⟨aa, cc, rfl, ba⟩ := (OB.of_own OA.out).1.len; have BA := Hid.mk' ba; have KQ := Hid.mk' (l5Quoted_any a c l w2 (HA.out.below BW.out) hc (by omega)); have KN := Hid.mk' (l5Note_any a c l w2 (HA.out.below BW.out) hc (by omega)); rw [hq] at KQ; rw [hn] at KN; have hcv := conv_bytesT cc ba; have KR := Hid.mk' (l4Read_any (strI m) w2 (by rw [strI_size, LM.out]; omega)); rw [HT.out] at KR; clear ho hgr hat ba) | (go_at_call 121; refine KQ.out.mono ?_; rintro e9 w9 ⟨rfl, hw9⟩; obtain rfl := hw9.symm) | (go_at_call 123; refine KN.out.mono ?_; rintro e9 w9 ⟨rfl, hw9⟩; obtain rfl := hw9.symm) | (go_at_call 122; refine KR.out.mono ?_; rintro e9 w9 ⟨t, vt, us, ok, rfl, hoa, hok, hb9⟩; obtain rfl : ok = false := (by cases ok; rfl; simp at hok); obtain ⟨pa, pc, rfl, haat⟩ := hoa.at; have hx := below_new w9 (.cells #[.int .i64 t.kd, .int .i64 t.by_, .string t.nm, .slice pa t.at_.length pc, .bool t.sh] 107); have hb10 := hb9.trans (hx.mono hb9.size); have OA := Hid.mk' (own_keep OA.out hb10); have BA := Hid.mk' (BA.out.below hb10); have BW := Hid.mk' (BW.out.trans (hb10.mono BW.out.size)); have KN := Hid.mk' (l5Note_any a c l _ (HA.out.below BW.out) hc (by omega)); rw [hn] at KN; clear hoa hok hb9 hx hb10 haat KR))
 refine (l5Go_any aa cc m _ BA.out hum.out (by have := LM.out; omega)).mono ?_
 rintro e w3 ⟨v3, rfl, o3, b3⟩
 have F := Hid.mk' (feed_go rfl rfl BW.out o3 b3)
 clear o3 b3
 go_wp2
 go_ret2
 exact F.out
theorem l5Tag_lx (a : Option Addr) (c : Nat) (l : List Int) (b : Nat) (w : World) (ha : BAt w a l) (hu : Byt l) (hc : l.length ≤ c) (hl : l.length ≤ 200) (hb : b ≤ 255) (h1 : b = 60) (hq : quotedB l = false) (hn : noteB l = false) :
  Calls Tryz.prog 112 #[.slice a l.length c, .int .u8 b] w fun e w' => FeedB l [(b : Int)] w e w' := by
 obtain ⟨m, hm⟩ : ∃ m, m = l ++ [(b : Int)] := ⟨_, rfl⟩
 have lm : m.length = l.length + 1 := by rw [hm]; simp
 have hum : Hid (Byt m) := Hid.mk' (by rw [hm]; exact hu.snoc b hb)
 have HM : Hid (bcs m = bcs l ++ [.int .u8 b]) := Hid.mk' (by rw [hm, bcs_append]; rfl)
 have e62 : ((b : Int) == 62) = false := by rw [beq_eq_false_iff_ne]; omega
 have e60 : ((b : Int) == 60) = true := by rw [beq_iff_eq]; omega
 clear h1
 have KC := Hid.mk' (l1Copy_own a c l w ha (by omega))
 have HA := Hid.mk' ha
 have HU := Hid.mk' hu
 have LM := Hid.mk' lm
 clear ha hu hm lm
 go_enter Tryz.func112, Tryz.ntmps112
 go_wp2_with (first | go_big_skip | fail)
 refine KC.out.mono ?_
 rintro e w1 ⟨v, rfl, ho, hbl⟩
 have VB := below_new w1 (.cells #[.int .u8 b] 5)
 have OV := Hid.mk' (own_keep ho VB)
 have NC := Hid.mk' (new_cells' w1 5 [.int .u8 b] w1.heap.size rfl)
 have HB := Hid.mk' (hbl.trans (VB.mono hbl.size))
 have SZ := Hid.mk' HB.out.size
 have P1 : Hid (∀ u ∈ ([.int .u8 b] : List Value), u.oneCell' = true) := Hid.mk' (by
  intro u hu'
  simp only [List.mem_cons, List.not_mem_nil, or_false] at hu'
  subst hu'; rfl)
 clear ho hbl VB KC
 go_wp2_with (first | go_big_skip | (at_builtin; refine wpList_append_at _ rfl (.tmp 11) (.tmp 13) 22 rfl w.heap.size 5 (.int .u8 0) 1 1 Tryz.underlying22 Tryz.info5 rfl (by decide) _ _ _ rfl OV.out _ 1 _ [.int .u8 b] rfl rfl (.inr ⟨_, rfl, NC.out⟩) P1.out (by unfold maxLen; omega) (by omega) SZ.out ?_; intro v' w2 ho hgr hat; have OA : Hid (w2.ownsRow w.heap.size 5 1 v' m.length (bcs m)) := Hid.mk' (by rw [HM.out, LM.out]; exact ho); have BW := Hid.mk' (HB.out.grown hgr SZ.out (own_lo OV.out)); obtain ⟨aa, cc, rfl, ba⟩ := (OB.of_own OA.out).1.len; have BA := Hid.mk' ba; have KQ := Hid.mk' (l5Quoted_any a c l w2 (HA.out.below BW.out) hc (by omega)); have KN := Hid.mk' (l5Note_any a c l w2 (HA.out.below BW.out) hc (by omega)); rw [hq] at KQ; rw [hn] at KN; clear ho hgr hat ba) | (go_at_call 121; refine KQ.out.mono ?_; rintro e9 w9 ⟨rfl, hw9⟩; obtain rfl := hw9.symm) | (go_at_call 123; refine KN.out.mono ?_; rintro e9 w9 ⟨rfl, hw9⟩; obtain rfl := hw9.symm))
 refine (l5Go_any a c l _ (HA.out.below BW.out) HU.out (by omega)).mono ?_
 rintro e w3 ⟨v3, rfl, o3, b3⟩
 have F := Hid.mk' (feed_next (b := (b : Int)) BW.out o3 b3)
 clear o3 b3
 go_wp2
 go_ret2
 exact F.out
def FeedOne (t : TK) (w : World) (e : Ending) (w' : World) : Prop := ∃ v u va us w9, e = .returned (.tuple #[v, u]) ∧ w'.ownsRow w.heap.size 107 5 v 1 (tcs [t] [va]) ∧ OA w.heap.size w9 va t.at_ us ∧ Below w9.heap.size w9 w' ∧ (∀ k, v.ownBlock = some k → w9.heap.size ≤ k) ∧ (∀ k, u.ownBlock = some k → w9.heap.size ≤ k) ∧ w'.ownsRow w.heap.size 5 1 u 0 [] ∧ Ap v u ∧ Below w.heap.size w w9
theorem feed_one {w w2 w9 : World} {t : TK} {va : Value} {us : List Value} (hb : Below w.heap.size w w2) (hoa : OA w2.heap.size w9 va t.at_ us) (h9 : Below w2.heap.size w2 w9) (o : Obj) :
  FeedOne t w (.returned (.tuple #[.slice (some ⟨w9.heap.size + 1, 0, none⟩) 1 1, .slice (some ⟨w9.heap.size + 1 + 1, 0, none⟩) 0 0])) (((w9.alloc o).alloc (.cells #[.int .i64 t.kd, .int .i64 t.by_, .string t.nm, va, .bool t.sh] 107)).alloc (.cells #[] 5)) := by
 have s9 : w.heap.size ≤ w9.heap.size := Nat.le_trans hb.size h9.size
 have B1 := below_new w9 o
 have B2 := B1.alloc (by simp) (.cells #[.int .i64 t.kd, .int .i64 t.by_, .string t.nm, va, .bool t.sh] 107)
 have B3 := B2.alloc (by simp; omega) (.cells #[] 5)
 refine ⟨_, _, va, us, w9, rfl, ?_, hoa.keep hb.size (fun k _ _ => rfl), B3, fun k e => by simp [Value.ownBlock] at e; omega, fun k e => by simp [Value.ownBlock] at e; omega, ?_, fun k e1 e2 => by simp [Value.ownBlock] at e1 e2; omega, hb.trans (h9.mono hb.size)⟩
 ·have := World.ownsRow_lit (base := w.heap.size) (e := 107) (size := 5) (w9.alloc o) #[.int .i64 t.kd, .int .i64 t.by_, .string t.nm, va, .bool t.sh] 1 (by simp; omega) (by unfold maxLen; omega) rfl
  rw [World.heap_size_alloc'] at this
  exact this.alloc _
 ·have := World.ownsRow_lit (base := w.heap.size) (e := 5) (size := 1) ((w9.alloc o).alloc (.cells #[.int .i64 t.kd, .int .i64 t.by_, .string t.nm, va, .bool t.sh] 107)) #[] 0 (by simp; omega) (by unfold maxLen; omega) rfl
  rw [World.heap_size_alloc', World.heap_size_alloc'] at this
  exact this
theorem l5Tag_gt (a : Option Addr) (c : Nat) (l : List Int) (b : Nat) (w : World) (ha : BAt w a l) (hu : Byt l) (hc : l.length ≤ c) (hl : l.length ≤ 200) (hb : b ≤ 255) (h1 : b = 62) (hq : quotedB l = false) (t0 : TK) (ht : tagA (strU (l ++ [(b : Int)])) = some t0) :
  Calls Tryz.prog 112 #[.slice a l.length c, .int .u8 b] w fun e w' => FeedOne t0 w e w' := by
 obtain ⟨m, hm⟩ : ∃ m, m = l ++ [(b : Int)] := ⟨_, rfl⟩
 have lm : m.length = l.length + 1 := by rw [hm]; simp
 have hum : Hid (Byt m) := Hid.mk' (by rw [hm]; exact hu.snoc b hb)
 have HM : Hid (bcs m = bcs l ++ [.int .u8 b]) := Hid.mk' (by rw [hm, bcs_append]; rfl)
 have e62 : ((b : Int) == 62) = true := by rw [beq_iff_eq]; omega
 have e60 : ((b : Int) == 60) = false := by rw [beq_eq_false_iff_ne]; omega
 have HT : Hid (tagA (strI m).data.toList = some t0) := Hid.mk' (by rw [hm]; exact ht)
 clear h1 ht
 have KC := Hid.mk' (l1Copy_own a c l w ha (by omega))
 have HA := Hid.mk' ha
 have HU := Hid.mk' hu
 have LM := Hid.mk' lm
 clear ha hu hm lm
 go_enter Tryz.func112, Tryz.ntmps112
 go_wp2_with (first | go_big_skip | fail)
 refine KC.out.mono ?_
 rintro e w1 ⟨v, rfl, ho, hbl⟩
 have VB := below_new w1 (.cells #[.int .u8 b] 5)
 have OV := Hid.mk' (own_keep ho VB)
 have NC := Hid.mk' (new_cells' w1 5 [.int .u8 b] w1.heap.size rfl)
 have HB := Hid.mk' (hbl.trans (VB.mono hbl.size))
 have SZ := Hid.mk' HB.out.size
 have P1 : Hid (∀ u ∈ ([.int .u8 b] : List Value), u.oneCell' = true) := Hid.mk' (by
  intro u hu'
  simp only [List.mem_cons, List.not_mem_nil, or_false] at hu'
  subst hu'; rfl)
 clear ho hbl VB KC
 go_wp2_with (first | go_big_skip | (at_builtin; refine wpList_append_at _ rfl (.tmp 11) (.tmp 13) 22 rfl w.heap.size 5 (.int .u8 0) 1 1 Tryz.underlying22 Tryz.info5 rfl (by decide) _ _ _ rfl OV.out _ 1 _ [.int .u8 b] rfl rfl (.inr ⟨_, rfl, NC.out⟩) P1.out (by unfold maxLen; omega) (by omega) SZ.out ?_; intro v' w2 ho hgr hat; have OA : Hid (w2.ownsRow w.heap.size 5 1 v' m.length (bcs m)) := Hid.mk' (by rw [HM.out, LM.out]; exact ho); have BW := Hid.mk' (HB.out.grown hgr SZ.out (own_lo OV.out)); obtain ⟨aa, cc, rfl, ba⟩ := (OB.of_own OA.out).1.len; have BA := Hid.mk' ba; have KQ := Hid.mk' (l5Quoted_any a c l w2 (HA.out.below BW.out) hc (by omega)); have KN := Hid.mk' (l5Note_any a c l w2 (HA.out.below BW.out) hc (by omega)); rw [hq] at KQ; have hcv := conv_bytesT cc ba; have KR := Hid.mk' (l4Read_any (strI m) w2 (by rw [strI_size, LM.out]; omega)); rw [HT.out] at KR; clear ho hgr hat ba) | (go_at_call 121; refine KQ.out.mono ?_; rintro e9 w9 ⟨rfl, hw9⟩; obtain rfl := hw9.symm) | (go_at_call 123; refine KN.out.mono ?_; rintro e9 w9 ⟨rfl, hw9⟩; obtain rfl := hw9.symm) | (go_at_call 122; refine KR.out.mono ?_; rintro e9 w9 ⟨t, vt, us, ok, rfl, hoa, hok, hb9⟩; obtain rfl : ok = true := (by cases ok; simp at hok; rfl); obtain rfl : t = t0 := (by simp at hok; exact hok.symm); obtain ⟨pa, pc, rfl, haat⟩ := hoa.at; have F := Hid.mk' (feed_one BW.out hoa hb9 (.cells #[.int .i64 t.kd, .int .i64 t.by_, .string t.nm, .slice pa t.at_.length pc, .bool t.sh] 107)); clear hoa hok hb9 haat KR))
 go_ret2
 exact F.out
def FeedX (r : List TK × List Int) (w : World) (e : Ending) (w' : World) : Prop := (∃ bs, r.1 = bytesT bs ∧ FeedB bs r.2 w e w') ∨ (∃ t, r = ([t], []) ∧ FeedOne t w e w')
def lenX (l : List Int) (b : Nat) : List TK × List Int := if 160 ≤ l.length + 1 then (bytesT (l ++ [(b : Int)]), []) else ([], l ++ [(b : Int)])
def tagX (l : List Int) (b : Nat) : List TK × List Int :=
 if b = 62 ∧ quotedB l = false then (match tagA (strU (l ++ [(b : Int)])) with
  | some t => ([t], [])
  | none => if noteB l = false then (bytesT (l ++ [(b : Int)]), []) else lenX l b)
 else if b = 60 ∧ quotedB l = false ∧ noteB l = false then (bytesT l, [(b : Int)]) else lenX l b
def feedX (l : List Int) (b : Nat) : List TK × List Int :=
 if l = [] then (bytesT (noneT b), noneH b) else if l.getD 0 0 = 38 then (bytesT (refT l b), refH l b) else tagX l b
theorem feedX_go {l : List Int} {b : Nat} {w : World} {e : Ending} {w' : World} (h6 : 160 ≤ l.length + 1) (h : FeedB (l ++ [(b : Int)]) [] w e w') : FeedX (lenX l b) w e w' := by
 unfold lenX
 rw [if_pos h6]
 exact .inl ⟨_, rfl, h⟩
theorem feedX_hold {l : List Int} {b : Nat} {w : World} {e : Ending} {w' : World} (h6 : ¬ 160 ≤ l.length + 1) (h : FeedB [] (l ++ [(b : Int)]) w e w') : FeedX (lenX l b) w e w' := by
 unfold lenX
 rw [if_neg h6]
 exact .inl ⟨[], rfl, h⟩
theorem l5Tag_any (a : Option Addr) (c : Nat) (l : List Int) (b : Nat) (w : World) (ha : BAt w a l) (hu : Byt l) (hc : l.length ≤ c) (hl : l.length ≤ 200) (hb : b ≤ 255) :
  Calls Tryz.prog 112 #[.slice a l.length c, .int .u8 b] w fun e w' => FeedX (tagX l b) w e w' := by
 by_cases h62 : b = 62
 ·have n60 : ¬ b = 60 := by omega
  cases hq : quotedB l with
  | true =>
   have E : tagX l b = lenX l b := by
    unfold tagX
    rw [if_neg (by rw [hq]; simp), if_neg (by rw [hq]; simp)]
   rw [E]
   by_cases h6 : 160 ≤ l.length + 1
   ·exact (l5Tag_gq1 a c l b w ha hu hc hl hb h62 hq h6).mono fun e w' h => feedX_go h6 h
   ·exact (l5Tag_gq0 a c l b w ha hu hc hl hb h62 hq h6).mono fun e w' h => feedX_hold h6 h
  | false =>
   cases ht : tagA (strU (l ++ [(b : Int)])) with
   | some t =>
    have E : tagX l b = ([t], []) := by
     unfold tagX
     rw [if_pos ⟨h62, hq⟩, ht]
    rw [E]
    exact (l5Tag_gt a c l b w ha hu hc hl hb h62 hq t ht).mono fun e w' h => .inr ⟨t, rfl, h⟩
   | none =>
    cases hn : noteB l with
    | false =>
     have E : tagX l b = (bytesT (l ++ [(b : Int)]), []) := by
      unfold tagX
      rw [if_pos ⟨h62, hq⟩, ht]
      simp only [hn, if_true]
     rw [E]
     exact (l5Tag_gx a c l b w ha hu hc hl hb h62 ht hq hn).mono fun e w' h => .inl ⟨_, rfl, h⟩
    | true =>
     have E : tagX l b = lenX l b := by
      unfold tagX
      rw [if_pos ⟨h62, hq⟩, ht]
      simp only [hn, Bool.true_eq_false, if_false]
     rw [E]
     by_cases h6 : 160 ≤ l.length + 1
     ·exact (l5Tag_gn1 a c l b w ha hu hc hl hb h62 ht hq hn h6).mono fun e w' h => feedX_go h6 h
     ·exact (l5Tag_gn0 a c l b w ha hu hc hl hb h62 ht hq hn h6).mono fun e w' h => feedX_hold h6 h
 ·by_cases h60 : b = 60
  ·cases hq : quotedB l with
   | true =>
    have E : tagX l b = lenX l b := by
     unfold tagX
     rw [if_neg (by rw [hq]; simp), if_neg (by rw [hq]; simp)]
    rw [E]
    by_cases h6 : 160 ≤ l.length + 1
    ·exact (l5Tag_lq1 a c l b w ha hu hc hl hb h60 hq h6).mono fun e w' h => feedX_go h6 h
    ·exact (l5Tag_lq0 a c l b w ha hu hc hl hb h60 hq h6).mono fun e w' h => feedX_hold h6 h
   | false =>
    cases hn : noteB l with
    | true =>
     have E : tagX l b = lenX l b := by
      unfold tagX
      rw [if_neg (fun h => h62 h.1), if_neg (by rw [hn]; simp)]
     rw [E]
     by_cases h6 : 160 ≤ l.length + 1
     ·exact (l5Tag_ln1 a c l b w ha hu hc hl hb h60 hq hn h6).mono fun e w' h => feedX_go h6 h
     ·exact (l5Tag_ln0 a c l b w ha hu hc hl hb h60 hq hn h6).mono fun e w' h => feedX_hold h6 h
    | false =>
     have E : tagX l b = (bytesT l, [(b : Int)]) := by
      unfold tagX
      rw [if_neg (fun h => h62 h.1), if_pos ⟨h60, hq, hn⟩]
     rw [E]
     exact (l5Tag_lx a c l b w ha hu hc hl hb h60 hq hn).mono fun e w' h => .inl ⟨_, rfl, h⟩
  ·have E : tagX l b = lenX l b := by
    unfold tagX
    rw [if_neg (fun h => h62 h.1), if_neg (fun h => h60 h.1)]
   rw [E]
   by_cases h6 : 160 ≤ l.length + 1
   ·exact (l5Tag_o1 a c l b w ha hu hc hl hb h62 h60 h6).mono fun e w' h => feedX_go h6 h
   ·exact (l5Tag_o0 a c l b w ha hu hc hl hb h62 h60 h6).mono fun e w' h => feedX_hold h6 h
theorem FeedX.pair {r : List TK × List Int} {w w' : World} {e : Ending} (h : FeedX r w e w') : ∃ v u, e = .returned (.tuple #[v, u]) := by
 rcases h with ⟨bs, _, v, u, h, _⟩ | ⟨t, _, v, u, _, _, _, h, _⟩
 ·exact ⟨v, u, h⟩
 ·exact ⟨v, u, h⟩
theorem l5Feed_any (a : Option Addr) (c : Nat) (l : List Int) (b : Nat) (w : World) (ha : BAt w a l) (hu : Byt l) (hc : l.length ≤ c) (hl : l.length ≤ 200) (hb : b ≤ 255) :
  Calls Tryz.prog 93 #[.slice a l.length c, .int .u8 b] w fun e w' => FeedX (feedX l b) w e w' := by
 by_cases h0 : l = []
 ·have K : Hid (Calls Tryz.prog 110 #[.int .u8 b] w fun e w' => FeedX (feedX l b) w e w') := Hid.mk' ((l5None_any b w (by omega) (by omega)).mono fun e w' h => .inl ⟨noneT b, by unfold feedX; rw [if_pos h0], by unfold feedX; rw [if_pos h0]; exact h⟩)
  have z : (l.length : Int) = 0 := by rw [h0]; rfl
  clear ha hu h0
  go_enter Tryz.func93, Tryz.ntmps93
  go_wp2_with (first | go_big_skip | fail)
  refine K.out.mono ?_
  intro e w1 h
  obtain ⟨v, u, rfl⟩ := h.pair
  have F := Hid.mk' h
  clear h
  go_wp2
  go_ret2
  exact F.out
 ·have hp : 0 < l.length := List.length_pos_iff.2 h0
  have z : ¬ (l.length : Int) = 0 := by omega
  rcases id ha with h | ⟨g, o, rfl, hbs, hcl⟩
  ·exact absurd h h0
  obtain ⟨y, hy⟩ : ∃ y, l.getD 0 0 = y := ⟨_, rfl⟩
  have hcell : w.cell? ⟨g, o, none⟩ = some (.int .u8 y) := by
   rw [← hy]; exact hcl 0 hp
  by_cases e38 : y = 38
  ·have K : Hid (Calls Tryz.prog 111 #[.slice (some ⟨g, o, none⟩) l.length c, .int .u8 b] w fun e w' => FeedX (feedX l b) w e w') := Hid.mk' ((l5Ref_any _ c l b w ha hu hl hb).mono fun e w' h => .inl ⟨refT l b, by unfold feedX; rw [if_neg h0, if_pos (hy.trans e38)], by unfold feedX; rw [if_neg h0, if_pos (hy.trans e38)]; exact h⟩)
   have e38b : (y == 38) = true := by rw [beq_iff_eq]; exact e38
   clear ha hu h0 hcl hy e38
   go_enter Tryz.func93, Tryz.ntmps93
   go_wp2_with (first | go_big_skip | fail)
   refine K.out.mono ?_
   intro e w1 h
   obtain ⟨v, u, rfl⟩ := h.pair
   have F := Hid.mk' h
   clear h
   go_wp2
   go_ret2
   exact F.out
  ·have K : Hid (Calls Tryz.prog 112 #[.slice (some ⟨g, o, none⟩) l.length c, .int .u8 b] w fun e w' => FeedX (feedX l b) w e w') := Hid.mk' ((l5Tag_any _ c l b w ha hu hc hl hb).mono fun e w' h => by unfold feedX; rw [if_neg h0, if_neg (fun h => e38 (hy.symm.trans h))]; exact h)
   have e38b : (y == 38) = false := by rw [beq_eq_false_iff_ne]; exact e38
   clear ha hu h0 hcl hy e38
   go_enter Tryz.func93, Tryz.ntmps93
   go_wp2_with (first | go_big_skip | fail)
   refine K.out.mono ?_
   intro e w1 h
   obtain ⟨v, u, rfl⟩ := h.pair
   have F := Hid.mk' h
   clear h
   go_wp2
   go_ret2
   exact F.out
theorem noneT_len (b : Int) : (noneT b).length ≤ 1 := by unfold noneT; split <;> simp
theorem noneH_len (b : Int) : (noneH b).length ≤ 1 := by unfold noneH; split <;> simp
theorem lenX_held (l : List Int) (b : Nat) : (lenX l b).2.length ≤ 160 := by
 unfold lenX
 split
 ·simp
 ·simp; omega
theorem lenX_len (l : List Int) (b : Nat) : (lenX l b).1.length ≤ l.length + 1 := by
 unfold lenX
 split
 ·simp [bytesT]
 ·simp
theorem tagX_held (l : List Int) (b : Nat) : (tagX l b).2.length ≤ 160 := by
 unfold tagX
 split
 ·split
  ·simp
  ·split
   ·simp
   ·exact lenX_held l b
 ·split
  ·simp
  ·exact lenX_held l b
theorem tagX_len (l : List Int) (b : Nat) : (tagX l b).1.length ≤ l.length + 1 := by
 unfold tagX
 split
 ·split
  ·simp
  ·split
   ·simp [bytesT]
   ·exact lenX_len l b
 ·split
  ·simp [bytesT]
  ·exact lenX_len l b
theorem refH_len (l : List Int) (b : Nat) : (refH l b).length ≤ 160 := by
 have := noneH_len (b : Int)
 unfold refH
 split
 ·simp
 ·split
  ·split
   ·simp
   ·simp; omega
  ·omega
theorem refT_len (l : List Int) (b : Nat) : (refT l b).length ≤ l.length + 1 := by
 have := noneT_len (b : Int)
 unfold refT
 split
 ·split <;> simp
 ·split
  ·split <;> simp
  ·simp; omega
theorem feedX_held (l : List Int) (b : Nat) : (feedX l b).2.length ≤ 160 := by
 have := noneH_len (b : Int)
 unfold feedX
 split
 ·show (noneH (b : Int)).length ≤ 160
  omega
 ·split
  ·exact refH_len l b
  ·exact tagX_held l b
theorem feedX_len (l : List Int) (b : Nat) : (feedX l b).1.length ≤ l.length + 1 := by
 have := noneT_len (b : Int)
 unfold feedX
 split
 ·show (bytesT (noneT (b : Int))).length ≤ _
  rw [bytesT_len]; omega
 ·split
  ·show (bytesT (refT l b)).length ≤ _
   rw [bytesT_len]; exact refT_len l b
  ·exact tagX_len l b
theorem Byt.nil : Byt [] := fun k h => absurd h (Nat.not_lt_zero _)
theorem Byt.one {b : Nat} (hb : b ≤ 255) : Byt [(b : Int)] := Byt.nil.snoc b hb
theorem noneH_byt {b : Nat} (hb : b ≤ 255) : Byt (noneH (b : Int)) := by
 unfold noneH
 split
 ·exact Byt.one hb
 ·exact Byt.nil
theorem lenX_byt {l : List Int} {b : Nat} (h : Byt l) (hb : b ≤ 255) : Byt (lenX l b).2 := by
 unfold lenX
 split
 ·exact Byt.nil
 ·exact h.snoc b hb
theorem feedX_byt {l : List Int} {b : Nat} (h : Byt l) (hb : b ≤ 255) : Byt (feedX l b).2 := by
 unfold feedX
 split
 ·exact noneH_byt hb
 ·split
  ·show Byt (refH l b)
   unfold refH
   split
   ·exact Byt.nil
   ·split
    ·split
     ·exact Byt.nil
     ·exact h.snoc b hb
    ·exact noneH_byt hb
  ·unfold tagX
   split
   ·split
    ·exact Byt.nil
    ·split
     ·exact Byt.nil
     ·exact lenX_byt h hb
   ·split
    ·exact Byt.one hb
    ·exact lenX_byt h hb
def allX (ts : List TK) (hs : List Int) : List Int → List TK × List Int
 | [] => (ts, hs)
 | x :: r => allX (ts ++ (feedX hs x.toNat).1) (feedX hs x.toNat).2 r
def lexX (l : List Int) : List TK := (allX [] [] l).1 ++ bytesT (allX [] [] l).2
theorem allX_append (m : List Int) : ∀ (l : List Int) (ts : List TK) (hs : List Int), allX ts hs (l ++ m) = allX (allX ts hs l).1 (allX ts hs l).2 m
 | [], _, _ => rfl
 | x :: l, ts, hs => allX_append m l _ _
def TokIn (base : Nat) (w : World) (g : Option Nat) (t : TK) (u : Value) : Prop := (t.at_ = [] ∧ u = .slice none 0 0) ∨ ∃ lo w9 rs, base ≤ lo ∧ OA lo w9 u t.at_ rs ∧ w9.heap.size ≤ w.heap.size ∧ (∀ k, lo ≤ k → k < w9.heap.size → w.heap[k]? = w9.heap[k]?) ∧ (∀ k, g = some k → k < lo ∨ w9.heap.size ≤ k)
theorem TokIn.below {base : Nat} {w w' : World} {g : Option Nat} {t : TK} {u : Value} (h : TokIn base w g t u) (hb : Below w.heap.size w w') : TokIn base w' g t u := by
 rcases h with h | ⟨lo, w9, rs, h1, h2, h3, h4, h5⟩
 ·exact .inl h
 ·exact .inr ⟨lo, w9, rs, h1, h2, Nat.le_trans h3 hb.size, fun k a b => (hb.block k (by omega)).trans (h4 k a b), h5⟩
theorem TokIn.held {base : Nat} {w : World} {g : Option Nat} {t : TK} {u : Value} (h : TokIn base w g t u) : ∃ rs, OA base w u t.at_ rs := by
 rcases h with ⟨h1, h2⟩ | ⟨lo, w9, rs, h1, h2, h3, h4, h5⟩
 ·rw [h1, h2]; exact ⟨[], OA.nil _ _⟩
 ·exact ⟨rs, h2.keep h1 h4⟩
theorem TokIn.grown {base : Nat} {w w' : World} {g g' : Option Nat} {t : TK} {u : Value} (h : TokIn base w g t u) (hg : w.grownBy w' g) (hs : w.heap.size ≤ w'.heap.size) (e : g' = g ∨ g' = some w.heap.size) : TokIn base w' g' t u := by
 rcases h with h | ⟨lo, w9, rs, h1, h2, h3, h4, h5⟩
 ·exact .inl h
 ·refine .inr ⟨lo, w9, rs, h1, h2, Nat.le_trans h3 hs, fun k a b => (hg.block k (by omega) (fun e => ?_)).trans (h4 k a b), fun k hk => ?_⟩
  ·have := h5 k e.symm; omega
  ·rcases e with e | e
   ·exact h5 k (e.symm.trans hk)
   ·rw [e] at hk; injection hk with hk; omega
structure TokS (base : Nat) (w : World) (v : Value) (ts : List TK) (us : List Value) : Prop where
 len : us.length = ts.length
 row : w.ownsRow base 107 5 v ts.length (tcs ts us)
 one : ∀ u ∈ us, u.oneCell' = true
 all : ∀ (i : Nat) t u, ts[i]? = some t → us[i]? = some u → TokIn base w v.ownBlock t u
theorem nils_get {n i : Nat} {u : Value} (h : (nils n)[i]? = some u) : u = .slice none 0 0 := by
 unfold nils at h
 rw [List.getElem?_replicate] at h
 split at h
 ·injection h with h; exact h.symm
 ·cases h
theorem FeedX.toks {r : List TK × List Int} {w w' : World} {e : Ending} (h : FeedX r w e w') : ∃ v u us, e = .returned (.tuple #[v, u]) ∧ TokS w.heap.size w' v r.1 us ∧ (∀ g, (∀ k, g = some k → k < w.heap.size) → ∀ (i : Nat) t u, r.1[i]? = some t → us[i]? = some u → TokIn w.heap.size w' g t u) ∧ w'.ownsRow w.heap.size 5 1 u r.2.length (bcs r.2) ∧ Below w.heap.size w w' := by
 rcases h with ⟨bs, e1, v, u, rfl, o1, o2, ap, hb⟩ | ⟨t, rfl, v, u, va, us, w9, rfl, o1, oa, b9, lv, lu, o2, ap, hb⟩
 ·have A : ∀ g (i : Nat) t u, r.1[i]? = some t → (nils bs.length)[i]? = some u → TokIn w.heap.size w' g t u := by
   intro g i t u ht hu
   refine .inl ⟨?_, nils_get hu⟩
   rw [e1] at ht
   unfold bytesT at ht
   rw [List.getElem?_map] at ht
   cases h : bs[i]? with
   | none => rw [h] at ht; cases ht
   | some x => rw [h] at ht; injection ht with ht; rw [← ht]; rfl
  refine ⟨v, u, nils bs.length, rfl, ⟨by rw [nils_len, e1, bytesT_len], by rw [e1, bytesT_len]; exact o1, nils_one _, fun i t u => A _ i t u⟩, fun g _ => A g, o2, hb⟩
 ·have A : ∀ g, (∀ k, g = some k → k < w.heap.size ∨ w9.heap.size ≤ k) → ∀ (i : Nat) t' u, [t][i]? = some t' → [va][i]? = some u → TokIn w.heap.size w' g t' u := by
   intro g hg i t' u ht hu
   cases i with
   | succ i => simp at ht
   | zero =>
    simp at ht hu
    subst ht hu
    exact .inr ⟨w.heap.size, w9, us, Nat.le_refl _, oa, b9.size, fun k _ hk => b9.block k hk, hg⟩
  have o1' : va.oneCell' = true := by
   obtain ⟨a, c, rfl, _⟩ := oa.at
   rfl
  refine ⟨v, u, [va], rfl, ⟨rfl, o1, fun u hu => ?_, A _ (fun k e => .inr (lv k e))⟩, fun g hg => A g (fun k e => .inl (hg k e)), o2, hb.trans (b9.mono hb.size)⟩
  rw [List.mem_singleton] at hu
  rw [hu]; exact o1'
theorem TokIn.down {base base' : Nat} {w : World} {g : Option Nat} {t : TK} {u : Value} (h : TokIn base w g t u) (hb : base' ≤ base) : TokIn base' w g t u := by
 rcases h with h | ⟨lo, w9, rs, h1, h2⟩
 ·exact .inl h
 ·exact .inr ⟨lo, w9, rs, Nat.le_trans hb h1, h2⟩
theorem own_cap {w : World} {base : Nat} {e : TypeId} {size : Nat} {v : Value} {n : Nat} {xs : List Value} (h : w.ownsRow base e size v n xs) : ∃ a c, v = .slice a n c ∧ n ≤ c := by
 rcases h.2 with ⟨rfl, h0⟩ | ⟨g, cap, cur, rfl, _, _, h, _⟩
 ·subst h0; exact ⟨none, 0, rfl, Nat.le_refl _⟩
 ·exact ⟨_, _, rfl, h⟩
theorem TokS.app {base : Nat} {w w1 w2 : World} {v v' : Value} {ts ts1 : List TK} {us us1 : List Value} (h : TokS base w v ts us) (hw : Below w.heap.size w w1) (hb : base ≤ w.heap.size)
  (hA : ∀ (i : Nat) t u, ts1[i]? = some t → us1[i]? = some u → TokIn w.heap.size w1 v.ownBlock t u) (hl : us1.length = ts1.length) (h1 : ∀ u ∈ us1, u.oneCell' = true)
  (o : w2.ownsRow base 107 5 v' (ts.length + ts1.length) (tcs ts us ++ tcs ts1 us1)) (hg : w1.grownBy w2 v.ownBlock) (e : v'.ownBlock = v.ownBlock ∨ v'.ownBlock = some w1.heap.size) : TokS base w2 v' (ts ++ ts1) (us ++ us1) := by
 refine ⟨by rw [List.length_append, List.length_append, h.len, hl], by rw [tcs_app _ _ _ _ h.len, List.length_append]; exact o, fun u hu => ?_, fun i t u ht hu => ?_⟩
 ·rcases List.mem_append.1 hu with hu | hu
  ·exact h.one u hu
  ·exact h1 u hu
 ·by_cases hi : i < ts.length
  ·rw [List.getElem?_append_left hi] at ht
   rw [List.getElem?_append_left (by rw [h.len]; exact hi)] at hu
   exact ((h.all i t u ht hu).below hw).grown hg hg.size e
  ·rw [List.getElem?_append_right (by omega)] at ht
   rw [List.getElem?_append_right (by rw [h.len]; omega), h.len] at hu
   exact ((hA _ t u ht hu).down hb).grown hg hg.size e


end Go.Proofs.YtlimgcmhidooaaaGreatDoor
