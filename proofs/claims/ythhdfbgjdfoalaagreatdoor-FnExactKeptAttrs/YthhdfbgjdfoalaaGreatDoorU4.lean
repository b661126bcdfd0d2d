/- SchemeOf: the program's side, and the law. -/
import Derived.Test.YthhdfbgjdfoalaaGreatDoorU3
import Derived.Lib.SlBytesConst
import Derived.Test.YthhdfbgjdfoalaaGreatDoorFp
import Derived.Test.YthhdfbgjdfoalaaGreatDoorMc
import Derived.Test.YthhdfbgjdfoalaaGreatDoorMd
import Derived.Test.YthhdfbgjdfoalaaGreatDoorFo
import Derived.Test.YthhdfbgjdfoalaaGreatDoorFq
import Derived.Test.YthhdfbgjdfoalaaGreatDoorShp
import Derived.Test.YthhdfbgjdfoalaaGreatDoorU2
import Derived.Test.YthhdfbgjdfoalaaGreatDoorFm
namespace Go.Proofs.YthhdfbgjdfoalaaGreatDoor
open Go.RowKit
set_option linter.unusedVariables false
set_option linter.unusedSimpArgs false

theorem BAt.take {w : World} {a : Option Addr} {l : List Int} (h : BAt w a l) (k : Nat) : BAt w a (l.take k) := by
  rcases h with h | ⟨b, o, e, hs, hc⟩
  · exact .inl (by rw [h]; simp)
  · refine .inr ⟨b, o, e, hs, fun i hi => ?_⟩
    rw [List.length_take] at hi
    rw [hc i (by omega)]
    unfold bv
    congr 2
    simp [List.getD_eq_getElem?_getD, List.getElem?_take, show i < k by omega]

theorem low_ascii {l : List Int} (h : l.any noLet = false) : ∀ (j : Nat) (b : UInt8), (strS l).data.toList[j]? = some b → b.toNat < 128 := by
  intro j b hj
  rw [strS_list, List.getElem?_map] at hj
  cases hx : l[j]? with
  | none => rw [hx] at hj; cases hj
  | some x =>
    rw [hx] at hj
    have e : b = UInt8.ofNat x.toNat := by simpa using hj.symm
    have hm : x ∈ l := List.mem_of_getElem? hx
    have hn : noLet x = false := by
      cases hh : noLet x with
      | false => rfl
      | true => rw [List.any_eq_false] at h; exact absurd hh (h x hm)
    have hb : x.toNat < 128 := by
      by_cases h1 : x.toNat < 128
      · exact h1
      · have := noLet_of (x := x) (by omega) (by omega)
        rw [this] at hn; cases hn
    rw [e]
    simp
    omega

theorem cell_marked (w : World) (x : Value) (t : TypeId) (r : Nat × Nat) : (w.alloc (.cells #[x] t r)).cell? ⟨w.heap.size, 0, none⟩ = some x := by
  unfold World.cell?
  have h : (w.alloc (.cells #[x] t r)).heap[w.heap.size]? = some (.cells #[x] t r) := Deep.blk_alloc_new _ _
  dsimp only
  rw [h]
  rfl

theorem strS_size (l : List Int) : (strS l).size = l.length := by
  have : (strS l).data.toList.length = l.length := by rw [strS_list]; simp
  simpa using this

set_option maxRecDepth 100000 in
set_option maxHeartbeats 3200000 in
theorem implSO_any (g c : Nat) (l : List Int) (w : World) (hr : w.rowIs g 5 l.length (bv l)) (hc : l.length ≤ c) (hu : ∀ k, k < l.length → 0 ≤ l.getD k 0 ∧ l.getD k 0 ≤ 255) (hl : (l.length : Int) ≤ 1048576) :
    Calls Tryz.prog 110 #[.slice (some ⟨g, 0, none⟩) l.length c] w fun e w' => e = .returned (.agg #[.int .i64 (schC l), .string (schT l)]) ∧ Below w.heap.size w w' := by
  have N0 := below_new w (.cells #[.int .i64 0, .string ⟨#[]⟩] 110)
  have HR := Hid.mk' (rowQ2 w 110 (.int .i64 0) (.string ⟨#[]⟩))
  have HB := Hid.mk' N0
  have hmem : ∀ x ∈ l, 0 ≤ x ∧ x ≤ 255 := fun x hx => by
    obtain ⟨i, hi, rfl⟩ := List.mem_iff_getElem.1 hx
    have := hu i hi
    rwa [show l.getD i 0 = l[i] by simp [hi]] at this
  by_cases big : (l.length : Int) > 240
  · have E1 : Hid (schC l = 6) := Hid.mk' (by unfold schC; rw [if_pos (by omega)])
    have E2 : Hid (schT l = ⟨#[]⟩) := Hid.mk' (by unfold schT; rw [if_pos (by omega)])
    clear hr hu hmem N0
    generalize hW : w.alloc (.cells #[.int .i64 0, .string ⟨#[]⟩] 110) = W at *
    obtain ⟨x0, x1, x2⟩ := cellsQ2 HR.out
    obtain ⟨f0, f1⟩ := frzQ2 HR.out
    go_enter Tryz.func110, Tryz.ntmps110
    go_wp2
    clear hW
    refine bodyPost_ret (v := .agg #[.int .i64 6, .string ⟨#[]⟩]) (by simp [results, Tryz.results110, go_sem, *]) rfl ⟨by rw [E1.out, E2.out], ?_⟩
    exact (HB.out.setCell (p := ⟨w.heap.size, 0, none⟩) (by simp) _).setCell (p := ⟨w.heap.size, 1, none⟩) (by simp) _
  have E2 : Hid (schT l = strS (schS l)) := Hid.mk' (by unfold schT; rw [if_neg (by omega)])
  have E1 : Hid (schC l = if schS l = [] then 4 else 0) := Hid.mk' (by unfold schC; rw [if_neg (by omega)])
  have N1 := below_new (w.alloc (.cells #[.int .i64 0, .string ⟨#[]⟩] 110)) (.cells #[.int .u8 58] 5 (1, 2))
  have NN := N0.trans (N1.mono N0.size)
  have HB := Hid.mk' NN
  have hrW := rowB hr NN
  have HRW := Hid.mk' (rowB HR.out N1)
  have hcol : ((w.alloc (.cells #[.int .i64 0, .string ⟨#[]⟩] 110)).alloc (.cells #[.int .u8 58] 5 (1, 2))).cell? ⟨w.heap.size + 1, 0, none⟩ = some (.int .u8 58) := by
    have h := cell_marked (w.alloc (.cells #[.int .i64 0, .string ⟨#[]⟩] 110)) (.int .u8 58) 5 (1, 2)
    rw [show (w.alloc (.cells #[.int .i64 0, .string ⟨#[]⟩] 110)).heap.size = w.heap.size + 1 by simp] at h
    exact h
  have hci : -1 ≤ colI l ∧ (0 ≤ colI l → colI l + 1 ≤ l.length) := by
    unfold colI
    by_cases h : colN l < l.length
    · rw [if_pos h]; omega
    · rw [if_neg h]; omega
  have KI := Tryz.bytes_Index_one g 0 l.length c (w.heap.size + 1) 0 1 l 58 _ rfl (fun i hi => by rw [Nat.zero_add]; exact hrW.cell hi) hcol
  have e58 : ((58 : Int).toNat.toUInt8) = 58 := by decide
  rw [e58, indexByte_is l hmem] at KI
  have KC := Hid.mk' (Tryz.bytes_Cut_of (some ⟨g, 0, none⟩) (some ⟨w.heap.size + 1, 0, none⟩) l.length c 1 1 (colI l) _ hc hci.1 hci.2 (by omega) (KI.mono fun e w' ⟨h1, h2⟩ => ⟨h1, 0, h2⟩))
  have HAT := Hid.mk' (BAt.of_row hrW)
  clear hr hu N0 N1 NN hrW KI hcol hci e58
  have CC : Hid (colN l < l.length ∧ colI l = (colN l : Int) ∨ ¬ colN l < l.length ∧ colI l = -1) := Hid.mk' (by
    unfold colI
    by_cases h : colN l < l.length
    · rw [if_pos h]; exact .inl ⟨h, rfl⟩
    · rw [if_neg h]; exact .inr ⟨h, rfl⟩)
  have ZW : Hid ((w.alloc (.cells #[.int .i64 0, .string ⟨#[]⟩] 110)).heap.size = w.heap.size + 1) := Hid.mk' (by simp)
  have kcv : (convert 51 51 (.slice (some ⟨w.heap.size + 1, 0, none⟩) 1 1)).run Tryz.prog ((w.alloc (.cells #[.int .i64 0, .string ⟨#[]⟩] 110)).alloc (.cells #[.int .u8 58] 5)) = .ok (.slice (some ⟨w.heap.size + 1, 0, none⟩) 1 1) ((w.alloc (.cells #[.int .i64 0, .string ⟨#[]⟩] 110)).alloc (.cells #[.int .u8 58] 5 (1, 2))) := by
    have h := Lib.run_convert_bytes_const (P := Tryz.prog) (w.alloc (.cells #[.int .i64 0, .string ⟨#[]⟩] 110)) 51 5 #[.int .u8 58] 1 1 Tryz.underlying51 Tryz.underlying5
    rw [ZW.out] at h
    exact h
  have KCV := Hid.mk' kcv
  clear kcv
  generalize hW : (w.alloc (.cells #[.int .i64 0, .string ⟨#[]⟩] 110)).alloc (.cells #[.int .u8 58] 5 (1, 2)) = W at *
  rcases CC.out with ⟨h1, h2⟩ | ⟨h1, h2⟩
  · rw [h2] at KC
    have eV : Lib.cutV (some ⟨g, 0, none⟩) l.length c 1 ((colN l : Nat) : Int) = .tuple #[.slice (some ⟨g, 0, none⟩) (colN l) c, Lib.fromV (some ⟨g, 0, none⟩) l.length c (colN l + 1), .bool true] := by
      unfold Lib.cutV
      rw [if_pos (by omega)]
      rfl
    rw [eV] at KC
    generalize Lib.fromV (some ⟨g, 0, none⟩) l.length c (colN l + 1) = vr at *
    clear eV h2 CC
    have hcc := KCV.out
    go_enter Tryz.func110, Tryz.ntmps110
    go_wp2_with fail
    clear hW hcc
    refine KC.out.mono ?_
    rintro e w1 ⟨rfl, q, hw⟩
    have hb : Below W.heap.size W w1 := by rw [hw]; exact below_drewN (Below.refl _ _) q
    have hlen : (l.take (colN l)).length = colN l := by rw [List.length_take]; omega
    have KF := containsF_any (some ⟨g, 0, none⟩) c (l.take (colN l)) w1 ((HAT.out.below hb).take _) (by rw [hlen]; omega)
    have hcv := conv_bytesS c ((HAT.out.below hb).take (colN l))
    rw [hlen] at KF hcv
    obtain ⟨x0, x1, x2⟩ := cellsQ2 (rowB HRW.out hb)
    obtain ⟨f0, f1⟩ := frzQ2 (rowB HRW.out hb)
    have HB := Hid.mk' (HB.out.trans (hb.mono HB.out.size))
    have HRW := Hid.mk' (rowB HRW.out hb)
    have hmt : ∀ x ∈ l.take (colN l), 0 ≤ x ∧ x ≤ 255 := fun x hx => hmem x (List.mem_of_mem_take hx)
    have HMT := Hid.mk' hmt
    have SS : Hid (schS l = if (l.take (colN l)).any noLet = false then (l.take (colN l)).map lowI else []) := Hid.mk' (by
      unfold schS
      by_cases h : (l.take (colN l)).any noLet = false
      · rw [if_pos ⟨h1, h⟩, if_pos h]
      · rw [if_neg (fun hh => h hh.2), if_neg h])
    clear hb hw KC hmt hmem
    by_cases hz : colN l = 0
    · have ES : Hid (schS l = []) := Hid.mk' (by rw [SS.out, hz]; rfl)
      rw [ES.out, if_pos rfl] at E1
      rw [ES.out] at E2
      have hz' : ((colN l : Nat) : Int) = 0 := by omega
      clear KF hcv SS ES hlen h1 HMT hz
      generalize colN l = n at *
      go_wp2_with go_big_skip
      refine bodyPost_ret (v := .agg #[.int .i64 4, .string ⟨#[]⟩]) (by simp [results, Tryz.results110, go_sem, *]) rfl ⟨by rw [E1.out, E2.out]; rfl, ?_⟩
      exact (HB.out.setCell (p := ⟨w.heap.size, 0, none⟩) (by simp) _).setCell (p := ⟨w.heap.size, 1, none⟩) (by simp) _
    · have hz' : (((colN l : Nat) : Int) == 0) = false := by rw [beq_eq_false_iff_ne]; omega
      cases hn : (l.take (colN l)).any noLet with
      | true =>
        have ES : Hid (schS l = []) := Hid.mk' (by rw [SS.out, hn]; rfl)
        rw [ES.out, if_pos rfl] at E1
        rw [ES.out] at E2
        rw [hn] at KF
        have KF := Hid.mk' KF
        clear hcv SS ES hlen h1 HMT hz hn
        generalize colN l = n at *
        go_wp2_with go_big_skip
        refine KF.out.mono ?_
        rintro e w2 ⟨rfl, hw⟩
        obtain rfl := hw.symm
        go_wp2
        refine bodyPost_ret (v := .agg #[.int .i64 4, .string ⟨#[]⟩]) (by simp [results, Tryz.results110, go_sem, *]) rfl ⟨by rw [E1.out, E2.out]; rfl, ?_⟩
        exact (HB.out.setCell (p := ⟨w.heap.size, 0, none⟩) (by simp) _).setCell (p := ⟨w.heap.size, 1, none⟩) (by simp) _
      | false =>
        have ES : Hid (schS l = (l.take (colN l)).map lowI) := Hid.mk' (by rw [SS.out, hn]; rfl)
        have hne : ¬ schS l = [] := by
          rw [ES.out]
          intro h
          have := congrArg List.length h
          rw [List.length_map, hlen] at this
          exact hz this
        rw [if_neg hne] at E1
        rw [ES.out, ← lower_is HMT.out] at E2
        rw [hn] at KF
        have KF := Hid.mk' KF
        have KL := Hid.mk' (Tryz.strings_ToLower_ascii (strS (l.take (colN l))) w1 (by rw [strS_size, hlen]; omega) (low_ascii hn))
        clear SS ES hne hlen h1 HMT hz hn
        generalize (⟨(Lib.toLowerA (strS (l.take (colN l))).data.toList).toArray⟩ : ByteArray) = t at *
        generalize strS (l.take (colN l)) = s at *
        generalize colN l = n at *
        go_wp2_with go_big_skip
        refine KF.out.mono ?_
        rintro e w2 ⟨rfl, hw⟩
        obtain rfl := hw.symm
        go_wp2_with fail
        refine KL.out.mono ?_
        rintro e w2 ⟨rfl, hb⟩
        obtain ⟨y0, y1, y2⟩ := cellsQ2 (rowB HRW.out hb)
        obtain ⟨g0, g1⟩ := frzQ2 (rowB HRW.out hb)
        have HB := Hid.mk' (HB.out.trans (hb.mono HB.out.size))
        clear hb x0 x1 x2 f0 f1 KL KF hcv
        go_wp2
        refine bodyPost_ret (v := .agg #[.int .i64 0, .string t]) (by simp [results, Tryz.results110, go_sem, *]) rfl ⟨by rw [E1.out, E2.out], ?_⟩
        exact (HB.out.setCell (p := ⟨w.heap.size, 0, none⟩) (by simp) _).setCell (p := ⟨w.heap.size, 1, none⟩) (by simp) _
  · rw [h2] at KC
    have eV : Lib.cutV (some ⟨g, 0, none⟩) l.length c 1 (-1) = .tuple #[.slice (some ⟨g, 0, none⟩) l.length c, .slice none 0 0, .bool false] := by
      unfold Lib.cutV
      rw [if_neg (by omega)]
    rw [eV] at KC
    have ES : Hid (schS l = []) := Hid.mk' (by unfold schS; rw [if_neg (fun h => h1 h.1)])
    rw [ES.out, if_pos rfl] at E1
    rw [ES.out] at E2
    clear eV h2 CC h1 ES
    have hcc := KCV.out
    go_enter Tryz.func110, Tryz.ntmps110
    go_wp2_with fail
    clear hW hcc
    refine KC.out.mono ?_
    rintro e w1 ⟨rfl, q, hw⟩
    have hb : Below W.heap.size W w1 := by rw [hw]; exact below_drewN (Below.refl _ _) q
    obtain ⟨x0, x1, x2⟩ := cellsQ2 (rowB HRW.out hb)
    obtain ⟨f0, f1⟩ := frzQ2 (rowB HRW.out hb)
    have HB := Hid.mk' (HB.out.trans (hb.mono HB.out.size))
    clear hb hw KC
    go_wp2_with go_big_skip
    refine bodyPost_ret (v := .agg #[.int .i64 4, .string ⟨#[]⟩]) (by simp [results, Tryz.results110, go_sem, *]) rfl ⟨by rw [E1.out, E2.out]; rfl, ?_⟩
    exact (HB.out.setCell (p := ⟨w.heap.size, 0, none⟩) (by simp) _).setCell (p := ⟨w.heap.size, 1, none⟩) (by simp) _

end Go.Proofs.YthhdfbgjdfoalaaGreatDoor

/- Values that are clean; what is told ahead of a colon: both sides' small walks. -/
namespace Go.Proofs.YthhdfbgjdfoalaaGreatDoor
open Go.RowKit
set_option linter.unusedVariables false
set_option linter.unusedSimpArgs false

/-- A byte that no clean value has. -/
def unc (x : Int) : Bool := decide (x < 33) || decide (127 ≤ x)
/-- A clean value. -/
def clB (l : List Int) : Bool := decide (l.length ≤ 8) && !l.any unc

theorem isUnclean_any (x : Int) (w : World) :
    Calls Tryz.prog 108 #[.int .u8 x] w fun e w' => e = .returned (.bool (unc x)) ∧ w' = w := by
  unfold unc
  by_cases b1 : x < 33
  · go_enter Tryz.func108, Tryz.ntmps108
    go_wp2_with go_big_skip
    go_ret
    exact ⟨by rw [decide_eq_true b1]; rfl, rfl⟩
  · by_cases b2 : x ≥ 127
    · go_enter Tryz.func108, Tryz.ntmps108
      go_wp2_with go_big_skip
      go_ret
      exact ⟨by first | rfl | (rw [decide_eq_true (by omega : 127 ≤ x)]; simp), rfl⟩
    · go_enter Tryz.func108, Tryz.ntmps108
      go_wp2_with go_big_skip
      go_ret
      exact ⟨by rw [decide_eq_false (by omega : ¬ 127 ≤ x), decide_eq_false (by omega : ¬ x < 33)]; rfl, rfl⟩

set_option maxHeartbeats 800000 in
theorem indexU_any (a : Option Addr) (c : Nat) (l : List Int) (w : World) (ha : BAt w a l) (hl : (l.length : Int) ≤ 1048576) :
    Calls Tryz.prog 129 #[.slice a l.length c, .func (.func 108) #[] #[]] w fun e w' => ∃ z : Int, e = .returned (.int .i64 z) ∧ decide (0 ≤ z) = l.any unc ∧ w' = w := by
  have HA := Hid.mk' ha
  clear ha
  go_enter Tryz.func129, Tryz.ntmps129
  go_wp2
  go_loop [8] (fun i => ∃ k : Nat, k ≤ l.length ∧ i = .int .i64 k ∧ (l.take k).any unc = false) (fun i => l.length - (intOf i).toNat)
  case atStart => exact ⟨0, Nat.zero_le _, rfl, rfl⟩
  case round =>
    obtain ⟨k, hk, rfl, hf⟩ := hrel
    have HF := Hid.mk' hf
    clear hf
    by_cases hlt : k < l.length
    · have ci : (k : Int) < (l.length : Int) := by omega
      obtain ⟨b, o, rfl, hbs, h1⟩ := bget HA.out hlt
      have HT := Hid.mk' (any_take (p := unc) hlt)
      have HX := Hid.mk' (any_at (p := unc) hlt)
      have KN := isUnclean_any (l.getD k 0) w
      generalize l.getD k 0 = x at *
      cases he : unc x with
      | true =>
        rw [he] at KN
        have KN := Hid.mk' KN
        have E := Hid.mk' (HX.out he)
        go_wp2_with fail
        refine KN.out.mono ?_
        rintro e w1 ⟨rfl, hw⟩
        obtain rfl := hw.symm
        go_wp2
        go_ret
        exact ⟨k, rfl, by rw [E.out]; simp, rfl⟩
      | false =>
        rw [he] at KN
        have KN := Hid.mk' KN
        have E : Hid ((l.take (k + 1)).any unc = false) := Hid.mk' (by rw [HT.out, HF.out, he]; rfl)
        go_wp2_with fail
        refine KN.out.mono ?_
        rintro e w1 ⟨rfl, hw⟩
        obtain rfl := hw.symm
        go_wp2
        go_round
        case rel => exact ⟨k + 1, by omega, by go_num, E.out⟩
        case measure => simp [intOf]; omega
    · have ci : ¬ (k : Int) < (l.length : Int) := by omega
      have e : k = l.length := by omega
      have E : Hid (l.any unc = false) := Hid.mk' (by have := HF.out; rw [e, List.take_length] at this; exact this)
      go_wp2
      go_ret
      exact ⟨-1, rfl, by rw [E.out]; rfl, rfl⟩

theorem containsU_any (a : Option Addr) (c : Nat) (l : List Int) (w : World) (ha : BAt w a l) (hl : (l.length : Int) ≤ 1048576) :
    Calls Tryz.prog 107 #[.slice a l.length c, .func (.func 108) #[] #[]] w fun e w' => e = .returned (.bool (l.any unc)) ∧ w' = w := by
  have K := Hid.mk' (indexU_any a c l w ha hl)
  clear ha
  go_enter Tryz.func107, Tryz.ntmps107
  go_wp2_with fail
  refine K.out.mono ?_
  rintro e w1 ⟨z, rfl, hz, rfl⟩
  have HZ := Hid.mk' hz
  clear hz
  go_wp2
  go_ret
  exact ⟨by rw [← HZ.out]; simp, rfl⟩

theorem isClean_any (a : Option Addr) (c : Nat) (l : List Int) (w : World) (ha : BAt w a l) (hl : (l.length : Int) ≤ 1048576) :
    Calls Tryz.prog 82 #[.slice a l.length c] w fun e w' => e = .returned (.bool (clB l)) ∧ w' = w := by
  have K := Hid.mk' (containsU_any a c l w ha hl)
  clear ha
  unfold clB
  by_cases b1 : (l.length : Int) ≤ 8
  · rw [decide_eq_true (by omega : l.length ≤ 8), Bool.true_and]
    generalize l.any unc = B at *
    go_enter Tryz.func82, Tryz.ntmps82
    go_wp2_with fail
    refine K.out.mono ?_
    rintro e w1 ⟨rfl, hw⟩
    obtain rfl := hw.symm
    go_wp2
    go_ret
    exact ⟨rfl, rfl⟩
  · rw [decide_eq_false (by omega : ¬ l.length ≤ 8), Bool.false_and]
    clear K
    go_enter Tryz.func82, Tryz.ntmps82
    go_wp2
    go_ret
    exact ⟨rfl, rfl⟩

set_option maxHeartbeats 800000 in
theorem l8Clean_any (a : Option Addr) (c : Nat) (l : List Int) (w : World) (ha : BAt w a l) (hl : (l.length : Int) ≤ 1048576) :
    Calls Tryz.prog 76 #[.slice a l.length c] w fun e w' => e = .returned (.bool (clB l)) ∧ w' = w := by
  have HA := Hid.mk' ha
  clear ha
  go_enter Tryz.func76, Tryz.ntmps76
  go_wp2
  go_loop [3] (fun i => ∃ k : Nat, k ≤ l.length ∧ i = .int .i64 k ∧ (l.take k).any unc = false) (fun i => l.length - (intOf i).toNat)
  case atStart => exact ⟨0, Nat.zero_le _, rfl, rfl⟩
  case round =>
    obtain ⟨k, hk, rfl, hf⟩ := hrel
    have HF := Hid.mk' hf
    clear hf
    by_cases hlt : k < l.length
    · have ci : (k : Int) < (l.length : Int) := by omega
      obtain ⟨b, o, rfl, hbs, h1⟩ := bget HA.out hlt
      have HT := Hid.mk' (any_take (p := unc) hlt)
      have HX := Hid.mk' (any_at (p := unc) hlt)
      generalize l.getD k 0 = x at *
      have hux : unc x = (decide (x < 33) || decide (127 ≤ x)) := rfl
      by_cases b1 : x < 33
      · have E : Hid (clB l = false) := Hid.mk' (by unfold clB; rw [HX.out (by rw [hux, decide_eq_true b1]; rfl)]; simp)
        clear hux
        go_wp2_with go_big_skip
        go_ret
        exact ⟨by rw [E.out]; rfl, rfl⟩
      · by_cases b2 : x ≥ 127
        · have E : Hid (clB l = false) := Hid.mk' (by unfold clB; rw [HX.out (by rw [hux, decide_eq_true (by omega : 127 ≤ x)]; simp)]; simp)
          clear hux
          go_wp2_with go_big_skip
          go_ret
          exact ⟨by rw [E.out]; rfl, rfl⟩
        · have E : Hid ((l.take (k + 1)).any unc = false) := Hid.mk' (by rw [HT.out, HF.out, hux, decide_eq_false b1, decide_eq_false (by omega : ¬ 127 ≤ x)]; rfl)
          clear hux
          go_wp2_with go_big_skip
          go_round
          case rel => exact ⟨k + 1, by omega, by go_num, E.out⟩
          case measure => simp [intOf]; omega
    · have ci : ¬ (k : Int) < (l.length : Int) := by omega
      have e : k = l.length := by omega
      have E : Hid (l.any unc = false) := Hid.mk' (by have := HF.out; rw [e, List.take_length] at this; exact this)
      have E2 : Hid (clB l = decide ((l.length : Int) ≤ 8)) := Hid.mk' (by
        unfold clB
        rw [E.out, Bool.not_false, Bool.and_true]
        by_cases b1 : (l.length : Int) ≤ 8
        · rw [decide_eq_true b1, decide_eq_true (by omega)]
        · rw [decide_eq_false b1, decide_eq_false (by omega)])
      go_wp2
      go_ret
      exact ⟨by rw [E2.out]; rfl, rfl⟩

/-- What begins a path. -/
def pathB (x : Int) : Bool := decide (x = 47) || decide (x = 63) || decide (x = 35)
/-- A scheme is told. -/
def toldB (l : List Int) : Bool := decide (colN l < l.length) && !(l.take (colN l)).any pathB

theorem toldB_no {l : List Int} {k : Nat} (hk : k < colN l) (h : pathB (l.getD k 0) = true) : toldB l = false := by
  have hle := colN_le l
  have : (l.take (colN l)).any pathB = true := by
    refine any_at (k := k) (by rw [List.length_take]; omega) ?_
    have e : (l.take (colN l)).getD k 0 = l.getD k 0 := by
      rw [List.getD_eq_getElem?_getD, List.getD_eq_getElem?_getD, List.getElem?_take_of_lt hk]
    rw [e]; exact h
  unfold toldB
  rw [this]; simp

set_option maxHeartbeats 800000 in
theorem l8Told_any (a : Option Addr) (c : Nat) (l : List Int) (w : World) (ha : BAt w a l) (hl : (l.length : Int) ≤ 1048576) :
    Calls Tryz.prog 102 #[.slice a l.length c] w fun e w' => e = .returned (.bool (toldB l)) ∧ w' = w := by
  have KC := l8Colon_any a c l w ha hl
  have HA := Hid.mk' ha
  clear ha
  have hle := colN_le l
  by_cases hcol : colN l < l.length
  · have ec : colI l = (colN l : Int) := by unfold colI; rw [if_pos hcol]
    rw [ec] at KC
    have KC := Hid.mk' KC
    clear ec
    go_enter Tryz.func102, Tryz.ntmps102
    go_wp2_with fail
    refine KC.out.mono ?_
    rintro e w1 ⟨rfl, hw⟩
    obtain rfl := hw.symm
    go_wp2
    go_loop [4] (fun i => ∃ k : Nat, k ≤ colN l ∧ i = .int .i64 k ∧ (l.take k).any pathB = false) (fun i => colN l - (intOf i).toNat)
    case atStart => exact ⟨0, Nat.zero_le _, rfl, rfl⟩
    case round =>
      obtain ⟨k, hk, rfl, hf⟩ := hrel
      have HF := Hid.mk' hf
      clear hf
      by_cases hlt : k < colN l
      · have ci : (k : Int) < (colN l : Int) := by omega
        have ci2 : (k : Int) < (l.length : Int) := by omega
        have hkl : k < l.length := by omega
        obtain ⟨b, o, rfl, hbs, h1⟩ := bget HA.out hkl
        have HT := Hid.mk' (any_take (p := pathB) hkl)
        have HX := Hid.mk' (toldB_no hlt)
        generalize l.getD k 0 = x at *
        generalize colN l = C at *
        have hpx : pathB x = (decide (x = 47) || decide (x = 63) || decide (x = 35)) := rfl
        by_cases b1 : x = 47
        · have E := Hid.mk' (HX.out (by rw [hpx, decide_eq_true b1]; rfl))
          have b1' : (x == 47) = true := by rw [beq_iff_eq]; exact b1
          clear hpx b1
          go_wp2_with go_big_skip
          go_ret
          exact ⟨by rw [E.out]; rfl, rfl⟩
        have b1' : (x == 47) = false := by rw [beq_eq_false_iff_ne]; exact b1
        by_cases b2 : x = 63
        · have E := Hid.mk' (HX.out (by rw [hpx, decide_eq_true b2]; simp))
          have b2' : (x == 63) = true := by rw [beq_iff_eq]; exact b2
          clear hpx b1 b2
          go_wp2_with go_big_skip
          go_ret
          exact ⟨by rw [E.out]; rfl, rfl⟩
        have b2' : (x == 63) = false := by rw [beq_eq_false_iff_ne]; exact b2
        by_cases b3 : x = 35
        · have E := Hid.mk' (HX.out (by rw [hpx, decide_eq_true b3]; simp))
          have b3' : (x == 35) = true := by rw [beq_iff_eq]; exact b3
          clear hpx b1 b2 b3
          go_wp2_with go_big_skip
          go_ret
          exact ⟨by rw [E.out]; rfl, rfl⟩
        have b3' : (x == 35) = false := by rw [beq_eq_false_iff_ne]; exact b3
        have E : Hid ((l.take (k + 1)).any pathB = false) := Hid.mk' (by rw [HT.out, HF.out, hpx, decide_eq_false b1, decide_eq_false b2, decide_eq_false b3]; rfl)
        clear hpx b1 b2 b3
        go_wp2_with go_big_skip
        go_round
        case rel => exact ⟨k + 1, by omega, by go_num, E.out⟩
        case measure => simp [intOf]; omega
      · have ci : ¬ (k : Int) < (colN l : Int) := by omega
        have e : k = colN l := by omega
        have E : Hid (toldB l = true) := Hid.mk' (by unfold toldB; have := HF.out; rw [e] at this; rw [this, decide_eq_true hcol]; rfl)
        have cg : (colN l : Int) ≥ 0 := by omega
        generalize colN l = C at *
        go_wp2
        go_ret
        exact ⟨by rw [E.out]; rfl, rfl⟩
  · have ec : colI l = -1 := by unfold colI; rw [if_neg hcol]
    have E : Hid (toldB l = false) := Hid.mk' (by unfold toldB; rw [decide_eq_false hcol]; rfl)
    rw [ec] at KC
    have KC := Hid.mk' KC
    clear ec
    go_enter Tryz.func102, Tryz.ntmps102
    go_wp2_with fail
    refine KC.out.mono ?_
    rintro e w1 ⟨rfl, hw⟩
    obtain rfl := hw.symm
    go_wp2
    go_loop [4] (fun i => i = .int .i64 0) (fun i => 0)
    case atStart => rfl
    case round =>
      subst hrel
      go_wp2
      go_ret
      exact ⟨by rw [E.out]; rfl, rfl⟩

@[go_sem] theorem run_ibs (s : ByteArray) (c : Int) (w : World) : (callFunc 173 #[.string s, .int .u8 c]).run Tryz.prog w = .ok (.value (.int .i64 (Lib.indexByte s.data.toList c.toNat.toUInt8))) w := by
  rw [run_callFunc_extern Tryz.func173 (by kernel_rfl) (by kernel_rfl) (by kernel_rfl) (e := Extern.BytealgIndexByte.indexByte) (by kernel_rfl), Lib.run_indexByteString]
  rfl

/-- One of / ? # at a place. -/
theorem ibs_is {x : Int} (h0 : 0 ≤ x) (h1 : x ≤ 255) : (0 ≤ Lib.indexByte [47, 63, 35] x.toNat.toUInt8) ↔ pathB x = true := by
  have : ∀ n : Nat, n < 256 → ((0 ≤ Lib.indexByte [47, 63, 35] n.toUInt8) ↔ pathB (n : Int) = true) := by decide +kernel
  have := this x.toNat (by omega)
  rwa [Int.toNat_of_nonneg h0] at this

end Go.Proofs.YthhdfbgjdfoalaaGreatDoor

/- Is a scheme asked for: the program's side. -/
namespace Go.Proofs.YthhdfbgjdfoalaaGreatDoor
open Go.RowKit
set_option linter.unusedVariables false
set_option linter.unusedSimpArgs false

theorem ascii_any (n : Int) (w : World) (h : n ≤ 8) : Calls Tryz.prog 175 #[.int .i64 n] w fun e w' => e = .returned (.bool false) ∧ w' = w := by
  have h' : ¬ n > 8 := by omega
  go_enter Tryz.func175, Tryz.ntmps175
  go_wp2
  go_ret
  exact ⟨rfl, rfl⟩

set_option maxRecDepth 100000 in
set_option maxHeartbeats 1600000 in
theorem indexAny_any (a : Option Addr) (c : Nat) (l : List Int) (w : World) (ha : BAt w a l) (hl : (l.length : Int) ≤ 8) (hu : ∀ k, k < l.length → 0 ≤ l.getD k 0 ∧ l.getD k 0 < 127) :
    Calls Tryz.prog 150 #[.slice a l.length c, .string ⟨#[47, 63, 35]⟩] w fun e w' => ∃ z : Int, e = .returned (.int .i64 z) ∧ decide (0 ≤ z) = l.any pathB ∧ w' = w := by
  have HA := Hid.mk' ha
  have HU := Hid.mk' hu
  clear ha hu
  have cs : (⟨#[47, 63, 35]⟩ : ByteArray).toList = [47, 63, 35] := by rw [ByteArray.toList_eq]
  have csz : (⟨#[47, 63, 35]⟩ : ByteArray).size = 3 := rfl
  have cdt : (⟨#[47, 63, 35]⟩ : ByteArray).data.toList = [47, 63, 35] := rfl
  by_cases h1 : l.length = 1
  · have hx := HU.out 0 (by omega)
    obtain ⟨b, o, rfl, hbs, hc⟩ := bget HA.out (k := 0) (by omega)
    rw [Nat.add_zero] at hc
    have EA : Hid (l.any pathB = pathB (l.getD 0 0)) := Hid.mk' (by
      obtain ⟨x, rfl⟩ := List.length_eq_one_iff.1 h1
      simp)
    have HI := Hid.mk' (ibs_is (x := l.getD 0 0) (by omega) (by omega))
    have e1 : ((l.length : Int) == 1) = true := by rw [beq_iff_eq]; omega
    have e2 : (0 : Int) < (l.length : Int) := by omega
    generalize l.getD 0 0 = x at *
    have r1 : ¬ x ≥ 128 := by omega
    generalize hz : Lib.indexByte [47, 63, 35] x.toNat.toUInt8 = z at *
    clear h1
    by_cases hp : z ≥ 0
    · have E : Hid (l.any pathB = true) := Hid.mk' (by rw [EA.out]; exact HI.out.1 hp)
      go_enter Tryz.func150, Tryz.ntmps150
      go_wp2
      go_ret
      exact ⟨0, rfl, by rw [E.out]; rfl, rfl⟩
    · have E : Hid (l.any pathB = false) := Hid.mk' (by rw [EA.out]; exact Bool.eq_false_iff.2 (fun h => hp (HI.out.2 h)))
      go_enter Tryz.func150, Tryz.ntmps150
      go_wp2
      go_ret
      exact ⟨-1, rfl, by rw [E.out]; rfl, rfl⟩
  · have e1 : ((l.length : Int) == 1) = false := by rw [beq_eq_false_iff_ne]; omega
    have KA := Hid.mk' (ascii_any (l.length : Int) w hl)
    go_enter Tryz.func150, Tryz.ntmps150
    go_wp2_with fail
    refine KA.out.mono ?_
    rintro e w1 ⟨rfl, hw⟩
    obtain rfl := hw.symm
    go_wp2
    go_loop [11, 12, 13] (fun wd i r => ∃ k : Nat, k ≤ l.length ∧ i = .int .i64 k ∧ (l.take k).any pathB = false) (fun _ i _ => l.length - (intOf i).toNat)
    case atStart => exact ⟨0, Nat.zero_le _, rfl, rfl⟩
    case round =>
      obtain ⟨k, hk, rfl, hf⟩ := hrel
      have HF := Hid.mk' hf
      clear hf
      by_cases hlt : k < l.length
      · have ci : (k : Int) < (l.length : Int) := by omega
        have hx := HU.out k hlt
        obtain ⟨b, o, rfl, hbs, hc⟩ := bget HA.out hlt
        have HT := Hid.mk' (any_take (p := pathB) hlt)
        have HX := Hid.mk' (any_at (p := pathB) hlt)
        have HI := Hid.mk' (ibs_is (x := l.getD k 0) (by omega) (by omega))
        generalize l.getD k 0 = x at *
        have r1 : x < 128 := by omega
        generalize hz : Lib.indexByte [47, 63, 35] x.toNat.toUInt8 = z at *
        by_cases hp : z ≥ 0
        · have E := Hid.mk' (HX.out (HI.out.1 hp))
          go_wp2
          go_ret
          exact ⟨k, rfl, by rw [E.out]; simp, rfl⟩
        · have E : Hid ((l.take (k + 1)).any pathB = false) := Hid.mk' (by rw [HT.out, HF.out, Bool.eq_false_iff.2 (fun h => hp (HI.out.2 h))]; rfl)
          go_wp2
          go_round
          case rel => exact ⟨k + 1, by omega, by go_num, E.out⟩
          case measure => simp [intOf]; omega
      · have ci : ¬ (k : Int) < (l.length : Int) := by omega
        have e : k = l.length := by omega
        have E : Hid (l.any pathB = false) := Hid.mk' (by have := HF.out; rw [e, List.take_length] at this; exact this)
        go_wp2
        go_ret
        exact ⟨-1, rfl, by rw [E.out]; rfl, rfl⟩

theorem containsAny_any (a : Option Addr) (c : Nat) (l : List Int) (w : World) (ha : BAt w a l) (hl : (l.length : Int) ≤ 8) (hu : ∀ k, k < l.length → 0 ≤ l.getD k 0 ∧ l.getD k 0 < 127) :
    Calls Tryz.prog 131 #[.slice a l.length c, .string ⟨#[47, 63, 35]⟩] w fun e w' => e = .returned (.bool (l.any pathB)) ∧ w' = w := by
  have K := Hid.mk' (indexAny_any a c l w ha hl hu)
  clear ha hu
  go_enter Tryz.func131, Tryz.ntmps131
  go_wp2_with fail
  refine K.out.mono ?_
  rintro e w1 ⟨z, rfl, hz, hw⟩
  obtain rfl := hw.symm
  have HZ := Hid.mk' hz
  clear hz
  go_wp2
  go_ret
  exact ⟨by rw [← HZ.out]; simp, rfl⟩

set_option maxRecDepth 100000 in
set_option maxHeartbeats 1600000 in
theorem asksScheme_any (g c : Nat) (l : List Int) (w : World) (hr : w.rowIs g 5 l.length (bv l)) (hc : l.length ≤ c) (hcl : clB l = true) (hu : ∀ k, k < l.length → 0 ≤ l.getD k 0 ∧ l.getD k 0 ≤ 255) :
    Calls Tryz.prog 109 #[.slice (some ⟨g, 0, none⟩) l.length c] w fun e w' => e = .returned (.bool (toldB l)) ∧ Below w.heap.size w w' := by
  unfold clB at hcl
  rw [Bool.and_eq_true, decide_eq_true_eq, Bool.not_eq_true'] at hcl
  obtain ⟨l8, hun⟩ := hcl
  have hmem : ∀ x ∈ l, 0 ≤ x ∧ x ≤ 255 := fun x hx => by
    obtain ⟨i, hi, rfl⟩ := List.mem_iff_getElem.1 hx
    have := hu i hi
    rwa [show l.getD i 0 = l[i] by simp [hi]] at this
  have hasc : ∀ k, k < l.length → 0 ≤ l.getD k 0 ∧ l.getD k 0 < 127 := fun k hk => by
    have h1 := (hu k hk).1
    refine ⟨h1, ?_⟩
    rcases Int.lt_or_le (l.getD k 0) 127 with h | h
    · exact h
    · have := any_at (p := unc) hk (by unfold unc; rw [decide_eq_true h]; simp)
      rw [this] at hun; cases hun
  have hle := colN_le l
  have N1 := below_new w (.cells #[.int .u8 58] 5 (1, 2))
  have HB := Hid.mk' N1
  have hrW := rowB hr N1
  have hcol := cell_marked w (.int .u8 58) 5 (1, 2)
  have hci : -1 ≤ colI l ∧ (0 ≤ colI l → colI l + 1 ≤ l.length) := by
    unfold colI
    by_cases h : colN l < l.length
    · rw [if_pos h]; omega
    · rw [if_neg h]; omega
  have KI := Tryz.bytes_Index_one g 0 l.length c w.heap.size 0 1 l 58 _ rfl (fun i hi => by rw [Nat.zero_add]; exact hrW.cell hi) hcol
  have e58 : ((58 : Int).toNat.toUInt8) = 58 := by decide
  rw [e58, indexByte_is l hmem] at KI
  have KC := Hid.mk' (Tryz.bytes_Cut_of (some ⟨g, 0, none⟩) (some ⟨w.heap.size, 0, none⟩) l.length c 1 1 (colI l) _ hc hci.1 hci.2 (by omega) (KI.mono fun e w' ⟨h1, h2⟩ => ⟨h1, 0, h2⟩))
  have HAT := Hid.mk' (BAt.of_row hrW)
  have kcv := Lib.run_convert_bytes_const (P := Tryz.prog) w 51 5 #[.int .u8 58] 1 1 Tryz.underlying51 Tryz.underlying5
  have KCV := Hid.mk' kcv
  have HASC := Hid.mk' hasc
  clear hr hu N1 hrW KI hcol hci e58 kcv hmem hun hasc
  generalize hW : w.alloc (.cells #[.int .u8 58] 5 (1, 2)) = W at *
  by_cases h1 : colN l < l.length
  · have h2 : colI l = (colN l : Int) := by unfold colI; rw [if_pos h1]
    rw [h2] at KC
    have eV : Lib.cutV (some ⟨g, 0, none⟩) l.length c 1 ((colN l : Nat) : Int) = .tuple #[.slice (some ⟨g, 0, none⟩) (colN l) c, Lib.fromV (some ⟨g, 0, none⟩) l.length c (colN l + 1), .bool true] := by
      unfold Lib.cutV
      rw [if_pos (by omega)]
      rfl
    rw [eV] at KC
    generalize Lib.fromV (some ⟨g, 0, none⟩) l.length c (colN l + 1) = vr at *
    have ET : Hid (toldB l = !(l.take (colN l)).any pathB) := Hid.mk' (by unfold toldB; rw [decide_eq_true h1, Bool.true_and])
    have LT : Hid ((l.take (colN l)).length = colN l) := Hid.mk' (by rw [List.length_take]; omega)
    have KA : Hid (∀ W2 : World, Below W.heap.size W W2 → Calls Tryz.prog 131 #[.slice (some ⟨g, 0, none⟩) (colN l) c, .string ⟨#[47, 63, 35]⟩] W2 fun e w' => e = .returned (.bool ((l.take (colN l)).any pathB)) ∧ w' = W2) := Hid.mk' (fun W2 hb => by
      have k := containsAny_any (some ⟨g, 0, none⟩) c (l.take (colN l)) W2 ((HAT.out.take (colN l)).below hb) (by rw [LT.out]; omega) (fun k hk => by
        rw [LT.out] at hk
        have e : (l.take (colN l)).getD k 0 = l.getD k 0 := by rw [List.getD_eq_getElem?_getD, List.getD_eq_getElem?_getD, List.getElem?_take_of_lt hk]
        rw [e]; exact HASC.out k (by omega))
      rw [LT.out] at k
      exact k)
    clear eV h2
    have hcc := KCV.out
    generalize (l.take (colN l)).any pathB = PB at *
    generalize colN l = C at *
    go_enter Tryz.func109, Tryz.ntmps109
    go_wp2_with fail
    clear hW hcc
    refine KC.out.mono ?_
    rintro e w1 ⟨rfl, q, hw⟩
    have hb : Below W.heap.size W w1 := by rw [hw]; exact below_drewN (Below.refl _ _) q
    have HB1 := Hid.mk' hb
    have HB := Hid.mk' (HB.out.trans (hb.mono HB.out.size))
    clear hb hw KC
    go_wp2_with fail
    refine (KA.out _ HB1.out).mono ?_
    rintro e w2 ⟨rfl, hw⟩
    obtain rfl := hw.symm
    go_wp2
    go_ret
    exact ⟨by rw [ET.out]; rfl, HB.out⟩
  · have h2 : colI l = -1 := by unfold colI; rw [if_neg h1]
    rw [h2] at KC
    have eV : Lib.cutV (some ⟨g, 0, none⟩) l.length c 1 (-1) = .tuple #[.slice (some ⟨g, 0, none⟩) l.length c, .slice none 0 0, .bool false] := by
      unfold Lib.cutV
      rw [if_neg (by omega)]
    rw [eV] at KC
    have ET : Hid (toldB l = false) := Hid.mk' (by unfold toldB; rw [decide_eq_false h1, Bool.false_and])
    clear eV h2
    have hcc := KCV.out
    go_enter Tryz.func109, Tryz.ntmps109
    go_wp2_with fail
    clear hW hcc
    refine KC.out.mono ?_
    rintro e w1 ⟨rfl, q, hw⟩
    have hb : Below W.heap.size W w1 := by rw [hw]; exact below_drewN (Below.refl _ _) q
    have HB := Hid.mk' (HB.out.trans (hb.mono HB.out.size))
    clear hb hw KC
    go_wp2
    go_ret
    exact ⟨by rw [ET.out]; rfl, HB.out⟩

end Go.Proofs.YthhdfbgjdfoalaaGreatDoor

/- Texts of digits, and the quarters that they are: the mathematics of MeasureOf. -/
namespace Go.Proofs.YthhdfbgjdfoalaaGreatDoor
open Go.RowKit
open Ieee
set_option linter.unusedVariables false
set_option linter.unusedSimpArgs false

/-- A digit at a place; the first k are digits; a text of 1 to most digits; the number of the first k. -/
def isD (t : ByteArray) (k : Nat) : Bool := decide (48 ≤ byS t k) && decide (byS t k ≤ 57)
def allD (t : ByteArray) : Nat → Bool
  | 0 => true
  | k + 1 => allD t k && isD t k
def digOk (t : ByteArray) (most : Nat) : Bool := decide (1 ≤ t.size) && decide (t.size ≤ most) && allD t t.size
def numD (t : ByteArray) : Nat → Nat
  | 0 => 0
  | k + 1 => 10 * numD t k + (byS t k - 48)

theorem isD_iff {t : ByteArray} {k : Nat} : isD t k = true ↔ 48 ≤ byS t k ∧ byS t k ≤ 57 := by
  unfold isD; rw [Bool.and_eq_true, decide_eq_true_eq, decide_eq_true_eq]

theorem allD_at {t : ByteArray} : ∀ {n k : Nat}, allD t n = true → k < n → 48 ≤ byS t k ∧ byS t k ≤ 57
  | 0, _, _, h => absurd h (Nat.not_lt_zero _)
  | n + 1, k, h, hk => by
    unfold allD at h
    rw [Bool.and_eq_true] at h
    by_cases e : k = n
    · subst e; exact isD_iff.1 h.2
    · exact allD_at h.1 (by omega)

theorem allD_of {t : ByteArray} : ∀ {n : Nat}, (∀ k, k < n → 48 ≤ byS t k ∧ byS t k ≤ 57) → allD t n = true
  | 0, _ => rfl
  | n + 1, h => by
    unfold allD
    rw [allD_of (fun k hk => h k (by omega)), isD_iff.2 (h n (by omega))]; rfl

theorem allD_next {t : ByteArray} {k : Nat} (h : allD t k = true) (hd : 48 ≤ byS t k ∧ byS t k ≤ 57) : allD t (k + 1) = true := by
  unfold allD; rw [h, isD_iff.2 hd]; rfl

theorem numD_lt {t : ByteArray} : ∀ n, allD t n = true → numD t n < 10 ^ n
  | 0, _ => (by show 0 < 1; decide)
  | n + 1, h => by
    have h0 := allD_at (k := n) h (by omega)
    unfold allD at h
    rw [Bool.and_eq_true] at h
    have := numD_lt n h.1
    have hp := Nat.pow_succ (n := 10) (m := n)
    unfold numD
    omega

theorem pow10_le {n m : Nat} (h : n ≤ m) : 10 ^ n ≤ 10 ^ m := Nat.pow_le_pow_right (by decide) h

theorem digOk_iff {t : ByteArray} {most : Nat} : digOk t most = true ↔ 1 ≤ t.size ∧ t.size ≤ most ∧ allD t t.size = true := by
  unfold digOk; rw [Bool.and_eq_true, Bool.and_eq_true, decide_eq_true_eq, decide_eq_true_eq, and_assoc]

theorem digOk_bad {t : ByteArray} {most k : Nat} (hk : k < t.size) (h : ¬ (48 ≤ byS t k ∧ byS t k ≤ 57)) : digOk t most = false :=
  Bool.eq_false_iff.2 fun e => h (allD_at (digOk_iff.1 e).2.2 hk)

theorem digOk_none {t : ByteArray} {most : Nat} (h : t.size < 1) : digOk t most = false := Bool.eq_false_iff.2 fun e => by have := (digOk_iff.1 e).1; omega
theorem digOk_many {t : ByteArray} {most : Nat} (h : most < t.size) : digOk t most = false := Bool.eq_false_iff.2 fun e => by have := (digOk_iff.1 e).2.1; omega

/-- Where the first point stands among the first k; the text's size, if there is none. -/
def dotU (r : ByteArray) : Nat → Nat
  | 0 => r.size
  | k + 1 => if dotU r k = r.size ∧ byS r k = 46 then k else dotU r k
def dotN (r : ByteArray) : Nat := dotU r r.size

theorem dotU_spec (r : ByteArray) : ∀ k, k ≤ r.size → (dotU r k = r.size ∧ ∀ j, j < k → byS r j ≠ 46) ∨ (dotU r k < k ∧ byS r (dotU r k) = 46 ∧ ∀ j, j < dotU r k → byS r j ≠ 46)
  | 0, _ => .inl ⟨rfl, fun j h => absurd h (Nat.not_lt_zero _)⟩
  | k + 1, hk => by
    unfold dotU
    rcases dotU_spec r k (by omega) with ⟨h1, h2⟩ | ⟨h1, h2, h3⟩
    · by_cases c : byS r k = 46
      · rw [if_pos ⟨h1, c⟩]
        exact .inr ⟨by omega, c, h2⟩
      · rw [if_neg (fun h => c h.2)]
        refine .inl ⟨h1, fun j hj => ?_⟩
        by_cases e : j = k
        · subst e; exact c
        · exact h2 j (by omega)
    · rw [if_neg (fun h => by omega)]
      exact .inr ⟨by omega, h2, h3⟩

theorem dotN_le (r : ByteArray) : dotN r ≤ r.size := by
  rcases dotU_spec r r.size (Nat.le_refl _) with ⟨h1, _⟩ | ⟨h1, _⟩
  · unfold dotN; omega
  · unfold dotN; omega

def wholeT (r : ByteArray) : ByteArray := r.extract 0 (dotN r)
def partT (r : ByteArray) : ByteArray := r.extract (dotN r + 1) r.size

theorem ext_size (r : ByteArray) (a b : Nat) (hb : b ≤ r.size) : (r.extract a b).size = b - a := by
  rw [ByteArray.size_extract, Nat.min_eq_left hb]

theorem byS_ext (r : ByteArray) (a b k : Nat) (hb : b ≤ r.size) (hk : a + k < b) : byS (r.extract a b) k = byS r (a + k) := by
  have h1 : k < (r.extract a b).size := by rw [ext_size r a b hb]; omega
  unfold byS
  rw [dif_pos h1, dif_pos (by omega : a + k < r.size)]
  congr 1
  exact ByteArray.getElem_extract ..

theorem whole_size (r : ByteArray) : (wholeT r).size = dotN r := by unfold wholeT; rw [ext_size r 0 _ (dotN_le r)]; omega
theorem part_size (r : ByteArray) : (partT r).size = r.size - (dotN r + 1) := by unfold partT; rw [ext_size r _ _ (Nat.le_refl _)]
theorem whole_at (r : ByteArray) {k : Nat} (hk : k < dotN r) : byS (wholeT r) k = byS r k := by
  unfold wholeT; rw [byS_ext r 0 _ k (dotN_le r) (by omega), Nat.zero_add]
theorem part_at (r : ByteArray) {k : Nat} (hk : dotN r + 1 + k < r.size) : byS (partT r) k = byS r (dotN r + 1 + k) := by
  unfold partT; rw [byS_ext r _ _ k (Nat.le_refl _) hk]

def wholeN (r : ByteArray) : Nat := numD (wholeT r) (wholeT r).size
def partN (r : ByteArray) : Nat := numD (partT r) (partT r).size
def padP (r : ByteArray) : Nat := partN r * 10 ^ (3 - (partT r).size)

/-- A text without a sign that is quarters, and how many. -/
def okR (r : ByteArray) : Bool := digOk (wholeT r) 4 && (decide (dotN r = r.size) || (digOk (partT r) 3 && decide (padP r % 250 = 0)))
def qR (r : ByteArray) : Nat := 4 * wholeN r + (if dotN r = r.size then 0 else padP r / 250)

/-- What the model's number of a text is. -/
def numA (r : ByteArray) : Int := if digOk (wholeT r) 4 = true then (if dotN r = r.size then 4 * (wholeN r : Int) else if digOk (partT r) 3 = true then (if padP r % 250 = 0 then 4 * (wholeN r : Int) + (padP r / 250 : Nat) else -1) else -1) else -4

theorem wholeN_lt {r : ByteArray} (h : digOk (wholeT r) 4 = true) : wholeN r < 10000 := by
  obtain ⟨h1, h2, h3⟩ := digOk_iff.1 h
  exact Nat.lt_of_lt_of_le (numD_lt _ h3) (pow10_le h2)

theorem part_sizes {r : ByteArray} (h : digOk (partT r) 3 = true) : (partT r).size = 1 ∧ partN r < 10 ∧ padP r = partN r * 100 ∨ (partT r).size = 2 ∧ partN r < 100 ∧ padP r = partN r * 10 ∨ (partT r).size = 3 ∧ partN r < 1000 ∧ padP r = partN r := by
  obtain ⟨h1, h2, h3⟩ := digOk_iff.1 h
  have hl := numD_lt _ h3
  have hl : partN r < 10 ^ (partT r).size := hl
  have c : (partT r).size = 1 ∨ (partT r).size = 2 ∨ (partT r).size = 3 := by omega
  unfold padP
  rcases c with c | c | c
  · rw [c] at hl ⊢; exact .inl ⟨rfl, hl, rfl⟩
  · rw [c] at hl ⊢; exact .inr (.inl ⟨rfl, hl, rfl⟩)
  · rw [c] at hl ⊢; exact .inr (.inr ⟨rfl, hl, by simp⟩)

theorem padP_lt {r : ByteArray} (h : digOk (partT r) 3 = true) : padP r < 1000 := by
  rcases part_sizes h with ⟨_, h1, h2⟩ | ⟨_, h1, h2⟩ | ⟨_, h1, h2⟩ <;> omega

theorem numA_ok {r : ByteArray} (h : okR r = true) : numA r = (qR r : Int) ∧ qR r ≤ 39999 := by
  unfold okR at h
  rw [Bool.and_eq_true, Bool.or_eq_true, decide_eq_true_eq, Bool.and_eq_true, decide_eq_true_eq] at h
  have hw := wholeN_lt h.1
  unfold numA qR
  rw [if_pos h.1]
  rcases h.2 with c | ⟨c1, c2⟩
  · rw [if_pos c, if_pos c]; omega
  · have := padP_lt c1
    by_cases c : dotN r = r.size
    · rw [if_pos c, if_pos c]; omega
    · rw [if_neg c, if_neg c, if_pos c1, if_pos c2]; omega

theorem numA_bad {r : ByteArray} (h : okR r = false) : numA r < 0 := by
  unfold okR at h
  unfold numA
  by_cases h1 : digOk (wholeT r) 4 = true
  · rw [if_pos h1]
    rw [h1, Bool.true_and, Bool.or_eq_false_iff, decide_eq_false_iff_not] at h
    rw [if_neg h.1]
    by_cases h2 : digOk (partT r) 3 = true
    · rw [if_pos h2]
      rw [h2, Bool.true_and, decide_eq_false_iff_not] at h
      rw [if_neg h.2]; omega
    · rw [if_neg h2]; omega
  · rw [if_neg h1]; omega

/-- A text whose digits are so: what the program's library reads of it. -/
def looks (r : ByteArray) : Prop := digOk (wholeT r) 4 = true ∧ (dotN r = r.size ∨ digOk (partT r) 3 = true)

theorem no_dot_ahead {r : ByteArray} {j : Nat} (h : j < dotN r) : byS r j ≠ 46 := by
  rcases dotU_spec r r.size (Nat.le_refl _) with ⟨h1, h2⟩ | ⟨h1, h2, h3⟩
  · exact h2 j (by have := dotN_le r; omega)
  · exact h3 j h

theorem dot_at {r : ByteArray} (h : dotN r < r.size) : byS r (dotN r) = 46 := by
  rcases dotU_spec r r.size (Nat.le_refl _) with ⟨h1, h2⟩ | ⟨h1, h2, h3⟩
  · unfold dotN at h; omega
  · exact h2

theorem rf_ahead {r : ByteArray} : ∀ k, k ≤ dotN r → rfM r k = numD (wholeT r) k ∧ rfD r k = false ∧ rfF r k = 0
  | 0, _ => ⟨rfl, rfl, rfl⟩
  | k + 1, hk => by
    obtain ⟨h1, h2, h3⟩ := rf_ahead (r := r) k (by omega)
    have hn := no_dot_ahead (r := r) (j := k) (by omega)
    have hw := whole_at r (k := k) (by omega)
    unfold rfM rfD rfF numD
    rw [if_neg hn, if_neg hn, if_neg hn, h1, h2, hw]
    refine ⟨by omega, rfl, by simp⟩

theorem rf_behind {r : ByteArray} (hd : dotN r < r.size) (hp : digOk (partT r) 3 = true) : ∀ j, dotN r + 1 + j ≤ r.size → rfM r (dotN r + 1 + j) = numD (wholeT r) (dotN r) * 10 ^ j + numD (partT r) j ∧ rfD r (dotN r + 1 + j) = true ∧ rfF r (dotN r + 1 + j) = j
  | 0, _ => by
    obtain ⟨h1, h2, h3⟩ := rf_ahead (r := r) (dotN r) (Nat.le_refl _)
    have h46 := dot_at hd
    show rfM r (dotN r + 1) = _ ∧ rfD r (dotN r + 1) = true ∧ rfF r (dotN r + 1) = 0
    unfold rfM rfD rfF
    rw [if_pos h46, if_pos h46, if_pos h46, h1]
    exact ⟨by simp [numD], rfl, rfl⟩
  | j + 1, hj => by
    obtain ⟨h1, h2, h3⟩ := rf_behind hd hp j (by omega)
    have hw := part_at r (k := j) (by omega)
    have hdg := allD_at (digOk_iff.1 hp).2.2 (k := j) (by rw [part_size]; omega)
    rw [hw] at hdg
    have hn : ¬ byS r (dotN r + 1 + j) = 46 := by omega
    show rfM r (dotN r + 1 + j + 1) = _ ∧ rfD r (dotN r + 1 + j + 1) = true ∧ rfF r (dotN r + 1 + j + 1) = j + 1
    have e1 : numD (partT r) (j + 1) = 10 * numD (partT r) j + (byS (partT r) j - 48) := rfl
    unfold rfM rfD rfF
    rw [if_neg hn, if_neg hn, if_neg hn, h1, h2, h3, e1, hw, Nat.pow_succ]
    refine ⟨?_, rfl, by simp⟩
    rw [← Nat.mul_assoc]
    omega

theorem looks_dec {r : ByteArray} (h : looks r) : isDec r := by
  obtain ⟨hw, hp⟩ := h
  obtain ⟨w1, w2, w3⟩ := digOk_iff.1 hw
  rw [whole_size] at w1 w2
  have hle := dotN_le r
  have hwd : ∀ k, k < dotN r → 48 ≤ byS r k ∧ byS r k ≤ 57 := fun k hk => by
    rw [← whole_at r hk]
    exact allD_at w3 (by rw [whole_size]; exact hk)
  have hsz : r.size ≤ 8 := by
    rcases hp with c | c
    · omega
    · have := (digOk_iff.1 c).2.1
      rw [part_size] at this
      omega
  refine ⟨by omega, hsz, hwd 0 (by omega), fun k hk => ?_⟩
  by_cases c1 : k < dotN r
  · exact .inl (hwd k c1)
  · by_cases c2 : k = dotN r
    · subst c2
      exact .inr ⟨dot_at hk, (rf_ahead (dotN r) (Nat.le_refl _)).2.1⟩
    · rcases hp with c | c
      · omega
      · have := allD_at (digOk_iff.1 c).2.2 (k := k - (dotN r + 1)) (by rw [part_size]; omega)
        rw [part_at r (by omega), show dotN r + 1 + (k - (dotN r + 1)) = k by omega] at this
        exact .inl this

theorem nearest_whole (x : Nat) (h0 : 0 < x) (hx : x < 10000) : double.nearest false x 0 = wordQ (4 * x) := by
  obtain ⟨g1, g2⟩ : 2 ^ x.log2 ≤ x ∧ x < 2 ^ (x.log2 + 1) := ⟨Nat.log2_self_le (by omega), Nat.lt_log2_self⟩
  generalize hL : x.log2 = L at *
  have hL2 : L ≤ 13 := by
    rcases Nat.lt_or_ge 13 L with h | h
    · have : 2 ^ 14 ≤ 2 ^ L := Nat.pow_le_pow_right (by decide) h
      have e : (2 : Nat) ^ 14 = 16384 := by decide
      omega
    · exact h
  have e4 : (4 * x).log2 = L + 2 := log2_le_of (by rw [Nat.pow_add]; omega) (by rw [show L + 2 + 1 = (L + 1) + 2 by omega, Nat.pow_add]; omega)
  have hr := mul_two_pow_range g1 g2 (by omega)
  unfold wordQ
  rw [if_neg (by omega), e4, nearest_short x L 0 g1 g2 (by omega) (by omega) (by omega)]
  unfold wq
  have e5 : 4 * x * 2 ^ (52 - (L + 2)) = x * 2 ^ (52 - L) := by
    rw [show 52 - L = (52 - (L + 2)) + 2 by omega, Nat.pow_add, Nat.mul_comm 4 x, Nat.mul_assoc]
    congr 1
    rw [Nat.mul_comm]
  rw [e5]
  congr 2
  omega

theorem quarters_word (q : Nat) (h : q ≤ 39999) : quarters (wordQ q) = q := by
  unfold wordQ
  by_cases h0 : q = 0
  · rw [if_pos h0, h0]; rfl
  · rw [if_neg h0]
    have g1 : 2 ^ q.log2 ≤ q := Nat.log2_self_le h0
    have g2 : q < 2 ^ (q.log2 + 1) := Nat.lt_log2_self
    refine quarters_wq q _ ?_ g1 g2 h
    rcases Nat.lt_or_ge 15 q.log2 with c | c
    · have : 2 ^ 16 ≤ 2 ^ q.log2 := Nat.pow_le_pow_right (by decide) c
      have e : (2 : Nat) ^ 16 = 65536 := by decide
      omega
    · exact c

theorem word_of_quarters {n q : Nat} (h : quarters n = (q : Int)) (hn : n ≠ 0) : n = wordQ q := by
  obtain ⟨q', k, h1, h2, h3, h4, h5, h6⟩ := quarters_pos n (by omega) hn
  have e : q' = q := by omega
  subst e
  have : 0 < 2 ^ k := Nat.two_pow_pos k
  unfold wordQ
  rw [if_neg (by omega), log2_le_of h3 h4]
  exact h6

end Go.Proofs.YthhdfbgjdfoalaaGreatDoor

/- MeasureOf: the model's side. -/
namespace Go.Proofs.YthhdfbgjdfoalaaGreatDoor
open Go.RowKit
set_option linter.unusedVariables false
set_option linter.unusedSimpArgs false

theorem byS_lt (s : ByteArray) (k : Nat) : byS s k < 256 := by
  unfold byS
  split
  · exact UInt8.toNat_lt _
  · decide

set_option maxHeartbeats 800000 in
theorem l3Digits_any (t : ByteArray) (most : Nat) (w : World) (hm : most ≤ 4) (hs : (t.size : Int) ≤ 9223372036854775807) :
    Calls Tryz.prog 138 #[.string t, .int .i64 most] w fun e w' => e = .returned (.int .i64 (if digOk t most = true then (numD t t.size : Int) else -1)) ∧ w' = w := by
  obtain ⟨V, hV⟩ : ∃ V : Int, V = (if digOk t most = true then (numD t t.size : Int) else -1) := ⟨_, rfl⟩
  rw [← hV]
  by_cases h1 : t.size < 1
  · rw [digOk_none h1] at hV
    replace hV := Hid.mk' hV
    have c1 : (t.size : Int) < 1 := by omega
    go_enter Tryz.func138, Tryz.ntmps138
    go_wp2_with go_big_skip
    go_ret
    exact ⟨by rw [hV.out]; rfl, rfl⟩
  have c1 : ¬ (t.size : Int) < 1 := by omega
  by_cases h2 : most < t.size
  · rw [digOk_many h2] at hV
    replace hV := Hid.mk' hV
    have c2 : (t.size : Int) > (most : Int) := by omega
    go_enter Tryz.func138, Tryz.ntmps138
    go_wp2_with go_big_skip
    go_ret
    exact ⟨by rw [hV.out]; rfl, rfl⟩
  have c2 : ¬ (t.size : Int) > (most : Int) := by omega
  have HV := Hid.mk' hV
  clear hV
  go_enter Tryz.func138, Tryz.ntmps138
  go_wp2_with go_big_skip
  go_loop [5, 6] (fun n i => ∃ k : Nat, k ≤ t.size ∧ i = .int .i64 k ∧ n = .int .i64 (numD t k : Int) ∧ allD t k = true) (fun _ i => t.size - (intOf i).toNat)
  case atStart => exact ⟨0, Nat.zero_le _, rfl, rfl, rfl⟩
  case round =>
    obtain ⟨k, hk, rfl, rfl, hall⟩ := hrel
    have HA := Hid.mk' hall
    have nb : numD t k < 10000 := Nat.lt_of_lt_of_le (numD_lt k hall) (pow10_le (m := 4) (by omega))
    clear hall c1 c2
    by_cases hlt : k < t.size
    · have ci : (k : Int) < (t.size : Int) := by omega
      have hc := byS_is hlt
      have en : Hid (numD t (k + 1) = 10 * numD t k + (byS t k - 48)) := Hid.mk' rfl
      have HB : Hid (¬ (48 ≤ byS t k ∧ byS t k ≤ 57) → digOk t most = false) := Hid.mk' (fun h => digOk_bad hlt h)
      have HN : Hid (48 ≤ byS t k ∧ byS t k ≤ 57 → allD t (k + 1) = true) := Hid.mk' (fun h => allD_next HA.out h)
      have c256 := byS_lt t k
      generalize byS t k = c at *
      by_cases b1 : c < 48
      · have d1 : (c : Int) < 48 := by omega
        have E := Hid.mk' (HB.out (by omega))
        go_wp2_with go_big_skip
        go_ret
        exact ⟨by rw [HV.out, E.out]; rfl, rfl⟩
      · have d1 : ¬ (c : Int) < 48 := by omega
        by_cases b2 : 57 < c
        · have d2 : (c : Int) > 57 := by omega
          have E := Hid.mk' (HB.out (by omega))
          go_wp2_with go_big_skip
          go_ret
          exact ⟨by rw [HV.out, E.out]; rfl, rfl⟩
        · have d2 : ¬ (c : Int) > 57 := by omega
          have E := Hid.mk' (HN.out (by omega))
          go_wp2_with go_big_skip
          go_round
          case rel => exact ⟨k + 1, by omega, by go_num, by rw [en.out]; go_num, E.out⟩
          case measure => simp [intOf]; omega
    · have ci : ¬ (k : Int) < (t.size : Int) := by omega
      have e : k = t.size := by omega
      subst e
      have E : Hid (digOk t most = true) := Hid.mk' (digOk_iff.2 ⟨by omega, by omega, HA.out⟩)
      go_wp2_with go_big_skip
      go_ret
      exact ⟨by rw [HV.out, E.out]; rfl, rfl⟩

theorem numA_w {r : ByteArray} (h : digOk (wholeT r) 4 = false) : numA r = -4 := by unfold numA; rw [h]; rfl
theorem numA_d {r : ByteArray} (h : digOk (wholeT r) 4 = true) (hd : dotN r = r.size) : numA r = 4 * (wholeN r : Int) := by unfold numA; rw [if_pos h, if_pos hd]
theorem numA_p {r : ByteArray} (h : digOk (wholeT r) 4 = true) (hd : ¬ dotN r = r.size) (hp : digOk (partT r) 3 = false) : numA r = -1 := by unfold numA; rw [if_pos h, if_neg hd, hp]; rfl
theorem numA_n {r : ByteArray} (h : digOk (wholeT r) 4 = true) (hd : ¬ dotN r = r.size) (hp : digOk (partT r) 3 = true) (hz : ¬ padP r % 250 = 0) : numA r = -1 := by unfold numA; rw [if_pos h, if_neg hd, if_pos hp, if_neg hz]
theorem numA_q {r : ByteArray} (h : digOk (wholeT r) 4 = true) (hd : ¬ dotN r = r.size) (hp : digOk (partT r) 3 = true) (hz : padP r % 250 = 0) : numA r = 4 * (wholeN r : Int) + (padP r / 250 : Nat) := by unfold numA; rw [if_pos h, if_neg hd, if_pos hp, if_pos hz]

set_option maxRecDepth 100000 in
set_option maxHeartbeats 1600000 in
theorem l3Number_any (r : ByteArray) (w : World) (hs : (r.size : Int) ≤ 1048576) :
    Calls Tryz.prog 117 #[.string r] w fun e w' => e = .returned (.int .i64 (numA r)) ∧ w' = w := by
  have KW := l3Digits_any (wholeT r) 4 w (by omega) (by rw [whole_size]; have := dotN_le r; omega)
  have KP := l3Digits_any (partT r) 3 w (by omega) (by rw [part_size]; omega)
  have wl := Hid.mk' (dotN_le r)
  have EW : Hid (wholeT r = r.extract 0 (dotN r)) := Hid.mk' rfl
  have EP : Hid (partT r = r.extract (dotN r + 1) r.size) := Hid.mk' rfl
  go_enter Tryz.func117, Tryz.ntmps117
  go_wp2_with fail
  go_loop [3, 4] (fun d i => ∃ k : Nat, k ≤ r.size ∧ i = .int .i64 k ∧ d = .int .i64 (dotU r k : Int)) (fun _ i => r.size - (intOf i).toNat)
  case atStart => exact ⟨0, Nat.zero_le _, rfl, rfl⟩
  case round =>
    obtain ⟨k, hk, rfl, rfl⟩ := hrel
    have du : Hid (dotU r k ≤ r.size) := Hid.mk' (by rcases dotU_spec r k hk with ⟨h, _⟩ | ⟨h, _⟩ <;> omega)
    by_cases hlt : k < r.size
    · have ci : (k : Int) < (r.size : Int) := by omega
      have hc := byS_is hlt
      have en : Hid (dotU r (k + 1) = if dotU r k = r.size ∧ byS r k = 46 then k else dotU r k) := Hid.mk' rfl
      clear KW KP
      generalize byS r k = c at *
      generalize dotU r k = d at *
      by_cases b1 : c = 46
      · have d1 : ((c : Int) == 46) = true := by rw [beq_iff_eq]; omega
        by_cases b2 : d = r.size
        · have d2 : ((d : Int) == (r.size : Int)) = true := by rw [beq_iff_eq]; omega
          have E : Hid (dotU r (k + 1) = k) := Hid.mk' (by rw [en.out, if_pos ⟨b2, b1⟩])
          clear b1 b2
          go_wp2
          go_round
          case rel => exact ⟨k + 1, by omega, by go_num, by rw [E.out]⟩
          case measure => simp [intOf]; omega
        · have d2 : ((d : Int) == (r.size : Int)) = false := by rw [beq_eq_false_iff_ne]; omega
          have E : Hid (dotU r (k + 1) = d) := Hid.mk' (by rw [en.out, if_neg (fun h => b2 h.1)])
          clear b1 b2
          go_wp2
          go_round
          case rel => exact ⟨k + 1, by omega, by go_num, by rw [E.out]⟩
          case measure => simp [intOf]; omega
      · have d1 : ((c : Int) == 46) = false := by rw [beq_eq_false_iff_ne]; omega
        have E : Hid (dotU r (k + 1) = d) := Hid.mk' (by rw [en.out, if_neg (fun h => b1 h.2)])
        clear b1
        go_wp2
        go_round
        case rel => exact ⟨k + 1, by omega, by go_num, by rw [E.out]⟩
        case measure => simp [intOf]; omega
    · have ci : ¬ (k : Int) < (r.size : Int) := by omega
      have e : k = r.size := by omega
      subst e
      have e2 : dotU r r.size = dotN r := rfl
      rw [e2]
      clear e2 du hk hlt
      have wl' := wl.out
      rw [EW.out] at KW
      rw [EP.out] at KP
      have i1 : (0 : Int) ≤ (dotN r : Int) := by omega
      have i2 : (dotN r : Int) ≤ (r.size : Int) := by omega
      cases hw : digOk (wholeT r) 4
      · have E := Hid.mk' (numA_w hw)
        rw [← EW.out, hw, EW.out] at KW
        have KW := Hid.mk' KW
        clear KP
        generalize dotN r = d at *
        go_wp2_with fail
        refine KW.out.mono ?_
        rintro e w1 ⟨rfl, hww⟩
        obtain rfl := hww.symm
        go_wp2_with go_big_skip
        go_ret
        exact ⟨by rw [E.out]; rfl, rfl⟩
      rw [← EW.out, hw, if_pos rfl] at KW
      have hwn : Hid (numD (wholeT r) (wholeT r).size = wholeN r) := Hid.mk' rfl
      rw [hwn.out, EW.out] at KW
      have KW := Hid.mk' KW
      have wn := wholeN_lt hw
      by_cases hd : dotN r = r.size
      · have E := Hid.mk' (numA_d hw hd)
        have d2 : ((dotN r : Int) == (r.size : Int)) = true := by rw [beq_iff_eq]; omega
        clear KP hd hw
        generalize wholeN r = n at *
        generalize dotN r = d at *
        go_wp2_with fail
        refine KW.out.mono ?_
        rintro e w1 ⟨rfl, hww⟩
        obtain rfl := hww.symm
        go_wp2_with go_big_skip
        go_ret
        exact ⟨by rw [E.out]; rfl, rfl⟩
      have d2 : ((dotN r : Int) == (r.size : Int)) = false := by rw [beq_eq_false_iff_ne]; omega
      have i3 : (dotN r : Int) + 1 ≤ (r.size : Int) := by omega
      have i4 : ((dotN r : Int) + 1).toNat = dotN r + 1 := by omega
      have i5 : (0 : Int) ≤ (dotN r : Int) + 1 := by omega
      cases hp : digOk (partT r) 3
      · have E := Hid.mk' (numA_p hw hd hp)
        rw [← EP.out, hp, EP.out] at KP
        have KP := Hid.mk' KP
        clear hd hw hp
        generalize wholeN r = n at *
        generalize dotN r = d at *
        go_wp2_with fail
        refine KW.out.mono ?_
        rintro e w1 ⟨rfl, hww⟩
        obtain rfl := hww.symm
        go_wp2_with fail
        refine KP.out.mono ?_
        rintro e w1 ⟨rfl, hww⟩
        obtain rfl := hww.symm
        go_wp2_with go_big_skip
        go_ret
        exact ⟨by rw [E.out]; rfl, rfl⟩
      rw [← EP.out, hp, if_pos rfl] at KP
      have hpn : Hid (numD (partT r) (partT r).size = partN r) := Hid.mk' rfl
      rw [hpn.out, EP.out] at KP
      have KP := Hid.mk' KP
      have sz := part_size r
      have pz : Hid (∀ f : Nat, f = (partT r).size → padP r = partN r * 10 ^ (3 - f)) := Hid.mk' (fun f hf => by rw [hf]; rfl)
      have cs := part_sizes hp
      have E0 : Hid (padP r % 250 = 0 → numA r = 4 * (wholeN r : Int) + (padP r / 250 : Nat)) := Hid.mk' (numA_q hw hd hp)
      have E1 : Hid (¬ padP r % 250 = 0 → numA r = -1) := Hid.mk' (numA_n hw hd hp)
      clear hw hp
      obtain ⟨f, hf, hf1, hf3, p0, pd⟩ : ∃ f : Nat, (r.size : Int) - (dotN r : Int) - 1 = (f : Int) ∧ 1 ≤ f ∧ f ≤ 3 ∧ partN r < 1000 ∧ padP r = partN r * 10 ^ (3 - f) := by
        rcases cs with ⟨a, b, c⟩ | ⟨a, b, c⟩ | ⟨a, b, c⟩
        · exact ⟨1, by omega, by omega, by omega, by omega, by rw [c]⟩
        · exact ⟨2, by omega, by omega, by omega, by omega, by rw [c]⟩
        · exact ⟨3, by omega, by omega, by omega, by omega, by rw [c]; simp⟩
      have pl : padP r < 1000 := by rcases cs with ⟨a, b, c⟩ | ⟨a, b, c⟩ | ⟨a, b, c⟩ <;> omega
      clear cs sz hd
      generalize wholeN r = n at *
      generalize partN r = m at *
      generalize padP r = g at *
      generalize dotN r = d at *
      go_wp2_with fail
      refine KW.out.mono ?_
      rintro e w1 ⟨rfl, hww⟩
      obtain rfl := hww.symm
      go_wp2_with fail
      refine KP.out.mono ?_
      rintro e w1 ⟨rfl, hww⟩
      obtain rfl := hww.symm
      go_wp2_with go_big_skip
      have PD := Hid.mk' pd
      clear pd
      go_loop [6, 7] (fun p i => ∃ k a : Nat, k ≤ 3 ∧ i = .int .i64 k ∧ p = .int .i64 (a : Int) ∧ a * 10 ^ (3 - k) = g) (fun _ i => 3 - (intOf i).toNat)
      case atStart => exact ⟨f, m, by omega, rfl, rfl, PD.out.symm⟩
      case round =>
        obtain ⟨k, a, hk, rfl, rfl, hg⟩ := hrel
        have hg' := Hid.mk' hg
        have ha : a ≤ g := by
          rw [← hg]
          exact Nat.le_mul_of_pos_right _ (Nat.pow_pos (by decide))
        clear hg
        by_cases c : k < 3
        · have ci : (k : Int) < 3 := by omega
          go_wp2_with go_big_skip
          go_round
          case rel => exact ⟨k + 1, 10 * a, by omega, by go_num, by go_num, by
            have := hg'.out
            rw [show 3 - k = (3 - (k + 1)) + 1 by omega, Nat.pow_succ] at this
            rw [← this, Nat.mul_comm 10 a, Nat.mul_assoc, Nat.mul_comm 10]⟩
          case measure => simp [intOf]; omega
        · have ci : ¬ (k : Int) < 3 := by omega
          have ek : k = 3 := by omega
          have ea : a = g := by have := hg'.out; rw [ek] at this; simpa using this
          subst ea
          clear ek c ha
          by_cases hz : a % 250 = 0
          · have E := Hid.mk' (E0.out hz)
            have hz1 : (((a : Int) % 250) == 0) = true := by rw [beq_iff_eq]; omega
            go_wp2_with go_big_skip
            go_ret
            exact ⟨by rw [E.out]; go_num, rfl⟩
          · have E := Hid.mk' (E1.out hz)
            have hz1 : (((a : Int) % 250) == 0) = false := by rw [beq_eq_false_iff_ne]; omega
            go_wp2_with go_big_skip
            go_ret
            exact ⟨by rw [E.out]; rfl, rfl⟩

end Go.Proofs.YthhdfbgjdfoalaaGreatDoor

/- MeasureOf: what it answers; the model's side. -/
namespace Go.Proofs.YthhdfbgjdfoalaaGreatDoor
open Go.RowKit
set_option linter.unusedVariables false
set_option linter.unusedSimpArgs false

/-- A minus ahead; what stands behind it. -/
def minusB (s : ByteArray) : Bool := decide (0 < s.size) && decide (byS s 0 = 45)
def restT (s : ByteArray) : ByteArray := if minusB s = true then s.extract 1 s.size else s
def nanB (s : ByteArray) : Bool := s.toList == [110, 97, 110]
def infB (s : ByteArray) : Bool := s.toList == [105, 110, 102]

/-- Whether a text is a measure, and its bits. -/
def moB (s : ByteArray) : Bool := nanB s || infB (restT s) || okR (restT s)
def moV (s : ByteArray) : Int := if nanB s = true then 9221120237041090560 else if infB (restT s) = true then signBits (minusB s) 9218868437227405312 else if okR (restT s) = true then signBits (minusB s) (wordQ (qR (restT s))) else 0
def moC (s : ByteArray) : Int := if moB s = true then 0 else 5

theorem mo_cases (s : ByteArray) : (nanB s = true ∧ moB s = true ∧ moV s = 9221120237041090560) ∨ (nanB s = false ∧ infB (restT s) = true ∧ moB s = true ∧ moV s = signBits (minusB s) 9218868437227405312) ∨ (nanB s = false ∧ infB (restT s) = false ∧ okR (restT s) = true ∧ moB s = true ∧ moV s = signBits (minusB s) (wordQ (qR (restT s)))) ∨ (nanB s = false ∧ infB (restT s) = false ∧ okR (restT s) = false ∧ moB s = false ∧ moV s = 0) := by
  unfold moB moV
  cases h1 : nanB s
  · cases h2 : infB (restT s)
    · cases h3 : okR (restT s)
      · simp
      · simp
    · simp
  · simp

theorem mo_bd (s : ByteArray) : -9223372036854775808 ≤ moV s ∧ moV s ≤ 9223372036854775807 := by
  rcases mo_cases s with ⟨_, _, e⟩ | ⟨_, _, _, e⟩ | ⟨_, _, h3, _, e⟩ | ⟨_, _, _, _, e⟩
  · rw [e]; omega
  · rw [e]; unfold signBits; split <;> omega
  · have := wordQ_lt _ (numA_ok h3).2
    rw [e]; unfold signBits; split <;> omega
  · rw [e]; omega

theorem rest_cases (s : ByteArray) : (minusB s = false ∧ restT s = s ∧ (s.size = 0 ∨ (0 < s.size ∧ byS s 0 ≠ 45))) ∨ (minusB s = true ∧ restT s = s.extract 1 s.size ∧ 0 < s.size ∧ byS s 0 = 45) := by
  unfold restT
  cases h : minusB s
  · refine .inl ⟨rfl, by simp, ?_⟩
    unfold minusB at h
    by_cases c : 0 < s.size
    · refine .inr ⟨c, ?_⟩
      rw [decide_eq_true c, Bool.true_and, decide_eq_false_iff_not] at h
      exact h
    · exact .inl (by omega)
  · refine .inr ⟨rfl, by simp, ?_⟩
    unfold minusB at h
    rw [Bool.and_eq_true, decide_eq_true_eq, decide_eq_true_eq] at h
    exact h

theorem rest_size (s : ByteArray) : (restT s).size ≤ s.size := by
  rcases rest_cases s with ⟨_, e, _⟩ | ⟨_, e, _⟩
  · rw [e]; exact Nat.le_refl _
  · rw [e, ext_size _ _ _ (Nat.le_refl _)]; omega

set_option maxRecDepth 100000 in
set_option maxHeartbeats 1600000 in
theorem l3Of_any (s : ByteArray) (w : World) (hs : (s.size : Int) ≤ 1048576) :
    Calls Tryz.prog 98 #[.string s] w fun e w' => e = .returned (.tuple #[.int .i64 (moV s), .bool (moB s)]) ∧ w' = w := by
  have KN := l3Number_any (restT s) w (by have := rest_size s; omega)
  rcases mo_cases s with ⟨h1, e2, e3⟩ | ⟨h1, h2, e2, e3⟩ | ⟨h1, h2, h3, e2, e3⟩ | ⟨h1, h2, h3, e2, e3⟩
  · rw [e2, e3]
    have hn : (s.toList == [110, 97, 110]) = true := h1
    clear KN h1 e2 e3
    go_enter Tryz.func98, Tryz.ntmps98
    go_wp2
    go_ret2
    exact ⟨rfl, rfl⟩
  · have hn : (s.toList == [110, 97, 110]) = false := h1
    rw [e2, e3]
    clear h1 e2 e3
    have KS := l3Sign_any (minusB s) 9218868437227405312 w (by omega)
    clear KN
    obtain ⟨R, hR⟩ : ∃ R, signBits (minusB s) 9218868437227405312 = R := ⟨_, rfl⟩
    rw [hR] at KS ⊢
    clear hR
    have hi := h2
    clear h2
    obtain ⟨M, hM⟩ : ∃ M, M = minusB s := ⟨_, rfl⟩
    obtain ⟨T, hT⟩ : ∃ T, T = restT s := ⟨_, rfl⟩
    have three : (s.size = 0 ∧ M = false ∧ T = s) ∨ (0 < s.size ∧ byS s 0 ≠ 45 ∧ M = false ∧ T = s) ∨ (0 < s.size ∧ byS s 0 = 45 ∧ M = true ∧ T = s.extract 1 s.size) := by
      rw [hM, hT]
      rcases rest_cases s with ⟨x1, x2, x3 | x3⟩ | ⟨x1, x2, x3, x4⟩
      · exact .inl ⟨x3, x1, x2⟩
      · exact .inr (.inl ⟨x3.1, x3.2, x1, x2⟩)
      · exact .inr (.inr ⟨x3, x4, x1, x2⟩)
    rw [← hT] at hi
    unfold infB at hi
    rw [← hM] at KS
    clear hM hT
    rcases three with ⟨t0, t2, t3⟩ | ⟨t0, t1, t2, t3⟩ | ⟨t0, t1, t2, t3⟩
    · have c0 : ¬ (s.size : Int) > 0 := by omega
      subst t2 t3
      replace KS := Hid.mk' KS
      clear t0
      go_enter Tryz.func98, Tryz.ntmps98
      go_wp2_with fail
      refine KS.out.mono ?_
      rintro e w1 ⟨rfl, hww⟩
      obtain rfl := hww.symm
      go_wp2
      go_ret2
      exact ⟨rfl, rfl⟩
    · have c0 : (s.size : Int) > 0 := by omega
      have b0 := byS_is (s := s) (k := 0) (by omega)
      have q0 : ((byS s 0 : Int) == 45) = false := by rw [beq_eq_false_iff_ne]; omega
      subst t2 t3
      replace KS := Hid.mk' KS
      clear t1
      go_enter Tryz.func98, Tryz.ntmps98
      go_wp2_with fail
      refine KS.out.mono ?_
      rintro e w1 ⟨rfl, hww⟩
      obtain rfl := hww.symm
      go_wp2
      go_ret2
      exact ⟨rfl, rfl⟩
    · have c0 : (s.size : Int) > 0 := by omega
      have b0 := byS_is (s := s) (k := 0) (by omega)
      have q0 : ((byS s 0 : Int) == 45) = true := by rw [beq_iff_eq]; omega
      have i1 : (1 : Int) ≤ (s.size : Int) := by omega
      subst t2 t3
      replace KS := Hid.mk' KS
      clear t1
      go_enter Tryz.func98, Tryz.ntmps98
      go_wp2_with fail
      refine KS.out.mono ?_
      rintro e w1 ⟨rfl, hww⟩
      obtain rfl := hww.symm
      go_wp2
      go_ret2
      exact ⟨rfl, rfl⟩
  · have hn : (s.toList == [110, 97, 110]) = false := h1
    rw [e2, e3]
    clear h1 e2 e3
    obtain ⟨a1, a2⟩ := numA_ok h3
    have wl := wordQ_lt _ a2
    rw [a1] at KN
    have KB := Hid.mk' (l3Bits_any (qR (restT s)) w a2)
    have KS := l3Sign_any (minusB s) (wordQ (qR (restT s))) w (by omega)
    have qp : ¬ ((qR (restT s) : Int) < 0) := by omega
    clear a1 a2 h3
    generalize wordQ (qR (restT s)) = W at *
    generalize qR (restT s) = Q at *
    obtain ⟨R, hR⟩ : ∃ R, signBits (minusB s) W = R := ⟨_, rfl⟩
    rw [hR] at KS ⊢
    clear hR
    have hi := h2
    clear h2
    obtain ⟨M, hM⟩ : ∃ M, M = minusB s := ⟨_, rfl⟩
    obtain ⟨T, hT⟩ : ∃ T, T = restT s := ⟨_, rfl⟩
    have three : (s.size = 0 ∧ M = false ∧ T = s) ∨ (0 < s.size ∧ byS s 0 ≠ 45 ∧ M = false ∧ T = s) ∨ (0 < s.size ∧ byS s 0 = 45 ∧ M = true ∧ T = s.extract 1 s.size) := by
      rw [hM, hT]
      rcases rest_cases s with ⟨x1, x2, x3 | x3⟩ | ⟨x1, x2, x3, x4⟩
      · exact .inl ⟨x3, x1, x2⟩
      · exact .inr (.inl ⟨x3.1, x3.2, x1, x2⟩)
      · exact .inr (.inr ⟨x3, x4, x1, x2⟩)
    rw [← hT] at hi
    unfold infB at hi
    rw [← hT] at KN
    rw [← hM] at KS
    clear hM hT
    rcases three with ⟨t0, t2, t3⟩ | ⟨t0, t1, t2, t3⟩ | ⟨t0, t1, t2, t3⟩
    · have c0 : ¬ (s.size : Int) > 0 := by omega
      subst t2 t3
      replace KN := Hid.mk' KN
      replace KS := Hid.mk' KS
      clear t0
      go_enter Tryz.func98, Tryz.ntmps98
      go_wp2_with fail
      refine KN.out.mono ?_
      rintro e w1 ⟨rfl, hww⟩
      obtain rfl := hww.symm
      go_wp2_with fail
      refine KB.out.mono ?_
      rintro e w1 ⟨rfl, hww⟩
      obtain rfl := hww.symm
      go_wp2_with fail
      refine KS.out.mono ?_
      rintro e w1 ⟨rfl, hww⟩
      obtain rfl := hww.symm
      go_wp2
      go_ret2
      exact ⟨rfl, rfl⟩
    · have c0 : (s.size : Int) > 0 := by omega
      have b0 := byS_is (s := s) (k := 0) (by omega)
      have q0 : ((byS s 0 : Int) == 45) = false := by rw [beq_eq_false_iff_ne]; omega
      subst t2 t3
      replace KN := Hid.mk' KN
      replace KS := Hid.mk' KS
      clear t1
      go_enter Tryz.func98, Tryz.ntmps98
      go_wp2_with fail
      refine KN.out.mono ?_
      rintro e w1 ⟨rfl, hww⟩
      obtain rfl := hww.symm
      go_wp2_with fail
      refine KB.out.mono ?_
      rintro e w1 ⟨rfl, hww⟩
      obtain rfl := hww.symm
      go_wp2_with fail
      refine KS.out.mono ?_
      rintro e w1 ⟨rfl, hww⟩
      obtain rfl := hww.symm
      go_wp2
      go_ret2
      exact ⟨rfl, rfl⟩
    · have c0 : (s.size : Int) > 0 := by omega
      have b0 := byS_is (s := s) (k := 0) (by omega)
      have q0 : ((byS s 0 : Int) == 45) = true := by rw [beq_iff_eq]; omega
      have i1 : (1 : Int) ≤ (s.size : Int) := by omega
      subst t2 t3
      replace KN := Hid.mk' KN
      replace KS := Hid.mk' KS
      clear t1
      go_enter Tryz.func98, Tryz.ntmps98
      go_wp2_with fail
      refine KN.out.mono ?_
      rintro e w1 ⟨rfl, hww⟩
      obtain rfl := hww.symm
      go_wp2_with fail
      refine KB.out.mono ?_
      rintro e w1 ⟨rfl, hww⟩
      obtain rfl := hww.symm
      go_wp2_with fail
      refine KS.out.mono ?_
      rintro e w1 ⟨rfl, hww⟩
      obtain rfl := hww.symm
      go_wp2
      go_ret2
      exact ⟨rfl, rfl⟩
  · have hn : (s.toList == [110, 97, 110]) = false := h1
    rw [e2, e3]
    clear h1 e2 e3
    have qp := numA_bad h3
    clear h3
    generalize numA (restT s) = Q at *
    have hi := h2
    clear h2
    obtain ⟨M, hM⟩ : ∃ M, M = minusB s := ⟨_, rfl⟩
    obtain ⟨T, hT⟩ : ∃ T, T = restT s := ⟨_, rfl⟩
    have three : (s.size = 0 ∧ M = false ∧ T = s) ∨ (0 < s.size ∧ byS s 0 ≠ 45 ∧ M = false ∧ T = s) ∨ (0 < s.size ∧ byS s 0 = 45 ∧ M = true ∧ T = s.extract 1 s.size) := by
      rw [hM, hT]
      rcases rest_cases s with ⟨x1, x2, x3 | x3⟩ | ⟨x1, x2, x3, x4⟩
      · exact .inl ⟨x3, x1, x2⟩
      · exact .inr (.inl ⟨x3.1, x3.2, x1, x2⟩)
      · exact .inr (.inr ⟨x3, x4, x1, x2⟩)
    rw [← hT] at hi
    unfold infB at hi
    rw [← hT] at KN
    clear hM hT
    rcases three with ⟨t0, t2, t3⟩ | ⟨t0, t1, t2, t3⟩ | ⟨t0, t1, t2, t3⟩
    · have c0 : ¬ (s.size : Int) > 0 := by omega
      subst t2 t3
      replace KN := Hid.mk' KN
      clear t0
      go_enter Tryz.func98, Tryz.ntmps98
      go_wp2_with fail
      refine KN.out.mono ?_
      rintro e w1 ⟨rfl, hww⟩
      obtain rfl := hww.symm
      go_wp2
      go_ret2
      exact ⟨rfl, rfl⟩
    · have c0 : (s.size : Int) > 0 := by omega
      have b0 := byS_is (s := s) (k := 0) (by omega)
      have q0 : ((byS s 0 : Int) == 45) = false := by rw [beq_eq_false_iff_ne]; omega
      subst t2 t3
      replace KN := Hid.mk' KN
      clear t1
      go_enter Tryz.func98, Tryz.ntmps98
      go_wp2_with fail
      refine KN.out.mono ?_
      rintro e w1 ⟨rfl, hww⟩
      obtain rfl := hww.symm
      go_wp2
      go_ret2
      exact ⟨rfl, rfl⟩
    · have c0 : (s.size : Int) > 0 := by omega
      have b0 := byS_is (s := s) (k := 0) (by omega)
      have q0 : ((byS s 0 : Int) == 45) = true := by rw [beq_iff_eq]; omega
      have i1 : (1 : Int) ≤ (s.size : Int) := by omega
      subst t2 t3
      replace KN := Hid.mk' KN
      clear t1
      go_enter Tryz.func98, Tryz.ntmps98
      go_wp2_with fail
      refine KN.out.mono ?_
      rintro e w1 ⟨rfl, hww⟩
      obtain rfl := hww.symm
      go_wp2
      go_ret2
      exact ⟨rfl, rfl⟩

end Go.Proofs.YthhdfbgjdfoalaaGreatDoor

/- No text that begins with a digit is a special one. -/
namespace Go.Proofs.YthhdfbgjdfoalaaGreatDoor
open Go.RowKit
set_option linter.unusedVariables false
set_option linter.unusedSimpArgs false

set_option maxRecDepth 100000 in
set_option maxHeartbeats 1600000 in
theorem special_any (s : ByteArray) (w : World) (hd : isDec s) :
    Calls Tryz.prog 260 #[.string s] w fun e w' => e = .returned (.tuple #[.float .f64 0, .int .i64 0, .bool false]) ∧ w' = w := by
  have n8 := hd.2.1
  have n0 := hd.1
  have b0 := byS_is (s := s) (k := 0) (by omega)
  have hse : ¬ s = ByteArray.empty := by rintro rfl; simp at n0
  have hsz : ¬ s.size = 0 := by omega
  have hz : ((s.size : Int) == 0) = false := by rw [beq_eq_false_iff_ne]; omega
  have p1 : (0 : Int) < (s.size : Int) := by omega
  have hc := hd.2.2.1
  have q1 : ((byS s 0 : Int) == 43) = false := by rw [beq_eq_false_iff_ne]; omega
  have q2 : ((byS s 0 : Int) == 45) = false := by rw [beq_eq_false_iff_ne]; omega
  have q3 : ((byS s 0 : Int) == 105) = false := by rw [beq_eq_false_iff_ne]; omega
  have q4 : ((byS s 0 : Int) == 73) = false := by rw [beq_eq_false_iff_ne]; omega
  have q5 : ((byS s 0 : Int) == 110) = false := by rw [beq_eq_false_iff_ne]; omega
  have q6 : ((byS s 0 : Int) == 78) = false := by rw [beq_eq_false_iff_ne]; omega
  clear hc
  go_enter Tryz.func260, Tryz.ntmps260
  go_wp2
  go_ret3
  exact ⟨rfl, rfl⟩

end Go.Proofs.YthhdfbgjdfoalaaGreatDoor

/- A whole number over a power of ten, as the program's library has it. -/
namespace Go.Proofs.YthhdfbgjdfoalaaGreatDoor
open Go.RowKit
open Ieee
set_option linter.unusedVariables false
set_option linter.unusedSimpArgs false

set_option maxHeartbeats 1600000 in
theorem exact_zero (m : Nat) (w : World) (hm : m < 4503599627370496) (h7 : w.cell? ⟨10, 0, none⟩ = some (.int .u64 52)) :
    Calls Tryz.prog 271 #[.int .u64 m, .int .i64 0, .bool false] w fun e w' => e = .returned (.tuple #[.float .f64 (double.nearest false m 0), .bool true]) ∧ w' = w := by
  have hf := float_nat m
  have hz : (m : Int) / 4503599627370496 = 0 := by omega
  generalize double.nearest false m 0 = F at *
  go_enter Tryz.func271, Tryz.ntmps271
  go_wp2
  go_ret2
  exact ⟨rfl, rfl⟩

set_option maxHeartbeats 1600000 in
theorem exact_over (m j D word g o c : Nat) (w : World) (hm : m < 4503599627370496) (h7 : w.cell? ⟨10, 0, none⟩ = some (.int .u64 52)) (hj : 1 ≤ j) (hj2 : j ≤ 3)
    (ht : w.cell? ⟨15, 0, none⟩ = some (.slice (some ⟨g, o, none⟩) 23 c)) (hc : w.cell? ⟨g, o + j, none⟩ = some (.float .f64 (double.nearest false D 0))) (hd : double.div (double.nearest false m 0) (double.nearest false D 0) = some word) :
    Calls Tryz.prog 271 #[.int .u64 m, .int .i64 (-(j : Int)), .bool false] w fun e w' => e = .returned (.tuple #[.float .f64 word, .bool true]) ∧ w' = w := by
  have hf := float_nat m
  have hz : (m : Int) / 4503599627370496 = 0 := by omega
  have e1 : (-(j : Int) == 0) = false := by rw [beq_eq_false_iff_ne]; omega
  have e2 : ¬ -(j : Int) > 0 := by omega
  have e3 : -(j : Int) < 0 := by omega
  have e4 : -(j : Int) ≥ -22 := by omega
  have e5 : - -(j : Int) = j := by omega
  have e6 : (j : Int) < 23 := by omega
  have HQ : ∀ W : World, (binOp .quo 159 (.float .f64 (double.nearest false m 0)) (.float .f64 (double.nearest false D 0))).run Tryz.prog W = .ok (.float .f64 word) W := fun W => run_float_arith W _ _ _ _ _ _ hd
  clear hd
  generalize double.nearest false m 0 = F at *
  generalize double.nearest false D 0 = P at *
  go_enter Tryz.func271, Tryz.ntmps271
  go_wp2
  go_ret2
  exact ⟨rfl, rfl⟩

end Go.Proofs.YthhdfbgjdfoalaaGreatDoor

/- ParseFloat at a text of digits with at most one point. -/
namespace Go.Proofs.YthhdfbgjdfoalaaGreatDoor
open Go.RowKit
set_option linter.unusedVariables false
set_option linter.unusedSimpArgs false

/-- The power of ten that readFloat tells. -/
def rfX (s : ByteArray) : Int := if rfM s s.size = 0 then 0 else if rfD s s.size = true then -(rfF s s.size : Int) else 0

theorem rfX_bd (s : ByteArray) (hd : isDec s) : -8 ≤ rfX s ∧ rfX s ≤ 0 := by
  have h1 := rfF_le s s.size
  have h2 := hd.2.1
  unfold rfX
  split
  · omega
  · split <;> omega

@[go_sem] theorem run_fromI (n : Int) (w : World) : (callFunc 270 #[.int .u64 n]).run Tryz.prog w = .ok (.value (.float .f64 n.toNat)) w := by
  rw [run_callFunc_extern Tryz.func270 (by kernel_rfl) (by kernel_rfl) (by kernel_rfl) (e := Extern.MathFloatBits.float64frombits) (by kernel_rfl)]
  rfl

set_option maxRecDepth 100000 in
set_option maxHeartbeats 3200000 in
theorem atof64_pos (s : ByteArray) (word : Nat) (w : World) (hd : isDec s) (hM : rfM s s.size ≠ 0) (ho : w.cell? ⟨3, 0, none⟩ = some (.bool true))
    (KE : Calls Tryz.prog 271 #[.int .u64 (rfM s s.size), .int .i64 (rfX s), .bool false] w fun e w' => e = .returned (.tuple #[.float .f64 word, .bool true]) ∧ w' = w) :
    Calls Tryz.prog 235 #[.string s] w fun e w' => e = .returned (.tuple #[.float .f64 word, .int .i64 s.size, .nilIface]) ∧ w' = w := by
  have KS := Hid.mk' (special_any s w hd)
  have KR : Hid (Calls Tryz.prog 261 #[.string s] w fun e w' => e = .returned (.tuple #[.int .u64 (rfM s s.size), .int .i64 (rfX s), .bool false, .bool false, .bool false, .int .i64 s.size, .bool true]) ∧ w' = w) := Hid.mk' (readFloat_any s w hd)
  have KB := Hid.mk' (bool2u_any false w)
  have n8 := hd.2.1
  have KX := Hid.mk' KE
  obtain ⟨x1, x2⟩ := rfX_bd s hd
  have y1 : ((rfM s s.size : Int) == 0) = false := by rw [beq_eq_false_iff_ne]; omega
  have y2 : ¬ rfX s > 310 := by omega
  have y3 : ¬ rfX s < -345 := by omega
  clear KE hd hM
  generalize rfM s s.size = M at *
  generalize rfX s = X at *
  go_enter Tryz.func235, Tryz.ntmps235
  go_wp2_with fail
  refine KS.out.mono ?_
  rintro e w1 ⟨rfl, hw⟩
  obtain rfl := hw.symm
  go_wp2_with fail
  refine KR.out.mono ?_
  rintro e w1 ⟨rfl, hw⟩
  obtain rfl := hw.symm
  go_wp2_with fail
  refine KB.out.mono ?_
  rintro e w1 ⟨rfl, hw⟩
  obtain rfl := hw.symm
  go_wp2_with fail
  refine KX.out.mono ?_
  rintro e w1 ⟨rfl, hw⟩
  obtain rfl := hw.symm
  go_wp2
  go_ret3
  exact ⟨rfl, rfl⟩

set_option maxRecDepth 100000 in
set_option maxHeartbeats 3200000 in
theorem atof64_zero (s : ByteArray) (w : World) (hd : isDec s) (hM : rfM s s.size = 0) (ho : w.cell? ⟨3, 0, none⟩ = some (.bool true)) :
    Calls Tryz.prog 235 #[.string s] w fun e w' => e = .returned (.tuple #[.float .f64 0, .int .i64 s.size, .nilIface]) ∧ w' = w := by
  have KS := Hid.mk' (special_any s w hd)
  have KR : Hid (Calls Tryz.prog 261 #[.string s] w fun e w' => e = .returned (.tuple #[.int .u64 (rfM s s.size), .int .i64 (rfX s), .bool false, .bool false, .bool false, .int .i64 s.size, .bool true]) ∧ w' = w) := Hid.mk' (readFloat_any s w hd)
  rw [hM] at KR
  have KB := Hid.mk' (bool2u_any false w)
  have n8 := hd.2.1
  have hz : bits .or .u64 0 0 = 0 := by decide
  clear hd hM
  generalize rfX s = X at *
  go_enter Tryz.func235, Tryz.ntmps235
  go_wp2_with fail
  refine KS.out.mono ?_
  rintro e w1 ⟨rfl, hw⟩
  obtain rfl := hw.symm
  go_wp2_with fail
  refine KR.out.mono ?_
  rintro e w1 ⟨rfl, hw⟩
  obtain rfl := hw.symm
  go_wp2_with fail
  refine KB.out.mono ?_
  rintro e w1 ⟨rfl, hw⟩
  obtain rfl := hw.symm
  go_wp2
  go_ret3
  exact ⟨rfl, rfl⟩

theorem prefix_any (s : ByteArray) (word : Nat) (w : World) (KA : Calls Tryz.prog 235 #[.string s] w fun e w' => e = .returned (.tuple #[.float .f64 word, .int .i64 s.size, .nilIface]) ∧ w' = w) :
    Calls Tryz.prog 208 #[.string s, .int .i64 64] w fun e w' => e = .returned (.tuple #[.float .f64 word, .int .i64 s.size, .nilIface]) ∧ w' = w := by
  have KA := Hid.mk' KA
  go_enter Tryz.func208, Tryz.ntmps208
  go_wp2_with fail
  refine KA.out.mono ?_
  rintro e w1 ⟨rfl, hw⟩
  obtain rfl := hw.symm
  go_wp2
  go_ret3
  exact ⟨rfl, rfl⟩

theorem parseI_any (s : ByteArray) (word : Nat) (w : World) (hs : s.size ≤ 8) (KA : Calls Tryz.prog 235 #[.string s] w fun e w' => e = .returned (.tuple #[.float .f64 word, .int .i64 s.size, .nilIface]) ∧ w' = w) :
    Calls Tryz.prog 191 #[.string s, .int .i64 64] w fun e w' => e = .returned (.tuple #[.float .f64 word, .nilIface]) ∧ w' = w := by
  have KA := Hid.mk' (prefix_any s word w KA)
  go_enter Tryz.func191, Tryz.ntmps191
  go_wp2_with fail
  refine KA.out.mono ?_
  rintro e w1 ⟨rfl, hw⟩
  obtain rfl := hw.symm
  go_wp2
  go_ret2
  exact ⟨rfl, rfl⟩

/-- strconv.ParseFloat(s, 64). -/
theorem parse_any (s : ByteArray) (word : Nat) (w : World) (hs : s.size ≤ 8) (KA : Calls Tryz.prog 235 #[.string s] w fun e w' => e = .returned (.tuple #[.float .f64 word, .int .i64 s.size, .nilIface]) ∧ w' = w) :
    Calls Tryz.prog 163 #[.string s, .int .i64 64] w fun e w' => e = .returned (.tuple #[.float .f64 word, .nilIface]) ∧ w' = w := by
  have KA := Hid.mk' (parseI_any s word w hs KA)
  go_enter Tryz.func163, Tryz.ntmps163
  go_wp2_with fail
  refine KA.out.mono ?_
  rintro e w1 ⟨rfl, hw⟩
  obtain rfl := hw.symm
  go_wp2
  go_ret2
  exact ⟨rfl, rfl⟩

end Go.Proofs.YthhdfbgjdfoalaaGreatDoor

/- MeasureOf: the program's side. -/
namespace Go.Proofs.YthhdfbgjdfoalaaGreatDoor
open Go.RowKit
open Ieee
set_option linter.unusedVariables false
set_option linter.unusedSimpArgs false

set_option maxHeartbeats 800000 in
theorem areDigits_any (t : ByteArray) (most : Nat) (w : World) (hm : most ≤ 4) (hs : (t.size : Int) ≤ 9223372036854775807) :
    Calls Tryz.prog 162 #[.string t, .int .i64 most] w fun e w' => e = .returned (.bool (digOk t most)) ∧ w' = w := by
  by_cases h1 : t.size < 1
  · rw [digOk_none h1]
    have c1 : (t.size : Int) < 1 := by omega
    go_enter Tryz.func162, Tryz.ntmps162
    go_wp2_with go_big_skip
    go_ret
    exact ⟨rfl, rfl⟩
  have c1 : ¬ (t.size : Int) < 1 := by omega
  by_cases h2 : most < t.size
  · rw [digOk_many h2]
    have c2 : (t.size : Int) > (most : Int) := by omega
    go_enter Tryz.func162, Tryz.ntmps162
    go_wp2_with go_big_skip
    go_ret
    exact ⟨rfl, rfl⟩
  have c2 : ¬ (t.size : Int) > (most : Int) := by omega
  go_enter Tryz.func162, Tryz.ntmps162
  go_wp2_with go_big_skip
  go_loop [17] (fun i => ∃ k : Nat, k ≤ t.size ∧ i = .int .i64 k ∧ allD t k = true) (fun i => t.size - (intOf i).toNat)
  case atStart => exact ⟨0, Nat.zero_le _, rfl, rfl⟩
  case round =>
    obtain ⟨k, hk, rfl, hall⟩ := hrel
    have HA := Hid.mk' hall
    clear hall c1 c2
    by_cases hlt : k < t.size
    · have ci : (k : Int) < (t.size : Int) := by omega
      have hc := byS_is hlt
      have HB : Hid (¬ (48 ≤ byS t k ∧ byS t k ≤ 57) → digOk t most = false) := Hid.mk' (fun h => digOk_bad hlt h)
      have HN : Hid (48 ≤ byS t k ∧ byS t k ≤ 57 → allD t (k + 1) = true) := Hid.mk' (fun h => allD_next HA.out h)
      generalize byS t k = c at *
      by_cases b1 : c < 48
      · have d1 : (c : Int) < 48 := by omega
        have E := Hid.mk' (HB.out (by omega))
        go_wp2_with go_big_skip
        go_ret
        exact ⟨by rw [E.out]; rfl, rfl⟩
      · have d1 : ¬ (c : Int) < 48 := by omega
        by_cases b2 : 57 < c
        · have d2 : (c : Int) > 57 := by omega
          have E := Hid.mk' (HB.out (by omega))
          go_wp2_with go_big_skip
          go_ret
          exact ⟨by rw [E.out]; rfl, rfl⟩
        · have d2 : ¬ (c : Int) > 57 := by omega
          have E := Hid.mk' (HN.out (by omega))
          go_wp2_with go_big_skip
          go_round
          case rel => exact ⟨k + 1, by omega, by go_num, E.out⟩
          case measure => simp [intOf]; omega
    · have ci : ¬ (k : Int) < (t.size : Int) := by omega
      have e : k = t.size := by omega
      subst e
      have E : Hid (digOk t most = true) := Hid.mk' (digOk_iff.2 ⟨by omega, by omega, HA.out⟩)
      go_wp2_with go_big_skip
      go_ret
      exact ⟨by rw [E.out]; rfl, rfl⟩

theorem data_len (s : ByteArray) : s.data.toList.length = s.size := by rw [Array.length_toList]; rfl

theorem byS_list (s : ByteArray) (k : Nat) : byS s k = (s.data.toList.getD k 0).toNat := by
  unfold byS
  by_cases h : k < s.size
  · have h' : k < s.data.toList.length := by rw [data_len]; exact h
    rw [dif_pos h, List.getD_eq_getElem?_getD, List.getElem?_eq_getElem h']
    simp
    rfl
  · have h' : ¬ k < s.data.toList.length := by rw [data_len]; exact h
    rw [dif_neg h, List.getD_eq_getElem?_getD, List.getElem?_eq_none (by omega)]
    rfl

theorem index_at : ∀ (L : List UInt8) (k : Nat), k < L.length → (∀ j, j < k → (L.getD j 0).toNat ≠ 46) → (L.getD k 0).toNat = 46 → Lib.indexByte L 46 = (k : Int)
  | [], _, h, _, _ => absurd h (Nat.not_lt_zero _)
  | c :: r, 0, _, _, e => by
    have : c = 46 := UInt8.toNat_inj.1 (by simpa using e)
    unfold Lib.indexByte
    rw [if_pos (by simpa using this)]; rfl
  | c :: r, k + 1, h, hn, e => by
    have h0 : ¬ c = 46 := fun h => hn 0 (by omega) (by rw [h]; rfl)
    have ih := index_at r k (by simpa using h) (fun j hj => by simpa using hn (j + 1) (by omega)) (by simpa using e)
    unfold Lib.indexByte
    rw [if_neg (by simpa using h0), ih, if_neg (by rw [beq_iff_eq]; omega)]
    omega

theorem index_no : ∀ (L : List UInt8), (∀ j, j < L.length → (L.getD j 0).toNat ≠ 46) → Lib.indexByte L 46 = -1
  | [], _ => rfl
  | c :: r, hn => by
    have h0 : ¬ c = 46 := fun h => hn 0 (by simp) (by rw [h]; rfl)
    have ih := index_no r (fun j hj => by simpa using hn (j + 1) (by simpa using hj))
    unfold Lib.indexByte
    rw [if_neg (by simpa using h0), ih]; rfl

theorem index_dot (s : ByteArray) : Lib.indexByte s.data.toList 46 = if dotN s < s.size then (dotN s : Int) else -1 := by
  have hl := data_len s
  by_cases h : dotN s < s.size
  · rw [if_pos h]
    exact index_at _ _ (by omega) (fun j hj => by rw [← byS_list]; exact no_dot_ahead hj) (by rw [← byS_list]; exact dot_at h)
  · rw [if_neg h]
    have := dotN_le s
    exact index_no _ (fun j hj => by rw [← byS_list]; exact no_dot_ahead (by omega))

/-- What strings.Cut answers at a point. -/
def cutV (s : ByteArray) : Array Value := if dotN s < s.size then #[.string (wholeT s), .string (partT s), .bool true] else #[.string s, .string ⟨#[]⟩, .bool false]

set_option maxHeartbeats 400000 in
theorem cutLiteD_any (s : ByteArray) (w : World) (hs : (s.size : Int) ≤ 1048576) :
    Calls Tryz.prog 190 #[.string s, .string ⟨#[46]⟩] w fun e w' => e = .returned (.tuple (cutV s)) ∧ Below w.heap.size w w' := by
  have K := Tryz.stringslite_Index_one s 46 w
  rw [index_dot] at K
  have t1 : (⟨#[46]⟩ : ByteArray).size = 1 := rfl
  unfold cutV
  have EW : wholeT s = s.extract 0 (dotN s) := rfl
  have EP : partT s = s.extract (dotN s + 1) s.size := rfl
  rw [EW, EP]
  clear EW EP
  by_cases h : dotN s < s.size
  · rw [if_pos h] at K ⊢
    have K := Hid.mk' K
    generalize dotN s = k at *
    have i1 : (0 : Int) ≤ (k : Int) := by omega
    have i2 : (k : Int) ≤ (s.size : Int) := by omega
    have i3 : (0 : Int) ≤ (k : Int) + 1 := by omega
    have i4 : (k : Int) + 1 ≤ (s.size : Int) := by omega
    have i5 : ((k : Int) + 1).toNat = k + 1 := by omega
    have iw : IntKind.i64.wrap ((k : Int) + 1) = (k : Int) + 1 := by rw [IntKind.wrap_i64]; omega
    go_enter Tryz.func190, Tryz.ntmps190
    go_wp2_with fail
    refine K.out.mono ?_
    rintro e w1 ⟨rfl, hw⟩
    obtain rfl := hw.symm
    go_wp2
    go_quiet (fail)
    go_wp2
    exact bodyPost_ret (v := .tuple #[.string (s.extract 0 k), .string (s.extract (k + 1) s.size), .bool true]) (by simp [results, Tryz.results190, go_sem]) rfl ⟨rfl, below_drewN (Below.refl _ _) _⟩
  · rw [if_neg h] at K ⊢
    have K := Hid.mk' K
    go_enter Tryz.func190, Tryz.ntmps190
    go_wp2_with fail
    refine K.out.mono ?_
    rintro e w1 ⟨rfl, hw⟩
    obtain rfl := hw.symm
    go_wp2
    exact bodyPost_ret (v := .tuple #[.string s, .string ⟨#[]⟩, .bool false]) (by simp [results, Tryz.results190, go_sem]) rfl ⟨rfl, Below.refl _ _⟩

theorem cutD_any (s : ByteArray) (w : World) (hs : (s.size : Int) ≤ 1048576) :
    Calls Tryz.prog 161 #[.string s, .string ⟨#[46]⟩] w fun e w' => e = .returned (.tuple (cutV s)) ∧ Below w.heap.size w w' := by
  have K := cutLiteD_any s w hs
  unfold cutV at K ⊢
  by_cases h : dotN s < s.size
  · rw [if_pos h] at K ⊢
    have K := Hid.mk' K
    go_enter Tryz.func161, Tryz.ntmps161
    go_wp2_with fail
    refine K.out.mono ?_
    rintro e w1 ⟨rfl, hb⟩
    have HB := Hid.mk' hb
    clear hb
    go_wp2
    exact bodyPost_ret (v := .tuple #[.string (wholeT s), .string (partT s), .bool true]) (by simp [results, Tryz.results161, go_sem]) rfl ⟨rfl, HB.out⟩
  · rw [if_neg h] at K ⊢
    have K := Hid.mk' K
    go_enter Tryz.func161, Tryz.ntmps161
    go_wp2_with fail
    refine K.out.mono ?_
    rintro e w1 ⟨rfl, hb⟩
    have HB := Hid.mk' hb
    clear hb
    go_wp2
    exact bodyPost_ret (v := .tuple #[.string s, .string ⟨#[]⟩, .bool false]) (by simp [results, Tryz.results161, go_sem]) rfl ⟨rfl, HB.out⟩

theorem inf_any (w : World) : Calls Tryz.prog 160 #[.int .i64 1] w fun e w' => e = .returned (.float .f64 9218868437227405312) ∧ w' = w := by
  go_enter Tryz.func160, Tryz.ntmps160
  go_wp2
  go_ret
  exact ⟨rfl, rfl⟩

/-- The tables that ParseFloat reads. -/
def PW (w : World) : Prop := ∃ g o c, w.cell? ⟨15, 0, none⟩ = some (.slice (some ⟨g, o, none⟩) 23 c) ∧ ∀ j, 1 ≤ j → j ≤ 3 → w.cell? ⟨g, o + j, none⟩ = some (.float .f64 (double.nearest false (10 ^ j) 0))
def TBL (w : World) : Prop := w.cell? ⟨10, 0, none⟩ = some (.int .u64 52) ∧ w.cell? ⟨3, 0, none⟩ = some (.bool true) ∧ PW w

theorem cell_in {w : World} {a : Addr} {v : Value} (h : w.cell? a = some v) : a.block < w.heap.size := by
  refine Nat.lt_of_not_le fun hn => ?_
  have : w.heap[a.block]? = none := Array.getElem?_eq_none hn
  simp [World.cell?, this] at h

theorem TBL.below {w w' : World} (h : TBL w) (hb : Below w.heap.size w w') : TBL w' := by
  obtain ⟨h1, h2, g, o, c, h3, h4⟩ := h
  exact ⟨(hb.cell (cell_in h1)).trans h1, (hb.cell (cell_in h2)).trans h2, g, o, c, (hb.cell (cell_in h3)).trans h3, fun j j1 j2 => (hb.cell (cell_in (h4 j j1 j2))).trans (h4 j j1 j2)⟩

theorem okR_looks {r : ByteArray} (h : looks r) : okR r = (decide (dotN r = r.size) || decide (padP r % 250 = 0)) := by
  unfold okR
  rw [h.1, Bool.true_and]
  rcases h.2 with c | c
  · rw [decide_eq_true c]; simp
  · rw [c, Bool.true_and]

set_option maxHeartbeats 1600000 in
theorem parse_looks (r : ByteArray) (h : looks r) (w : World) (t : TBL w) :
    ∃ word : Nat, word < 9218868437227405312 ∧ quarters word = (if okR r = true then (qR r : Int) else -1) ∧ (okR r = true → word = wordQ (qR r)) ∧
      Calls Tryz.prog 163 #[.string r, .int .i64 64] w fun e w' => e = .returned (.tuple #[.float .f64 word, .nilIface]) ∧ w' = w := by
  have hd := looks_dec h
  have h8 := hd.2.1
  obtain ⟨t1, t2, g, o, c, t3, t4⟩ := t
  have wn := wholeN_lt h.1
  have hok := okR_looks h
  have hnum : numD (wholeT r) (dotN r) = wholeN r := by unfold wholeN; rw [whole_size]
  have z0 : quarters 0 = 0 := rfl
  have w0 : wordQ 0 = 0 := rfl
  by_cases hdot : dotN r = r.size
  · obtain ⟨a1, a2, a3⟩ := rf_ahead (r := r) (dotN r) (Nat.le_refl _)
    rw [hnum] at a1
    rw [hdot] at a1 a2
    rw [decide_eq_true hdot, Bool.true_or] at hok
    have hq : qR r = 4 * wholeN r := by unfold qR; rw [if_pos hdot]; omega
    rw [hok, if_pos rfl, hq]
    by_cases hz : wholeN r = 0
    · rw [hz]
      exact ⟨0, by omega, z0, fun _ => w0.symm, parse_any r 0 w h8 (atof64_zero r w hd (by rw [a1, hz]) t2)⟩
    · have hX : rfX r = 0 := by unfold rfX; rw [if_neg (by rw [a1]; exact hz), a2]; rfl
      have KE := exact_zero (rfM r r.size) w (by rw [a1]; omega) t1
      have ew := nearest_whole (wholeN r) (by omega) wn
      rw [a1] at KE
      refine ⟨wordQ (4 * wholeN r), ?_, quarters_word _ (by omega), fun _ => rfl, parse_any r _ w h8 (atof64_pos r _ w hd (by rw [a1]; exact hz) t2 ?_)⟩
      · have := wordQ_lt (4 * wholeN r) (by omega)
        omega
      · rw [a1, hX, ← ew]
        exact KE
  · have hp : digOk (partT r) 3 = true := by rcases h.2 with c | c; exact absurd c hdot; exact c
    have hle := dotN_le r
    have ps := part_size r
    have hb := rf_behind (r := r) (by omega) hp ((partT r).size) (by omega)
    rw [show dotN r + 1 + (partT r).size = r.size by omega, hnum] at hb
    obtain ⟨a1, a2, a3⟩ := hb
    have a1 : rfM r r.size = wholeN r * 10 ^ (partT r).size + partN r := a1
    rw [decide_eq_false hdot, Bool.false_or] at hok
    have hq : qR r = 4 * wholeN r + padP r / 250 := by unfold qR; rw [if_neg hdot]
    have cs := part_sizes hp
    obtain ⟨f, D, LD, hf, f1, f3, hD, d1, d2, d3, d4, m1, m2, m3⟩ : ∃ f D LD : Nat, (partT r).size = f ∧ 1 ≤ f ∧ f ≤ 3 ∧ D = 10 ^ f ∧ 2 ^ LD ≤ D ∧ D < 2 ^ (LD + 1) ∧ LD ≤ 9 ∧ D ≤ 1000 ∧ wholeN r * D + partN r < 10000 * D ∧ (4 * (wholeN r * D + partN r) % D = 0 ↔ padP r % 250 = 0) ∧ (padP r % 250 = 0 → 4 * (wholeN r * D + partN r) / D = 4 * wholeN r + padP r / 250) := by
      rcases cs with ⟨e, b, c⟩ | ⟨e, b, c⟩ | ⟨e, b, c⟩
      · exact ⟨1, 10, 3, e, by omega, by omega, rfl, by decide, by decide, by omega, by omega, by omega, by omega, by omega⟩
      · exact ⟨2, 100, 6, e, by omega, by omega, rfl, by decide, by decide, by omega, by omega, by omega, by omega, by omega⟩
      · exact ⟨3, 1000, 9, e, by omega, by omega, rfl, by decide, by decide, by omega, by omega, by omega, by omega, by omega⟩
    rw [hf] at a1 a3
    rw [← hD] at a1
    have hpc := t4 f f1 f3
    rw [← hD] at hpc
    rw [hok, hq]
    by_cases hz : wholeN r * D + partN r = 0
    · have y1 : wholeN r = 0 := by
        rcases Nat.eq_zero_or_pos (wholeN r) with h | h
        · exact h
        · have := Nat.mul_pos h (show 0 < D by omega); omega
      have y2 : partN r = 0 := by omega
      have y3 : padP r = 0 := by rcases cs with ⟨e, b, c⟩ | ⟨e, b, c⟩ | ⟨e, b, c⟩ <;> omega
      rw [y1, y3]
      exact ⟨0, by omega, by simp [z0], fun _ => w0.symm, parse_any r 0 w h8 (atof64_zero r w hd (by rw [a1, hz]) t2)⟩
    · have hX : rfX r = -(f : Int) := by unfold rfX; rw [if_neg (by rw [a1]; exact hz), if_pos a2, a3]
      obtain ⟨m, hm⟩ : ∃ m, wholeN r * D + partN r = m := ⟨_, rfl⟩
      rw [hm] at a1 hz m1 m2 m3
      have g1 : 2 ^ m.log2 ≤ m := Nat.log2_self_le hz
      have g2 : m < 2 ^ (m.log2 + 1) := Nat.lt_log2_self
      have hL : m.log2 ≤ 23 := by
        rcases Nat.lt_or_ge 23 m.log2 with c | c
        · have : 2 ^ 24 ≤ 2 ^ m.log2 := Nat.pow_le_pow_right (by decide) c
          have e : (2 : Nat) ^ 24 = 16777216 := by decide
          have : m < 10000 * 1000 := Nat.lt_of_lt_of_le m1 (Nat.mul_le_mul_left _ d4)
          omega
        · exact c
      obtain ⟨word, k1, k2, k3, k4⟩ := div_quarters m D m.log2 LD g1 g2 hL d1 d2 d3 d4 m1
      have mlt : m < 4503599627370496 := by
        have : m < 10000 * 1000 := Nat.lt_of_lt_of_le m1 (Nat.mul_le_mul_left _ d4)
        omega
      have KE := exact_over m f D word g o c w mlt t1 f1 f3 t3 hpc k1
      have eq : quarters word = if decide (padP r % 250 = 0) = true then ((4 * wholeN r + padP r / 250 : Nat) : Int) else -1 := by
        rw [k4]
        by_cases c : padP r % 250 = 0
        · rw [if_pos (m2.2 c), if_pos (by simp [c]), m3 c]
        · rw [if_neg (fun h => c (m2.1 h)), if_neg (by simp [c])]
      refine ⟨word, k2, eq, fun hc => ?_, parse_any r _ w h8 (atof64_pos r _ w hd (by rw [a1]; exact hz) t2 ?_)⟩
      · rw [if_pos hc] at eq
        exact word_of_quarters eq k3
      · rw [a1, hX]
        exact KE

end Go.Proofs.YthhdfbgjdfoalaaGreatDoor

/- MeasureOf: the program's side, and the law. -/
namespace Go.Proofs.YthhdfbgjdfoalaaGreatDoor
open Go.RowKit
open Ieee
set_option linter.unusedVariables false
set_option linter.unusedSimpArgs false

/-- What sizeIn leaves. -/
def SzP (r : ByteArray) (w : World) (e : Ending) (w' : World) : Prop := ∃ word : Nat, e = .returned (.tuple #[.float .f64 word, .bool (infB r || okR r)]) ∧ (infB r = true → word = 9218868437227405312) ∧ (infB r = false → okR r = true → word = wordQ (qR r)) ∧ Below w.heap.size w w'

theorem sz_no {r : ByteArray} {w w' : World} (h1 : infB r = false) (h2 : okR r = false) (hb : Below w.heap.size w w') : SzP r w (.returned (.tuple #[.float .f64 0, .bool false])) w' :=
  ⟨0, (by rw [h1, h2]; rfl), (fun h => by rw [h1] at h; cases h), (fun _ h => by rw [h2] at h; cases h), hb⟩

theorem whole_all {r : ByteArray} (h : dotN r = r.size) : wholeT r = r := by
  unfold wholeT
  rw [h]
  exact ByteArray.extract_zero_size

theorem okR_whole {r : ByteArray} (h : digOk (wholeT r) 4 = false) : okR r = false := by unfold okR; rw [h]; rfl
theorem okR_part {r : ByteArray} (hd : dotN r < r.size) (h : digOk (partT r) 3 = false) : okR r = false := by
  unfold okR; rw [h, decide_eq_false (by omega)]; simp

set_option maxHeartbeats 1600000 in
theorem sizeIn_any (r : ByteArray) (w : World) (hs : (r.size : Int) ≤ 1048576) (t : TBL w) :
    Calls Tryz.prog 141 #[.string r] w fun e w' => SzP r w e w' := by
  cases hi : infB r
  rotate_left
  · have hn : (r.toList == [105, 110, 102]) = true := hi
    have HI := Hid.mk' hi
    clear hi
    go_enter Tryz.func141, Tryz.ntmps141
    go_wp2_with fail
    refine (inf_any _).mono ?_
    rintro e w1 ⟨rfl, hw⟩
    obtain rfl := hw.symm
    go_wp2
    refine bodyPost_ret (v := .tuple #[.float .f64 9218868437227405312, .bool true]) (by simp [results, Tryz.results141, go_sem]) rfl ?_
    exact ⟨_, by rw [HI.out]; rfl, fun _ => rfl, fun h => (by rw [HI.out] at h; cases h), Below.refl _ _⟩
  have hn : (r.toList == [105, 110, 102]) = false := hi
  have HI := Hid.mk' hi
  clear hi
  have KC := cutD_any r w hs
  have HT := Hid.mk' t
  clear t
  unfold cutV at KC
  have hle := dotN_le r
  have ws := whole_size r
  have ps := part_size r
  by_cases hd : dotN r < r.size
  · rw [if_pos hd] at KC
    have KC := Hid.mk' KC
    have K1 : Hid (∀ W : World, Calls Tryz.prog 162 #[.string (wholeT r), .int .i64 4] W fun e w' => e = .returned (.bool (digOk (wholeT r) 4)) ∧ w' = W) := fun W => areDigits_any (wholeT r) 4 W (by omega) (by omega)
    have K2 : Hid (∀ W : World, Calls Tryz.prog 162 #[.string (partT r), .int .i64 3] W fun e w' => e = .returned (.bool (digOk (partT r) 3)) ∧ w' = W) := fun W => areDigits_any (partT r) 3 W (by omega) (by omega)
    cases h1 : digOk (wholeT r) 4
    · have E := Hid.mk' (okR_whole h1)
      rw [h1] at K1
      clear h1 K2 ws ps
      go_enter Tryz.func141, Tryz.ntmps141
      go_wp2_with fail
      refine KC.out.mono ?_
      rintro e w1 ⟨rfl, hb⟩
      have HB := Hid.mk' hb
      clear hb
      go_wp2_with fail
      refine (K1.out _).mono ?_
      rintro e w2 ⟨rfl, hw⟩
      obtain rfl := hw.symm
      go_wp2_with go_big_skip
      refine bodyPost_ret (v := .tuple #[.float .f64 0, .bool false]) (by simp [results, Tryz.results141, go_sem]) rfl ?_
      exact sz_no HI.out E.out HB.out
    cases h2 : digOk (partT r) 3
    · have E := Hid.mk' (okR_part hd h2)
      rw [h1] at K1
      rw [h2] at K2
      clear h1 h2 ws ps
      go_enter Tryz.func141, Tryz.ntmps141
      go_wp2_with fail
      refine KC.out.mono ?_
      rintro e w1 ⟨rfl, hb⟩
      have HB := Hid.mk' hb
      clear hb
      go_wp2_with fail
      refine (K1.out _).mono ?_
      rintro e w2 ⟨rfl, hw⟩
      obtain rfl := hw.symm
      go_wp2_with fail
      refine (K2.out _).mono ?_
      rintro e w2 ⟨rfl, hw⟩
      obtain rfl := hw.symm
      go_wp2_with go_big_skip
      refine bodyPost_ret (v := .tuple #[.float .f64 0, .bool false]) (by simp [results, Tryz.results141, go_sem]) rfl ?_
      exact sz_no HI.out E.out HB.out
    have HL : Hid (looks r) := Hid.mk' ⟨h1, .inr h2⟩
    rw [h1] at K1
    rw [h2] at K2
    clear h1 h2 ws ps
    go_enter Tryz.func141, Tryz.ntmps141
    go_wp2_with fail
    refine KC.out.mono ?_
    rintro e w1 ⟨rfl, hb⟩
    obtain ⟨word, x1, x2, x3, x4⟩ := parse_looks r HL.out w1 (HT.out.below hb)
    have HB := Hid.mk' hb
    have KQ := isQuarters_any word w1 (by omega)
    rw [Nat.mod_eq_of_lt (by omega), implQ_eq word (by omega), x2] at KQ
    have ed : decide (0 ≤ (if okR r = true then (qR r : Int) else -1)) = okR r := by
      cases okR r
      · rfl
      · exact decide_eq_true (Int.natCast_nonneg _)
    rw [ed] at KQ
    have KQ := Hid.mk' KQ
    have KF := Hid.mk' x4
    have X3 := Hid.mk' x3
    clear hb ed x1 x2 x3 x4
    generalize hq : okR r = ok at *
    have HQ := Hid.mk' hq
    clear hq
    go_wp2_with fail
    refine (K1.out _).mono ?_
    rintro e w2 ⟨rfl, hw⟩
    obtain rfl := hw.symm
    go_wp2_with fail
    refine (K2.out _).mono ?_
    rintro e w2 ⟨rfl, hw⟩
    obtain rfl := hw.symm
    go_wp2_with (first | fail | go_big_skip)
    refine KF.out.mono ?_
    rintro e w2 ⟨rfl, hw⟩
    obtain rfl := hw.symm
    go_wp2_with fail
    refine KQ.out.mono ?_
    rintro e w2 ⟨rfl, hw⟩
    obtain rfl := hw.symm
    go_wp2
    refine bodyPost_ret (v := .tuple #[.float .f64 word, .bool ok]) (by simp [results, Tryz.results141, go_sem]) rfl ?_
    exact ⟨word, by rw [HI.out, HQ.out]; rfl, fun h => (by rw [HI.out] at h; cases h), fun _ h => X3.out (by rw [← HQ.out]; exact h), HB.out⟩
  · have hd' : dotN r = r.size := by omega
    rw [if_neg hd] at KC
    have KC := Hid.mk' KC
    have K1 : Hid (∀ W : World, Calls Tryz.prog 162 #[.string r, .int .i64 4] W fun e w' => e = .returned (.bool (digOk r 4)) ∧ w' = W) := fun W => areDigits_any r 4 W (by omega) (by omega)
    have ew := whole_all hd'
    cases h1 : digOk r 4
    · have E := Hid.mk' (okR_whole (r := r) (by rw [ew]; exact h1))
      rw [h1] at K1
      clear h1 ws ps hd' ew hle
      go_enter Tryz.func141, Tryz.ntmps141
      go_wp2_with fail
      refine KC.out.mono ?_
      rintro e w1 ⟨rfl, hb⟩
      have HB := Hid.mk' hb
      clear hb
      go_wp2_with fail
      refine (K1.out _).mono ?_
      rintro e w2 ⟨rfl, hw⟩
      obtain rfl := hw.symm
      go_wp2_with go_big_skip
      refine bodyPost_ret (v := .tuple #[.float .f64 0, .bool false]) (by simp [results, Tryz.results141, go_sem]) rfl ?_
      exact sz_no HI.out E.out HB.out
    have HL : Hid (looks r) := Hid.mk' ⟨by rw [ew]; exact h1, .inl hd'⟩
    rw [h1] at K1
    clear h1 ws ps hd' ew hle
    go_enter Tryz.func141, Tryz.ntmps141
    go_wp2_with fail
    refine KC.out.mono ?_
    rintro e w1 ⟨rfl, hb⟩
    obtain ⟨word, x1, x2, x3, x4⟩ := parse_looks r HL.out w1 (HT.out.below hb)
    have HB := Hid.mk' hb
    have KQ := isQuarters_any word w1 (by omega)
    rw [Nat.mod_eq_of_lt (by omega), implQ_eq word (by omega), x2] at KQ
    have ed : decide (0 ≤ (if okR r = true then (qR r : Int) else -1)) = okR r := by
      cases okR r
      · rfl
      · exact decide_eq_true (Int.natCast_nonneg _)
    rw [ed] at KQ
    have KQ := Hid.mk' KQ
    have KF := Hid.mk' x4
    have X3 := Hid.mk' x3
    clear hb ed x1 x2 x3 x4
    generalize hq : okR r = ok at *
    have HQ := Hid.mk' hq
    clear hq
    go_wp2_with fail
    refine (K1.out _).mono ?_
    rintro e w2 ⟨rfl, hw⟩
    obtain rfl := hw.symm
    go_wp2_with (first | fail | go_big_skip)
    refine KF.out.mono ?_
    rintro e w2 ⟨rfl, hw⟩
    obtain rfl := hw.symm
    go_wp2_with fail
    refine KQ.out.mono ?_
    rintro e w2 ⟨rfl, hw⟩
    obtain rfl := hw.symm
    go_wp2
    refine bodyPost_ret (v := .tuple #[.float .f64 word, .bool ok]) (by simp [results, Tryz.results141, go_sem]) rfl ?_
    exact ⟨word, by rw [HI.out, HQ.out]; rfl, fun h => (by rw [HI.out] at h; cases h), fun _ h => X3.out (by rw [← HQ.out]; exact h), HB.out⟩

theorem prefix_minus (s : ByteArray) : Lib.hasPrefix s.data.toList [45] = minusB s := by
  unfold Lib.hasPrefix minusB
  rw [byS_list]
  have hl := data_len s
  cases h : s.data.toList with
  | nil => rw [h] at hl; simp at hl; simp [← hl]
  | cons c r =>
    rw [h] at hl
    simp only [List.length_cons] at hl
    rw [decide_eq_true (by omega : 0 < s.size), Bool.true_and]
    simp only [List.isPrefixOf, List.getD_cons_zero, Bool.and_true]
    by_cases e : c = 45
    · subst e; rfl
    · have : ¬ c.toNat = 45 := fun h => e (UInt8.toNat_inj.1 (by rw [h]; rfl))
      rw [decide_eq_false this]
      exact beq_eq_false_iff_ne.2 (fun h => e h.symm)

theorem ba_eq {x y : ByteArray} (h : x.data.toList = y.data.toList) : x = y := by
  cases x; cases y
  simp at h
  rw [h]

theorem trim_rest (s : ByteArray) : (⟨(Lib.trimPrefix s.data.toList [45]).toArray⟩ : ByteArray) = restT s := by
  unfold Lib.trimPrefix restT
  rw [prefix_minus]
  cases minusB s
  · simp
  · apply ba_eq
    show (s.data.toList.drop 1).toArray.toList = (s.extract 1 s.size).data.toList
    rw [ByteArray.data_extract]
    simp
    exact (List.take_of_length_le (by rw [List.length_tail, data_len]; exact Nat.le_refl _)).symm

set_option maxHeartbeats 1600000 in
theorem implMO_any (s : ByteArray) (w : World) (hs : (s.size : Int) ≤ 1048576) (t : TBL w) :
    Calls Tryz.prog 123 #[.string s] w fun e w' => e = .returned (.agg #[.int .i64 (moC s), .int .i64 (moV s)]) ∧ Below w.heap.size w w' := by
  have N0 := below_new w (.cells #[.int .i64 0, .int .i64 0] 157)
  have KP := Tryz.strings_CutPrefix s ⟨#[45]⟩ (w.alloc (.cells #[.int .i64 0, .int .i64 0] 157))
  have KS := sizeIn_any (restT s) (w.alloc (.cells #[.int .i64 0, .int .i64 0] 157)) (by have := rest_size s; omega) (t.below N0)
  have RB := Hid.mk' (rowQ2 w 157 (.int .i64 0) (.int .i64 0))
  have HN := Hid.mk' N0
  have ep : (⟨#[45]⟩ : ByteArray).data.toList = [45] := rfl
  rw [ep, trim_rest, prefix_minus] at KP
  have KP := Hid.mk' KP
  have KS := Hid.mk' KS
  clear t N0 ep
  generalize hW : w.alloc (.cells #[.int .i64 0, .int .i64 0] 157) = W at *
  have hC : moC s = if moB s = true then 0 else 5 := rfl
  rcases mo_cases s with ⟨h1, e2, e3⟩ | ⟨h1, h2, e2, e3⟩ | ⟨h1, h2, h3, e2, e3⟩ | ⟨h1, h2, h3, e2, e3⟩
  · rw [hC, e2, e3]
    have hn : (s.toList == [110, 97, 110]) = true := h1
    obtain ⟨b0, b1, b2⟩ := cellsQ2 RB.out
    have f0 := RB.out.frozen 0
    have f1 := RB.out.frozen 1
    clear h1 e2 e3 hC KP KS
    go_enter Tryz.func123, Tryz.ntmps123
    go_wp2
    clear hW
    refine bodyPost_ret (v := .agg #[.int .i64 0, .int .i64 9221120237041090560]) (by simp [results, Tryz.results123, go_sem, *]) rfl ?_
    exact ⟨rfl, (HN.out.setCell (p := ⟨w.heap.size, 0, none⟩) (Nat.le_refl _) _).setCell (p := ⟨w.heap.size, 1, none⟩) (Nat.le_refl _) _⟩
  all_goals have hn : (s.toList == [110, 97, 110]) = false := h1
  all_goals rw [hC, e2, e3]
  all_goals clear hC e2 e3 h1
  all_goals generalize minusB s = M at *
  all_goals generalize restT s = T at *
  · have HI := Hid.mk' h2
    clear h2
    go_enter Tryz.func123, Tryz.ntmps123
    go_wp2_with fail
    clear hW
    refine KP.out.mono ?_
    rintro e w1 ⟨rfl, hw⟩
    obtain rfl := hw.symm
    go_wp2_with fail
    refine KS.out.mono ?_
    rintro e w1 ⟨word, rfl, x1, x2, hb⟩
    obtain rfl := x1 HI.out
    rw [HI.out, Bool.true_or]
    have R1 := rowB RB.out hb
    have HB := Hid.mk' (HN.out.trans (hb.mono HN.out.size))
    have KG := Hid.mk' (signed_any M 9218868437227405312 w1 (by omega))
    have fin : IntKind.i64.wrap (((if M then 9218868437227405312 + 9223372036854775808 else 9218868437227405312) : Nat) : Int) = signBits M 9218868437227405312 := by
      rw [IntKind.wrap_i64]
      unfold signBits
      cases M <;> simp
    obtain ⟨sb, hsb⟩ : ∃ sb, signBits M 9218868437227405312 = sb := ⟨_, rfl⟩
    rw [hsb] at fin
    have HSB := Hid.mk' hsb
    clear hsb
    obtain ⟨b0, b1, b2⟩ := cellsQ2 R1
    have f0 := R1.frozen 0
    have f1 := R1.frozen 1
    clear hb R1 x1 x2
    generalize (if M then 9218868437227405312 + 9223372036854775808 else 9218868437227405312) = sg at *
    go_wp2_with fail
    refine KG.out.mono ?_
    rintro e w2 ⟨rfl, hw⟩
    obtain rfl := hw.symm
    go_wp2
    refine bodyPost_ret (v := .agg #[.int .i64 0, .int .i64 sb]) (by simp [results, Tryz.results123, go_sem, *]) rfl ?_
    exact ⟨by rw [HSB.out], (HB.out.setCell (p := ⟨w.heap.size, 0, none⟩) (Nat.le_refl _) _).setCell (p := ⟨w.heap.size, 1, none⟩) (Nat.le_refl _) _⟩
  · have HI := Hid.mk' h2
    have HO := Hid.mk' h3
    have wl := wordQ_lt _ (numA_ok h3).2
    clear h2 h3
    go_enter Tryz.func123, Tryz.ntmps123
    go_wp2_with fail
    clear hW
    refine KP.out.mono ?_
    rintro e w1 ⟨rfl, hw⟩
    obtain rfl := hw.symm
    go_wp2_with fail
    refine KS.out.mono ?_
    rintro e w1 ⟨word, rfl, x1, x2, hb⟩
    obtain rfl := x2 HI.out HO.out
    rw [HI.out, HO.out, Bool.or_true]
    have R1 := rowB RB.out hb
    have HB := Hid.mk' (HN.out.trans (hb.mono HN.out.size))
    have KG := Hid.mk' (signed_any M (wordQ (qR T)) w1 (by omega))
    have fin : IntKind.i64.wrap (((if M then wordQ (qR T) + 9223372036854775808 else wordQ (qR T)) : Nat) : Int) = signBits M (wordQ (qR T)) := by
      rw [IntKind.wrap_i64]
      unfold signBits
      cases M <;> simp <;> omega
    obtain ⟨sb, hsb⟩ : ∃ sb, signBits M (wordQ (qR T)) = sb := ⟨_, rfl⟩
    rw [hsb] at fin
    have HSB := Hid.mk' hsb
    clear hsb
    obtain ⟨b0, b1, b2⟩ := cellsQ2 R1
    have f0 := R1.frozen 0
    have f1 := R1.frozen 1
    clear hb R1 x1 x2
    generalize hwd : wordQ (qR T) = wd at *
    have HWD := Hid.mk' hwd
    clear hwd
    generalize (if M then wd + 9223372036854775808 else wd) = sg at *
    go_wp2_with fail
    refine KG.out.mono ?_
    rintro e w2 ⟨rfl, hw⟩
    obtain rfl := hw.symm
    go_wp2
    refine bodyPost_ret (v := .agg #[.int .i64 0, .int .i64 sb]) (by simp [results, Tryz.results123, go_sem, *]) rfl ?_
    exact ⟨by rw [HWD.out, HSB.out], (HB.out.setCell (p := ⟨w.heap.size, 0, none⟩) (Nat.le_refl _) _).setCell (p := ⟨w.heap.size, 1, none⟩) (Nat.le_refl _) _⟩
  · have HI := Hid.mk' h2
    have HO := Hid.mk' h3
    clear h2 h3
    go_enter Tryz.func123, Tryz.ntmps123
    go_wp2_with fail
    clear hW
    refine KP.out.mono ?_
    rintro e w1 ⟨rfl, hw⟩
    obtain rfl := hw.symm
    go_wp2_with fail
    refine KS.out.mono ?_
    rintro e w1 ⟨word, rfl, x1, x2, hb⟩
    rw [HI.out, HO.out, Bool.or_false]
    have R1 := rowB RB.out hb
    have HB := Hid.mk' (HN.out.trans (hb.mono HN.out.size))
    obtain ⟨b0, b1, b2⟩ := cellsQ2 R1
    have f0 := R1.frozen 0
    have f1 := R1.frozen 1
    clear hb R1 x1 x2
    go_wp2
    refine bodyPost_ret (v := .agg #[.int .i64 5, .int .i64 0]) (by simp [results, Tryz.results123, go_sem, *]) rfl ?_
    exact ⟨rfl, (HB.out.setCell (p := ⟨w.heap.size, 0, none⟩) (Nat.le_refl _) _).setCell (p := ⟨w.heap.size, 1, none⟩) (Nat.le_refl _) _⟩

end Go.Proofs.YthhdfbgjdfoalaaGreatDoor

/- MeasureText, both sides; the law. -/
namespace Go.Proofs.YthhdfbgjdfoalaaGreatDoor
open Go.RowKit Go.Joins
set_option linter.unusedVariables false
set_option linter.unusedSimpArgs false

set_option maxRecDepth 100000 in
set_option maxHeartbeats 3200000 in
theorem implMT_any (b : Int) (w : World) (h1 : -9223372036854775808 ≤ b) (h2 : b ≤ 9223372036854775807) (hp : PT w) (ht : TabW w) :
    Calls Tryz.prog 127 #[.int .i64 b] w fun e w' => e = .returned (.agg #[.int .i64 (mtC b), .string (mtT b)]) ∧ Below w.heap.size w w' := by
  have N0 := below_new w (.cells #[.int .i64 0, .string ⟨#[]⟩] 110)
  have HP := Hid.mk' (hp.below N0)
  have HT := Hid.mk' (tab_below ht N0)
  have HR := Hid.mk' (rowQ2 w 110 (.int .i64 0) (.string ⟨#[]⟩))
  have HB := Hid.mk' N0
  clear N0 hp ht
  generalize hW : w.alloc (.cells #[.int .i64 0, .string ⟨#[]⟩] 110) = W at *
  have KF := Hid.mk' (floatOf_any b W h1 h2)
  have KN := isNaN_any b W h1 h2
  have KP := isInfP_any b W h1 h2
  have KM := isInfM_any b W h1 h2
  have KA := implParts_any b W h1 h2
  have HW : Hid (∀ W2 : World, Below W.heap.size W W2 → 0 ≤ quarters (rung b) → Calls Tryz.prog 148 #[.float .f64 (bw b), .int .u8 102, .int .i64 (-1), .int .i64 64] W2 fun e w' => e = .returned (.string (strS (txtQ (decide (b < 0)) (quarters (rung b)).toNat))) ∧ Below W2.heap.size W2 w') :=
    Hid.mk' (fun W2 hb hq => format_any b W2 h1 h2 hq (HP.out.below hb) (tab_below HT.out hb))
  obtain ⟨x0, x1, x2⟩ := cellsQ2 HR.out
  obtain ⟨f0, f1⟩ := frzQ2 HR.out
  unfold mtC mtT
  by_cases c1 : 9218868437227405312 < rung b
  · rw [if_pos c1, if_neg (by omega)]
    rw [decide_eq_true c1] at KN
    replace KN := Hid.mk' KN
    clear KP KM KA HW c1
    go_enter Tryz.func127, Tryz.ntmps127
    go_wp2_with fail
    refine KF.out.mono ?_
    rintro e w1 ⟨rfl, hw⟩
    obtain rfl := hw.symm
    go_wp2_with fail
    refine KN.out.mono ?_
    rintro e w1 ⟨rfl, hw⟩
    obtain rfl := hw.symm
    go_wp2
    clear hW
    refine bodyPost_ret (v := .agg #[.int .i64 0, .string ⟨#[110, 97, 110]⟩]) (by simp [results, Tryz.results127, go_sem, *]) rfl ⟨rfl, ?_⟩
    exact (HB.out.setCell (p := ⟨w.heap.size, 0, none⟩) (by simp) _).setCell (p := ⟨w.heap.size, 1, none⟩) (by simp) _
  rw [if_neg c1]
  rw [decide_eq_false c1] at KN
  replace KN := Hid.mk' KN
  by_cases c2 : rung b = 9218868437227405312
  · by_cases hb : b < 0
    · rw [if_pos c2, if_pos hb, if_neg (by omega)]
      rw [decide_eq_false (by omega : ¬ 0 ≤ b), Bool.false_and] at KP
      rw [decide_eq_true hb, decide_eq_true c2, Bool.true_and] at KM
      replace KP := Hid.mk' KP
      replace KM := Hid.mk' KM
      clear KA HW c1 c2
      go_enter Tryz.func127, Tryz.ntmps127
      go_wp2_with fail
      refine KF.out.mono ?_
      rintro e w1 ⟨rfl, hw⟩
      obtain rfl := hw.symm
      go_wp2_with fail
      refine KN.out.mono ?_
      rintro e w1 ⟨rfl, hw⟩
      obtain rfl := hw.symm
      go_wp2_with fail
      refine KP.out.mono ?_
      rintro e w1 ⟨rfl, hw⟩
      obtain rfl := hw.symm
      go_wp2_with fail
      refine KM.out.mono ?_
      rintro e w1 ⟨rfl, hw⟩
      obtain rfl := hw.symm
      go_wp2
      clear hW
      refine bodyPost_ret (v := .agg #[.int .i64 0, .string ⟨#[45, 105, 110, 102]⟩]) (by simp [results, Tryz.results127, go_sem, *]) rfl ⟨rfl, ?_⟩
      exact (HB.out.setCell (p := ⟨w.heap.size, 0, none⟩) (by simp) _).setCell (p := ⟨w.heap.size, 1, none⟩) (by simp) _
    · rw [if_pos c2, if_neg hb, if_neg (by omega)]
      rw [decide_eq_true (by omega : 0 ≤ b), decide_eq_true c2, Bool.true_and] at KP
      replace KP := Hid.mk' KP
      clear KM KA HW c1 c2
      go_enter Tryz.func127, Tryz.ntmps127
      go_wp2_with fail
      refine KF.out.mono ?_
      rintro e w1 ⟨rfl, hw⟩
      obtain rfl := hw.symm
      go_wp2_with fail
      refine KN.out.mono ?_
      rintro e w1 ⟨rfl, hw⟩
      obtain rfl := hw.symm
      go_wp2_with fail
      refine KP.out.mono ?_
      rintro e w1 ⟨rfl, hw⟩
      obtain rfl := hw.symm
      go_wp2
      clear hW
      refine bodyPost_ret (v := .agg #[.int .i64 0, .string ⟨#[105, 110, 102]⟩]) (by simp [results, Tryz.results127, go_sem, *]) rfl ⟨rfl, ?_⟩
      exact (HB.out.setCell (p := ⟨w.heap.size, 0, none⟩) (by simp) _).setCell (p := ⟨w.heap.size, 1, none⟩) (by simp) _
  rw [if_neg c2]
  rw [decide_eq_false c2, Bool.and_false] at KP KM
  replace KP := Hid.mk' KP
  replace KM := Hid.mk' KM
  have eC : partsC b = if quarters (rung b) < 0 then 3 else 0 := by unfold partsC; rw [if_neg (by omega)]
  rw [eC] at KA
  by_cases c3 : quarters (rung b) < 0
  · rw [if_pos c3, if_pos ⟨by omega, c3⟩]
    rw [if_pos c3] at KA
    replace KA := Hid.mk' KA
    clear HW eC c1 c2 c3
    generalize partsM b = m at *
    generalize partsW b = x at *
    generalize partsQ b = y at *
    go_enter Tryz.func127, Tryz.ntmps127
    go_wp2_with fail
    refine KF.out.mono ?_
    rintro e w1 ⟨rfl, hw⟩
    obtain rfl := hw.symm
    go_wp2_with fail
    refine KN.out.mono ?_
    rintro e w1 ⟨rfl, hw⟩
    obtain rfl := hw.symm
    go_wp2_with fail
    refine KP.out.mono ?_
    rintro e w1 ⟨rfl, hw⟩
    obtain rfl := hw.symm
    go_wp2_with fail
    refine KM.out.mono ?_
    rintro e w1 ⟨rfl, hw⟩
    obtain rfl := hw.symm
    go_wp2_with fail
    clear hW x0 x1 x2 f0 f1
    refine KA.out.mono ?_
    rintro e w1 ⟨rfl, hb⟩
    obtain ⟨x0, x1, x2⟩ := cellsQ2 (rowB HR.out hb)
    obtain ⟨f0, f1⟩ := frzQ2 (rowB HR.out hb)
    have HB := Hid.mk' (HB.out.trans (hb.mono HB.out.size))
    have j1 : w.heap.size < w1.heap.size := x2
    have j2 : ¬ w.heap.size = w1.heap.size := by omega
    have j3 : ¬ w1.heap.size = w.heap.size := by omega
    clear hb
    go_wp2
    refine bodyPost_ret (v := .agg #[.int .i64 3, .string ⟨#[]⟩]) (by simp [results, Tryz.results127, go_sem, *]) rfl ⟨rfl, ?_⟩
    exact ((HB.out.setCell (p := ⟨w.heap.size, 0, none⟩) (by simp) _).setCell (p := ⟨w.heap.size, 1, none⟩) (by simp) _).alloc (by simp; omega) _
  · rw [if_neg c3, if_neg (by omega)]
    rw [if_neg c3] at KA
    replace KA := Hid.mk' KA
    have HW := Hid.mk' (fun W2 hb => HW.out W2 hb (by omega))
    clear eC c1 c2 c3
    generalize strS (txtQ (decide (b < 0)) (quarters (rung b)).toNat) = t at *
    generalize partsM b = m at *
    generalize partsW b = x at *
    generalize partsQ b = y at *
    go_enter Tryz.func127, Tryz.ntmps127
    go_wp2_with fail
    refine KF.out.mono ?_
    rintro e w1 ⟨rfl, hw⟩
    obtain rfl := hw.symm
    go_wp2_with fail
    refine KN.out.mono ?_
    rintro e w1 ⟨rfl, hw⟩
    obtain rfl := hw.symm
    go_wp2_with fail
    refine KP.out.mono ?_
    rintro e w1 ⟨rfl, hw⟩
    obtain rfl := hw.symm
    go_wp2_with fail
    refine KM.out.mono ?_
    rintro e w1 ⟨rfl, hw⟩
    obtain rfl := hw.symm
    go_wp2_with fail
    clear hW x0 x1 x2 f0 f1
    refine KA.out.mono ?_
    rintro e w1 ⟨rfl, hb⟩
    have HN := Hid.mk' (hb.alloc hb.size (.cells #[.int .i64 0, .bool m, .int .i64 x, .int .i64 y] 184))
    have HR2 := Hid.mk' (rowB HR.out HN.out)
    have HB := Hid.mk' (HB.out.trans (HN.out.mono HB.out.size))
    have KW := Hid.mk' (HW.out _ HN.out)
    clear hb HW
    go_wp2_with fail
    generalize hW : w1.alloc (.cells #[.int .i64 0, .bool m, .int .i64 x, .int .i64 y] 184) = W2 at HR2 HB KW ⊢
    clear hW
    refine KW.out.mono ?_
    rintro e w2 ⟨rfl, hb⟩
    obtain ⟨x0, x1, x2⟩ := cellsQ2 (rowB HR2.out hb)
    obtain ⟨f0, f1⟩ := frzQ2 (rowB HR2.out hb)
    have HB := Hid.mk' (HB.out.trans (hb.mono HB.out.size))
    clear hb
    go_wp2
    refine bodyPost_ret (v := .agg #[.int .i64 0, .string t]) (by simp [results, Tryz.results127, go_sem, *]) rfl ⟨rfl, ?_⟩
    exact (HB.out.setCell (p := ⟨w.heap.size, 0, none⟩) (by simp) _).setCell (p := ⟨w.heap.size, 1, none⟩) (by simp) _

end Go.Proofs.YthhdfbgjdfoalaaGreatDoor

/- WidthText, both sides; the law. -/
namespace Go.Proofs.YthhdfbgjdfoalaaGreatDoor
open Go.RowKit
set_option linter.unusedVariables false
set_option linter.unusedSimpArgs false

/-- What WidthText answers. -/
def wtC (s : ByteArray) : Int := if moB s = true then (if width (moV s) = true then 0 else 3) else 5
def wtT (s : ByteArray) : ByteArray := if moB s = true then (if width (moV s) = true then mtT (rung (moV s) : Int) else ⟨#[]⟩) else ⟨#[]⟩

theorem wt_no {s : ByteArray} (h : moB s = false) : wtC s = 5 ∧ wtT s = ⟨#[]⟩ := by unfold wtC wtT; rw [h]; exact ⟨rfl, rfl⟩
theorem wt_out {s : ByteArray} (h : moB s = true) (h2 : width (moV s) = false) : wtC s = 3 ∧ wtT s = ⟨#[]⟩ := by unfold wtC wtT; rw [h, h2]; exact ⟨rfl, rfl⟩
theorem wt_in {s : ByteArray} (h : moB s = true) (h2 : width (moV s) = true) : wtC s = 0 ∧ wtT s = mtT (rung (moV s) : Int) := by unfold wtC wtT; rw [h, h2]; exact ⟨rfl, rfl⟩

theorem rung_rung {b : Int} (h1 : -9223372036854775808 ≤ b) (h2 : b ≤ 9223372036854775807) : rung (rung b : Int) = rung b := by
  have e : ∀ n : Nat, rung (n : Int) = n := fun n => by unfold rung; rw [if_neg (by omega), Int.toNat_natCast]
  exact e _

theorem mtC_width {b : Int} (h1 : -9223372036854775808 ≤ b) (h2 : b ≤ 9223372036854775807) (h : width b = true) : mtC (rung b : Int) = 0 := by
  unfold width at h
  rw [Bool.and_eq_true, decide_eq_true_eq] at h
  unfold mtC
  rw [rung_rung h1 h2, if_neg (fun c => by omega)]

set_option maxHeartbeats 800000 in
theorem specWT_any (s : ByteArray) (w : World) (hs : (s.size : Int) ≤ 1048576) :
    Calls Tryz.prog 75 #[.string s] w fun e w' => e = .returned (.agg #[.int .i64 (wtC s), .string (wtT s)]) ∧ Below w.heap.size w w' := by
  have N0 := below_new w (.cells #[.int .i64 0, .string ⟨#[]⟩] 110)
  have KO : Hid (∀ W : World, Calls Tryz.prog 98 #[.string s] W fun e w' => e = .returned (.tuple #[.int .i64 (moV s), .bool (moB s)]) ∧ w' = W) := fun W => l3Of_any s W hs
  obtain ⟨m1, m2⟩ := mo_bd s
  have KW : Hid (∀ W : World, Calls Tryz.prog 99 #[.int .i64 (moV s)] W fun e w' => e = .returned (.bool (width (moV s))) ∧ w' = W) := fun W => l3Width_any (moV s) W m1 m2
  have KZ : Hid (∀ W : World, Calls Tryz.prog 101 #[.int .i64 (moV s)] W fun e w' => e = .returned (.int .i64 (rung (moV s))) ∧ w' = W) := fun W => size_any (moV s) W m1 m2
  have rl := rung_lt m1 m2
  have KS : Hid (∀ W : World, Calls Tryz.prog 100 #[.int .i64 (rung (moV s) : Int)] W fun e w' => e = .returned (.tuple #[.string (mtT (rung (moV s) : Int)), .int .i64 (mtC (rung (moV s) : Int))]) ∧ Below W.heap.size W w') := fun W => l3Text_any (rung (moV s) : Int) W (by omega) (by omega)
  have HR := Hid.mk' (rowQ2 w 110 (.int .i64 0) (.string ⟨#[]⟩))
  have HB := Hid.mk' N0
  clear N0 m1 m2 rl
  generalize hW : w.alloc (.cells #[.int .i64 0, .string ⟨#[]⟩] 110) = W at *
  cases hb : moB s
  · obtain ⟨e1, e2⟩ := wt_no hb
    rw [e1, e2]
    rw [hb] at KO
    clear e1 e2 hb KW KZ KS
    obtain ⟨x0, x1, x2⟩ := cellsQ2 HR.out
    obtain ⟨f0, f1⟩ := frzQ2 HR.out
    go_enter Tryz.func75, Tryz.ntmps75
    go_wp2_with fail
    clear hW
    refine (KO.out _).mono ?_
    rintro e w1 ⟨rfl, hw⟩
    obtain rfl := hw.symm
    go_wp2
    refine bodyPost_ret (v := .agg #[.int .i64 5, .string ⟨#[]⟩]) (by simp [results, Tryz.results75, go_sem, *]) rfl ⟨rfl, ?_⟩
    exact (HB.out.setCell (p := ⟨w.heap.size, 0, none⟩) (by simp) _).setCell (p := ⟨w.heap.size, 1, none⟩) (by simp) _
  cases hq : width (moV s)
  · obtain ⟨e1, e2⟩ := wt_out hb hq
    rw [e1, e2]
    rw [hb] at KO
    rw [hq] at KW
    clear e1 e2 hb hq KZ KS
    obtain ⟨x0, x1, x2⟩ := cellsQ2 HR.out
    obtain ⟨f0, f1⟩ := frzQ2 HR.out
    generalize moV s = V at *
    go_enter Tryz.func75, Tryz.ntmps75
    go_wp2_with fail
    clear hW
    refine (KO.out _).mono ?_
    rintro e w1 ⟨rfl, hw⟩
    obtain rfl := hw.symm
    go_wp2_with fail
    refine (KW.out _).mono ?_
    rintro e w1 ⟨rfl, hw⟩
    obtain rfl := hw.symm
    go_wp2
    refine bodyPost_ret (v := .agg #[.int .i64 3, .string ⟨#[]⟩]) (by simp [results, Tryz.results75, go_sem, *]) rfl ⟨rfl, ?_⟩
    exact (HB.out.setCell (p := ⟨w.heap.size, 0, none⟩) (by simp) _).setCell (p := ⟨w.heap.size, 1, none⟩) (by simp) _
  · obtain ⟨e1, e2⟩ := wt_in hb hq
    rw [e1, e2]
    rw [hb] at KO
    rw [hq] at KW
    clear e1 e2 hb hq
    generalize mtT (rung (moV s) : Int) = T at *
    generalize mtC (rung (moV s) : Int) = Z at *
    generalize rung (moV s) = R at *
    generalize moV s = V at *
    go_enter Tryz.func75, Tryz.ntmps75
    go_wp2_with fail
    clear hW
    refine (KO.out _).mono ?_
    rintro e w1 ⟨rfl, hw⟩
    obtain rfl := hw.symm
    go_wp2_with fail
    refine (KW.out _).mono ?_
    rintro e w1 ⟨rfl, hw⟩
    obtain rfl := hw.symm
    go_wp2_with fail
    refine (KZ.out _).mono ?_
    rintro e w1 ⟨rfl, hw⟩
    obtain rfl := hw.symm
    go_wp2_with fail
    refine (KS.out _).mono ?_
    rintro e w1 ⟨rfl, hb⟩
    obtain ⟨x0, x1, x2⟩ := cellsQ2 (rowB HR.out hb)
    obtain ⟨f0, f1⟩ := frzQ2 (rowB HR.out hb)
    have HB := Hid.mk' (HB.out.trans (hb.mono HB.out.size))
    clear hb
    go_wp2
    refine bodyPost_ret (v := .agg #[.int .i64 0, .string T]) (by simp [results, Tryz.results75, go_sem, *]) rfl ⟨rfl, ?_⟩
    exact (HB.out.setCell (p := ⟨w.heap.size, 0, none⟩) (by simp) _).setCell (p := ⟨w.heap.size, 1, none⟩) (by simp) _

/-- The tables that MeasureText and MeasureOf read. -/
structure TBS (w : World) : Prop where
  tb : TBL w
  pt : PT w
  tw : TabW w

theorem TBS.below {w w' : World} (h : TBS w) (hb : Below w.heap.size w w') : TBS w' := ⟨h.tb.below hb, h.pt.below hb, tab_below h.tw hb⟩

set_option maxRecDepth 100000 in
set_option maxHeartbeats 1600000 in
theorem implWT_any (s : ByteArray) (w : World) (hs : (s.size : Int) ≤ 1048576) (t : TBS w) :
    Calls Tryz.prog 106 #[.string s] w fun e w' => e = .returned (.agg #[.int .i64 (wtC s), .string (wtT s)]) ∧ Below w.heap.size w w' := by
  have N0 := below_new w (.cells #[.int .i64 0, .string ⟨#[]⟩] 110)
  have KO := Hid.mk' (implMO_any s _ hs (t.below N0).tb)
  have HT := Hid.mk' (t.below N0)
  obtain ⟨m1, m2⟩ := mo_bd s
  have KW : Hid (∀ W : World, Calls Tryz.prog 124 #[.int .i64 (moV s)] W fun e w' => e = .returned (.bool (width (moV s))) ∧ w' = W) := fun W => implWidth_any (moV s) W m1 m2
  have KF : Hid (∀ W : World, Calls Tryz.prog 126 #[.int .i64 (moV s)] W fun e w' => e = .returned (.float .f64 (bw (moV s))) ∧ w' = W) := fun W => floatOf_any (moV s) W m1 m2
  have bl := bw_lt m1 m2
  have em := bw_mod m1 m2
  have KA : Hid (∀ W : World, Calls Tryz.prog 125 #[.float .f64 (bw (moV s))] W fun e w' => e = .returned (.float .f64 (bw (moV s) % 9223372036854775808)) ∧ w' = W) := fun W => abs_any (bw (moV s)) W bl
  rw [em] at KA
  have rl := rung_lt m1 m2
  have KS : Hid (∀ W : World, TBS W → Calls Tryz.prog 127 #[.int .i64 (rung (moV s) : Int)] W fun e w' => e = .returned (.agg #[.int .i64 (mtC (rung (moV s) : Int)), .string (mtT (rung (moV s) : Int))]) ∧ Below W.heap.size W w') := fun W h => implMT_any (rung (moV s) : Int) W (by omega) (by omega) h.pt h.tw
  have mc := fun h => mtC_width (b := moV s) m1 m2 h
  have wr1 : IntKind.i64.wrap (rung (moV s) : Int) = (rung (moV s) : Int) := by rw [IntKind.wrap_i64]; omega
  have HR := Hid.mk' (rowQ2 w 110 (.int .i64 0) (.string ⟨#[]⟩))
  have HB := Hid.mk' N0
  have hC : moC s = if moB s = true then 0 else 5 := rfl
  clear N0 m1 m2 bl em t
  generalize hW : w.alloc (.cells #[.int .i64 0, .string ⟨#[]⟩] 110) = W at *
  cases hb : moB s
  · obtain ⟨e1, e2⟩ := wt_no hb
    rw [e1, e2]
    rw [hC, hb] at KO
    clear e1 e2 hb hC KW KF KA KS mc wr1 rl
    generalize moV s = V at *
    go_enter Tryz.func106, Tryz.ntmps106
    go_wp2_with fail
    clear hW
    refine KO.out.mono ?_
    rintro e w1 ⟨rfl, hb⟩
    obtain ⟨x0, x1, x2⟩ := cellsQ2 (rowB HR.out (hb.trans ((below_new w1 (.cells #[.int .i64 5, .int .i64 V] 157)).mono hb.size)))
    obtain ⟨f0, f1⟩ := frzQ2 (rowB HR.out (hb.trans ((below_new w1 (.cells #[.int .i64 5, .int .i64 V] 157)).mono hb.size)))
    have RM := rowQ2 w1 157 (.int .i64 5) (.int .i64 V)
    obtain ⟨y0, y1, y2⟩ := cellsQ2 RM
    have HB := Hid.mk' (HB.out.trans ((hb.trans ((below_new w1 (.cells #[.int .i64 5, .int .i64 V] 157)).mono hb.size)).mono HB.out.size))
    clear hb RM
    generalize hW1 : w1.alloc (.cells #[.int .i64 5, .int .i64 V] 157) = W1 at *
    go_wp2
    clear hW1
    refine bodyPost_ret (v := .agg #[.int .i64 5, .string ⟨#[]⟩]) (by simp [results, Tryz.results106, go_sem, *]) rfl ⟨rfl, ?_⟩
    exact (HB.out.setCell (p := ⟨w.heap.size, 0, none⟩) (by simp) _).setCell (p := ⟨w.heap.size, 1, none⟩) (by simp) _
  rw [hC, hb] at KO
  cases hq : width (moV s)
  · obtain ⟨e1, e2⟩ := wt_out hb hq
    rw [e1, e2]
    rw [hq] at KW
    clear e1 e2 hb hq hC KF KA KS mc wr1 rl
    generalize moV s = V at *
    go_enter Tryz.func106, Tryz.ntmps106
    go_wp2_with fail
    clear hW
    refine KO.out.mono ?_
    rintro e w1 ⟨rfl, hb⟩
    have B1 := hb.trans ((below_new w1 (.cells #[.int .i64 0, .int .i64 V] 157)).mono hb.size)
    obtain ⟨x0, x1, x2⟩ := cellsQ2 (rowB HR.out B1)
    obtain ⟨f0, f1⟩ := frzQ2 (rowB HR.out B1)
    have RM := rowQ2 w1 157 (.int .i64 0) (.int .i64 V)
    obtain ⟨y0, y1, y2⟩ := cellsQ2 RM
    have HB := Hid.mk' (HB.out.trans (B1.mono HB.out.size))
    clear hb RM B1
    generalize hW1 : w1.alloc (.cells #[.int .i64 0, .int .i64 V] 157) = W1 at *
    go_wp2_with fail
    clear hW1
    refine (KW.out _).mono ?_
    rintro e w2 ⟨rfl, hw⟩
    obtain rfl := hw.symm
    go_wp2
    refine bodyPost_ret (v := .agg #[.int .i64 3, .string ⟨#[]⟩]) (by simp [results, Tryz.results106, go_sem, *]) rfl ⟨rfl, ?_⟩
    exact (HB.out.setCell (p := ⟨w.heap.size, 0, none⟩) (by simp) _).setCell (p := ⟨w.heap.size, 1, none⟩) (by simp) _
  · obtain ⟨e1, e2⟩ := wt_in hb hq
    rw [e1, e2]
    rw [hq] at KW
    rw [mc hq] at KS
    clear e1 e2 hb hq hC mc
    generalize mtT (rung (moV s) : Int) = T at *
    generalize bw (moV s) = BW at *
    generalize rung (moV s) = R at *
    generalize moV s = V at *
    go_enter Tryz.func106, Tryz.ntmps106
    go_wp2_with fail
    clear hW
    refine KO.out.mono ?_
    rintro e w1 ⟨rfl, hb⟩
    have B1 := hb.trans ((below_new w1 (.cells #[.int .i64 0, .int .i64 V] 157)).mono hb.size)
    have RM := rowQ2 w1 157 (.int .i64 0) (.int .i64 V)
    obtain ⟨y0, y1, y2⟩ := cellsQ2 RM
    have HR := Hid.mk' (rowB HR.out B1)
    have HB := Hid.mk' (HB.out.trans (B1.mono HB.out.size))
    have HT := Hid.mk' (HT.out.below B1)
    clear hb RM B1
    generalize hW1 : w1.alloc (.cells #[.int .i64 0, .int .i64 V] 157) = W1 at *
    go_wp2_with fail
    clear hW1
    refine (KW.out _).mono ?_
    rintro e w2 ⟨rfl, hw⟩
    obtain rfl := hw.symm
    go_wp2_with fail
    refine (KF.out _).mono ?_
    rintro e w2 ⟨rfl, hw⟩
    obtain rfl := hw.symm
    go_wp2_with fail
    refine (KA.out _).mono ?_
    rintro e w2 ⟨rfl, hw⟩
    obtain rfl := hw.symm
    go_wp2_with fail
    refine (KS.out _ HT.out).mono ?_
    rintro e w2 ⟨rfl, hb⟩
    obtain ⟨x0, x1, x2⟩ := cellsQ2 (rowB HR.out hb)
    obtain ⟨f0, f1⟩ := frzQ2 (rowB HR.out hb)
    have HB := Hid.mk' (HB.out.trans (hb.mono HB.out.size))
    clear hb
    go_wp2
    refine bodyPost_ret (v := .agg #[.int .i64 0, .string T]) (by simp [results, Tryz.results106, go_sem, *]) rfl ⟨rfl, ?_⟩
    exact (HB.out.setCell (p := ⟨w.heap.size, 0, none⟩) (by simp) _).setCell (p := ⟨w.heap.size, 1, none⟩) (by simp) _

end Go.Proofs.YthhdfbgjdfoalaaGreatDoor
