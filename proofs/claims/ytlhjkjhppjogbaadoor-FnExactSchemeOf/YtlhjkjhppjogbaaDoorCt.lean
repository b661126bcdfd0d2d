/- SchemeOf: the program's side, and the law. -/
import Derived.Test.YtlhjkjhppjogbaaDoorCs
import Derived.Lib.SlBytesConst
namespace Go.Proofs.YtlhjkjhppjogbaaDoor
open Go.RowKit
set_option linter.unusedVariables false
set_option linter.unusedSimpArgs false

theorem BAt.take {w : World} {a : Option Addr} {l : List Int} (h : BAt w a l) (k : Nat) : BAt w a (l.take k) := by
  rcases h with h | ⟨b, o, e, hs, hc⟩
  · exact .inl (by rw [h]; simp)
  · refine .inr ⟨b, o, e, hs, fun i hi => ?_⟩
    rw [List.length_take] at hi
    rw [hc i (by omega)]
    unfold bv
    congr 2
    simp [List.getD_eq_getElem?_getD, List.getElem?_take, show i < k by omega]

theorem low_ascii {l : List Int} (h : l.any noLet = false) : ∀ (j : Nat) (b : UInt8), (strS l).data.toList[j]? = some b → b.toNat < 128 := by
  intro j b hj
  rw [strS_list, List.getElem?_map] at hj
  cases hx : l[j]? with
  | none => rw [hx] at hj; cases hj
  | some x =>
    rw [hx] at hj
    have e : b = UInt8.ofNat x.toNat := by simpa using hj.symm
    have hm : x ∈ l := List.mem_of_getElem? hx
    have hn : noLet x = false := by
      cases hh : noLet x with
      | false => rfl
      | true => rw [List.any_eq_false] at h; exact absurd hh (h x hm)
    have hb : x.toNat < 128 := by
      by_cases h1 : x.toNat < 128
      · exact h1
      · have := noLet_of (x := x) (by omega) (by omega)
        rw [this] at hn; cases hn
    rw [e]
    simp
    omega

theorem cell_marked (w : World) (x : Value) (t : TypeId) (r : Nat × Nat) : (w.alloc (.cells #[x] t r)).cell? ⟨w.heap.size, 0, none⟩ = some x := by
  unfold World.cell?
  have h : (w.alloc (.cells #[x] t r)).heap[w.heap.size]? = some (.cells #[x] t r) := Deep.blk_alloc_new _ _
  dsimp only
  rw [h]
  rfl

theorem strS_size (l : List Int) : (strS l).size = l.length := by
  have : (strS l).data.toList.length = l.length := by rw [strS_list]; simp
  simpa using this

set_option maxRecDepth 100000 in
set_option maxHeartbeats 3200000 in
theorem implSO_any (g c : Nat) (l : List Int) (w : World) (hr : w.rowIs g 5 l.length (bv l)) (hc : l.length ≤ c) (hu : ∀ k, k < l.length → 0 ≤ l.getD k 0 ∧ l.getD k 0 ≤ 255) (hl : (l.length : Int) ≤ 1048576) :
    Calls Tryd.prog 6 #[.slice (some ⟨g, 0, none⟩) l.length c] w fun e w' => e = .returned (.agg #[.int .i64 (schC l), .string (schT l)]) ∧ Below w.heap.size w w' := by
  have N0 := below_new w (.cells #[.int .i64 0, .string ⟨#[]⟩] 24)
  have HR := Hid.mk' (rowQ2 w 24 (.int .i64 0) (.string ⟨#[]⟩))
  have HB := Hid.mk' N0
  have hmem : ∀ x ∈ l, 0 ≤ x ∧ x ≤ 255 := fun x hx => by
    obtain ⟨i, hi, rfl⟩ := List.mem_iff_getElem.1 hx
    have := hu i hi
    rwa [show l.getD i 0 = l[i] by simp [hi]] at this
  by_cases big : (l.length : Int) > 240
  · have E1 : Hid (schC l = 6) := Hid.mk' (by unfold schC; rw [if_pos (by omega)])
    have E2 : Hid (schT l = ⟨#[]⟩) := Hid.mk' (by unfold schT; rw [if_pos (by omega)])
    clear hr hu hmem N0
    generalize hW : w.alloc (.cells #[.int .i64 0, .string ⟨#[]⟩] 24) = W at *
    obtain ⟨x0, x1, x2⟩ := cellsQ2 HR.out
    obtain ⟨f0, f1⟩ := frzQ2 HR.out
    go_enter Tryd.func6, Tryd.ntmps6
    go_wp2
    clear hW
    refine bodyPost_ret (v := .agg #[.int .i64 6, .string ⟨#[]⟩]) (by simp [results, Tryd.results6, go_sem, *]) rfl ⟨by rw [E1.out, E2.out], ?_⟩
    exact (HB.out.setCell (p := ⟨w.heap.size, 0, none⟩) (by simp) _).setCell (p := ⟨w.heap.size, 1, none⟩) (by simp) _
  have E2 : Hid (schT l = strS (schS l)) := Hid.mk' (by unfold schT; rw [if_neg (by omega)])
  have E1 : Hid (schC l = if schS l = [] then 4 else 0) := Hid.mk' (by unfold schC; rw [if_neg (by omega)])
  have N1 := below_new (w.alloc (.cells #[.int .i64 0, .string ⟨#[]⟩] 24)) (.cells #[.int .u8 58] 5 (1, 2))
  have NN := N0.trans (N1.mono N0.size)
  have HB := Hid.mk' NN
  have hrW := rowB hr NN
  have HRW := Hid.mk' (rowB HR.out N1)
  have hcol : ((w.alloc (.cells #[.int .i64 0, .string ⟨#[]⟩] 24)).alloc (.cells #[.int .u8 58] 5 (1, 2))).cell? ⟨w.heap.size + 1, 0, none⟩ = some (.int .u8 58) := by
    have h := cell_marked (w.alloc (.cells #[.int .i64 0, .string ⟨#[]⟩] 24)) (.int .u8 58) 5 (1, 2)
    rw [show (w.alloc (.cells #[.int .i64 0, .string ⟨#[]⟩] 24)).heap.size = w.heap.size + 1 by simp] at h
    exact h
  have hci : -1 ≤ colI l ∧ (0 ≤ colI l → colI l + 1 ≤ l.length) := by
    unfold colI
    by_cases h : colN l < l.length
    · rw [if_pos h]; omega
    · rw [if_neg h]; omega
  have KI := Tryd.bytes_Index_one g 0 l.length c (w.heap.size + 1) 0 1 l 58 _ rfl (fun i hi => by rw [Nat.zero_add]; exact hrW.cell hi) hcol
  have e58 : ((58 : Int).toNat.toUInt8) = 58 := by decide
  rw [e58, indexByte_is l hmem] at KI
  have KC := Hid.mk' (Tryd.bytes_Cut_of (some ⟨g, 0, none⟩) (some ⟨w.heap.size + 1, 0, none⟩) l.length c 1 1 (colI l) _ hc hci.1 hci.2 (by omega) (KI.mono fun e w' ⟨h1, h2⟩ => ⟨h1, 0, h2⟩))
  have HAT := Hid.mk' (BAt.of_row hrW)
  clear hr hu N0 N1 NN hrW KI hcol hci e58
  have CC : Hid (colN l < l.length ∧ colI l = (colN l : Int) ∨ ¬ colN l < l.length ∧ colI l = -1) := Hid.mk' (by
    unfold colI
    by_cases h : colN l < l.length
    · rw [if_pos h]; exact .inl ⟨h, rfl⟩
    · rw [if_neg h]; exact .inr ⟨h, rfl⟩)
  have ZW : Hid ((w.alloc (.cells #[.int .i64 0, .string ⟨#[]⟩] 24)).heap.size = w.heap.size + 1) := Hid.mk' (by simp)
  have kcv : (convert 22 22 (.slice (some ⟨w.heap.size + 1, 0, none⟩) 1 1)).run Tryd.prog ((w.alloc (.cells #[.int .i64 0, .string ⟨#[]⟩] 24)).alloc (.cells #[.int .u8 58] 5)) = .ok (.slice (some ⟨w.heap.size + 1, 0, none⟩) 1 1) ((w.alloc (.cells #[.int .i64 0, .string ⟨#[]⟩] 24)).alloc (.cells #[.int .u8 58] 5 (1, 2))) := by
    have h := Lib.run_convert_bytes_const (P := Tryd.prog) (w.alloc (.cells #[.int .i64 0, .string ⟨#[]⟩] 24)) 22 5 #[.int .u8 58] 1 1 Tryd.underlying22 Tryd.underlying5
    rw [ZW.out] at h
    exact h
  have KCV := Hid.mk' kcv
  clear kcv
  generalize hW : (w.alloc (.cells #[.int .i64 0, .string ⟨#[]⟩] 24)).alloc (.cells #[.int .u8 58] 5 (1, 2)) = W at *
  rcases CC.out with ⟨h1, h2⟩ | ⟨h1, h2⟩
  · rw [h2] at KC
    have eV : Lib.cutV (some ⟨g, 0, none⟩) l.length c 1 ((colN l : Nat) : Int) = .tuple #[.slice (some ⟨g, 0, none⟩) (colN l) c, Lib.fromV (some ⟨g, 0, none⟩) l.length c (colN l + 1), .bool true] := by
      unfold Lib.cutV
      rw [if_pos (by omega)]
      rfl
    rw [eV] at KC
    generalize Lib.fromV (some ⟨g, 0, none⟩) l.length c (colN l + 1) = vr at *
    clear eV h2 CC
    have hcc := KCV.out
    go_enter Tryd.func6, Tryd.ntmps6
    go_wp2_with fail
    clear hW hcc
    refine KC.out.mono ?_
    rintro e w1 ⟨rfl, q, hw⟩
    have hb : Below W.heap.size W w1 := by rw [hw]; exact below_drewN (Below.refl _ _) q
    have hlen : (l.take (colN l)).length = colN l := by rw [List.length_take]; omega
    have KF := containsF_any (some ⟨g, 0, none⟩) c (l.take (colN l)) w1 ((HAT.out.below hb).take _) (by rw [hlen]; omega)
    have hcv := conv_bytesS c ((HAT.out.below hb).take (colN l))
    rw [hlen] at KF hcv
    obtain ⟨x0, x1, x2⟩ := cellsQ2 (rowB HRW.out hb)
    obtain ⟨f0, f1⟩ := frzQ2 (rowB HRW.out hb)
    have HB := Hid.mk' (HB.out.trans (hb.mono HB.out.size))
    have HRW := Hid.mk' (rowB HRW.out hb)
    have hmt : ∀ x ∈ l.take (colN l), 0 ≤ x ∧ x ≤ 255 := fun x hx => hmem x (List.mem_of_mem_take hx)
    have HMT := Hid.mk' hmt
    have SS : Hid (schS l = if (l.take (colN l)).any noLet = false then (l.take (colN l)).map lowI else []) := Hid.mk' (by
      unfold schS
      by_cases h : (l.take (colN l)).any noLet = false
      · rw [if_pos ⟨h1, h⟩, if_pos h]
      · rw [if_neg (fun hh => h hh.2), if_neg h])
    clear hb hw KC hmt hmem
    by_cases hz : colN l = 0
    · have ES : Hid (schS l = []) := Hid.mk' (by rw [SS.out, hz]; rfl)
      rw [ES.out, if_pos rfl] at E1
      rw [ES.out] at E2
      have hz' : ((colN l : Nat) : Int) = 0 := by omega
      clear KF hcv SS ES hlen h1 HMT hz
      generalize colN l = n at *
      go_wp2_with go_big_skip
      refine bodyPost_ret (v := .agg #[.int .i64 4, .string ⟨#[]⟩]) (by simp [results, Tryd.results6, go_sem, *]) rfl ⟨by rw [E1.out, E2.out]; rfl, ?_⟩
      exact (HB.out.setCell (p := ⟨w.heap.size, 0, none⟩) (by simp) _).setCell (p := ⟨w.heap.size, 1, none⟩) (by simp) _
    · have hz' : (((colN l : Nat) : Int) == 0) = false := by rw [beq_eq_false_iff_ne]; omega
      cases hn : (l.take (colN l)).any noLet with
      | true =>
        have ES : Hid (schS l = []) := Hid.mk' (by rw [SS.out, hn]; rfl)
        rw [ES.out, if_pos rfl] at E1
        rw [ES.out] at E2
        rw [hn] at KF
        have KF := Hid.mk' KF
        clear hcv SS ES hlen h1 HMT hz hn
        generalize colN l = n at *
        go_wp2_with go_big_skip
        refine KF.out.mono ?_
        rintro e w2 ⟨rfl, hw⟩
        obtain rfl := hw.symm
        go_wp2
        refine bodyPost_ret (v := .agg #[.int .i64 4, .string ⟨#[]⟩]) (by simp [results, Tryd.results6, go_sem, *]) rfl ⟨by rw [E1.out, E2.out]; rfl, ?_⟩
        exact (HB.out.setCell (p := ⟨w.heap.size, 0, none⟩) (by simp) _).setCell (p := ⟨w.heap.size, 1, none⟩) (by simp) _
      | false =>
        have ES : Hid (schS l = (l.take (colN l)).map lowI) := Hid.mk' (by rw [SS.out, hn]; rfl)
        have hne : ¬ schS l = [] := by
          rw [ES.out]
          intro h
          have := congrArg List.length h
          rw [List.length_map, hlen] at this
          exact hz this
        rw [if_neg hne] at E1
        rw [ES.out, ← lower_is HMT.out] at E2
        rw [hn] at KF
        have KF := Hid.mk' KF
        have KL := Hid.mk' (Tryd.strings_ToLower_ascii (strS (l.take (colN l))) w1 (by rw [strS_size, hlen]; omega) (low_ascii hn))
        clear SS ES hne hlen h1 HMT hz hn
        generalize (⟨(Lib.toLowerA (strS (l.take (colN l))).data.toList).toArray⟩ : ByteArray) = t at *
        generalize strS (l.take (colN l)) = s at *
        generalize colN l = n at *
        go_wp2_with go_big_skip
        refine KF.out.mono ?_
        rintro e w2 ⟨rfl, hw⟩
        obtain rfl := hw.symm
        go_wp2_with fail
        refine KL.out.mono ?_
        rintro e w2 ⟨rfl, hb⟩
        obtain ⟨y0, y1, y2⟩ := cellsQ2 (rowB HRW.out hb)
        obtain ⟨g0, g1⟩ := frzQ2 (rowB HRW.out hb)
        have HB := Hid.mk' (HB.out.trans (hb.mono HB.out.size))
        clear hb x0 x1 x2 f0 f1 KL KF hcv
        go_wp2
        refine bodyPost_ret (v := .agg #[.int .i64 0, .string t]) (by simp [results, Tryd.results6, go_sem, *]) rfl ⟨by rw [E1.out, E2.out], ?_⟩
        exact (HB.out.setCell (p := ⟨w.heap.size, 0, none⟩) (by simp) _).setCell (p := ⟨w.heap.size, 1, none⟩) (by simp) _
  · rw [h2] at KC
    have eV : Lib.cutV (some ⟨g, 0, none⟩) l.length c 1 (-1) = .tuple #[.slice (some ⟨g, 0, none⟩) l.length c, .slice none 0 0, .bool false] := by
      unfold Lib.cutV
      rw [if_neg (by omega)]
    rw [eV] at KC
    have ES : Hid (schS l = []) := Hid.mk' (by unfold schS; rw [if_neg (fun h => h1 h.1)])
    rw [ES.out, if_pos rfl] at E1
    rw [ES.out] at E2
    clear eV h2 CC h1 ES
    have hcc := KCV.out
    go_enter Tryd.func6, Tryd.ntmps6
    go_wp2_with fail
    clear hW hcc
    refine KC.out.mono ?_
    rintro e w1 ⟨rfl, q, hw⟩
    have hb : Below W.heap.size W w1 := by rw [hw]; exact below_drewN (Below.refl _ _) q
    obtain ⟨x0, x1, x2⟩ := cellsQ2 (rowB HRW.out hb)
    obtain ⟨f0, f1⟩ := frzQ2 (rowB HRW.out hb)
    have HB := Hid.mk' (HB.out.trans (hb.mono HB.out.size))
    clear hb hw KC
    go_wp2_with go_big_skip
    refine bodyPost_ret (v := .agg #[.int .i64 4, .string ⟨#[]⟩]) (by simp [results, Tryd.results6, go_sem, *]) rfl ⟨by rw [E1.out, E2.out]; rfl, ?_⟩
    exact (HB.out.setCell (p := ⟨w.heap.size, 0, none⟩) (by simp) _).setCell (p := ⟨w.heap.size, 1, none⟩) (by simp) _

theorem eqTextR_any (z : Int) (s : ByteArray) (w : World) :
    Calls Tryd.prog 7 #[.agg #[.int .i64 z, .string s], .agg #[.int .i64 z, .string s]] w fun e w' => e = .returned (.bool true) ∧ Below w.heap.size w w' := by
  go_enter Tryd.func7, Tryd.ntmps7
  go_wp2
  go_ret
  exact ⟨rfl, ((Below.refl _ _).alloc (Nat.le_refl _) _).alloc (by simp) _⟩

set_option maxRecDepth 100000 in
set_option maxHeartbeats 3200000 in
/-- The law on SchemeOf. -/
theorem lawSO_any (a : Option Addr) (c : Nat) (l : List Int) (w : World) (ha : BAt w a l) (hu : ∀ k, k < l.length → 0 ≤ l.getD k 0 ∧ l.getD k 0 ≤ 255) (hm : (l.length : Int) ≤ 9223372036854775807) :
    Calls Tryd.prog 3 #[.slice a l.length c] w fun e w' => e = .returned (.bool true) ∧ Below w.heap.size w w' := by
  have HA := Hid.mk' ha
  have HU := Hid.mk' hu
  clear ha hu
  by_cases big : (l.length : Int) > 1048576
  · go_enter Tryd.func3, Tryd.ntmps3
    go_wp2
    go_ret
    exact ⟨rfl, Below.refl _ _⟩
  have hl : (l.length : Int) ≤ 1048576 := by omega
  go_enter Tryd.func3, Tryd.ntmps3
  go_wp2_with fail
  refine (toByteS_any a c l w HA.out hl).mono ?_
  rintro e w1 ⟨b1, rfl, _, r1, hb1⟩
  have R1 := Hid.mk' r1
  have B := Hid.mk' hb1
  clear r1 hb1 big
  go_wp2_with fail
  refine (specSO_any _ _ l w1 (.of_row R1.out) HU.out hl).mono ?_
  rintro e w2 ⟨rfl, hb⟩
  have N2 := below_new w2 (.cells #[.int .i64 (schC l), .string (schT l)] 24)
  have M2 := hb.trans (N2.mono hb.size)
  have B := Hid.mk' (B.out.trans (M2.mono B.out.size))
  have X1 := Hid.mk' (rowQ2 w2 24 (.int .i64 (schC l)) (.string (schT l)))
  clear hb N2 M2 R1
  generalize hW : w2.alloc (.cells #[.int .i64 (schC l), .string (schT l)] 24) = W2 at *
  go_wp2_with fail
  clear hW
  refine (toByteS_any a c l W2 (HA.out.below B.out) hl).mono ?_
  rintro e w3 ⟨b3, rfl, _, r3, hb3⟩
  have R3 := Hid.mk' r3
  have B := Hid.mk' (B.out.trans (hb3.mono B.out.size))
  have X1 := Hid.mk' (rowB X1.out hb3)
  clear r3 hb3
  go_wp2_with fail
  refine (implSO_any b3 l.length l w3 R3.out (Nat.le_refl _) HU.out hl).mono ?_
  rintro e w4 ⟨rfl, hb⟩
  have N4 := below_new w4 (.cells #[.int .i64 (schC l), .string (schT l)] 24)
  have M4 := hb.trans (N4.mono hb.size)
  have B := Hid.mk' (B.out.trans (M4.mono B.out.size))
  have X1 := Hid.mk' (rowB X1.out M4)
  have R3 := Hid.mk' (rowB R3.out M4)
  have X4 := Hid.mk' (rowQ2 w4 24 (.int .i64 (schC l)) (.string (schT l)))
  clear hb N4 M4
  generalize schC l = z at *
  generalize schT l = t at *
  generalize hW : w4.alloc (.cells #[.int .i64 z, .string t] 24) = W4 at *
  obtain ⟨x0, x1, x2⟩ := cellsQ2 X1.out
  obtain ⟨y0, y1, y2⟩ := cellsQ2 X4.out
  go_wp2_with fail
  clear hW
  refine (eqTextR_any z t W4).mono ?_
  rintro e w5 ⟨rfl, hb⟩
  have B := Hid.mk' (B.out.trans (hb.mono B.out.size))
  have R3 := Hid.mk' (rowB R3.out hb)
  clear hb x0 x1 x2 y0 y1 y2
  go_wp2_with fail
  refine (toByteS_any a c l w5 (HA.out.below B.out) hl).mono ?_
  rintro e w6 ⟨b6, rfl, _, r6, hb6⟩
  have B := Hid.mk' (B.out.trans (hb6.mono B.out.size))
  have R3 := Hid.mk' (rowB R3.out hb6)
  have R6 := Hid.mk' r6
  clear r6 hb6
  go_wp2_with fail
  refine (eqByteS_any _ _ _ _ l w6 (.of_row R3.out) (.of_row R6.out) hl).mono ?_
  rintro e w7 ⟨rfl, hb⟩
  have B := Hid.mk' (B.out.trans (hb.mono B.out.size))
  clear hb
  go_wp2
  go_ret
  exact ⟨rfl, B.out⟩

end Go.Proofs.YtlhjkjhppjogbaaDoor
