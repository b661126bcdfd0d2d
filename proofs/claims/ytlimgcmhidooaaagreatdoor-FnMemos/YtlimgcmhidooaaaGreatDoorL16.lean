/- The model's l4Note, l4Read, ReadTag. -/
import Derived.Test.YtlimgcmhidooaaaGreatDoorL15
import Derived.Test.YtlimgcmhidooaaaGreatDoorL14
set_option linter.unusedVariables false
set_option linter.unusedSimpArgs false
namespace Go.Proofs.YtlimgcmhidooaaaGreatDoor
open Go.RowKit

def noteA (L : List UInt8) : Bool := decide (7 ≤ L.length) && (decide (L.take 4 = [60, 33, 45, 45]) && decide (L.drop (L.length - 3) = [45, 45, 62]))

set_option maxRecDepth 100000 in
set_option maxHeartbeats 400000 in
theorem l4Note_any (s : ByteArray) (w : World) (hs : s.size ≤ 1000) :
    Calls Tryz.prog 133 #[.string s] w fun e w' => e = .returned (.bool (noteA s.data.toList)) ∧ w' = w := by
  have hl := len_list s
  have P : Hid (noteA s.data.toList = (decide (7 ≤ s.size) && (decide (s.data.toList.take 4 = [60, 33, 45, 45]) && decide (s.data.toList.drop (s.size - 3) = [45, 45, 62])))) := Hid.mk' (by unfold noteA; rw [hl])
  by_cases c1 : 7 ≤ s.size
  rotate_left
  · have E : Hid (noteA s.data.toList = false) := Hid.mk' (by rw [P.out, decide_eq_false c1]; rfl)
    have d1 : ¬ (s.size : Int) ≥ 7 := by omega
    go_enter Tryz.func133, Tryz.ntmps133
    go_wp2_with go_big_skip
    go_ret
    exact ⟨by rw [E.out]; rfl, rfl⟩
  have d1 : (s.size : Int) ≥ 7 := by omega
  have i1 : (4 : Int) ≤ (s.size : Int) := by omega
  have i2 : (0 : Int) ≤ (s.size : Int) - 3 := by omega
  have i3 : (s.size : Int) - 3 ≤ (s.size : Int) := by omega
  have i4 : ((s.size : Int) - 3).toNat = s.size - 3 := by omega
  have e1 : ((s.extract 0 4).toList == [60, 33, 45, 45]) = decide (s.data.toList.take 4 = [60, 33, 45, 45]) := by rw [beq_list, ext_list]; rfl
  have e2 : ((s.extract (s.size - 3) s.size).toList == [45, 45, 62]) = decide (s.data.toList.drop (s.size - 3) = [45, 45, 62]) := by rw [beq_list, tail_list]
  by_cases c2 : s.data.toList.take 4 = [60, 33, 45, 45]
  rotate_left
  · have E : Hid (noteA s.data.toList = false) := Hid.mk' (by rw [P.out, decide_eq_false c2]; simp)
    rw [decide_eq_false c2] at e1
    clear c2 e2 P
    go_enter Tryz.func133, Tryz.ntmps133
    go_wp2_with go_big_skip
    go_ret
    exact ⟨by rw [E.out]; rfl, rfl⟩
  rw [decide_eq_true c2] at e1
  have E : Hid (noteA s.data.toList = decide (s.data.toList.drop (s.size - 3) = [45, 45, 62])) := Hid.mk' (by rw [P.out, decide_eq_true c1, decide_eq_true c2]; simp)
  clear c2 P
  rw [← e2] at E
  clear e2
  go_enter Tryz.func133, Tryz.ntmps133
  go_wp2_with go_big_skip
  go_ret
  exact ⟨by rw [E.out]; rfl, rfl⟩

theorem TagP.mk {r : Option TK} {w w' : World} (t : TK) (ok : Bool) (ht : t.at_ = []) (hr : r = (if ok = true then some t else none)) (hb : Below w.heap.size w w') : TagP r w (.returned (.tuple #[.agg #[.int .i64 t.kd, .int .i64 t.by_, .string t.nm, .slice none 0 0, .bool t.sh], .bool ok])) w' :=
  ⟨t, .slice none 0 0, [], ok, rfl, by rw [ht]; exact OA.nil _ _, hr, hb⟩

theorem note_pre (L : List UInt8) (h : (L.getD 0 0).toNat = 60) : (decide (L.take 4 = [60, 33, 45, 45])) = Lib.hasPrefix (L.drop 1) [33, 45, 45] := by
  match L, h with
  | [], h => simp at h
  | a :: r, h =>
    have ha : a = 60 := UInt8.toNat_inj.1 (by simpa using h)
    subst ha
    rw [Bool.eq_iff_iff, decide_eq_true_eq]
    show (60 :: r).take 4 = [60, 33, 45, 45] ↔ Lib.hasPrefix r [33, 45, 45] = true
    rw [prefix_iff]
    constructor
    · intro h
      have h' : r.take 3 = [33, 45, 45] := by simpa using h
      exact ⟨r.drop 3, by rw [← h', List.take_append_drop]⟩
    · rintro ⟨S, rfl⟩
      simp

theorem tag_short (L : List UInt8) (h : L.length < 3) : tagA L = none := by
  unfold tagA
  by_cases c1 : (L.getD 0 0).toNat = 60
  · rw [if_pos c1]
    have hp : ¬ Lib.hasPrefix (L.drop 1) [33, 45, 45] = true := by
      rw [prefix_iff]
      rintro ⟨S, e⟩
      have := congrArg List.length e
      simp at this
      omega
    rw [if_neg hp]
    by_cases c2 : (L.getD 1 0).toNat = 47
    · rw [if_pos c2, if_neg]
      have : L.drop 2 = [] := List.drop_of_length_le (by omega)
      rw [this]
      rintro ⟨⟨a, _⟩, _⟩
      simp [spn] at a
    · rw [if_neg c2]
      by_cases c3 : 1 ≤ spn pL (L.drop 1) ∧ spn pL (L.drop 1) ≤ 8
      · rw [if_pos c3, show L.drop (1 + spn pL (L.drop 1)) = [] from List.drop_of_length_le (by omega)]
        have : insideA (L.length + 1) [] [] = none := by unfold insideA; simp [spn]
        rw [this]
      · rw [if_neg c3]
  · rw [if_neg c1]
theorem tag_other (L : List UInt8) (h : ¬ (L.getD 0 0).toNat = 60) : tagA L = none := by unfold tagA; rw [if_neg h]
theorem suf3 (M : List UInt8) : Lib.hasSuffix M [45, 45, 62] = true ↔ 3 ≤ M.length ∧ M.drop (M.length - 3) = [45, 45, 62] := by
  unfold Lib.hasSuffix
  rw [List.isSuffixOf_iff_suffix]
  constructor
  · rintro ⟨t, rfl⟩
    refine ⟨by simp, ?_⟩
    simp
  · rintro ⟨h1, h2⟩
    exact ⟨M.take (M.length - 3), by rw [← h2, List.take_append_drop]⟩
theorem tag_note (L : List UInt8) (h0 : (L.getD 0 0).toNat = 60) (h1 : (L.getD 1 0).toNat = 33) : tagA L = if noteA L = true then some ⟨4, 0, ⟨#[]⟩, [], false⟩ else none := by
  unfold tagA noteA
  rw [if_pos h0, note_pre L h0]
  by_cases c0 : Lib.hasPrefix (L.drop 1) [33, 45, 45] = true
  · rw [if_pos c0]
    have hs := suf3 (L.drop 4)
    rw [List.length_drop, List.drop_drop] at hs
    by_cases c1 : 7 ≤ L.length
    · rw [show 4 + (L.length - 4 - 3) = L.length - 3 from by omega] at hs
      by_cases c2 : L.drop (L.length - 3) = [45, 45, 62]
      · rw [if_pos (hs.2 ⟨by omega, c2⟩), if_pos (by rw [c0, decide_eq_true c1, decide_eq_true c2]; rfl)]
      · rw [if_neg (fun h => c2 (hs.1 h).2), if_neg (by simp [c2])]
    · rw [if_neg (fun h => by have := (hs.1 h).1; omega), if_neg (by simp; omega)]
  · rw [if_neg c0, if_neg (by omega)]
    have hz : spn pL (L.drop 1) = 0 := spn_zero_of (by rw [getD_drop]; unfold pL; rw [h1]; decide)
    rw [hz, if_neg (by omega), if_neg (by rw [Bool.not_eq_true] at c0; rw [c0]; simp)]
theorem tag_start (L : List UInt8) (h0 : (L.getD 0 0).toNat = 60) (h1 : ¬ (L.getD 1 0).toNat = 33) (h2 : ¬ (L.getD 1 0).toNat = 47) : tagA L = startA L := by
  unfold tagA startA
  have hp : ¬ Lib.hasPrefix (L.drop 1) [33, 45, 45] = true := by
    rw [prefix_iff]
    rintro ⟨S, e⟩
    have : (L.drop 1).getD 0 0 = 33 := by rw [e]; rfl
    rw [getD_drop] at this
    exact h1 (by rw [this]; rfl)
  rw [if_pos h0, if_neg hp, if_neg h2]
  by_cases c3 : 1 ≤ spn pL (L.drop 1) ∧ spn pL (L.drop 1) ≤ 8
  · rw [if_pos c3, if_pos c3]
    cases insideA (L.length + 1) (L.drop (1 + spn pL (L.drop 1))) [] with
    | none => rfl
    | some p => rfl
  · rw [if_neg c3, if_neg c3]
theorem tag_end (s : ByteArray) (hs : 3 ≤ s.size) (h0 : (s.data.toList.getD 0 0).toNat = 60) (h1 : (s.data.toList.getD 1 0).toNat = 47) : tagA s.data.toList = if nmB (s.extract 2 (s.size - 1)) = true ∧ (s.data.toList.getD (s.size - 1) 0).toNat = 62 then some ⟨3, 0, s.extract 2 (s.size - 1), [], false⟩ else none := by
  have hl := len_list s
  have hp : ¬ Lib.hasPrefix (s.data.toList.drop 1) [33, 45, 45] = true := by
    rw [prefix_iff]
    rintro ⟨S, e⟩
    have : (s.data.toList.drop 1).getD 0 0 = 33 := by rw [e]; rfl
    rw [getD_drop] at this
    have h2 : (s.data.toList.getD 1 0).toNat = 33 := by rw [this]; rfl
    omega
  unfold tagA
  rw [if_pos h0, if_neg hp, if_pos h1]
  by_cases hc : nmB (s.extract 2 (s.size - 1)) = true ∧ (s.data.toList.getD (s.size - 1) 0).toNat = 62
  · rw [if_pos hc]
    have hm := (nmB_iff _).1 hc.1
    have es : (s.extract 2 (s.size - 1)).size = s.size - 3 := by simp; omega
    have hn : spn pL (s.data.toList.drop 2) = s.size - 3 := by
      have := spn_from (p := pL) (L := s.data.toList) (k := 2) (m := s.size - 1) (by omega) (by omega) (fun j a b => by
          have h := hm.2.2 (j - 2) (by rw [es]; omega) (by rw [es]; omega)
          rw [get_list (ext_list s 2 (s.size - 1)) (j - 2) (by rw [es]; omega)] at h
          refine ltrB_true ?_
          have e : ((s.data.toList.drop 2).take (s.size - 1 - 2)).getD (j - 2) 0 = s.data.toList.getD j 0 := by
            rw [List.getD_eq_getElem?_getD, List.getElem?_take_of_lt (by omega), ← List.getD_eq_getElem?_getD, getD_drop, show 2 + (j - 2) = j from by omega]
          rw [e] at h
          exact h) (fun _ => by unfold pL; rw [hc.2]; decide)
      omega
    have hz := hm.1
    have hz2 := hm.2.1
    rw [es] at hz hz2
    rw [hn, if_pos ⟨by omega, (one_left _ _).2 ⟨by omega, by rw [show 2 + (s.size - 3) = s.size - 1 from by omega]; exact hc.2⟩⟩]
    rw [show (⟨((s.data.toList.drop 2).take (s.size - 3)).toArray⟩ : ByteArray) = s.extract 2 (s.size - 1) from ba_ext (by rw [ext_list, show s.size - 1 - 2 = s.size - 3 from by omega])]
  · rw [if_neg hc, if_neg]
    rintro ⟨ha, hb⟩
    have hb := (one_left _ _).1 hb
    refine hc ⟨?_, by rw [show s.size - 1 = 2 + spn pL (s.data.toList.drop 2) from by omega]; exact hb.2⟩
    rw [nmB_take _ (s.data.toList.drop 2) (by rw [ext_list, show s.size - 1 - 2 = spn pL (s.data.toList.drop 2) from by omega])]
    simp; omega

set_option maxRecDepth 100000 in
set_option maxHeartbeats 3200000 in
theorem l4Read_any (s : ByteArray) (w : World) (hs : s.size ≤ 1000) :
    Calls Tryz.prog 122 #[.string s] w fun e w' => TagP (tagA s.data.toList) w e w' := by
  have hl := len_list s
  have B0 := Hid.mk' (below_new w (.cells #[.int .i64 0, .int .i64 0, .string ⟨#[]⟩, .slice none 0 0, .bool false] 107))
  have RR := row5 w 107 (.int .i64 0) (.int .i64 0) (.string ⟨#[]⟩) (.slice none 0 0) (.bool false)
  have sz0 : (w.alloc (.cells #[.int .i64 0, .int .i64 0, .string ⟨#[]⟩, .slice none 0 0, .bool false] 107)).heap.size = w.heap.size + 1 := by simp
  obtain ⟨d0, d1, d2, d3, d4, d5⟩ := cells5 RR
  have f0 := RR.frozen 0
  have f1 := RR.frozen 1
  have f2 := RR.frozen 2
  have f3 := RR.frozen 3
  have f4 := RR.frozen 4
  have HR := Hid.mk' RR
  clear RR
  generalize hw0 : w.alloc (.cells #[.int .i64 0, .int .i64 0, .string ⟨#[]⟩, .slice none 0 0, .bool false] 107) = w0 at *
  by_cases c3 : s.size < 3
  · have E : Hid (tagA s.data.toList = none) := Hid.mk' (tag_short _ (by omega))
    have ci : (s.size : Int) < 3 := by omega
    go_enter Tryz.func122, Tryz.ntmps122
    go_wp2_with go_big_skip
    clear hw0
    refine bodyPost_ret (v := .tuple #[.agg #[.int .i64 0, .int .i64 0, .string ⟨#[]⟩, .slice none 0 0, .bool false], .bool false]) ?_ rfl ?_
    · simp [results, Tryz.results122, go_sem, d0, d1, d2, d3, d4, d5]
    · exact TagP.mk ⟨0, 0, ⟨#[]⟩, [], false⟩ false rfl (by rw [E.out]; rfl) (five_below B0.out w.heap.size _ _ _ _ _ (Nat.le_refl _))
  have ci : ¬ (s.size : Int) < 3 := by omega
  have l0 : 0 < s.size := by omega
  have l1 : 1 < s.size := by omega
  have G0 : Hid ((s[0]'l0).toNat = (s.data.toList.getD 0 0).toNat) := Hid.mk' (get_list rfl 0 l0)
  have G1 : Hid ((s[1]'l1).toNat = (s.data.toList.getD 1 0).toNat) := Hid.mk' (get_list rfl 1 l1)
  by_cases c60 : (s[0]'l0).toNat = 60
  rotate_left
  · have E : Hid (tagA s.data.toList = none) := Hid.mk' (tag_other _ (by rw [← G0.out]; exact c60))
    have e1 : (((s[0]'l0).toNat : Int) != 60) = true := by simp; omega
    clear c60
    go_enter Tryz.func122, Tryz.ntmps122
    go_wp2_with go_big_skip
    clear hw0
    refine bodyPost_ret (v := .tuple #[.agg #[.int .i64 0, .int .i64 0, .string ⟨#[]⟩, .slice none 0 0, .bool false], .bool false]) ?_ rfl ?_
    · simp [results, Tryz.results122, go_sem, d0, d1, d2, d3, d4, d5]
    · exact TagP.mk ⟨0, 0, ⟨#[]⟩, [], false⟩ false rfl (by rw [E.out]; rfl) (five_below B0.out w.heap.size _ _ _ _ _ (Nat.le_refl _))
  have e1 : (((s[0]'l0).toNat : Int) != 60) = false := by simp; omega
  have H0 := Hid.mk' (show (s.data.toList.getD 0 0).toNat = 60 by rw [← G0.out]; exact c60)
  clear c60 G0
  by_cases c33 : (s[1]'l1).toNat = 33
  · have E := Hid.mk' (tag_note _ H0.out (by rw [← G1.out]; exact c33))
    have e2 : ((s[1]'l1).toNat : Int) = 33 := by omega
    have e2' : (((s[1]'l1).toNat : Int) == 33) = true := by simp; omega
    have KN := Hid.mk' (l4Note_any s w0 hs)
    clear c33
    go_enter Tryz.func122, Tryz.ntmps122
    go_wp2_with (first | go_big_skip | (go_at_call 133; refine KN.out.mono ?_; rintro e w1 ⟨rfl, hw⟩; obtain rfl := hw.symm))
    clear hw0
    refine bodyPost_ret (v := .tuple #[.agg #[.int .i64 4, .int .i64 0, .string ⟨#[]⟩, .slice none 0 0, .bool false], .bool (noteA s.data.toList)]) ?_ rfl ?_
    · simp [results, Tryz.results122, go_sem, d0, d1, d2, d3, d4, d5]
    · exact TagP.mk ⟨4, 0, ⟨#[]⟩, [], false⟩ (noteA s.data.toList) rfl E.out (five_below B0.out w.heap.size _ _ _ _ _ (Nat.le_refl _))
  have e2 : ¬ ((s[1]'l1).toNat : Int) = 33 := by omega
  have e2' : (((s[1]'l1).toNat : Int) == 33) = false := by simp; omega
  have H1 := Hid.mk' (show ¬ (s.data.toList.getD 1 0).toNat = 33 by rw [← G1.out]; exact c33)
  clear c33
  by_cases c47 : (s[1]'l1).toNat = 47
  rotate_left
  · have E := Hid.mk' (tag_start _ H0.out H1.out (by rw [← G1.out]; exact c47))
    have e3 : ¬ ((s[1]'l1).toNat : Int) = 47 := by omega
    have e3' : (((s[1]'l1).toNat : Int) == 47) = false := by simp; omega
    have KS := Hid.mk' (l4Start_any s w0 hs (by omega))
    clear c47
    go_enter Tryz.func122, Tryz.ntmps122
    go_wp2_with (first | go_big_skip | fail)
    clear hw0
    refine KS.out.mono ?_
    rintro e w1 ⟨t, v, us, ok, rfl, hOA, hr, hb⟩
    have R1 := rowB HR.out hb
    clear d0 d1 d2 d3 d4 d5 f0 f1 f2 f3 f4
    obtain ⟨d0, d1, d2, d3, d4, d5⟩ := cells5 R1
    have f0 := R1.frozen 0
    have f1 := R1.frozen 1
    have f2 := R1.frozen 2
    have f3 := R1.frozen 3
    have f4 := R1.frozen 4
    obtain ⟨av, cv, rfl, _⟩ := hOA.at
    have HO := Hid.mk' hOA
    have HX := Hid.mk' (E.out.trans hr)
    have B1 := Hid.mk' (B0.out.trans (hb.mono (by omega)))
    clear hb R1 hOA hr
    go_wp2
    refine bodyPost_ret (v := .tuple #[.agg #[.int .i64 t.kd, .int .i64 t.by_, .string t.nm, .slice av t.at_.length cv, .bool t.sh], .bool ok]) ?_ rfl ?_
    · simp [results, Tryz.results122, go_sem, d0, d1, d2, d3, d4, d5]
    · exact ⟨t, _, us, ok, rfl, HO.out.keep (by omega) (fun k hk _ => five_other w1 w.heap.size k _ _ _ _ _ (by omega)), HX.out, five_below B1.out w.heap.size _ _ _ _ _ (Nat.le_refl _)⟩
  have E := Hid.mk' (tag_end s (by omega) H0.out (by rw [← G1.out]; exact c47))
  have e3 : ((s[1]'l1).toNat : Int) = 47 := by omega
  have e3' : (((s[1]'l1).toNat : Int) == 47) = true := by simp; omega
  obtain ⟨m, hm⟩ : ∃ m, s.size - 1 = m := ⟨_, rfl⟩
  rw [hm] at E
  have lz : m < s.size := by omega
  have GZ : Hid ((s[m]'lz).toNat = (s.data.toList.getD m 0).toNat) := Hid.mk' (get_list rfl m lz)
  have im : (s.size : Int) - 1 = (m : Int) := by omega
  have i1 : (0 : Int) ≤ (m : Int) := by omega
  have i2 : (2 : Int) ≤ (m : Int) := by omega
  have i3 : (m : Int) ≤ (s.size : Int) := by omega
  have i5 : (m : Int) < (s.size : Int) := by omega
  have iw : IntKind.i64.wrap (m : Int) = (m : Int) := by rw [IntKind.wrap_i64]; omega
  have KM := l4Name_any (s.extract 2 m)
  have hx := ext_size s 2 m
  clear c47 G1 hm
  cases hnm : nmB (s.extract 2 m) with
  | false =>
    have KN : Hid (∀ w1, Calls Tryz.prog 134 #[.string (s.extract 2 m)] w1 fun e w' => e = .returned (.bool false) ∧ w' = w1) := Hid.mk' (fun w1 => by have := KM w1 (by omega); rw [hnm] at this; exact this)
    have E : Hid (tagA s.data.toList = none) := Hid.mk' (E.out.trans (if_neg (fun h => by rw [hnm] at h; exact absurd h.1 (by decide))))
    clear KM hnm
    go_enter Tryz.func122, Tryz.ntmps122
    go_wp2_with go_big_skip
    clear hw0
    refine wp_region_held_drew (S := (fun _ => True)) (by kernel_rfl) trivial (fun hHeld => ?_)
    refine tkY 0 ?_
    refine tkY 1 ?_
    refine tkY 2 ?_
    refine wpAnyH_ready (rs := [3]) (by kernel_rfl) (by simp) ?_
    refine AllReadyH.cons (o := ⟨_, _, _, _, _, _⟩) rfl (fun K hK => ?_) AllReadyH.nil
    go_simp
    go_at_call 134; refine (KN.out _).mono ?_; rintro e w6 ⟨rfl, hw⟩; obtain rfl := hw.symm
    refine hK.out _ _ trivial (fun hHeld => ?_)
    clear hK K
    try clear hx hy
    try simp only [Act.put, zA, zB, zC]
    refine tkY 4 ?_
    refine tkU 5 ?_
    refine tkU 6 ?_
    refine tkU 7 ?_
    refine tkU 8 ?_
    refine tkU 9 ?_
    refine tkU 10 ?_
    refine tkY 11 ?_
    refine wpAnyH_ready (rs := [12]) (by kernel_rfl) (by simp) ?_
    refine AllReadyH.cons (o := ⟨_, _, _, _, _, _⟩) rfl (fun K hK => ?_) AllReadyH.nil
    go_simp
    skip
    refine hK.out _ _ trivial (fun hHeld => ?_)
    clear hK K
    try clear hx hy
    try simp only [Act.put, zA, zB, zC]
    refine tkY 13 ?_
    refine wpAnyH_done (by kernel_rfl) ?_ _
    go_wp2
    refine bodyPost_ret (v := .tuple #[.agg #[.int .i64 3, .int .i64 0, .string (s.extract 2 m), .slice none 0 0, .bool false], .bool false]) ?_ rfl ?_
    · simp [results, Tryz.results122, go_sem, d0, d1, d2, d3, d4, d5]
    · exact TagP.mk ⟨3, 0, s.extract 2 m, [], false⟩ false rfl (by rw [E.out]; rfl) (five_below B0.out w.heap.size _ _ _ _ _ (Nat.le_refl _)).drew
  | true =>
    have KN : Hid (∀ w1, Calls Tryz.prog 134 #[.string (s.extract 2 m)] w1 fun e w' => e = .returned (.bool true) ∧ w' = w1) := Hid.mk' (fun w1 => by have := KM w1 (by omega); rw [hnm] at this; exact this)
    have E : Hid (tagA s.data.toList = if (((s[m]'lz).toNat : Int) == 62) = true then some ⟨3, 0, s.extract 2 m, [], false⟩ else none) := Hid.mk' (E.out.trans (by
      by_cases h : (s.data.toList.getD m 0).toNat = 62
      · rw [if_pos ⟨hnm, h⟩, if_pos (by rw [GZ.out, h]; rfl)]
      · rw [if_neg (fun x => h x.2), if_neg (fun x => h (by rw [GZ.out] at x; have := eq_of_beq x; omega))]))
    clear KM hnm GZ
    cases e62 : (((s[m]'lz).toNat : Int) == 62) with
    | true =>
      rw [e62] at E
      go_enter Tryz.func122, Tryz.ntmps122
      go_wp2_with go_big_skip
      clear hw0
      refine wp_region_held_drew (S := (fun _ => True)) (by kernel_rfl) trivial (fun hHeld => ?_)
      refine tkY 0 ?_
      refine tkY 1 ?_
      refine tkY 2 ?_
      refine wpAnyH_ready (rs := [3]) (by kernel_rfl) (by simp) ?_
      refine AllReadyH.cons (o := ⟨_, _, _, _, _, _⟩) rfl (fun K hK => ?_) AllReadyH.nil
      go_simp
      go_at_call 134; refine (KN.out _).mono ?_; rintro e w6 ⟨rfl, hw⟩; obtain rfl := hw.symm
      refine hK.out _ _ trivial (fun hHeld => ?_)
      clear hK K
      try clear hx hy
      try simp only [Act.put, zA, zB, zC]
      refine tkY 4 ?_
      refine tkY 5 ?_
      refine tkY 6 ?_
      refine tkY 7 ?_
      refine tkY 8 ?_
      refine tkY 9 ?_
      refine tkY 10 ?_
      refine tkY 11 ?_
      refine wpAnyH_ready (rs := [12]) (by kernel_rfl) (by simp) ?_
      refine AllReadyH.cons (o := ⟨_, _, _, _, _, _⟩) rfl (fun K hK => ?_) AllReadyH.nil
      go_simp
      skip
      refine hK.out _ _ trivial (fun hHeld => ?_)
      clear hK K
      try clear hx hy
      try simp only [Act.put, zA, zB, zC]
      refine tkY 13 ?_
      refine wpAnyH_done (by kernel_rfl) ?_ _
      go_wp2
      refine bodyPost_ret (v := .tuple #[.agg #[.int .i64 3, .int .i64 0, .string (s.extract 2 m), .slice none 0 0, .bool false], .bool true]) ?_ rfl ?_
      · simp [results, Tryz.results122, go_sem, d0, d1, d2, d3, d4, d5]
      · exact TagP.mk ⟨3, 0, s.extract 2 m, [], false⟩ true rfl E.out (five_below B0.out w.heap.size _ _ _ _ _ (Nat.le_refl _)).drew
    | false =>
      rw [e62] at E
      go_enter Tryz.func122, Tryz.ntmps122
      go_wp2_with go_big_skip
      clear hw0
      refine wp_region_held_drew (S := (fun _ => True)) (by kernel_rfl) trivial (fun hHeld => ?_)
      refine tkY 0 ?_
      refine tkY 1 ?_
      refine tkY 2 ?_
      refine wpAnyH_ready (rs := [3]) (by kernel_rfl) (by simp) ?_
      refine AllReadyH.cons (o := ⟨_, _, _, _, _, _⟩) rfl (fun K hK => ?_) AllReadyH.nil
      go_simp
      go_at_call 134; refine (KN.out _).mono ?_; rintro e w6 ⟨rfl, hw⟩; obtain rfl := hw.symm
      refine hK.out _ _ trivial (fun hHeld => ?_)
      clear hK K
      try clear hx hy
      try simp only [Act.put, zA, zB, zC]
      refine tkY 4 ?_
      refine tkY 5 ?_
      refine tkY 6 ?_
      refine tkY 7 ?_
      refine tkY 8 ?_
      refine tkY 9 ?_
      refine tkY 10 ?_
      refine tkY 11 ?_
      refine wpAnyH_ready (rs := [12]) (by kernel_rfl) (by simp) ?_
      refine AllReadyH.cons (o := ⟨_, _, _, _, _, _⟩) rfl (fun K hK => ?_) AllReadyH.nil
      go_simp
      skip
      refine hK.out _ _ trivial (fun hHeld => ?_)
      clear hK K
      try clear hx hy
      try simp only [Act.put, zA, zB, zC]
      refine tkY 13 ?_
      refine wpAnyH_done (by kernel_rfl) ?_ _
      go_wp2
      refine bodyPost_ret (v := .tuple #[.agg #[.int .i64 3, .int .i64 0, .string (s.extract 2 m), .slice none 0 0, .bool false], .bool false]) ?_ rfl ?_
      · simp [results, Tryz.results122, go_sem, d0, d1, d2, d3, d4, d5]
      · exact TagP.mk ⟨3, 0, s.extract 2 m, [], false⟩ false rfl E.out (five_below B0.out w.heap.size _ _ _ _ _ (Nat.le_refl _)).drew

def rtC (L : List UInt8) : Int := if 160 < L.length then 6 else (match tagA L with | none => 5 | some _ => 0)
def rtT (L : List UInt8) : TK := if 160 < L.length then ⟨0, 0, ⟨#[]⟩, [], false⟩ else (match tagA L with | none => ⟨0, 0, ⟨#[]⟩, [], false⟩ | some t => t)

def r6 (c x y z u v : Value) (i : Nat) : Value := if i = 0 then c else r5 x y z u v (i - 1)
theorem row6 (w : World) (t : TypeId) (c x y z u v : Value) : (w.alloc (.cells #[c, x, y, z, u, v] t)).rowIs w.heap.size t 6 (r6 c x y z u v) :=
  ⟨_, Deep.blk_alloc_new _ _, rfl, fun i hi => by
    have : i = 0 ∨ i = 1 ∨ i = 2 ∨ i = 3 ∨ i = 4 ∨ i = 5 := by omega
    rcases this with rfl | rfl | rfl | rfl | rfl | rfl <;> rfl⟩
theorem cells6 {w : World} {g : Nat} {ty : TypeId} {c x y z u v : Value} (h : w.rowIs g ty 6 (r6 c x y z u v)) : w.cell? ⟨g, 0, none⟩ = some c ∧ w.cell? ⟨g, 1, none⟩ = some x ∧ w.cell? ⟨g, 2, none⟩ = some y ∧ w.cell? ⟨g, 3, none⟩ = some z ∧ w.cell? ⟨g, 4, none⟩ = some u ∧ w.cell? ⟨g, 5, none⟩ = some v ∧ g < w.heap.size :=
  ⟨h.cell (by omega), h.cell (by omega), h.cell (by omega), h.cell (by omega), h.cell (by omega), h.cell (by omega), h.lt⟩
def ResP (L : List UInt8) (w : World) (e : Ending) (w' : World) : Prop := ∃ v us, e = .returned (.agg #[.int .i64 (rtC L), .int .i64 (rtT L).kd, .int .i64 (rtT L).by_, .string (rtT L).nm, v, .bool (rtT L).sh]) ∧ OA w.heap.size w' v (rtT L).at_ us ∧ Below w.heap.size w w'

end Go.Proofs.YtlimgcmhidooaaaGreatDoor

namespace Go.Proofs.YtlimgcmhidooaaaGreatDoor
open Go.RowKit

def tcs : List TK → List Value → List Value
  | t :: l, u :: us => .int .i64 t.kd :: .int .i64 t.by_ :: .string t.nm :: u :: .bool t.sh :: tcs l us
  | _, _ => []

theorem tcs_len : ∀ (l : List TK) (us : List Value), us.length = l.length → (tcs l us).length = l.length * 5
  | [], us, h => by cases us <;> rfl
  | a :: l, [], h => by simp at h
  | a :: l, u :: us, h => by
    simp only [tcs, List.length_cons]
    rw [tcs_len l us (by simpa using h)]; omega

theorem tcs_app : ∀ (l : List TK) (us : List Value) (m : List TK) (vs : List Value), us.length = l.length → tcs (l ++ m) (us ++ vs) = tcs l us ++ tcs m vs
  | [], [], m, vs, _ => rfl
  | [], u :: us, _, _, h => by simp at h
  | b :: l, [], _, _, h => by simp at h
  | b :: l, v :: us, m, vs, h => by
    simp only [List.cons_append, tcs]
    rw [tcs_app l us m vs (by simpa using h)]

def byteT (b : Int) : TK := ⟨1, b, ⟨#[]⟩, [], false⟩
def bytesT (l : List Int) : List TK := l.map byteT
def nils (n : Nat) : List Value := List.replicate n (.slice none 0 0)

theorem nils_len (n : Nat) : (nils n).length = n := by simp [nils]
theorem bytesT_len (l : List Int) : (bytesT l).length = l.length := by simp [bytesT]

theorem tcs_one : ∀ (l : List TK) (us : List Value), (∀ u ∈ us, u.oneCell' = true) → ∀ u ∈ tcs l us, u.oneCell' = true
  | [], us, _, u, hu => by cases us <;> simp [tcs] at hu
  | a :: l, [], _, u, hu => by simp [tcs] at hu
  | a :: l, v :: us, h, u, hu => by
    simp only [tcs, List.mem_cons] at hu
    rcases hu with rfl | rfl | rfl | rfl | rfl | hu
    · rfl
    · rfl
    · rfl
    · exact h _ (by simp)
    · rfl
    · exact tcs_one l us (fun u hu => h u (by simp [hu])) u hu

theorem Tryz.infoTok : (Tryz.prog.info? 107).map (fun i => (i.zero, i.size, i.bytes)) = some (some (.agg #[.int .i64 0, .int .i64 0, .string ⟨#[]⟩, .slice none 0 0, .bool false]), 5, 64) := by kernel_rfl

theorem bytesT_snoc (l : List Int) (b : Int) : tcs (bytesT (l ++ [b])) (nils (l ++ [b]).length) = tcs (bytesT l) (nils l.length) ++ [.int .i64 1, .int .i64 b, .string ⟨#[]⟩, .slice none 0 0, .bool false] := by
  have e1 : bytesT (l ++ [b]) = bytesT l ++ [byteT b] := by simp [bytesT]
  have e2 : nils (l ++ [b]).length = nils l.length ++ [.slice none 0 0] := by simp [nils, List.replicate_succ']
  rw [e1, e2, tcs_app _ _ _ _ (by rw [nils_len, bytesT_len])]
  rfl

theorem new_cells' (w : World) (t : TypeId) (xs : List Value) (g : Nat) (hg : w.heap.size = g) : ∀ j u, xs[j]? = some u → (w.alloc (.cells xs.toArray t)).cell? ((⟨g, 0, none⟩ : Addr).add j) = some u := by
  intro j u h
  subst hg
  rw [Addr.add_mid, Nat.zero_add]
  have := Lib.cell_of_heap (w := w.alloc (.cells xs.toArray t)) (Deep.blk_alloc_new w (.cells xs.toArray t)) j
  rw [this]
  simpa using h

theorem take_snoc_int {l : List Int} {k : Nat} (h : k < l.length) : l.take (k + 1) = l.take k ++ [l.getD k 0] := by
  rw [List.take_succ_eq_append_getElem h]
  simp [h]

set_option maxRecDepth 100000 in
set_option maxHeartbeats 3200000 in
theorem l5Go_any (a : Option Addr) (c : Nat) (l : List Int) (w : World) (ha : BAt w a l) (hu : ∀ k, k < l.length → 0 ≤ l.getD k 0 ∧ l.getD k 0 ≤ 255) (hl : l.length ≤ 1000) :
    Calls Tryz.prog 68 #[.slice a l.length c] w fun e w' => ∃ v, e = .returned v ∧ w'.ownsRow w.heap.size 107 5 v l.length (tcs (bytesT l) (nils l.length)) ∧ Below w.heap.size w w' := by
  have HA := Hid.mk' ha
  clear ha
  have O0 := Hid.mk' (World.ownsRow_lit (base := w.heap.size) (e := 107) (size := 5) w #[] 0 (Nat.le_refl _) (by unfold maxLen; omega) rfl)
  have B0 := Hid.mk' (below_new w (.cells #[] 107))
  go_enter Tryz.func68, Tryz.ntmps68
  go_wp2
  go_loopw [3, 4] (fun v i wr => ∃ k : Nat, k ≤ l.length ∧ i = .int .i64 k ∧ wr.ownsRow w.heap.size 107 5 v k (tcs (bytesT (l.take k)) (nils k)) ∧ Below w.heap.size w wr) (fun _ i _ => l.length - (intOf i).toNat)
  case atStart => exact ⟨0, Nat.zero_le _, rfl, O0.out, B0.out⟩
  case round =>
    obtain ⟨k, hk, rfl, hown, hbl⟩ := hrel
    have HO := Hid.mk' hown
    have HB := Hid.mk' hbl
    by_cases hlt : k < l.length
    · have ci : (k : Int) < (l.length : Int) := by omega
      rcases HA.out with ha | ⟨b, o, rfl, hbs, hc⟩
      · exact absurd hlt (by rw [ha]; exact Nat.not_lt_zero _)
      obtain ⟨y, hy⟩ : ∃ y, l.getD k 0 = y := ⟨_, rfl⟩
      have h1 : wr.cell? ⟨b, o + k, none⟩ = some (.int .u8 y) := by rw [← hy]; exact (hbl.cell hbs).trans (hc k hlt)
      obtain ⟨y0, y1⟩ := hu k hlt
      rw [hy] at y0 y1
      have wy : IntKind.i64.wrap y = y := by rw [IntKind.wrap_i64]; omega
      have E : Hid (tcs (bytesT (l.take (k + 1))) (nils (k + 1)) = tcs (bytesT (l.take k)) (nils k) ++ [.int .i64 1, .int .i64 y, .string ⟨#[]⟩, .slice none 0 0, .bool false]) := Hid.mk' (by
        have e := bytesT_snoc (l.take k) y
        rw [take_snoc_int hlt, hy]
        have n1 : (l.take k ++ [y]).length = k + 1 := by simp; omega
        have n2 : (l.take k).length = k := by simp; omega
        rw [n1, n2] at e
        exact e)
      have VB := below_new wr (.cells #[.int .i64 1, .int .i64 y, .string ⟨#[]⟩, .slice none 0 0, .bool false] 107)
      have OV := Hid.mk' (own_keep HO.out VB)
      have NC := Hid.mk' (new_cells' wr 107 [.int .i64 1, .int .i64 y, .string ⟨#[]⟩, .slice none 0 0, .bool false] wr.heap.size rfl)
      have HB := Hid.mk' (HB.out.trans (VB.mono HB.out.size))
      have SZ : Hid (w.heap.size ≤ (wr.alloc (.cells #[.int .i64 1, .int .i64 y, .string ⟨#[]⟩, .slice none 0 0, .bool false] 107)).heap.size) := Hid.mk' HB.out.size
      have P1 : Hid (∀ u ∈ ([.int .i64 1, .int .i64 y, .string ⟨#[]⟩, .slice none 0 0, .bool false] : List Value), u.oneCell' = true) := Hid.mk' (by
        intro u hu'
        simp only [List.mem_cons, List.not_mem_nil, or_false] at hu'
        rcases hu' with rfl | rfl | rfl | rfl | rfl <;> rfl)
      clear hc hown hbl VB hy
      go_wp2_with (at_builtin; refine wpList_append_at _ rfl (.tmp 12) (.tmp 19) 24 rfl w.heap.size 107 (.agg #[.int .i64 0, .int .i64 0, .string ⟨#[]⟩, .slice none 0 0, .bool false]) 5 64 Tryz.underlying24 Tryz.infoTok rfl (by decide) _ _ _ rfl OV.out _ 1 _ [.int .i64 1, .int .i64 y, .string ⟨#[]⟩, .slice none 0 0, .bool false] rfl rfl (.inr ⟨_, rfl, NC.out⟩) P1.out (by unfold maxLen; omega) (by omega) SZ.out ?_; intro v' w1 ho hgr hat)
      have O2 : Hid (w1.ownsRow w.heap.size 107 5 v' (k + 1) (tcs (bytesT (l.take (k + 1))) (nils (k + 1)))) := Hid.mk' (by rw [E.out]; exact ho)
      have B2 := Hid.mk' (HB.out.grown hgr SZ.out (own_lo OV.out))
      clear ho hgr hat
      go_roundw
      case rel => exact ⟨k + 1, by omega, by go_num, O2.out, B2.out⟩
      case measure => simp [intOf]; omega
    · have ci : ¬ (k : Int) < (l.length : Int) := by omega
      have e : k = l.length := by omega
      subst e
      rw [List.take_length] at hown
      have HO := Hid.mk' hown
      clear hown hbl
      go_wp2
      go_ret
      exact ⟨_, rfl, HO.out, HB.out⟩

end Go.Proofs.YtlimgcmhidooaaaGreatDoor

namespace Go.Proofs.YtlimgcmhidooaaaGreatDoor
open Go.RowKit

end Go.Proofs.YtlimgcmhidooaaaGreatDoor
