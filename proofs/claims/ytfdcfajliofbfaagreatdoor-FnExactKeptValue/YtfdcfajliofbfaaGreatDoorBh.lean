/- MeasureOf: the program's side, and the law. -/
import Derived.Test.YtfdcfajliofbfaaGreatDoorBg
import Derived.Test.YtfdcfajliofbfaaGreatDoorCq
namespace Go.Proofs.YtfdcfajliofbfaaGreatDoor
open Go.RowKit
open Ieee
set_option linter.unusedVariables false
set_option linter.unusedSimpArgs false

/-- What sizeIn leaves. -/
def SzP (r : ByteArray) (w : World) (e : Ending) (w' : World) : Prop := ∃ word : Nat, e = .returned (.tuple #[.float .f64 word, .bool (infB r || okR r)]) ∧ (infB r = true → word = 9218868437227405312) ∧ (infB r = false → okR r = true → word = wordQ (qR r)) ∧ Below w.heap.size w w'

theorem sz_no {r : ByteArray} {w w' : World} (h1 : infB r = false) (h2 : okR r = false) (hb : Below w.heap.size w w') : SzP r w (.returned (.tuple #[.float .f64 0, .bool false])) w' :=
  ⟨0, (by rw [h1, h2]; rfl), (fun h => by rw [h1] at h; cases h), (fun _ h => by rw [h2] at h; cases h), hb⟩

theorem whole_all {r : ByteArray} (h : dotN r = r.size) : wholeT r = r := by
  unfold wholeT
  rw [h]
  exact ByteArray.extract_zero_size

theorem okR_whole {r : ByteArray} (h : digOk (wholeT r) 4 = false) : okR r = false := by unfold okR; rw [h]; rfl
theorem okR_part {r : ByteArray} (hd : dotN r < r.size) (h : digOk (partT r) 3 = false) : okR r = false := by
  unfold okR; rw [h, decide_eq_false (by omega)]; simp

set_option maxHeartbeats 1600000 in
theorem sizeIn_any (r : ByteArray) (w : World) (hs : (r.size : Int) ≤ 1048576) (t : TBL w) :
    Calls Tryz.prog 81 #[.string r] w fun e w' => SzP r w e w' := by
  cases hi : infB r
  rotate_left
  · have hn : (r.toList == [105, 110, 102]) = true := hi
    have HI := Hid.mk' hi
    clear hi
    go_enter Tryz.func81, Tryz.ntmps81
    go_wp2_with fail
    refine (inf_any _).mono ?_
    rintro e w1 ⟨rfl, hw⟩
    obtain rfl := hw.symm
    go_wp2
    refine bodyPost_ret (v := .tuple #[.float .f64 9218868437227405312, .bool true]) (by simp [results, Tryz.results81, go_sem]) rfl ?_
    exact ⟨_, by rw [HI.out]; rfl, fun _ => rfl, fun h => (by rw [HI.out] at h; cases h), Below.refl _ _⟩
  have hn : (r.toList == [105, 110, 102]) = false := hi
  have HI := Hid.mk' hi
  clear hi
  have KC := cutD_any r w hs
  have HT := Hid.mk' t
  clear t
  unfold cutV at KC
  have hle := dotN_le r
  have ws := whole_size r
  have ps := part_size r
  by_cases hd : dotN r < r.size
  · rw [if_pos hd] at KC
    have KC := Hid.mk' KC
    have K1 : Hid (∀ W : World, Calls Tryz.prog 124 #[.string (wholeT r), .int .i64 4] W fun e w' => e = .returned (.bool (digOk (wholeT r) 4)) ∧ w' = W) := fun W => areDigits_any (wholeT r) 4 W (by omega) (by omega)
    have K2 : Hid (∀ W : World, Calls Tryz.prog 124 #[.string (partT r), .int .i64 3] W fun e w' => e = .returned (.bool (digOk (partT r) 3)) ∧ w' = W) := fun W => areDigits_any (partT r) 3 W (by omega) (by omega)
    cases h1 : digOk (wholeT r) 4
    · have E := Hid.mk' (okR_whole h1)
      rw [h1] at K1
      clear h1 K2 ws ps
      go_enter Tryz.func81, Tryz.ntmps81
      go_wp2_with fail
      refine KC.out.mono ?_
      rintro e w1 ⟨rfl, hb⟩
      have HB := Hid.mk' hb
      clear hb
      go_wp2_with fail
      refine (K1.out _).mono ?_
      rintro e w2 ⟨rfl, hw⟩
      obtain rfl := hw.symm
      go_wp2_with go_big_skip
      refine bodyPost_ret (v := .tuple #[.float .f64 0, .bool false]) (by simp [results, Tryz.results81, go_sem]) rfl ?_
      exact sz_no HI.out E.out HB.out
    cases h2 : digOk (partT r) 3
    · have E := Hid.mk' (okR_part hd h2)
      rw [h1] at K1
      rw [h2] at K2
      clear h1 h2 ws ps
      go_enter Tryz.func81, Tryz.ntmps81
      go_wp2_with fail
      refine KC.out.mono ?_
      rintro e w1 ⟨rfl, hb⟩
      have HB := Hid.mk' hb
      clear hb
      go_wp2_with fail
      refine (K1.out _).mono ?_
      rintro e w2 ⟨rfl, hw⟩
      obtain rfl := hw.symm
      go_wp2_with fail
      refine (K2.out _).mono ?_
      rintro e w2 ⟨rfl, hw⟩
      obtain rfl := hw.symm
      go_wp2_with go_big_skip
      refine bodyPost_ret (v := .tuple #[.float .f64 0, .bool false]) (by simp [results, Tryz.results81, go_sem]) rfl ?_
      exact sz_no HI.out E.out HB.out
    have HL : Hid (looks r) := Hid.mk' ⟨h1, .inr h2⟩
    rw [h1] at K1
    rw [h2] at K2
    clear h1 h2 ws ps
    go_enter Tryz.func81, Tryz.ntmps81
    go_wp2_with fail
    refine KC.out.mono ?_
    rintro e w1 ⟨rfl, hb⟩
    obtain ⟨word, x1, x2, x3, x4⟩ := parse_looks r HL.out w1 (HT.out.below hb)
    have HB := Hid.mk' hb
    have KQ := isQuarters_any word w1 (by omega)
    rw [Nat.mod_eq_of_lt (by omega), implQ_eq word (by omega), x2] at KQ
    have ed : decide (0 ≤ (if okR r = true then (qR r : Int) else -1)) = okR r := by
      cases okR r
      · rfl
      · exact decide_eq_true (Int.natCast_nonneg _)
    rw [ed] at KQ
    have KQ := Hid.mk' KQ
    have KF := Hid.mk' x4
    have X3 := Hid.mk' x3
    clear hb ed x1 x2 x3 x4
    generalize hq : okR r = ok at *
    have HQ := Hid.mk' hq
    clear hq
    go_wp2_with fail
    refine (K1.out _).mono ?_
    rintro e w2 ⟨rfl, hw⟩
    obtain rfl := hw.symm
    go_wp2_with fail
    refine (K2.out _).mono ?_
    rintro e w2 ⟨rfl, hw⟩
    obtain rfl := hw.symm
    go_wp2_with (first | fail | go_big_skip)
    refine KF.out.mono ?_
    rintro e w2 ⟨rfl, hw⟩
    obtain rfl := hw.symm
    go_wp2_with fail
    refine KQ.out.mono ?_
    rintro e w2 ⟨rfl, hw⟩
    obtain rfl := hw.symm
    go_wp2
    refine bodyPost_ret (v := .tuple #[.float .f64 word, .bool ok]) (by simp [results, Tryz.results81, go_sem]) rfl ?_
    exact ⟨word, by rw [HI.out, HQ.out]; rfl, fun h => (by rw [HI.out] at h; cases h), fun _ h => X3.out (by rw [← HQ.out]; exact h), HB.out⟩
  · have hd' : dotN r = r.size := by omega
    rw [if_neg hd] at KC
    have KC := Hid.mk' KC
    have K1 : Hid (∀ W : World, Calls Tryz.prog 124 #[.string r, .int .i64 4] W fun e w' => e = .returned (.bool (digOk r 4)) ∧ w' = W) := fun W => areDigits_any r 4 W (by omega) (by omega)
    have ew := whole_all hd'
    cases h1 : digOk r 4
    · have E := Hid.mk' (okR_whole (r := r) (by rw [ew]; exact h1))
      rw [h1] at K1
      clear h1 ws ps hd' ew hle
      go_enter Tryz.func81, Tryz.ntmps81
      go_wp2_with fail
      refine KC.out.mono ?_
      rintro e w1 ⟨rfl, hb⟩
      have HB := Hid.mk' hb
      clear hb
      go_wp2_with fail
      refine (K1.out _).mono ?_
      rintro e w2 ⟨rfl, hw⟩
      obtain rfl := hw.symm
      go_wp2_with go_big_skip
      refine bodyPost_ret (v := .tuple #[.float .f64 0, .bool false]) (by simp [results, Tryz.results81, go_sem]) rfl ?_
      exact sz_no HI.out E.out HB.out
    have HL : Hid (looks r) := Hid.mk' ⟨by rw [ew]; exact h1, .inl hd'⟩
    rw [h1] at K1
    clear h1 ws ps hd' ew hle
    go_enter Tryz.func81, Tryz.ntmps81
    go_wp2_with fail
    refine KC.out.mono ?_
    rintro e w1 ⟨rfl, hb⟩
    obtain ⟨word, x1, x2, x3, x4⟩ := parse_looks r HL.out w1 (HT.out.below hb)
    have HB := Hid.mk' hb
    have KQ := isQuarters_any word w1 (by omega)
    rw [Nat.mod_eq_of_lt (by omega), implQ_eq word (by omega), x2] at KQ
    have ed : decide (0 ≤ (if okR r = true then (qR r : Int) else -1)) = okR r := by
      cases okR r
      · rfl
      · exact decide_eq_true (Int.natCast_nonneg _)
    rw [ed] at KQ
    have KQ := Hid.mk' KQ
    have KF := Hid.mk' x4
    have X3 := Hid.mk' x3
    clear hb ed x1 x2 x3 x4
    generalize hq : okR r = ok at *
    have HQ := Hid.mk' hq
    clear hq
    go_wp2_with fail
    refine (K1.out _).mono ?_
    rintro e w2 ⟨rfl, hw⟩
    obtain rfl := hw.symm
    go_wp2_with (first | fail | go_big_skip)
    refine KF.out.mono ?_
    rintro e w2 ⟨rfl, hw⟩
    obtain rfl := hw.symm
    go_wp2_with fail
    refine KQ.out.mono ?_
    rintro e w2 ⟨rfl, hw⟩
    obtain rfl := hw.symm
    go_wp2
    refine bodyPost_ret (v := .tuple #[.float .f64 word, .bool ok]) (by simp [results, Tryz.results81, go_sem]) rfl ?_
    exact ⟨word, by rw [HI.out, HQ.out]; rfl, fun h => (by rw [HI.out] at h; cases h), fun _ h => X3.out (by rw [← HQ.out]; exact h), HB.out⟩

theorem prefix_minus (s : ByteArray) : Lib.hasPrefix s.data.toList [45] = minusB s := by
  unfold Lib.hasPrefix minusB
  rw [byS_list]
  have hl := data_len s
  cases h : s.data.toList with
  | nil => rw [h] at hl; simp at hl; simp [← hl]
  | cons c r =>
    rw [h] at hl
    simp only [List.length_cons] at hl
    rw [decide_eq_true (by omega : 0 < s.size), Bool.true_and]
    simp only [List.isPrefixOf, List.getD_cons_zero, Bool.and_true]
    by_cases e : c = 45
    · subst e; rfl
    · have : ¬ c.toNat = 45 := fun h => e (UInt8.toNat_inj.1 (by rw [h]; rfl))
      rw [decide_eq_false this]
      exact beq_eq_false_iff_ne.2 (fun h => e h.symm)

theorem ba_eq {x y : ByteArray} (h : x.data.toList = y.data.toList) : x = y := by
  cases x; cases y
  simp at h
  rw [h]

theorem trim_rest (s : ByteArray) : (⟨(Lib.trimPrefix s.data.toList [45]).toArray⟩ : ByteArray) = restT s := by
  unfold Lib.trimPrefix restT
  rw [prefix_minus]
  cases minusB s
  · simp
  · apply ba_eq
    show (s.data.toList.drop 1).toArray.toList = (s.extract 1 s.size).data.toList
    rw [ByteArray.data_extract]
    simp
    exact (List.take_of_length_le (by rw [List.length_tail, data_len]; exact Nat.le_refl _)).symm

set_option maxHeartbeats 1600000 in
theorem implMO_any (s : ByteArray) (w : World) (hs : (s.size : Int) ≤ 1048576) (t : TBL w) :
    Calls Tryz.prog 43 #[.string s] w fun e w' => e = .returned (.agg #[.int .i64 (moC s), .int .i64 (moV s)]) ∧ Below w.heap.size w w' := by
  have N0 := below_new w (.cells #[.int .i64 0, .int .i64 0] 72)
  have KP := Tryz.strings_CutPrefix s ⟨#[45]⟩ (w.alloc (.cells #[.int .i64 0, .int .i64 0] 72))
  have KS := sizeIn_any (restT s) (w.alloc (.cells #[.int .i64 0, .int .i64 0] 72)) (by have := rest_size s; omega) (t.below N0)
  have RB := Hid.mk' (rowQ2 w 72 (.int .i64 0) (.int .i64 0))
  have HN := Hid.mk' N0
  have ep : (⟨#[45]⟩ : ByteArray).data.toList = [45] := rfl
  rw [ep, trim_rest, prefix_minus] at KP
  have KP := Hid.mk' KP
  have KS := Hid.mk' KS
  clear t N0 ep
  generalize hW : w.alloc (.cells #[.int .i64 0, .int .i64 0] 72) = W at *
  have hC : moC s = if moB s = true then 0 else 5 := rfl
  rcases mo_cases s with ⟨h1, e2, e3⟩ | ⟨h1, h2, e2, e3⟩ | ⟨h1, h2, h3, e2, e3⟩ | ⟨h1, h2, h3, e2, e3⟩
  · rw [hC, e2, e3]
    have hn : (s.toList == [110, 97, 110]) = true := h1
    obtain ⟨b0, b1, b2⟩ := cellsQ2 RB.out
    have f0 := RB.out.frozen 0
    have f1 := RB.out.frozen 1
    clear h1 e2 e3 hC KP KS
    go_enter Tryz.func43, Tryz.ntmps43
    go_wp2
    clear hW
    refine bodyPost_ret (v := .agg #[.int .i64 0, .int .i64 9221120237041090560]) (by simp [results, Tryz.results43, go_sem, *]) rfl ?_
    exact ⟨rfl, (HN.out.setCell (p := ⟨w.heap.size, 0, none⟩) (Nat.le_refl _) _).setCell (p := ⟨w.heap.size, 1, none⟩) (Nat.le_refl _) _⟩
  all_goals have hn : (s.toList == [110, 97, 110]) = false := h1
  all_goals rw [hC, e2, e3]
  all_goals clear hC e2 e3 h1
  all_goals generalize minusB s = M at *
  all_goals generalize restT s = T at *
  · have HI := Hid.mk' h2
    clear h2
    go_enter Tryz.func43, Tryz.ntmps43
    go_wp2_with fail
    clear hW
    refine KP.out.mono ?_
    rintro e w1 ⟨rfl, hw⟩
    obtain rfl := hw.symm
    go_wp2_with fail
    refine KS.out.mono ?_
    rintro e w1 ⟨word, rfl, x1, x2, hb⟩
    obtain rfl := x1 HI.out
    rw [HI.out, Bool.true_or]
    have R1 := rowB RB.out hb
    have HB := Hid.mk' (HN.out.trans (hb.mono HN.out.size))
    have KG := Hid.mk' (signed_any M 9218868437227405312 w1 (by omega))
    have fin : IntKind.i64.wrap (((if M then 9218868437227405312 + 9223372036854775808 else 9218868437227405312) : Nat) : Int) = signBits M 9218868437227405312 := by
      rw [IntKind.wrap_i64]
      unfold signBits
      cases M <;> simp
    obtain ⟨sb, hsb⟩ : ∃ sb, signBits M 9218868437227405312 = sb := ⟨_, rfl⟩
    rw [hsb] at fin
    have HSB := Hid.mk' hsb
    clear hsb
    obtain ⟨b0, b1, b2⟩ := cellsQ2 R1
    have f0 := R1.frozen 0
    have f1 := R1.frozen 1
    clear hb R1 x1 x2
    generalize (if M then 9218868437227405312 + 9223372036854775808 else 9218868437227405312) = sg at *
    go_wp2_with fail
    refine KG.out.mono ?_
    rintro e w2 ⟨rfl, hw⟩
    obtain rfl := hw.symm
    go_wp2
    refine bodyPost_ret (v := .agg #[.int .i64 0, .int .i64 sb]) (by simp [results, Tryz.results43, go_sem, *]) rfl ?_
    exact ⟨by rw [HSB.out], (HB.out.setCell (p := ⟨w.heap.size, 0, none⟩) (Nat.le_refl _) _).setCell (p := ⟨w.heap.size, 1, none⟩) (Nat.le_refl _) _⟩
  · have HI := Hid.mk' h2
    have HO := Hid.mk' h3
    have wl := wordQ_lt _ (numA_ok h3).2
    clear h2 h3
    go_enter Tryz.func43, Tryz.ntmps43
    go_wp2_with fail
    clear hW
    refine KP.out.mono ?_
    rintro e w1 ⟨rfl, hw⟩
    obtain rfl := hw.symm
    go_wp2_with fail
    refine KS.out.mono ?_
    rintro e w1 ⟨word, rfl, x1, x2, hb⟩
    obtain rfl := x2 HI.out HO.out
    rw [HI.out, HO.out, Bool.or_true]
    have R1 := rowB RB.out hb
    have HB := Hid.mk' (HN.out.trans (hb.mono HN.out.size))
    have KG := Hid.mk' (signed_any M (wordQ (qR T)) w1 (by omega))
    have fin : IntKind.i64.wrap (((if M then wordQ (qR T) + 9223372036854775808 else wordQ (qR T)) : Nat) : Int) = signBits M (wordQ (qR T)) := by
      rw [IntKind.wrap_i64]
      unfold signBits
      cases M <;> simp <;> omega
    obtain ⟨sb, hsb⟩ : ∃ sb, signBits M (wordQ (qR T)) = sb := ⟨_, rfl⟩
    rw [hsb] at fin
    have HSB := Hid.mk' hsb
    clear hsb
    obtain ⟨b0, b1, b2⟩ := cellsQ2 R1
    have f0 := R1.frozen 0
    have f1 := R1.frozen 1
    clear hb R1 x1 x2
    generalize hwd : wordQ (qR T) = wd at *
    have HWD := Hid.mk' hwd
    clear hwd
    generalize (if M then wd + 9223372036854775808 else wd) = sg at *
    go_wp2_with fail
    refine KG.out.mono ?_
    rintro e w2 ⟨rfl, hw⟩
    obtain rfl := hw.symm
    go_wp2
    refine bodyPost_ret (v := .agg #[.int .i64 0, .int .i64 sb]) (by simp [results, Tryz.results43, go_sem, *]) rfl ?_
    exact ⟨by rw [HWD.out, HSB.out], (HB.out.setCell (p := ⟨w.heap.size, 0, none⟩) (Nat.le_refl _) _).setCell (p := ⟨w.heap.size, 1, none⟩) (Nat.le_refl _) _⟩
  · have HI := Hid.mk' h2
    have HO := Hid.mk' h3
    clear h2 h3
    go_enter Tryz.func43, Tryz.ntmps43
    go_wp2_with fail
    clear hW
    refine KP.out.mono ?_
    rintro e w1 ⟨rfl, hw⟩
    obtain rfl := hw.symm
    go_wp2_with fail
    refine KS.out.mono ?_
    rintro e w1 ⟨word, rfl, x1, x2, hb⟩
    rw [HI.out, HO.out, Bool.or_false]
    have R1 := rowB RB.out hb
    have HB := Hid.mk' (HN.out.trans (hb.mono HN.out.size))
    obtain ⟨b0, b1, b2⟩ := cellsQ2 R1
    have f0 := R1.frozen 0
    have f1 := R1.frozen 1
    clear hb R1 x1 x2
    go_wp2
    refine bodyPost_ret (v := .agg #[.int .i64 5, .int .i64 0]) (by simp [results, Tryz.results43, go_sem, *]) rfl ?_
    exact ⟨rfl, (HB.out.setCell (p := ⟨w.heap.size, 0, none⟩) (Nat.le_refl _) _).setCell (p := ⟨w.heap.size, 1, none⟩) (Nat.le_refl _) _⟩

end Go.Proofs.YtfdcfajliofbfaaGreatDoor
