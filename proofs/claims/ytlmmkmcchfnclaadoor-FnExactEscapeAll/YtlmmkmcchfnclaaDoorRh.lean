/- EscapeAll: both sides. -/
import Derived.Test.YtlmmkmcchfnclaaDoorRg
namespace Go.Proofs.YtlmmkmcchfnclaaDoor
open Go.RowKit Go.Maps
set_option linter.unusedVariables false
set_option linter.unusedSimpArgs false

/-- What EscapeAll answers. -/
def eaF (l : List Int) : Int × List Int := if etCode l = 0 then (if 240 < (etText l).size then (6, []) else (0, bytesL (etText l))) else (etCode l, [])

theorem eaF_cases (l : List Int) : (etCode l = 0 → 240 < (etText l).size → eaF l = (6, [])) ∧ (etCode l = 0 → ¬ 240 < (etText l).size → eaF l = (0, bytesL (etText l))) ∧ (¬ etCode l = 0 → eaF l = (etCode l, [])) := by
  unfold eaF
  exact ⟨fun h k => by rw [if_pos h, if_pos k], fun h k => by rw [if_pos h, if_neg k], fun h => by rw [if_neg h]⟩

theorem eaF_len (l : List Int) : ((eaF l).2.length : Int) ≤ 1048576 := by
  unfold eaF
  split
  · split
    · simp
    · rw [bytesL_len]; omega
  · simp

set_option maxRecDepth 100000 in
set_option maxHeartbeats 1600000 in
theorem specEA_any (a : Option Addr) (d : Nat) (l : List Int) (w : World) (ha : BAt w a l) (hB : Bytes l) (hl : (l.length : Int) ≤ 1048576) :
    Calls Tryd.prog 4 #[.slice a l.length d] w fun e w' => KqP (eaF l) w e w' := by
  have N0 := below_new w (.cells #[.int .i64 0, .slice none 0 0] 24)
  have HB0 := Hid.mk' N0
  have HR := Hid.mk' (rowQ2 w 24 (.int .i64 0) (.slice none 0 0))
  have KT := Hid.mk' (specET_any a d l _ (ha.below N0) hB hl)
  have HF := Hid.mk' (eaF_cases l)
  generalize eaF l = R at *
  generalize etCode l = C at *
  generalize etText l = T at *
  clear ha hB N0
  generalize hW : w.alloc (.cells #[.int .i64 0, .slice none 0 0] 24) = W at *
  go_enter Tryd.func4, Tryd.ntmps4
  go_wp2_with fail
  clear hW
  refine KT.out.mono ?_
  rintro e w2 ⟨rfl, hb2⟩
  have N2 := below_new w2 (.cells #[.int .i64 C, .string T] 33)
  have B2 := hb2.trans (N2.mono hb2.size)
  have HB := Hid.mk' (HB0.out.trans (B2.mono HB0.out.size))
  have HR2 := Hid.mk' (rowB HR.out B2)
  obtain ⟨y0, y1, y2⟩ := cellsQ2 (rowB HR.out B2)
  obtain ⟨f0, f1⟩ := frzQ2 (rowB HR.out B2)
  have RT := rowQ2 w2 33 (.int .i64 C) (.string T)
  clear hb2 N2 B2 KT
  generalize hW2 : w2.alloc (.cells #[.int .i64 C, .string T] 33) = W2 at *
  obtain ⟨t0, t1, t2⟩ := cellsQ2 RT
  by_cases h0 : C = 0
  · subst h0
    by_cases h1 : 240 < T.size
    · have E := Hid.mk' (HF.out.1 rfl h1)
      have h1' : (240 : Int) < (T.size : Int) := by omega
      go_wp2_with fail
      refine bodyPost_ret (v := .agg #[.int .i64 6, .slice none 0 0]) (by simp [results, Tryd.results4, go_sem, *]) rfl ?_
      exact kqP_nil E.out ((HB.out.setCell (p := ⟨w.heap.size, 0, none⟩) (by simp) _).setCell (p := ⟨w.heap.size, 1, none⟩) (by simp) _)
    · have E := Hid.mk' (HF.out.2.1 rfl h1)
      have h1' : ¬ (240 : Int) < (T.size : Int) := by omega
      have hcv : ∀ X : World, (convert 9 22 (.string T)).run Tryd.prog X = .ok (.slice (some ⟨X.heap.size, 0, none⟩) T.size (grownCap X T.size 0 5)) (Lib.bytesWorld X 5 T) := fun X => Lib.run_convert_string_bytes (P := Tryd.prog) X 9 22 5 T Tryd.underlying9 Tryd.underlying22 Tryd.underlying5
      have HBW := Hid.mk' (show Below W2.heap.size W2 (Lib.bytesWorld W2 5 T) from Lib.bytesWorld_below W2 5 T)
      have HAT := Hid.mk' (show BAt (Lib.bytesWorld W2 5 T) (some ⟨W2.heap.size, 0, none⟩) (bytesL T) from bytes_at W2 T)
      have HL := Hid.mk' (bytesL_len T)
      have HFA := Hid.mk' (bytes_free W2 T)
      have HSZ := Hid.mk' y2
      have HSW := Hid.mk' HB.out.size
      obtain ⟨z0, z1, z2⟩ := cellsQ2 (rowB HR2.out HBW.out)
      obtain ⟨g0, g1⟩ := frzQ2 (rowB HR2.out HBW.out)
      go_wp2_with fail
      have HB3 := Hid.mk' (HB.out.trans (HBW.out.mono HB.out.size))
      generalize Lib.bytesWorld W2 5 T = W3 at *
      generalize grownCap W2 T.size 0 5 = cp at *
      refine bodyPost_ret (v := .agg #[.int .i64 0, .slice (some ⟨W2.heap.size, 0, none⟩) T.size cp]) (by simp [results, Tryd.results4, go_sem, *]) rfl ?_
      refine ⟨some ⟨W2.heap.size, 0, none⟩, cp, ?_, ?_, ?_, (fun b o e => by cases e; exact HSW.out), (HB3.out.setCell (p := ⟨w.heap.size, 0, none⟩) (by simp) _).setCell (p := ⟨w.heap.size, 1, none⟩) (by simp) _⟩
      · rw [E.out]
        show _ = Ending.returned (.agg #[.int .i64 0, .slice _ (bytesL T).length _])
        rw [HL.out]
      · rw [E.out]
        exact HAT.out.setTwo (fun b o e _ => by cases e; have := HSZ.out; omega)
      · rw [E.out]
        show FrA _ _ (bytesL T).length
        rw [HL.out]
        exact HFA.out.setTwo
  · have E := Hid.mk' (HF.out.2.2 h0)
    have h0b : (C != 0) = true := by simp [h0]
    go_wp2_with fail
    refine bodyPost_ret (v := .agg #[.int .i64 C, .slice none 0 0]) (by simp [results, Tryd.results4, go_sem, *]) rfl ?_
    exact kqP_nil E.out ((HB.out.setCell (p := ⟨w.heap.size, 0, none⟩) (by simp) _).setCell (p := ⟨w.heap.size, 1, none⟩) (by simp) _)

/-- The whole text escaped, or an error. -/
def EwP (r : Int × List Int) (w : World) (e : Ending) (w' : World) : Prop := ∃ v c', e = .returned (.tuple #[.slice v r.2.length c', eV r.1]) ∧ BAt w' v r.2 ∧ FrA w' v r.2.length ∧ (∀ b o, v = some ⟨b, o, none⟩ → w.heap.size ≤ b) ∧ Below w.heap.size w w'

set_option maxRecDepth 100000 in
set_option maxHeartbeats 1600000 in
theorem escapedWhole_any (a : Option Addr) (d : Nat) (l : List Int) (w : World) (hr : Refs w) (ha : BAt w a l) (hB : Bytes l) (hl : (l.length : Int) ≤ 1048576) :
    Calls Tryd.prog 13 #[.slice a l.length d] w fun e w' => EwP (eaF l) w e w' := by
  have KT := Hid.mk' (implET_any a d l w hr ha hB hl)
  have HF := Hid.mk' (eaF_cases l)
  generalize eaF l = R at *
  generalize etCode l = C at *
  generalize etText l = T at *
  clear ha hB hr
  go_enter Tryd.func13, Tryd.ntmps13
  go_wp2_with fail
  refine KT.out.mono ?_
  rintro e w2 ⟨rfl, hb2⟩
  have N2 := below_new w2 (.cells #[.int .i64 C, .string T] 33)
  have HB := Hid.mk' (hb2.trans (N2.mono hb2.size))
  have RT := rowQ2 w2 33 (.int .i64 C) (.string T)
  clear hb2 N2 KT
  generalize hW2 : w2.alloc (.cells #[.int .i64 C, .string T] 33) = W2 at *
  obtain ⟨t0, t1, t2⟩ := cellsQ2 RT
  go_wp2_with fail
  clear hW2
  refine (fit_any C W2).mono ?_
  rintro e w3 ⟨rfl, hb3⟩
  have HB := Hid.mk' (HB.out.trans (hb3.mono HB.out.size))
  have RT := Hid.mk' (rowB RT hb3)
  clear hb3 t0 t1 t2
  obtain ⟨t0, t1, t2⟩ := cellsQ2 RT.out
  by_cases h0 : C = 0
  · subst h0
    have ev : eV 0 = .nilIface := rfl
    rw [ev]
    by_cases h1 : 240 < T.size
    · have E := Hid.mk' (HF.out.1 rfl h1)
      have h1' : (240 : Int) < (T.size : Int) := by omega
      go_wp2_with fail
      refine (fit_any 6 _).mono ?_
      rintro e w4 ⟨rfl, hb4⟩
      have HB := Hid.mk' (HB.out.trans (hb4.mono HB.out.size))
      clear hb4
      have ev6 : eV 6 = .iface 43 (.agg #[.int .i64 6]) := rfl
      rw [ev6]
      go_wp2_with fail
      refine bodyPost_ret (v := .tuple #[.slice none 0 0, .iface 43 (.agg #[.int .i64 6])]) (by simp [results, Tryd.results13, go_sem, *]) rfl ?_
      exact ⟨none, 0, by rw [E.out]; rfl, by rw [E.out]; exact .inl rfl, (fun b o e => by cases e), (fun b o e => by cases e), HB.out⟩
    · have E := Hid.mk' (HF.out.2.1 rfl h1)
      have h1' : ¬ (240 : Int) < (T.size : Int) := by omega
      have hcv : ∀ X : World, (convert 9 22 (.string T)).run Tryd.prog X = .ok (.slice (some ⟨X.heap.size, 0, none⟩) T.size (grownCap X T.size 0 5)) (Lib.bytesWorld X 5 T) := fun X => Lib.run_convert_string_bytes (P := Tryd.prog) X 9 22 5 T Tryd.underlying9 Tryd.underlying22 Tryd.underlying5
      have HBW := Hid.mk' (show Below w3.heap.size w3 (Lib.bytesWorld w3 5 T) from Lib.bytesWorld_below w3 5 T)
      have HAT := Hid.mk' (show BAt (Lib.bytesWorld w3 5 T) (some ⟨w3.heap.size, 0, none⟩) (bytesL T) from bytes_at w3 T)
      have HL := Hid.mk' (bytesL_len T)
      have HFA := Hid.mk' (bytes_free w3 T)
      have HSW := Hid.mk' HB.out.size
      go_wp2_with fail
      refine bodyPost_ret (v := .tuple #[.slice (some ⟨w3.heap.size, 0, none⟩) T.size (grownCap w3 T.size 0 5), .nilIface]) (by simp [results, Tryd.results13, go_sem, *]) rfl ?_
      refine ⟨some ⟨w3.heap.size, 0, none⟩, grownCap w3 T.size 0 5, ?_, by rw [E.out]; exact HAT.out, ?_, (fun b o e => by cases e; exact HSW.out), HB.out.trans (HBW.out.mono HB.out.size)⟩
      · rw [E.out]
        show _ = Ending.returned (.tuple #[.slice _ (bytesL T).length _, _])
        rw [HL.out]; rfl
      · rw [E.out]
        show FrA _ _ (bytesL T).length
        rw [HL.out]
        exact HFA.out
  · have E := Hid.mk' (HF.out.2.2 h0)
    have ev : eV C = .iface 43 (.agg #[.int .i64 C]) := if_neg h0
    rw [ev]
    go_wp2_with fail
    refine bodyPost_ret (v := .tuple #[.slice none 0 0, .iface 43 (.agg #[.int .i64 C])]) (by simp [results, Tryd.results13, go_sem, *]) rfl ?_
    exact ⟨none, 0, by rw [E.out, ← ev]; rfl, by rw [E.out]; exact .inl rfl, (fun b o e => by cases e), (fun b o e => by cases e), HB.out⟩

end Go.Proofs.YtlmmkmcchfnclaaDoor
