/- WordsOf in the program: the fields of a line, copied. -/
import Derived.Test.YtaihlcfpkabonaaWsb
import Derived.Test.YtaihlcfpkabonaaShp
import Derived.OpenShut
namespace Go.Proofs.Ytaihlcfpkabonaa
open Go.RowKit Go.Lib
set_option linter.unusedVariables false
set_option linter.unusedSimpArgs false

theorem isBlank_gives (W : World) (x : Nat) (hx : x ≤ 1114111) : FnGives Try.prog 12 #[] #[encR x] (.bool (blankP x)) W := by
  unfold FnGives
  show Calls Try.prog 12 #[.int .i32 (x : Int)] W _
  have e : ((x : Int) == 32) = blankP x := by
    unfold blankP
    by_cases h : x = 32
    · subst h; rfl
    · rw [beq_eq_false_iff_ne.2 h]
      exact beq_eq_false_iff_ne.2 (by omega)
  go_enter Try.func12, Try.ntmps12
  go_wp2
  go_ret
  exact ⟨by rw [← e]; rfl, 0, rfl⟩

theorem fields_any (s : ByteArray) (w : World) (hs : s.size ≤ 1048576) :
    Calls Try.prog 11 #[.string s, .func (.func 12) #[] #[]] w fun e w' => ∃ A, e = .returned (.slice (some ⟨A, 0, none⟩) (wordsL s).length (wordsL s).length) ∧ StAt w' (some ⟨A, 0, none⟩) (wordsL s) ∧ Below w.heap.size w w' := by
  have h := Try.strings_FieldsFunc_runes 12 #[] (enters_of Try.func12 (by kernel_rfl) rfl) blankP s w (by omega) (fun W x hx _ => isBlank_gives W x hx)
  rw [fields_words] at h
  refine h.mono ?_
  rintro e w1 ⟨A, rfl, hA, ho, hb⟩
  refine ⟨A, rfl, ?_, hb⟩
  obtain ⟨a, c, e1, hs1⟩ := StAt.of_own ho
  cases e1
  exact hs1

set_option maxRecDepth 100000 in
theorem cloneW_any (s : ByteArray) (w : World) (hs : s.size ≤ 1048576) :
    Calls Try.prog 16 #[.string s] w fun e w' => e = .returned (.string s) ∧ Below w.heap.size w w' := by
  go_enter Try.func16, Try.ntmps16
  go_wp2_with fail
  refine (Try.stringslite_Clone s w (by omega)).mono ?_
  rintro e w1 ⟨rfl, hb⟩
  have HB := Hid.mk' hb
  clear hb
  go_wp2
  go_ret
  exact ⟨rfl, HB.out⟩

set_option maxHeartbeats 1600000 in
theorem copyWords_any (a : Option Addr) (c : Nat) (l : List ByteArray) (w : World) (ha : StAt w a l) (hl : (l.length : Int) ≤ 1048576) (hz : ∀ x ∈ l, x.size ≤ 1048576) :
    Calls Try.prog 10 #[.slice a l.length c] w fun e w' => ∃ b, e = .returned (.slice (some ⟨b, 0, none⟩) l.length l.length) ∧ w.heap.size ≤ b ∧ w'.rowIs b 9 l.length (sv l) ∧ Below w.heap.size w w' := by
  have hmk := run_make_row' (P := Try.prog) 22 9 (.string ⟨#[]⟩) 16 Try.underlying22 Try.info9 rfl .i64 .i64 l.length (by omega) (by omega)
  have KZ : Hid (∀ k, k < l.length → (sK l k).size ≤ 1048576) := Hid.mk' (fun k hk => by
    refine hz _ ?_
    unfold sK
    rw [List.getD_eq_getElem?_getD, List.getElem?_eq_getElem hk]
    exact List.getElem_mem hk)
  clear hz
  go_enter Try.func10, Try.ntmps10
  go_wp2
  go_loopw [11] (fun i wr => ∃ k : Nat, k ≤ l.length ∧ i = .int .i64 k ∧ wr.rowIs w.heap.size 9 l.length (fun j => if j < k then sv l j else .string ⟨#[]⟩) ∧ Below w.heap.size w wr) (fun i _ => l.length - (intOf i).toNat)
  case atStart => exact ⟨0, Nat.zero_le _, rfl, (World.rowIs_made w (.string ⟨#[]⟩) _ 9).congr (fun j _ => by simp), (Below.refl _ _).alloc (Nat.le_refl _) _⟩
  case round =>
    obtain ⟨k, hk, rfl, hrow, hbl⟩ := hrel
    by_cases hlt : k < l.length
    · have ci : (k : Int) < (l.length : Int) := by omega
      rcases ha with ha | ⟨b, o, rfl, hbs, hc⟩
      · exact absurd hlt (by rw [ha]; exact Nat.not_lt_zero _)
      have h1 := (hbl.cell hbs).trans (hc k hlt)
      have HR := Hid.mk' hrow
      have HB := Hid.mk' hbl
      have KC := Hid.mk' (cloneW_any (sK l k) wr (KZ.out k hlt))
      clear hrow hbl hmk hc
      go_wp2_with fail
      refine KC.out.mono ?_
      rintro e w1 ⟨rfl, hb1⟩
      have hrow := rowB HR.out hb1
      have hbl := HB.out.trans (hb1.mono HB.out.size)
      obtain ⟨v0, h2⟩ : ∃ v, w1.cell? ⟨w.heap.size, k, none⟩ = some v := ⟨_, hrow.cell hlt⟩
      have h3 := hrow.frozen k
      have R1 := Hid.mk' ((hrow.set k (.string (sK l k))).congr (g := fun j => if j < k + 1 then sv l j else .string ⟨#[]⟩) (fun j _ => by
        by_cases e : j = k
        · subst e; simp [sv]
        · by_cases h : j < k
          · simp [e, h, show j < k + 1 by omega]
          · simp [e, h, show ¬ j < k + 1 by omega]))
      have R2 := Hid.mk' (hbl.setCell (p := ⟨w.heap.size, k, none⟩) (Nat.le_refl _) (.string (sK l k)))
      clear hrow hbl hb1 KC
      go_wp2
      go_roundw
      case rel => exact ⟨k + 1, by omega, by go_num, R1.out, R2.out⟩
      case measure => simp [intOf]; omega
    · have ci : ¬ (k : Int) < (l.length : Int) := by omega
      have e : k = l.length := by omega
      subst e
      have R1 := Hid.mk' (hrow.congr (g := sv l) (fun j hj => by rw [if_pos hj]))
      have R2 := Hid.mk' hbl
      clear hrow hbl hmk
      go_wp2
      go_ret
      exact ⟨_, rfl, Nat.le_refl _, R1.out, R2.out⟩

theorem implWO_any (s : ByteArray) (w : World) (hs : s.size ≤ 1048576) :
    Calls Try.prog 5 #[.string s] w fun e w' => ∃ g, e = .returned (.agg #[.int .i64 0, .slice (some ⟨g, 0, none⟩) (wordsL s).length (wordsL s).length]) ∧ w.heap.size ≤ g ∧ w'.rowIs g 9 (wordsL s).length (sv (wordsL s)) ∧ Below w.heap.size w w' := by
  have HB := Hid.mk' (below_new w (.cells #[.int .i64 0, .slice none 0 0] 24))
  have HR := Hid.mk' (rowQ2 w 24 (.int .i64 0) (.slice none 0 0))
  generalize hW : w.alloc (.cells #[.int .i64 0, .slice none 0 0] 24) = W at *
  go_enter Try.func5, Try.ntmps5
  go_wp2_with fail
  clear hW
  refine (fields_any s W hs).mono ?_
  rintro e w1 ⟨A, rfl, st, hb⟩
  have ST := Hid.mk' st
  have HR := Hid.mk' (rowB HR.out hb)
  have HB := Hid.mk' (HB.out.trans (hb.mono HB.out.size))
  have hz : w.heap.size < w1.heap.size := HR.out.lt
  clear st hb
  go_wp2_with fail
  refine (copyWords_any _ _ (wordsL s) w1 ST.out (by have := wordsL_len s; omega) (fun x hx => Nat.le_trans (wordsL_sz s x hx) hs)).mono ?_
  rintro e w2 ⟨g, rfl, hg, hr, hb⟩
  obtain ⟨x0, x1, x2⟩ := cellsQ2 (rowB HR.out hb)
  obtain ⟨f0, f1⟩ := frzQ2 (rowB HR.out hb)
  have RW := Hid.mk' hr
  have HB := Hid.mk' (HB.out.trans (hb.mono HB.out.size))
  clear hr hb
  go_wp2
  refine bodyPost_ret (v := .agg #[.int .i64 0, .slice (some ⟨g, 0, none⟩) (wordsL s).length (wordsL s).length]) (by simp [results, Try.results5, go_sem, *]) rfl ?_
  have KK := ((KeptIn.refl w.heap.size (w.heap.size + 1) w2).setCell (p := ⟨w.heap.size, 0, none⟩) (by simp) (by simp) (.int .i64 0)).setCell (p := ⟨w.heap.size, 1, none⟩) (by simp) (by simp) (.slice (some ⟨g, 0, none⟩) (wordsL s).length (wordsL s).length)
  exact ⟨_, rfl, by omega, rowK RW.out KK (.inr (by omega)), HB.out.trans (KK.below (Nat.le_refl _) HB.out.size)⟩

end Go.Proofs.Ytaihlcfpkabonaa
