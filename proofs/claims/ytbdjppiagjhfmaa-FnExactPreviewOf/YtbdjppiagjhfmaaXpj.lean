/- ApplyPatches: the model, the program. -/
import Derived.Test.YtbdjppiagjhfmaaXpi
import Derived.Test.YtbdjppiagjhfmaaXpf
namespace Go.Proofs.Ytbdjppiagjhfmaa
open Go.RowKit
set_option linter.unusedVariables false
set_option linter.unusedSimpArgs false

/-- The code of ApplyPatches. -/
def apC (d : List Int) (l : List XK) : Int := if patF l d.length = 0 then (if 2000 < (apl d l 0).length then 6 else 0) else patF l d.length

/-- What ApplyPatches leaves. -/
def apB (d : List Int) (l : List XK) : List Int := if apC d l = 0 then apl d l 0 else []

theorem pat_zero {l : List XK} {s : Int} (h : patF l s = 0) : s ≤ 2000 ∧ l.length ≤ 20 ∧ pallX l s 0 = 0 := by
  unfold patF at h
  split at h
  · exact absurd h (by decide)
  · split at h
    · exact absurd h (by decide)
    · exact ⟨by omega, by omega, h⟩

theorem pone_code (x : XK) (s e : Int) : 0 ≤ pone x s e ∧ pone x s e ≤ 3 := by
  unfold pone
  split
  · decide
  · split
    · decide
    · split <;> decide

theorem apB_len (d : List Int) (l : List XK) : (apB d l).length ≤ 2000 := by
  unfold apB apC
  by_cases h : patF l d.length = 0
  · rw [if_pos h]
    by_cases h2 : 2000 < (apl d l 0).length
    · rw [if_pos h2]; simp
    · rw [if_neg h2]; simp; omega
  · rw [if_neg h, if_neg h]; simp

set_option maxHeartbeats 1600000 in
theorem specAP_any (b o c : Nat) (d : List Int) (a : Option Addr) (m : Nat) (l : List XK) (w : World) (hd : CAt w b o d) (hc : d.length ≤ c) (ha : XsAt w a l) (hw : WideX l) (hs : d.length ≤ 1048576) :
    Calls Try.prog 37 #[.slice (some ⟨b, o, none⟩) d.length c, .slice a l.length m] w fun e w' => ∃ v, e = .returned (.agg #[.int .i64 (apC d l), v]) ∧ OB w' v (apB d l) ∧ In w.heap.size w'.heap.size v ∧ Below w.heap.size w w' := by
  have B0 := below_new w (.cells #[.int .i64 0, .slice none 0 0] 39)
  have R0 := rowp2 w 39 (.int .i64 0) (.slice none 0 0)
  generalize hW : w.alloc (.cells #[.int .i64 0, .slice none 0 0] 39) = W at *
  have K0 := l14Fault_any a m l (d.length : Int) W (ha.below B0) hw
  by_cases h0 : patF l d.length = 0
  · obtain ⟨h1, h2, h3⟩ := pat_zero h0
    have K1 := Hid.mk' (fun (w1 : World) (hb : Below W.heap.size W w1) => l14Apply_any b o c d a m l w1 ((hd.below B0).below hb) hc ((ha.below B0).below hb) (by omega) h2 h3)
    rw [h0] at K0
    have K0 := Hid.mk' K0
    have BB := Hid.mk' B0
    have RR := Hid.mk' R0
    have H0 := Hid.mk' h0
    clear B0 R0 hd ha hw h0 h1 h2 h3
    go_enter Try.func37, Try.ntmps37
    go_wp2_with fail
    clear hW
    refine K0.out.mono ?_
    rintro e w1 ⟨rfl, hb1⟩
    have K1 := Hid.mk' (K1.out w1 hb1)
    have BB := Hid.mk' (BB.out.trans (hb1.mono BB.out.size))
    have RR := Hid.mk' (rowB RR.out hb1)
    clear K0 hb1
    go_wp2_with fail
    refine K1.out.mono ?_
    rintro e w2 ⟨v2, rfl, ho2, hb2⟩
    obtain ⟨o2, lo2⟩ := OB.of_own ho2
    have I2 := Hid.mk' (fun k hk => ⟨lo2 k hk, o2.lt k hk⟩ : In w1.heap.size w2.heap.size v2)
    have s1 := BB.out.size
    have l1 := RR.out.lt
    have RR := Hid.mk' (rowB RR.out hb2)
    have BB := Hid.mk' (BB.out.trans (hb2.mono BB.out.size))
    obtain ⟨va, vc, rfl, _⟩ := o2.len
    have O2 := Hid.mk' o2
    obtain ⟨b0, b1, _⟩ := cells2 RR.out
    have f0 := RR.out.frozen 0
    have f1 := RR.out.frozen 1
    clear K1 hb2 ho2 o2 lo2
    by_cases h2 : 2000 < (apl d l 0).length
    · have EC : Hid (apC d l = 6) := Hid.mk' (by unfold apC; rw [if_pos H0.out, if_pos h2])
      have EB : Hid (apB d l = []) := Hid.mk' (by unfold apB; rw [EC.out]; rfl)
      have h2' : 2000 < ((apl d l 0).length : Int) := by omega
      clear h2
      go_wp2
      refine bodyPost_ret (v := .agg #[.int .i64 6, .slice none 0 0]) (by simp [results, Try.results37, go_sem, *]) rfl ?_
      refine ⟨_, by rw [EC.out], ?_, In.nil _ _, (BB.out.setCell (p := ⟨w.heap.size, 0, none⟩) (Nat.le_refl _) _).setCell (p := ⟨w.heap.size, 1, none⟩) (Nat.le_refl _) _⟩
      rw [EB.out]
      exact OB.none _
    · have EC : Hid (apC d l = 0) := Hid.mk' (by unfold apC; rw [if_pos H0.out, if_neg h2])
      have EB : Hid (apB d l = apl d l 0) := Hid.mk' (by unfold apB; rw [EC.out]; rfl)
      have h2' : ¬ 2000 < ((apl d l 0).length : Int) := by omega
      clear h2
      go_wp2
      refine bodyPost_ret (v := .agg #[.int .i64 0, .slice va (apl d l 0).length vc]) (by simp [results, Try.results37, go_sem, *]) rfl ?_
      have hk := kept2 w2 w.heap.size 0 1 (.int .i64 0) (.slice va (apl d l 0).length vc)
      refine ⟨_, by rw [EC.out], ?_, (show In w1.heap.size w2.heap.size (.slice va (apl d l 0).length vc) from I2.out).mono (by omega) hk.size, BB.out.trans (hk.below (by omega) BB.out.size)⟩
      rw [EB.out]
      exact O2.out.kept I2.out hk (.inr (by omega))
  · have EC : Hid (apC d l = patF l d.length) := Hid.mk' (by unfold apC; rw [if_neg h0])
    have EB : Hid (apB d l = []) := Hid.mk' (by unfold apB; rw [EC.out, if_neg h0])
    have BB := Hid.mk' B0
    have RR := Hid.mk' R0
    clear B0 R0 hd ha hw
    generalize hz : patF l d.length = z at *
    have K0 := Hid.mk' K0
    clear hz
    go_enter Try.func37, Try.ntmps37
    go_wp2_with fail
    clear hW
    refine K0.out.mono ?_
    rintro e w1 ⟨rfl, hb1⟩
    have BB := Hid.mk' (BB.out.trans (hb1.mono BB.out.size))
    have RR := Hid.mk' (rowB RR.out hb1)
    obtain ⟨b0, b1, _⟩ := cells2 RR.out
    have f0 := RR.out.frozen 0
    have f1 := RR.out.frozen 1
    clear K0 hb1
    go_wp2
    refine bodyPost_ret (v := .agg #[.int .i64 z, .slice none 0 0]) (by simp [results, Try.results37, go_sem, *]) rfl ?_
    refine ⟨_, by rw [EC.out], ?_, In.nil _ _, (BB.out.setCell (p := ⟨w.heap.size, 0, none⟩) (Nat.le_refl _) _).setCell (p := ⟨w.heap.size, 1, none⟩) (Nat.le_refl _) _⟩
    rw [EB.out]
    exact OB.none _

end Go.Proofs.Ytbdjppiagjhfmaa
