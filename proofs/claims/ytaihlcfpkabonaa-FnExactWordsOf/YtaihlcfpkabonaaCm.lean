/- Marks in lists of texts of one's own, and that they are held. -/
import Derived.Test.YtaihlcfpkabonaaCa
import Derived.Laws.BytesString
import Derived.Laws.IdiomStrings
namespace Go.Proofs.Ytaihlcfpkabonaa
open Go.RowKit
set_option linter.unusedVariables false
set_option linter.unusedSimpArgs false

/-- The text that bytes are. -/
def strS (l : List Int) : ByteArray := l.foldl (fun r n => r.push (UInt8.ofNat n.toNat)) ByteArray.empty

theorem conv_bytesS {w : World} {a : Option Addr} {l : List Int} (c : Nat) (h : BAt w a l) : (convert 40 9 (.slice a l.length c)).run Try.prog w = .ok (.string (strS l)) w := by
  rw [run_convert_bytes_string (P := Try.prog) w 40 9 5 a l.length c Try.underlying40 Try.underlying5 Try.underlying9]
  cases a with
  | none =>
    rcases h with h | ⟨b, o, e, _⟩
    · subst h
      simp [Conv.bytesToString, strS, Sem.run_pure]
    · cases e
  | some ad =>
    refine run_bytesToString w ad l.length c l ?_
    have hk := run_loadCells_list (P := Try.prog) w ad (l.map (Value.int .u8)) (fun j v hj => by
      rcases h with h | ⟨b, o, e, _, hc⟩
      · subst h; simp at hj
      · cases e
        have hjl : j < l.length := by
          have := (List.getElem?_eq_some_iff.1 hj).1
          simpa using this
        have := hc j hjl
        rw [List.getElem?_map] at hj
        rw [show (⟨b, o, none⟩ : Addr).add j = ⟨b, o + j, none⟩ from by unfold Addr.add; split; (rename_i h0; rw [h0]; rfl); rfl, this]
        simp [bv, List.getD_eq_getElem?_getD] at hj ⊢
        obtain ⟨x, hx, rfl⟩ := hj
        simp [hx])
    simpa using hk

theorem conv_oneS (w : World) (x : Int) : (convert 40 9 (.slice (some ⟨w.heap.size, 0, none⟩) 1 1)).run Try.prog (w.alloc (.cells #[.int .u8 x] 5)) = .ok (.string (strS [x])) (w.alloc (.cells #[.int .u8 x] 5)) :=
  conv_bytesS (l := [x]) 1 (.inr ⟨_, _, rfl, by simp, fun k hk => by
    obtain rfl : k = 0 := by simpa using hk
    simp [bv]⟩)
theorem strS_one (x : Int) : (strS [x]).size = 1 := rfl

/-- The text of a mark. -/
def dgS : Nat → Nat → ByteArray → ByteArray
  | 0, _, s => s
  | f + 1, m, s => if m = 0 then s else dgS f (m / 10) (strS [48 + (m : Int) % 10] ++ s)
theorem dgS_zero (f : Nat) (s : ByteArray) : dgS f 0 s = s := by cases f <;> simp [dgS]
theorem dgS_step (f m : Nat) (s : ByteArray) (h : 0 < m) (hf : m ≤ f) : ∃ f', m / 10 ≤ f' ∧ dgS f m s = dgS f' (m / 10) (strS [48 + (m : Int) % 10] ++ s) := by
  cases f with
  | zero => omega
  | succ f => exact ⟨f, by omega, by simp [dgS]; omega⟩
def mtS (k : Nat) : ByteArray := ⟨#[109]⟩ ++ dgS k k ⟨#[]⟩

set_option maxHeartbeats 1600000 in
theorem markTextS_is (k : Nat) (w : World) (h0 : 0 < k) (hk : k ≤ 100000000) :
    Calls Try.prog 17 #[.int .i64 k] w fun e w' => e = .returned (.string (mtS k)) ∧ Below w.heap.size w w' := by
  have k0 : ¬ (k : Int) ≤ 0 := by omega
  go_enter Try.func17, Try.ntmps17
  go_wp2
  go_loopw [0, 3] (fun x o wr => ∃ (m f : Nat) (s : ByteArray), x = .int .i64 m ∧ m ≤ 100000000 ∧ o = .string s ∧ s.size + m ≤ 100000001 ∧ m ≤ f ∧ dgS f m s = dgS k k ⟨#[]⟩ ∧ Below w.heap.size w wr) (fun x _ _ => (intOf x).toNat)
  case atStart => exact ⟨k, k, ⟨#[]⟩, rfl, hk, rfl, by have : (⟨#[]⟩ : ByteArray).size = 0 := rfl; omega, Nat.le_refl _, rfl, Below.refl _ _⟩
  case round =>
    obtain ⟨m, f, s, rfl, hm, rfl, hs, hf, hd, hbl⟩ := hrel
    have HB := Hid.mk' hbl
    have HD := Hid.mk' hd
    clear hbl hd
    by_cases hz : 0 < m
    · have ci : (m : Int) > 0 := by omega
      have hcv := conv_oneS wr
      have hst := strS_one (48 + (m : Int) % 10)
      obtain ⟨f', hf', hd'⟩ := dgS_step f m s hz hf
      have HD' := Hid.mk' hd'
      clear hd'
      go_wp2
      go_roundw
      case rel => exact ⟨m / 10, f', _, by go_num, by omega, rfl, by rw [ByteArray.size_append, hst]; omega, hf', by rw [← HD.out, HD'.out], HB.out.alloc HB.out.size _⟩
      case measure => simp [intOf]; omega
    · have ci : ¬ (m : Int) > 0 := by omega
      have em : m = 0 := by omega
      subst em
      have E : Hid (⟨#[109]⟩ ++ s = mtS k) := Hid.mk' (by unfold mtS; rw [← HD.out, dgS_zero])
      go_wp2
      go_ret
      exact ⟨by rw [← E.out]; rfl, HB.out⟩

/-- The marks that n texts get, from k on. -/
def mkS_ (k n : Nat) : List ByteArray := (List.range n).map fun i => mtS (k + i)
theorem mkS_len (k n : Nat) : (mkS_ k n).length = n := by simp [mkS_]
theorem mkS_get {k n i : Nat} (h : i < n) : sK (mkS_ k n) i = mtS (k + i) := by simp [sK, mkS_, h]

set_option maxHeartbeats 1600000 in
theorem markStringS_is (g cn k : Nat) (l : List ByteArray) (f : Nat → Value) (cap : Nat) (w : World) (hr : w.rowIs g 9 cn f) (hle : l.length ≤ cn) (h0 : 0 < k) (hk : k + l.length ≤ 100000000) :
    Calls Try.prog 14 #[.slice (some ⟨g, 0, none⟩) l.length cap, .int .i64 k] w fun e w' => e = .returned (.int .i64 ((k + l.length : Nat) : Int)) ∧ w'.rowIs g 9 cn (fun j => if j < l.length then .string (mtS (k + j)) else f j) ∧ KeptIn g (g + 1) w w' := by
  go_enter Try.func14, Try.ntmps14
  go_wp2
  go_loopw [1, 5] (fun x i wr => ∃ m : Nat, m ≤ l.length ∧ i = .int .i64 m ∧ x = .int .i64 ((k + m : Nat) : Int) ∧ wr.rowIs g 9 cn (fun j => if j < m then .string (mtS (k + j)) else f j) ∧ KeptIn g (g + 1) w wr) (fun _ i _ => l.length - (intOf i).toNat)
  case atStart => exact ⟨0, Nat.zero_le _, rfl, rfl, hr.congr (fun j _ => by simp), KeptIn.refl _ _ _⟩
  case round =>
    obtain ⟨m, hm, rfl, rfl, hrow, hkp⟩ := hrel
    have HW := Hid.mk' hrow
    have HK := Hid.mk' hkp
    clear hrow hkp hr
    by_cases hlt : m < l.length
    · have ci : (m : Int) < (l.length : Int) := by omega
      have KM := Hid.mk' (markTextS_is (k + m) wr (by omega) (by omega))
      go_wp2_with fail
      refine KM.out.mono ?_
      rintro e w1 ⟨rfl, hb⟩
      have R0 := rowB HW.out hb
      have f0 := R0.frozen m
      obtain ⟨v0, g0⟩ : ∃ v, w1.cell? ⟨g, m, none⟩ = some v := ⟨_, R0.cell (by omega)⟩
      have R1 := Hid.mk' ((R0.set m (.string (mtS (k + m)))).congr (g := fun j => if j < m + 1 then .string (mtS (k + j)) else f j) (fun j _ => by
        by_cases e : j = m
        · subst e; simp
        · by_cases h : j < m
          · simp [e, h, show j < m + 1 by omega]
          · simp [e, h, show ¬ j < m + 1 by omega]))
      have K1 := Hid.mk' ((HK.out.trans (KeptIn.of_below hb)).setCell (p := ⟨g, m, none⟩) (Nat.le_refl _) (Nat.lt_succ_self _) (.string (mtS (k + m))))
      clear R0 hb KM HK HW
      go_wp2
      go_roundw
      case rel => exact ⟨m + 1, by omega, by go_num, by go_num, R1.out, K1.out⟩
      case measure => simp [intOf]; omega
    · have ci : ¬ (m : Int) < (l.length : Int) := by omega
      have e : m = l.length := by omega
      subst e
      go_wp2
      go_ret
      exact ⟨rfl, HW.out, HK.out⟩

set_option maxHeartbeats 1600000 in
theorem heldStringS_is (a : Option Addr) (k n cap : Nat) (w : World) (ha : StAt w a (mkS_ k n)) (h0 : 0 < k) (hk : k + n ≤ 100000000) :
    Calls Try.prog 15 #[.slice a n cap, .int .i64 k] w fun e w' => e = .returned (.int .i64 ((k + n : Nat) : Int)) ∧ Below w.heap.size w w' := by
  have HI := Hid.mk' ha
  clear ha
  go_enter Try.func15, Try.ntmps15
  go_wp2
  go_loopw [1, 5] (fun x i wr => ∃ m : Nat, m ≤ n ∧ i = .int .i64 m ∧ x = .int .i64 ((k + m : Nat) : Int) ∧ Below w.heap.size w wr) (fun _ i _ => n - (intOf i).toNat)
  case atStart => exact ⟨0, Nat.zero_le _, rfl, rfl, Below.refl _ _⟩
  case round =>
    obtain ⟨m, hm, rfl, rfl, hbl⟩ := hrel
    have HB := Hid.mk' hbl
    by_cases hlt : m < n
    · have ci : (m : Int) < (n : Int) := by omega
      rcases HI.out.below hbl with ha | ⟨b, o, rfl, hbs, hc⟩
      · have := congrArg List.length ha; rw [mkS_len] at this; simp at this; omega
      have h1 := hc m (by rw [mkS_len]; exact hlt)
      rw [mkS_get hlt] at h1
      have KM : Hid (∀ W, Calls Try.prog 17 #[.int .i64 ((k + m : Nat) : Int)] W fun e w' => e = .returned (.string (mtS (k + m))) ∧ Below W.heap.size W w') := fun W => markTextS_is (k + m) W (by omega) (by omega)
      clear hc hbl
      go_wp2
      go_region_held3 (fun w' => w'.cell? ⟨b, o + m, none⟩ = some (.string (mtS (k + m)))) (simp [*])
        ((go_at_call 17; refine (KM.out _).mono ?_; rintro e w1 ⟨rfl, hb1⟩; replace hb1 := undrew hb1; obtain ⟨hx1, hx2⟩ := bcell hb1))
      have HB := Hid.mk' (HB.out.trans (hb1.mono HB.out.size))
      clear hx1 hx2 hb1 h1
      go_wp2
      go_roundw
      case rel => exact ⟨m + 1, by omega, by go_num, by go_num, HB.out⟩
      case measure => simp [intOf]; omega
    · have ci : ¬ (m : Int) < (n : Int) := by omega
      have e : m = n := by omega
      subst e
      go_wp2
      go_ret
      exact ⟨rfl, HB.out⟩

end Go.Proofs.Ytaihlcfpkabonaa
