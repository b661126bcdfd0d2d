/- Marks in lists of texts of one's own, and that they are held. -/
import Derived.Test.YtaihlcfpkabonaaDoorCa
import Derived.Laws.BytesString
import Derived.Laws.IdiomStrings
namespace Go.Proofs.YtaihlcfpkabonaaDoor
open Go.RowKit
set_option linter.unusedVariables false
set_option linter.unusedSimpArgs false

/-- The text that bytes are. -/
def strS (l : List Int) : ByteArray := l.foldl (fun r n => r.push (UInt8.ofNat n.toNat)) ByteArray.empty

theorem conv_bytesS {w : World} {a : Option Addr} {l : List Int} (c : Nat) (h : BAt w a l) : (convert 33 9 (.slice a l.length c)).run Tryd.prog w = .ok (.string (strS l)) w := by
  rw [run_convert_bytes_string (P := Tryd.prog) w 33 9 5 a l.length c Tryd.underlying33 Tryd.underlying5 Tryd.underlying9]
  cases a with
  | none =>
    rcases h with h | ⟨b, o, e, _⟩
    · subst h
      simp [Conv.bytesToString, strS, Sem.run_pure]
    · cases e
  | some ad =>
    refine run_bytesToString w ad l.length c l ?_
    have hk := run_loadCells_list (P := Tryd.prog) w ad (l.map (Value.int .u8)) (fun j v hj => by
      rcases h with h | ⟨b, o, e, _, hc⟩
      · subst h; simp at hj
      · cases e
        have hjl : j < l.length := by
          have := (List.getElem?_eq_some_iff.1 hj).1
          simpa using this
        have := hc j hjl
        rw [List.getElem?_map] at hj
        rw [show (⟨b, o, none⟩ : Addr).add j = ⟨b, o + j, none⟩ from by unfold Addr.add; split; (rename_i h0; rw [h0]; rfl); rfl, this]
        simp [bv, List.getD_eq_getElem?_getD] at hj ⊢
        obtain ⟨x, hx, rfl⟩ := hj
        simp [hx])
    simpa using hk

theorem conv_oneS (w : World) (x : Int) : (convert 33 9 (.slice (some ⟨w.heap.size, 0, none⟩) 1 1)).run Tryd.prog (w.alloc (.cells #[.int .u8 x] 5)) = .ok (.string (strS [x])) (w.alloc (.cells #[.int .u8 x] 5)) :=
  conv_bytesS (l := [x]) 1 (.inr ⟨_, _, rfl, by simp, fun k hk => by
    obtain rfl : k = 0 := by simpa using hk
    simp [bv]⟩)
theorem strS_one (x : Int) : (strS [x]).size = 1 := rfl

/-- The text of a mark. -/
def dgS : Nat → Nat → ByteArray → ByteArray
  | 0, _, s => s
  | f + 1, m, s => if m = 0 then s else dgS f (m / 10) (strS [48 + (m : Int) % 10] ++ s)
theorem dgS_zero (f : Nat) (s : ByteArray) : dgS f 0 s = s := by cases f <;> simp [dgS]
theorem dgS_step (f m : Nat) (s : ByteArray) (h : 0 < m) (hf : m ≤ f) : ∃ f', m / 10 ≤ f' ∧ dgS f m s = dgS f' (m / 10) (strS [48 + (m : Int) % 10] ++ s) := by
  cases f with
  | zero => omega
  | succ f => exact ⟨f, by omega, by simp [dgS]; omega⟩
def mtS (k : Nat) : ByteArray := ⟨#[109]⟩ ++ dgS k k ⟨#[]⟩

/-- The marks that n texts get, from k on. -/
def mkS_ (k n : Nat) : List ByteArray := (List.range n).map fun i => mtS (k + i)
theorem mkS_len (k n : Nat) : (mkS_ k n).length = n := by simp [mkS_]
theorem mkS_get {k n i : Nat} (h : i < n) : sK (mkS_ k n) i = mtS (k + i) := by simp [sK, mkS_, h]

end Go.Proofs.YtaihlcfpkabonaaDoor
