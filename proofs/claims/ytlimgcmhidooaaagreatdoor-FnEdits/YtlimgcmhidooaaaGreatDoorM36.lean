/- From the reading of an argument to bytes that lie in memory. -/
import Derived.Test.YtlimgcmhidooaaaGreatDoorChecked
import Derived.Test.YtlimgcmhidooaaaGreatDoorM1
import Derived.ProofKit
import Derived.OpenShut
import Derived.ShutString
import Derived.ChangeOld
import Derived.Lib.SmallJoins
import Derived.Deep.MidRow
set_option linter.unusedVariables false
set_option linter.unusedSimpArgs false
namespace Go.Proofs.YtlimgcmhidooaaaGreatDoor
open Go.ChangeShapes Go.WideShapes Go.ChangeAt Go.RowKit
set_option maxRecDepth 100000
theorem cells5B : Tryz.prog.cellsOf 5 = 1 := by kernel_rfl
theorem cell_ltB {w : World} {a : Addr} {v : Value} (h : w.cell? a = some v) : a.block < w.heap.size := by
 unfold World.cell? at h
 by_cases hb : a.block < w.heap.size
 ·exact hb
 ·rw [Array.getElem?_eq_none (by omega)] at h
  simp at h
theorem plain_addrB {w : World} {a : Addr} {v : Value} (h : w.cell? a = some v) : ∃ b o, a = ⟨b, o, none⟩ := by
 obtain ⟨b, o, s⟩ := a
 have hs := World.cell?_spot h
 simp at hs
 subst hs
 exact ⟨b, o, rfl⟩
theorem open_bytesB {H : Type} {enc : TypeId × Value → H} {W : World} {spare : Nat → Bool} {held : Bool} {fuel : Nat} {v : Value} {x : DataW H × List MemPlace} (h : DataW.trod enc Tryz.prog W 0 spare held fuel 22 [v] = some x) :
  ∃ a c l, v = .slice a l.length c ∧ BAt W a l ∧ (l.length : Int) ≤ 9223372036854775807 ∧ ∀ k, k < l.length → 0 ≤ l.getD k 0 ∧ l.getD k 0 ≤ 255 := by
 rcases open_ints Tryz.underlying22 Tryz.underlying5 cells5B h with ⟨hcs, _⟩ | ⟨a, len, cap, zs, hcs, _, hl, hm, hz, _, hcell, hwz⟩
 ·simp at hcs
  subst hcs
  exact ⟨none, 0, [], rfl, .inl rfl, by simp, by simp⟩
 ·simp at hcs
  subst hcs
  have hlz : len ≤ zs.length := by rw [hz]; split <;> omega
  have hlen : (zs.take len).length = len := by rw [List.length_take]; omega
  unfold maxLen at hm
  refine ⟨some a, cap, zs.take len, by rw [hlen], ?_, by rw [hlen]; omega, fun k hk => ?_⟩
  ·by_cases h0 : len = 0
   ·left; subst h0; simp
   ·right
    have c0 := hcell 0 (by omega)
    have e0 : a.add 0 = a := by unfold Addr.add; split <;> simp_all
    rw [e0] at c0
    obtain ⟨b, o, rfl⟩ := plain_addrB c0
    refine ⟨b, o, rfl, cell_ltB c0, fun k hk => ?_⟩
    rw [hlen] at hk
    have ck := hcell k (by omega)
    rw [Addr.add_mid] at ck
    rw [ck]
    unfold bv
    congr 2
    simp [hk]
  ·rw [hlen] at hk
   have e : (zs.take len).getD k 0 = zs[k]'(by omega) := by simp [hk, show k < zs.length from by omega]
   rw [e]
   exact bounds_u8 (hwz _ (List.getElem_mem _))
theorem open_bytesBV {H : Type} {enc : TypeId × Value → H} {W : World} {base : Nat} {spare : Nat → Bool} {held : Bool} {v : Value} {d : DataW H} {p : List MemPlace}
  (hv : Value.okWide Tryz.prog W .any base 22 v) (h : DataW.Trod enc Tryz.prog W 0 spare held 22 v d p) :
  ∃ a c l, v = .slice a l.length c ∧ BAt W a l ∧ (l.length : Int) ≤ 9223372036854775807 ∧ ∀ k, k < l.length → 0 ≤ l.getD k 0 ∧ l.getD k 0 ≤ 255 := by
 obtain ⟨a0, len, cap, rfl⟩ := okWide_slice Tryz.underlying22 hv
 obtain ⟨fuel, hf⟩ := h
 exact open_bytesB (by simpa [Value.cells] using hf)

end Go.Proofs.YtlimgcmhidooaaaGreatDoor
