/- LastCheck, both sides. -/
import Derived.Test.YtieeojhdidjnaaaGreatDoorJ29
set_option linter.unusedVariables false
set_option linter.unusedSimpArgs false
namespace Go.Proofs.YtieeojhdidjnaaaGreatDoor
open Go.RowKit
theorem strI_data : ∀ (l : List Int) (r : ByteArray), (l.foldl (fun r n => r.push (UInt8.ofNat n.toNat)) r).data.toList = r.data.toList ++ l.map (fun n => UInt8.ofNat n.toNat)
 | [], r => by simp
 | x :: l, r => by
  rw [List.foldl_cons, strI_data l]
  simp [ByteArray.push]
theorem strI_list (l : List Int) : (strI l).toList = l.map (fun n => UInt8.ofNat n.toNat) := by
 rw [toList_data]
 unfold strI
 rw [strI_data]
 have e : ByteArray.empty.data.toList = [] := rfl
 rw [e, List.nil_append]
theorem byte_inj {x y : Int} (hx : 0 ≤ x ∧ x ≤ 255) (hy : 0 ≤ y ∧ y ≤ 255) (h : UInt8.ofNat x.toNat = UInt8.ofNat y.toNat) : x = y := by
 have := congrArg UInt8.toNat h
 simp only [UInt8.toNat_ofNat'] at this
 omega
theorem map_inj : ∀ (l m : List Int), (∀ x ∈ l, 0 ≤ x ∧ x ≤ 255) → (∀ x ∈ m, 0 ≤ x ∧ x ≤ 255) → l.map (fun n => UInt8.ofNat n.toNat) = m.map (fun n => UInt8.ofNat n.toNat) → l = m
 | [], [], _, _, _ => rfl
 | [], y :: m, _, _, h => by simp at h
 | x :: l, [], _, _, h => by simp at h
 | x :: l, y :: m, hl, hm, h => by
  simp only [List.map_cons, List.cons.injEq] at h
  rw [byte_inj (hl x (List.mem_cons_self ..)) (hm y (List.mem_cons_self ..)) h.1, map_inj l m (fun z hz => hl z (List.mem_cons_of_mem _ hz)) (fun z hz => hm z (List.mem_cons_of_mem _ hz)) h.2]
theorem beqB_eq {l m : List Int} (hl : Byt l) (hm : Byt m) (h : beqB l m = true) : l = m := by
 unfold beqB at h
 rw [strI_list, strI_list] at h
 exact map_inj l m hl.mem hm.mem (by simpa using h)
theorem right_checks {d : List Int} {s : Nat} {m : ME} (hd : Byt d) (hc : ∀ k, k < m.cs.length → Byt (ckK m.cs k).hd) (h : sameR (memX d s) m = true) : m.cs.length = d.length / s + 1 ∧ ∀ k, k < d.length / s + 1 → ckK m.cs k = ckAt d s k := by
 unfold sameR at h
 rw [Bool.and_eq_true, Bool.and_eq_true] at h
 have h3 := h.2.2
 unfold sameCs at h3
 rw [Bool.and_eq_true] at h3
 have e1 : (memX d s).cs.length = d.length / s + 1 := cksN_len _ _ _
 have e2 : (memX d s).cs.length = m.cs.length := of_decide_eq_true h3.1
 refine ⟨by omega, fun k hk => ?_⟩
 have h4 := h3.2
 unfold allK at h4
 rw [List.all_eq_true] at h4
 have h5 := h4 k (List.mem_range.2 (by omega))
 have e3 : ckK (memX d s).cs k = ckAt d s k := cksN_at d s _ k hk
 rw [e3] at h5
 unfold ceq at h5
 rw [Bool.and_eq_true, Bool.and_eq_true] at h5
 have p1 : (ckAt d s k).pl = (ckK m.cs k).pl := by simpa using h5.1
 have p2_ : (ckAt d s k).ct = (ckK m.cs k).ct := by simpa using h5.2.1
 have p3 : (ckAt d s k).hd = (ckK m.cs k).hd := beqB_eq (allX_byt _ _ _ (fun x hx => hd.mem x (List.mem_of_mem_take hx)) Byt.nil) (hc k (by omega)) h5.2.2
 cases hq : ckK m.cs k with
 | mk a b c =>
  rw [hq] at p1 p2_ p3
  cases hz : ckAt d s k with
  | mk a' b' c' =>
   rw [hz] at p1 p2_ p3
   simp only at p1 p2_ p3
   rw [p1, p2_, p3]
theorem memF_ok {m : ME} (h : memF m = 0) : m.dt.length ≤ 240 ∧ ∃ s : Nat, m.st = (s : Int) ∧ 1 ≤ s ∧ s ≤ 60 ∧ sameR (memX m.dt s) m = true := by
 unfold memF at h
 by_cases h1 : askC m.dt m.st = 0
 ·rw [if_neg (by rw [h1]; simp)] at h
  obtain ⟨h240, s, hst, hs, hs2⟩ := askC_ok h1
  refine ⟨h240, s, hst, hs, hs2, ?_⟩
  rw [hst] at h
  cases hq : sameR (memX m.dt s) m with
  | true => rfl
  | false =>
   have e : sameR (memX m.dt ((s : Int).toNat)) m = false := hq
   rw [e] at h
   simp at h
 ·rw [if_pos h1] at h
  exact absurd h h1
theorem keptIn_cell {lo hi : Nat} {w w' : World} (h : KeptIn lo hi w w') (b o : Nat) (hb : b < w.heap.size) (hn : b < lo ∨ hi ≤ b) : w'.cell? ⟨b, o, none⟩ = w.cell? ⟨b, o, none⟩ :=
 World.cell?_of_block (a := ⟨b, o, none⟩) (h.block b hb hn)

end Go.Proofs.YtieeojhdidjnaaaGreatDoor
