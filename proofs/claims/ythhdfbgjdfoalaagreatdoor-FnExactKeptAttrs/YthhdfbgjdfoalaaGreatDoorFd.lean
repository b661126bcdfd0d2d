/- Digits are set into a row. -/
import Derived.Test.YthhdfbgjdfoalaaGreatDoorFc
namespace Go.Proofs.YthhdfbgjdfoalaaGreatDoor
open Go.RowKit Go.Sort
set_option linter.unusedVariables false
set_option linter.unusedSimpArgs false

abbrev encB : UInt8 → Value := fun (b : UInt8) => Value.int .u8 (b.toNat : Int)

theorem row_put {w : World} {g m n : Nat} {T : TypeId} {f : Nat → Value} (h : w.rowIs g T m f) (d : Array UInt8) :
    ((putRow encB w g 0 d).drewN n).rowIs g T m (fun t => if t < d.size then encB d[t]! else f t) := by
  obtain ⟨c, h1, h2, h3⟩ := h
  refine ⟨putCells encB 0 d c, ?_, by simp [putCells, h2], fun i hi => ?_⟩
  · show (w.heap.modify g (onCells (putCells encB 0 d)))[g]? = _
    rw [Array.getElem?_modify, if_pos rfl, h1]
    rfl
  · unfold putCells
    rw [Array.getElem?_mapIdx, h3 i hi]
    simp

theorem kept_put (w : World) (g n : Nat) (d : Array UInt8) : KeptIn g (g + 1) w ((putRow encB w g 0 d).drewN n) := by
  refine ⟨rfl, rfl, rfl, ?_, fun k hk h => ?_⟩
  · show w.heap.size ≤ (w.heap.modify g _).size
    simp
  · show (w.heap.modify g _)[k]? = _
    rw [Array.getElem?_modify, if_neg (by omega)]

/-- The t-th of nd digits. -/
def dAt (u nd t : Nat) : Nat := 48 + u / 10 ^ (nd - 1 - t) % 10
/-- How many are left where zeros at the end go. -/
def stripN (u nd : Nat) : Nat → Nat
  | 0 => 0
  | n + 1 => if dAt u nd n = 48 then stripN u nd n else n + 1
def bufF (u nd t : Nat) : Value := if t < nd then .int .u8 (dAt u nd t) else .int .u8 0

theorem stripN_le (u nd : Nat) : ∀ n, stripN u nd n ≤ n
  | 0 => Nat.le_refl _
  | n + 1 => by
    unfold stripN
    split
    · have := stripN_le u nd n; omega
    · omega

theorem dg_nat (u j : Nat) : ((Lib.dg u j).toNat : Int) = ((48 + u / 10 ^ j % 10 : Nat) : Int) := by
  unfold Lib.dg
  rw [UInt8.toNat_ofNat']
  have : u / 10 ^ j % 10 < 10 := Nat.mod_lt _ (by decide)
  rw [Nat.mod_eq_of_lt (by omega)]

set_option maxRecDepth 100000 in
set_option maxHeartbeats 1600000 in
theorem setDigits_any (g u nd : Nat) (p : Int) (w : World) (hr : w.rowIs g 259 32 (fun _ => .int .u8 0)) (h1 : 1 ≤ nd) (h2 : nd ≤ 32) (hu : u < 10 ^ nd) (hu2 : u < 18446744073709551616) (hp1 : -100 ≤ p) (hp2 : p ≤ 100) :
    Calls Tryz.prog 220 #[.slice (some ⟨g, 0, none⟩) 32 32, .int .u64 u, .int .i64 p, .int .i64 nd] w fun e w' => e = .returned (.tuple #[.int .i64 ((nd : Int) + p), .int .i64 (stripN u nd nd)]) ∧ w'.rowIs g 259 32 (bufF u nd) ∧ KeptIn g (g + 1) w w' := by
  have hsz : (Array.replicate nd (0 : UInt8)).size = nd := by simp
  have hH : Holds encB w g 0 (Array.replicate nd (0 : UInt8)) := fun j hj => by
    rw [hsz] at hj
    refine ⟨?_, hr.frozen _⟩
    rw [Nat.zero_add, hr.cell (by omega)]
    simp [encB, hj]
  have KF := Tryz.internal_strconv_formatBase10 g 0 32 u (Array.replicate nd (0 : UInt8)) w hH (by rw [hsz]; exact hu) hu2 (by rw [hsz]; omega)
  rw [hsz] at KF
  have KF := Hid.mk' KF
  have HR := Hid.mk' hr
  have ci : (nd : Int) ≤ 32 := by omega
  clear hH hr
  go_enter Tryz.func220, Tryz.ntmps220
  go_wp2_with fail
  refine KF.out.mono ?_
  rintro e w1 ⟨rfl, n, v', dk, hw, hI⟩
  have hd : dk.size = nd := hI.size
  have R1 : w1.rowIs g 259 32 (bufF u nd) := by
    rw [hw]
    refine (row_put HR.out dk).congr (fun t ht => ?_)
    unfold bufF
    rw [hd]
    by_cases h : t < nd
    · rw [if_pos h, if_pos h]
      show Value.int .u8 _ = _
      rw [hI.done t (Nat.zero_le _) h, dg_nat]
      rfl
    · rw [if_neg h, if_neg h]
  have K1 : KeptIn g (g + 1) w w1 := by rw [hw]; exact kept_put w g n dk
  have HR := Hid.mk' R1
  have HK := Hid.mk' K1
  have gl := R1.lt
  clear hw hI hd R1 K1 KF
  go_wp2
  go_loop [3] (fun i => ∃ k : Nat, k ≤ nd ∧ i = .int .i64 k ∧ stripN u nd k = stripN u nd nd) (fun i => (intOf i).toNat)
  case atStart => exact ⟨nd, Nat.le_refl _, rfl, rfl⟩
  case round =>
    obtain ⟨k, hk, rfl, hf⟩ := hrel
    have HF := Hid.mk' hf
    clear hf
    cases k with
    | zero =>
      have E : Hid (stripN u nd nd = 0) := Hid.mk' (by rw [← HF.out]; rfl)
      go_wp2
      go_ret2
      exact ⟨by rw [E.out]; rfl, HR.out, HK.out⟩
    | succ k =>
      have ck : w1.cell? ⟨g, k, none⟩ = some (.int .u8 (dAt u nd k)) := by rw [HR.out.cell (by omega)]; unfold bufF; rw [if_pos (by omega)]
      have cg : (k : Int) + 1 > 0 := by omega
      have cs : (k : Int) + 1 - 1 = k := by omega
      have HS : Hid (stripN u nd (k + 1) = if dAt u nd k = 48 then stripN u nd k else k + 1) := Hid.mk' rfl
      generalize dAt u nd k = z at *
      by_cases hz : z = 48
      · have hb : ((z : Int) == 48) = true := by rw [beq_iff_eq]; omega
        have E : Hid (stripN u nd k = stripN u nd nd) := Hid.mk' (by rw [← HF.out, HS.out, if_pos hz])
        clear hz
        go_wp2
        go_round
        case rel => exact ⟨k, by omega, by go_num, E.out⟩
        case measure => simp [intOf]
      · have hb : ((z : Int) == 48) = false := by rw [beq_eq_false_iff_ne]; omega
        have E : Hid (stripN u nd nd = k + 1) := Hid.mk' (by rw [← HF.out, HS.out, if_neg hz])
        clear hz
        go_wp2
        go_ret2
        exact ⟨by rw [E.out]; rfl, HR.out, HK.out⟩

end Go.Proofs.YthhdfbgjdfoalaaGreatDoor
