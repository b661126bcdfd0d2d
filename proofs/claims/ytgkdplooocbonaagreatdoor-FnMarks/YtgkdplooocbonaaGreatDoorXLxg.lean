/- The program's lexer: which method takes the next byte. -/
import Derived.Test.YtgkdplooocbonaaGreatDoorXLxf
import Derived.Test.YtgkdplooocbonaaGreatDoorXShq
import Derived.Test.YtgkdplooocbonaaGreatDoorXV8
import Derived.Lib.SlBytesConst
namespace Go.Proofs.YtgkdplooocbonaaGreatDoor
open Go.RowKit
set_option linter.unusedVariables false
set_option linter.unusedSimpArgs false

/-- The method that takes the next byte. -/
def stN (hs : List Int) : Nat := if hs = [] then 23 else if hs.getD 0 0 = 38 then 24 else if noteB hs = true then 26 else 27

theorem bytesOf_strI (l : List Int) : (strI l).toList = Lib.bytesOf l := by
  have : ∀ (l : List Int) (r : ByteArray), (l.foldl (fun r n => r.push (UInt8.ofNat n.toNat)) r).data.toList = r.data.toList ++ Lib.bytesOf l := by
    intro l
    induction l with
    | nil => intro r; simp [Lib.bytesOf]
    | cons x l ih =>
      intro r
      rw [List.foldl_cons, ih]
      simp [Lib.bytesOf, ByteArray.push]
  rw [Lib.toList_data]
  unfold strI
  rw [this]
  rfl

/-- A note begins with these four. -/
theorem note_prefix (l : List Int) : Lib.hasPrefix (Lib.bytesOf l) (Lib.bytesOf [60, 33, 45, 45]) = noteB l := by
  have e4 : Lib.bytesOf [60, 33, 45, 45] = [60, 33, 45, 45] := rfl
  unfold noteB
  rw [bytesOf_strI, e4]
  match l with
  | [] => rfl
  | [a] => simp [Lib.hasPrefix, Lib.bytesOf, List.isPrefixOf]
  | [a, b] => simp [Lib.hasPrefix, Lib.bytesOf, List.isPrefixOf]
  | [a, b, c] => simp [Lib.hasPrefix, Lib.bytesOf, List.isPrefixOf]
  | a :: b :: c :: d :: r =>
    have h4 : decide (4 ≤ (a :: b :: c :: d :: r).length) = true := by simp
    rw [h4, Bool.true_and]
    simp only [Lib.hasPrefix, Lib.bytesOf, List.map_cons, List.isPrefixOf, List.take_succ_cons, List.take_zero, List.map_nil]
    rw [Bool.eq_iff_iff]
    simp only [Bool.and_eq_true, beq_iff_eq, List.cons.injEq, and_true]
    constructor
    · rintro ⟨h1, h2, h3, h4⟩; exact ⟨h1.symm, h2.symm, h3.symm, h4.symm⟩
    · rintro ⟨h1, h2, h3, h4⟩; exact ⟨h1.symm, h2.symm, h3.symm, h4.symm⟩

theorem quotes_count : ∀ (l : List Int), (∀ x ∈ l, 0 ≤ x ∧ x ≤ 255) → Lib.countByte (Lib.bytesOf l) 34 = quotes l
  | [], _ => rfl
  | x :: l, h => by
    have ih := quotes_count l (fun y hy => h y (List.mem_cons_of_mem _ hy))
    obtain ⟨h0, h1⟩ := h x (List.mem_cons_self ..)
    have e : (UInt8.ofNat x.toNat == 34) = decide (x = 34) := by
      rw [Bool.eq_iff_iff, beq_iff_eq, decide_eq_true_iff]
      constructor
      · intro hx
        have := congrArg UInt8.toNat hx
        simp at this
        omega
      · rintro rfl; rfl
    have hq : quotes (x :: l) = (if x = 34 then 1 else 0) + quotes l := rfl
    unfold Lib.countByte Lib.bytesOf at ih ⊢
    rw [List.map_cons, List.count_cons, ih, e, hq]
    by_cases hx : x = 34 <;> simp [hx, Nat.add_comm]

theorem Byt.mem {l : List Int} (h : Byt l) : ∀ x ∈ l, 0 ≤ x ∧ x ≤ 255 := fun x hx => by
  obtain ⟨k, hk, e⟩ := List.getElem_of_mem hx
  have := h k hk
  simpa [List.getD_eq_getElem?_getD, hk, e] using this

theorem cell_in (w : World) (xs : Array Value) (t : TypeId) (r : Nat × Nat) (i : Nat) : (w.alloc (.cells xs t r)).cell? ⟨w.heap.size, i, none⟩ = xs[i]? := by
  unfold World.cell?
  have h : (w.alloc (.cells xs t r)).heap[w.heap.size]? = some (.cells xs t r) := Deep.blk_alloc_new _ _
  dsimp only
  rw [h]
  rfl

set_option maxRecDepth 100000 in
set_option maxHeartbeats 3200000 in
theorem lexState_any (lo g : Nat) (w : World) (hs : List Int) (ts : List TK) (h : LXs lo g w hs ts) (hu : Byt hs) (hl : hs.length ≤ 200) :
    Calls Tryz.prog 16 #[.pointer (some ⟨g, 0, none⟩)] w fun e w' => e = .returned (.func (.func (stN hs)) #[.pointer (some ⟨g, 0, none⟩)] #[]) ∧ LXs lo g w' hs ts ∧ Below lo w w' := by
  have HS := Hid.mk' h
  obtain ⟨hv, tv, us, rs, bl, bh, h⟩ := h
  have lg := h.lg
  obtain ⟨c0, c1, c2⟩ := cellsQ2 h.box
  obtain ⟨p, c, rfl, hb⟩ := own_bat h.held
  by_cases h0 : hs = []
  · have E : Hid (stN hs = 23) := Hid.mk' (by unfold stN; rw [if_pos h0])
    subst h0
    clear h
    go_enter Tryz.func16, Tryz.ntmps16
    go_wp2
    go_ret
    exact ⟨by rw [E.out]; rfl, HS.out, Below.refl _ _⟩
  have hp : 0 < hs.length := List.length_pos_iff.2 h0
  have hz : ((hs.length : Int) == 0) = false := by simp; omega
  rcases hb with hb | ⟨b, o, rfl, hlt, hc⟩
  · exact absurd hb h0
  have d0 : w.cell? ⟨b, o + 0, none⟩ = some (.int .u8 (hs.getD 0 0)) := hc 0 hp
  rw [Nat.add_zero] at d0
  obtain ⟨y, hy⟩ : ∃ y, hs.getD 0 0 = y := ⟨_, rfl⟩
  rw [hy] at d0
  by_cases h1 : hs.getD 0 0 = 38
  · have E : Hid (stN hs = 24) := Hid.mk' (by unfold stN; rw [if_neg h0, if_pos h1])
    rw [← hy, h1] at d0
    clear h hc h1 h0 hy
    go_enter Tryz.func16, Tryz.ntmps16
    go_wp2
    go_ret
    exact ⟨by rw [E.out]; rfl, HS.out, Below.refl _ _⟩
  have e1 : (y == 38) = false := by rw [← hy]; simpa using h1
  obtain ⟨a9, c9, e9, hcap⟩ := own_cap h.held
  cases e9
  have kcv := Lib.run_convert_bytes_const (P := Tryz.prog) w 22 5 #[.int .u8 60, .int .u8 33, .int .u8 45, .int .u8 45] 4 4 Tryz.underlying22 Tryz.underlying5
  have NB := below_new w (.cells #[.int .u8 60, .int .u8 33, .int .u8 45, .int .u8 45] 5 (4, 5))
  have KH := Tryz.bytes_HasPrefix b o hs.length c w.heap.size 0 4 4 hs [60, 33, 45, 45] (w.alloc (.cells #[.int .u8 60, .int .u8 33, .int .u8 45, .int .u8 45] 5 (4, 5))) rfl rfl hcap (fun i hi => (NB.cell hlt).trans (hc i hi)) (fun i hi => by
    have : i = 0 ∨ i = 1 ∨ i = 2 ∨ i = 3 := by omega
    rw [Nat.zero_add, cell_in]
    rcases this with rfl | rfl | rfl | rfl <;> rfl)
  rw [note_prefix] at KH
  have KH := Hid.mk' KH
  have BB := Hid.mk' NB
  have HL := Hid.mk' h
  clear hc NB h
  cases hn : noteB hs with
  | true =>
    have E : Hid (stN hs = 26) := Hid.mk' (by unfold stN; rw [if_neg h0, if_neg h1, if_pos hn])
    rw [hn] at KH
    clear h1 h0 hn hy
    go_enter Tryz.func16, Tryz.ntmps16
    go_wp2_with fail
    refine KH.out.mono ?_
    rintro e w2 ⟨rfl, hw⟩
    obtain rfl := hw.symm
    go_wp2
    go_ret
    exact ⟨by rw [E.out]; rfl, ⟨_, _, _, _, _, _, HL.out.below BB.out⟩, BB.out.mono (by omega)⟩
  | false =>
    have E : Hid (stN hs = 27) := Hid.mk' (by unfold stN; rw [if_neg h0, if_neg h1, if_neg (by rw [hn]; exact Bool.false_ne_true)])
    rw [hn] at KH
    clear h1 h0 hn hy
    go_enter Tryz.func16, Tryz.ntmps16
    go_wp2_with fail
    refine KH.out.mono ?_
    rintro e w2 ⟨rfl, hw⟩
    obtain rfl := hw.symm
    go_wp2
    go_ret
    exact ⟨by rw [E.out]; rfl, ⟨_, _, _, _, _, _, HL.out.below BB.out⟩, BB.out.mono (by omega)⟩

end Go.Proofs.YtgkdplooocbonaaGreatDoor
