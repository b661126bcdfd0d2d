/- Walks: a text escaped, both sides. -/
import Derived.Test.YtbidddmojmcemahDoorEbu
import Derived.Test.YtbidddmojmcemahDoorWb
import Derived.Test.YtbidddmojmcemahDoorShb
namespace Go.Proofs.YtbidddmojmcemahDoor
open Go.RowKit
set_option linter.unusedVariables false

/-- The bytes of a text that is escaped. -/
def escAll : List Int → List UInt8
  | [] => []
  | b :: r => (escB b).data.toList ++ escAll r
theorem escAll_append : ∀ (l m : List Int), escAll (l ++ m) = escAll l ++ escAll m
  | [], m => rfl
  | b :: r, m => by simp only [List.cons_append, escAll, escAll_append r m, List.append_assoc]
theorem escAll_take (l : List Int) (k : Nat) (h : k < l.length) : escAll (l.take (k + 1)) = escAll (l.take k) ++ (escB (l.getD k 0)).data.toList := by
  rw [List.take_add_one, List.getElem?_eq_getElem h, Option.toList_some, escAll_append]
  simp [escAll, List.getD_eq_getElem?_getD, List.getElem?_eq_getElem h]
theorem escB_size (b : Int) : (escB b).size ≤ 6 := by
  unfold escB
  split
  · decide
  split
  · decide
  split
  · decide
  split
  · decide
  · exact Nat.le_trans (Nat.le_refl 1) (by decide)
theorem cat_ba (p : List UInt8) (s : ByteArray) : ((⟨p.toArray⟩ : ByteArray) ++ s) = ⟨(p ++ s.data.toList).toArray⟩ := by
  apply ByteArray.ext
  rw [ByteArray.data_append]
  simp
theorem escAll_len (l : List Int) : (escAll l).length ≤ 6 * l.length := by
  induction l with
  | nil => simp [escAll]
  | cons b r ih =>
    have := escB_size b
    have e : (escB b).data.toList.length = (escB b).size := Array.length_toList
    simp only [escAll, List.length_append, List.length_cons, e]; omega
def Bytes (l : List Int) : Prop := ∀ k, k < l.length → 0 ≤ l.getD k 0 ∧ l.getD k 0 ≤ 255

set_option maxRecDepth 100000 in
set_option maxHeartbeats 800000 in
theorem l2Escape_any (a : Option Addr) (c : Nat) (l : List Int) (w : World) (ha : BAt w a l) (hB : Bytes l) (hl : (l.length : Int) ≤ 240) :
    Calls Tryd.prog 27 #[.slice a l.length c] w fun e w' => e = .returned (.string ⟨(escAll l).toArray⟩) ∧ Below w.heap.size w w' := by
  have HB := Hid.mk' hB
  clear hB
  go_enter Tryd.func27, Tryd.ntmps27
  go_wp2
  go_loopw [3, 4] (fun o i wr => ∃ k : Nat, k ≤ l.length ∧ i = .int .i64 k ∧ o = .string ⟨(escAll (l.take k)).toArray⟩ ∧ Below w.heap.size w wr) (fun _ i _ => l.length - (intOf i).toNat)
  case atStart => exact ⟨0, Nat.zero_le _, rfl, rfl, Below.refl _ _⟩
  case round =>
    obtain ⟨k, hk, rfl, rfl, hbl⟩ := hrel
    by_cases hlt : k < l.length
    · rcases ha with ha | ⟨b, o, rfl, hbs, hc⟩
      · exact absurd hlt (by rw [ha]; exact Nat.not_lt_zero _)
      have h1 : wr.cell? ⟨b, o + k, none⟩ = some (.int .u8 (l.getD k 0)) := (hbl.cell hbs).trans (hc k hlt)
      have bd := HB.out k hlt
      have E := Hid.mk' (escAll_take l k hlt)
      have EL := escAll_len (l.take k)
      have EB := escB_size (l.getD k 0)
      rw [List.length_take, Nat.min_eq_left hk] at EL
      generalize l.getD k 0 = x at *
      generalize escAll (l.take k) = pre at *
      have R2 := Hid.mk' hbl
      have F := Hid.mk' (l2Byte_any x wr bd.1 bd.2)
      clear hbl hc
      go_wp2_with fail
      refine F.out.mono ?_
      rintro e w1 ⟨rfl, hb1⟩
      have R3 := Hid.mk' (R2.out.trans (hb1.mono R2.out.size))
      clear hb1 F
      generalize escB x = sx at *
      go_wp2
      exact ⟨⟨k + 1, hlt, by simp, by rw [cat_ba, E.out], R3.out⟩, by simp [intOf]; omega⟩
    · go_wp2
      go_ret
      have e : k = l.length := by omega
      subst e
      rw [List.take_length]
      exact ⟨rfl, hbl⟩

theorem below_new' (w : World) (o : Obj) : Below w.heap.size w (w.alloc o) := (Below.refl _ _).alloc (Nat.le_refl _) o
theorem own_keep {w w' : World} {base : Nat} {e : TypeId} {size : Nat} {v : Value} {n : Nat} {xs : List Value} (h : w.ownsRow base e size v n xs) (hb : Below w.heap.size w w') : w'.ownsRow base e size v n xs :=
  h.kept (row := none) ⟨hb.os, hb.tape, hb.output, hb.size, fun k hk _ => hb.block k hk⟩ (by cases hv : v.ownBlock <;> simp)
theorem built_keep {T e : TypeId} {B b : Nat} {bs : List Value} {w w' : World} (h : Lib.IsBuilder T e B b bs w) (hb : Below w.heap.size w w') : Lib.IsBuilder T e B b bs w' := by
  rcases h with h | h
  · have hlt := h.lt
    obtain ⟨h1, v, h2, h3, h4⟩ := h
    exact .inl ⟨h1, v, by rw [hb.block b hlt]; exact h2, own_keep h3 hb, h4⟩
  · have hlt := h.lt
    obtain ⟨h1, v, h2, h3, h4⟩ := h
    exact .inr ⟨h1, v, by rw [hb.block b hlt]; exact h2, own_keep h3 hb, h4⟩
theorem built_new (w : World) : Lib.IsBuilder 52 5 w.heap.size w.heap.size [] (w.alloc (.cells #[.pointer none, .slice none 0 0] 52)) :=
  .inl ⟨Nat.le_refl _, .slice none 0 0, by show (w.heap.push _)[w.heap.size]? = _; simp, ⟨by rfl, .inl ⟨rfl, rfl⟩⟩, by simp [Value.ownBlock]⟩

def etCode (l : List Int) : Int := if 240 < l.length then 6 else 0
def etText (l : List Int) : ByteArray := if 240 < l.length then ⟨#[]⟩ else ⟨(escAll l).toArray⟩

set_option maxRecDepth 100000 in
set_option maxHeartbeats 800000 in
theorem specET_any (a : Option Addr) (c : Nat) (l : List Int) (w : World) (ha : BAt w a l) (hB : Bytes l) (hl : (l.length : Int) ≤ 1048576) :
    Calls Tryd.prog 13 #[.slice a l.length c] w fun e w' => e = .returned (.agg #[.int .i64 (etCode l), .string (etText l)]) ∧ Below w.heap.size w w' := by
  have B0 := (Below.refl w.heap.size w).alloc (Nat.le_refl _) (.cells #[.int .i64 0, .string ⟨#[]⟩] 28)
  unfold etCode etText
  by_cases h : 240 < l.length
  · rw [if_pos h, if_pos h]
    clear ha hB
    have BB := Hid.mk' B0
    clear B0
    go_enter Tryd.func13, Tryd.ntmps13
    go_wp2
    exact bodyPost_ret (v := .agg #[.int .i64 6, .string ⟨#[]⟩]) (by simp [results, Tryd.results13, go_sem, *]) rfl ⟨rfl, (Below.refl _ _).alloc (Nat.le_refl _) _⟩
  · rw [if_neg h, if_neg h]
    have F := Hid.mk' (l2Escape_any a c l _ (ha.below B0) hB (by omega))
    have BB := Hid.mk' B0
    clear B0 ha hB
    go_enter Tryd.func13, Tryd.ntmps13
    go_wp2_with fail
    refine F.out.mono ?_
    rintro e w2 ⟨rfl, hb⟩
    obtain ⟨hx, hy⟩ := bcell hb
    simp at hx hy
    have y := hb.size
    simp at y
    have B := Hid.mk' (BB.out.trans (hb.mono (by simp)))
    clear F hb BB
    go_wp2
    exact bodyPost_ret (v := .agg #[.int .i64 0, .string ⟨(escAll l).toArray⟩]) (by simp [results, Tryd.results13, go_sem, *]) rfl ⟨rfl, (B.out.setCell (p := ⟨w.heap.size, 0, none⟩) (Nat.le_refl _) _).setCell (p := ⟨w.heap.size, 1, none⟩) (Nat.le_refl _) _⟩

set_option maxRecDepth 100000 in
set_option maxHeartbeats 1600000 in
theorem implET_any (a : Option Addr) (c : Nat) (l : List Int) (w : World) (hr : Refs w) (ha : BAt w a l) (hB : Bytes l) (hl : (l.length : Int) ≤ 1048576) :
    Calls Tryd.prog 15 #[.slice a l.length c] w fun e w' => e = .returned (.agg #[.int .i64 (etCode l), .string (etText l)]) ∧ Below w.heap.size w w' := by
  unfold etCode etText
  by_cases h : 240 < l.length
  · rw [if_pos h, if_pos h]
    clear ha hB hr
    go_enter Tryd.func15, Tryd.ntmps15
    go_wp2
    exact bodyPost_ret (v := .agg #[.int .i64 6, .string ⟨#[]⟩]) (by simp [results, Tryd.results15, go_sem, *]) rfl ⟨rfl, (Below.refl _ _).alloc (Nat.le_refl _) _⟩
  · rw [if_neg h, if_neg h]
    have h' : (l.length : Int) ≤ 240 := by omega
    have B0 := (Below.refl w.heap.size w).alloc (Nat.le_refl _) (.cells #[.int .i64 0, .string ⟨#[]⟩] 28)
    have B1 := B0.alloc (by simp) (.cells #[.pointer none, .slice none 0 0] 52)
    have N0 := built_new (w.alloc (.cells #[.int .i64 0, .string ⟨#[]⟩] 28))
    rw [show (w.alloc (.cells #[.int .i64 0, .string ⟨#[]⟩] 28)).heap.size = w.heap.size + 1 from by simp] at N0
    have HR := Hid.mk' hr
    have HA := Hid.mk' ha
    have HB := Hid.mk' hB
    have BB := Hid.mk' B1
    have NN := Hid.mk' N0
    have C0 : ((w.alloc (.cells #[.int .i64 0, .string ⟨#[]⟩] 28)).alloc (.cells #[.pointer none, .slice none 0 0] 52)).cell? ⟨w.heap.size, 0, none⟩ = some (.int .i64 0) ∧ ((w.alloc (.cells #[.int .i64 0, .string ⟨#[]⟩] 28)).alloc (.cells #[.pointer none, .slice none 0 0] 52)).cell? ⟨w.heap.size, 1, none⟩ = some (.string ⟨#[]⟩) ∧ ((w.alloc (.cells #[.int .i64 0, .string ⟨#[]⟩] 28)).alloc (.cells #[.pointer none, .slice none 0 0] 52)).frozen? ⟨w.heap.size, 0, none⟩ = false ∧ ((w.alloc (.cells #[.int .i64 0, .string ⟨#[]⟩] 28)).alloc (.cells #[.pointer none, .slice none 0 0] 52)).frozen? ⟨w.heap.size, 1, none⟩ = false := by
      refine ⟨?_, ?_, ?_, ?_⟩ <;> simp
    have CC := Hid.mk' C0
    clear hr ha hB B0 B1 N0 C0
    have SZ : ((w.alloc (.cells #[.int .i64 0, .string ⟨#[]⟩] 28)).alloc (.cells #[.pointer none, .slice none 0 0] 52)).heap.size = w.heap.size + 2 := by simp
    go_enter Tryd.func15, Tryd.ntmps15
    go_wp2
    generalize (w.alloc (.cells #[.int .i64 0, .string ⟨#[]⟩] 28)).alloc (.cells #[.pointer none, .slice none 0 0] 52) = w0 at *
    go_loopw [12] (fun i wr => ∃ k : Nat, k ≤ l.length ∧ i = .int .i64 k ∧ Lib.IsBuilder 52 5 (w.heap.size + 1) (w.heap.size + 1) (Lib.byteCells (escAll (l.take k))) wr ∧ Below (w.heap.size + 1) w0 wr) (fun i _ => l.length - (intOf i).toNat)
    case atStart => exact ⟨0, Nat.zero_le _, rfl, NN.out, Below.refl _ _⟩
    case round =>
      obtain ⟨k, hk, rfl, hib, hbl⟩ := hrel
      have R0 := Hid.mk' (BB.out.trans (hbl.mono (by omega)))
      have IB := Hid.mk' hib
      have BL := Hid.mk' hbl
      have sz := hbl.size
      clear hib hbl
      by_cases hlt : k < l.length
      · rcases HA with ha | ⟨b, o, rfl, hbs, hc⟩
        · exact absurd hlt (by rw [ha]; exact Nat.not_lt_zero _)
        have h1 : wr.cell? ⟨b, o + k, none⟩ = some (.int .u8 (l.getD k 0)) := (R0.out.cell hbs).trans (hc k hlt)
        have bd := HB.out k hlt
        have E := Hid.mk' (escAll_take l k hlt)
        have EL := escAll_len (l.take k)
        have EB := escB_size (l.getD k 0)
        rw [List.length_take, Nat.min_eq_left hk] at EL
        generalize l.getD k 0 = x at *
        generalize escAll (l.take k) = pre at *
        have F := Hid.mk' (escapedByte_any x wr bd.1 bd.2 (HR.out.below R0.out))
        clear hc
        go_wp2_with fail
        refine F.out.mono ?_
        rintro e w1 ⟨rfl, hb1⟩
        have IB1 := Hid.mk' (built_keep IB.out hb1)
        have BL1 := Hid.mk' (BL.out.trans (hb1.mono (by omega)))
        have y1 := hb1.size
        clear hb1 F IB BL
        generalize escB x = sx at *
        go_wp2_with fail
        refine (write_any _ _ _ sx _ IB1.out (by rw [Lib.byteCells_length]; omega) (by omega)).mono ?_
        rintro e w2 ⟨rfl, hba, hb2⟩
        have IB2 : Hid (Lib.IsBuilder 52 5 (w.heap.size + 1) (w.heap.size + 1) (Lib.byteCells (escAll (l.take (k + 1)))) w2) := by
          rw [E.out, Lib.byteCells_append, ← Lib.strCells_eq]; exact .inr hba
        have BL2 := Hid.mk' (BL1.out.trans hb2)
        clear hba hb2 IB1 BL1
        go_wp2
        exact ⟨⟨k + 1, hlt, by simp, IB2.out, BL2.out⟩, by simp [intOf]; omega⟩
      · have e : k = l.length := by omega
        subst e
        rw [List.take_length] at IB
        have F := Hid.mk' (Tryd.Builder_String_any _ _ _ _ IB.out (by omega))
        obtain ⟨q0, q1, q2, q3⟩ := CC.out
        go_wp2_with fail
        refine F.out.mono ?_
        rintro e w1 ⟨rfl, hb1⟩
        have L1 := BL.out.trans hb1
        rw [← L1.cell (p := ⟨w.heap.size, 0, none⟩) (Nat.lt_succ_self _)] at q0
        rw [← L1.cell (p := ⟨w.heap.size, 1, none⟩) (Nat.lt_succ_self _)] at q1
        rw [← L1.frozen (p := ⟨w.heap.size, 0, none⟩) (Nat.lt_succ_self _)] at q2
        rw [← L1.frozen (p := ⟨w.heap.size, 1, none⟩) (Nat.lt_succ_self _)] at q3
        have B := Hid.mk' (BB.out.trans (L1.mono (by omega)))
        clear F hb1 L1 IB BL R0 BB NN CC HR HA HB
        go_wp2
        exact bodyPost_ret (v := .agg #[.int .i64 0, .string ⟨(escAll l).toArray⟩]) (by simp [results, Tryd.results15, go_sem, *]) rfl ⟨rfl, (B.out.setCell (p := ⟨w.heap.size, 0, none⟩) (Nat.le_refl _) _).setCell (p := ⟨w.heap.size, 1, none⟩) (Nat.le_refl _) _⟩

set_option maxRecDepth 100000 in
set_option maxHeartbeats 1600000 in
theorem lawET_any (a : Option Addr) (c : Nat) (l : List Int) (w : World) (hr : Refs w) (ha : BAt w a l) (hB : Bytes l) (hm : (l.length : Int) ≤ 9223372036854775807) :
    Calls Tryd.prog 5 #[.slice a l.length c] w fun e w' => e = .returned (.bool true) ∧ Below w.heap.size w w' := by
  by_cases hl : (l.length : Int) ≤ 1048576
  · have HR := Hid.mk' hr
    have HA := Hid.mk' ha
    have HB := Hid.mk' hB
    clear hr ha hB
    go_enter Tryd.func5, Tryd.ntmps5
    go_wp2_with fail
    refine (toByteS_any a c l _ HA.out hl).mono ?_
    rintro e w1 ⟨b1, rfl, g1, r1, hb1⟩
    have R1 := Hid.mk' r1
    have L1 := Hid.mk' hb1
    clear r1 hb1
    go_wp2_with fail
    refine (specET_any _ _ l _ (.of_row R1.out) HB.out hl).mono ?_
    rintro e w2 ⟨rfl, hb2⟩
    have N2 := below_new' w2 (.cells #[.int .i64 (etCode l), .string (etText l)] 28)
    have L2 := Hid.mk' ((L1.out.trans (hb2.mono L1.out.size)).trans (N2.mono (Nat.le_trans L1.out.size hb2.size)))
    have s2 := hb2.size
    have s1 := L1.out.size
    have q0 : (w2.alloc (.cells #[.int .i64 (etCode l), .string (etText l)] 28)).cell? ⟨w2.heap.size, 0, none⟩ = some (.int .i64 (etCode l)) := by simp
    have q1 : (w2.alloc (.cells #[.int .i64 (etCode l), .string (etText l)] 28)).cell? ⟨w2.heap.size, 1, none⟩ = some (.string (etText l)) := by simp
    have Q0 := Hid.mk' q0
    have Q1 := Hid.mk' q1
    have SZ : (w2.alloc (.cells #[.int .i64 (etCode l), .string (etText l)] 28)).heap.size = w2.heap.size + 1 := by simp
    clear N2 hb2 L1 R1 g1 q0 q1
    go_wp2_with fail
    generalize w2.alloc (.cells #[.int .i64 (etCode l), .string (etText l)] 28) = w3 at *
    refine (toByteS_any a c l _ (HA.out.below L2.out) hl).mono ?_
    rintro e w4 ⟨b4, rfl, g4, r4, hb4⟩
    have R4 := Hid.mk' r4
    have L4 := Hid.mk' (L2.out.trans (hb4.mono L2.out.size))
    have s4 := hb4.size
    have q0 := (hb4.cell (p := ⟨w2.heap.size, 0, none⟩) (show w2.heap.size < w3.heap.size by omega)).trans Q0.out
    have q1 := (hb4.cell (p := ⟨w2.heap.size, 1, none⟩) (show w2.heap.size < w3.heap.size by omega)).trans Q1.out
    have P0 := Hid.mk' q0
    have P1 := Hid.mk' q1
    clear r4 hb4 L2 Q0 Q1 q0 q1
    go_wp2_with fail
    refine (implET_any _ _ l _ (HR.out.below L4.out) (.of_row R4.out) HB.out hl).mono ?_
    rintro e w5 ⟨rfl, hb5⟩
    have N5 := below_new' w5 (.cells #[.int .i64 (etCode l), .string (etText l)] 28)
    have R5 := Hid.mk' ((R4.out.of_block (hb5.block _ R4.out.lt)).of_block (N5.block _ (R4.out.of_block (hb5.block _ R4.out.lt)).lt))
    have L5 := Hid.mk' ((L4.out.trans (hb5.mono L4.out.size)).trans (N5.mono (Nat.le_trans L4.out.size hb5.size)))
    have s5 := hb5.size
    have t5 : w2.heap.size < w5.heap.size := by omega
    have q0 := (hb5.cell (p := ⟨w2.heap.size, 0, none⟩) (show w2.heap.size < w4.heap.size by omega)).trans P0.out
    have q1 := (hb5.cell (p := ⟨w2.heap.size, 1, none⟩) (show w2.heap.size < w4.heap.size by omega)).trans P1.out
    clear hb5 L4 R4 N5 P0 P1
    go_wp2_with fail
    refine (eqTR_any _ _ _).mono ?_
    rintro e w6 ⟨rfl, hb6⟩
    have R6 := Hid.mk' (R5.out.of_block (hb6.block _ R5.out.lt))
    have L6 := Hid.mk' (L5.out.trans (hb6.mono L5.out.size))
    clear hb6 R5 L5 q0 q1
    go_wp2_with fail
    refine (toByteS_any a c l _ (HA.out.below L6.out) hl).mono ?_
    rintro e w7 ⟨b7, rfl, g7, r7, hb7⟩
    have R7 := Hid.mk' (R6.out.of_block (hb7.block _ R6.out.lt))
    have L7 := Hid.mk' (L6.out.trans (hb7.mono L6.out.size))
    have U7 := Hid.mk' r7
    clear hb7 r7 R6 L6
    go_wp2_with fail
    refine (eqByteS_any _ _ _ _ l _ (.of_row R7.out) (.of_row U7.out) hl).mono ?_
    rintro e w8 ⟨rfl, hb8⟩
    have L8 := Hid.mk' (L7.out.trans (hb8.mono L7.out.size))
    clear hb8
    go_wp2
    go_ret
    exact ⟨rfl, L8.out⟩
  · clear hr ha hB
    go_enter Tryd.func5, Tryd.ntmps5
    go_wp2
    go_ret
    exact ⟨rfl, Below.refl _ _⟩
end Go.Proofs.YtbidddmojmcemahDoor
