/- Walks: a text escaped, both sides. -/
import Derived.Test.YtcjnfodkppcpoaaDoorXDeb
import Derived.Test.YtcjnfodkppcpoaaDoorXWb
import Derived.Test.YtcjnfodkppcpoaaDoorXDsh
namespace Go.Proofs.YtcjnfodkppcpoaaDoor
open Go.RowKit
set_option linter.unusedVariables false

/-- The bytes of a text that is escaped. -/
def escAll : List Int → List UInt8
  | [] => []
  | b :: r => (escB b).data.toList ++ escAll r
theorem escAll_append : ∀ (l m : List Int), escAll (l ++ m) = escAll l ++ escAll m
  | [], m => rfl
  | b :: r, m => by simp only [List.cons_append, escAll, escAll_append r m, List.append_assoc]
theorem escAll_take (l : List Int) (k : Nat) (h : k < l.length) : escAll (l.take (k + 1)) = escAll (l.take k) ++ (escB (l.getD k 0)).data.toList := by
  rw [List.take_add_one, List.getElem?_eq_getElem h, Option.toList_some, escAll_append]
  simp [escAll, List.getD_eq_getElem?_getD, List.getElem?_eq_getElem h]
theorem escB_size (b : Int) : (escB b).size ≤ 6 := by
  unfold escB
  split
  · decide
  split
  · decide
  split
  · decide
  split
  · decide
  · exact Nat.le_trans (Nat.le_refl 1) (by decide)
theorem cat_ba (p : List UInt8) (s : ByteArray) : ((⟨p.toArray⟩ : ByteArray) ++ s) = ⟨(p ++ s.data.toList).toArray⟩ := by
  apply ByteArray.ext
  rw [ByteArray.data_append]
  simp
theorem escAll_len (l : List Int) : (escAll l).length ≤ 6 * l.length := by
  induction l with
  | nil => simp [escAll]
  | cons b r ih =>
    have := escB_size b
    have e : (escB b).data.toList.length = (escB b).size := Array.length_toList
    simp only [escAll, List.length_append, List.length_cons, e]; omega
def Bytes (l : List Int) : Prop := ∀ k, k < l.length → 0 ≤ l.getD k 0 ∧ l.getD k 0 ≤ 255

set_option maxRecDepth 100000 in
set_option maxHeartbeats 800000 in
theorem l2Escape_any (a : Option Addr) (c : Nat) (l : List Int) (w : World) (ha : BAt w a l) (hB : Bytes l) (hl : (l.length : Int) ≤ 240) :
    Calls Tryd.prog 57 #[.slice a l.length c] w fun e w' => e = .returned (.string ⟨(escAll l).toArray⟩) ∧ Below w.heap.size w w' := by
  have HB := Hid.mk' hB
  clear hB
  go_enter Tryd.func57, Tryd.ntmps57
  go_wp2
  go_loopw [3, 4] (fun o i wr => ∃ k : Nat, k ≤ l.length ∧ i = .int .i64 k ∧ o = .string ⟨(escAll (l.take k)).toArray⟩ ∧ Below w.heap.size w wr) (fun _ i _ => l.length - (intOf i).toNat)
  case atStart => exact ⟨0, Nat.zero_le _, rfl, rfl, Below.refl _ _⟩
  case round =>
    obtain ⟨k, hk, rfl, rfl, hbl⟩ := hrel
    by_cases hlt : k < l.length
    · rcases ha with ha | ⟨b, o, rfl, hbs, hc⟩
      · exact absurd hlt (by rw [ha]; exact Nat.not_lt_zero _)
      have h1 : wr.cell? ⟨b, o + k, none⟩ = some (.int .u8 (l.getD k 0)) := (hbl.cell hbs).trans (hc k hlt)
      have bd := HB.out k hlt
      have E := Hid.mk' (escAll_take l k hlt)
      have EL := escAll_len (l.take k)
      have EB := escB_size (l.getD k 0)
      rw [List.length_take, Nat.min_eq_left hk] at EL
      generalize l.getD k 0 = x at *
      generalize escAll (l.take k) = pre at *
      have R2 := Hid.mk' hbl
      have F := Hid.mk' (l2Byte_any x wr bd.1 bd.2)
      clear hbl hc
      go_wp2_with fail
      refine F.out.mono ?_
      rintro e w1 ⟨rfl, hb1⟩
      have R3 := Hid.mk' (R2.out.trans (hb1.mono R2.out.size))
      clear hb1 F
      generalize escB x = sx at *
      go_wp2
      exact ⟨⟨k + 1, hlt, by simp, by rw [cat_ba, E.out], R3.out⟩, by simp [intOf]; omega⟩
    · go_wp2
      go_ret
      have e : k = l.length := by omega
      subst e
      rw [List.take_length]
      exact ⟨rfl, hbl⟩

theorem below_new' (w : World) (o : Obj) : Below w.heap.size w (w.alloc o) := (Below.refl _ _).alloc (Nat.le_refl _) o
theorem own_keep {w w' : World} {base : Nat} {e : TypeId} {size : Nat} {v : Value} {n : Nat} {xs : List Value} (h : w.ownsRow base e size v n xs) (hb : Below w.heap.size w w') : w'.ownsRow base e size v n xs :=
  h.kept (row := none) ⟨hb.os, hb.tape, hb.output, hb.size, fun k hk _ => hb.block k hk⟩ (by cases hv : v.ownBlock <;> simp)
theorem built_keep {T e : TypeId} {B b : Nat} {bs : List Value} {w w' : World} (h : Lib.IsBuilder T e B b bs w) (hb : Below w.heap.size w w') : Lib.IsBuilder T e B b bs w' := by
  rcases h with h | h
  · have hlt := h.lt
    obtain ⟨h1, v, h2, h3, h4⟩ := h
    exact .inl ⟨h1, v, by rw [hb.block b hlt]; exact h2, own_keep h3 hb, h4⟩
  · have hlt := h.lt
    obtain ⟨h1, v, h2, h3, h4⟩ := h
    exact .inr ⟨h1, v, by rw [hb.block b hlt]; exact h2, own_keep h3 hb, h4⟩
theorem built_new (w : World) : Lib.IsBuilder 117 5 w.heap.size w.heap.size [] (w.alloc (.cells #[.pointer none, .slice none 0 0] 117)) :=
  .inl ⟨Nat.le_refl _, .slice none 0 0, by show (w.heap.push _)[w.heap.size]? = _; simp, ⟨by rfl, .inl ⟨rfl, rfl⟩⟩, by simp [Value.ownBlock]⟩

def etCode (l : List Int) : Int := if 240 < l.length then 6 else 0
def etText (l : List Int) : ByteArray := if 240 < l.length then ⟨#[]⟩ else ⟨(escAll l).toArray⟩

set_option maxRecDepth 100000 in
set_option maxHeartbeats 1600000 in
theorem implET_any (a : Option Addr) (c : Nat) (l : List Int) (w : World) (hr : Refs w) (ha : BAt w a l) (hB : Bytes l) (hl : (l.length : Int) ≤ 1048576) :
    Calls Tryd.prog 67 #[.slice a l.length c] w fun e w' => e = .returned (.agg #[.int .i64 (etCode l), .string (etText l)]) ∧ Below w.heap.size w w' := by
  unfold etCode etText
  by_cases h : 240 < l.length
  · rw [if_pos h, if_pos h]
    clear ha hB hr
    go_enter Tryd.func67, Tryd.ntmps67
    go_wp2
    exact bodyPost_ret (v := .agg #[.int .i64 6, .string ⟨#[]⟩]) (by simp [results, Tryd.results67, go_sem, *]) rfl ⟨rfl, (Below.refl _ _).alloc (Nat.le_refl _) _⟩
  · rw [if_neg h, if_neg h]
    have h' : (l.length : Int) ≤ 240 := by omega
    have B0 := (Below.refl w.heap.size w).alloc (Nat.le_refl _) (.cells #[.int .i64 0, .string ⟨#[]⟩] 85)
    have B1 := B0.alloc (by simp) (.cells #[.pointer none, .slice none 0 0] 117)
    have N0 := built_new (w.alloc (.cells #[.int .i64 0, .string ⟨#[]⟩] 85))
    rw [show (w.alloc (.cells #[.int .i64 0, .string ⟨#[]⟩] 85)).heap.size = w.heap.size + 1 from by simp] at N0
    have HR := Hid.mk' hr
    have HA := Hid.mk' ha
    have HB := Hid.mk' hB
    have BB := Hid.mk' B1
    have NN := Hid.mk' N0
    have C0 : ((w.alloc (.cells #[.int .i64 0, .string ⟨#[]⟩] 85)).alloc (.cells #[.pointer none, .slice none 0 0] 117)).cell? ⟨w.heap.size, 0, none⟩ = some (.int .i64 0) ∧ ((w.alloc (.cells #[.int .i64 0, .string ⟨#[]⟩] 85)).alloc (.cells #[.pointer none, .slice none 0 0] 117)).cell? ⟨w.heap.size, 1, none⟩ = some (.string ⟨#[]⟩) ∧ ((w.alloc (.cells #[.int .i64 0, .string ⟨#[]⟩] 85)).alloc (.cells #[.pointer none, .slice none 0 0] 117)).frozen? ⟨w.heap.size, 0, none⟩ = false ∧ ((w.alloc (.cells #[.int .i64 0, .string ⟨#[]⟩] 85)).alloc (.cells #[.pointer none, .slice none 0 0] 117)).frozen? ⟨w.heap.size, 1, none⟩ = false := by
      refine ⟨?_, ?_, ?_, ?_⟩ <;> simp
    have CC := Hid.mk' C0
    clear hr ha hB B0 B1 N0 C0
    have SZ : ((w.alloc (.cells #[.int .i64 0, .string ⟨#[]⟩] 85)).alloc (.cells #[.pointer none, .slice none 0 0] 117)).heap.size = w.heap.size + 2 := by simp
    go_enter Tryd.func67, Tryd.ntmps67
    go_wp2
    generalize (w.alloc (.cells #[.int .i64 0, .string ⟨#[]⟩] 85)).alloc (.cells #[.pointer none, .slice none 0 0] 117) = w0 at *
    go_loopw [12] (fun i wr => ∃ k : Nat, k ≤ l.length ∧ i = .int .i64 k ∧ Lib.IsBuilder 117 5 (w.heap.size + 1) (w.heap.size + 1) (Lib.byteCells (escAll (l.take k))) wr ∧ Below (w.heap.size + 1) w0 wr) (fun i _ => l.length - (intOf i).toNat)
    case atStart => exact ⟨0, Nat.zero_le _, rfl, NN.out, Below.refl _ _⟩
    case round =>
      obtain ⟨k, hk, rfl, hib, hbl⟩ := hrel
      have R0 := Hid.mk' (BB.out.trans (hbl.mono (by omega)))
      have IB := Hid.mk' hib
      have BL := Hid.mk' hbl
      have sz := hbl.size
      clear hib hbl
      by_cases hlt : k < l.length
      · rcases HA with ha | ⟨b, o, rfl, hbs, hc⟩
        · exact absurd hlt (by rw [ha]; exact Nat.not_lt_zero _)
        have h1 : wr.cell? ⟨b, o + k, none⟩ = some (.int .u8 (l.getD k 0)) := (R0.out.cell hbs).trans (hc k hlt)
        have bd := HB.out k hlt
        have E := Hid.mk' (escAll_take l k hlt)
        have EL := escAll_len (l.take k)
        have EB := escB_size (l.getD k 0)
        rw [List.length_take, Nat.min_eq_left hk] at EL
        generalize l.getD k 0 = x at *
        generalize escAll (l.take k) = pre at *
        have F := Hid.mk' (escapedByte_any x wr bd.1 bd.2 (HR.out.below R0.out))
        clear hc
        go_wp2_with fail
        refine F.out.mono ?_
        rintro e w1 ⟨rfl, hb1⟩
        have IB1 := Hid.mk' (built_keep IB.out hb1)
        have BL1 := Hid.mk' (BL.out.trans (hb1.mono (by omega)))
        have y1 := hb1.size
        clear hb1 F IB BL
        generalize escB x = sx at *
        go_wp2_with fail
        refine (write_any _ _ _ sx _ IB1.out (by rw [Lib.byteCells_length]; omega) (by omega)).mono ?_
        rintro e w2 ⟨rfl, hba, hb2⟩
        have IB2 : Hid (Lib.IsBuilder 117 5 (w.heap.size + 1) (w.heap.size + 1) (Lib.byteCells (escAll (l.take (k + 1)))) w2) := by
          rw [E.out, Lib.byteCells_append, ← Lib.strCells_eq]; exact .inr hba
        have BL2 := Hid.mk' (BL1.out.trans hb2)
        clear hba hb2 IB1 BL1
        go_wp2
        exact ⟨⟨k + 1, hlt, by simp, IB2.out, BL2.out⟩, by simp [intOf]; omega⟩
      · have e : k = l.length := by omega
        subst e
        rw [List.take_length] at IB
        have F := Hid.mk' (Tryd.Builder_String_any _ _ _ _ IB.out (by omega))
        obtain ⟨q0, q1, q2, q3⟩ := CC.out
        go_wp2_with fail
        refine F.out.mono ?_
        rintro e w1 ⟨rfl, hb1⟩
        have L1 := BL.out.trans hb1
        rw [← L1.cell (p := ⟨w.heap.size, 0, none⟩) (Nat.lt_succ_self _)] at q0
        rw [← L1.cell (p := ⟨w.heap.size, 1, none⟩) (Nat.lt_succ_self _)] at q1
        rw [← L1.frozen (p := ⟨w.heap.size, 0, none⟩) (Nat.lt_succ_self _)] at q2
        rw [← L1.frozen (p := ⟨w.heap.size, 1, none⟩) (Nat.lt_succ_self _)] at q3
        have B := Hid.mk' (BB.out.trans (L1.mono (by omega)))
        clear F hb1 L1 IB BL R0 BB NN CC HR HA HB
        go_wp2
        exact bodyPost_ret (v := .agg #[.int .i64 0, .string ⟨(escAll l).toArray⟩]) (by simp [results, Tryd.results67, go_sem, *]) rfl ⟨rfl, (B.out.setCell (p := ⟨w.heap.size, 0, none⟩) (Nat.le_refl _) _).setCell (p := ⟨w.heap.size, 1, none⟩) (Nat.le_refl _) _⟩

end Go.Proofs.YtcjnfodkppcpoaaDoor
