/- Walks: bytes and texts that are drawn for the laws on references. -/
import Derived.Test.YthckoaddajpgcaaDoorXa
import Derived.Test.YthckoaddajpgcaaDoorDb
namespace Go.Proofs.YthckoaddajpgcaaDoor
open Go.RowKit
set_option linter.unusedVariables false

theorem own_kept {w w' : World} {base lo hi : Nat} {e : TypeId} {size : Nat} {v : Value} {n : Nat} {xs : List Value} (h : w.ownsRow base e size v n xs) (hk : KeptIn lo hi w w') (hb : hi ≤ base) : w'.ownsRow base e size v n xs := by
  have hlt := h.lt
  obtain ⟨h0, h | ⟨g, cap, cur, rfl, hg, h1, h2, h3, h4, h5⟩⟩ := h
  · exact ⟨h0, .inl h⟩
  · exact ⟨h0, .inr ⟨g, cap, cur, rfl, hg, (hk.block g (hlt g rfl).2 (.inr (by omega))).trans h1, h2, h3, h4, h5⟩⟩

theorem own_form {w : World} {base : Nat} {e : TypeId} {size : Nat} {v : Value} {n : Nat} {xs : List Value} (h : w.ownsRow base e size v n xs) : ∃ a c, v = .slice a n c := by
  obtain ⟨_, ⟨rfl, rfl⟩ | ⟨g, cap, cur, rfl, _⟩⟩ := h
  · exact ⟨_, _, rfl⟩
  · exact ⟨_, _, rfl⟩

/-- Bytes of one's own, drawn. -/
structure Drawn (w : World) (b : Nat) (l : List Int) (k : Nat) (v : Value) (out : List Int) (wr : World) : Prop where
  own : wr.ownsRow w.heap.size 5 1 v out.length (bcs out)
  u8 : ∀ x ∈ out, 0 ≤ x ∧ x ≤ 255
  src : Src b l k wr
  kept : KeptIn b (b + 1) w wr

theorem Drawn.alloc {w wr : World} {b k : Nat} {l out : List Int} {v : Value} (h : Drawn w b l k v out wr) (o : Obj) : Drawn w b l k v out (wr.alloc o) :=
  ⟨h.own.alloc o, h.u8, h.src.below (below_new _ _), h.kept.alloc o⟩

theorem Drawn.app {w wr w1 : World} {b k : Nat} {l out : List Int} {v v' : Value} {x : Int} (h : Drawn w b l k v out wr) (hbw : b < w.heap.size) (hx : 0 ≤ x ∧ x ≤ 255) (ho : w1.ownsRow w.heap.size 5 1 v' (out.length + 1) (bcs out ++ bcs [x])) (hg : wr.grownBy w1 v.ownBlock) : Drawn w b l k v' (out ++ [x]) w1 := by
  have hlo := own_lo h.own
  refine ⟨by rw [List.length_append, bcs_append]; exact ho, fun y hy => ?_, ?_, h.kept.grown hg hlo⟩
  · rcases List.mem_append.1 hy with hy | hy
    · exact h.u8 y hy
    · rw [List.mem_singleton.1 hy]; exact hx
  · have hk : KeptIn w.heap.size wr.heap.size wr w1 := ⟨hg.os, hg.tape, hg.output, hg.size, fun j hj hc => hg.block j hj (fun e => by have := hlo j e.symm; omega)⟩
    exact h.src.kept hk hbw

set_option maxRecDepth 100000 in
set_option maxHeartbeats 1000000 in
theorem l1Some_any (b k n : Nat) (l : List Int) (w : World) (h : Src b l k w) (hk : k + n ≤ 1000000) (hn : n ≤ 100) (hl : (l.length : Int) ≤ 1048576) :
    Calls Tryd.prog 21 #[.pointer (some ⟨b, 0, none⟩), .int .i64 (n : Int)] w fun e w' => ∃ v out, e = .returned v ∧ out.length = n ∧ Drawn w b l (k + n) v out w' := by
  have hbw := h.lt
  have H0 := Hid.mk' h
  clear h
  go_enter Tryd.func21, Tryd.ntmps21
  go_wp2
  go_loopw [1, 5] (fun i v wr => ∃ (m : Nat) (out : List Int), m ≤ n ∧ i = .int .i64 m ∧ out.length + m = n ∧ Drawn w b l (k + (n - m)) v out wr) (fun i _ _ => (intOf i).toNat)
  case atStart => exact ⟨n, [], Nat.le_refl _, rfl, by simp, ⟨World.ownsRow_lit w #[] 0 (Nat.le_refl _) (by decide) rfl, fun x hx => by simp at hx, by rw [Nat.sub_self, Nat.add_zero]; exact H0.out.below (below_new _ _), (KeptIn.refl _ _ _).alloc _⟩⟩
  case round =>
    obtain ⟨m, out, hm, rfl, hlen, hD⟩ := hrel
    by_cases c : 0 < m
    · have ci : (0 : Int) < (m : Int) := by omega
      have K := Hid.mk' (l1Next_any b (k + (n - m)) l 256 wr hD.src (by omega) (by decide) (by decide) hl)
      have D0 := Hid.mk' hD
      clear hD
      go_wp2_with fail
      refine K.out.mono ?_
      rintro e w1 ⟨x, rfl, x0, x1, hS, hK⟩
      have D1 : Hid (Drawn w b l (k + (n - m) + 1) u5 out w1) := ⟨own_kept D0.out.own hK (by omega), D0.out.u8, hS, D0.out.kept.trans hK⟩
      have D2 := Hid.mk' (D1.out.alloc (.cells #[.int .u8 x] 5))
      have hw8 : IntKind.u8.wrap x = x := by rw [IntKind.wrap_u8]; omega
      have sz := D1.out.kept.size
      clear K hS hK
      go_wp2_with (at_builtin; refine wpList_append_at _ rfl (.tmp 11) (.tmp 15) 22 rfl w.heap.size 5 (.int .u8 0) 1 1 Tryd.underlying22 Tryd.info5 rfl (by decide) _ _ _ rfl D2.out.own _ 1 _ (bcs [x]) rfl (l1 _) (.inr ⟨_, rfl, one_byte w1 _ _ rfl⟩) (bcs_one _) (by unfold maxLen; omega) (by omega) (by simp; omega) ?_; intro v' w2 ho hgr hat; have D3 := Hid.mk' (D2.out.app hbw ⟨x0, by omega⟩ ho hgr); clear ho hgr hat)
      go_roundw
      case rel => exact ⟨m - 1, out ++ [x], by omega, by go_num, by simp; omega, by rw [show k + (n - (m - 1)) = k + (n - m) + 1 from by omega]; exact D3.out⟩
      case measure => simp [intOf]; omega
    · have e : m = 0 := by omega
      subst e
      have ci : ¬ (0 : Int) < ((0 : Nat) : Int) := by omega
      go_wp2
      go_ret
      exact ⟨_, rfl, out, by omega, hD⟩

/-- The sixteen texts that a text with references is drawn from. -/
abbrev words16 : Array Value := #[.string ⟨#[38, 108, 116, 59]⟩, .string ⟨#[38, 103, 116, 59]⟩, .string ⟨#[38, 97, 109, 112, 59]⟩, .string ⟨#[38, 113, 117, 111, 116, 59]⟩, .string ⟨#[38, 35, 54, 53, 59]⟩, .string ⟨#[38, 35, 48, 59]⟩, .string ⟨#[38, 35, 50, 53, 53, 59]⟩, .string ⟨#[38, 35, 50, 53, 54, 59]⟩, .string ⟨#[38, 35, 48, 53, 59]⟩, .string ⟨#[38]⟩, .string ⟨#[120]⟩, .string ⟨#[38, 97, 109]⟩, .string ⟨#[59]⟩, .string ⟨#[38, 97, 109, 112]⟩, .string ⟨#[38, 35, 59]⟩, .string ⟨#[38, 108, 116, 59, 59]⟩]

theorem words16_at (w : World) (i : Nat) (hi : i < 16) : ∃ t : ByteArray, (w.alloc (.cells words16 9)).cell? ⟨w.heap.size, i, none⟩ = some (.string t) ∧ t.size ≤ 6 := by
  have hi' : i = 0 ∨ i = 1 ∨ i = 2 ∨ i = 3 ∨ i = 4 ∨ i = 5 ∨ i = 6 ∨ i = 7 ∨ i = 8 ∨ i = 9 ∨ i = 10 ∨ i = 11 ∨ i = 12 ∨ i = 13 ∨ i = 14 ∨ i = 15 := by omega
  rcases hi' with rfl | rfl | rfl | rfl | rfl | rfl | rfl | rfl | rfl | rfl | rfl | rfl | rfl | rfl | rfl | rfl <;> exact ⟨_, by simp [words16]; rfl, by decide⟩

set_option maxRecDepth 100000 in
set_option maxHeartbeats 1000000 in
theorem l2Draw_any (b k : Nat) (l : List Int) (w : World) (h : Src b l k w) (hk : k ≤ 1000) (hl : (l.length : Int) ≤ 1048576) :
    Calls Tryd.prog 23 #[.pointer (some ⟨b, 0, none⟩)] w fun e w' => ∃ (s : ByteArray) (k' : Nat), e = .returned (.string s) ∧ s.size ≤ 100 ∧ k' ≤ k + 10 ∧ Src b l k' w' ∧ KeptIn b (b + 1) w w' := by
  have hbw := h.lt
  have K0 := Hid.mk' (l1Next_any b k l 5 w h (by omega) (by decide) (by decide) hl)
  clear h
  go_enter Tryd.func23, Tryd.ntmps23
  go_wp2_with fail
  refine K0.out.mono ?_
  rintro e w0 ⟨c, rfl, c0, c1, hS0, hK0⟩
  have HS0 := Hid.mk' hS0
  have HK0 := Hid.mk' hK0
  clear K0 hS0 hK0
  go_wp2
  go_loopw [3, 4] (fun t i wr => ∃ (m k' : Nat) (s : ByteArray), m ≤ 4 ∧ i = .int .i64 m ∧ t = .string s ∧ s.size ≤ 6 * (4 - m) ∧ k' + m ≤ k + 5 ∧ Src b l k' wr ∧ KeptIn b (b + 1) w wr) (fun _ i _ => (intOf i).toNat)
  case atStart => exact ⟨c.toNat, k + 1, ⟨#[]⟩, by omega, by rw [Int.toNat_of_nonneg c0], rfl, Nat.zero_le _, by omega, HS0.out, HK0.out⟩
  case round =>
    obtain ⟨m, k', s, hm, rfl, rfl, hs, hk', hS, hK⟩ := hrel
    by_cases cm : 0 < m
    · have ci : (0 : Int) < (m : Int) := by omega
      have S1 := hS.below (below_new wr (.cells words16 9))
      have K := Hid.mk' (l1Next_any b k' l 16 _ S1 (by omega) (by decide) (by decide) hl)
      have HK := Hid.mk' (hK.alloc (.cells words16 9))
      have hlt := hS.lt
      have W16 := Hid.mk' (words16_at wr)
      clear S1 hS hK
      go_wp2_with fail
      refine K.out.mono ?_
      rintro e w1 ⟨x, rfl, x0, x1, hS1, hK1⟩
      obtain ⟨i, rfl⟩ : ∃ i : Nat, x = (i : Int) := ⟨x.toNat, by omega⟩
      have il : i < 16 := by omega
      obtain ⟨t, ht, htl⟩ := W16.out i il
      have hc : w1.cell? ⟨wr.heap.size, i, none⟩ = some (.string t) := (hK1.cell (p := ⟨wr.heap.size, i, none⟩) (by simp) (show wr.heap.size < b ∨ b + 1 ≤ wr.heap.size by omega)).trans ht
      have HS1 := Hid.mk' hS1
      have HK1 := Hid.mk' (HK.out.trans hK1)
      clear K hS1 hK1 ht HK W16
      go_wp2
      go_roundw
      case rel => exact ⟨m - 1, k' + 1, _, by omega, by go_num, rfl, by simp [ByteArray.size_append]; omega, by omega, HS1.out, HK1.out⟩
      case measure => simp [intOf]; omega
    · have e : m = 0 := by omega
      subst e
      have ci : ¬ (0 : Int) < ((0 : Nat) : Int) := by omega
      go_wp2
      go_ret
      exact ⟨s, rfl, by omega, k', by omega, hS, hK⟩

theorem KeptIn.below' {b : Nat} {w wr : World} (h : KeptIn b (b + 1) w wr) (W : World) (hb : W.heap.size ≤ b) (hW : Below W.heap.size W w) : Below W.heap.size W wr :=
  hW.trans (h.below hb hW.size)

set_option maxHeartbeats 400000 in
theorem drawRefAt_any (a : Option Addr) (c : Nat) (l : List Int) (w : World) (ha : BAt w a l) (hu : ∀ i, i < l.length → 0 ≤ l.getD i 0 ∧ l.getD i 0 ≤ 255) (hl : (l.length : Int) ≤ 1048576) :
    Calls Tryd.prog 7 #[.slice a l.length c] w fun e w' => ∃ (s : ByteArray) (x : Int), e = .returned (.tuple #[.string s, .int .i64 x]) ∧ s.size ≤ 100 ∧ -1 ≤ x ∧ x ≤ 1000 ∧ Below w.heap.size w w' := by
  have K := Hid.mk' (l1Source_any a c l w ha hu)
  clear ha hu
  go_enter Tryd.func7, Tryd.ntmps7
  go_wp2_with fail
  refine K.out.mono ?_
  rintro e w1 ⟨rfl, hS, hb⟩
  have HB := Hid.mk' hb
  have HS := Hid.mk' hS
  clear K hS hb
  go_wp2_with fail
  refine (l2Draw_any w.heap.size 0 l w1 HS.out (by decide) hl).mono ?_
  rintro e w2 ⟨s, k2, rfl, hs, hk2, hS2, hK2⟩
  have HB2 := Hid.mk' (hK2.below' w (Nat.le_refl _) HB.out)
  have HS2 := Hid.mk' hS2
  clear HB HS hS2 hK2
  go_wp2_with fail
  refine (l1Next_any w.heap.size k2 l ((s.size : Int) + 2) w2 HS2.out (by omega) (by omega) (by omega) hl).mono ?_
  rintro e w3 ⟨x, rfl, x0, x1, _, hK3⟩
  have HB3 := Hid.mk' (hK3.below' w (Nat.le_refl _) HB2.out)
  clear HB2 HS2 hK3
  go_wp2
  go_ret2
  exact ⟨s, x - 1, rfl, hs, by omega, by omega, HB3.out⟩

/-- Bytes as a string. -/
def toS (D : List Int) : ByteArray := ⟨(D.map fun x => UInt8.ofNat x.toNat).toArray⟩
theorem toS_size (D : List Int) : (toS D).size = D.length := by simp [toS, ByteArray.size]

theorem conv_bytes (w : World) (a : Option Addr) (c : Nat) (D : List Int) (h : BAt w a D) (hu : ∀ x ∈ D, 0 ≤ x ∧ x ≤ 255) : (convert 22 9 (.slice a D.length c)).run Tryd.prog w = .ok (.string (toS D)) w := by
  rcases h with rfl | ⟨b, o, rfl, hb, hc⟩
  · cases a with
    | none =>
      rw [show ([] : List Int).length = 0 from rfl, run_convert_bytes_string w 22 9 5 none 0 c Tryd.underlying22 Tryd.underlying5 Tryd.underlying9]
      rfl
    | some ad => exact run_convert_bytes_back (P := Tryd.prog) w 22 9 5 ad c [] Tryd.underlying22 Tryd.underlying5 Tryd.underlying9 (fun j hj => by simp at hj)
  · have h := run_convert_bytes_back (P := Tryd.prog) w 22 9 5 ⟨b, o, none⟩ c (D.map fun x => UInt8.ofNat x.toNat) Tryd.underlying22 Tryd.underlying5 Tryd.underlying9 (fun j hj => by
      rw [List.length_map] at hj
      rw [Addr.add_mid, hc j hj]
      have hx := hu _ (List.getElem_mem hj)
      simp only [bv, List.getElem_map, List.getD_eq_getElem?_getD, List.getElem?_eq_getElem hj, Option.getD_some]
      rw [UInt8.toNat_ofNat', Nat.mod_eq_of_lt (by omega), Int.toNat_of_nonneg hx.1])
    rw [List.length_map] at h
    exact h

theorem zeros (w : World) (n : Nat) : BAt (w.alloc (.cells (madeCells #[.int .u8 0] n) 5)) (some ⟨w.heap.size, 0, none⟩) (List.replicate n 0) := by
  refine .inr ⟨w.heap.size, 0, rfl, by simp, fun k hk => ?_⟩
  rw [List.length_replicate] at hk
  have h := (World.rowIs_made w (.int .u8 0) n 5).cell hk
  rw [Nat.zero_add, h]
  simp [bv, hk]

set_option maxRecDepth 100000 in
set_option maxHeartbeats 400000 in
theorem drawDecodeText_any (a : Option Addr) (c : Nat) (l : List Int) (w : World) (ha : BAt w a l) (hu : ∀ i, i < l.length → 0 ≤ l.getD i 0 ∧ l.getD i 0 ≤ 255) (hl : (l.length : Int) ≤ 1048576) :
    Calls Tryd.prog 9 #[.slice a l.length c] w fun e w' => ∃ (s : ByteArray), e = .returned (.string s) ∧ s.size ≤ 3000 ∧ Below w.heap.size w w' := by
  have K := Hid.mk' (l1Source_any a c l w ha hu)
  have hmk : ∀ W : World, (Instr.makeSlice 22 (.int .i64 2001) (.int .i64 2001)).run Tryd.prog W = .ok (.slice (some ⟨W.heap.size, 0, none⟩) 2001 2001) (W.alloc (.cells (madeCells #[.int .u8 0] 2001) 5)) := fun W => run_make_row' (P := Tryd.prog) 22 5 (.int .u8 0) 1 Tryd.underlying22 Tryd.info5 rfl .i64 .i64 2001 (by omega) (by omega) W
  clear ha hu
  go_enter Tryd.func9, Tryd.ntmps9
  go_wp2_with fail
  refine K.out.mono ?_
  rintro e w1 ⟨rfl, hS, hb⟩
  have HB := Hid.mk' hb
  have HS := Hid.mk' hS
  clear K hS hb
  go_wp2_with fail
  refine (l1Chance_any w.heap.size 0 l 40 w1 HS.out (by decide) (by decide) (by decide) hl).mono ?_
  rintro e w2 ⟨v, rfl, hS2, hK2⟩
  have HB2 := Hid.mk' (hK2.below' w (Nat.le_refl _) HB.out)
  have HS2 := Hid.mk' hS2
  clear HB HS hS2 hK2
  cases v with
  | true =>
    have cv := conv_bytes _ _ 2001 _ (zeros w2 2001) (fun x hx => by rw [List.eq_of_mem_replicate hx]; decide)
    rw [List.length_replicate] at cv
    have ts := toS_size (List.replicate 2001 0)
    rw [List.length_replicate] at ts
    have HB3 := Hid.mk' (HB2.out.alloc HB2.out.size (.cells (madeCells #[.int .u8 0] 2001) 5))
    generalize toS (List.replicate 2001 0) = st at *
    go_wp2
    go_ret
    exact ⟨st, rfl, by omega, HB3.out⟩
  | false =>
    go_wp2_with fail
    refine (l2Draw_any w.heap.size 1 l w2 HS2.out (by decide) hl).mono ?_
    rintro e w3 ⟨s, k2, rfl, hs, hk2, hS3, hK3⟩
    have HB3 := Hid.mk' (hK3.below' w (Nat.le_refl _) HB2.out)
    clear HB2 HS2 hS3 hK3
    go_wp2
    go_ret
    exact ⟨s, rfl, by omega, HB3.out⟩

theorem iat_lit (w : World) (xs : List Int) : IAt (w.alloc (.cells (xs.map (Value.int .i64)).toArray 2)) w.heap.size xs := by
  refine ⟨by simp, fun i hi => ?_⟩
  rw [World.cell?_alloc_mark]
  simp [hi]

set_option maxHeartbeats 400000 in
theorem drawEscapeByte_any (a : Option Addr) (c : Nat) (l : List Int) (w : World) (ha : BAt w a l) (hu : ∀ i, i < l.length → 0 ≤ l.getD i 0 ∧ l.getD i 0 ≤ 255) (hl : (l.length : Int) ≤ 1048576) :
    Calls Tryd.prog 10 #[.slice a l.length c] w fun e w' => ∃ (x : Int), e = .returned (.int .i64 x) ∧ -1 ≤ x ∧ x ≤ 256 ∧ Below w.heap.size w w' := by
  have K := Hid.mk' (l1Source_any a c l w ha hu)
  clear ha hu
  go_enter Tryd.func10, Tryd.ntmps10
  go_wp2_with fail
  refine K.out.mono ?_
  rintro e w1 ⟨rfl, hS, hb⟩
  have HB := Hid.mk' hb
  have HS := Hid.mk' hS
  have y := hb.size
  have hlt := hS.lt
  clear K hS hb
  go_wp2_with fail
  refine (l1Pick_any w.heap.size 0 w1.heap.size 9 l [60, 62, 38, 34, 97, 0, 255, 256, -1] _ (HS.out.below (below_new w1 _)) (iat_lit w1 [60, 62, 38, 34, 97, 0, 255, 256, -1]) (by omega) (by decide) (by decide) (by decide) hl).mono ?_
  rintro e w2 ⟨i, hi, rfl, _, hK2⟩
  have HB2 := Hid.mk' (hK2.below' w (Nat.le_refl _) (HB.out.alloc y _))
  obtain ⟨x, hx⟩ : ∃ x, ([60, 62, 38, 34, 97, 0, 255, 256, -1] : List Int).getD i 0 = x := ⟨_, rfl⟩
  have hb : -1 ≤ x ∧ x ≤ 256 := by
    have hi' : i = 0 ∨ i = 1 ∨ i = 2 ∨ i = 3 ∨ i = 4 ∨ i = 5 ∨ i = 6 ∨ i = 7 ∨ i = 8 := by simp at hi; omega
    rw [← hx]
    rcases hi' with rfl | rfl | rfl | rfl | rfl | rfl | rfl | rfl | rfl <;> decide
  rw [hx]
  clear HB HS hK2 hx hi
  go_wp2
  go_ret
  exact ⟨x, rfl, hb.1, hb.2, HB2.out⟩

/-- The bytes of a string. -/
def sB (s : ByteArray) : List Int := s.data.toList.map fun c => (c.toNat : Int)
theorem sB_len (s : ByteArray) : (sB s).length = s.size := by unfold sB; rw [List.length_map, Array.length_toList]; rfl
theorem sB_u8 (s : ByteArray) : ∀ x ∈ sB s, 0 ≤ x ∧ x ≤ 255 := by
  intro x hx
  simp [sB] at hx
  obtain ⟨c, _, rfl⟩ := hx
  have := c.toNat_lt
  omega

theorem row_src (w : World) (s : ByteArray) (cap : Nat) (fz : Nat × Nat) : ∀ j u, (bcs (sB s))[j]? = some u → (w.alloc (.cells (bytesRow s cap) 5 fz)).cell? ((⟨w.heap.size, 0, none⟩ : Addr).add j) = some u := by
  intro j u hj
  have hlt : j < s.size := by
    have := (List.getElem?_eq_some_iff.1 hj).1
    rw [bcs_len, sB_len] at this; omega
  rw [Addr.add_mid, Nat.zero_add, World.cell?_alloc_mark, ← hj]
  have h2 : j < s.data.size := hlt
  unfold bytesRow
  rw [Array.getElem?_append_left (by simpa using h2)]
  simp [bcs, sB]
  rfl

set_option maxRecDepth 100000 in
set_option maxHeartbeats 1000000 in
theorem drawEscapeText_any (a : Option Addr) (c : Nat) (l : List Int) (w : World) (ha : BAt w a l) (hu : ∀ i, i < l.length → 0 ≤ l.getD i 0 ∧ l.getD i 0 ≤ 255) (hl : (l.length : Int) ≤ 1048576) :
    Calls Tryd.prog 5 #[.slice a l.length c] w fun e w' => ∃ (D : List Int) (a' : Option Addr) (c' : Nat), e = .returned (.slice a' D.length c') ∧ BAt w' a' D ∧ D.length ≤ 300 ∧ (∀ x ∈ D, 0 ≤ x ∧ x ≤ 255) ∧ Below w.heap.size w w' := by
  have K := Hid.mk' (l1Source_any a c l w ha hu)
  clear ha hu
  go_enter Tryd.func5, Tryd.ntmps5
  go_wp2_with fail
  refine K.out.mono ?_
  rintro e w1 ⟨rfl, hS, hb⟩
  have HB := Hid.mk' hb
  have HS := Hid.mk' hS
  clear K hS hb
  go_wp2_with fail
  refine (l1Chance_any w.heap.size 0 l 30 w1 HS.out (by decide) (by decide) (by decide) hl).mono ?_
  rintro e w2 ⟨v, rfl, hS2, hK2⟩
  have HB2 := Hid.mk' (hK2.below' w (Nat.le_refl _) HB.out)
  have HS2 := Hid.mk' hS2
  have y2 := HB2.out.size
  have hlt2 := hS2.lt
  clear HB HS hS2 hK2
  cases v with
  | true =>
    go_wp2_with fail
    refine (l1Pick_any w.heap.size 1 w2.heap.size 2 l [240, 241] _ (HS2.out.below (below_new w2 _)) (iat_lit w2 [240, 241]) (by omega) (by decide) (by decide) (by decide) hl).mono ?_
    rintro e w3 ⟨i, hi, rfl, _, hK3⟩
    have HB3 := Hid.mk' (hK3.below' w (Nat.le_refl _) (HB2.out.alloc y2 _))
    obtain ⟨x, hx, xl⟩ : ∃ x : Nat, ([240, 241] : List Int).getD i 0 = (x : Int) ∧ x ≤ 241 := by
      have hi' : i = 0 ∨ i = 1 := by simp at hi; omega
      rcases hi' with rfl | rfl
      · exact ⟨240, rfl, by decide⟩
      · exact ⟨241, rfl, by decide⟩
    rw [hx]
    have hmk := run_make_row' (P := Tryd.prog) 22 5 (.int .u8 0) 1 Tryd.underlying22 Tryd.info5 rfl .i64 .i64 x (by omega) (by omega)
    have Z := Hid.mk' (zeros w3 x)
    have HB4 := Hid.mk' (HB3.out.alloc HB3.out.size (.cells (madeCells #[.int .u8 0] x) 5))
    clear HB2 HS2 hK3 hx hi HB3
    go_wp2
    go_ret
    exact ⟨List.replicate x 0, some ⟨w3.heap.size, 0, none⟩, x, by rw [List.length_replicate]; rfl, Z.out, by rw [List.length_replicate]; omega, fun y hy => by rw [List.eq_of_mem_replicate hy]; decide, HB4.out⟩
  | false =>
    go_wp2_with fail
    refine (l1Next_any w.heap.size 1 l 4 w2 HS2.out (by decide) (by decide) (by decide) hl).mono ?_
    rintro e w3 ⟨m, rfl, m0, m1, hS3, hK3⟩
    obtain ⟨n, rfl⟩ : ∃ n : Nat, m = (n : Int) := ⟨m.toNat, by omega⟩
    have HB3 := Hid.mk' (hK3.below' w (Nat.le_refl _) HB2.out)
    have HS3 := Hid.mk' hS3
    clear HB2 HS2 hS3 hK3
    go_wp2_with fail
    refine (l1Some_any w.heap.size 2 n l w3 HS3.out (by omega) (by omega) hl).mono ?_
    rintro e w4 ⟨v4, out, rfl, ol, hD⟩
    subst ol
    have D4 := Hid.mk' hD
    have HB4 := Hid.mk' (hD.kept.below' w (Nat.le_refl _) HB3.out)
    obtain ⟨p4, q4, rfl⟩ := own_form hD.own
    have y3 := HB3.out.size
    have hlt3 := HS3.out.lt
    clear HB3 HS3 hD
    go_wp2_with fail
    refine (l2Draw_any w.heap.size (2 + out.length) l w4 D4.out.src (by omega) hl).mono ?_
    rintro e w5 ⟨s, k5, rfl, hs, _, hS5, hK5⟩
    have O5 := Hid.mk' (own_kept D4.out.own hK5 (by omega))
    have HB5 := Hid.mk' (hK5.below' w (Nat.le_refl _) HB4.out)
    have hcv := fun W : World => run_bytes_of_string (P := Tryd.prog) W 9 22 5 s Tryd.underlying9 Tryd.underlying22 Tryd.underlying5
    have y5 := hK5.size
    have y4 := D4.out.kept.size
    have U4 := Hid.mk' D4.out.u8
    have l5 : (bcs (sB s)).length = s.size * 1 := by rw [bcs_len, sB_len]
    clear D4 HB4 hS5 hK5
    go_wp2_with (at_builtin; refine wpList_append_at _ rfl (.tmp 15) (.tmp 18) 22 rfl w3.heap.size 5 (.int .u8 0) 1 1 Tryd.underlying22 Tryd.info5 rfl (by decide) (.slice p4 out.length q4) _ _ rfl (own_keep O5.out (((Below.refl w5.heap.size w5).alloc (Nat.le_refl _) _).drew)) _ _ _ (bcs (sB s)) rfl l5 (.inr ⟨_, rfl, fun j u hj => row_src w5 s _ _ j u hj⟩) (bcs_one _) (by unfold maxLen; omega) (by omega) (by simp; omega) ?_; intro v' w6 ho hgr hat; have HB6 := Hid.mk' (((HB5.out.alloc (HB5.out.size) _).drew).grown hgr (by have := HB5.out.size; simp; omega) (fun k e => by have := own_lo O5.out k e; omega)); have HO := Hid.mk' ho; obtain ⟨p6, q6, rfl⟩ := own_form ho; clear ho hgr hat)
    go_ret
    have ho := HO.out
    rw [← bcs_append, ← sB_len s, ← List.length_append] at ho
    obtain ⟨p, q, e, hb⟩ := (OB.of_own ho).1.len
    refine ⟨out ++ sB s, p6, q6, by rw [List.length_append, sB_len]; rfl, ?_, by rw [List.length_append, sB_len]; omega, fun x hx => ?_, HB6.out⟩
    · rw [List.length_append] at e
      cases e
      exact hb
    · rcases List.mem_append.1 hx with hx | hx
      · exact U4.out x hx
      · exact sB_u8 s x hx

end Go.Proofs.YthckoaddajpgcaaDoor
