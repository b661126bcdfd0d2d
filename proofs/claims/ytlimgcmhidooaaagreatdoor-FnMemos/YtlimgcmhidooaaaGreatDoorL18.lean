/- The program's lexer: bytes let go. -/
import Derived.Test.YtlimgcmhidooaaaGreatDoorL17
set_option linter.unusedVariables false
set_option linter.unusedSimpArgs false
namespace Go.Proofs.YtlimgcmhidooaaaGreatDoor
open Go.RowKit

set_option maxRecDepth 100000 in
set_option maxHeartbeats 1600000 in
theorem tokenOfByte_any (y : Int) (w : World) (h0 : 0 ≤ y) (h1 : y ≤ 255) :
    Calls Tryz.prog 102 #[.int .u8 y] w fun e w' => e = .returned (.agg #[.int .i64 1, .int .i64 y, .string ⟨#[]⟩, .slice none 0 0, .bool false]) ∧ Below w.heap.size w w' := by
  have HB := Hid.mk' (below_new w (.cells #[.int .i64 0, .int .i64 0, .string ⟨#[]⟩, .slice none 0 0, .bool false] 107))
  have HR := row5 w 107 (.int .i64 0) (.int .i64 0) (.string ⟨#[]⟩) (.slice none 0 0) (.bool false)
  obtain ⟨d0, d1, d2, d3, d4, d5⟩ := cells5 HR
  have f := fun i => HR.frozen i
  have f0 := f 0
  have f1 := f 1
  have f2 := f 2
  have f3 := f 3
  have f4 := f 4
  have wy : IntKind.i64.wrap y = y := by rw [IntKind.wrap_i64]; omega
  clear f HR
  generalize hW : w.alloc (.cells #[.int .i64 0, .int .i64 0, .string ⟨#[]⟩, .slice none 0 0, .bool false] 107) = W at *
  go_enter Tryz.func102, Tryz.ntmps102
  go_wp2
  refine bodyPost_ret (v := .agg #[.int .i64 1, .int .i64 y, .string ⟨#[]⟩, .slice none 0 0, .bool false]) (by simp [results, Tryz.results102, go_sem, *]) rfl ⟨rfl, ?_⟩
  exact ((((HB.out.setCell (p := ⟨w.heap.size, 0, none⟩) (by simp) _).setCell (p := ⟨w.heap.size, 1, none⟩) (by simp) _).setCell (p := ⟨w.heap.size, 2, none⟩) (by simp) _).setCell (p := ⟨w.heap.size, 3, none⟩) (by simp) _).setCell (p := ⟨w.heap.size, 4, none⟩) (by simp) _

structure GoR (w : World) (hs : List Int) (k : Nat) (wr : World) : Prop where
  bl : Below w.heap.size w wr
  row : ∃ f, wr.rowIs w.heap.size 107 (hs.length * 5) f ∧ ∀ j, j < k → f (j * 5) = .int .i64 1 ∧ f (j * 5 + 1) = .int .i64 (hs.getD j 0) ∧ f (j * 5 + 2) = .string ⟨#[]⟩ ∧ f (j * 5 + 3) = .slice none 0 0 ∧ f (j * 5 + 4) = .bool false

theorem GoR.start (w : World) (hs : List Int) : GoR w hs 0 (w.alloc (.cells (madeCells #[.int .i64 0, .int .i64 0, .string ⟨#[]⟩, .slice none 0 0, .bool false] (hs.length * 5)) 107)) := by
  refine ⟨(Below.refl _ _).alloc (Nat.le_refl _) _, fun i => r5 (.int .i64 0) (.int .i64 0) (.string ⟨#[]⟩) (.slice none 0 0) (.bool false) (i % 5), ?_, fun j hj => absurd hj (Nat.not_lt_zero _)⟩
  refine ⟨_, Deep.blk_alloc_new _ _, size_madeCells _ _, fun i hi => ?_⟩
  have h : i % 5 = 0 ∨ i % 5 = 1 ∨ i % 5 = 2 ∨ i % 5 = 3 ∨ i % 5 = 4 := by omega
  rcases h with h | h | h | h | h <;> simp [madeCells, hi, h, r5]

theorem GoR.below {w wr w1 : World} {hs : List Int} {k : Nat} (h : GoR w hs k wr) (hb : Below wr.heap.size wr w1) : GoR w hs k w1 := by
  obtain ⟨f, hf, hj⟩ := h.row
  exact ⟨h.bl.trans (hb.mono h.bl.size), f, rowB hf hb, hj⟩

theorem GoR.step {w wr : World} {hs : List Int} {k : Nat} {y : Int} (h : GoR w hs k wr) (hy : hs.getD k 0 = y) :
    GoR w hs (k + 1) (((((wr.setCell ⟨w.heap.size, k * 5, none⟩ (.int .i64 1)).setCell ⟨w.heap.size, k * 5 + 1, none⟩ (.int .i64 y)).setCell ⟨w.heap.size, k * 5 + 2, none⟩ (.string ⟨#[]⟩)).setCell ⟨w.heap.size, k * 5 + 3, none⟩ (.slice none 0 0)).setCell ⟨w.heap.size, k * 5 + 4, none⟩ (.bool false)) := by
  obtain ⟨f, hf, hj⟩ := h.row
  refine ⟨((((h.bl.setCell (p := ⟨w.heap.size, k * 5, none⟩) (Nat.le_refl _) _).setCell (p := ⟨w.heap.size, k * 5 + 1, none⟩) (Nat.le_refl _) _).setCell (p := ⟨w.heap.size, k * 5 + 2, none⟩) (Nat.le_refl _) _).setCell (p := ⟨w.heap.size, k * 5 + 3, none⟩) (Nat.le_refl _) _).setCell (p := ⟨w.heap.size, k * 5 + 4, none⟩) (Nat.le_refl _) _, _, ((((hf.set (k * 5) _).set (k * 5 + 1) _).set (k * 5 + 2) _).set (k * 5 + 3) _).set (k * 5 + 4) _, fun j hk => ?_⟩
  by_cases e : j = k
  · subst e
    refine ⟨?_, ?_, ?_, ?_, ?_⟩
    · rw [if_neg (by omega), if_neg (by omega), if_neg (by omega), if_neg (by omega), if_pos rfl]
    · rw [if_neg (by omega), if_neg (by omega), if_neg (by omega), if_pos rfl, hy]
    · rw [if_neg (by omega), if_neg (by omega), if_pos rfl]
    · rw [if_neg (by omega), if_pos rfl]
    · rw [if_pos rfl]
  · obtain ⟨h1, h2, h3, h4, h7⟩ := hj j (by omega)
    refine ⟨?_, ?_, ?_, ?_, ?_⟩
    · rw [if_neg (by omega), if_neg (by omega), if_neg (by omega), if_neg (by omega), if_neg (by omega)]; exact h1
    · rw [if_neg (by omega), if_neg (by omega), if_neg (by omega), if_neg (by omega), if_neg (by omega)]; exact h2
    · rw [if_neg (by omega), if_neg (by omega), if_neg (by omega), if_neg (by omega), if_neg (by omega)]; exact h3
    · rw [if_neg (by omega), if_neg (by omega), if_neg (by omega), if_neg (by omega), if_neg (by omega)]; exact h4
    · rw [if_neg (by omega), if_neg (by omega), if_neg (by omega), if_neg (by omega), if_neg (by omega)]; exact h7

theorem GoR.cells {w wr : World} {hs : List Int} {k i : Nat} (h : GoR w hs k wr) (hi : i < hs.length * 5) : ∃ v, wr.cell? ⟨w.heap.size, i, none⟩ = some v ∧ wr.frozen? ⟨w.heap.size, i, none⟩ = false := by
  obtain ⟨f, hf, _⟩ := h.row
  exact ⟨_, hf.cell hi, hf.frozen i⟩

theorem GoR.src {w wr wq : World} {hs : List Int} (h : GoR w hs hs.length wr) (hw : wq.heap[w.heap.size]? = wr.heap[w.heap.size]?) : (bytesT hs).length = 0 ∨ ∃ ad, (some ⟨w.heap.size, 0, none⟩ : Option Addr) = some ad ∧ ∀ j u, (tcs (bytesT hs) (nils hs.length))[j]? = some u → wq.cell? (ad.add j) = some u := by
  obtain ⟨f, hf0, hj⟩ := h.row
  have hf := hf0.of_block hw
  refine .inr ⟨_, rfl, fun j u hu => ?_⟩
  have hl := tcs_len (bytesT hs) (nils hs.length) (by rw [nils_len, bytesT_len])
  have hlt : j < hs.length * 5 := by
    have := List.getElem?_eq_some_iff.1 hu
    obtain ⟨h1, _⟩ := this
    rw [hl, bytesT_len] at h1; exact h1
  obtain ⟨q, i, rfl, hi⟩ : ∃ q i, j = q * 5 + i ∧ i < 5 := ⟨j / 5, j % 5, by omega, by omega⟩
  have hq : q < hs.length := by omega
  rw [tcs_get _ _ q i (by rw [nils_len, bytesT_len]) (by rw [bytesT_len]; exact hq) hi, bytesT_at hs q hq, nils_at hq] at hu
  obtain ⟨h1, h2, h3, h4, h5⟩ := hj q hq
  rw [Addr.add_mid, Nat.zero_add, hf.cell hlt]
  have : i = 0 ∨ i = 1 ∨ i = 2 ∨ i = 3 ∨ i = 4 := by omega
  rcases this with rfl | rfl | rfl | rfl | rfl
  · rw [Nat.add_zero, h1]; simpa [byteT] using hu
  · rw [h2]; simpa [byteT] using hu
  · rw [h3]; simpa [byteT] using hu
  · rw [h4]; simpa [byteT] using hu
  · rw [h5]; simpa [byteT] using hu

set_option maxRecDepth 100000 in
set_option maxHeartbeats 3200000 in
theorem letGo_any (lo g : Nat) (w : World) (hs : List Int) (ts : List TK) (h : LXs lo g w hs ts) (hu : Byt hs) (hn : ts.length + hs.length ≤ 1000000) :
    Calls Tryz.prog 95 #[.pointer (some ⟨g, 0, none⟩)] w fun e w' => LxP lo g [] (ts ++ bytesT hs) w e w' := by
  obtain ⟨hv, tv, us, rs, bl, bh, h⟩ := h
  have lg := h.lg
  obtain ⟨c0, c1, c2⟩ := cellsQ2 h.box
  obtain ⟨p, c, rfl, hb⟩ := own_bat h.held
  have hmk := make_tokens (P := Tryz.prog) 24 107 Tryz.underlying24 Tryz.infoTok hs.length (by omega)
  have H := Hid.mk' h
  have HB := Hid.mk' hb
  clear h hb
  go_enter Tryz.func95, Tryz.ntmps95
  go_wp2
  go_loopw [16] (fun i wr => ∃ k : Nat, k ≤ hs.length ∧ i = .int .i64 k ∧ GoR w hs k wr) (fun i _ => hs.length - (intOf i).toNat)
  case atStart => exact ⟨0, Nat.zero_le _, rfl, GoR.start w hs⟩
  case round =>
    obtain ⟨k, hk, rfl, hgo⟩ := hrel
    have G := Hid.mk' hgo
    by_cases hlt : k < hs.length
    · have ci : (k : Int) < (hs.length : Int) := by omega
      rcases HB.out.below hgo.bl with hb | ⟨b, o, rfl, hbs, hc⟩
      · exact absurd hlt (by rw [hb]; exact Nat.not_lt_zero _)
      obtain ⟨y, hy⟩ : ∃ y, hs.getD k 0 = y := ⟨_, rfl⟩
      have h1 : wr.cell? ⟨b, o + k, none⟩ = some (.int .u8 y) := by rw [← hy]; exact hc k hlt
      obtain ⟨y0, y1⟩ := hu k hlt
      rw [hy] at y0 y1
      have KT := Hid.mk' (tokenOfByte_any y wr y0 y1)
      have HY := Hid.mk' hy
      clear hc hy hgo
      go_wp2_with fail
      refine KT.out.mono ?_
      rintro e w1 ⟨rfl, hb1⟩
      have G1 := Hid.mk' (G.out.below hb1)
      obtain ⟨v0, d0, f0⟩ := G1.out.cells (i := k * 5) (by omega)
      obtain ⟨v1, d1, f1⟩ := G1.out.cells (i := k * 5 + 1) (by omega)
      obtain ⟨v2, d2, f2⟩ := G1.out.cells (i := k * 5 + 2) (by omega)
      obtain ⟨v3, d3, f3⟩ := G1.out.cells (i := k * 5 + 3) (by omega)
      obtain ⟨v4, d4, f4⟩ := G1.out.cells (i := k * 5 + 4) (by omega)
      clear hb1 KT
      go_wp2
      go_roundw
      case rel => exact ⟨k + 1, by omega, by go_num, G1.out.step HY.out⟩
      case measure => simp [intOf]; omega
    · have ci : ¬ (k : Int) < (hs.length : Int) := by omega
      have e : k = hs.length := by omega
      subst e
      have L1 := H.out.below hgo.bl
      obtain ⟨d0, d1, d2⟩ := cellsQ2 L1.box
      obtain ⟨f0, f1⟩ := frzQ2 L1.box
      have L2 := L1.drop
      have KT := tell_any lo g (some ⟨w.heap.size, 0, none⟩) hs.length _ _ _ _ _ _ _ _ _ _ (bytesT hs) (nils hs.length) (fun _ => []) (fun _ => (wr.setCell ⟨g, 0, none⟩ (.slice none 0 0)).heap.size) (fun _ => (wr.setCell ⟨g, 0, none⟩ (.slice none 0 0)).heap.size) L2 (Below.refl _ _) (TA.bytes _ _ hs) (hgo.src (Deep.blk_setCell_other _ _ _ _ (by show w.heap.size ≠ g; omega))) (by rw [bytesT_len]; omega)
      rw [bytesT_len] at KT
      have KT := Hid.mk' KT
      have B1 : Hid (Below lo w (wr.setCell ⟨g, 0, none⟩ (.slice none 0 0))) := Hid.mk' ((hgo.bl.mono (show lo ≤ w.heap.size by omega)).setCell (p := ⟨g, 0, none⟩) lg _)
      clear L1 L2 hgo G hmk
      generalize hV : wr.setCell ⟨g, 0, none⟩ (.slice none 0 0) = V at *
      go_wp2_with fail
      clear hV
      refine KT.out.mono ?_
      rintro e w2 ⟨⟨v, rfl⟩, hx, hb2⟩
      have HX := Hid.mk' hx
      have B2 := Hid.mk' (B1.out.trans hb2)
      clear hx hb2 KT
      go_wp2
      go_end0
      exact ⟨⟨_, rfl⟩, HX.out, B2.out⟩

end Go.Proofs.YtlimgcmhidooaaaGreatDoor

namespace Go.Proofs.YtlimgcmhidooaaaGreatDoor
open Go.RowKit

set_option maxRecDepth 100000 in
set_option maxHeartbeats 3200000 in
theorem outside_any (lo g : Nat) (b : Nat) (w : World) (ts : List TK) (h : LXs lo g w [] ts) (hb : b ≤ 255) (hn : ts.length ≤ 900000) :
    Calls Tryz.prog 82 #[.pointer (some ⟨g, 0, none⟩), .int .u8 (b : Int)] w fun e w' => LxP lo g (noneH (b : Int)) (ts ++ bytesT (noneT (b : Int))) w e w' := by
  obtain ⟨hv, tv, us, rs, bl, bh, h⟩ := h
  have lg := h.lg
  obtain ⟨c0, c1, c2⟩ := cellsQ2 h.box
  by_cases hs : (b : Int) = 60 ∨ (b : Int) = 38
  · have E1 : Hid (noneH (b : Int) = [(b : Int)]) := Hid.mk' (by unfold noneH; rw [if_pos hs])
    have E2 : Hid (noneT (b : Int) = []) := Hid.mk' (by unfold noneT; rw [if_pos hs])
    have O1 := World.ownsRow_lit (base := lo) (e := 5) (size := 1) w #[.int .u8 (b : Int)] 1 (by omega) (by unfold maxLen; omega) rfl
    have L1 := h.hold (w1 := w) (w2 := w.alloc (.cells #[.int .u8 (b : Int)] 5)) (hs' := [(b : Int)]) (Below.refl _ _) O1 ⟨rfl, rfl, rfl, by simp, fun k hk _ => (below_new w _).block k hk⟩ (.inr (fun x e => by simp [Value.ownBlock] at e; omega))
    have HL := Hid.mk' L1
    have B1 := Hid.mk' (((below_new w (.cells #[.int .u8 (b : Int)] 5)).mono (show lo ≤ w.heap.size by omega)).setCell (p := ⟨g, 0, none⟩) lg (.slice (some ⟨w.heap.size, 0, none⟩) 1 1))
    obtain ⟨d0, d1, d2⟩ := cellsQ2 (rowB h.box (below_new w (.cells #[.int .u8 (b : Int)] 5)))
    obtain ⟨f0, f1⟩ := frzQ2 (rowB h.box (below_new w (.cells #[.int .u8 (b : Int)] 5)))
    have fin : Hid (∀ v, LxP lo g (noneH (b : Int)) (ts ++ bytesT (noneT (b : Int))) w (.returned v) ((w.setCell ⟨g, 0, none⟩ (.slice (some ⟨w.heap.size, 0, none⟩) 1 1)).alloc (.cells #[.int .u8 (b : Int)] 5))) := Hid.mk' (fun v => by
      rw [E1.out, E2.out, ← World.setCell_alloc_past (.cells #[.int .u8 (b : Int)] 5) g 0 _ c2]
      exact ⟨⟨_, rfl⟩, ⟨_, _, _, _, _, _, by simpa [bytesT] using HL.out⟩, B1.out⟩)
    clear h L1 O1 HL B1 E1 E2
    rcases hs with e | e
    · have e1 : ((b : Int) == 60) = true := by rw [e]; rfl
      clear e
      go_enter Tryz.func82, Tryz.ntmps82
      go_wp2
      (try simp only [Exit.inBlock, Exit.then])
      exact bodyPost_ret (results_none rfl _ _ _) rfl (fin.out _)
    · have e0 : ((b : Int) == 60) = false := by rw [e]; rfl
      have e1 : ((b : Int) == 38) = true := by rw [e]; rfl
      clear e
      go_enter Tryz.func82, Tryz.ntmps82
      go_wp2
      (try simp only [Exit.inBlock, Exit.then])
      exact bodyPost_ret (results_none rfl _ _ _) rfl (fin.out _)
  · have E1 : Hid (noneH (b : Int) = []) := Hid.mk' (by unfold noneH; rw [if_neg hs])
    have E2 : Hid (noneT (b : Int) = [(b : Int)]) := Hid.mk' (by unfold noneT; rw [if_neg hs])
    have e0 : ((b : Int) == 60) = false := by simp; omega
    have e1 : ((b : Int) == 38) = false := by simp; omega
    have KT := Hid.mk' (tokenOfByte_any (b : Int) w (by omega) (by omega))
    have H := Hid.mk' h
    clear hs h
    go_enter Tryz.func82, Tryz.ntmps82
    go_wp2_with fail
    refine KT.out.mono ?_
    rintro e w1 ⟨rfl, hb1⟩
    have NC := new_cells' w1 107 [.int .i64 1, .int .i64 (b : Int), .string ⟨#[]⟩, .slice none 0 0, .bool false] w1.heap.size rfl
    have B1 := hb1.trans ((below_new w1 (.cells #[.int .i64 1, .int .i64 (b : Int), .string ⟨#[]⟩, .slice none 0 0, .bool false] 107)).mono hb1.size)
    have KL := tell_any lo g (some ⟨w1.heap.size, 0, none⟩) 1 w (w1.alloc (.cells #[.int .i64 1, .int .i64 (b : Int), .string ⟨#[]⟩, .slice none 0 0, .bool false] 107)) _ _ _ _ _ _ _ _ (bytesT [(b : Int)]) (nils 1) (fun _ => []) (fun _ => w.heap.size) (fun _ => w.heap.size) H.out B1 ((TA.bytes w.heap.size _ [(b : Int)]).widen (Nat.le_refl _) B1.size) (.inr ⟨_, rfl, NC⟩) (by rw [bytesT_len]; simp; omega)
    rw [bytesT_len] at KL
    have KL := Hid.mk' KL
    have HB := Hid.mk' (B1.mono (show lo ≤ w.heap.size by omega))
    clear NC B1 hb1 KT H
    generalize hV : w1.alloc (.cells #[.int .i64 1, .int .i64 (b : Int), .string ⟨#[]⟩, .slice none 0 0, .bool false] 107) = V at *
    go_wp2_with fail
    clear hV
    refine KL.out.mono ?_
    rintro e w2 ⟨⟨v, rfl⟩, hx, hb2⟩
    have HX := Hid.mk' hx
    have B2 := Hid.mk' (HB.out.trans hb2)
    clear hx hb2 KL
    go_wp2
    go_end0
    refine ⟨⟨_, rfl⟩, ?_, B2.out⟩
    rw [E1.out, E2.out]
    exact HX.out

def holdH (n : Nat) (hs : List Int) (b : Nat) : List Int := if n ≤ hs.length + 1 then [] else hs ++ [(b : Int)]
def holdT (n : Nat) (hs : List Int) (b : Nat) : List Int := if n ≤ hs.length + 1 then hs ++ [(b : Int)] else []

theorem bcs_snoc' (l : List Int) (b : Int) : bcs (l ++ [b]) = bcs l ++ [.int .u8 b] := by simp [bcs]

theorem holdX {lo g : Nat} {w w1 w2 : World} {hv tv hv' : Value} {hs : List Int} {b : Int} {ts : List TK} {us : List Value} {rs : Nat → List Value} {bl bh : Nat → Nat} (h : LX lo g w hv tv hs ts us rs bl bh) (h1 : Below w.heap.size w w1) (ho : w2.ownsRow lo 5 1 hv' (hs.length + 1) (bcs hs ++ [.int .u8 b])) (hg : w1.grownBy w2 hv.ownBlock) (e : hv'.ownBlock = hv.ownBlock ∨ hv'.ownBlock = some w1.heap.size) :
    LX lo g (w2.setCell ⟨g, 0, none⟩ hv') hv' tv (hs ++ [b]) ts us rs bl bh := by
  refine h.hold h1 (by rw [bcs_snoc', List.length_append]; exact ho) hg ?_
  rcases e with e | e
  · exact .inl e
  · exact .inr (fun x ex => by rw [e] at ex; cases ex; exact h1.size)

theorem heldBl {lo g : Nat} {w w1 w2 : World} {hv tv : Value} {hs : List Int} {ts : List TK} {us : List Value} {rs : Nat → List Value} {bl bh : Nat → Nat} (h : LX lo g w1 hv tv hs ts us rs bl bh) (h1 : Below w.heap.size w w1) (hg : w1.grownBy w2 hv.ownBlock) (v : Value) (hl : lo ≤ w.heap.size) : Below lo w (w2.setCell ⟨g, 0, none⟩ v) :=
  ((h1.mono hl).grown hg (Nat.le_trans h.lg (Nat.le_of_lt h.lt)) (fun x e => (h.held.lt x e).1)).setCell (p := ⟨g, 0, none⟩) h.lg v

set_option maxRecDepth 100000 in
set_option maxHeartbeats 3200000 in
theorem hold_any (lo g : Nat) (b n : Nat) (w : World) (hs : List Int) (ts : List TK) (h : LXs lo g w hs ts) (hu : Byt hs) (hb : b ≤ 255) (hl : hs.length ≤ 200) (hn : ts.length ≤ 900000) (hn2 : n ≤ 1000) :
    Calls Tryz.prog 105 #[.pointer (some ⟨g, 0, none⟩), .int .u8 (b : Int), .int .i64 (n : Int)] w fun e w' => LxP lo g (holdH n hs b) (ts ++ bytesT (holdT n hs b)) w e w' := by
  obtain ⟨hv, tv, us, rs, bl, bh, h⟩ := h
  have lg := h.lg
  have N0 := below_new w (.cells #[.int .u8 (b : Int)] 5)
  have HX := Hid.mk' (h.below N0)
  have NC := Hid.mk' (new_cells' w 5 [.int .u8 (b : Int)] w.heap.size rfl)
  have H := Hid.mk' h
  obtain ⟨c0, c1, c2⟩ := cellsQ2 h.box
  obtain ⟨x0, x1, x2⟩ := cellsQ2 HX.out.box
  have HN := Hid.mk' N0
  have SZ : Hid (lo ≤ (w.alloc (.cells #[.int .u8 (b : Int)] 5)).heap.size) := Hid.mk' (by simp; omega)
  have P1 : Hid (∀ u ∈ ([.int .u8 (b : Int)] : List Value), u.oneCell' = true) := Hid.mk' (by intro u hu'; rw [List.mem_singleton] at hu'; rw [hu']; rfl)
  obtain ⟨ha, hc, rfl, _⟩ := own_src h.held
  clear h N0
  by_cases h6 : n ≤ hs.length + 1
  · have ci : (n : Int) ≤ (hs.length : Int) + 1 := by omega
    have E1 : Hid (holdH n hs b = []) := Hid.mk' (by unfold holdH; rw [if_pos h6])
    have E2 : Hid (holdT n hs b = hs ++ [(b : Int)]) := Hid.mk' (by unfold holdT; rw [if_pos h6])
    go_enter Tryz.func105, Tryz.ntmps105
    go_wp2_with (first | (at_builtin; refine wpList_append_at _ rfl (.tmp 10) (.tmp 12) 22 rfl lo 5 (.int .u8 0) 1 1 Tryz.underlying22 Tryz.info5 rfl (by decide) _ _ _ rfl HX.out.held _ 1 _ [.int .u8 (b : Int)] rfl rfl (.inr ⟨_, rfl, NC.out⟩) P1.out (by unfold maxLen; omega) (by omega) SZ.out ?_; intro v' w2 ho hgr hat; obtain ⟨a', c', rfl, _⟩ := own_src ho; obtain ⟨d1, f1⟩ := HX.out.spotH hgr) | fail)
    have L2 := holdX H.out HN.out ho hgr hat
    have B2 := Hid.mk' (heldBl HX.out HN.out hgr (.slice a' (hs.length + 1) c') (by omega))
    have KG := Hid.mk' (letGo_any lo g _ (hs ++ [(b : Int)]) ts ⟨_, _, _, _, _, _, L2⟩ (hu.snoc b hb) (by simp; omega))
    clear L2 ho hgr hat d1 f1
    refine KG.out.mono ?_
    rintro e w3 ⟨⟨v, rfl⟩, hx, hb3⟩
    have HX3 := Hid.mk' hx
    have B3 := Hid.mk' (B2.out.trans hb3)
    clear hx hb3 KG
    go_wp2
    go_end0
    refine ⟨⟨_, rfl⟩, ?_, B3.out⟩
    rw [E1.out, E2.out]
    exact HX3.out
  · have ci : ¬ (n : Int) ≤ (hs.length : Int) + 1 := by omega
    have E1 : Hid (holdH n hs b = hs ++ [(b : Int)]) := Hid.mk' (by unfold holdH; rw [if_neg h6])
    have E2 : Hid (holdT n hs b = []) := Hid.mk' (by unfold holdT; rw [if_neg h6])
    go_enter Tryz.func105, Tryz.ntmps105
    go_wp2_with (first | (at_builtin; refine wpList_append_at _ rfl (.tmp 10) (.tmp 12) 22 rfl lo 5 (.int .u8 0) 1 1 Tryz.underlying22 Tryz.info5 rfl (by decide) _ _ _ rfl HX.out.held _ 1 _ [.int .u8 (b : Int)] rfl rfl (.inr ⟨_, rfl, NC.out⟩) P1.out (by unfold maxLen; omega) (by omega) SZ.out ?_; intro v' w2 ho hgr hat; obtain ⟨a', c', rfl, _⟩ := own_src ho; obtain ⟨d1, f1⟩ := HX.out.spotH hgr) | fail)
    have L2 := Hid.mk' (holdX H.out HN.out ho hgr hat)
    have B2 := Hid.mk' (heldBl HX.out HN.out hgr (.slice a' (hs.length + 1) c') (by omega))
    clear ho hgr hat d1 f1
    go_end0
    refine ⟨⟨_, rfl⟩, ?_, B2.out⟩
    rw [E1.out, E2.out]
    exact ⟨_, _, _, _, _, _, by simpa [bytesT] using L2.out⟩

end Go.Proofs.YtlimgcmhidooaaaGreatDoor
