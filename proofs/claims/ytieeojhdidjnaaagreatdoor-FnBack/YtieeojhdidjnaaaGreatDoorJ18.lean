/- The program's lexer: outside, and a byte held. -/
import Derived.Test.YtieeojhdidjnaaaGreatDoorJ17
set_option maxHeartbeats 3200000
set_option maxRecDepth 100000
set_option linter.unusedVariables false
set_option linter.unusedSimpArgs false
namespace Go.Proofs.YtieeojhdidjnaaaGreatDoor
open Go.RowKit
theorem outside_any (lo g : Nat) (b : Nat) (w : World) (ts : List TK) (h : LXs lo g w [] ts) (hb : b ≤ 255) (hn : ts.length ≤ 900000) :
  Calls Tryz.prog 82 #[.pointer (some ⟨g, 0, none⟩), .int .u8 (b : Int)] w fun e w' => LxP lo g (noneH (b : Int)) (ts ++ bytesT (noneT (b : Int))) w e w' := by
 obtain ⟨hv, tv, us, rs, bl, bh, h⟩ := h
 have lg := h.lg
 obtain ⟨c0, c1, c2⟩ := cellsQ2 h.box
 by_cases hs : (b : Int) = 60 ∨ (b : Int) = 38
 ·have E1 : Hid (noneH (b : Int) = [(b : Int)]) := Hid.mk' (by unfold noneH; rw [if_pos hs])
  have E2 : Hid (noneT (b : Int) = []) := Hid.mk' (by unfold noneT; rw [if_pos hs])
  have O1 := World.ownsRow_lit (base := lo) (e := 5) (size := 1) w #[.int .u8 (b : Int)] 1 (by omega) (by unfold maxLen; omega) rfl
  have L1 := h.hold (w1 := w) (w2 := w.alloc (.cells #[.int .u8 (b : Int)] 5)) (hs' := [(b : Int)]) (Below.refl _ _) O1 ⟨rfl, rfl, rfl, by simp, fun k hk _ => (below_new w _).block k hk⟩ (.inr (fun x e => by simp [Value.ownBlock] at e; omega))
  have HL := Hid.mk' L1
  have B1 := Hid.mk' (((below_new w (.cells #[.int .u8 (b : Int)] 5)).mono (show lo ≤ w.heap.size by omega)).setCell (p := ⟨g, 0, none⟩) lg (.slice (some ⟨w.heap.size, 0, none⟩) 1 1))
  obtain ⟨d0, d1, d2⟩ := cellsQ2 (rowB h.box (below_new w (.cells #[.int .u8 (b : Int)] 5)))
  obtain ⟨f0, f1⟩ := frzQ2 (rowB h.box (below_new w (.cells #[.int .u8 (b : Int)] 5)))
  have fin : Hid (∀ v, LxP lo g (noneH (b : Int)) (ts ++ bytesT (noneT (b : Int))) w (.returned v) ((w.setCell ⟨g, 0, none⟩ (.slice (some ⟨w.heap.size, 0, none⟩) 1 1)).alloc (.cells #[.int .u8 (b : Int)] 5))) := Hid.mk' (fun v => by
   rw [E1.out, E2.out, ← World.setCell_alloc_past (.cells #[.int .u8 (b : Int)] 5) g 0 _ c2]
   exact ⟨⟨_, rfl⟩, ⟨_, _, _, _, _, _, by simpa [bytesT] using HL.out⟩, B1.out⟩)
  clear h L1 O1 HL B1 E1 E2
  rcases hs with e | e
  ·have e1 : ((b : Int) == 60) = true := by rw [e]; rfl
   clear e
   go_enter Tryz.func82, Tryz.ntmps82
   go_wp2
   (try simp only [Exit.inBlock, Exit.then])
   exact bodyPost_ret (results_none rfl _ _ _) rfl (fin.out _)
  ·have e0 : ((b : Int) == 60) = false := by rw [e]; rfl
   have e1 : ((b : Int) == 38) = true := by rw [e]; rfl
   clear e
   go_enter Tryz.func82, Tryz.ntmps82
   go_wp2
   (try simp only [Exit.inBlock, Exit.then])
   exact bodyPost_ret (results_none rfl _ _ _) rfl (fin.out _)
 ·have E1 : Hid (noneH (b : Int) = []) := Hid.mk' (by unfold noneH; rw [if_neg hs])
  have E2 : Hid (noneT (b : Int) = [(b : Int)]) := Hid.mk' (by unfold noneT; rw [if_neg hs])
  have e0 : ((b : Int) == 60) = false := by simp; omega
  have e1 : ((b : Int) == 38) = false := by simp; omega
  have KT := Hid.mk' (tokenOfByte_any (b : Int) w (by omega) (by omega))
  have H := Hid.mk' h
  clear hs h
  go_enter Tryz.func82, Tryz.ntmps82
  go_wp2_with fail
  refine KT.out.mono ?_
  rintro e w1 ⟨rfl, hb1⟩
  have NC := new_cells' w1 107 [.int .i64 1, .int .i64 (b : Int), .string ⟨#[]⟩, .slice none 0 0, .bool false] w1.heap.size rfl
  have B1 := hb1.trans ((below_new w1 (.cells #[.int .i64 1, .int .i64 (b : Int), .string ⟨#[]⟩, .slice none 0 0, .bool false] 107)).mono hb1.size)
  have KL := tell_any lo g (some ⟨w1.heap.size, 0, none⟩) 1 w (w1.alloc (.cells #[.int .i64 1, .int .i64 (b : Int), .string ⟨#[]⟩, .slice none 0 0, .bool false] 107)) _ _ _ _ _ _ _ _ (bytesT [(b : Int)]) (nils 1) (fun _ => []) (fun _ => w.heap.size) (fun _ => w.heap.size) H.out B1 ((TA.bytes w.heap.size _ [(b : Int)]).widen (Nat.le_refl _) B1.size) (.inr ⟨_, rfl, NC⟩) (by rw [bytesT_len]; simp; omega)
  rw [bytesT_len] at KL
  have KL := Hid.mk' KL
  have HB := Hid.mk' (B1.mono (show lo ≤ w.heap.size by omega))
  clear NC B1 hb1 KT H
  generalize hV : w1.alloc (.cells #[.int .i64 1, .int .i64 (b : Int), .string ⟨#[]⟩, .slice none 0 0, .bool false] 107) = V at *
  go_wp2_with fail
  clear hV
  refine KL.out.mono ?_
  rintro e w2 ⟨⟨v, rfl⟩, hx, hb2⟩
  have HX := Hid.mk' hx
  have B2 := Hid.mk' (HB.out.trans hb2)
  clear hx hb2 KL
  go_wp2
  go_end0
  refine ⟨⟨_, rfl⟩, ?_, B2.out⟩
  rw [E1.out, E2.out]
  exact HX.out
def holdH (n : Nat) (hs : List Int) (b : Nat) : List Int := if n ≤ hs.length + 1 then [] else hs ++ [(b : Int)]
def holdT (n : Nat) (hs : List Int) (b : Nat) : List Int := if n ≤ hs.length + 1 then hs ++ [(b : Int)] else []
theorem bcs_snoc' (l : List Int) (b : Int) : bcs (l ++ [b]) = bcs l ++ [.int .u8 b] := by simp [bcs]
theorem holdX {lo g : Nat} {w w1 w2 : World} {hv tv hv' : Value} {hs : List Int} {b : Int} {ts : List TK} {us : List Value} {rs : Nat → List Value} {bl bh : Nat → Nat} (h : LX lo g w hv tv hs ts us rs bl bh) (h1 : Below w.heap.size w w1) (ho : w2.ownsRow lo 5 1 hv' (hs.length + 1) (bcs hs ++ [.int .u8 b])) (hg : w1.grownBy w2 hv.ownBlock) (e : hv'.ownBlock = hv.ownBlock ∨ hv'.ownBlock = some w1.heap.size) :
  LX lo g (w2.setCell ⟨g, 0, none⟩ hv') hv' tv (hs ++ [b]) ts us rs bl bh := by
 refine h.hold h1 (by rw [bcs_snoc', List.length_append]; exact ho) hg ?_
 rcases e with e | e
 ·exact .inl e
 ·exact .inr (fun x ex => by rw [e] at ex; cases ex; exact h1.size)
theorem heldBl {lo g : Nat} {w w1 w2 : World} {hv tv : Value} {hs : List Int} {ts : List TK} {us : List Value} {rs : Nat → List Value} {bl bh : Nat → Nat} (h : LX lo g w1 hv tv hs ts us rs bl bh) (h1 : Below w.heap.size w w1) (hg : w1.grownBy w2 hv.ownBlock) (v : Value) (hl : lo ≤ w.heap.size) : Below lo w (w2.setCell ⟨g, 0, none⟩ v) :=
 ((h1.mono hl).grown hg (Nat.le_trans h.lg (Nat.le_of_lt h.lt)) (fun x e => (h.held.lt x e).1)).setCell (p := ⟨g, 0, none⟩) h.lg v
theorem hold_any (lo g : Nat) (b n : Nat) (w : World) (hs : List Int) (ts : List TK) (h : LXs lo g w hs ts) (hu : Byt hs) (hb : b ≤ 255) (hl : hs.length ≤ 200) (hn : ts.length ≤ 900000) (hn2 : n ≤ 1000) :
  Calls Tryz.prog 105 #[.pointer (some ⟨g, 0, none⟩), .int .u8 (b : Int), .int .i64 (n : Int)] w fun e w' => LxP lo g (holdH n hs b) (ts ++ bytesT (holdT n hs b)) w e w' := by
 obtain ⟨hv, tv, us, rs, bl, bh, h⟩ := h
 have lg := h.lg
 have N0 := below_new w (.cells #[.int .u8 (b : Int)] 5)
 have HX := Hid.mk' (h.below N0)
 have NC := Hid.mk' (new_cells' w 5 [.int .u8 (b : Int)] w.heap.size rfl)
 have H := Hid.mk' h
 obtain ⟨c0, c1, c2⟩ := cellsQ2 h.box
 obtain ⟨x0, x1, x2⟩ := cellsQ2 HX.out.box
 have HN := Hid.mk' N0
 have SZ : Hid (lo ≤ (w.alloc (.cells #[.int .u8 (b : Int)] 5)).heap.size) := Hid.mk' (by simp; omega)
 have P1 : Hid (∀ u ∈ ([.int .u8 (b : Int)] : List Value), u.oneCell' = true) := Hid.mk' (by intro u hu'; rw [List.mem_singleton] at hu'; rw [hu']; rfl)
 obtain ⟨ha, hc, rfl, _⟩ := own_src h.held
 clear h N0
 by_cases h6 : n ≤ hs.length + 1
 ·have ci : (n : Int) ≤ (hs.length : Int) + 1 := by omega
  have E1 : Hid (holdH n hs b = []) := Hid.mk' (by unfold holdH; rw [if_pos h6])
  have E2 : Hid (holdT n hs b = hs ++ [(b : Int)]) := Hid.mk' (by unfold holdT; rw [if_pos h6])
  go_enter Tryz.func105, Tryz.ntmps105
  go_wp2_with (first | (at_builtin; refine wpList_append_at _ rfl (.tmp 10) (.tmp 12) 22 rfl lo 5 (.int .u8 0) 1 1 Tryz.underlying22 Tryz.info5 rfl (by decide) _ _ _ rfl HX.out.held _ 1 _ [.int .u8 (b : Int)] rfl rfl (.inr ⟨_, rfl, NC.out⟩) P1.out (by unfold maxLen; omega) (by omega) SZ.out ?_; intro v' w2 ho hgr hat; obtain ⟨a', c', rfl, _⟩ := own_src ho; obtain ⟨d1, f1⟩ := HX.out.spotH hgr) | fail)
  have L2 := holdX H.out HN.out ho hgr hat
  have B2 := Hid.mk' (heldBl HX.out HN.out hgr (.slice a' (hs.length + 1) c') (by omega))
  have KG := Hid.mk' (letGo_any lo g _ (hs ++ [(b : Int)]) ts ⟨_, _, _, _, _, _, L2⟩ (hu.snoc b hb) (by simp; omega))
  clear L2 ho hgr hat d1 f1
  refine KG.out.mono ?_
  rintro e w3 ⟨⟨v, rfl⟩, hx, hb3⟩
  have HX3 := Hid.mk' hx
  have B3 := Hid.mk' (B2.out.trans hb3)
  clear hx hb3 KG
  go_wp2
  go_end0
  refine ⟨⟨_, rfl⟩, ?_, B3.out⟩
  rw [E1.out, E2.out]
  exact HX3.out
 ·have ci : ¬ (n : Int) ≤ (hs.length : Int) + 1 := by omega
  have E1 : Hid (holdH n hs b = hs ++ [(b : Int)]) := Hid.mk' (by unfold holdH; rw [if_neg h6])
  have E2 : Hid (holdT n hs b = []) := Hid.mk' (by unfold holdT; rw [if_neg h6])
  go_enter Tryz.func105, Tryz.ntmps105
  go_wp2_with (first | (at_builtin; refine wpList_append_at _ rfl (.tmp 10) (.tmp 12) 22 rfl lo 5 (.int .u8 0) 1 1 Tryz.underlying22 Tryz.info5 rfl (by decide) _ _ _ rfl HX.out.held _ 1 _ [.int .u8 (b : Int)] rfl rfl (.inr ⟨_, rfl, NC.out⟩) P1.out (by unfold maxLen; omega) (by omega) SZ.out ?_; intro v' w2 ho hgr hat; obtain ⟨a', c', rfl, _⟩ := own_src ho; obtain ⟨d1, f1⟩ := HX.out.spotH hgr) | fail)
  have L2 := Hid.mk' (holdX H.out HN.out ho hgr hat)
  have B2 := Hid.mk' (heldBl HX.out HN.out hgr (.slice a' (hs.length + 1) c') (by omega))
  clear ho hgr hat d1 f1
  go_end0
  refine ⟨⟨_, rfl⟩, ?_, B2.out⟩
  rw [E1.out, E2.out]
  exact ⟨_, _, _, _, _, _, by simpa [bytesT] using L2.out⟩

end Go.Proofs.YtieeojhdidjnaaaGreatDoor
