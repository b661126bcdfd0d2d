/- Bytes that are drawn one by one. -/
import Derived.Test.YtieeojhdidjnaaaGreatDoorJ38
import Derived.Deep.RegionHeld3
import Derived.Test.YtieeojhdidjnaaaGreatDoorJ39
import Derived.Test.YtieeojhdidjnaaaGreatDoorJ31
import Derived.Test.YtieeojhdidjnaaaGreatDoorJ33
import Derived.Test.YtieeojhdidjnaaaGreatDoorJ37
set_option maxHeartbeats 4000000
set_option maxRecDepth 100000
set_option linter.unusedVariables false
set_option linter.unusedSimpArgs false
namespace Go.Proofs.YtieeojhdidjnaaaGreatDoor
open Go.RowKit
theorem one_byteS (W : World) (x : Int) : ∀ j u, (bcs [x])[j]? = some u → (W.alloc (.cells #[.int .u8 x] 5)).cell? ((⟨W.heap.size, 0, none⟩ : Addr).add j) = some u := by
 intro j u hj
 have : j = 0 := by
  have := (List.getElem?_eq_some_iff.1 hj).1
  simp [bcs] at this
  omega
 subst this
 simp [bcs] at hj
 subst hj
 have r := World.rowIs_alloc W #[.int .u8 x] 5 (fun _ => .int .u8 x) (fun i hi => by
  have : i = 0 := by simp at hi; omega
  subst this; rfl)
 rw [Addr.add_mid]
 exact r.cell (by simp)
structure DG (m : ME) : Prop where
 ub : Byt m.dt
 hb : Byt m.hd
 tb : TBt m.tk
 cb : ∀ k, k < m.cs.length → Byt (ckK m.cs k).hd
 sz : (msz m : Int) ≤ 200000
 dl : m.dt.length ≤ 181
 s0 : 0 ≤ m.st
 s1 : m.st ≤ 61
theorem dg_new {d : List Int} {s : Nat} (hd : d.length ≤ 180) (hb : Byt d) (hs : 1 ≤ s) (st : Int) (h0 : 0 ≤ st) (h1 : st ≤ 61) : DG ⟨d, st, (allX [] [] d).1, (allX [] [] d).2, cksN d s (d.length / s + 1)⟩ ∧ msz ⟨d, st, (allX [] [] d).1, (allX [] [] d).2, cksN d s (d.length / s + 1)⟩ ≤ 100000 := by
 have hz : msz ⟨d, st, (allX [] [] d).1, (allX [] [] d).2, cksN d s (d.length / s + 1)⟩ ≤ 100000 := mem_small d s (by omega)
 refine ⟨⟨hb, allX_byt _ _ _ (fun x hx => hb.mem x hx) Byt.nil, TkB.tbt (allX_tkb _ _ _ TkB.nil), fun k hk => ?_, ?_, Nat.le_succ_of_le hd, h0, h1⟩, hz⟩
 ·dsimp only at hk ⊢
  rw [cksN_len] at hk
  rw [cksN_at d s _ _ hk]
  exact allX_byt _ _ _ (fun x hx => hb.mem x (List.mem_of_mem_take hx)) Byt.nil
 ·omega
theorem dg_held {d : List Int} {s : Nat} (hd : d.length ≤ 180) (hb : Byt d) (hs : 1 ≤ s) (st : Int) (h0 : 0 ≤ st) (h1 : st ≤ 61) : DG ⟨d, st, (allX [] [] d).1, (allX [] [] d).2 ++ [120], cksN d s (d.length / s + 1)⟩ := by
 obtain ⟨h, hz⟩ := dg_new (s := s) hd hb hs st h0 h1
 refine ⟨h.ub, h.hb.snoc 120 (by decide), h.tb, h.cb, ?_, h.dl, h.s0, h.s1⟩
 unfold msz at hz ⊢
 simp only [List.length_append, List.length_singleton]
 dsimp only at hz
 omega
theorem dg_data {d : List Int} {s : Nat} (hd : d.length ≤ 180) (hb : Byt d) (hs : 1 ≤ s) (st : Int) (h0 : 0 ≤ st) (h1 : st ≤ 61) : DG ⟨d ++ [120], st, (allX [] [] d).1, (allX [] [] d).2, cksN d s (d.length / s + 1)⟩ := by
 obtain ⟨h, hz⟩ := dg_new (s := s) hd hb hs st h0 h1
 refine ⟨h.ub.snoc 120 (by decide), h.hb, h.tb, h.cb, ?_, by simp; omega, h.s0, h.s1⟩
 unfold msz at hz ⊢
 simp only [List.length_append, List.length_singleton]
 dsimp only at hz
 omega
theorem dg_tail {m : ME} (h : DG m) : DG ⟨m.dt, m.st, m.tk, m.hd, m.cs.tail⟩ := by
 refine ⟨h.ub, h.hb, h.tb, fun k hk => ?_, ?_, h.dl, h.s0, h.s1⟩
 ·rw [List.length_tail] at hk
  rw [ckK_tail]
  exact h.cb (k + 1) (by omega)
 ·have hz := h.sz
  unfold msz at hz ⊢
  have h1 : m.cs.tail.length ≤ m.cs.length := by simp
  have h2 : csz m.cs.tail ≤ csz m.cs := by
   cases m.cs with
   | nil => exact Nat.le_refl _
   | cons x r => simp [csz]
  dsimp only
  omega
def DrM (b k n : Nat) (l : List Int) (w : World) (e : Ending) (w' : World) : Prop :=
 ∃ (m : ME) (a t u c : Option Addr) (ca ct cu cc k' : Nat), e = .returned (.agg #[.slice a m.dt.length ca, .int .i64 m.st, .slice t m.tk.length ct, .slice u m.hd.length cu, .slice c m.cs.length cc]) ∧ DM w.heap.size m a t u c ca ct cu cc w' ∧ DG m ∧ k' ≤ k + n ∧ Src b l k' w' ∧ KeptIn b (b + 1) w w'
theorem l12Bent_any (b k : Nat) (l : List Int) (w : World) (h : Src b l k w) (hk : k ≤ 9000) (hl : (l.length : Int) ≤ 1048576) :
  Calls Tryz.prog 41 #[.pointer (some ⟨b, 0, none⟩)] w fun e w' => DrM b k 13 l w e w' := by
 have hbw := h.lt
 have N0 := below_new w (.cells #[.slice none 0 0, .int .i64 0, .slice none 0 0, .slice none 0 0, .slice none 0 0] 27)
 have HS := Hid.mk' (h.below N0)
 have K0 : Hid (KeptIn b (b + 1) w (w.alloc (.cells #[.slice none 0 0, .int .i64 0, .slice none 0 0, .slice none 0 0, .slice none 0 0] 27))) := Hid.mk' (KeptIn.of_below N0)
 have R0 := Hid.mk' (RowA.new w 27 #[.slice none 0 0, .int .i64 0, .slice none 0 0, .slice none 0 0, .slice none 0 0])
 have z0 : Hid ((w.alloc (.cells #[.slice none 0 0, .int .i64 0, .slice none 0 0, .slice none 0 0, .slice none 0 0] 27)).heap.size = w.heap.size + 1) := Hid.mk' (by simp)
 clear h N0
 generalize hW : w.alloc (.cells #[.slice none 0 0, .int .i64 0, .slice none 0 0, .slice none 0 0, .slice none 0 0] 27) = W at *
 go_enter Tryz.func41, Tryz.ntmps41
 go_wp2_with fail
 clear hW
 refine (l12Draw_any b k l W HS.out (by omega) hl).mono ?_
 rintro e w2 ⟨d, s, k1, vd, vh, t, c, ct, cc, rfl, hd, by_, hs1, hs2, hk1, hN, hS2, hK2⟩
 obtain ⟨p1, q1, rfl⟩ := own_form hN.dt
 obtain ⟨p2_, q2_, rfl⟩ := own_form hN.hd
 have BY := Hid.mk' by_
 have N2 := below_new w2 (.cells #[.slice p1 d.length q1, .int .i64 (s : Int), .slice t (allX [] [] d).1.length ct, .slice p2_ (allX [] [] d).2.length q2_, .slice c (d.length / s + 1) cc] 27)
 have sW : w.heap.size < W.heap.size := R0.out.lt
 have bw : b < W.heap.size := by omega
 have sW2 := hK2.size
 have R2 : Hid (RowA (w2.alloc (.cells #[.slice p1 d.length q1, .int .i64 (s : Int), .slice t (allX [] [] d).1.length ct, .slice p2_ (allX [] [] d).2.length q2_, .slice c (d.length / s + 1) cc] 27)) w.heap.size 27 #[.slice none 0 0, .int .i64 0, .slice none 0 0, .slice none 0 0, .slice none 0 0]) := Hid.mk' (RowA.below ((hK2.block _ sW (.inr (by omega))).trans R0.out) N2)
 have M2 := Hid.mk' (RowA.new w2 27 #[.slice p1 d.length q1, .int .i64 (s : Int), .slice t (allX [] [] d).1.length ct, .slice p2_ (allX [] [] d).2.length q2_, .slice c (d.length / s + 1) cc])
 have NS := Hid.mk' (hN.below N2)
 have S2 := Hid.mk' (hS2.below N2)
 have K2 := Hid.mk' ((K0.out.trans hK2).trans (KeptIn.of_below N2))
 clear hN hS2 hK2 N2 HS K0 R0 by_
 go_wp2_with (first | ((with_reducible refine wpList_store_row ?_ 27 (.tmp 3) (.tmp 5) ?_ w2.heap.size #[.slice p1 d.length q1, .int .i64 (s : Int), .slice t (allX [] [] d).1.length ct, .slice p2_ (allX [] [] d).2.length q2_, .slice c (d.length / s + 1) cc] ?_ ?_ 27 _ (Deep.blk_alloc_new w2 _) ?_ ?_ ?_ ?_); rfl; rfl; rfl; rfl; kernel_rfl; rfl; kernel_rfl; rw [alloc_setRow]) | fail)
 generalize hV : w2.alloc (.cells #[.slice p1 d.length q1, .int .i64 (s : Int), .slice t (allX [] [] d).1.length ct, .slice p2_ (allX [] [] d).2.length q2_, .slice c (d.length / s + 1) cc] 27) = V at *
 clear hV
 have bV : b < w2.heap.size := by omega
 refine (l1Next_any b k1 l 12 V S2.out (by omega) (by decide) (by decide) hl).mono ?_
 rintro e w3 ⟨x, rfl, x0, x1, hS3, hK3⟩
 have gV : w2.heap.size < V.heap.size := M2.out.lt
 have sV3 := hK3.size
 have M : Hid (RowA w3 w2.heap.size 27 #[.slice p1 d.length q1, .int .i64 (s : Int), .slice t (allX [] [] d).1.length ct, .slice p2_ (allX [] [] d).2.length q2_, .slice c (d.length / s + 1) cc]) := Hid.mk' ((hK3.block _ gV (.inr (by omega))).trans M2.out)
 have R : Hid (RowA w3 w.heap.size 27 #[.slice none 0 0, .int .i64 0, .slice none 0 0, .slice none 0 0, .slice none 0 0]) := Hid.mk' ((hK3.block _ (by omega) (.inr (by omega))).trans R2.out)
 have NS := Hid.mk' (NS.out.kept hK3 (by omega))
 have S3 := Hid.mk' hS3
 have K3 := Hid.mk' (K2.out.trans hK3)
 have g3 : Hid (w2.heap.size < w3.heap.size) := Hid.mk' M.out.lt
 have hW3 : W.heap.size ≤ w3.heap.size := by have := g3.out; omega
 have gH := (allX_good d [] [] (.inl rfl)).len
 clear hS3 hK3 S2 K2 M2 R2 sV3 gV
 obtain ⟨b9, rfl⟩ := NS.out.cf
 have y0 := M.out.cell 0 _ rfl
 have y1 := M.out.cell 1 _ rfl
 have y2 := M.out.cell 2 _ rfl
 have y3 := M.out.cell 3 _ rfl
 have y4 := M.out.cell 4 _ rfl
 have f0 := M.out.frozen 0
 have f1 := M.out.frozen 1
 have f3 := M.out.frozen 3
 have f4 := M.out.frozen 4
 by_cases c0 : x = 0
 ·subst c0
  go_wp2_with (first | (at_builtin; refine wpList_append_at _ rfl (.tmp 11) (.tmp 12) 22 rfl W.heap.size 5 (.int .u8 0) 1 1 Tryz.underlying22 Tryz.info5 rfl (by decide) _ (allX [] [] d).2.length (bcs (allX [] [] d).2) rfl (own_keep NS.out.hd (below_new w3 _)) _ 1 _ (bcs [120]) rfl rfl (.inr ⟨_, rfl, one_byteS w3 120⟩) (bcs_one _) (by unfold maxLen; omega) (by omega) (by simp; omega) ?_; intro v' w5 ho hgr hat; (rw [← bcs_append, show (allX [] [] d).2.length + 1 = ((allX [] [] d).2 ++ [(120 : Int)]).length by simp] at ho); obtain ⟨u, cu, rfl, hDB⟩ := (NS.out.below (below_new w3 (.cells #[.int .u8 120] 5))).held (g := w2.heap.size) (Nat.le_refl _) (Nat.lt_of_lt_of_le g3.out (below_new w3 (.cells #[.int .u8 120] 5)).size) hgr hat ho (s : Int); have M5 : RowA w5 w2.heap.size 27 #[.slice p1 d.length q1, .int .i64 (s : Int), .slice t (allX [] [] d).1.length ct, .slice p2_ (allX [] [] d).2.length q2_, .slice (some ⟨b9, 0, none⟩) (d.length / s + 1) cc] := (hgr.block _ (Nat.lt_of_lt_of_le g3.out (below_new w3 (.cells #[.int .u8 120] 5)).size) (fun e => absurd (NS.out.hl _ e.symm) (Nat.lt_irrefl _))).trans ((below_new w3 (.cells #[.int .u8 120] 5)).block _ g3.out |>.trans M.out); have z5 : Hid (∀ q, q < w3.heap.size → (Value.slice p2_ (allX [] [] d).2.length q2_).ownBlock ≠ some q → w5.heap[q]? = w3.heap[q]?) := Hid.mk' (fun q h1 h2 => (hgr.block q (Nat.lt_of_lt_of_le h1 (below_new w3 (.cells #[.int .u8 120] 5)).size) (fun e => h2 e.symm)).trans ((below_new w3 (.cells #[.int .u8 120] 5)).block q h1)); have KG : Hid (KeptIn W.heap.size w3.heap.size w3 w5) := Hid.mk' (by have n1 := below_new w3 (.cells #[.int .u8 120] 5); exact ⟨hgr.os.trans n1.os, hgr.tape.trans n1.tape, hgr.output.trans n1.output, Nat.le_trans n1.size hgr.size, fun q h1 h2 => z5.out q h1 (fun e => by have := (NS.out.hd.lt q e); omega)⟩); have K6 : KeptIn w2.heap.size (w2.heap.size + 1) w5 (w5.setCell ⟨w2.heap.size, 3, none⟩ (.slice u ((allX [] [] d).2.length + 1) cu)) := (KeptIn.refl _ _ _).setCell (p := ⟨w2.heap.size, 3, none⟩) (Nat.le_refl _) (Nat.lt_succ_self _) _; have MY : Hid (RowA (w5.setCell ⟨w2.heap.size, 3, none⟩ (.slice u ((allX [] [] d).2.length + 1) cu)) w2.heap.size 27 #[.slice p1 d.length q1, .int .i64 (s : Int), .slice t (allX [] [] d).1.length ct, .slice u ((allX [] [] d).2.length + 1) cu, .slice (some ⟨b9, 0, none⟩) (d.length / s + 1) cc]) := Hid.mk' (M5.set 3 _); have gl : w.heap.size < W.heap.size := sW; have gl3 : w2.heap.size < w3.heap.size := g3.out; have RY : Hid (RowA (w5.setCell ⟨w2.heap.size, 3, none⟩ (.slice u ((allX [] [] d).2.length + 1) cu)) w.heap.size 27 #[.slice none 0 0, .int .i64 0, .slice none 0 0, .slice none 0 0, .slice none 0 0]) := Hid.mk' ((K6.block _ (Nat.lt_of_lt_of_le R.out.lt KG.out.size) (.inl (by omega))).trans ((KG.out.block _ R.out.lt (.inl (by omega))).trans R.out)); have DY := Hid.mk' (hDB.dm (w' := w5.setCell ⟨w2.heap.size, 3, none⟩ (.slice u ((allX [] [] d).2.length + 1) cu)) K6.size (fun q _ h2 h3 => K6.block q h2 (by omega))); have SY := Hid.mk' ((S3.out.kept KG.out (by omega)).kept K6 (by omega)); have KY : Hid (KeptIn b (b + 1) w (w5.setCell ⟨w2.heap.size, 3, none⟩ (.slice u ((allX [] [] d).2.length + 1) cu))) := Hid.mk' ⟨K6.os.trans (KG.out.os.trans K3.out.os), K6.tape.trans (KG.out.tape.trans K3.out.tape), K6.output.trans (KG.out.output.trans K3.out.output), Nat.le_trans K3.out.size (Nat.le_trans KG.out.size K6.size), fun q h1 h2 => (K6.block q (Nat.lt_of_lt_of_le (Nat.lt_of_lt_of_le h1 K3.out.size) KG.out.size) (.inl (by omega))).trans ((KG.out.block q (Nat.lt_of_lt_of_le h1 K3.out.size) (.inl (by omega))).trans (K3.out.block q h1 h2))⟩; have f9 := M5.frozen 3; have y9 := M5.cell 3 _ rfl; clear ho hgr hat hDB M5 z5 y0 y1 y2 y3 y4 f0 f1 f3 f4 K6 KG gl gl3) | ((with_reducible refine wpList_load_row ?_ 27 (.tmp 3) ?_ w2.heap.size ?_ 27 #[.slice p1 d.length q1, .int .i64 (s : Int), .slice t (allX [] [] d).1.length ct, .slice u ((allX [] [] d).2.length + 1) cu, .slice (some ⟨b9, 0, none⟩) (d.length / s + 1) cc] (0, 0) _ ?_ Tryz.underlying27 ?_ ?_ ?_); rfl; rfl; rfl; exact MY.out; rfl; kernel_rfl) | ((with_reducible refine wpList_store_row ?_ 27 (.tmp 2) (.tmp 34) ?_ w.heap.size #[.slice p1 d.length q1, .int .i64 (s : Int), .slice t (allX [] [] d).1.length ct, .slice u ((allX [] [] d).2.length + 1) cu, .slice (some ⟨b9, 0, none⟩) (d.length / s + 1) cc] ?_ ?_ 27 #[.slice none 0 0, .int .i64 0, .slice none 0 0, .slice none 0 0, .slice none 0 0] ?_ ?_ ?_ ?_ ?_); rfl; rfl; rfl; rfl; exact RY.out; kernel_rfl; rfl; kernel_rfl) | fail)
  have HR := Hid.mk' (RY.out.put #[.slice p1 d.length q1, .int .i64 (s : Int), .slice t (allX [] [] d).1.length ct, .slice u ((allX [] [] d).2.length + 1) cu, .slice (some ⟨b9, 0, none⟩) (d.length / s + 1) cc])
  have DF := Hid.mk' ((DY.out.keep (w' := (w5.setCell ⟨w2.heap.size, 3, none⟩ (.slice u ((allX [] [] d).2.length + 1) cu)).setRow w.heap.size #[.slice p1 d.length q1, .int .i64 (s : Int), .slice t (allX [] [] d).1.length ct, .slice u ((allX [] [] d).2.length + 1) cu, .slice (some ⟨b9, 0, none⟩) (d.length / s + 1) cc]) (by rw [setRow_size]; exact Nat.le_refl _) (fun q h1 h2 => setRow_other _ _ _ _ (by omega))).mono (Nat.le_of_lt sW))
  have SF := Hid.mk' (SY.out.kept (RowA.keptRow (w5.setCell ⟨w2.heap.size, 3, none⟩ (.slice u ((allX [] [] d).2.length + 1) cu)) w.heap.size #[.slice p1 d.length q1, .int .i64 (s : Int), .slice t (allX [] [] d).1.length ct, .slice u ((allX [] [] d).2.length + 1) cu, .slice (some ⟨b9, 0, none⟩) (d.length / s + 1) cc]) hbw)
  have KF : Hid (KeptIn b (b + 1) w ((w5.setCell ⟨w2.heap.size, 3, none⟩ (.slice u ((allX [] [] d).2.length + 1) cu)).setRow w.heap.size #[.slice p1 d.length q1, .int .i64 (s : Int), .slice t (allX [] [] d).1.length ct, .slice u ((allX [] [] d).2.length + 1) cu, .slice (some ⟨b9, 0, none⟩) (d.length / s + 1) cc])) := Hid.mk' ⟨KY.out.os, KY.out.tape, KY.out.output, by rw [setRow_size]; exact KY.out.size, fun q h1 h2 => (setRow_other _ _ _ _ (by omega)).trans (KY.out.block q h1 h2)⟩
  refine bodyPost_ret (v := .agg #[.slice p1 d.length q1, .int .i64 (s : Int), .slice t (allX [] [] d).1.length ct, .slice u ((allX [] [] d).2.length + 1) cu, .slice (some ⟨b9, 0, none⟩) (d.length / s + 1) cc]) ?_ ?_ ?_
  ·exact results_cell1 Tryz.results41 _ _ _ ⟨w.heap.size, 0, none⟩ _ rfl (HR.out.load _ Tryz.underlying27 rfl (by kernel_rfl))
  ·rfl
  exact ⟨⟨d, (s : Int), (allX [] [] d).1, (allX [] [] d).2 ++ [120], cksN d s (d.length / s + 1)⟩, p1, t, u, some ⟨b9, 0, none⟩, q1, ct, cu, cc, k1 + 1, by simp [cksN_len], DF.out, dg_held hd BY.out hs1 (s : Int) (by omega) (by omega), by omega, SF.out, KF.out⟩
 by_cases c1 : x = 1
 ·subst c1
  have hpl : (1 : Int) ≤ ((d.length / s + 1 : Nat) : Int) := by exact_mod_cast Nat.succ_le_succ (Nat.zero_le _)
  by_cases hcc : cc = 1
  ·subst hcc
   have hDB := (NS.out.box (g := w2.heap.size) (Nat.le_refl _) (s : Int)).tail
   rw [if_pos rfl] at hDB
   have K6 : KeptIn w2.heap.size (w2.heap.size + 1) w3 (w3.setCell ⟨w2.heap.size, 4, none⟩ (.slice (some ⟨b9, 0, none⟩) (d.length / s) 0)) := (KeptIn.refl _ _ _).setCell (p := ⟨w2.heap.size, 4, none⟩) (Nat.le_refl _) (Nat.lt_succ_self _) _
   have MY : Hid (RowA (w3.setCell ⟨w2.heap.size, 4, none⟩ (.slice (some ⟨b9, 0, none⟩) (d.length / s) 0)) w2.heap.size 27 #[.slice p1 d.length q1, .int .i64 (s : Int), .slice t (allX [] [] d).1.length ct, .slice p2_ (allX [] [] d).2.length q2_, .slice (some ⟨b9, 0, none⟩) (d.length / s) 0]) := Hid.mk' (M.out.set 4 _)
   have RY : Hid (RowA (w3.setCell ⟨w2.heap.size, 4, none⟩ (.slice (some ⟨b9, 0, none⟩) (d.length / s) 0)) w.heap.size 27 #[.slice none 0 0, .int .i64 0, .slice none 0 0, .slice none 0 0, .slice none 0 0]) := Hid.mk' ((K6.block _ R.out.lt (.inl (by omega))).trans R.out)
   have DY := Hid.mk' (hDB.dm (w' := w3.setCell ⟨w2.heap.size, 4, none⟩ (.slice (some ⟨b9, 0, none⟩) (d.length / s) 0)) K6.size (fun q _ h2 h3 => K6.block q h2 (by omega)))
   have SY := Hid.mk' (S3.out.kept K6 (by omega))
   have KY : Hid (KeptIn b (b + 1) w (w3.setCell ⟨w2.heap.size, 4, none⟩ (.slice (some ⟨b9, 0, none⟩) (d.length / s) 0))) := Hid.mk' ⟨K6.os.trans K3.out.os, K6.tape.trans K3.out.tape, K6.output.trans K3.out.output, Nat.le_trans K3.out.size K6.size, fun q h1 h2 => (K6.block q (Nat.lt_of_lt_of_le h1 K3.out.size) (.inl (by omega))).trans (K3.out.block q h1 h2)⟩
   clear hDB K6
   have HR := Hid.mk' (RY.out.put #[.slice p1 d.length q1, .int .i64 (s : Int), .slice t (allX [] [] d).1.length ct, .slice p2_ (allX [] [] d).2.length q2_, .slice (some ⟨b9, 0, none⟩) (d.length / s) 0])
   have DF := Hid.mk' ((DY.out.keep (w' := (w3.setCell ⟨w2.heap.size, 4, none⟩ (.slice (some ⟨b9, 0, none⟩) (d.length / s) 0)).setRow w.heap.size #[.slice p1 d.length q1, .int .i64 (s : Int), .slice t (allX [] [] d).1.length ct, .slice p2_ (allX [] [] d).2.length q2_, .slice (some ⟨b9, 0, none⟩) (d.length / s) 0]) (by rw [setRow_size]; exact Nat.le_refl _) (fun q h1 h2 => setRow_other _ _ _ _ (by omega))).mono (Nat.le_of_lt sW))
   have SF := Hid.mk' (SY.out.kept (RowA.keptRow (w3.setCell ⟨w2.heap.size, 4, none⟩ (.slice (some ⟨b9, 0, none⟩) (d.length / s) 0)) w.heap.size #[.slice p1 d.length q1, .int .i64 (s : Int), .slice t (allX [] [] d).1.length ct, .slice p2_ (allX [] [] d).2.length q2_, .slice (some ⟨b9, 0, none⟩) (d.length / s) 0]) hbw)
   have KF : Hid (KeptIn b (b + 1) w ((w3.setCell ⟨w2.heap.size, 4, none⟩ (.slice (some ⟨b9, 0, none⟩) (d.length / s) 0)).setRow w.heap.size #[.slice p1 d.length q1, .int .i64 (s : Int), .slice t (allX [] [] d).1.length ct, .slice p2_ (allX [] [] d).2.length q2_, .slice (some ⟨b9, 0, none⟩) (d.length / s) 0])) := Hid.mk' ⟨KY.out.os, KY.out.tape, KY.out.output, by rw [setRow_size]; exact KY.out.size, fun q h1 h2 => (setRow_other _ _ _ _ (by omega)).trans (KY.out.block q h1 h2)⟩
   go_wp2_with (first | ((with_reducible refine wpList_load_row ?_ 27 (.tmp 3) ?_ w2.heap.size ?_ 27 #[.slice p1 d.length q1, .int .i64 (s : Int), .slice t (allX [] [] d).1.length ct, .slice p2_ (allX [] [] d).2.length q2_, .slice (some ⟨b9, 0, none⟩) (d.length / s) 0] (0, 0) _ ?_ Tryz.underlying27 ?_ ?_ ?_); rfl; rfl; rfl; exact MY.out; rfl; kernel_rfl) | ((with_reducible refine wpList_store_row ?_ 27 (.tmp 2) (.tmp 34) ?_ w.heap.size #[.slice p1 d.length q1, .int .i64 (s : Int), .slice t (allX [] [] d).1.length ct, .slice p2_ (allX [] [] d).2.length q2_, .slice (some ⟨b9, 0, none⟩) (d.length / s) 0] ?_ ?_ 27 #[.slice none 0 0, .int .i64 0, .slice none 0 0, .slice none 0 0, .slice none 0 0] ?_ ?_ ?_ ?_ ?_); rfl; rfl; rfl; rfl; exact RY.out; kernel_rfl; rfl; kernel_rfl) | fail)
   refine bodyPost_ret (v := .agg #[.slice p1 d.length q1, .int .i64 (s : Int), .slice t (allX [] [] d).1.length ct, .slice p2_ (allX [] [] d).2.length q2_, .slice (some ⟨b9, 0, none⟩) (d.length / s) 0]) ?_ ?_ ?_
   ·exact results_cell1 Tryz.results41 _ _ _ ⟨w.heap.size, 0, none⟩ _ rfl (HR.out.load _ Tryz.underlying27 rfl (by kernel_rfl))
   ·rfl
   exact ⟨⟨d, (s : Int), (allX [] [] d).1, (allX [] [] d).2, (cksN d s (d.length / s + 1)).tail⟩, p1, t, p2_, some ⟨b9, 0, none⟩, q1, ct, q2_, 0, k1 + 1, by simp [cksN_len], DF.out, dg_tail (dg_new hd BY.out hs1 (s : Int) (by omega) (by omega)).1, by omega, SF.out, KF.out⟩
  ·have hDB := (NS.out.box (g := w2.heap.size) (Nat.le_refl _) (s : Int)).tail
   rw [if_neg hcc] at hDB
   have K6 : KeptIn w2.heap.size (w2.heap.size + 1) w3 (w3.setCell ⟨w2.heap.size, 4, none⟩ (.slice (some ⟨b9, 3, none⟩) (d.length / s) (cc - 1))) := (KeptIn.refl _ _ _).setCell (p := ⟨w2.heap.size, 4, none⟩) (Nat.le_refl _) (Nat.lt_succ_self _) _
   have MY : Hid (RowA (w3.setCell ⟨w2.heap.size, 4, none⟩ (.slice (some ⟨b9, 3, none⟩) (d.length / s) (cc - 1))) w2.heap.size 27 #[.slice p1 d.length q1, .int .i64 (s : Int), .slice t (allX [] [] d).1.length ct, .slice p2_ (allX [] [] d).2.length q2_, .slice (some ⟨b9, 3, none⟩) (d.length / s) (cc - 1)]) := Hid.mk' (M.out.set 4 _)
   have RY : Hid (RowA (w3.setCell ⟨w2.heap.size, 4, none⟩ (.slice (some ⟨b9, 3, none⟩) (d.length / s) (cc - 1))) w.heap.size 27 #[.slice none 0 0, .int .i64 0, .slice none 0 0, .slice none 0 0, .slice none 0 0]) := Hid.mk' ((K6.block _ R.out.lt (.inl (by omega))).trans R.out)
   have DY := Hid.mk' (hDB.dm (w' := w3.setCell ⟨w2.heap.size, 4, none⟩ (.slice (some ⟨b9, 3, none⟩) (d.length / s) (cc - 1))) K6.size (fun q _ h2 h3 => K6.block q h2 (by omega)))
   have SY := Hid.mk' (S3.out.kept K6 (by omega))
   have KY : Hid (KeptIn b (b + 1) w (w3.setCell ⟨w2.heap.size, 4, none⟩ (.slice (some ⟨b9, 3, none⟩) (d.length / s) (cc - 1)))) := Hid.mk' ⟨K6.os.trans K3.out.os, K6.tape.trans K3.out.tape, K6.output.trans K3.out.output, Nat.le_trans K3.out.size K6.size, fun q h1 h2 => (K6.block q (Nat.lt_of_lt_of_le h1 K3.out.size) (.inl (by omega))).trans (K3.out.block q h1 h2)⟩
   clear hDB K6
   have HR := Hid.mk' (RY.out.put #[.slice p1 d.length q1, .int .i64 (s : Int), .slice t (allX [] [] d).1.length ct, .slice p2_ (allX [] [] d).2.length q2_, .slice (some ⟨b9, 3, none⟩) (d.length / s) (cc - 1)])
   have DF := Hid.mk' ((DY.out.keep (w' := (w3.setCell ⟨w2.heap.size, 4, none⟩ (.slice (some ⟨b9, 3, none⟩) (d.length / s) (cc - 1))).setRow w.heap.size #[.slice p1 d.length q1, .int .i64 (s : Int), .slice t (allX [] [] d).1.length ct, .slice p2_ (allX [] [] d).2.length q2_, .slice (some ⟨b9, 3, none⟩) (d.length / s) (cc - 1)]) (by rw [setRow_size]; exact Nat.le_refl _) (fun q h1 h2 => setRow_other _ _ _ _ (by omega))).mono (Nat.le_of_lt sW))
   have SF := Hid.mk' (SY.out.kept (RowA.keptRow (w3.setCell ⟨w2.heap.size, 4, none⟩ (.slice (some ⟨b9, 3, none⟩) (d.length / s) (cc - 1))) w.heap.size #[.slice p1 d.length q1, .int .i64 (s : Int), .slice t (allX [] [] d).1.length ct, .slice p2_ (allX [] [] d).2.length q2_, .slice (some ⟨b9, 3, none⟩) (d.length / s) (cc - 1)]) hbw)
   have KF : Hid (KeptIn b (b + 1) w ((w3.setCell ⟨w2.heap.size, 4, none⟩ (.slice (some ⟨b9, 3, none⟩) (d.length / s) (cc - 1))).setRow w.heap.size #[.slice p1 d.length q1, .int .i64 (s : Int), .slice t (allX [] [] d).1.length ct, .slice p2_ (allX [] [] d).2.length q2_, .slice (some ⟨b9, 3, none⟩) (d.length / s) (cc - 1)])) := Hid.mk' ⟨KY.out.os, KY.out.tape, KY.out.output, by rw [setRow_size]; exact KY.out.size, fun q h1 h2 => (setRow_other _ _ _ _ (by omega)).trans (KY.out.block q h1 h2)⟩
   go_wp2_with (first | ((with_reducible refine wpList_load_row ?_ 27 (.tmp 3) ?_ w2.heap.size ?_ 27 #[.slice p1 d.length q1, .int .i64 (s : Int), .slice t (allX [] [] d).1.length ct, .slice p2_ (allX [] [] d).2.length q2_, .slice (some ⟨b9, 3, none⟩) (d.length / s) (cc - 1)] (0, 0) _ ?_ Tryz.underlying27 ?_ ?_ ?_); rfl; rfl; rfl; exact MY.out; rfl; kernel_rfl) | ((with_reducible refine wpList_store_row ?_ 27 (.tmp 2) (.tmp 34) ?_ w.heap.size #[.slice p1 d.length q1, .int .i64 (s : Int), .slice t (allX [] [] d).1.length ct, .slice p2_ (allX [] [] d).2.length q2_, .slice (some ⟨b9, 3, none⟩) (d.length / s) (cc - 1)] ?_ ?_ 27 #[.slice none 0 0, .int .i64 0, .slice none 0 0, .slice none 0 0, .slice none 0 0] ?_ ?_ ?_ ?_ ?_); rfl; rfl; rfl; rfl; exact RY.out; kernel_rfl; rfl; kernel_rfl) | fail)
   refine bodyPost_ret (v := .agg #[.slice p1 d.length q1, .int .i64 (s : Int), .slice t (allX [] [] d).1.length ct, .slice p2_ (allX [] [] d).2.length q2_, .slice (some ⟨b9, 3, none⟩) (d.length / s) (cc - 1)]) ?_ ?_ ?_
   ·exact results_cell1 Tryz.results41 _ _ _ ⟨w.heap.size, 0, none⟩ _ rfl (HR.out.load _ Tryz.underlying27 rfl (by kernel_rfl))
   ·rfl
   exact ⟨⟨d, (s : Int), (allX [] [] d).1, (allX [] [] d).2, (cksN d s (d.length / s + 1)).tail⟩, p1, t, p2_, some ⟨b9, 3, none⟩, q1, ct, q2_, (cc - 1), k1 + 1, by simp [cksN_len], DF.out, dg_tail (dg_new hd BY.out hs1 (s : Int) (by omega) (by omega)).1, by omega, SF.out, KF.out⟩
 by_cases c2 : x = 2
 ·subst c2
  have KP := Hid.mk' (l1Pick_any b (k1 + 1) w3.heap.size 4 l [0, 1, 61, 7] _ (S3.out.below (below_new w3 _)) (iat_lit w3 [0, 1, 61, 7]) (by have := g3.out; omega) (by omega) (by decide) (by decide) hl)
  have hN3 := Hid.mk' (below_new w3 (.cells ([0, 1, 61, 7].map (Value.int .i64)).toArray 2))
  clear y0 y1 y2 y3 y4 f0 f1 f3 f4
  go_wp2_with fail
  refine KP.out.mono ?_
  rintro e w4 ⟨i, hi, rfl, hS4, hK4⟩
  obtain ⟨st, hst, st0, st1⟩ : ∃ st : Int, [(0 : Int), 1, 61, 7].getD i 0 = st ∧ 0 ≤ st ∧ st ≤ 61 := by
   have h4 : i < 4 := hi
   have : i = 0 ∨ i = 1 ∨ i = 2 ∨ i = 3 := by omega
   rcases this with rfl | rfl | rfl | rfl
   ·exact ⟨0, rfl, by decide, by decide⟩
   ·exact ⟨1, rfl, by decide, by decide⟩
   ·exact ⟨61, rfl, by decide, by decide⟩
   ·exact ⟨7, rfl, by decide, by decide⟩
  rw [hst]
  have n3 := hN3.out
  have M4 : Hid (RowA w4 w2.heap.size 27 #[.slice p1 d.length q1, .int .i64 (s : Int), .slice t (allX [] [] d).1.length ct, .slice p2_ (allX [] [] d).2.length q2_, .slice (some ⟨b9, 0, none⟩) (d.length / s + 1) cc]) := Hid.mk' ((hK4.block _ (Nat.lt_of_lt_of_le g3.out n3.size) (.inr (by omega))).trans ((n3.block _ g3.out).trans M.out))
  have R4 : Hid (RowA w4 w.heap.size 27 #[.slice none 0 0, .int .i64 0, .slice none 0 0, .slice none 0 0, .slice none 0 0]) := Hid.mk' ((hK4.block _ (Nat.lt_of_lt_of_le R.out.lt n3.size) (.inr (by omega))).trans ((n3.block _ R.out.lt).trans R.out))
  have hDB := ((NS.out.below n3).kept hK4 (by omega)).box (g := w2.heap.size) (Nat.le_refl _) st
  have K4 := (K3.out.trans (KeptIn.of_below n3)).trans hK4
  have K6 : KeptIn w2.heap.size (w2.heap.size + 1) w4 (w4.setCell ⟨w2.heap.size, 1, none⟩ (.int .i64 st)) := (KeptIn.refl _ _ _).setCell (p := ⟨w2.heap.size, 1, none⟩) (Nat.le_refl _) (Nat.lt_succ_self _) _
  have MY : Hid (RowA (w4.setCell ⟨w2.heap.size, 1, none⟩ (.int .i64 st)) w2.heap.size 27 #[.slice p1 d.length q1, .int .i64 st, .slice t (allX [] [] d).1.length ct, .slice p2_ (allX [] [] d).2.length q2_, .slice (some ⟨b9, 0, none⟩) (d.length / s + 1) cc]) := Hid.mk' (M4.out.set 1 _)
  have RY : Hid (RowA (w4.setCell ⟨w2.heap.size, 1, none⟩ (.int .i64 st)) w.heap.size 27 #[.slice none 0 0, .int .i64 0, .slice none 0 0, .slice none 0 0, .slice none 0 0]) := Hid.mk' ((K6.block _ R4.out.lt (.inl (by omega))).trans R4.out)
  have DY := Hid.mk' (hDB.dm (w' := w4.setCell ⟨w2.heap.size, 1, none⟩ (.int .i64 st)) K6.size (fun q _ h2 h3 => K6.block q h2 (by omega)))
  have SY := Hid.mk' (hS4.kept K6 (by omega))
  have KY : Hid (KeptIn b (b + 1) w (w4.setCell ⟨w2.heap.size, 1, none⟩ (.int .i64 st))) := Hid.mk' ⟨K6.os.trans K4.os, K6.tape.trans K4.tape, K6.output.trans K4.output, Nat.le_trans K4.size K6.size, fun q h1 h2 => (K6.block q (Nat.lt_of_lt_of_le h1 K4.size) (.inl (by omega))).trans (K4.block q h1 h2)⟩
  have y1 := M4.out.cell 1 _ rfl
  have f1 := M4.out.frozen 1
  clear hDB K6 K4 hS4 hK4 n3 hN3 KP
  have HR := Hid.mk' (RY.out.put #[.slice p1 d.length q1, .int .i64 st, .slice t (allX [] [] d).1.length ct, .slice p2_ (allX [] [] d).2.length q2_, .slice (some ⟨b9, 0, none⟩) (d.length / s + 1) cc])
  have DF := Hid.mk' ((DY.out.keep (w' := (w4.setCell ⟨w2.heap.size, 1, none⟩ (.int .i64 st)).setRow w.heap.size #[.slice p1 d.length q1, .int .i64 st, .slice t (allX [] [] d).1.length ct, .slice p2_ (allX [] [] d).2.length q2_, .slice (some ⟨b9, 0, none⟩) (d.length / s + 1) cc]) (by rw [setRow_size]; exact Nat.le_refl _) (fun q h1 h2 => setRow_other _ _ _ _ (by omega))).mono (Nat.le_of_lt sW))
  have SF := Hid.mk' (SY.out.kept (RowA.keptRow (w4.setCell ⟨w2.heap.size, 1, none⟩ (.int .i64 st)) w.heap.size #[.slice p1 d.length q1, .int .i64 st, .slice t (allX [] [] d).1.length ct, .slice p2_ (allX [] [] d).2.length q2_, .slice (some ⟨b9, 0, none⟩) (d.length / s + 1) cc]) hbw)
  have KF : Hid (KeptIn b (b + 1) w ((w4.setCell ⟨w2.heap.size, 1, none⟩ (.int .i64 st)).setRow w.heap.size #[.slice p1 d.length q1, .int .i64 st, .slice t (allX [] [] d).1.length ct, .slice p2_ (allX [] [] d).2.length q2_, .slice (some ⟨b9, 0, none⟩) (d.length / s + 1) cc])) := Hid.mk' ⟨KY.out.os, KY.out.tape, KY.out.output, by rw [setRow_size]; exact KY.out.size, fun q h1 h2 => (setRow_other _ _ _ _ (by omega)).trans (KY.out.block q h1 h2)⟩
  go_wp2_with (first | ((with_reducible refine wpList_load_row ?_ 27 (.tmp 3) ?_ w2.heap.size ?_ 27 #[.slice p1 d.length q1, .int .i64 st, .slice t (allX [] [] d).1.length ct, .slice p2_ (allX [] [] d).2.length q2_, .slice (some ⟨b9, 0, none⟩) (d.length / s + 1) cc] (0, 0) _ ?_ Tryz.underlying27 ?_ ?_ ?_); rfl; rfl; rfl; exact MY.out; rfl; kernel_rfl) | ((with_reducible refine wpList_store_row ?_ 27 (.tmp 2) (.tmp 34) ?_ w.heap.size #[.slice p1 d.length q1, .int .i64 st, .slice t (allX [] [] d).1.length ct, .slice p2_ (allX [] [] d).2.length q2_, .slice (some ⟨b9, 0, none⟩) (d.length / s + 1) cc] ?_ ?_ 27 #[.slice none 0 0, .int .i64 0, .slice none 0 0, .slice none 0 0, .slice none 0 0] ?_ ?_ ?_ ?_ ?_); rfl; rfl; rfl; rfl; exact RY.out; kernel_rfl; rfl; kernel_rfl) | fail)
  refine bodyPost_ret (v := .agg #[.slice p1 d.length q1, .int .i64 st, .slice t (allX [] [] d).1.length ct, .slice p2_ (allX [] [] d).2.length q2_, .slice (some ⟨b9, 0, none⟩) (d.length / s + 1) cc]) ?_ ?_ ?_
  ·exact results_cell1 Tryz.results41 _ _ _ ⟨w.heap.size, 0, none⟩ _ rfl (HR.out.load _ Tryz.underlying27 rfl (by kernel_rfl))
  ·rfl
  exact ⟨⟨d, st, (allX [] [] d).1, (allX [] [] d).2, cksN d s (d.length / s + 1)⟩, p1, t, p2_, some ⟨b9, 0, none⟩, q1, ct, q2_, cc, k1 + 1 + 1, by simp [cksN_len], DF.out, (dg_new hd BY.out hs1 st st0 st1).1, by omega, SF.out, KF.out⟩
 by_cases c3 : x = 3
 ·subst c3
  go_wp2_with (first | (at_builtin; refine wpList_append_at _ rfl (.tmp 30) (.tmp 31) 22 rfl W.heap.size 5 (.int .u8 0) 1 1 Tryz.underlying22 Tryz.info5 rfl (by decide) _ d.length (bcs d) rfl (own_keep NS.out.dt (below_new w3 _)) _ 1 _ (bcs [120]) rfl rfl (.inr ⟨_, rfl, one_byteS w3 120⟩) (bcs_one _) (by unfold maxLen; omega) (by omega) (by simp; omega) ?_; intro v' w5 ho hgr hat; (rw [← bcs_append, show d.length + 1 = (d ++ [(120 : Int)]).length by simp] at ho); obtain ⟨u, cu, rfl, hDB⟩ := (NS.out.below (below_new w3 (.cells #[.int .u8 120] 5))).data (g := w2.heap.size) (Nat.le_refl _) (Nat.lt_of_lt_of_le g3.out (below_new w3 (.cells #[.int .u8 120] 5)).size) hgr hat ho (s : Int); have M5 : RowA w5 w2.heap.size 27 #[.slice p1 d.length q1, .int .i64 (s : Int), .slice t (allX [] [] d).1.length ct, .slice p2_ (allX [] [] d).2.length q2_, .slice (some ⟨b9, 0, none⟩) (d.length / s + 1) cc] := (hgr.block _ (Nat.lt_of_lt_of_le g3.out (below_new w3 (.cells #[.int .u8 120] 5)).size) (fun e => absurd (NS.out.dl _ e.symm) (Nat.lt_irrefl _))).trans ((below_new w3 (.cells #[.int .u8 120] 5)).block _ g3.out |>.trans M.out); have z5 : Hid (∀ q, q < w3.heap.size → (Value.slice p1 d.length q1).ownBlock ≠ some q → w5.heap[q]? = w3.heap[q]?) := Hid.mk' (fun q h1 h2 => (hgr.block q (Nat.lt_of_lt_of_le h1 (below_new w3 (.cells #[.int .u8 120] 5)).size) (fun e => h2 e.symm)).trans ((below_new w3 (.cells #[.int .u8 120] 5)).block q h1)); have KG : Hid (KeptIn W.heap.size w3.heap.size w3 w5) := Hid.mk' (by have n1 := below_new w3 (.cells #[.int .u8 120] 5); exact ⟨hgr.os.trans n1.os, hgr.tape.trans n1.tape, hgr.output.trans n1.output, Nat.le_trans n1.size hgr.size, fun q h1 h2 => z5.out q h1 (fun e => by have := (NS.out.dt.lt q e); omega)⟩); have K6 : KeptIn w2.heap.size (w2.heap.size + 1) w5 (w5.setCell ⟨w2.heap.size, 0, none⟩ (.slice u (d.length + 1) cu)) := (KeptIn.refl _ _ _).setCell (p := ⟨w2.heap.size, 0, none⟩) (Nat.le_refl _) (Nat.lt_succ_self _) _; have MY : Hid (RowA (w5.setCell ⟨w2.heap.size, 0, none⟩ (.slice u (d.length + 1) cu)) w2.heap.size 27 #[.slice u (d.length + 1) cu, .int .i64 (s : Int), .slice t (allX [] [] d).1.length ct, .slice p2_ (allX [] [] d).2.length q2_, .slice (some ⟨b9, 0, none⟩) (d.length / s + 1) cc]) := Hid.mk' (M5.set 0 _); have gl : w.heap.size < W.heap.size := sW; have gl3 : w2.heap.size < w3.heap.size := g3.out; have RY : Hid (RowA (w5.setCell ⟨w2.heap.size, 0, none⟩ (.slice u (d.length + 1) cu)) w.heap.size 27 #[.slice none 0 0, .int .i64 0, .slice none 0 0, .slice none 0 0, .slice none 0 0]) := Hid.mk' ((K6.block _ (Nat.lt_of_lt_of_le R.out.lt KG.out.size) (.inl (by omega))).trans ((KG.out.block _ R.out.lt (.inl (by omega))).trans R.out)); have DY := Hid.mk' (hDB.dm (w' := w5.setCell ⟨w2.heap.size, 0, none⟩ (.slice u (d.length + 1) cu)) K6.size (fun q _ h2 h3 => K6.block q h2 (by omega))); have SY := Hid.mk' ((S3.out.kept KG.out (by omega)).kept K6 (by omega)); have KY : Hid (KeptIn b (b + 1) w (w5.setCell ⟨w2.heap.size, 0, none⟩ (.slice u (d.length + 1) cu))) := Hid.mk' ⟨K6.os.trans (KG.out.os.trans K3.out.os), K6.tape.trans (KG.out.tape.trans K3.out.tape), K6.output.trans (KG.out.output.trans K3.out.output), Nat.le_trans K3.out.size (Nat.le_trans KG.out.size K6.size), fun q h1 h2 => (K6.block q (Nat.lt_of_lt_of_le (Nat.lt_of_lt_of_le h1 K3.out.size) KG.out.size) (.inl (by omega))).trans ((KG.out.block q (Nat.lt_of_lt_of_le h1 K3.out.size) (.inl (by omega))).trans (K3.out.block q h1 h2))⟩; have f9 := M5.frozen 0; have y9 := M5.cell 0 _ rfl; clear ho hgr hat hDB M5 z5 y0 y1 y2 y3 y4 f0 f1 f3 f4 K6 KG gl gl3) | ((with_reducible refine wpList_load_row ?_ 27 (.tmp 3) ?_ w2.heap.size ?_ 27 #[.slice u (d.length + 1) cu, .int .i64 (s : Int), .slice t (allX [] [] d).1.length ct, .slice p2_ (allX [] [] d).2.length q2_, .slice (some ⟨b9, 0, none⟩) (d.length / s + 1) cc] (0, 0) _ ?_ Tryz.underlying27 ?_ ?_ ?_); rfl; rfl; rfl; exact MY.out; rfl; kernel_rfl) | ((with_reducible refine wpList_store_row ?_ 27 (.tmp 2) (.tmp 34) ?_ w.heap.size #[.slice u (d.length + 1) cu, .int .i64 (s : Int), .slice t (allX [] [] d).1.length ct, .slice p2_ (allX [] [] d).2.length q2_, .slice (some ⟨b9, 0, none⟩) (d.length / s + 1) cc] ?_ ?_ 27 #[.slice none 0 0, .int .i64 0, .slice none 0 0, .slice none 0 0, .slice none 0 0] ?_ ?_ ?_ ?_ ?_); rfl; rfl; rfl; rfl; exact RY.out; kernel_rfl; rfl; kernel_rfl) | fail)
  have HR := Hid.mk' (RY.out.put #[.slice u (d.length + 1) cu, .int .i64 (s : Int), .slice t (allX [] [] d).1.length ct, .slice p2_ (allX [] [] d).2.length q2_, .slice (some ⟨b9, 0, none⟩) (d.length / s + 1) cc])
  have DF := Hid.mk' ((DY.out.keep (w' := (w5.setCell ⟨w2.heap.size, 0, none⟩ (.slice u (d.length + 1) cu)).setRow w.heap.size #[.slice u (d.length + 1) cu, .int .i64 (s : Int), .slice t (allX [] [] d).1.length ct, .slice p2_ (allX [] [] d).2.length q2_, .slice (some ⟨b9, 0, none⟩) (d.length / s + 1) cc]) (by rw [setRow_size]; exact Nat.le_refl _) (fun q h1 h2 => setRow_other _ _ _ _ (by omega))).mono (Nat.le_of_lt sW))
  have SF := Hid.mk' (SY.out.kept (RowA.keptRow (w5.setCell ⟨w2.heap.size, 0, none⟩ (.slice u (d.length + 1) cu)) w.heap.size #[.slice u (d.length + 1) cu, .int .i64 (s : Int), .slice t (allX [] [] d).1.length ct, .slice p2_ (allX [] [] d).2.length q2_, .slice (some ⟨b9, 0, none⟩) (d.length / s + 1) cc]) hbw)
  have KF : Hid (KeptIn b (b + 1) w ((w5.setCell ⟨w2.heap.size, 0, none⟩ (.slice u (d.length + 1) cu)).setRow w.heap.size #[.slice u (d.length + 1) cu, .int .i64 (s : Int), .slice t (allX [] [] d).1.length ct, .slice p2_ (allX [] [] d).2.length q2_, .slice (some ⟨b9, 0, none⟩) (d.length / s + 1) cc])) := Hid.mk' ⟨KY.out.os, KY.out.tape, KY.out.output, by rw [setRow_size]; exact KY.out.size, fun q h1 h2 => (setRow_other _ _ _ _ (by omega)).trans (KY.out.block q h1 h2)⟩
  refine bodyPost_ret (v := .agg #[.slice u (d.length + 1) cu, .int .i64 (s : Int), .slice t (allX [] [] d).1.length ct, .slice p2_ (allX [] [] d).2.length q2_, .slice (some ⟨b9, 0, none⟩) (d.length / s + 1) cc]) ?_ ?_ ?_
  ·exact results_cell1 Tryz.results41 _ _ _ ⟨w.heap.size, 0, none⟩ _ rfl (HR.out.load _ Tryz.underlying27 rfl (by kernel_rfl))
  ·rfl
  exact ⟨⟨d ++ [120], (s : Int), (allX [] [] d).1, (allX [] [] d).2, cksN d s (d.length / s + 1)⟩, u, t, p2_, some ⟨b9, 0, none⟩, cu, ct, q2_, cc, k1 + 1, by simp [cksN_len], DF.out, dg_data hd BY.out hs1 (s : Int) (by omega) (by omega), by omega, SF.out, KF.out⟩
 have n0 : (x == 0) = false := by simp [c0]
 have n1 : (x == 1) = false := by simp [c1]
 have n2 : (x == 2) = false := by simp [c2]
 have n3 : (x == 3) = false := by simp [c3]
 have hr := (NS.out.box (g := w2.heap.size) (Nat.le_refl _) (s : Int)).dm (Nat.le_refl _) (fun _ _ _ _ => rfl)
 have DY := Hid.mk' hr
 have MY := M
 have RY := R
 have SY := S3
 have KY := K3
 clear hr
 have HR := Hid.mk' (RY.out.put #[.slice p1 d.length q1, .int .i64 (s : Int), .slice t (allX [] [] d).1.length ct, .slice p2_ (allX [] [] d).2.length q2_, .slice (some ⟨b9, 0, none⟩) (d.length / s + 1) cc])
 have DF := Hid.mk' ((DY.out.keep (w' := (w3).setRow w.heap.size #[.slice p1 d.length q1, .int .i64 (s : Int), .slice t (allX [] [] d).1.length ct, .slice p2_ (allX [] [] d).2.length q2_, .slice (some ⟨b9, 0, none⟩) (d.length / s + 1) cc]) (by rw [setRow_size]; exact Nat.le_refl _) (fun q h1 h2 => setRow_other _ _ _ _ (by omega))).mono (Nat.le_of_lt sW))
 have SF := Hid.mk' (SY.out.kept (RowA.keptRow (w3) w.heap.size #[.slice p1 d.length q1, .int .i64 (s : Int), .slice t (allX [] [] d).1.length ct, .slice p2_ (allX [] [] d).2.length q2_, .slice (some ⟨b9, 0, none⟩) (d.length / s + 1) cc]) hbw)
 have KF : Hid (KeptIn b (b + 1) w ((w3).setRow w.heap.size #[.slice p1 d.length q1, .int .i64 (s : Int), .slice t (allX [] [] d).1.length ct, .slice p2_ (allX [] [] d).2.length q2_, .slice (some ⟨b9, 0, none⟩) (d.length / s + 1) cc])) := Hid.mk' ⟨KY.out.os, KY.out.tape, KY.out.output, by rw [setRow_size]; exact KY.out.size, fun q h1 h2 => (setRow_other _ _ _ _ (by omega)).trans (KY.out.block q h1 h2)⟩
 go_wp2_with (first | ((with_reducible refine wpList_load_row ?_ 27 (.tmp 3) ?_ w2.heap.size ?_ 27 #[.slice p1 d.length q1, .int .i64 (s : Int), .slice t (allX [] [] d).1.length ct, .slice p2_ (allX [] [] d).2.length q2_, .slice (some ⟨b9, 0, none⟩) (d.length / s + 1) cc] (0, 0) _ ?_ Tryz.underlying27 ?_ ?_ ?_); rfl; rfl; rfl; exact MY.out; rfl; kernel_rfl) | ((with_reducible refine wpList_store_row ?_ 27 (.tmp 2) (.tmp 34) ?_ w.heap.size #[.slice p1 d.length q1, .int .i64 (s : Int), .slice t (allX [] [] d).1.length ct, .slice p2_ (allX [] [] d).2.length q2_, .slice (some ⟨b9, 0, none⟩) (d.length / s + 1) cc] ?_ ?_ 27 #[.slice none 0 0, .int .i64 0, .slice none 0 0, .slice none 0 0, .slice none 0 0] ?_ ?_ ?_ ?_ ?_); rfl; rfl; rfl; rfl; exact RY.out; kernel_rfl; rfl; kernel_rfl) | fail)
 refine bodyPost_ret (v := .agg #[.slice p1 d.length q1, .int .i64 (s : Int), .slice t (allX [] [] d).1.length ct, .slice p2_ (allX [] [] d).2.length q2_, .slice (some ⟨b9, 0, none⟩) (d.length / s + 1) cc]) ?_ ?_ ?_
 ·exact results_cell1 Tryz.results41 _ _ _ ⟨w.heap.size, 0, none⟩ _ rfl (HR.out.load _ Tryz.underlying27 rfl (by kernel_rfl))
 ·rfl
 exact ⟨⟨d, (s : Int), (allX [] [] d).1, (allX [] [] d).2, cksN d s (d.length / s + 1)⟩, p1, t, p2_, some ⟨b9, 0, none⟩, q1, ct, q2_, cc, k1 + 1, by simp [cksN_len], DF.out, (dg_new hd BY.out hs1 (s : Int) (by omega) (by omega)).1, by omega, SF.out, KF.out⟩
theorem KeptIn.up {b : Nat} {W w wr : World} (h : KeptIn b (b + 1) w wr) (hb : W.heap.size ≤ b) (hW : Below W.heap.size W w) : Below W.heap.size W wr :=
 h.below hb hW.size |> hW.trans
theorem l1MinW_any (x y : Int) (w : World) : Calls Tryz.prog 99 #[.int .i64 x, .int .i64 y] w fun e w' => e = .returned (.int .i64 (if x < y then x else y)) ∧ w' = w := by
 by_cases h : x < y
 ·rw [if_pos h]
  go_enter Tryz.func99, Tryz.ntmps99
  go_wp2
  go_ret
  exact ⟨rfl, rfl⟩
 ·rw [if_neg h]
  go_enter Tryz.func99, Tryz.ntmps99
  go_wp2
  go_ret
  exact ⟨rfl, rfl⟩
def DrW (b k : Nat) (l : List Int) (w : World) (e : Ending) (w' : World) : Prop :=
 ∃ (A N : Int) (p : List Int) (v : Value) (k' : Nat), e = .returned (.tuple #[.int .i64 A, .int .i64 N, v]) ∧ OB w' v p ∧ (∀ q, v.ownBlock = some q → w.heap.size ≤ q) ∧ Byt p ∧ -1 ≤ A ∧ A ≤ 182 ∧ -1 ≤ N ∧ N ≤ 183 ∧ p.length ≤ 241 ∧ k' ≤ k + 10 ∧ Src b l k' w' ∧ KeptIn b (b + 1) w w'
theorem repl_byt (n : Nat) : Byt (List.replicate n 0) := Byt.of (fun x hx => by rw [List.mem_replicate] at hx; omega)
theorem l13With_any (b k n : Nat) (l : List Int) (w : World) (h : Src b l k w) (hk : k ≤ 9000) (hn : n ≤ 181) (hl : (l.length : Int) ≤ 1048576) :
  Calls Tryz.prog 74 #[.pointer (some ⟨b, 0, none⟩), .int .i64 (n : Int)] w fun e w' => DrW b k l w e w' := by
 have hbw := h.lt
 have HS := Hid.mk' h
 clear h
 have wr1 : IntKind.i64.wrap ((n : Int) + 1) = (n : Int) + 1 := by rw [IntKind.wrap_i64]; omega
 go_enter Tryz.func74, Tryz.ntmps74
 go_wp2_with fail
 refine (l1Next_any b k l ((n : Int) + 1) w HS.out (by omega) (by omega) (by omega) hl).mono ?_
 rintro e w1 ⟨A, rfl, A0, A1, hS1, hK1⟩
 have HS1 := Hid.mk' hS1
 have K1 := Hid.mk' hK1
 clear hS1 hK1 HS
 have wr2 : IntKind.i64.wrap ((n : Int) - A) = (n : Int) - A := by rw [IntKind.wrap_i64]; omega
 obtain ⟨M, hM, M0, M1⟩ : ∃ M : Int, (if (6 : Int) < (n : Int) - A then (6 : Int) else (n : Int) - A) = M ∧ 0 ≤ M ∧ M ≤ 6 := by
  split
  ·exact ⟨6, rfl, by decide, by decide⟩
  ·exact ⟨_, rfl, by omega, by omega⟩
 have KM := fun W => l1MinW_any 6 ((n : Int) - A) W
 rw [hM] at KM
 have KM := Hid.mk' KM
 clear hM
 have wr3 : IntKind.i64.wrap (M + 1) = M + 1 := by rw [IntKind.wrap_i64]; omega
 go_wp2_with (go_at_call 99; refine (KM.out _).mono ?_; rintro e wq ⟨rfl, hwq⟩; obtain rfl := hwq.symm)
 refine (l1Next_any b (k + 1) l (M + 1) _ HS1.out (by omega) (by omega) (by omega) hl).mono ?_
 rintro e w2 ⟨N, rfl, N0, N1, hS2, hK2⟩
 have HS2 := Hid.mk' hS2
 have K2 := Hid.mk' (K1.out.trans hK2)
 clear hS2 hK2 HS1 K1 KM
 go_wp2_with fail
 refine (l1Marked_any b (k + 1 + 1) 3 l w2 HS2.out (by omega) (by decide) (by decide) hl).mono ?_
 rintro e w3 ⟨v, p, k3, rfl, hp, hk3, hD⟩
 obtain ⟨pv, cv, rfl⟩ := own_form hD.own
 obtain ⟨oP, loP⟩ := OB.of_own hD.own
 have s2 := K2.out.size
 have HS3 := Hid.mk' hD.src
 have K3 := Hid.mk' (K2.out.trans hD.kept)
 have OP_ := Hid.mk' oP
 have LP := Hid.mk' loP
 have BP : Hid (Byt p) := Hid.mk' (Byt.of hD.u8)
 have bw2 : b < w2.heap.size := HS2.out.lt
 clear hD HS2 K2
 go_wp2_with fail
 refine (l1Next_any b k3 l 14 w3 HS3.out (by omega) (by decide) (by decide) hl).mono ?_
 rintro e w4 ⟨x, rfl, x0, x1, hS4, hK4⟩
 have HS4 := Hid.mk' hS4
 have K4 := Hid.mk' (K3.out.trans hK4)
 have OP4 := Hid.mk' (OP_.out.keep (fun q e hq => hK4.block q hq (.inr (by have := LP.out q e; omega))))
 have bw4 : b < w4.heap.size := hS4.lt
 clear hS4 hK4 HS3 K3 OP_ oP loP
 by_cases c0 : x = 0
 ·subst c0
  go_wp2_with fail
  refine (l1Pick_any b (k3 + 1) w4.heap.size 2 l [-1, (n : Int) + 1] _ (HS4.out.below (below_new w4 _)) (iat_lit w4 [-1, (n : Int) + 1]) (by omega) (by omega) (by simp) (by simp) hl).mono ?_
  rintro e w5 ⟨i, hi, rfl, hS5, hK5⟩
  have hv : -1 ≤ ([-1, (n : Int) + 1] : List Int).getD i 0 ∧ ([-1, (n : Int) + 1] : List Int).getD i 0 ≤ 182 := by
   have hi' : i = 0 ∨ i = 1 := by simp at hi; omega
   rcases hi' with rfl | rfl <;> simp <;> omega
  generalize ([-1, (n : Int) + 1] : List Int).getD i 0 = vA at *
  have N5 := below_new w4 (.cells ([-1, (n : Int) + 1].map (Value.int .i64)).toArray 2)
  have O5 := (OP4.out.below N5).keep (fun q e hq => hK5.block q hq (.inr (by have := LP.out q e; omega)))
  have K5 := (K4.out.trans (KeptIn.of_below N5)).trans hK5
  have HF := Hid.mk' (show DrW b k l w (.returned (.tuple #[.int .i64 vA, .int .i64 N, .slice pv p.length cv])) w5 from ⟨vA, N, p, _, k3 + 1 + 1, rfl, O5, fun q e => Nat.le_trans s2 (LP.out q e), BP.out, by omega, by omega, by omega, by omega, by omega, by omega, hS5, K5⟩)
  clear hS5 hK5 N5 O5 K5 HS4 K4 OP4
  go_wp2
  refine bodyPost_ret (v := .tuple #[.int .i64 vA, .int .i64 N, .slice pv p.length cv]) (by simp [results, Tryz.results74, go_sem, *]) rfl ?_
  exact HF.out
 by_cases c1 : x = 1
 ·subst c1
  have wr4 : IntKind.i64.wrap ((n : Int) - A + 1) = (n : Int) - A + 1 := by rw [IntKind.wrap_i64]; omega
  go_wp2_with fail
  refine (l1Pick_any b (k3 + 1) w4.heap.size 2 l [-1, (n : Int) - A + 1] _ (HS4.out.below (below_new w4 _)) (iat_lit w4 [-1, (n : Int) - A + 1]) (by omega) (by omega) (by simp) (by simp) hl).mono ?_
  rintro e w5 ⟨i, hi, rfl, hS5, hK5⟩
  have hv : -1 ≤ ([-1, (n : Int) - A + 1] : List Int).getD i 0 ∧ ([-1, (n : Int) - A + 1] : List Int).getD i 0 ≤ 183 := by
   have hi' : i = 0 ∨ i = 1 := by simp at hi; omega
   rcases hi' with rfl | rfl <;> simp <;> omega
  generalize ([-1, (n : Int) - A + 1] : List Int).getD i 0 = vN at *
  have N5 := below_new w4 (.cells ([-1, (n : Int) - A + 1].map (Value.int .i64)).toArray 2)
  have O5 := (OP4.out.below N5).keep (fun q e hq => hK5.block q hq (.inr (by have := LP.out q e; omega)))
  have K5 := (K4.out.trans (KeptIn.of_below N5)).trans hK5
  have HF := Hid.mk' (show DrW b k l w (.returned (.tuple #[.int .i64 A, .int .i64 vN, .slice pv p.length cv])) w5 from ⟨A, vN, p, _, k3 + 1 + 1, rfl, O5, fun q e => Nat.le_trans s2 (LP.out q e), BP.out, by omega, by omega, by omega, by omega, by omega, by omega, hS5, K5⟩)
  clear hS5 hK5 N5 O5 K5 HS4 K4 OP4
  go_wp2
  refine bodyPost_ret (v := .tuple #[.int .i64 A, .int .i64 vN, .slice pv p.length cv]) (by simp [results, Tryz.results74, go_sem, *]) rfl ?_
  exact HF.out
 by_cases c2 : x = 2
 ·subst c2
  go_wp2_with fail
  refine (l1Pick_any b (k3 + 1) w4.heap.size 2 l [240, 241] _ (HS4.out.below (below_new w4 _)) (iat_lit w4 [240, 241]) (by omega) (by omega) (by decide) (by decide) hl).mono ?_
  rintro e w5 ⟨i, hi, rfl, hS5, hK5⟩
  obtain ⟨R, hR, hRl⟩ : ∃ R : Nat, ([240, 241] : List Int).getD i 0 = ((List.replicate R (0 : Int)).length : Int) ∧ R ≤ 241 := by
   have hi' : i = 0 ∨ i = 1 := by simp at hi; omega
   rcases hi' with rfl | rfl
   ·exact ⟨240, rfl, by decide⟩
   ·exact ⟨241, rfl, by decide⟩
  rw [hR]
  have rl : (List.replicate R (0 : Int)).length ≤ 241 := by rw [List.length_replicate]; exact hRl
  have rb := repl_byt R
  have rz : ∀ j, bv (List.replicate R (0 : Int)) j = .int .u8 0 := fun j => by unfold bv; rw [List.getD_eq_getElem?_getD, List.getElem?_replicate]; split <;> rfl
  generalize List.replicate R (0 : Int) = RR at *
  have hmk := run_make_row' (P := Tryz.prog) 22 5 (.int .u8 0) 1 Tryz.underlying22 Tryz.info5 rfl .i64 .i64 RR.length (by omega) (by omega)
  have N5 := below_new w4 (.cells ([240, 241].map (Value.int .i64)).toArray 2)
  have N6 := below_new w5 (.cells (madeCells #[.int .u8 0] RR.length) 5)
  have K6 := ((K4.out.trans (KeptIn.of_below N5)).trans hK5).trans (KeptIn.of_below N6)
  have U6 : OB (w5.alloc (.cells (madeCells #[.int .u8 0] RR.length) 5)) (.slice (some ⟨w5.heap.size, 0, none⟩) RR.length RR.length) RR := ob_of_row rfl ((World.rowIs_made w5 (.int .u8 0) RR.length 5).congr (fun j _ => (rz j).symm))
  have s5 := ((K4.out.trans (KeptIn.of_below N5)).trans hK5).size
  have HF := Hid.mk' (show DrW b k l w (.returned (.tuple #[.int .i64 A, .int .i64 N, .slice (some ⟨w5.heap.size, 0, none⟩) RR.length RR.length])) (w5.alloc (.cells (madeCells #[.int .u8 0] RR.length) 5)) from ⟨A, N, RR, _, k3 + 1 + 1, rfl, U6, fun q e => by
   have e1 : w5.heap.size = q := by simpa [Value.ownBlock] using e
   omega, rb, by omega, by omega, by omega, by omega, rl, by omega, hS5.below N6, K6⟩)
  clear hS5 hK5 N5 N6 K6 U6 s5 HS4 K4 OP4
  go_wp2
  refine bodyPost_ret (v := .tuple #[.int .i64 A, .int .i64 N, .slice (some ⟨w5.heap.size, 0, none⟩) RR.length RR.length]) (by simp [results, Tryz.results74, go_sem, *]) rfl ?_
  exact HF.out
 have n0 : (x == 0) = false := by simp [c0]
 have n1 : (x == 1) = false := by simp [c1]
 have n2 : (x == 2) = false := by simp [c2]
 have HF := Hid.mk' (show DrW b k l w (.returned (.tuple #[.int .i64 A, .int .i64 N, .slice pv p.length cv])) w4 from ⟨A, N, p, _, k3 + 1, rfl, OP4.out, fun q e => Nat.le_trans s2 (LP.out q e), BP.out, by omega, by omega, by omega, by omega, by omega, by omega, HS4.out, K4.out⟩)
 clear HS4 K4 OP4
 go_wp2
 refine bodyPost_ret (v := .tuple #[.int .i64 A, .int .i64 N, .slice pv p.length cv]) (by simp [results, Tryz.results74, go_sem, *]) rfl ?_
 exact HF.out
def DrE (w : World) (e : Ending) (w' : World) : Prop :=
 ∃ (m : ME) (a t u c : Option Addr) (ca ct cu cc : Nat) (A N : Int) (p : List Int) (pe : Option Addr) (d : Nat), e = .returned (.tuple #[.agg #[.slice a m.dt.length ca, .int .i64 m.st, .slice t m.tk.length ct, .slice u m.hd.length cu, .slice c m.cs.length cc], .int .i64 A, .int .i64 N, .slice pe p.length d]) ∧ DM w.heap.size m a t u c ca ct cu cc w' ∧ DG m ∧ (∀ z : World, w'.heap.size ≤ z.heap.size → (∀ q, w.heap.size ≤ q → q < w'.heap.size → z.heap[q]? = w'.heap[q]?) → BAt z pe p) ∧ Byt p ∧ -1 ≤ A ∧ A ≤ 182 ∧ -1 ≤ N ∧ N ≤ 183 ∧ p.length ≤ 241 ∧ Below w.heap.size w w'
theorem l12Draw_dm (b k : Nat) (l : List Int) (w : World) (h : Src b l k w) (hk : k ≤ 9000) (hl : (l.length : Int) ≤ 1048576) :
  Calls Tryz.prog 73 #[.pointer (some ⟨b, 0, none⟩)] w fun e w' => DrM b k 13 l w e w' := by
 refine (l12Draw_any b k l w h (by omega) hl).mono ?_
 rintro e w2 ⟨d, s, k1, vd, vh, t, c, ct, cc, rfl, hd, by_, hs1, hs2, hk1, hN, hS2, hK2⟩
 obtain ⟨p1, q1, rfl⟩ := own_form hN.dt
 obtain ⟨p2_, q2_, rfl⟩ := own_form hN.hd
 exact ⟨⟨d, (s : Int), (allX [] [] d).1, (allX [] [] d).2, cksN d s (d.length / s + 1)⟩, p1, t, p2_, c, q1, ct, q2_, cc, k1, by simp [cksN_len], (hN.box (g := w2.heap.size) (Nat.le_refl _) (s : Int)).dm (Nat.le_refl _) (fun _ _ _ _ => rfl), (dg_new hd by_ hs1 (s : Int) (by omega) (by omega)).1, by omega, hS2, hK2⟩
theorem drawEM_any (a : Option Addr) (c : Nat) (l : List Int) (w : World) (ha : BAt w a l) (hu : ∀ i, i < l.length → 0 ≤ l.getD i 0 ∧ l.getD i 0 ≤ 255) (hl : (l.length : Int) ≤ 1048576) :
  Calls Tryz.prog 35 #[.slice a l.length c] w fun e w' => DrE w e w' := by
 have N0 := below_new w (.cells #[.slice none 0 0, .int .i64 0, .slice none 0 0, .slice none 0 0, .slice none 0 0] 27)
 have K := Hid.mk' (l1Source_any a c l _ (ha.below N0) hu)
 have B0 := Hid.mk' N0
 have R0 := Hid.mk' (RowA.new w 27 #[.slice none 0 0, .int .i64 0, .slice none 0 0, .slice none 0 0, .slice none 0 0])
 clear ha hu N0
 generalize hW : w.alloc (.cells #[.slice none 0 0, .int .i64 0, .slice none 0 0, .slice none 0 0, .slice none 0 0] 27) = W at *
 go_enter Tryz.func35, Tryz.ntmps35
 go_wp2_with fail
 clear hW
 refine K.out.mono ?_
 rintro e w1 ⟨rfl, hS, hb⟩
 have sW : w.heap.size < W.heap.size := R0.out.lt
 have R1 := Hid.mk' (R0.out.below hb)
 have B1 := Hid.mk' (B0.out.trans (hb.mono B0.out.size))
 have HS := Hid.mk' hS
 have hlt1 := hS.lt
 clear K hS hb B0 R0
 go_wp2_with fail
 refine (l12Draw_dm W.heap.size 0 l w1 HS.out (by omega) hl).mono ?_
 rintro e w2 ⟨m, pa, pt, pu, pc, qa, qt, qu, qc, k2, rfl, hDM, hDG, hk2, hS2, hK2⟩
 have N2 := below_new w2 (.cells #[.slice pa m.dt.length qa, .int .i64 m.st, .slice pt m.tk.length qt, .slice pu m.hd.length qu, .slice pc m.cs.length qc] 27)
 have sW2 := hK2.size
 have R2 : Hid (RowA (w2.alloc (.cells #[.slice pa m.dt.length qa, .int .i64 m.st, .slice pt m.tk.length qt, .slice pu m.hd.length qu, .slice pc m.cs.length qc] 27)) w.heap.size 27 #[.slice none 0 0, .int .i64 0, .slice none 0 0, .slice none 0 0, .slice none 0 0]) := Hid.mk' (RowA.below ((hK2.block _ (by omega) (.inl sW)).trans R1.out) N2)
 have M2 := Hid.mk' (RowA.new w2 27 #[.slice pa m.dt.length qa, .int .i64 m.st, .slice pt m.tk.length qt, .slice pu m.hd.length qu, .slice pc m.cs.length qc])
 have D2 := Hid.mk' (hDM.below N2)
 have S2 := Hid.mk' (hS2.below N2)
 have B2 := Hid.mk' ((hK2.up (Nat.le_of_lt sW) B1.out).trans (N2.mono (Nat.le_trans B1.out.size sW2)))
 have G2 := Hid.mk' hDG
 have ml := hDG.dl
 clear hDM hDG hS2 hK2 N2 HS R1 B1
 go_wp2_with (first | ((with_reducible refine wpList_store_row ?_ 27 (.tmp 7) (.tmp 9) ?_ w2.heap.size #[.slice pa m.dt.length qa, .int .i64 m.st, .slice pt m.tk.length qt, .slice pu m.hd.length qu, .slice pc m.cs.length qc] ?_ ?_ 27 _ (Deep.blk_alloc_new w2 _) ?_ ?_ ?_ ?_); rfl; rfl; rfl; rfl; kernel_rfl; rfl; kernel_rfl; rw [alloc_setRow]) | fail)
 generalize hV : w2.alloc (.cells #[.slice pa m.dt.length qa, .int .i64 m.st, .slice pt m.tk.length qt, .slice pu m.hd.length qu, .slice pc m.cs.length qc] 27) = V at *
 clear hV
 have sV : w2.heap.size < V.heap.size := M2.out.lt
 have bW2 : W.heap.size < w2.heap.size := by omega
 refine (l1Chance_any W.heap.size k2 l 8 V S2.out (by omega) (by decide) (by decide) hl).mono ?_
 rintro e w3 ⟨ch, rfl, hS3, hK3⟩
 have s3 := hK3.size
 have M3 : Hid (RowA w3 w2.heap.size 27 #[.slice pa m.dt.length qa, .int .i64 m.st, .slice pt m.tk.length qt, .slice pu m.hd.length qu, .slice pc m.cs.length qc]) := Hid.mk' ((hK3.block _ sV (.inr (by omega))).trans M2.out)
 have R3 : Hid (RowA w3 w.heap.size 27 #[.slice none 0 0, .int .i64 0, .slice none 0 0, .slice none 0 0, .slice none 0 0]) := Hid.mk' ((hK3.block _ (by omega) (.inl sW)).trans R2.out)
 have D3 := Hid.mk' (D2.out.kept hK3 hlt1)
 have S3 := Hid.mk' hS3
 have B3 := Hid.mk' (hK3.up (Nat.le_of_lt sW) B2.out)
 clear hS3 hK3 S2 B2 D2 M2 R2
 cases ch with
 | false =>
  have y0 := M3.out.cell 0 _ rfl
  go_wp2_with fail
  refine (l13With_any W.heap.size (k2 + 1) m.dt.length l _ S3.out (by omega) ml hl).mono ?_
  rintro e w4 ⟨A, N, p, v, k4, rfl, oP, loP, bp, a0, a1, n0, n1, pl, hk4, hS4, hK4⟩
  obtain ⟨pe, pd, rfl, hbp⟩ := oP.len
  have M4 : Hid (RowA w4 w2.heap.size 27 #[.slice pa m.dt.length qa, .int .i64 m.st, .slice pt m.tk.length qt, .slice pu m.hd.length qu, .slice pc m.cs.length qc]) := Hid.mk' ((hK4.block _ M3.out.lt (.inr (by omega))).trans M3.out)
  have R4 : Hid (RowA w4 w.heap.size 27 #[.slice none 0 0, .int .i64 0, .slice none 0 0, .slice none 0 0, .slice none 0 0]) := Hid.mk' ((hK4.block _ R3.out.lt (.inl sW)).trans R3.out)
  have D4 := Hid.mk' (D3.out.kept hK4 (by omega))
  have B4 := Hid.mk' (hK4.up (Nat.le_of_lt sW) B3.out)
  have P4 := Hid.mk' hbp
  have LP := Hid.mk' loP
  have OP4 := Hid.mk' oP
  have BP := Hid.mk' bp
  have sw3 := R3.out.lt
  clear hS4 hK4 S3 B3 D3 M3 R3 y0 oP loP hbp bp
  have HR := Hid.mk' (R4.out.put #[.slice pa m.dt.length qa, .int .i64 m.st, .slice pt m.tk.length qt, .slice pu m.hd.length qu, .slice pc m.cs.length qc])
  have DF := Hid.mk' ((D4.out.keep (w' := w4.setRow w.heap.size #[.slice pa m.dt.length qa, .int .i64 m.st, .slice pt m.tk.length qt, .slice pu m.hd.length qu, .slice pc m.cs.length qc]) (by rw [setRow_size]; exact Nat.le_refl _) (fun q h1 h2 => setRow_other _ _ _ _ (by omega))).mono (by omega : w.heap.size ≤ w1.heap.size))
  have BF := Hid.mk' (RowA.putBelow B4.out (Nat.le_refl w.heap.size) #[.slice pa m.dt.length qa, .int .i64 m.st, .slice pt m.tk.length qt, .slice pu m.hd.length qu, .slice pc m.cs.length qc])
  have PF : Hid (∀ z : World, (w4.setRow w.heap.size #[.slice pa m.dt.length qa, .int .i64 m.st, .slice pt m.tk.length qt, .slice pu m.hd.length qu, .slice pc m.cs.length qc]).heap.size ≤ z.heap.size → (∀ q, w.heap.size ≤ q → q < (w4.setRow w.heap.size #[.slice pa m.dt.length qa, .int .i64 m.st, .slice pt m.tk.length qt, .slice pu m.hd.length qu, .slice pc m.cs.length qc]).heap.size → z.heap[q]? = (w4.setRow w.heap.size #[.slice pa m.dt.length qa, .int .i64 m.st, .slice pt m.tk.length qt, .slice pu m.hd.length qu, .slice pc m.cs.length qc]).heap[q]?) → BAt z pe p) := Hid.mk' (fun z hz hzk => by
   obtain ⟨_, _, e5, h5⟩ := (OP4.out.keep (w' := z) (fun q e hq => (hzk q (by have := LP.out q e; omega) (by rw [setRow_size]; exact hq)).trans (setRow_other _ _ _ _ (by have := LP.out q e; omega)))).len
   injection e5 with e5 _ _
   rw [e5]; exact h5)
  go_wp2_with (first | ((with_reducible refine wpList_load_row ?_ 27 (.tmp 7) ?_ w2.heap.size ?_ 27 #[.slice pa m.dt.length qa, .int .i64 m.st, .slice pt m.tk.length qt, .slice pu m.hd.length qu, .slice pc m.cs.length qc] (0, 0) _ ?_ Tryz.underlying27 ?_ ?_ ?_); rfl; rfl; rfl; exact M4.out; rfl; kernel_rfl) | ((with_reducible refine wpList_store_row ?_ 27 (.tmp 2) (.tmp 28) ?_ w.heap.size #[.slice pa m.dt.length qa, .int .i64 m.st, .slice pt m.tk.length qt, .slice pu m.hd.length qu, .slice pc m.cs.length qc] ?_ ?_ 27 #[.slice none 0 0, .int .i64 0, .slice none 0 0, .slice none 0 0, .slice none 0 0] ?_ ?_ ?_ ?_ ?_); rfl; rfl; rfl; rfl; exact R4.out; kernel_rfl; rfl; kernel_rfl) | fail)
  refine bodyPost_ret (v := .tuple #[.agg #[.slice pa m.dt.length qa, .int .i64 m.st, .slice pt m.tk.length qt, .slice pu m.hd.length qu, .slice pc m.cs.length qc], .int .i64 A, .int .i64 N, .slice pe p.length pd]) ?_ ?_ ?_
  ·have v0 := HR.out.cell 0 _ rfl
   have v1 := HR.out.cell 1 _ rfl
   have v2 := HR.out.cell 2 _ rfl
   have v3 := HR.out.cell 3 _ rfl
   have v4 := HR.out.cell 4 _ rfl
   simp [results, Tryz.results35, go_sem, v0, v1, v2, v3, v4]
  ·rfl
  exact ⟨m, pa, pt, pu, pc, qa, qt, qu, qc, A, N, p, pe, pd, rfl, DF.out, G2.out, PF.out, BP.out, a0, a1, n0, n1, pl, BF.out⟩
 | true =>
  go_wp2_with fail
  refine (l12Bent_any W.heap.size (k2 + 1) l w3 S3.out (by omega) hl).mono ?_
  rintro e w5 ⟨m5, pa5, pt5, pu5, pc5, qa5, qt5, qu5, qc5, k5, rfl, hDM, hDG, hk5, hS5, hK5⟩
  have M5 : Hid (RowA w5 w2.heap.size 27 #[.slice pa m.dt.length qa, .int .i64 m.st, .slice pt m.tk.length qt, .slice pu m.hd.length qu, .slice pc m.cs.length qc]) := Hid.mk' ((hK5.block _ M3.out.lt (.inr (by omega))).trans M3.out)
  have R5 : Hid (RowA w5 w.heap.size 27 #[.slice none 0 0, .int .i64 0, .slice none 0 0, .slice none 0 0, .slice none 0 0]) := Hid.mk' ((hK5.block _ R3.out.lt (.inl sW)).trans R3.out)
  have M6 := Hid.mk' (M5.out.put #[.slice pa5 m5.dt.length qa5, .int .i64 m5.st, .slice pt5 m5.tk.length qt5, .slice pu5 m5.hd.length qu5, .slice pc5 m5.cs.length qc5])
  have R6 := Hid.mk' (RowA.otherRow R5.out (show w.heap.size ≠ w2.heap.size by omega) #[.slice pa5 m5.dt.length qa5, .int .i64 m5.st, .slice pt5 m5.tk.length qt5, .slice pu5 m5.hd.length qu5, .slice pc5 m5.cs.length qc5])
  have g3 := M3.out.lt
  have K6 := RowA.keptRow w5 w2.heap.size #[.slice pa5 m5.dt.length qa5, .int .i64 m5.st, .slice pt5 m5.tk.length qt5, .slice pu5 m5.hd.length qu5, .slice pc5 m5.cs.length qc5]
  have D6 := Hid.mk' (hDM.keep (w' := w5.setRow w2.heap.size #[.slice pa5 m5.dt.length qa5, .int .i64 m5.st, .slice pt5 m5.tk.length qt5, .slice pu5 m5.hd.length qu5, .slice pc5 m5.cs.length qc5]) K6.size (fun q h1 h2 => setRow_other _ _ _ _ (by omega)))
  have S6 := Hid.mk' (hS5.kept K6 bW2)
  have B6 := Hid.mk' (RowA.putBelow (hK5.up (Nat.le_of_lt sW) B3.out) (show w.heap.size ≤ w2.heap.size by omega) #[.slice pa5 m5.dt.length qa5, .int .i64 m5.st, .slice pt5 m5.tk.length qt5, .slice pu5 m5.hd.length qu5, .slice pc5 m5.cs.length qc5])
  have G6 := Hid.mk' hDG
  have ml5 := hDG.dl
  have lo5 : W.heap.size < w3.heap.size := by omega
  clear hDM hDG hS5 hK5 S3 B3 D3 M3 R3 G2 ml K6
  have y0 := M6.out.cell 0 _ rfl
  go_wp2_with (first | ((with_reducible refine wpList_store_row ?_ 27 (.tmp 7) (.tmp 18) ?_ w2.heap.size #[.slice pa5 m5.dt.length qa5, .int .i64 m5.st, .slice pt5 m5.tk.length qt5, .slice pu5 m5.hd.length qu5, .slice pc5 m5.cs.length qc5] ?_ ?_ 27 #[.slice pa m.dt.length qa, .int .i64 m.st, .slice pt m.tk.length qt, .slice pu m.hd.length qu, .slice pc m.cs.length qc] ?_ ?_ ?_ ?_ ?_); rfl; rfl; rfl; rfl; exact M5.out; kernel_rfl; rfl; kernel_rfl) | fail)
  generalize hU : w5.setRow w2.heap.size #[.slice pa5 m5.dt.length qa5, .int .i64 m5.st, .slice pt5 m5.tk.length qt5, .slice pu5 m5.hd.length qu5, .slice pc5 m5.cs.length qc5] = w6 at *
  clear hU y0
  have y0 : True := trivial
  have M3 := M6
  have R3 := R6
  have D3 := D6
  have S3 := S6
  have B3 := B6
  refine (l13With_any W.heap.size k5 m5.dt.length l _ S3.out (by omega) ml5 hl).mono ?_
  rintro e w4 ⟨A, N, p, v, k4, rfl, oP, loP, bp, a0, a1, n0, n1, pl, hk4, hS4, hK4⟩
  obtain ⟨pe, pd, rfl, hbp⟩ := oP.len
  have M4 : Hid (RowA w4 w2.heap.size 27 #[.slice pa5 m5.dt.length qa5, .int .i64 m5.st, .slice pt5 m5.tk.length qt5, .slice pu5 m5.hd.length qu5, .slice pc5 m5.cs.length qc5]) := Hid.mk' ((hK4.block _ M3.out.lt (.inr (by omega))).trans M3.out)
  have R4 : Hid (RowA w4 w.heap.size 27 #[.slice none 0 0, .int .i64 0, .slice none 0 0, .slice none 0 0, .slice none 0 0]) := Hid.mk' ((hK4.block _ R3.out.lt (.inl sW)).trans R3.out)
  have D4 := Hid.mk' (D3.out.kept hK4 lo5)
  have B4 := Hid.mk' (hK4.up (Nat.le_of_lt sW) B3.out)
  have P4 := Hid.mk' hbp
  have LP := Hid.mk' loP
  have OP4 := Hid.mk' oP
  have BP := Hid.mk' bp
  have sw3 := R3.out.lt
  clear hS4 hK4 S3 B3 D3 M3 R3 y0 oP loP hbp bp
  have HR := Hid.mk' (R4.out.put #[.slice pa5 m5.dt.length qa5, .int .i64 m5.st, .slice pt5 m5.tk.length qt5, .slice pu5 m5.hd.length qu5, .slice pc5 m5.cs.length qc5])
  have DF := Hid.mk' ((D4.out.keep (w' := w4.setRow w.heap.size #[.slice pa5 m5.dt.length qa5, .int .i64 m5.st, .slice pt5 m5.tk.length qt5, .slice pu5 m5.hd.length qu5, .slice pc5 m5.cs.length qc5]) (by rw [setRow_size]; exact Nat.le_refl _) (fun q h1 h2 => setRow_other _ _ _ _ (by omega))).mono (by omega : w.heap.size ≤ w3.heap.size))
  have BF := Hid.mk' (RowA.putBelow B4.out (Nat.le_refl w.heap.size) #[.slice pa5 m5.dt.length qa5, .int .i64 m5.st, .slice pt5 m5.tk.length qt5, .slice pu5 m5.hd.length qu5, .slice pc5 m5.cs.length qc5])
  have PF : Hid (∀ z : World, (w4.setRow w.heap.size #[.slice pa5 m5.dt.length qa5, .int .i64 m5.st, .slice pt5 m5.tk.length qt5, .slice pu5 m5.hd.length qu5, .slice pc5 m5.cs.length qc5]).heap.size ≤ z.heap.size → (∀ q, w.heap.size ≤ q → q < (w4.setRow w.heap.size #[.slice pa5 m5.dt.length qa5, .int .i64 m5.st, .slice pt5 m5.tk.length qt5, .slice pu5 m5.hd.length qu5, .slice pc5 m5.cs.length qc5]).heap.size → z.heap[q]? = (w4.setRow w.heap.size #[.slice pa5 m5.dt.length qa5, .int .i64 m5.st, .slice pt5 m5.tk.length qt5, .slice pu5 m5.hd.length qu5, .slice pc5 m5.cs.length qc5]).heap[q]?) → BAt z pe p) := Hid.mk' (fun z hz hzk => by
   obtain ⟨_, _, e5, h5⟩ := (OP4.out.keep (w' := z) (fun q e hq => (hzk q (by have := LP.out q e; omega) (by rw [setRow_size]; exact hq)).trans (setRow_other _ _ _ _ (by have := LP.out q e; omega)))).len
   injection e5 with e5 _ _
   rw [e5]; exact h5)
  go_wp2_with (first | ((with_reducible refine wpList_load_row ?_ 27 (.tmp 7) ?_ w2.heap.size ?_ 27 #[.slice pa5 m5.dt.length qa5, .int .i64 m5.st, .slice pt5 m5.tk.length qt5, .slice pu5 m5.hd.length qu5, .slice pc5 m5.cs.length qc5] (0, 0) _ ?_ Tryz.underlying27 ?_ ?_ ?_); rfl; rfl; rfl; exact M4.out; rfl; kernel_rfl) | ((with_reducible refine wpList_store_row ?_ 27 (.tmp 2) (.tmp 28) ?_ w.heap.size #[.slice pa5 m5.dt.length qa5, .int .i64 m5.st, .slice pt5 m5.tk.length qt5, .slice pu5 m5.hd.length qu5, .slice pc5 m5.cs.length qc5] ?_ ?_ 27 #[.slice none 0 0, .int .i64 0, .slice none 0 0, .slice none 0 0, .slice none 0 0] ?_ ?_ ?_ ?_ ?_); rfl; rfl; rfl; rfl; exact R4.out; kernel_rfl; rfl; kernel_rfl) | fail)
  refine bodyPost_ret (v := .tuple #[.agg #[.slice pa5 m5.dt.length qa5, .int .i64 m5.st, .slice pt5 m5.tk.length qt5, .slice pu5 m5.hd.length qu5, .slice pc5 m5.cs.length qc5], .int .i64 A, .int .i64 N, .slice pe p.length pd]) ?_ ?_ ?_
  ·have v0 := HR.out.cell 0 _ rfl
   have v1 := HR.out.cell 1 _ rfl
   have v2 := HR.out.cell 2 _ rfl
   have v3 := HR.out.cell 3 _ rfl
   have v4 := HR.out.cell 4 _ rfl
   simp [results, Tryz.results35, go_sem, v0, v1, v2, v3, v4]
  ·rfl
  exact ⟨m5, pa5, pt5, pu5, pc5, qa5, qt5, qu5, qc5, A, N, p, pe, pd, rfl, DF.out, G6.out, PF.out, BP.out, a0, a1, n0, n1, pl, BF.out⟩


end Go.Proofs.YtieeojhdidjnaaaGreatDoor
