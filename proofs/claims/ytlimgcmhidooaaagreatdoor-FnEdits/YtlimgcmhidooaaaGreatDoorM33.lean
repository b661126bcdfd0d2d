/- Bytes that are drawn one by one. -/
import Derived.Test.YtlimgcmhidooaaaGreatDoorM31
import Derived.Deep.RegionHeld3
import Derived.Test.YtlimgcmhidooaaaGreatDoorM32
import Derived.Test.YtlimgcmhidooaaaGreatDoorM27
import Derived.Test.YtlimgcmhidooaaaGreatDoorM28
import Derived.Test.YtlimgcmhidooaaaGreatDoorM26
set_option maxHeartbeats 6400000
set_option maxRecDepth 100000
set_option linter.unusedVariables false
set_option linter.unusedSimpArgs false
namespace Go.Proofs.YtlimgcmhidooaaaGreatDoor
open Go.RowKit
theorem one_byteS (W : World) (x : Int) : ∀ j u, (bcs [x])[j]? = some u → (W.alloc (.cells #[.int .u8 x] 5)).cell? ((⟨W.heap.size, 0, none⟩ : Addr).add j) = some u := by
 intro j u hj
 have : j = 0 := by
  have := (List.getElem?_eq_some_iff.1 hj).1
  simp [bcs] at this
  omega
 subst this
 simp [bcs] at hj
 subst hj
 have r := World.rowIs_alloc W #[.int .u8 x] 5 (fun _ => .int .u8 x) (fun i hi => by
  have : i = 0 := by simp at hi; omega
  subst this; rfl)
 rw [Addr.add_mid]
 exact r.cell (by simp)
structure DG (m : ME) : Prop where
 ub : Byt m.dt
 hb : Byt m.hd
 tb : TBt m.tk
 cb : ∀ k, k < m.cs.length → Byt (ckK m.cs k).hd
 sz : (msz m : Int) ≤ 200000
 dl : m.dt.length ≤ 181
 s0 : 0 ≤ m.st
 s1 : m.st ≤ 61
theorem dg_new {d : List Int} {s : Nat} (hd : d.length ≤ 180) (hb : Byt d) (hs : 1 ≤ s) (st : Int) (h0 : 0 ≤ st) (h1 : st ≤ 61) : DG ⟨d, st, (allX [] [] d).1, (allX [] [] d).2, cksN d s (d.length / s + 1)⟩ ∧ msz ⟨d, st, (allX [] [] d).1, (allX [] [] d).2, cksN d s (d.length / s + 1)⟩ ≤ 100000 := by
 have hz : msz ⟨d, st, (allX [] [] d).1, (allX [] [] d).2, cksN d s (d.length / s + 1)⟩ ≤ 100000 := mem_small d s (by omega)
 refine ⟨⟨hb, allX_byt _ _ _ (fun x hx => hb.mem x hx) Byt.nil, TkB.tbt (allX_tkb _ _ _ TkB.nil), fun k hk => ?_, ?_, Nat.le_succ_of_le hd, h0, h1⟩, hz⟩
 ·dsimp only at hk ⊢
  rw [cksN_len] at hk
  rw [cksN_at d s _ _ hk]
  exact allX_byt _ _ _ (fun x hx => hb.mem x (List.mem_of_mem_take hx)) Byt.nil
 ·omega
theorem dg_held {d : List Int} {s : Nat} (hd : d.length ≤ 180) (hb : Byt d) (hs : 1 ≤ s) (st : Int) (h0 : 0 ≤ st) (h1 : st ≤ 61) : DG ⟨d, st, (allX [] [] d).1, (allX [] [] d).2 ++ [120], cksN d s (d.length / s + 1)⟩ := by
 obtain ⟨h, hz⟩ := dg_new (s := s) hd hb hs st h0 h1
 refine ⟨h.ub, h.hb.snoc 120 (by decide), h.tb, h.cb, ?_, h.dl, h.s0, h.s1⟩
 unfold msz at hz ⊢
 simp only [List.length_append, List.length_singleton]
 dsimp only at hz
 omega
theorem dg_data {d : List Int} {s : Nat} (hd : d.length ≤ 180) (hb : Byt d) (hs : 1 ≤ s) (st : Int) (h0 : 0 ≤ st) (h1 : st ≤ 61) : DG ⟨d ++ [120], st, (allX [] [] d).1, (allX [] [] d).2, cksN d s (d.length / s + 1)⟩ := by
 obtain ⟨h, hz⟩ := dg_new (s := s) hd hb hs st h0 h1
 refine ⟨h.ub.snoc 120 (by decide), h.hb, h.tb, h.cb, ?_, by simp; omega, h.s0, h.s1⟩
 unfold msz at hz ⊢
 simp only [List.length_append, List.length_singleton]
 dsimp only at hz
 omega
theorem dg_tail {m : ME} (h : DG m) : DG ⟨m.dt, m.st, m.tk, m.hd, m.cs.tail⟩ := by
 refine ⟨h.ub, h.hb, h.tb, fun k hk => ?_, ?_, h.dl, h.s0, h.s1⟩
 ·rw [List.length_tail] at hk
  rw [ckK_tail]
  exact h.cb (k + 1) (by omega)
 ·have hz := h.sz
  unfold msz at hz ⊢
  have h1 : m.cs.tail.length ≤ m.cs.length := by simp
  have h2 : csz m.cs.tail ≤ csz m.cs := by
   cases m.cs with
   | nil => exact Nat.le_refl _
   | cons x r => simp [csz]
  dsimp only
  omega
def DrM (b k n : Nat) (l : List Int) (w : World) (e : Ending) (w' : World) : Prop :=
 ∃ (m : ME) (a t u c : Option Addr) (ca ct cu cc k' : Nat), e = .returned (.agg #[.slice a m.dt.length ca, .int .i64 m.st, .slice t m.tk.length ct, .slice u m.hd.length cu, .slice c m.cs.length cc]) ∧ DM w.heap.size m a t u c ca ct cu cc w' ∧ DG m ∧ k' ≤ k + n ∧ Src b l k' w' ∧ KeptIn b (b + 1) w w'
theorem l12Bent_any (b k : Nat) (l : List Int) (w : World) (h : Src b l k w) (hk : k ≤ 9000) (hl : (l.length : Int) ≤ 1048576) :
  Calls Tryz.prog 41 #[.pointer (some ⟨b, 0, none⟩)] w fun e w' => DrM b k 13 l w e w' := by
 have hbw := h.lt
 have N0 := below_new w (.cells #[.slice none 0 0, .int .i64 0, .slice none 0 0, .slice none 0 0, .slice none 0 0] 27)
 have HS := Hid.mk' (h.below N0)
 have K0 : Hid (KeptIn b (b + 1) w (w.alloc (.cells #[.slice none 0 0, .int .i64 0, .slice none 0 0, .slice none 0 0, .slice none 0 0] 27))) := Hid.mk' (KeptIn.of_below N0)
 have R0 := Hid.mk' (RowA.new w 27 #[.slice none 0 0, .int .i64 0, .slice none 0 0, .slice none 0 0, .slice none 0 0])
 have z0 : Hid ((w.alloc (.cells #[.slice none 0 0, .int .i64 0, .slice none 0 0, .slice none 0 0, .slice none 0 0] 27)).heap.size = w.heap.size + 1) := Hid.mk' (by simp)
 clear h N0
 generalize hW : w.alloc (.cells #[.slice none 0 0, .int .i64 0, .slice none 0 0, .slice none 0 0, .slice none 0 0] 27) = W at *
 go_enter Tryz.func41, Tryz.ntmps41
 go_wp2_with fail
 clear hW
 refine (l12Draw_any b k l W HS.out (by omega) hl).mono ?_
 rintro e w2 ⟨d, s, k1, vd, vh, t, c, ct, cc, rfl, hd, by_, hs1, hs2, hk1, hN, hS2, hK2⟩
 obtain ⟨p1, q1, rfl⟩ := own_form hN.dt
 obtain ⟨p2_, q2_, rfl⟩ := own_form hN.hd
 have BY := Hid.mk' by_
 have N2 := below_new w2 (.cells #[.slice p1 d.length q1, .int .i64 (s : Int), .slice t (allX [] [] d).1.length ct, .slice p2_ (allX [] [] d).2.length q2_, .slice c (d.length / s + 1) cc] 27)
 have sW : w.heap.size < W.heap.size := R0.out.lt
 have bw : b < W.heap.size := by omega
 have sW2 := hK2.size
 have R2 : Hid (RowA (w2.alloc (.cells #[.slice p1 d.length q1, .int .i64 (s : Int), .slice t (allX [] [] d).1.length ct, .slice p2_ (allX [] [] d).2.length q2_, .slice c (d.length / s + 1) cc] 27)) w.heap.size 27 #[.slice none 0 0, .int .i64 0, .slice none 0 0, .slice none 0 0, .slice none 0 0]) := Hid.mk' (RowA.below ((hK2.block _ sW (.inr (by omega))).trans R0.out) N2)
 have M2 := Hid.mk' (RowA.new w2 27 #[.slice p1 d.length q1, .int .i64 (s : Int), .slice t (allX [] [] d).1.length ct, .slice p2_ (allX [] [] d).2.length q2_, .slice c (d.length / s + 1) cc])
 have NS := Hid.mk' (hN.below N2)
 have S2 := Hid.mk' (hS2.below N2)
 have K2 := Hid.mk' ((K0.out.trans hK2).trans (KeptIn.of_below N2))
 clear hN hS2 hK2 N2 HS K0 R0 by_
 go_wp2_with (first | ((with_reducible refine wpList_store_row ?_ 27 (.tmp 3) (.tmp 5) ?_ w2.heap.size #[.slice p1 d.length q1, .int .i64 (s : Int), .slice t (allX [] [] d).1.length ct, .slice p2_ (allX [] [] d).2.length q2_, .slice c (d.length / s + 1) cc] ?_ ?_ 27 _ (Deep.blk_alloc_new w2 _) ?_ ?_ ?_ ?_); rfl; rfl; rfl; rfl; kernel_rfl; rfl; kernel_rfl; rw [alloc_setRow]) | fail)
 generalize hV : w2.alloc (.cells #[.slice p1 d.length q1, .int .i64 (s : Int), .slice t (allX [] [] d).1.length ct, .slice p2_ (allX [] [] d).2.length q2_, .slice c (d.length / s + 1) cc] 27) = V at *
 clear hV
 have bV : b < w2.heap.size := by omega
 refine (l1Next_any b k1 l 12 V S2.out (by omega) (by decide) (by decide) hl).mono ?_
 rintro e w3 ⟨x, rfl, x0, x1, hS3, hK3⟩
 have gV : w2.heap.size < V.heap.size := M2.out.lt
 have sV3 := hK3.size
 have M : Hid (RowA w3 w2.heap.size 27 #[.slice p1 d.length q1, .int .i64 (s : Int), .slice t (allX [] [] d).1.length ct, .slice p2_ (allX [] [] d).2.length q2_, .slice c (d.length / s + 1) cc]) := Hid.mk' ((hK3.block _ gV (.inr (by omega))).trans M2.out)
 have R : Hid (RowA w3 w.heap.size 27 #[.slice none 0 0, .int .i64 0, .slice none 0 0, .slice none 0 0, .slice none 0 0]) := Hid.mk' ((hK3.block _ (by omega) (.inr (by omega))).trans R2.out)
 have NS := Hid.mk' (NS.out.kept hK3 (by omega))
 have S3 := Hid.mk' hS3
 have K3 := Hid.mk' (K2.out.trans hK3)
 have g3 : Hid (w2.heap.size < w3.heap.size) := Hid.mk' M.out.lt
 have hW3 : W.heap.size ≤ w3.heap.size := by have := g3.out; omega
 have gH := (allX_good d [] [] (.inl rfl)).len
 clear hS3 hK3 S2 K2 M2 R2 sV3 gV
 obtain ⟨b9, rfl⟩ := NS.out.cf
 have y0 := M.out.cell 0 _ rfl
 have y1 := M.out.cell 1 _ rfl
 have y2 := M.out.cell 2 _ rfl
 have y3 := M.out.cell 3 _ rfl
 have y4 := M.out.cell 4 _ rfl
 have f0 := M.out.frozen 0
 have f1 := M.out.frozen 1
 have f3 := M.out.frozen 3
 have f4 := M.out.frozen 4
 by_cases c0 : x = 0
 ·subst c0
  go_wp2_with (first | (at_builtin; refine wpList_append_at _ rfl (.tmp 11) (.tmp 12) 22 rfl W.heap.size 5 (.int .u8 0) 1 1 Tryz.underlying22 Tryz.info5 rfl (by decide) _ (allX [] [] d).2.length (bcs (allX [] [] d).2) rfl (own_keep NS.out.hd (below_new w3 _)) _ 1 _ (bcs [120]) rfl rfl (.inr ⟨_, rfl, one_byteS w3 120⟩) (bcs_one _) (by unfold maxLen; omega) (by omega) (by simp; omega) ?_; intro v' w5 ho hgr hat; (rw [← bcs_append, show (allX [] [] d).2.length + 1 = ((allX [] [] d).2 ++ [(120 : Int)]).length by simp] at ho); obtain ⟨u, cu, rfl, hDB⟩ := (NS.out.below (below_new w3 (.cells #[.int .u8 120] 5))).held (g := w2.heap.size) (Nat.le_refl _) (Nat.lt_of_lt_of_le g3.out (below_new w3 (.cells #[.int .u8 120] 5)).size) hgr hat ho (s : Int); have M5 : RowA w5 w2.heap.size 27 #[.slice p1 d.length q1, .int .i64 (s : Int), .slice t (allX [] [] d).1.length ct, .slice p2_ (allX [] [] d).2.length q2_, .slice (some ⟨b9, 0, none⟩) (d.length / s + 1) cc] := (hgr.block _ (Nat.lt_of_lt_of_le g3.out (below_new w3 (.cells #[.int .u8 120] 5)).size) (fun e => absurd (NS.out.hl _ e.symm) (Nat.lt_irrefl _))).trans ((below_new w3 (.cells #[.int .u8 120] 5)).block _ g3.out |>.trans M.out); have z5 : Hid (∀ q, q < w3.heap.size → (Value.slice p2_ (allX [] [] d).2.length q2_).ownBlock ≠ some q → w5.heap[q]? = w3.heap[q]?) := Hid.mk' (fun q h1 h2 => (hgr.block q (Nat.lt_of_lt_of_le h1 (below_new w3 (.cells #[.int .u8 120] 5)).size) (fun e => h2 e.symm)).trans ((below_new w3 (.cells #[.int .u8 120] 5)).block q h1)); have KG : Hid (KeptIn W.heap.size w3.heap.size w3 w5) := Hid.mk' (by have n1 := below_new w3 (.cells #[.int .u8 120] 5); exact ⟨hgr.os.trans n1.os, hgr.tape.trans n1.tape, hgr.output.trans n1.output, Nat.le_trans n1.size hgr.size, fun q h1 h2 => z5.out q h1 (fun e => by have := (NS.out.hd.lt q e); omega)⟩); have K6 : KeptIn w2.heap.size (w2.heap.size + 1) w5 (w5.setCell ⟨w2.heap.size, 3, none⟩ (.slice u ((allX [] [] d).2.length + 1) cu)) := (KeptIn.refl _ _ _).setCell (p := ⟨w2.heap.size, 3, none⟩) (Nat.le_refl _) (Nat.lt_succ_self _) _; have MY : Hid (RowA (w5.setCell ⟨w2.heap.size, 3, none⟩ (.slice u ((allX [] [] d).2.length + 1) cu)) w2.heap.size 27 #[.slice p1 d.length q1, .int .i64 (s : Int), .slice t (allX [] [] d).1.length ct, .slice u ((allX [] [] d).2.length + 1) cu, .slice (some ⟨b9, 0, none⟩) (d.length / s + 1) cc]) := Hid.mk' (M5.set 3 _); have gl : w.heap.size < W.heap.size := sW; have gl3 : w2.heap.size < w3.heap.size := g3.out; have RY : Hid (RowA (w5.setCell ⟨w2.heap.size, 3, none⟩ (.slice u ((allX [] [] d).2.length + 1) cu)) w.heap.size 27 #[.slice none 0 0, .int .i64 0, .slice none 0 0, .slice none 0 0, .slice none 0 0]) := Hid.mk' ((K6.block _ (Nat.lt_of_lt_of_le R.out.lt KG.out.size) (.inl (by omega))).trans ((KG.out.block _ R.out.lt (.inl (by omega))).trans R.out)); have DY := Hid.mk' (hDB.dm (w' := w5.setCell ⟨w2.heap.size, 3, none⟩ (.slice u ((allX [] [] d).2.length + 1) cu)) K6.size (fun q _ h2 h3 => K6.block q h2 (by omega))); have SY := Hid.mk' ((S3.out.kept KG.out (by omega)).kept K6 (by omega)); have KY : Hid (KeptIn b (b + 1) w (w5.setCell ⟨w2.heap.size, 3, none⟩ (.slice u ((allX [] [] d).2.length + 1) cu))) := Hid.mk' ⟨K6.os.trans (KG.out.os.trans K3.out.os), K6.tape.trans (KG.out.tape.trans K3.out.tape), K6.output.trans (KG.out.output.trans K3.out.output), Nat.le_trans K3.out.size (Nat.le_trans KG.out.size K6.size), fun q h1 h2 => (K6.block q (Nat.lt_of_lt_of_le (Nat.lt_of_lt_of_le h1 K3.out.size) KG.out.size) (.inl (by omega))).trans ((KG.out.block q (Nat.lt_of_lt_of_le h1 K3.out.size) (.inl (by omega))).trans (K3.out.block q h1 h2))⟩; have f9 := M5.frozen 3; have y9 := M5.cell 3 _ rfl; clear ho hgr hat hDB M5 z5 y0 y1 y2 y3 y4 f0 f1 f3 f4 K6 KG gl gl3) | ((with_reducible refine wpList_load_row ?_ 27 (.tmp 3) ?_ w2.heap.size ?_ 27 #[.slice p1 d.length q1, .int .i64 (s : Int), .slice t (allX [] [] d).1.length ct, .slice u ((allX [] [] d).2.length + 1) cu, .slice (some ⟨b9, 0, none⟩) (d.length / s + 1) cc] (0, 0) _ ?_ Tryz.underlying27 ?_ ?_ ?_); rfl; rfl; rfl; exact MY.out; rfl; kernel_rfl) | ((with_reducible refine wpList_store_row ?_ 27 (.tmp 2) (.tmp 34) ?_ w.heap.size #[.slice p1 d.length q1, .int .i64 (s : Int), .slice t (allX [] [] d).1.length ct, .slice u ((allX [] [] d).2.length + 1) cu, .slice (some ⟨b9, 0, none⟩) (d.length / s + 1) cc] ?_ ?_ 27 #[.slice none 0 0, .int .i64 0, .slice none 0 0, .slice none 0 0, .slice none 0 0] ?_ ?_ ?_ ?_ ?_); rfl; rfl; rfl; rfl; exact RY.out; kernel_rfl; rfl; kernel_rfl) | fail)
  have HR := Hid.mk' (RY.out.put #[.slice p1 d.length q1, .int .i64 (s : Int), .slice t (allX [] [] d).1.length ct, .slice u ((allX [] [] d).2.length + 1) cu, .slice (some ⟨b9, 0, none⟩) (d.length / s + 1) cc])
  have DF := Hid.mk' ((DY.out.keep (w' := (w5.setCell ⟨w2.heap.size, 3, none⟩ (.slice u ((allX [] [] d).2.length + 1) cu)).setRow w.heap.size #[.slice p1 d.length q1, .int .i64 (s : Int), .slice t (allX [] [] d).1.length ct, .slice u ((allX [] [] d).2.length + 1) cu, .slice (some ⟨b9, 0, none⟩) (d.length / s + 1) cc]) (by rw [setRow_size]; exact Nat.le_refl _) (fun q h1 h2 => setRow_other _ _ _ _ (by omega))).mono (Nat.le_of_lt sW))
  have SF := Hid.mk' (SY.out.kept (RowA.keptRow (w5.setCell ⟨w2.heap.size, 3, none⟩ (.slice u ((allX [] [] d).2.length + 1) cu)) w.heap.size #[.slice p1 d.length q1, .int .i64 (s : Int), .slice t (allX [] [] d).1.length ct, .slice u ((allX [] [] d).2.length + 1) cu, .slice (some ⟨b9, 0, none⟩) (d.length / s + 1) cc]) hbw)
  have KF : Hid (KeptIn b (b + 1) w ((w5.setCell ⟨w2.heap.size, 3, none⟩ (.slice u ((allX [] [] d).2.length + 1) cu)).setRow w.heap.size #[.slice p1 d.length q1, .int .i64 (s : Int), .slice t (allX [] [] d).1.length ct, .slice u ((allX [] [] d).2.length + 1) cu, .slice (some ⟨b9, 0, none⟩) (d.length / s + 1) cc])) := Hid.mk' ⟨KY.out.os, KY.out.tape, KY.out.output, by rw [setRow_size]; exact KY.out.size, fun q h1 h2 => (setRow_other _ _ _ _ (by omega)).trans (KY.out.block q h1 h2)⟩
  refine bodyPost_ret (v := .agg #[.slice p1 d.length q1, .int .i64 (s : Int), .slice t (allX [] [] d).1.length ct, .slice u ((allX [] [] d).2.length + 1) cu, .slice (some ⟨b9, 0, none⟩) (d.length / s + 1) cc]) ?_ ?_ ?_
  ·exact results_cell1 Tryz.results41 _ _ _ ⟨w.heap.size, 0, none⟩ _ rfl (HR.out.load _ Tryz.underlying27 rfl (by kernel_rfl))
  ·rfl
  exact ⟨⟨d, (s : Int), (allX [] [] d).1, (allX [] [] d).2 ++ [120], cksN d s (d.length / s + 1)⟩, p1, t, u, some ⟨b9, 0, none⟩, q1, ct, cu, cc, k1 + 1, by simp [cksN_len], DF.out, dg_held hd BY.out hs1 (s : Int) (by omega) (by omega), by omega, SF.out, KF.out⟩
 by_cases c1 : x = 1
 ·subst c1
  have hpl : (1 : Int) ≤ ((d.length / s + 1 : Nat) : Int) := by exact_mod_cast Nat.succ_le_succ (Nat.zero_le _)
  by_cases hcc : cc = 1
  ·subst hcc
   have hDB := (NS.out.box (g := w2.heap.size) (Nat.le_refl _) (s : Int)).tail
   rw [if_pos rfl] at hDB
   have K6 : KeptIn w2.heap.size (w2.heap.size + 1) w3 (w3.setCell ⟨w2.heap.size, 4, none⟩ (.slice (some ⟨b9, 0, none⟩) (d.length / s) 0)) := (KeptIn.refl _ _ _).setCell (p := ⟨w2.heap.size, 4, none⟩) (Nat.le_refl _) (Nat.lt_succ_self _) _
   have MY : Hid (RowA (w3.setCell ⟨w2.heap.size, 4, none⟩ (.slice (some ⟨b9, 0, none⟩) (d.length / s) 0)) w2.heap.size 27 #[.slice p1 d.length q1, .int .i64 (s : Int), .slice t (allX [] [] d).1.length ct, .slice p2_ (allX [] [] d).2.length q2_, .slice (some ⟨b9, 0, none⟩) (d.length / s) 0]) := Hid.mk' (M.out.set 4 _)
   have RY : Hid (RowA (w3.setCell ⟨w2.heap.size, 4, none⟩ (.slice (some ⟨b9, 0, none⟩) (d.length / s) 0)) w.heap.size 27 #[.slice none 0 0, .int .i64 0, .slice none 0 0, .slice none 0 0, .slice none 0 0]) := Hid.mk' ((K6.block _ R.out.lt (.inl (by omega))).trans R.out)
   have DY := Hid.mk' (hDB.dm (w' := w3.setCell ⟨w2.heap.size, 4, none⟩ (.slice (some ⟨b9, 0, none⟩) (d.length / s) 0)) K6.size (fun q _ h2 h3 => K6.block q h2 (by omega)))
   have SY := Hid.mk' (S3.out.kept K6 (by omega))
   have KY : Hid (KeptIn b (b + 1) w (w3.setCell ⟨w2.heap.size, 4, none⟩ (.slice (some ⟨b9, 0, none⟩) (d.length / s) 0))) := Hid.mk' ⟨K6.os.trans K3.out.os, K6.tape.trans K3.out.tape, K6.output.trans K3.out.output, Nat.le_trans K3.out.size K6.size, fun q h1 h2 => (K6.block q (Nat.lt_of_lt_of_le h1 K3.out.size) (.inl (by omega))).trans (K3.out.block q h1 h2)⟩
   clear hDB K6
   have HR := Hid.mk' (RY.out.put #[.slice p1 d.length q1, .int .i64 (s : Int), .slice t (allX [] [] d).1.length ct, .slice p2_ (allX [] [] d).2.length q2_, .slice (some ⟨b9, 0, none⟩) (d.length / s) 0])
   have DF := Hid.mk' ((DY.out.keep (w' := (w3.setCell ⟨w2.heap.size, 4, none⟩ (.slice (some ⟨b9, 0, none⟩) (d.length / s) 0)).setRow w.heap.size #[.slice p1 d.length q1, .int .i64 (s : Int), .slice t (allX [] [] d).1.length ct, .slice p2_ (allX [] [] d).2.length q2_, .slice (some ⟨b9, 0, none⟩) (d.length / s) 0]) (by rw [setRow_size]; exact Nat.le_refl _) (fun q h1 h2 => setRow_other _ _ _ _ (by omega))).mono (Nat.le_of_lt sW))
   have SF := Hid.mk' (SY.out.kept (RowA.keptRow (w3.setCell ⟨w2.heap.size, 4, none⟩ (.slice (some ⟨b9, 0, none⟩) (d.length / s) 0)) w.heap.size #[.slice p1 d.length q1, .int .i64 (s : Int), .slice t (allX [] [] d).1.length ct, .slice p2_ (allX [] [] d).2.length q2_, .slice (some ⟨b9, 0, none⟩) (d.length / s) 0]) hbw)
   have KF : Hid (KeptIn b (b + 1) w ((w3.setCell ⟨w2.heap.size, 4, none⟩ (.slice (some ⟨b9, 0, none⟩) (d.length / s) 0)).setRow w.heap.size #[.slice p1 d.length q1, .int .i64 (s : Int), .slice t (allX [] [] d).1.length ct, .slice p2_ (allX [] [] d).2.length q2_, .slice (some ⟨b9, 0, none⟩) (d.length / s) 0])) := Hid.mk' ⟨KY.out.os, KY.out.tape, KY.out.output, by rw [setRow_size]; exact KY.out.size, fun q h1 h2 => (setRow_other _ _ _ _ (by omega)).trans (KY.out.block q h1 h2)⟩
   go_wp2_with (first | ((with_reducible refine wpList_load_row ?_ 27 (.tmp 3) ?_ w2.heap.size ?_ 27 #[.slice p1 d.length q1, .int .i64 (s : Int), .slice t (allX [] [] d).1.length ct, .slice p2_ (allX [] [] d).2.length q2_, .slice (some ⟨b9, 0, none⟩) (d.length / s) 0] (0, 0) _ ?_ Tryz.underlying27 ?_ ?_ ?_); rfl; rfl; rfl; exact MY.out; rfl; kernel_rfl) | ((with_reducible refine wpList_store_row ?_ 27 (.tmp 2) (.tmp 34) ?_ w.heap.size #[.slice p1 d.length q1, .int .i64 (s : Int), .slice t (allX [] [] d).1.length ct, .slice p2_ (allX [] [] d).2.length q2_, .slice (some ⟨b9, 0, none⟩) (d.length / s) 0] ?_ ?_ 27 #[.slice none 0 0, .int .i64 0, .slice none 0 0, .slice none 0 0, .slice none 0 0] ?_ ?_ ?_ ?_ ?_); rfl; rfl; rfl; rfl; exact RY.out; kernel_rfl; rfl; kernel_rfl) | fail)
   refine bodyPost_ret (v := .agg #[.slice p1 d.length q1, .int .i64 (s : Int), .slice t (allX [] [] d).1.length ct, .slice p2_ (allX [] [] d).2.length q2_, .slice (some ⟨b9, 0, none⟩) (d.length / s) 0]) ?_ ?_ ?_
   ·exact results_cell1 Tryz.results41 _ _ _ ⟨w.heap.size, 0, none⟩ _ rfl (HR.out.load _ Tryz.underlying27 rfl (by kernel_rfl))
   ·rfl
   exact ⟨⟨d, (s : Int), (allX [] [] d).1, (allX [] [] d).2, (cksN d s (d.length / s + 1)).tail⟩, p1, t, p2_, some ⟨b9, 0, none⟩, q1, ct, q2_, 0, k1 + 1, by simp [cksN_len], DF.out, dg_tail (dg_new hd BY.out hs1 (s : Int) (by omega) (by omega)).1, by omega, SF.out, KF.out⟩
  ·have hDB := (NS.out.box (g := w2.heap.size) (Nat.le_refl _) (s : Int)).tail
   rw [if_neg hcc] at hDB
   have K6 : KeptIn w2.heap.size (w2.heap.size + 1) w3 (w3.setCell ⟨w2.heap.size, 4, none⟩ (.slice (some ⟨b9, 3, none⟩) (d.length / s) (cc - 1))) := (KeptIn.refl _ _ _).setCell (p := ⟨w2.heap.size, 4, none⟩) (Nat.le_refl _) (Nat.lt_succ_self _) _
   have MY : Hid (RowA (w3.setCell ⟨w2.heap.size, 4, none⟩ (.slice (some ⟨b9, 3, none⟩) (d.length / s) (cc - 1))) w2.heap.size 27 #[.slice p1 d.length q1, .int .i64 (s : Int), .slice t (allX [] [] d).1.length ct, .slice p2_ (allX [] [] d).2.length q2_, .slice (some ⟨b9, 3, none⟩) (d.length / s) (cc - 1)]) := Hid.mk' (M.out.set 4 _)
   have RY : Hid (RowA (w3.setCell ⟨w2.heap.size, 4, none⟩ (.slice (some ⟨b9, 3, none⟩) (d.length / s) (cc - 1))) w.heap.size 27 #[.slice none 0 0, .int .i64 0, .slice none 0 0, .slice none 0 0, .slice none 0 0]) := Hid.mk' ((K6.block _ R.out.lt (.inl (by omega))).trans R.out)
   have DY := Hid.mk' (hDB.dm (w' := w3.setCell ⟨w2.heap.size, 4, none⟩ (.slice (some ⟨b9, 3, none⟩) (d.length / s) (cc - 1))) K6.size (fun q _ h2 h3 => K6.block q h2 (by omega)))
   have SY := Hid.mk' (S3.out.kept K6 (by omega))
   have KY : Hid (KeptIn b (b + 1) w (w3.setCell ⟨w2.heap.size, 4, none⟩ (.slice (some ⟨b9, 3, none⟩) (d.length / s) (cc - 1)))) := Hid.mk' ⟨K6.os.trans K3.out.os, K6.tape.trans K3.out.tape, K6.output.trans K3.out.output, Nat.le_trans K3.out.size K6.size, fun q h1 h2 => (K6.block q (Nat.lt_of_lt_of_le h1 K3.out.size) (.inl (by omega))).trans (K3.out.block q h1 h2)⟩
   clear hDB K6
   have HR := Hid.mk' (RY.out.put #[.slice p1 d.length q1, .int .i64 (s : Int), .slice t (allX [] [] d).1.length ct, .slice p2_ (allX [] [] d).2.length q2_, .slice (some ⟨b9, 3, none⟩) (d.length / s) (cc - 1)])
   have DF := Hid.mk' ((DY.out.keep (w' := (w3.setCell ⟨w2.heap.size, 4, none⟩ (.slice (some ⟨b9, 3, none⟩) (d.length / s) (cc - 1))).setRow w.heap.size #[.slice p1 d.length q1, .int .i64 (s : Int), .slice t (allX [] [] d).1.length ct, .slice p2_ (allX [] [] d).2.length q2_, .slice (some ⟨b9, 3, none⟩) (d.length / s) (cc - 1)]) (by rw [setRow_size]; exact Nat.le_refl _) (fun q h1 h2 => setRow_other _ _ _ _ (by omega))).mono (Nat.le_of_lt sW))
   have SF := Hid.mk' (SY.out.kept (RowA.keptRow (w3.setCell ⟨w2.heap.size, 4, none⟩ (.slice (some ⟨b9, 3, none⟩) (d.length / s) (cc - 1))) w.heap.size #[.slice p1 d.length q1, .int .i64 (s : Int), .slice t (allX [] [] d).1.length ct, .slice p2_ (allX [] [] d).2.length q2_, .slice (some ⟨b9, 3, none⟩) (d.length / s) (cc - 1)]) hbw)
   have KF : Hid (KeptIn b (b + 1) w ((w3.setCell ⟨w2.heap.size, 4, none⟩ (.slice (some ⟨b9, 3, none⟩) (d.length / s) (cc - 1))).setRow w.heap.size #[.slice p1 d.length q1, .int .i64 (s : Int), .slice t (allX [] [] d).1.length ct, .slice p2_ (allX [] [] d).2.length q2_, .slice (some ⟨b9, 3, none⟩) (d.length / s) (cc - 1)])) := Hid.mk' ⟨KY.out.os, KY.out.tape, KY.out.output, by rw [setRow_size]; exact KY.out.size, fun q h1 h2 => (setRow_other _ _ _ _ (by omega)).trans (KY.out.block q h1 h2)⟩
   go_wp2_with (first | ((with_reducible refine wpList_load_row ?_ 27 (.tmp 3) ?_ w2.heap.size ?_ 27 #[.slice p1 d.length q1, .int .i64 (s : Int), .slice t (allX [] [] d).1.length ct, .slice p2_ (allX [] [] d).2.length q2_, .slice (some ⟨b9, 3, none⟩) (d.length / s) (cc - 1)] (0, 0) _ ?_ Tryz.underlying27 ?_ ?_ ?_); rfl; rfl; rfl; exact MY.out; rfl; kernel_rfl) | ((with_reducible refine wpList_store_row ?_ 27 (.tmp 2) (.tmp 34) ?_ w.heap.size #[.slice p1 d.length q1, .int .i64 (s : Int), .slice t (allX [] [] d).1.length ct, .slice p2_ (allX [] [] d).2.length q2_, .slice (some ⟨b9, 3, none⟩) (d.length / s) (cc - 1)] ?_ ?_ 27 #[.slice none 0 0, .int .i64 0, .slice none 0 0, .slice none 0 0, .slice none 0 0] ?_ ?_ ?_ ?_ ?_); rfl; rfl; rfl; rfl; exact RY.out; kernel_rfl; rfl; kernel_rfl) | fail)
   refine bodyPost_ret (v := .agg #[.slice p1 d.length q1, .int .i64 (s : Int), .slice t (allX [] [] d).1.length ct, .slice p2_ (allX [] [] d).2.length q2_, .slice (some ⟨b9, 3, none⟩) (d.length / s) (cc - 1)]) ?_ ?_ ?_
   ·exact results_cell1 Tryz.results41 _ _ _ ⟨w.heap.size, 0, none⟩ _ rfl (HR.out.load _ Tryz.underlying27 rfl (by kernel_rfl))
   ·rfl
   exact ⟨⟨d, (s : Int), (allX [] [] d).1, (allX [] [] d).2, (cksN d s (d.length / s + 1)).tail⟩, p1, t, p2_, some ⟨b9, 3, none⟩, q1, ct, q2_, (cc - 1), k1 + 1, by simp [cksN_len], DF.out, dg_tail (dg_new hd BY.out hs1 (s : Int) (by omega) (by omega)).1, by omega, SF.out, KF.out⟩
 by_cases c2 : x = 2
 ·subst c2
  have KP := Hid.mk' (l1Pick_any b (k1 + 1) w3.heap.size 4 l [0, 1, 61, 7] _ (S3.out.below (below_new w3 _)) (iat_lit w3 [0, 1, 61, 7]) (by have := g3.out; omega) (by omega) (by decide) (by decide) hl)
  have hN3 := Hid.mk' (below_new w3 (.cells ([0, 1, 61, 7].map (Value.int .i64)).toArray 2))
  clear y0 y1 y2 y3 y4 f0 f1 f3 f4
  go_wp2_with fail
  refine KP.out.mono ?_
  rintro e w4 ⟨i, hi, rfl, hS4, hK4⟩
  obtain ⟨st, hst, st0, st1⟩ : ∃ st : Int, [(0 : Int), 1, 61, 7].getD i 0 = st ∧ 0 ≤ st ∧ st ≤ 61 := by
   have h4 : i < 4 := hi
   have : i = 0 ∨ i = 1 ∨ i = 2 ∨ i = 3 := by omega
   rcases this with rfl | rfl | rfl | rfl
   ·exact ⟨0, rfl, by decide, by decide⟩
   ·exact ⟨1, rfl, by decide, by decide⟩
   ·exact ⟨61, rfl, by decide, by decide⟩
   ·exact ⟨7, rfl, by decide, by decide⟩
  rw [hst]
  have n3 := hN3.out
  have M4 : Hid (RowA w4 w2.heap.size 27 #[.slice p1 d.length q1, .int .i64 (s : Int), .slice t (allX [] [] d).1.length ct, .slice p2_ (allX [] [] d).2.length q2_, .slice (some ⟨b9, 0, none⟩) (d.length / s + 1) cc]) := Hid.mk' ((hK4.block _ (Nat.lt_of_lt_of_le g3.out n3.size) (.inr (by omega))).trans ((n3.block _ g3.out).trans M.out))
  have R4 : Hid (RowA w4 w.heap.size 27 #[.slice none 0 0, .int .i64 0, .slice none 0 0, .slice none 0 0, .slice none 0 0]) := Hid.mk' ((hK4.block _ (Nat.lt_of_lt_of_le R.out.lt n3.size) (.inr (by omega))).trans ((n3.block _ R.out.lt).trans R.out))
  have hDB := ((NS.out.below n3).kept hK4 (by omega)).box (g := w2.heap.size) (Nat.le_refl _) st
  have K4 := (K3.out.trans (KeptIn.of_below n3)).trans hK4
  have K6 : KeptIn w2.heap.size (w2.heap.size + 1) w4 (w4.setCell ⟨w2.heap.size, 1, none⟩ (.int .i64 st)) := (KeptIn.refl _ _ _).setCell (p := ⟨w2.heap.size, 1, none⟩) (Nat.le_refl _) (Nat.lt_succ_self _) _
  have MY : Hid (RowA (w4.setCell ⟨w2.heap.size, 1, none⟩ (.int .i64 st)) w2.heap.size 27 #[.slice p1 d.length q1, .int .i64 st, .slice t (allX [] [] d).1.length ct, .slice p2_ (allX [] [] d).2.length q2_, .slice (some ⟨b9, 0, none⟩) (d.length / s + 1) cc]) := Hid.mk' (M4.out.set 1 _)
  have RY : Hid (RowA (w4.setCell ⟨w2.heap.size, 1, none⟩ (.int .i64 st)) w.heap.size 27 #[.slice none 0 0, .int .i64 0, .slice none 0 0, .slice none 0 0, .slice none 0 0]) := Hid.mk' ((K6.block _ R4.out.lt (.inl (by omega))).trans R4.out)
  have DY := Hid.mk' (hDB.dm (w' := w4.setCell ⟨w2.heap.size, 1, none⟩ (.int .i64 st)) K6.size (fun q _ h2 h3 => K6.block q h2 (by omega)))
  have SY := Hid.mk' (hS4.kept K6 (by omega))
  have KY : Hid (KeptIn b (b + 1) w (w4.setCell ⟨w2.heap.size, 1, none⟩ (.int .i64 st))) := Hid.mk' ⟨K6.os.trans K4.os, K6.tape.trans K4.tape, K6.output.trans K4.output, Nat.le_trans K4.size K6.size, fun q h1 h2 => (K6.block q (Nat.lt_of_lt_of_le h1 K4.size) (.inl (by omega))).trans (K4.block q h1 h2)⟩
  have y1 := M4.out.cell 1 _ rfl
  have f1 := M4.out.frozen 1
  clear hDB K6 K4 hS4 hK4 n3 hN3 KP
  have HR := Hid.mk' (RY.out.put #[.slice p1 d.length q1, .int .i64 st, .slice t (allX [] [] d).1.length ct, .slice p2_ (allX [] [] d).2.length q2_, .slice (some ⟨b9, 0, none⟩) (d.length / s + 1) cc])
  have DF := Hid.mk' ((DY.out.keep (w' := (w4.setCell ⟨w2.heap.size, 1, none⟩ (.int .i64 st)).setRow w.heap.size #[.slice p1 d.length q1, .int .i64 st, .slice t (allX [] [] d).1.length ct, .slice p2_ (allX [] [] d).2.length q2_, .slice (some ⟨b9, 0, none⟩) (d.length / s + 1) cc]) (by rw [setRow_size]; exact Nat.le_refl _) (fun q h1 h2 => setRow_other _ _ _ _ (by omega))).mono (Nat.le_of_lt sW))
  have SF := Hid.mk' (SY.out.kept (RowA.keptRow (w4.setCell ⟨w2.heap.size, 1, none⟩ (.int .i64 st)) w.heap.size #[.slice p1 d.length q1, .int .i64 st, .slice t (allX [] [] d).1.length ct, .slice p2_ (allX [] [] d).2.length q2_, .slice (some ⟨b9, 0, none⟩) (d.length / s + 1) cc]) hbw)
  have KF : Hid (KeptIn b (b + 1) w ((w4.setCell ⟨w2.heap.size, 1, none⟩ (.int .i64 st)).setRow w.heap.size #[.slice p1 d.length q1, .int .i64 st, .slice t (allX [] [] d).1.length ct, .slice p2_ (allX [] [] d).2.length q2_, .slice (some ⟨b9, 0, none⟩) (d.length / s + 1) cc])) := Hid.mk' ⟨KY.out.os, KY.out.tape, KY.out.output, by rw [setRow_size]; exact KY.out.size, fun q h1 h2 => (setRow_other _ _ _ _ (by omega)).trans (KY.out.block q h1 h2)⟩
  go_wp2_with (first | ((with_reducible refine wpList_load_row ?_ 27 (.tmp 3) ?_ w2.heap.size ?_ 27 #[.slice p1 d.length q1, .int .i64 st, .slice t (allX [] [] d).1.length ct, .slice p2_ (allX [] [] d).2.length q2_, .slice (some ⟨b9, 0, none⟩) (d.length / s + 1) cc] (0, 0) _ ?_ Tryz.underlying27 ?_ ?_ ?_); rfl; rfl; rfl; exact MY.out; rfl; kernel_rfl) | ((with_reducible refine wpList_store_row ?_ 27 (.tmp 2) (.tmp 34) ?_ w.heap.size #[.slice p1 d.length q1, .int .i64 st, .slice t (allX [] [] d).1.length ct, .slice p2_ (allX [] [] d).2.length q2_, .slice (some ⟨b9, 0, none⟩) (d.length / s + 1) cc] ?_ ?_ 27 #[.slice none 0 0, .int .i64 0, .slice none 0 0, .slice none 0 0, .slice none 0 0] ?_ ?_ ?_ ?_ ?_); rfl; rfl; rfl; rfl; exact RY.out; kernel_rfl; rfl; kernel_rfl) | fail)
  refine bodyPost_ret (v := .agg #[.slice p1 d.length q1, .int .i64 st, .slice t (allX [] [] d).1.length ct, .slice p2_ (allX [] [] d).2.length q2_, .slice (some ⟨b9, 0, none⟩) (d.length / s + 1) cc]) ?_ ?_ ?_
  ·exact results_cell1 Tryz.results41 _ _ _ ⟨w.heap.size, 0, none⟩ _ rfl (HR.out.load _ Tryz.underlying27 rfl (by kernel_rfl))
  ·rfl
  exact ⟨⟨d, st, (allX [] [] d).1, (allX [] [] d).2, cksN d s (d.length / s + 1)⟩, p1, t, p2_, some ⟨b9, 0, none⟩, q1, ct, q2_, cc, k1 + 1 + 1, by simp [cksN_len], DF.out, (dg_new hd BY.out hs1 st st0 st1).1, by omega, SF.out, KF.out⟩
 by_cases c3 : x = 3
 ·subst c3
  go_wp2_with (first | (at_builtin; refine wpList_append_at _ rfl (.tmp 30) (.tmp 31) 22 rfl W.heap.size 5 (.int .u8 0) 1 1 Tryz.underlying22 Tryz.info5 rfl (by decide) _ d.length (bcs d) rfl (own_keep NS.out.dt (below_new w3 _)) _ 1 _ (bcs [120]) rfl rfl (.inr ⟨_, rfl, one_byteS w3 120⟩) (bcs_one _) (by unfold maxLen; omega) (by omega) (by simp; omega) ?_; intro v' w5 ho hgr hat; (rw [← bcs_append, show d.length + 1 = (d ++ [(120 : Int)]).length by simp] at ho); obtain ⟨u, cu, rfl, hDB⟩ := (NS.out.below (below_new w3 (.cells #[.int .u8 120] 5))).data (g := w2.heap.size) (Nat.le_refl _) (Nat.lt_of_lt_of_le g3.out (below_new w3 (.cells #[.int .u8 120] 5)).size) hgr hat ho (s : Int); have M5 : RowA w5 w2.heap.size 27 #[.slice p1 d.length q1, .int .i64 (s : Int), .slice t (allX [] [] d).1.length ct, .slice p2_ (allX [] [] d).2.length q2_, .slice (some ⟨b9, 0, none⟩) (d.length / s + 1) cc] := (hgr.block _ (Nat.lt_of_lt_of_le g3.out (below_new w3 (.cells #[.int .u8 120] 5)).size) (fun e => absurd (NS.out.dl _ e.symm) (Nat.lt_irrefl _))).trans ((below_new w3 (.cells #[.int .u8 120] 5)).block _ g3.out |>.trans M.out); have z5 : Hid (∀ q, q < w3.heap.size → (Value.slice p1 d.length q1).ownBlock ≠ some q → w5.heap[q]? = w3.heap[q]?) := Hid.mk' (fun q h1 h2 => (hgr.block q (Nat.lt_of_lt_of_le h1 (below_new w3 (.cells #[.int .u8 120] 5)).size) (fun e => h2 e.symm)).trans ((below_new w3 (.cells #[.int .u8 120] 5)).block q h1)); have KG : Hid (KeptIn W.heap.size w3.heap.size w3 w5) := Hid.mk' (by have n1 := below_new w3 (.cells #[.int .u8 120] 5); exact ⟨hgr.os.trans n1.os, hgr.tape.trans n1.tape, hgr.output.trans n1.output, Nat.le_trans n1.size hgr.size, fun q h1 h2 => z5.out q h1 (fun e => by have := (NS.out.dt.lt q e); omega)⟩); have K6 : KeptIn w2.heap.size (w2.heap.size + 1) w5 (w5.setCell ⟨w2.heap.size, 0, none⟩ (.slice u (d.length + 1) cu)) := (KeptIn.refl _ _ _).setCell (p := ⟨w2.heap.size, 0, none⟩) (Nat.le_refl _) (Nat.lt_succ_self _) _; have MY : Hid (RowA (w5.setCell ⟨w2.heap.size, 0, none⟩ (.slice u (d.length + 1) cu)) w2.heap.size 27 #[.slice u (d.length + 1) cu, .int .i64 (s : Int), .slice t (allX [] [] d).1.length ct, .slice p2_ (allX [] [] d).2.length q2_, .slice (some ⟨b9, 0, none⟩) (d.length / s + 1) cc]) := Hid.mk' (M5.set 0 _); have gl : w.heap.size < W.heap.size := sW; have gl3 : w2.heap.size < w3.heap.size := g3.out; have RY : Hid (RowA (w5.setCell ⟨w2.heap.size, 0, none⟩ (.slice u (d.length + 1) cu)) w.heap.size 27 #[.slice none 0 0, .int .i64 0, .slice none 0 0, .slice none 0 0, .slice none 0 0]) := Hid.mk' ((K6.block _ (Nat.lt_of_lt_of_le R.out.lt KG.out.size) (.inl (by omega))).trans ((KG.out.block _ R.out.lt (.inl (by omega))).trans R.out)); have DY := Hid.mk' (hDB.dm (w' := w5.setCell ⟨w2.heap.size, 0, none⟩ (.slice u (d.length + 1) cu)) K6.size (fun q _ h2 h3 => K6.block q h2 (by omega))); have SY := Hid.mk' ((S3.out.kept KG.out (by omega)).kept K6 (by omega)); have KY : Hid (KeptIn b (b + 1) w (w5.setCell ⟨w2.heap.size, 0, none⟩ (.slice u (d.length + 1) cu))) := Hid.mk' ⟨K6.os.trans (KG.out.os.trans K3.out.os), K6.tape.trans (KG.out.tape.trans K3.out.tape), K6.output.trans (KG.out.output.trans K3.out.output), Nat.le_trans K3.out.size (Nat.le_trans KG.out.size K6.size), fun q h1 h2 => (K6.block q (Nat.lt_of_lt_of_le (Nat.lt_of_lt_of_le h1 K3.out.size) KG.out.size) (.inl (by omega))).trans ((KG.out.block q (Nat.lt_of_lt_of_le h1 K3.out.size) (.inl (by omega))).trans (K3.out.block q h1 h2))⟩; have f9 := M5.frozen 0; have y9 := M5.cell 0 _ rfl; clear ho hgr hat hDB M5 z5 y0 y1 y2 y3 y4 f0 f1 f3 f4 K6 KG gl gl3) | ((with_reducible refine wpList_load_row ?_ 27 (.tmp 3) ?_ w2.heap.size ?_ 27 #[.slice u (d.length + 1) cu, .int .i64 (s : Int), .slice t (allX [] [] d).1.length ct, .slice p2_ (allX [] [] d).2.length q2_, .slice (some ⟨b9, 0, none⟩) (d.length / s + 1) cc] (0, 0) _ ?_ Tryz.underlying27 ?_ ?_ ?_); rfl; rfl; rfl; exact MY.out; rfl; kernel_rfl) | ((with_reducible refine wpList_store_row ?_ 27 (.tmp 2) (.tmp 34) ?_ w.heap.size #[.slice u (d.length + 1) cu, .int .i64 (s : Int), .slice t (allX [] [] d).1.length ct, .slice p2_ (allX [] [] d).2.length q2_, .slice (some ⟨b9, 0, none⟩) (d.length / s + 1) cc] ?_ ?_ 27 #[.slice none 0 0, .int .i64 0, .slice none 0 0, .slice none 0 0, .slice none 0 0] ?_ ?_ ?_ ?_ ?_); rfl; rfl; rfl; rfl; exact RY.out; kernel_rfl; rfl; kernel_rfl) | fail)
  have HR := Hid.mk' (RY.out.put #[.slice u (d.length + 1) cu, .int .i64 (s : Int), .slice t (allX [] [] d).1.length ct, .slice p2_ (allX [] [] d).2.length q2_, .slice (some ⟨b9, 0, none⟩) (d.length / s + 1) cc])
  have DF := Hid.mk' ((DY.out.keep (w' := (w5.setCell ⟨w2.heap.size, 0, none⟩ (.slice u (d.length + 1) cu)).setRow w.heap.size #[.slice u (d.length + 1) cu, .int .i64 (s : Int), .slice t (allX [] [] d).1.length ct, .slice p2_ (allX [] [] d).2.length q2_, .slice (some ⟨b9, 0, none⟩) (d.length / s + 1) cc]) (by rw [setRow_size]; exact Nat.le_refl _) (fun q h1 h2 => setRow_other _ _ _ _ (by omega))).mono (Nat.le_of_lt sW))
  have SF := Hid.mk' (SY.out.kept (RowA.keptRow (w5.setCell ⟨w2.heap.size, 0, none⟩ (.slice u (d.length + 1) cu)) w.heap.size #[.slice u (d.length + 1) cu, .int .i64 (s : Int), .slice t (allX [] [] d).1.length ct, .slice p2_ (allX [] [] d).2.length q2_, .slice (some ⟨b9, 0, none⟩) (d.length / s + 1) cc]) hbw)
  have KF : Hid (KeptIn b (b + 1) w ((w5.setCell ⟨w2.heap.size, 0, none⟩ (.slice u (d.length + 1) cu)).setRow w.heap.size #[.slice u (d.length + 1) cu, .int .i64 (s : Int), .slice t (allX [] [] d).1.length ct, .slice p2_ (allX [] [] d).2.length q2_, .slice (some ⟨b9, 0, none⟩) (d.length / s + 1) cc])) := Hid.mk' ⟨KY.out.os, KY.out.tape, KY.out.output, by rw [setRow_size]; exact KY.out.size, fun q h1 h2 => (setRow_other _ _ _ _ (by omega)).trans (KY.out.block q h1 h2)⟩
  refine bodyPost_ret (v := .agg #[.slice u (d.length + 1) cu, .int .i64 (s : Int), .slice t (allX [] [] d).1.length ct, .slice p2_ (allX [] [] d).2.length q2_, .slice (some ⟨b9, 0, none⟩) (d.length / s + 1) cc]) ?_ ?_ ?_
  ·exact results_cell1 Tryz.results41 _ _ _ ⟨w.heap.size, 0, none⟩ _ rfl (HR.out.load _ Tryz.underlying27 rfl (by kernel_rfl))
  ·rfl
  exact ⟨⟨d ++ [120], (s : Int), (allX [] [] d).1, (allX [] [] d).2, cksN d s (d.length / s + 1)⟩, u, t, p2_, some ⟨b9, 0, none⟩, cu, ct, q2_, cc, k1 + 1, by simp [cksN_len], DF.out, dg_data hd BY.out hs1 (s : Int) (by omega) (by omega), by omega, SF.out, KF.out⟩
 have n0 : (x == 0) = false := by simp [c0]
 have n1 : (x == 1) = false := by simp [c1]
 have n2 : (x == 2) = false := by simp [c2]
 have n3 : (x == 3) = false := by simp [c3]
 have hr := (NS.out.box (g := w2.heap.size) (Nat.le_refl _) (s : Int)).dm (Nat.le_refl _) (fun _ _ _ _ => rfl)
 have DY := Hid.mk' hr
 have MY := M
 have RY := R
 have SY := S3
 have KY := K3
 clear hr
 have HR := Hid.mk' (RY.out.put #[.slice p1 d.length q1, .int .i64 (s : Int), .slice t (allX [] [] d).1.length ct, .slice p2_ (allX [] [] d).2.length q2_, .slice (some ⟨b9, 0, none⟩) (d.length / s + 1) cc])
 have DF := Hid.mk' ((DY.out.keep (w' := (w3).setRow w.heap.size #[.slice p1 d.length q1, .int .i64 (s : Int), .slice t (allX [] [] d).1.length ct, .slice p2_ (allX [] [] d).2.length q2_, .slice (some ⟨b9, 0, none⟩) (d.length / s + 1) cc]) (by rw [setRow_size]; exact Nat.le_refl _) (fun q h1 h2 => setRow_other _ _ _ _ (by omega))).mono (Nat.le_of_lt sW))
 have SF := Hid.mk' (SY.out.kept (RowA.keptRow (w3) w.heap.size #[.slice p1 d.length q1, .int .i64 (s : Int), .slice t (allX [] [] d).1.length ct, .slice p2_ (allX [] [] d).2.length q2_, .slice (some ⟨b9, 0, none⟩) (d.length / s + 1) cc]) hbw)
 have KF : Hid (KeptIn b (b + 1) w ((w3).setRow w.heap.size #[.slice p1 d.length q1, .int .i64 (s : Int), .slice t (allX [] [] d).1.length ct, .slice p2_ (allX [] [] d).2.length q2_, .slice (some ⟨b9, 0, none⟩) (d.length / s + 1) cc])) := Hid.mk' ⟨KY.out.os, KY.out.tape, KY.out.output, by rw [setRow_size]; exact KY.out.size, fun q h1 h2 => (setRow_other _ _ _ _ (by omega)).trans (KY.out.block q h1 h2)⟩
 go_wp2_with (first | ((with_reducible refine wpList_load_row ?_ 27 (.tmp 3) ?_ w2.heap.size ?_ 27 #[.slice p1 d.length q1, .int .i64 (s : Int), .slice t (allX [] [] d).1.length ct, .slice p2_ (allX [] [] d).2.length q2_, .slice (some ⟨b9, 0, none⟩) (d.length / s + 1) cc] (0, 0) _ ?_ Tryz.underlying27 ?_ ?_ ?_); rfl; rfl; rfl; exact MY.out; rfl; kernel_rfl) | ((with_reducible refine wpList_store_row ?_ 27 (.tmp 2) (.tmp 34) ?_ w.heap.size #[.slice p1 d.length q1, .int .i64 (s : Int), .slice t (allX [] [] d).1.length ct, .slice p2_ (allX [] [] d).2.length q2_, .slice (some ⟨b9, 0, none⟩) (d.length / s + 1) cc] ?_ ?_ 27 #[.slice none 0 0, .int .i64 0, .slice none 0 0, .slice none 0 0, .slice none 0 0] ?_ ?_ ?_ ?_ ?_); rfl; rfl; rfl; rfl; exact RY.out; kernel_rfl; rfl; kernel_rfl) | fail)
 refine bodyPost_ret (v := .agg #[.slice p1 d.length q1, .int .i64 (s : Int), .slice t (allX [] [] d).1.length ct, .slice p2_ (allX [] [] d).2.length q2_, .slice (some ⟨b9, 0, none⟩) (d.length / s + 1) cc]) ?_ ?_ ?_
 ·exact results_cell1 Tryz.results41 _ _ _ ⟨w.heap.size, 0, none⟩ _ rfl (HR.out.load _ Tryz.underlying27 rfl (by kernel_rfl))
 ·rfl
 exact ⟨⟨d, (s : Int), (allX [] [] d).1, (allX [] [] d).2, cksN d s (d.length / s + 1)⟩, p1, t, p2_, some ⟨b9, 0, none⟩, q1, ct, q2_, cc, k1 + 1, by simp [cksN_len], DF.out, (dg_new hd BY.out hs1 (s : Int) (by omega) (by omega)).1, by omega, SF.out, KF.out⟩
theorem KeptIn.up {b : Nat} {W w wr : World} (h : KeptIn b (b + 1) w wr) (hb : W.heap.size ≤ b) (hW : Below W.heap.size W w) : Below W.heap.size W wr :=
 h.below hb hW.size |> hW.trans
theorem cat_kept {w w' : World} {b o g : Nat} {l : List Int} (h : CAt w b o l) (hK : KeptIn g (g + 1) w w') (hg : b ≠ g) : CAt w' b o l :=
 ⟨Nat.lt_of_lt_of_le h.1 hK.size, fun k hk => (World.cell?_of_block (hK.block b h.1 (by omega))).trans (h.2 k hk)⟩
def ToP (m : ME) (w : World) (e : Ending) (w' : World) : Prop :=
 (¬ memF m = 0 ∧ e = .returned (.agg #[.int .i64 (memF m), .slice none 0 0, .slice none 0 0]) ∧ Below w.heap.size w w') ∨
 (memF m = 0 ∧ ∃ tv us rs bl bh, e = .returned (.agg #[.int .i64 0, tv, .slice none 0 0]) ∧ TP w.heap.size w' tv (toL m) us rs bl bh ∧ Below w.heap.size w w')
theorem implTO_any (tp : TypeId) (pv : Value) (m : ME) (a t u c : Option Addr) (ca ct cu cc : Nat) (w : World) (hE : Env w.heap.size tp pv w) (h1 : MAt w a t u c m) (hca : m.dt.length ≤ ca) (hub : Byt m.dt) (hhb : Byt m.hd) (htb : TBt m.tk) (hm : (msz m : Int) ≤ 1048576) :
  Calls Tryz.prog 27 #[.agg #[.slice a m.dt.length ca, .int .i64 m.st, .slice t m.tk.length ct, .slice u m.hd.length cu, .slice c m.cs.length cc]] w fun e w' => ToP m w e w' := by
 obtain ⟨B0, R1, R2⟩ := boxesT w (.slice a m.dt.length ca) (.int .i64 m.st) (.slice t m.tk.length ct) (.slice u m.hd.length cu) (.slice c m.cs.length cc)
 have KR := Hid.mk' (rightMemo_any tp pv m a t u c ca ct cu cc _ ((hE.keep B0).up B0.size (Nat.le_refl _)) (h1.below B0) hca hub hm)
 have HB := Hid.mk' B0
 have H2 := Hid.mk' R2
 obtain ⟨x0, x1, x2, x3, x4, x5⟩ := cells5 R1
 have HU := Hid.mk' hub
 have RT : Hid (∀ s : Nat, 1 ≤ s → sameR (memX m.dt s) m = true → m.tk = tkN m.dt s (m.dt.length / s + 1) ∧ m.hd = hdN m.dt s (m.dt.length / s + 1)) := Hid.mk' (fun s hs h => by
  obtain ⟨e1, e2⟩ := right_toks hub htb hhb h
  have e3 := takeM_all m.dt s hs
  refine ⟨e1.trans ?_, e2.trans ?_⟩
  ·show _ = (allX [] [] (m.dt.take ((m.dt.length / s + 1) * s))).1
   rw [e3]; rfl
  ·show _ = (allX [] [] (m.dt.take ((m.dt.length / s + 1) * s))).2
   rw [e3]; rfl)
 clear B0 R1 R2 h1 hub hm hE hhb htb
 generalize hW : (w.alloc (.cells #[.slice a m.dt.length ca, .int .i64 m.st, .slice t m.tk.length ct, .slice u m.hd.length cu, .slice c m.cs.length cc] 27)).alloc (.cells #[.int .i64 0, .slice none 0 0, .slice none 0 0] 41) = W at *
 go_enter Tryz.func27, Tryz.ntmps27
 go_wp2_with fail
 clear hW x0 x1 x2 x3 x4 x5
 refine KR.out.mono ?_
 rintro e w1 (⟨hf, rfl, hb1⟩ | ⟨hf, h240, s, hst, hs, hs2, hsame, gd, gc, tv, hvs, us, rs, bl, bh, rfl, hx, hb1⟩)
 ·obtain ⟨F, hF⟩ : ∃ F, memF m = F := ⟨_, rfl⟩
  rw [hF] at hf ⊢
  have HNZ : Hid (¬ F = 0) := Hid.mk' hf
  have HF := Hid.mk' hF
  have hne : (F != 0) = true := by simp [hf]
  have N1 := below_new w1 (.cells #[.slice none 0 0, .int .i64 0, .slice none 0 0, .slice none 0 0, .slice none 0 0] 27)
  have M1 := hb1.trans (N1.mono hb1.size)
  have HZ := Hid.mk' (rowB H2.out M1)
  have B1 := Hid.mk' (HB.out.trans (M1.mono HB.out.size))
  clear hF N1 M1 hb1
  obtain ⟨y0, y1, y2, y3⟩ := cells3 HZ.out
  have f0 := HZ.out.frozen 0
  have f1 := HZ.out.frozen 1
  have f2 := HZ.out.frozen 2
  go_wp2
  refine bodyPost_ret (v := .agg #[.int .i64 F, .slice none 0 0, .slice none 0 0]) (by simp [results, Tryz.results27, go_sem, *]) rfl ?_
  exact .inl ⟨by rw [HF.out]; exact HNZ.out, by rw [HF.out], B1.out.trans ((keptQ3 _ _ _ _ _).below (Nat.le_succ _) B1.out.size)⟩
 obtain ⟨et, eh⟩ := RT.out s hs hsame
 have EL : Hid (toL m = tkN m.dt s (m.dt.length / s + 1) ++ bytesT (hdN m.dt s (m.dt.length / s + 1))) := Hid.mk' (by unfold toL; rw [if_pos hf, et, eh])
 have HF := Hid.mk' hf
 have ug := Hid.mk' (show GoodH (hdN m.dt s (m.dt.length / s + 1)) from allX_good _ [] [] (.inl rfl))
 have ub := Hid.mk' (show Byt (hdN m.dt s (m.dt.length / s + 1)) from allX_byt _ [] [] (fun x hx => HU.out.mem x (List.mem_of_mem_take hx)) Byt.nil)
 have ul : (tkN m.dt s (m.dt.length / s + 1)).length ≤ 161 * 240 := by
  have := allX_len (m.dt.take ((m.dt.length / s + 1) * s)) [] [] (by simp)
  have l2 : (m.dt.take ((m.dt.length / s + 1) * s)).length ≤ m.dt.length := by rw [List.length_take]; omega
  have e : tkN m.dt s (m.dt.length / s + 1) = (allX [] [] (m.dt.take ((m.dt.length / s + 1) * s))).1 := rfl
  simp at this
  rw [e]
  simp
  omega
 have gl := ug.out.len
 obtain ⟨ta, tc, rfl, -⟩ := own_src hx.rx.tp.row
 obtain ⟨ha, hc, eh2, hbt⟩ := own_bat (hx.rx.own (m.dt.length / s + 1) (Nat.le_refl _))
 rw [eh2]
 have TP0 := hx.rx.tp
 clear et eh eh2 hx hsame RT
 generalize tkN m.dt s (m.dt.length / s + 1) = T at *
 generalize hdN m.dt s (m.dt.length / s + 1) = H at *
 generalize m.dt.length / s + 1 = J at *
 have N1 := below_new w1 (.cells #[.slice (some ⟨gd, 0, none⟩) m.dt.length m.dt.length, .int .i64 (s : Int), .slice ta T.length tc, .slice ha H.length hc, .slice (some ⟨gc, 0, none⟩) J J] 27)
 have M1 := hb1.trans (N1.mono hb1.size)
 have HZ := Hid.mk' (rowB H2.out M1)
 have B1 := Hid.mk' (HB.out.trans (M1.mono HB.out.size))
 have RX := row5 w1 27 (.slice (some ⟨gd, 0, none⟩) m.dt.length m.dt.length) (.int .i64 (s : Int)) (.slice ta T.length tc) (.slice ha H.length hc) (.slice (some ⟨gc, 0, none⟩) J J)
 have ZZ := Hid.mk' RX
 obtain ⟨x0, x1, x2, x3, x4, x5⟩ := cells5 RX
 have TP1 := Hid.mk' (TP0.below N1)
 have KN := Hid.mk' (finishLex_any ha hc H _ (hbt.below N1) ug.out ub.out)
 have S1 : Hid (W.heap.size ≤ w1.heap.size) := Hid.mk' hb1.size
 have LW : Hid (w.heap.size + 2 ≤ W.heap.size) := Hid.mk' (by have := H2.out.lt; omega)
 clear N1 M1 hb1 RX TP0 hbt ug ub hs hs2 hst h240 hf
 generalize hV : w1.alloc (.cells #[.slice (some ⟨gd, 0, none⟩) m.dt.length m.dt.length, .int .i64 (s : Int), .slice ta T.length tc, .slice ha H.length hc, .slice (some ⟨gc, 0, none⟩) J J] 27) = V at *
 go_wp2_with fail
 clear hV x0 x1 x2 x3 x4
 refine KN.out.mono ?_
 rintro e w2 ⟨hv2, tv2, us2, rs2, bl2, bh2, lo2, g2, rfl, hlo2, hx2, hb2⟩
 obtain ⟨ha2, hc2, rfl, _⟩ := own_src hx2.held
 obtain ⟨ta2, tc2, rfl, _⟩ := own_src hx2.row
 have N2 := below_new w2 (.cells #[.int .i64 0, .slice ta2 (bytesT H).length tc2, .slice ha2 0 hc2] 41)
 have M2 := hb2.trans (N2.mono hb2.size)
 obtain ⟨_, _, e2, src2⟩ := own_src (own_keep hx2.row N2)
 cases e2
 have SRC := Hid.mk' src2
 have hlen : Hid ((tcs (bytesT H) us2).length = (bytesT H).length * 5) := Hid.mk' (tcs_len _ _ hx2.ta.len)
 have hone : Hid (∀ u ∈ tcs (bytesT H) us2, u.oneCell' = true) := Hid.mk' (tcs_one _ _ hx2.ta.one)
 have B2 := Hid.mk' (B1.out.trans (M2.mono B1.out.size))
 have R2 := Hid.mk' (rowB HZ.out M2)
 obtain ⟨q0, q1, q2_, q3, q4, q5⟩ := cells5 (rowB ZZ.out M2)
 obtain ⟨s0, s1_, s2_, s3_⟩ := cells3 (row3 w2 41 (.int .i64 0) (.slice ta2 (bytesT H).length tc2) (.slice ha2 0 hc2))
 have TPX := Hid.mk' (TP1.out.below M2)
 have TV := Hid.mk' TP1.out
 have MM := Hid.mk' M2
 have TA2 := Hid.mk' ((hx2.ta.below N2).widen hlo2 N2.size)
 have hne : Hid (some (w.heap.size + 1) ≠ (Value.slice ta T.length tc).ownBlock) := Hid.mk' (fun e => by have := (TP1.out.row.lt _ e.symm).1; have := LW.out; omega)
 have hlo3 : Hid (∀ k, (Value.slice ta T.length tc).ownBlock = some k → w.heap.size ≤ k) := Hid.mk' (fun k e => by have := (TP1.out.row.lt _ e).1; have := LW.out; omega)
 have bl2' : (bytesT H).length ≤ 160 := by rw [bytesT_len]; omega
 have LWV : Hid (W.heap.size + 1 ≤ V.heap.size) := Hid.mk' (by have := S1.out; omega)
 have SZ : Hid (W.heap.size + 1 ≤ (w2.alloc (.cells #[.int .i64 0, .slice ta2 (bytesT H).length tc2, .slice ha2 0 hc2] 41)).heap.size) := Hid.mk' (by have := LWV.out; have := M2.size; omega)
 have LR := Hid.mk' R2.out.lt
 clear hx2 hb2 N2 M2 src2 KN x5 TP1 B1 ZZ HZ
 generalize hV2 : w2.alloc (.cells #[.int .i64 0, .slice ta2 (bytesT H).length tc2, .slice ha2 0 hc2] 41) = V2 at *
 go_wp2_with (first | (at_builtin; refine wpList_append_at _ rfl (.tmp 20) (.tmp 22) 24 rfl (W.heap.size + 1) 107 (.agg #[.int .i64 0, .int .i64 0, .string ⟨#[]⟩, .slice none 0 0, .bool false]) 5 64 Tryz.underlying24 Tryz.infoTok rfl (by decide) _ _ _ rfl TPX.out.row _ _ _ (tcs (bytesT H) us2) rfl hlen.out SRC.out hone.out (by unfold maxLen; omega) (by omega) SZ.out ?_; intro v' w3 ho hgr hat; obtain ⟨a', c', rfl, _⟩ := own_src ho; have R3 := R2.out.of_block (hgr.block (w.heap.size + 1) R2.out.lt hne.out); obtain ⟨y0, y1, y2, y3⟩ := cells3 R3; have f0 := R3.frozen 0; have f1 := R3.frozen 1; have f2 := R3.frozen 2; clear R3) | fail)
 have B3 := Hid.mk' (B2.out.grown hgr (by have := B2.out.size; omega) hlo3.out)
 have TP3 := Hid.mk' (TV.out.app LWV.out MM.out TA2.out ho hgr hat)
 clear ho hgr hat
 refine bodyPost_ret (v := .agg #[.int .i64 0, .slice a' (T.length + (bytesT H).length) c', .slice none 0 0]) (by simp [results, Tryz.results27, go_sem, *]) rfl ?_
 have K2 := keptQ3 w3 (w.heap.size + 1) (.int .i64 0) (.slice a' (T.length + (bytesT H).length) c') (.slice none 0 0)
 have TPF := (TP3.out.keep K2.size (fun k h1 h2 => K2.block k h2 (.inr (by have := LW.out; omega)))).down (show w.heap.size ≤ W.heap.size + 1 by have := LW.out; omega)
 rw [← EL.out] at TPF
 exact .inr ⟨HF.out, _, _, _, _, _, rfl, TPF, B3.out.trans (K2.below (Nat.le_succ _) B3.out.size)⟩

end Go.Proofs.YtlimgcmhidooaaaGreatDoor
