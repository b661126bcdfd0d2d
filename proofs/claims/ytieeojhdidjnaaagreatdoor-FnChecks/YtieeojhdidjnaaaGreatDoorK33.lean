/- Bytes that are drawn one by one. -/
import Derived.Test.YtieeojhdidjnaaaGreatDoorK30
import Derived.Deep.RegionHeld3
import Derived.Test.YtieeojhdidjnaaaGreatDoorK32
import Derived.Test.YtieeojhdidjnaaaGreatDoorK21
import Derived.Test.YtieeojhdidjnaaaGreatDoorK17
set_option linter.unusedVariables false
set_option linter.unusedSimpArgs false
namespace Go.Proofs.YtieeojhdidjnaaaGreatDoor
open Go.RowKit

theorem one_byteS (W : World) (x : Int) : ∀ j u, (bcs [x])[j]? = some u → (W.alloc (.cells #[.int .u8 x] 5)).cell? ((⟨W.heap.size, 0, none⟩ : Addr).add j) = some u := by
  intro j u hj
  have : j = 0 := by
    have := (List.getElem?_eq_some_iff.1 hj).1
    simp [bcs] at this
    omega
  subst this
  simp [bcs] at hj
  subst hj
  have r := World.rowIs_alloc W #[.int .u8 x] 5 (fun _ => .int .u8 x) (fun i hi => by
    have : i = 0 := by simp at hi; omega
    subst this; rfl)
  rw [Addr.add_mid]
  exact r.cell (by simp)

end Go.Proofs.YtieeojhdidjnaaaGreatDoor

namespace Go.Proofs.YtieeojhdidjnaaaGreatDoor
open Go.RowKit

structure DG (m : ME) : Prop where
  ub : Byt m.dt
  hb : Byt m.hd
  tb : TBt m.tk
  cb : ∀ k, k < m.cs.length → Byt (ckK m.cs k).hd
  sz : (msz m : Int) ≤ 200000
  dl : m.dt.length ≤ 181
  s0 : 0 ≤ m.st
  s1 : m.st ≤ 61

theorem dg_new {d : List Int} {s : Nat} (hd : d.length ≤ 180) (hb : Byt d) (hs : 1 ≤ s) (st : Int) (h0 : 0 ≤ st) (h1 : st ≤ 61) : DG ⟨d, st, (allX [] [] d).1, (allX [] [] d).2, cksN d s (d.length / s + 1)⟩ ∧ msz ⟨d, st, (allX [] [] d).1, (allX [] [] d).2, cksN d s (d.length / s + 1)⟩ ≤ 100000 := by
  have hz : msz ⟨d, st, (allX [] [] d).1, (allX [] [] d).2, cksN d s (d.length / s + 1)⟩ ≤ 100000 := mem_small d s (by omega)
  refine ⟨⟨hb, allX_byt _ _ _ (fun x hx => hb.mem x hx) Byt.nil, TkB.tbt (allX_tkb _ _ _ TkB.nil), fun k hk => ?_, ?_, Nat.le_succ_of_le hd, h0, h1⟩, hz⟩
  · dsimp only at hk ⊢
    rw [cksN_len] at hk
    rw [cksN_at d s _ _ hk]
    exact allX_byt _ _ _ (fun x hx => hb.mem x (List.mem_of_mem_take hx)) Byt.nil
  · omega

theorem dg_held {d : List Int} {s : Nat} (hd : d.length ≤ 180) (hb : Byt d) (hs : 1 ≤ s) (st : Int) (h0 : 0 ≤ st) (h1 : st ≤ 61) : DG ⟨d, st, (allX [] [] d).1, (allX [] [] d).2 ++ [120], cksN d s (d.length / s + 1)⟩ := by
  obtain ⟨h, hz⟩ := dg_new (s := s) hd hb hs st h0 h1
  refine ⟨h.ub, h.hb.snoc 120 (by decide), h.tb, h.cb, ?_, h.dl, h.s0, h.s1⟩
  unfold msz at hz ⊢
  simp only [List.length_append, List.length_singleton]
  dsimp only at hz
  omega

theorem dg_data {d : List Int} {s : Nat} (hd : d.length ≤ 180) (hb : Byt d) (hs : 1 ≤ s) (st : Int) (h0 : 0 ≤ st) (h1 : st ≤ 61) : DG ⟨d ++ [120], st, (allX [] [] d).1, (allX [] [] d).2, cksN d s (d.length / s + 1)⟩ := by
  obtain ⟨h, hz⟩ := dg_new (s := s) hd hb hs st h0 h1
  refine ⟨h.ub.snoc 120 (by decide), h.hb, h.tb, h.cb, ?_, by simp; omega, h.s0, h.s1⟩
  unfold msz at hz ⊢
  simp only [List.length_append, List.length_singleton]
  dsimp only at hz
  omega

theorem dg_tail {m : ME} (h : DG m) : DG ⟨m.dt, m.st, m.tk, m.hd, m.cs.tail⟩ := by
  refine ⟨h.ub, h.hb, h.tb, fun k hk => ?_, ?_, h.dl, h.s0, h.s1⟩
  · rw [List.length_tail] at hk
    rw [ckK_tail]
    exact h.cb (k + 1) (by omega)
  · have hz := h.sz
    unfold msz at hz ⊢
    have h1 : m.cs.tail.length ≤ m.cs.length := by simp
    have h2 : csz m.cs.tail ≤ csz m.cs := by
      cases m.cs with
      | nil => exact Nat.le_refl _
      | cons x r => simp [csz]
    dsimp only
    omega

def DrM (b k n : Nat) (l : List Int) (w : World) (e : Ending) (w' : World) : Prop :=
  ∃ (m : ME) (a t u c : Option Addr) (ca ct cu cc k' : Nat), e = .returned (.agg #[.slice a m.dt.length ca, .int .i64 m.st, .slice t m.tk.length ct, .slice u m.hd.length cu, .slice c m.cs.length cc]) ∧ DM w.heap.size m a t u c ca ct cu cc w' ∧ DG m ∧ k' ≤ k + n ∧ Src b l k' w' ∧ KeptIn b (b + 1) w w'

set_option maxRecDepth 100000 in
set_option maxHeartbeats 4000000 in
theorem l12Bent_any (b k : Nat) (l : List Int) (w : World) (h : Src b l k w) (hk : k ≤ 9000) (hl : (l.length : Int) ≤ 1048576) :
    Calls Tryz.prog 41 #[.pointer (some ⟨b, 0, none⟩)] w fun e w' => DrM b k 13 l w e w' := by
  have hbw := h.lt
  have N0 := below_new w (.cells #[.slice none 0 0, .int .i64 0, .slice none 0 0, .slice none 0 0, .slice none 0 0] 27)
  have HS := Hid.mk' (h.below N0)
  have K0 : Hid (KeptIn b (b + 1) w (w.alloc (.cells #[.slice none 0 0, .int .i64 0, .slice none 0 0, .slice none 0 0, .slice none 0 0] 27))) := Hid.mk' (KeptIn.of_below N0)
  have R0 := Hid.mk' (RowA.new w 27 #[.slice none 0 0, .int .i64 0, .slice none 0 0, .slice none 0 0, .slice none 0 0])
  have z0 : Hid ((w.alloc (.cells #[.slice none 0 0, .int .i64 0, .slice none 0 0, .slice none 0 0, .slice none 0 0] 27)).heap.size = w.heap.size + 1) := Hid.mk' (by simp)
  clear h N0
  generalize hW : w.alloc (.cells #[.slice none 0 0, .int .i64 0, .slice none 0 0, .slice none 0 0, .slice none 0 0] 27) = W at *
  go_enter Tryz.func41, Tryz.ntmps41
  go_wp2_with fail
  clear hW
  refine (l12Draw_any b k l W HS.out (by omega) hl).mono ?_
  rintro e w2 ⟨d, s, k1, vd, vh, t, c, ct, cc, rfl, hd, by_, hs1, hs2, hk1, hN, hS2, hK2⟩
  obtain ⟨p1, q1, rfl⟩ := own_form hN.dt
  obtain ⟨p2_, q2_, rfl⟩ := own_form hN.hd
  have BY := Hid.mk' by_
  have N2 := below_new w2 (.cells #[.slice p1 d.length q1, .int .i64 (s : Int), .slice t (allX [] [] d).1.length ct, .slice p2_ (allX [] [] d).2.length q2_, .slice c (d.length / s + 1) cc] 27)
  have sW : w.heap.size < W.heap.size := R0.out.lt
  have bw : b < W.heap.size := by omega
  have sW2 := hK2.size
  have R2 : Hid (RowA (w2.alloc (.cells #[.slice p1 d.length q1, .int .i64 (s : Int), .slice t (allX [] [] d).1.length ct, .slice p2_ (allX [] [] d).2.length q2_, .slice c (d.length / s + 1) cc] 27)) w.heap.size 27 #[.slice none 0 0, .int .i64 0, .slice none 0 0, .slice none 0 0, .slice none 0 0]) := Hid.mk' (RowA.below ((hK2.block _ sW (.inr (by omega))).trans R0.out) N2)
  have M2 := Hid.mk' (RowA.new w2 27 #[.slice p1 d.length q1, .int .i64 (s : Int), .slice t (allX [] [] d).1.length ct, .slice p2_ (allX [] [] d).2.length q2_, .slice c (d.length / s + 1) cc])
  have NS := Hid.mk' (hN.below N2)
  have S2 := Hid.mk' (hS2.below N2)
  have K2 := Hid.mk' ((K0.out.trans hK2).trans (KeptIn.of_below N2))
  clear hN hS2 hK2 N2 HS K0 R0 by_
  go_wp2_with (first | ((with_reducible refine wpList_store_row ?_ 27 (.tmp 3) (.tmp 5) ?_ w2.heap.size #[.slice p1 d.length q1, .int .i64 (s : Int), .slice t (allX [] [] d).1.length ct, .slice p2_ (allX [] [] d).2.length q2_, .slice c (d.length / s + 1) cc] ?_ ?_ 27 _ (Deep.blk_alloc_new w2 _) ?_ ?_ ?_ ?_); rfl; rfl; rfl; rfl; kernel_rfl; rfl; kernel_rfl; rw [alloc_setRow]) | fail)
  generalize hV : w2.alloc (.cells #[.slice p1 d.length q1, .int .i64 (s : Int), .slice t (allX [] [] d).1.length ct, .slice p2_ (allX [] [] d).2.length q2_, .slice c (d.length / s + 1) cc] 27) = V at *
  clear hV
  have bV : b < w2.heap.size := by omega
  refine (l1Next_any b k1 l 12 V S2.out (by omega) (by decide) (by decide) hl).mono ?_
  rintro e w3 ⟨x, rfl, x0, x1, hS3, hK3⟩
  have gV : w2.heap.size < V.heap.size := M2.out.lt
  have sV3 := hK3.size
  have M : Hid (RowA w3 w2.heap.size 27 #[.slice p1 d.length q1, .int .i64 (s : Int), .slice t (allX [] [] d).1.length ct, .slice p2_ (allX [] [] d).2.length q2_, .slice c (d.length / s + 1) cc]) := Hid.mk' ((hK3.block _ gV (.inr (by omega))).trans M2.out)
  have R : Hid (RowA w3 w.heap.size 27 #[.slice none 0 0, .int .i64 0, .slice none 0 0, .slice none 0 0, .slice none 0 0]) := Hid.mk' ((hK3.block _ (by omega) (.inr (by omega))).trans R2.out)
  have NS := Hid.mk' (NS.out.kept hK3 (by omega))
  have S3 := Hid.mk' hS3
  have K3 := Hid.mk' (K2.out.trans hK3)
  have g3 : Hid (w2.heap.size < w3.heap.size) := Hid.mk' M.out.lt
  have hW3 : W.heap.size ≤ w3.heap.size := by have := g3.out; omega
  have gH := (allX_good d [] [] (.inl rfl)).len
  clear hS3 hK3 S2 K2 M2 R2 sV3 gV
  obtain ⟨b9, rfl⟩ := NS.out.cf
  have y0 := M.out.cell 0 _ rfl
  have y1 := M.out.cell 1 _ rfl
  have y2 := M.out.cell 2 _ rfl
  have y3 := M.out.cell 3 _ rfl
  have y4 := M.out.cell 4 _ rfl
  have f0 := M.out.frozen 0
  have f1 := M.out.frozen 1
  have f3 := M.out.frozen 3
  have f4 := M.out.frozen 4
  by_cases c0 : x = 0
  · subst c0
    go_wp2_with (first | (at_builtin; refine wpList_append_at _ rfl (.tmp 11) (.tmp 12) 22 rfl W.heap.size 5 (.int .u8 0) 1 1 Tryz.underlying22 Tryz.info5 rfl (by decide) _ (allX [] [] d).2.length (bcs (allX [] [] d).2) rfl (own_keep NS.out.hd (below_new w3 _)) _ 1 _ (bcs [120]) rfl rfl (.inr ⟨_, rfl, one_byteS w3 120⟩) (bcs_one _) (by unfold maxLen; omega) (by omega) (by simp; omega) ?_; intro v' w5 ho hgr hat; (rw [← bcs_append, show (allX [] [] d).2.length + 1 = ((allX [] [] d).2 ++ [(120 : Int)]).length by simp] at ho); obtain ⟨u, cu, rfl, hDB⟩ := (NS.out.below (below_new w3 (.cells #[.int .u8 120] 5))).held (g := w2.heap.size) (Nat.le_refl _) (Nat.lt_of_lt_of_le g3.out (below_new w3 (.cells #[.int .u8 120] 5)).size) hgr hat ho (s : Int); have M5 : RowA w5 w2.heap.size 27 #[.slice p1 d.length q1, .int .i64 (s : Int), .slice t (allX [] [] d).1.length ct, .slice p2_ (allX [] [] d).2.length q2_, .slice (some ⟨b9, 0, none⟩) (d.length / s + 1) cc] := (hgr.block _ (Nat.lt_of_lt_of_le g3.out (below_new w3 (.cells #[.int .u8 120] 5)).size) (fun e => absurd (NS.out.hl _ e.symm) (Nat.lt_irrefl _))).trans ((below_new w3 (.cells #[.int .u8 120] 5)).block _ g3.out |>.trans M.out); have z5 : Hid (∀ q, q < w3.heap.size → (Value.slice p2_ (allX [] [] d).2.length q2_).ownBlock ≠ some q → w5.heap[q]? = w3.heap[q]?) := Hid.mk' (fun q h1 h2 => (hgr.block q (Nat.lt_of_lt_of_le h1 (below_new w3 (.cells #[.int .u8 120] 5)).size) (fun e => h2 e.symm)).trans ((below_new w3 (.cells #[.int .u8 120] 5)).block q h1)); have KG : Hid (KeptIn W.heap.size w3.heap.size w3 w5) := Hid.mk' (by have n1 := below_new w3 (.cells #[.int .u8 120] 5); exact ⟨hgr.os.trans n1.os, hgr.tape.trans n1.tape, hgr.output.trans n1.output, Nat.le_trans n1.size hgr.size, fun q h1 h2 => z5.out q h1 (fun e => by have := (NS.out.hd.lt q e); omega)⟩); have K6 : KeptIn w2.heap.size (w2.heap.size + 1) w5 (w5.setCell ⟨w2.heap.size, 3, none⟩ (.slice u ((allX [] [] d).2.length + 1) cu)) := (KeptIn.refl _ _ _).setCell (p := ⟨w2.heap.size, 3, none⟩) (Nat.le_refl _) (Nat.lt_succ_self _) _; have MY : Hid (RowA (w5.setCell ⟨w2.heap.size, 3, none⟩ (.slice u ((allX [] [] d).2.length + 1) cu)) w2.heap.size 27 #[.slice p1 d.length q1, .int .i64 (s : Int), .slice t (allX [] [] d).1.length ct, .slice u ((allX [] [] d).2.length + 1) cu, .slice (some ⟨b9, 0, none⟩) (d.length / s + 1) cc]) := Hid.mk' (M5.set 3 _); have gl : w.heap.size < W.heap.size := sW; have gl3 : w2.heap.size < w3.heap.size := g3.out; have RY : Hid (RowA (w5.setCell ⟨w2.heap.size, 3, none⟩ (.slice u ((allX [] [] d).2.length + 1) cu)) w.heap.size 27 #[.slice none 0 0, .int .i64 0, .slice none 0 0, .slice none 0 0, .slice none 0 0]) := Hid.mk' ((K6.block _ (Nat.lt_of_lt_of_le R.out.lt KG.out.size) (.inl (by omega))).trans ((KG.out.block _ R.out.lt (.inl (by omega))).trans R.out)); have DY := Hid.mk' (hDB.dm (w' := w5.setCell ⟨w2.heap.size, 3, none⟩ (.slice u ((allX [] [] d).2.length + 1) cu)) K6.size (fun q _ h2 h3 => K6.block q h2 (by omega))); have SY := Hid.mk' ((S3.out.kept KG.out (by omega)).kept K6 (by omega)); have KY : Hid (KeptIn b (b + 1) w (w5.setCell ⟨w2.heap.size, 3, none⟩ (.slice u ((allX [] [] d).2.length + 1) cu))) := Hid.mk' ⟨K6.os.trans (KG.out.os.trans K3.out.os), K6.tape.trans (KG.out.tape.trans K3.out.tape), K6.output.trans (KG.out.output.trans K3.out.output), Nat.le_trans K3.out.size (Nat.le_trans KG.out.size K6.size), fun q h1 h2 => (K6.block q (Nat.lt_of_lt_of_le (Nat.lt_of_lt_of_le h1 K3.out.size) KG.out.size) (.inl (by omega))).trans ((KG.out.block q (Nat.lt_of_lt_of_le h1 K3.out.size) (.inl (by omega))).trans (K3.out.block q h1 h2))⟩; have f9 := M5.frozen 3; have y9 := M5.cell 3 _ rfl; clear ho hgr hat hDB M5 z5 y0 y1 y2 y3 y4 f0 f1 f3 f4 K6 KG gl gl3) | ((with_reducible refine wpList_load_row ?_ 27 (.tmp 3) ?_ w2.heap.size ?_ 27 #[.slice p1 d.length q1, .int .i64 (s : Int), .slice t (allX [] [] d).1.length ct, .slice u ((allX [] [] d).2.length + 1) cu, .slice (some ⟨b9, 0, none⟩) (d.length / s + 1) cc] (0, 0) _ ?_ Tryz.underlying27 ?_ ?_ ?_); rfl; rfl; rfl; exact MY.out; rfl; kernel_rfl) | ((with_reducible refine wpList_store_row ?_ 27 (.tmp 2) (.tmp 34) ?_ w.heap.size #[.slice p1 d.length q1, .int .i64 (s : Int), .slice t (allX [] [] d).1.length ct, .slice u ((allX [] [] d).2.length + 1) cu, .slice (some ⟨b9, 0, none⟩) (d.length / s + 1) cc] ?_ ?_ 27 #[.slice none 0 0, .int .i64 0, .slice none 0 0, .slice none 0 0, .slice none 0 0] ?_ ?_ ?_ ?_ ?_); rfl; rfl; rfl; rfl; exact RY.out; kernel_rfl; rfl; kernel_rfl) | fail)
    have HR := Hid.mk' (RY.out.put #[.slice p1 d.length q1, .int .i64 (s : Int), .slice t (allX [] [] d).1.length ct, .slice u ((allX [] [] d).2.length + 1) cu, .slice (some ⟨b9, 0, none⟩) (d.length / s + 1) cc])
    have DF := Hid.mk' ((DY.out.keep (w' := (w5.setCell ⟨w2.heap.size, 3, none⟩ (.slice u ((allX [] [] d).2.length + 1) cu)).setRow w.heap.size #[.slice p1 d.length q1, .int .i64 (s : Int), .slice t (allX [] [] d).1.length ct, .slice u ((allX [] [] d).2.length + 1) cu, .slice (some ⟨b9, 0, none⟩) (d.length / s + 1) cc]) (by rw [setRow_size]; exact Nat.le_refl _) (fun q h1 h2 => setRow_other _ _ _ _ (by omega))).mono (Nat.le_of_lt sW))
    have SF := Hid.mk' (SY.out.kept (RowA.keptRow (w5.setCell ⟨w2.heap.size, 3, none⟩ (.slice u ((allX [] [] d).2.length + 1) cu)) w.heap.size #[.slice p1 d.length q1, .int .i64 (s : Int), .slice t (allX [] [] d).1.length ct, .slice u ((allX [] [] d).2.length + 1) cu, .slice (some ⟨b9, 0, none⟩) (d.length / s + 1) cc]) hbw)
    have KF : Hid (KeptIn b (b + 1) w ((w5.setCell ⟨w2.heap.size, 3, none⟩ (.slice u ((allX [] [] d).2.length + 1) cu)).setRow w.heap.size #[.slice p1 d.length q1, .int .i64 (s : Int), .slice t (allX [] [] d).1.length ct, .slice u ((allX [] [] d).2.length + 1) cu, .slice (some ⟨b9, 0, none⟩) (d.length / s + 1) cc])) := Hid.mk' ⟨KY.out.os, KY.out.tape, KY.out.output, by rw [setRow_size]; exact KY.out.size, fun q h1 h2 => (setRow_other _ _ _ _ (by omega)).trans (KY.out.block q h1 h2)⟩
    refine bodyPost_ret (v := .agg #[.slice p1 d.length q1, .int .i64 (s : Int), .slice t (allX [] [] d).1.length ct, .slice u ((allX [] [] d).2.length + 1) cu, .slice (some ⟨b9, 0, none⟩) (d.length / s + 1) cc]) ?_ ?_ ?_
    · exact results_cell1 Tryz.results41 _ _ _ ⟨w.heap.size, 0, none⟩ _ rfl (HR.out.load _ Tryz.underlying27 rfl (by kernel_rfl))
    · rfl
    exact ⟨⟨d, (s : Int), (allX [] [] d).1, (allX [] [] d).2 ++ [120], cksN d s (d.length / s + 1)⟩, p1, t, u, some ⟨b9, 0, none⟩, q1, ct, cu, cc, k1 + 1, by simp [cksN_len], DF.out, dg_held hd BY.out hs1 (s : Int) (by omega) (by omega), by omega, SF.out, KF.out⟩
  by_cases c1 : x = 1
  · subst c1
    have hpl : (1 : Int) ≤ ((d.length / s + 1 : Nat) : Int) := by exact_mod_cast Nat.succ_le_succ (Nat.zero_le _)
    by_cases hcc : cc = 1
    · subst hcc
      have hDB := (NS.out.box (g := w2.heap.size) (Nat.le_refl _) (s : Int)).tail
      rw [if_pos rfl] at hDB
      have K6 : KeptIn w2.heap.size (w2.heap.size + 1) w3 (w3.setCell ⟨w2.heap.size, 4, none⟩ (.slice (some ⟨b9, 0, none⟩) (d.length / s) 0)) := (KeptIn.refl _ _ _).setCell (p := ⟨w2.heap.size, 4, none⟩) (Nat.le_refl _) (Nat.lt_succ_self _) _
      have MY : Hid (RowA (w3.setCell ⟨w2.heap.size, 4, none⟩ (.slice (some ⟨b9, 0, none⟩) (d.length / s) 0)) w2.heap.size 27 #[.slice p1 d.length q1, .int .i64 (s : Int), .slice t (allX [] [] d).1.length ct, .slice p2_ (allX [] [] d).2.length q2_, .slice (some ⟨b9, 0, none⟩) (d.length / s) 0]) := Hid.mk' (M.out.set 4 _)
      have RY : Hid (RowA (w3.setCell ⟨w2.heap.size, 4, none⟩ (.slice (some ⟨b9, 0, none⟩) (d.length / s) 0)) w.heap.size 27 #[.slice none 0 0, .int .i64 0, .slice none 0 0, .slice none 0 0, .slice none 0 0]) := Hid.mk' ((K6.block _ R.out.lt (.inl (by omega))).trans R.out)
      have DY := Hid.mk' (hDB.dm (w' := w3.setCell ⟨w2.heap.size, 4, none⟩ (.slice (some ⟨b9, 0, none⟩) (d.length / s) 0)) K6.size (fun q _ h2 h3 => K6.block q h2 (by omega)))
      have SY := Hid.mk' (S3.out.kept K6 (by omega))
      have KY : Hid (KeptIn b (b + 1) w (w3.setCell ⟨w2.heap.size, 4, none⟩ (.slice (some ⟨b9, 0, none⟩) (d.length / s) 0))) := Hid.mk' ⟨K6.os.trans K3.out.os, K6.tape.trans K3.out.tape, K6.output.trans K3.out.output, Nat.le_trans K3.out.size K6.size, fun q h1 h2 => (K6.block q (Nat.lt_of_lt_of_le h1 K3.out.size) (.inl (by omega))).trans (K3.out.block q h1 h2)⟩
      clear hDB K6
      have HR := Hid.mk' (RY.out.put #[.slice p1 d.length q1, .int .i64 (s : Int), .slice t (allX [] [] d).1.length ct, .slice p2_ (allX [] [] d).2.length q2_, .slice (some ⟨b9, 0, none⟩) (d.length / s) 0])
      have DF := Hid.mk' ((DY.out.keep (w' := (w3.setCell ⟨w2.heap.size, 4, none⟩ (.slice (some ⟨b9, 0, none⟩) (d.length / s) 0)).setRow w.heap.size #[.slice p1 d.length q1, .int .i64 (s : Int), .slice t (allX [] [] d).1.length ct, .slice p2_ (allX [] [] d).2.length q2_, .slice (some ⟨b9, 0, none⟩) (d.length / s) 0]) (by rw [setRow_size]; exact Nat.le_refl _) (fun q h1 h2 => setRow_other _ _ _ _ (by omega))).mono (Nat.le_of_lt sW))
      have SF := Hid.mk' (SY.out.kept (RowA.keptRow (w3.setCell ⟨w2.heap.size, 4, none⟩ (.slice (some ⟨b9, 0, none⟩) (d.length / s) 0)) w.heap.size #[.slice p1 d.length q1, .int .i64 (s : Int), .slice t (allX [] [] d).1.length ct, .slice p2_ (allX [] [] d).2.length q2_, .slice (some ⟨b9, 0, none⟩) (d.length / s) 0]) hbw)
      have KF : Hid (KeptIn b (b + 1) w ((w3.setCell ⟨w2.heap.size, 4, none⟩ (.slice (some ⟨b9, 0, none⟩) (d.length / s) 0)).setRow w.heap.size #[.slice p1 d.length q1, .int .i64 (s : Int), .slice t (allX [] [] d).1.length ct, .slice p2_ (allX [] [] d).2.length q2_, .slice (some ⟨b9, 0, none⟩) (d.length / s) 0])) := Hid.mk' ⟨KY.out.os, KY.out.tape, KY.out.output, by rw [setRow_size]; exact KY.out.size, fun q h1 h2 => (setRow_other _ _ _ _ (by omega)).trans (KY.out.block q h1 h2)⟩
      go_wp2_with (first | ((with_reducible refine wpList_load_row ?_ 27 (.tmp 3) ?_ w2.heap.size ?_ 27 #[.slice p1 d.length q1, .int .i64 (s : Int), .slice t (allX [] [] d).1.length ct, .slice p2_ (allX [] [] d).2.length q2_, .slice (some ⟨b9, 0, none⟩) (d.length / s) 0] (0, 0) _ ?_ Tryz.underlying27 ?_ ?_ ?_); rfl; rfl; rfl; exact MY.out; rfl; kernel_rfl) | ((with_reducible refine wpList_store_row ?_ 27 (.tmp 2) (.tmp 34) ?_ w.heap.size #[.slice p1 d.length q1, .int .i64 (s : Int), .slice t (allX [] [] d).1.length ct, .slice p2_ (allX [] [] d).2.length q2_, .slice (some ⟨b9, 0, none⟩) (d.length / s) 0] ?_ ?_ 27 #[.slice none 0 0, .int .i64 0, .slice none 0 0, .slice none 0 0, .slice none 0 0] ?_ ?_ ?_ ?_ ?_); rfl; rfl; rfl; rfl; exact RY.out; kernel_rfl; rfl; kernel_rfl) | fail)
      refine bodyPost_ret (v := .agg #[.slice p1 d.length q1, .int .i64 (s : Int), .slice t (allX [] [] d).1.length ct, .slice p2_ (allX [] [] d).2.length q2_, .slice (some ⟨b9, 0, none⟩) (d.length / s) 0]) ?_ ?_ ?_
      · exact results_cell1 Tryz.results41 _ _ _ ⟨w.heap.size, 0, none⟩ _ rfl (HR.out.load _ Tryz.underlying27 rfl (by kernel_rfl))
      · rfl
      exact ⟨⟨d, (s : Int), (allX [] [] d).1, (allX [] [] d).2, (cksN d s (d.length / s + 1)).tail⟩, p1, t, p2_, some ⟨b9, 0, none⟩, q1, ct, q2_, 0, k1 + 1, by simp [cksN_len], DF.out, dg_tail (dg_new hd BY.out hs1 (s : Int) (by omega) (by omega)).1, by omega, SF.out, KF.out⟩
    · have hDB := (NS.out.box (g := w2.heap.size) (Nat.le_refl _) (s : Int)).tail
      rw [if_neg hcc] at hDB
      have K6 : KeptIn w2.heap.size (w2.heap.size + 1) w3 (w3.setCell ⟨w2.heap.size, 4, none⟩ (.slice (some ⟨b9, 3, none⟩) (d.length / s) (cc - 1))) := (KeptIn.refl _ _ _).setCell (p := ⟨w2.heap.size, 4, none⟩) (Nat.le_refl _) (Nat.lt_succ_self _) _
      have MY : Hid (RowA (w3.setCell ⟨w2.heap.size, 4, none⟩ (.slice (some ⟨b9, 3, none⟩) (d.length / s) (cc - 1))) w2.heap.size 27 #[.slice p1 d.length q1, .int .i64 (s : Int), .slice t (allX [] [] d).1.length ct, .slice p2_ (allX [] [] d).2.length q2_, .slice (some ⟨b9, 3, none⟩) (d.length / s) (cc - 1)]) := Hid.mk' (M.out.set 4 _)
      have RY : Hid (RowA (w3.setCell ⟨w2.heap.size, 4, none⟩ (.slice (some ⟨b9, 3, none⟩) (d.length / s) (cc - 1))) w.heap.size 27 #[.slice none 0 0, .int .i64 0, .slice none 0 0, .slice none 0 0, .slice none 0 0]) := Hid.mk' ((K6.block _ R.out.lt (.inl (by omega))).trans R.out)
      have DY := Hid.mk' (hDB.dm (w' := w3.setCell ⟨w2.heap.size, 4, none⟩ (.slice (some ⟨b9, 3, none⟩) (d.length / s) (cc - 1))) K6.size (fun q _ h2 h3 => K6.block q h2 (by omega)))
      have SY := Hid.mk' (S3.out.kept K6 (by omega))
      have KY : Hid (KeptIn b (b + 1) w (w3.setCell ⟨w2.heap.size, 4, none⟩ (.slice (some ⟨b9, 3, none⟩) (d.length / s) (cc - 1)))) := Hid.mk' ⟨K6.os.trans K3.out.os, K6.tape.trans K3.out.tape, K6.output.trans K3.out.output, Nat.le_trans K3.out.size K6.size, fun q h1 h2 => (K6.block q (Nat.lt_of_lt_of_le h1 K3.out.size) (.inl (by omega))).trans (K3.out.block q h1 h2)⟩
      clear hDB K6
      have HR := Hid.mk' (RY.out.put #[.slice p1 d.length q1, .int .i64 (s : Int), .slice t (allX [] [] d).1.length ct, .slice p2_ (allX [] [] d).2.length q2_, .slice (some ⟨b9, 3, none⟩) (d.length / s) (cc - 1)])
      have DF := Hid.mk' ((DY.out.keep (w' := (w3.setCell ⟨w2.heap.size, 4, none⟩ (.slice (some ⟨b9, 3, none⟩) (d.length / s) (cc - 1))).setRow w.heap.size #[.slice p1 d.length q1, .int .i64 (s : Int), .slice t (allX [] [] d).1.length ct, .slice p2_ (allX [] [] d).2.length q2_, .slice (some ⟨b9, 3, none⟩) (d.length / s) (cc - 1)]) (by rw [setRow_size]; exact Nat.le_refl _) (fun q h1 h2 => setRow_other _ _ _ _ (by omega))).mono (Nat.le_of_lt sW))
      have SF := Hid.mk' (SY.out.kept (RowA.keptRow (w3.setCell ⟨w2.heap.size, 4, none⟩ (.slice (some ⟨b9, 3, none⟩) (d.length / s) (cc - 1))) w.heap.size #[.slice p1 d.length q1, .int .i64 (s : Int), .slice t (allX [] [] d).1.length ct, .slice p2_ (allX [] [] d).2.length q2_, .slice (some ⟨b9, 3, none⟩) (d.length / s) (cc - 1)]) hbw)
      have KF : Hid (KeptIn b (b + 1) w ((w3.setCell ⟨w2.heap.size, 4, none⟩ (.slice (some ⟨b9, 3, none⟩) (d.length / s) (cc - 1))).setRow w.heap.size #[.slice p1 d.length q1, .int .i64 (s : Int), .slice t (allX [] [] d).1.length ct, .slice p2_ (allX [] [] d).2.length q2_, .slice (some ⟨b9, 3, none⟩) (d.length / s) (cc - 1)])) := Hid.mk' ⟨KY.out.os, KY.out.tape, KY.out.output, by rw [setRow_size]; exact KY.out.size, fun q h1 h2 => (setRow_other _ _ _ _ (by omega)).trans (KY.out.block q h1 h2)⟩
      go_wp2_with (first | ((with_reducible refine wpList_load_row ?_ 27 (.tmp 3) ?_ w2.heap.size ?_ 27 #[.slice p1 d.length q1, .int .i64 (s : Int), .slice t (allX [] [] d).1.length ct, .slice p2_ (allX [] [] d).2.length q2_, .slice (some ⟨b9, 3, none⟩) (d.length / s) (cc - 1)] (0, 0) _ ?_ Tryz.underlying27 ?_ ?_ ?_); rfl; rfl; rfl; exact MY.out; rfl; kernel_rfl) | ((with_reducible refine wpList_store_row ?_ 27 (.tmp 2) (.tmp 34) ?_ w.heap.size #[.slice p1 d.length q1, .int .i64 (s : Int), .slice t (allX [] [] d).1.length ct, .slice p2_ (allX [] [] d).2.length q2_, .slice (some ⟨b9, 3, none⟩) (d.length / s) (cc - 1)] ?_ ?_ 27 #[.slice none 0 0, .int .i64 0, .slice none 0 0, .slice none 0 0, .slice none 0 0] ?_ ?_ ?_ ?_ ?_); rfl; rfl; rfl; rfl; exact RY.out; kernel_rfl; rfl; kernel_rfl) | fail)
      refine bodyPost_ret (v := .agg #[.slice p1 d.length q1, .int .i64 (s : Int), .slice t (allX [] [] d).1.length ct, .slice p2_ (allX [] [] d).2.length q2_, .slice (some ⟨b9, 3, none⟩) (d.length / s) (cc - 1)]) ?_ ?_ ?_
      · exact results_cell1 Tryz.results41 _ _ _ ⟨w.heap.size, 0, none⟩ _ rfl (HR.out.load _ Tryz.underlying27 rfl (by kernel_rfl))
      · rfl
      exact ⟨⟨d, (s : Int), (allX [] [] d).1, (allX [] [] d).2, (cksN d s (d.length / s + 1)).tail⟩, p1, t, p2_, some ⟨b9, 3, none⟩, q1, ct, q2_, (cc - 1), k1 + 1, by simp [cksN_len], DF.out, dg_tail (dg_new hd BY.out hs1 (s : Int) (by omega) (by omega)).1, by omega, SF.out, KF.out⟩
  by_cases c2 : x = 2
  · subst c2
    have KP := Hid.mk' (l1Pick_any b (k1 + 1) w3.heap.size 4 l [0, 1, 61, 7] _ (S3.out.below (below_new w3 _)) (iat_lit w3 [0, 1, 61, 7]) (by have := g3.out; omega) (by omega) (by decide) (by decide) hl)
    have hN3 := Hid.mk' (below_new w3 (.cells ([0, 1, 61, 7].map (Value.int .i64)).toArray 2))
    clear y0 y1 y2 y3 y4 f0 f1 f3 f4
    go_wp2_with fail
    refine KP.out.mono ?_
    rintro e w4 ⟨i, hi, rfl, hS4, hK4⟩
    obtain ⟨st, hst, st0, st1⟩ : ∃ st : Int, [(0 : Int), 1, 61, 7].getD i 0 = st ∧ 0 ≤ st ∧ st ≤ 61 := by
      have h4 : i < 4 := hi
      have : i = 0 ∨ i = 1 ∨ i = 2 ∨ i = 3 := by omega
      rcases this with rfl | rfl | rfl | rfl
      · exact ⟨0, rfl, by decide, by decide⟩
      · exact ⟨1, rfl, by decide, by decide⟩
      · exact ⟨61, rfl, by decide, by decide⟩
      · exact ⟨7, rfl, by decide, by decide⟩
    rw [hst]
    have n3 := hN3.out
    have M4 : Hid (RowA w4 w2.heap.size 27 #[.slice p1 d.length q1, .int .i64 (s : Int), .slice t (allX [] [] d).1.length ct, .slice p2_ (allX [] [] d).2.length q2_, .slice (some ⟨b9, 0, none⟩) (d.length / s + 1) cc]) := Hid.mk' ((hK4.block _ (Nat.lt_of_lt_of_le g3.out n3.size) (.inr (by omega))).trans ((n3.block _ g3.out).trans M.out))
    have R4 : Hid (RowA w4 w.heap.size 27 #[.slice none 0 0, .int .i64 0, .slice none 0 0, .slice none 0 0, .slice none 0 0]) := Hid.mk' ((hK4.block _ (Nat.lt_of_lt_of_le R.out.lt n3.size) (.inr (by omega))).trans ((n3.block _ R.out.lt).trans R.out))
    have hDB := ((NS.out.below n3).kept hK4 (by omega)).box (g := w2.heap.size) (Nat.le_refl _) st
    have K4 := (K3.out.trans (KeptIn.of_below n3)).trans hK4
    have K6 : KeptIn w2.heap.size (w2.heap.size + 1) w4 (w4.setCell ⟨w2.heap.size, 1, none⟩ (.int .i64 st)) := (KeptIn.refl _ _ _).setCell (p := ⟨w2.heap.size, 1, none⟩) (Nat.le_refl _) (Nat.lt_succ_self _) _
    have MY : Hid (RowA (w4.setCell ⟨w2.heap.size, 1, none⟩ (.int .i64 st)) w2.heap.size 27 #[.slice p1 d.length q1, .int .i64 st, .slice t (allX [] [] d).1.length ct, .slice p2_ (allX [] [] d).2.length q2_, .slice (some ⟨b9, 0, none⟩) (d.length / s + 1) cc]) := Hid.mk' (M4.out.set 1 _)
    have RY : Hid (RowA (w4.setCell ⟨w2.heap.size, 1, none⟩ (.int .i64 st)) w.heap.size 27 #[.slice none 0 0, .int .i64 0, .slice none 0 0, .slice none 0 0, .slice none 0 0]) := Hid.mk' ((K6.block _ R4.out.lt (.inl (by omega))).trans R4.out)
    have DY := Hid.mk' (hDB.dm (w' := w4.setCell ⟨w2.heap.size, 1, none⟩ (.int .i64 st)) K6.size (fun q _ h2 h3 => K6.block q h2 (by omega)))
    have SY := Hid.mk' (hS4.kept K6 (by omega))
    have KY : Hid (KeptIn b (b + 1) w (w4.setCell ⟨w2.heap.size, 1, none⟩ (.int .i64 st))) := Hid.mk' ⟨K6.os.trans K4.os, K6.tape.trans K4.tape, K6.output.trans K4.output, Nat.le_trans K4.size K6.size, fun q h1 h2 => (K6.block q (Nat.lt_of_lt_of_le h1 K4.size) (.inl (by omega))).trans (K4.block q h1 h2)⟩
    have y1 := M4.out.cell 1 _ rfl
    have f1 := M4.out.frozen 1
    clear hDB K6 K4 hS4 hK4 n3 hN3 KP
    have HR := Hid.mk' (RY.out.put #[.slice p1 d.length q1, .int .i64 st, .slice t (allX [] [] d).1.length ct, .slice p2_ (allX [] [] d).2.length q2_, .slice (some ⟨b9, 0, none⟩) (d.length / s + 1) cc])
    have DF := Hid.mk' ((DY.out.keep (w' := (w4.setCell ⟨w2.heap.size, 1, none⟩ (.int .i64 st)).setRow w.heap.size #[.slice p1 d.length q1, .int .i64 st, .slice t (allX [] [] d).1.length ct, .slice p2_ (allX [] [] d).2.length q2_, .slice (some ⟨b9, 0, none⟩) (d.length / s + 1) cc]) (by rw [setRow_size]; exact Nat.le_refl _) (fun q h1 h2 => setRow_other _ _ _ _ (by omega))).mono (Nat.le_of_lt sW))
    have SF := Hid.mk' (SY.out.kept (RowA.keptRow (w4.setCell ⟨w2.heap.size, 1, none⟩ (.int .i64 st)) w.heap.size #[.slice p1 d.length q1, .int .i64 st, .slice t (allX [] [] d).1.length ct, .slice p2_ (allX [] [] d).2.length q2_, .slice (some ⟨b9, 0, none⟩) (d.length / s + 1) cc]) hbw)
    have KF : Hid (KeptIn b (b + 1) w ((w4.setCell ⟨w2.heap.size, 1, none⟩ (.int .i64 st)).setRow w.heap.size #[.slice p1 d.length q1, .int .i64 st, .slice t (allX [] [] d).1.length ct, .slice p2_ (allX [] [] d).2.length q2_, .slice (some ⟨b9, 0, none⟩) (d.length / s + 1) cc])) := Hid.mk' ⟨KY.out.os, KY.out.tape, KY.out.output, by rw [setRow_size]; exact KY.out.size, fun q h1 h2 => (setRow_other _ _ _ _ (by omega)).trans (KY.out.block q h1 h2)⟩
    go_wp2_with (first | ((with_reducible refine wpList_load_row ?_ 27 (.tmp 3) ?_ w2.heap.size ?_ 27 #[.slice p1 d.length q1, .int .i64 st, .slice t (allX [] [] d).1.length ct, .slice p2_ (allX [] [] d).2.length q2_, .slice (some ⟨b9, 0, none⟩) (d.length / s + 1) cc] (0, 0) _ ?_ Tryz.underlying27 ?_ ?_ ?_); rfl; rfl; rfl; exact MY.out; rfl; kernel_rfl) | ((with_reducible refine wpList_store_row ?_ 27 (.tmp 2) (.tmp 34) ?_ w.heap.size #[.slice p1 d.length q1, .int .i64 st, .slice t (allX [] [] d).1.length ct, .slice p2_ (allX [] [] d).2.length q2_, .slice (some ⟨b9, 0, none⟩) (d.length / s + 1) cc] ?_ ?_ 27 #[.slice none 0 0, .int .i64 0, .slice none 0 0, .slice none 0 0, .slice none 0 0] ?_ ?_ ?_ ?_ ?_); rfl; rfl; rfl; rfl; exact RY.out; kernel_rfl; rfl; kernel_rfl) | fail)
    refine bodyPost_ret (v := .agg #[.slice p1 d.length q1, .int .i64 st, .slice t (allX [] [] d).1.length ct, .slice p2_ (allX [] [] d).2.length q2_, .slice (some ⟨b9, 0, none⟩) (d.length / s + 1) cc]) ?_ ?_ ?_
    · exact results_cell1 Tryz.results41 _ _ _ ⟨w.heap.size, 0, none⟩ _ rfl (HR.out.load _ Tryz.underlying27 rfl (by kernel_rfl))
    · rfl
    exact ⟨⟨d, st, (allX [] [] d).1, (allX [] [] d).2, cksN d s (d.length / s + 1)⟩, p1, t, p2_, some ⟨b9, 0, none⟩, q1, ct, q2_, cc, k1 + 1 + 1, by simp [cksN_len], DF.out, (dg_new hd BY.out hs1 st st0 st1).1, by omega, SF.out, KF.out⟩
  by_cases c3 : x = 3
  · subst c3
    go_wp2_with (first | (at_builtin; refine wpList_append_at _ rfl (.tmp 30) (.tmp 31) 22 rfl W.heap.size 5 (.int .u8 0) 1 1 Tryz.underlying22 Tryz.info5 rfl (by decide) _ d.length (bcs d) rfl (own_keep NS.out.dt (below_new w3 _)) _ 1 _ (bcs [120]) rfl rfl (.inr ⟨_, rfl, one_byteS w3 120⟩) (bcs_one _) (by unfold maxLen; omega) (by omega) (by simp; omega) ?_; intro v' w5 ho hgr hat; (rw [← bcs_append, show d.length + 1 = (d ++ [(120 : Int)]).length by simp] at ho); obtain ⟨u, cu, rfl, hDB⟩ := (NS.out.below (below_new w3 (.cells #[.int .u8 120] 5))).data (g := w2.heap.size) (Nat.le_refl _) (Nat.lt_of_lt_of_le g3.out (below_new w3 (.cells #[.int .u8 120] 5)).size) hgr hat ho (s : Int); have M5 : RowA w5 w2.heap.size 27 #[.slice p1 d.length q1, .int .i64 (s : Int), .slice t (allX [] [] d).1.length ct, .slice p2_ (allX [] [] d).2.length q2_, .slice (some ⟨b9, 0, none⟩) (d.length / s + 1) cc] := (hgr.block _ (Nat.lt_of_lt_of_le g3.out (below_new w3 (.cells #[.int .u8 120] 5)).size) (fun e => absurd (NS.out.dl _ e.symm) (Nat.lt_irrefl _))).trans ((below_new w3 (.cells #[.int .u8 120] 5)).block _ g3.out |>.trans M.out); have z5 : Hid (∀ q, q < w3.heap.size → (Value.slice p1 d.length q1).ownBlock ≠ some q → w5.heap[q]? = w3.heap[q]?) := Hid.mk' (fun q h1 h2 => (hgr.block q (Nat.lt_of_lt_of_le h1 (below_new w3 (.cells #[.int .u8 120] 5)).size) (fun e => h2 e.symm)).trans ((below_new w3 (.cells #[.int .u8 120] 5)).block q h1)); have KG : Hid (KeptIn W.heap.size w3.heap.size w3 w5) := Hid.mk' (by have n1 := below_new w3 (.cells #[.int .u8 120] 5); exact ⟨hgr.os.trans n1.os, hgr.tape.trans n1.tape, hgr.output.trans n1.output, Nat.le_trans n1.size hgr.size, fun q h1 h2 => z5.out q h1 (fun e => by have := (NS.out.dt.lt q e); omega)⟩); have K6 : KeptIn w2.heap.size (w2.heap.size + 1) w5 (w5.setCell ⟨w2.heap.size, 0, none⟩ (.slice u (d.length + 1) cu)) := (KeptIn.refl _ _ _).setCell (p := ⟨w2.heap.size, 0, none⟩) (Nat.le_refl _) (Nat.lt_succ_self _) _; have MY : Hid (RowA (w5.setCell ⟨w2.heap.size, 0, none⟩ (.slice u (d.length + 1) cu)) w2.heap.size 27 #[.slice u (d.length + 1) cu, .int .i64 (s : Int), .slice t (allX [] [] d).1.length ct, .slice p2_ (allX [] [] d).2.length q2_, .slice (some ⟨b9, 0, none⟩) (d.length / s + 1) cc]) := Hid.mk' (M5.set 0 _); have gl : w.heap.size < W.heap.size := sW; have gl3 : w2.heap.size < w3.heap.size := g3.out; have RY : Hid (RowA (w5.setCell ⟨w2.heap.size, 0, none⟩ (.slice u (d.length + 1) cu)) w.heap.size 27 #[.slice none 0 0, .int .i64 0, .slice none 0 0, .slice none 0 0, .slice none 0 0]) := Hid.mk' ((K6.block _ (Nat.lt_of_lt_of_le R.out.lt KG.out.size) (.inl (by omega))).trans ((KG.out.block _ R.out.lt (.inl (by omega))).trans R.out)); have DY := Hid.mk' (hDB.dm (w' := w5.setCell ⟨w2.heap.size, 0, none⟩ (.slice u (d.length + 1) cu)) K6.size (fun q _ h2 h3 => K6.block q h2 (by omega))); have SY := Hid.mk' ((S3.out.kept KG.out (by omega)).kept K6 (by omega)); have KY : Hid (KeptIn b (b + 1) w (w5.setCell ⟨w2.heap.size, 0, none⟩ (.slice u (d.length + 1) cu))) := Hid.mk' ⟨K6.os.trans (KG.out.os.trans K3.out.os), K6.tape.trans (KG.out.tape.trans K3.out.tape), K6.output.trans (KG.out.output.trans K3.out.output), Nat.le_trans K3.out.size (Nat.le_trans KG.out.size K6.size), fun q h1 h2 => (K6.block q (Nat.lt_of_lt_of_le (Nat.lt_of_lt_of_le h1 K3.out.size) KG.out.size) (.inl (by omega))).trans ((KG.out.block q (Nat.lt_of_lt_of_le h1 K3.out.size) (.inl (by omega))).trans (K3.out.block q h1 h2))⟩; have f9 := M5.frozen 0; have y9 := M5.cell 0 _ rfl; clear ho hgr hat hDB M5 z5 y0 y1 y2 y3 y4 f0 f1 f3 f4 K6 KG gl gl3) | ((with_reducible refine wpList_load_row ?_ 27 (.tmp 3) ?_ w2.heap.size ?_ 27 #[.slice u (d.length + 1) cu, .int .i64 (s : Int), .slice t (allX [] [] d).1.length ct, .slice p2_ (allX [] [] d).2.length q2_, .slice (some ⟨b9, 0, none⟩) (d.length / s + 1) cc] (0, 0) _ ?_ Tryz.underlying27 ?_ ?_ ?_); rfl; rfl; rfl; exact MY.out; rfl; kernel_rfl) | ((with_reducible refine wpList_store_row ?_ 27 (.tmp 2) (.tmp 34) ?_ w.heap.size #[.slice u (d.length + 1) cu, .int .i64 (s : Int), .slice t (allX [] [] d).1.length ct, .slice p2_ (allX [] [] d).2.length q2_, .slice (some ⟨b9, 0, none⟩) (d.length / s + 1) cc] ?_ ?_ 27 #[.slice none 0 0, .int .i64 0, .slice none 0 0, .slice none 0 0, .slice none 0 0] ?_ ?_ ?_ ?_ ?_); rfl; rfl; rfl; rfl; exact RY.out; kernel_rfl; rfl; kernel_rfl) | fail)
    have HR := Hid.mk' (RY.out.put #[.slice u (d.length + 1) cu, .int .i64 (s : Int), .slice t (allX [] [] d).1.length ct, .slice p2_ (allX [] [] d).2.length q2_, .slice (some ⟨b9, 0, none⟩) (d.length / s + 1) cc])
    have DF := Hid.mk' ((DY.out.keep (w' := (w5.setCell ⟨w2.heap.size, 0, none⟩ (.slice u (d.length + 1) cu)).setRow w.heap.size #[.slice u (d.length + 1) cu, .int .i64 (s : Int), .slice t (allX [] [] d).1.length ct, .slice p2_ (allX [] [] d).2.length q2_, .slice (some ⟨b9, 0, none⟩) (d.length / s + 1) cc]) (by rw [setRow_size]; exact Nat.le_refl _) (fun q h1 h2 => setRow_other _ _ _ _ (by omega))).mono (Nat.le_of_lt sW))
    have SF := Hid.mk' (SY.out.kept (RowA.keptRow (w5.setCell ⟨w2.heap.size, 0, none⟩ (.slice u (d.length + 1) cu)) w.heap.size #[.slice u (d.length + 1) cu, .int .i64 (s : Int), .slice t (allX [] [] d).1.length ct, .slice p2_ (allX [] [] d).2.length q2_, .slice (some ⟨b9, 0, none⟩) (d.length / s + 1) cc]) hbw)
    have KF : Hid (KeptIn b (b + 1) w ((w5.setCell ⟨w2.heap.size, 0, none⟩ (.slice u (d.length + 1) cu)).setRow w.heap.size #[.slice u (d.length + 1) cu, .int .i64 (s : Int), .slice t (allX [] [] d).1.length ct, .slice p2_ (allX [] [] d).2.length q2_, .slice (some ⟨b9, 0, none⟩) (d.length / s + 1) cc])) := Hid.mk' ⟨KY.out.os, KY.out.tape, KY.out.output, by rw [setRow_size]; exact KY.out.size, fun q h1 h2 => (setRow_other _ _ _ _ (by omega)).trans (KY.out.block q h1 h2)⟩
    refine bodyPost_ret (v := .agg #[.slice u (d.length + 1) cu, .int .i64 (s : Int), .slice t (allX [] [] d).1.length ct, .slice p2_ (allX [] [] d).2.length q2_, .slice (some ⟨b9, 0, none⟩) (d.length / s + 1) cc]) ?_ ?_ ?_
    · exact results_cell1 Tryz.results41 _ _ _ ⟨w.heap.size, 0, none⟩ _ rfl (HR.out.load _ Tryz.underlying27 rfl (by kernel_rfl))
    · rfl
    exact ⟨⟨d ++ [120], (s : Int), (allX [] [] d).1, (allX [] [] d).2, cksN d s (d.length / s + 1)⟩, u, t, p2_, some ⟨b9, 0, none⟩, cu, ct, q2_, cc, k1 + 1, by simp [cksN_len], DF.out, dg_data hd BY.out hs1 (s : Int) (by omega) (by omega), by omega, SF.out, KF.out⟩
  have n0 : (x == 0) = false := by simp [c0]
  have n1 : (x == 1) = false := by simp [c1]
  have n2 : (x == 2) = false := by simp [c2]
  have n3 : (x == 3) = false := by simp [c3]
  have hr := (NS.out.box (g := w2.heap.size) (Nat.le_refl _) (s : Int)).dm (Nat.le_refl _) (fun _ _ _ _ => rfl)
  have DY := Hid.mk' hr
  have MY := M
  have RY := R
  have SY := S3
  have KY := K3
  clear hr
  have HR := Hid.mk' (RY.out.put #[.slice p1 d.length q1, .int .i64 (s : Int), .slice t (allX [] [] d).1.length ct, .slice p2_ (allX [] [] d).2.length q2_, .slice (some ⟨b9, 0, none⟩) (d.length / s + 1) cc])
  have DF := Hid.mk' ((DY.out.keep (w' := (w3).setRow w.heap.size #[.slice p1 d.length q1, .int .i64 (s : Int), .slice t (allX [] [] d).1.length ct, .slice p2_ (allX [] [] d).2.length q2_, .slice (some ⟨b9, 0, none⟩) (d.length / s + 1) cc]) (by rw [setRow_size]; exact Nat.le_refl _) (fun q h1 h2 => setRow_other _ _ _ _ (by omega))).mono (Nat.le_of_lt sW))
  have SF := Hid.mk' (SY.out.kept (RowA.keptRow (w3) w.heap.size #[.slice p1 d.length q1, .int .i64 (s : Int), .slice t (allX [] [] d).1.length ct, .slice p2_ (allX [] [] d).2.length q2_, .slice (some ⟨b9, 0, none⟩) (d.length / s + 1) cc]) hbw)
  have KF : Hid (KeptIn b (b + 1) w ((w3).setRow w.heap.size #[.slice p1 d.length q1, .int .i64 (s : Int), .slice t (allX [] [] d).1.length ct, .slice p2_ (allX [] [] d).2.length q2_, .slice (some ⟨b9, 0, none⟩) (d.length / s + 1) cc])) := Hid.mk' ⟨KY.out.os, KY.out.tape, KY.out.output, by rw [setRow_size]; exact KY.out.size, fun q h1 h2 => (setRow_other _ _ _ _ (by omega)).trans (KY.out.block q h1 h2)⟩
  go_wp2_with (first | ((with_reducible refine wpList_load_row ?_ 27 (.tmp 3) ?_ w2.heap.size ?_ 27 #[.slice p1 d.length q1, .int .i64 (s : Int), .slice t (allX [] [] d).1.length ct, .slice p2_ (allX [] [] d).2.length q2_, .slice (some ⟨b9, 0, none⟩) (d.length / s + 1) cc] (0, 0) _ ?_ Tryz.underlying27 ?_ ?_ ?_); rfl; rfl; rfl; exact MY.out; rfl; kernel_rfl) | ((with_reducible refine wpList_store_row ?_ 27 (.tmp 2) (.tmp 34) ?_ w.heap.size #[.slice p1 d.length q1, .int .i64 (s : Int), .slice t (allX [] [] d).1.length ct, .slice p2_ (allX [] [] d).2.length q2_, .slice (some ⟨b9, 0, none⟩) (d.length / s + 1) cc] ?_ ?_ 27 #[.slice none 0 0, .int .i64 0, .slice none 0 0, .slice none 0 0, .slice none 0 0] ?_ ?_ ?_ ?_ ?_); rfl; rfl; rfl; rfl; exact RY.out; kernel_rfl; rfl; kernel_rfl) | fail)
  refine bodyPost_ret (v := .agg #[.slice p1 d.length q1, .int .i64 (s : Int), .slice t (allX [] [] d).1.length ct, .slice p2_ (allX [] [] d).2.length q2_, .slice (some ⟨b9, 0, none⟩) (d.length / s + 1) cc]) ?_ ?_ ?_
  · exact results_cell1 Tryz.results41 _ _ _ ⟨w.heap.size, 0, none⟩ _ rfl (HR.out.load _ Tryz.underlying27 rfl (by kernel_rfl))
  · rfl
  exact ⟨⟨d, (s : Int), (allX [] [] d).1, (allX [] [] d).2, cksN d s (d.length / s + 1)⟩, p1, t, p2_, some ⟨b9, 0, none⟩, q1, ct, q2_, cc, k1 + 1, by simp [cksN_len], DF.out, (dg_new hd BY.out hs1 (s : Int) (by omega) (by omega)).1, by omega, SF.out, KF.out⟩

end Go.Proofs.YtieeojhdidjnaaaGreatDoor

namespace Go.Proofs.YtieeojhdidjnaaaGreatDoor
open Go.RowKit

theorem KeptIn.up {b : Nat} {W w wr : World} (h : KeptIn b (b + 1) w wr) (hb : W.heap.size ≤ b) (hW : Below W.heap.size W w) : Below W.heap.size W wr :=
  h.below hb hW.size |> hW.trans

set_option maxRecDepth 100000 in
set_option maxHeartbeats 4000000 in
theorem drawLC_any (a : Option Addr) (c : Nat) (l : List Int) (w : World) (ha : BAt w a l) (hu : ∀ i, i < l.length → 0 ≤ l.getD i 0 ∧ l.getD i 0 ≤ 255) (hl : (l.length : Int) ≤ 1048576) :
    Calls Tryz.prog 9 #[.slice a l.length c] w fun e w' => ∃ (m : ME) (a t u c : Option Addr) (ca ct cu cc : Nat) (A : Int), e = .returned (.tuple #[.agg #[.slice a m.dt.length ca, .int .i64 m.st, .slice t m.tk.length ct, .slice u m.hd.length cu, .slice c m.cs.length cc], .int .i64 A]) ∧ DM w.heap.size m a t u c ca ct cu cc w' ∧ DG m ∧ -1 ≤ A ∧ A ≤ 200 ∧ Below w.heap.size w w' := by
  have N0 := below_new w (.cells #[.slice none 0 0, .int .i64 0, .slice none 0 0, .slice none 0 0, .slice none 0 0] 27)
  have K := Hid.mk' (l1Source_any a c l _ (ha.below N0) hu)
  have B0 := Hid.mk' N0
  have R0 := Hid.mk' (RowA.new w 27 #[.slice none 0 0, .int .i64 0, .slice none 0 0, .slice none 0 0, .slice none 0 0])
  clear ha hu N0
  generalize hW : w.alloc (.cells #[.slice none 0 0, .int .i64 0, .slice none 0 0, .slice none 0 0, .slice none 0 0] 27) = W at *
  go_enter Tryz.func9, Tryz.ntmps9
  go_wp2_with fail
  clear hW
  refine K.out.mono ?_
  rintro e w1 ⟨rfl, hS, hb⟩
  have sW : w.heap.size < W.heap.size := R0.out.lt
  have R1 := Hid.mk' (R0.out.below hb)
  have B1 := Hid.mk' (B0.out.trans (hb.mono B0.out.size))
  have HS := Hid.mk' hS
  have hlt1 := hS.lt
  clear K hS hb B0 R0
  go_wp2_with fail
  refine (l12Bent_any W.heap.size 0 l w1 HS.out (by omega) hl).mono ?_
  rintro e w2 ⟨m, pa, pt, pu, pc, qa, qt, qu, qc, k2, rfl, hDM, hDG, hk2, hS2, hK2⟩
  have N2 := below_new w2 (.cells #[.slice pa m.dt.length qa, .int .i64 m.st, .slice pt m.tk.length qt, .slice pu m.hd.length qu, .slice pc m.cs.length qc] 27)
  have sW2 := hK2.size
  have R2 : Hid (RowA (w2.alloc (.cells #[.slice pa m.dt.length qa, .int .i64 m.st, .slice pt m.tk.length qt, .slice pu m.hd.length qu, .slice pc m.cs.length qc] 27)) w.heap.size 27 #[.slice none 0 0, .int .i64 0, .slice none 0 0, .slice none 0 0, .slice none 0 0]) := Hid.mk' (RowA.below ((hK2.block _ (by omega) (.inl sW)).trans R1.out) N2)
  have M2 := Hid.mk' (RowA.new w2 27 #[.slice pa m.dt.length qa, .int .i64 m.st, .slice pt m.tk.length qt, .slice pu m.hd.length qu, .slice pc m.cs.length qc])
  have D2 := Hid.mk' (hDM.below N2)
  have S2 := Hid.mk' (hS2.below N2)
  have B2 := Hid.mk' ((hK2.up (Nat.le_of_lt sW) B1.out).trans (N2.mono (Nat.le_trans B1.out.size sW2)))
  have G2 := Hid.mk' hDG
  have ml := hDG.dl
  clear hDM hDG hS2 hK2 N2 HS R1 B1
  go_wp2_with (first | ((with_reducible refine wpList_store_row ?_ 27 (.tmp 6) (.tmp 7) ?_ w2.heap.size #[.slice pa m.dt.length qa, .int .i64 m.st, .slice pt m.tk.length qt, .slice pu m.hd.length qu, .slice pc m.cs.length qc] ?_ ?_ 27 _ (Deep.blk_alloc_new w2 _) ?_ ?_ ?_ ?_); rfl; rfl; rfl; rfl; kernel_rfl; rfl; kernel_rfl; rw [alloc_setRow]) | fail)
  have y0 := M2.out.cell 0 _ rfl
  have wl : IntKind.i64.wrap ((m.dt.length : Int) + 3) = (m.dt.length : Int) + 3 := by rw [IntKind.wrap_i64]; omega
  generalize hV : w2.alloc (.cells #[.slice pa m.dt.length qa, .int .i64 m.st, .slice pt m.tk.length qt, .slice pu m.hd.length qu, .slice pc m.cs.length qc] 27) = V at *
  clear hV
  refine wp_region_held_drew (S := (fun z => Hid (RowA z w2.heap.size 27 #[.slice pa m.dt.length qa, .int .i64 m.st, .slice pt m.tk.length qt, .slice pu m.hd.length qu, .slice pc m.cs.length qc]) ∧ z.cell? ⟨w2.heap.size, 0, none⟩ = some (.slice pa m.dt.length qa))) (by kernel_rfl) ⟨Hid.mk' M2.out.drew, y0⟩ (fun hHeld => ?_)
  refine wpAnyH_take (i := 0) (oi := ⟨_, _, _, _, _, _⟩) (v := ?_) rfl (by kernel_rfl) (by kernel_rfl) (by kernel_rfl) (fun _ _ _ h => h) (Or.inl ⟨by rfl, ?_⟩) (by assumption) ?_
  rotate_left
  · (intro w hSw; refine RowA.exec hSw.1.out (.tmp 5) ?_ ?_ _ Tryz.underlying27 ?_ ?_; rfl; rfl; rfl; kernel_rfl)
  try simp only [Act.put, zA, zB, zC]
  refine tkY 1 ?_
  refine tkY 2 ?_
  refine tkY 3 ?_
  refine tkY 4 ?_
  refine tkY 5 ?_
  refine wpAnyH_ready (rs := [6]) (by kernel_rfl) (by simp) ?_
  refine AllReadyH.cons (o := ⟨_, _, _, _, _, _⟩) rfl (fun K9 hK => ?_) AllReadyH.nil
  go_simp
  refine (l1Next_any W.heap.size k2 l ((m.dt.length : Int) + 3) _ (S2.out.below (Below.refl _ _).drew) (by omega) (by omega) (by omega) hl).mono ?_
  rintro e w3 ⟨x, rfl, x0, x1, hS3, hK3⟩
  replace hK3 := undrewK hK3
  have sV : w2.heap.size < V.heap.size := M2.out.lt
  have sW12 : W.heap.size < w2.heap.size := by omega
  have hM3 : RowA w3 w2.heap.size 27 #[.slice pa m.dt.length qa, .int .i64 m.st, .slice pt m.tk.length qt, .slice pu m.hd.length qu, .slice pc m.cs.length qc] := (hK3.block _ sV (.inr (by omega))).trans M2.out
  have hR3 : RowA w3 w.heap.size 27 #[.slice none 0 0, .int .i64 0, .slice none 0 0, .slice none 0 0, .slice none 0 0] := (hK3.block _ (by omega) (.inl sW)).trans R2.out
  have wx : IntKind.i64.wrap (x - 1) = x - 1 := by rw [IntKind.wrap_i64]; omega
  have DK := D2.out.kept hK3 hlt1
  refine hK.out _ _ ⟨Hid.mk' hM3, hM3.cell 0 _ rfl⟩ (fun hHeld => ?_)
  clear hK K9
  try simp only [Act.put, zA, zB, zC]
  refine tkY 7 ?_
  refine wpAnyH_ready (rs := [8]) (by kernel_rfl) (by simp) ?_
  refine AllReadyH.cons (o := ⟨_, _, _, _, _, _⟩) rfl (fun K9 hK => ?_) AllReadyH.nil
  refine step_store_row rfl 27 (.tmp 2) (.tmp 10) rfl w.heap.size #[.slice pa m.dt.length qa, .int .i64 m.st, .slice pt m.tk.length qt, .slice pu m.hd.length qu, .slice pc m.cs.length qc] rfl rfl 27 #[.slice none 0 0, .int .i64 0, .slice none 0 0, .slice none 0 0, .slice none 0 0] hR3 (by kernel_rfl) rfl (by kernel_rfl) ?_
  have hM4 : RowA (w3.setRow w.heap.size #[.slice pa m.dt.length qa, .int .i64 m.st, .slice pt m.tk.length qt, .slice pu m.hd.length qu, .slice pc m.cs.length qc]) w2.heap.size 27 #[.slice pa m.dt.length qa, .int .i64 m.st, .slice pt m.tk.length qt, .slice pu m.hd.length qu, .slice pc m.cs.length qc] := RowA.otherRow hM3 (by omega) _
  refine hK.out _ _ ⟨Hid.mk' hM4, hM4.cell 0 _ rfl⟩ (fun hHeld => ?_)
  clear hK K9
  try simp only [Act.put, zA, zB, zC]
  refine tkY 9 ?_
  refine wpAnyH_done (by kernel_rfl) ?_ _
  have HR : RowA (w3.setRow w.heap.size #[.slice pa m.dt.length qa, .int .i64 m.st, .slice pt m.tk.length qt, .slice pu m.hd.length qu, .slice pc m.cs.length qc]) w.heap.size 27 #[.slice pa m.dt.length qa, .int .i64 m.st, .slice pt m.tk.length qt, .slice pu m.hd.length qu, .slice pc m.cs.length qc] := hR3.put _
  have DF := Hid.mk' ((DK.keep (w' := w3.setRow w.heap.size #[.slice pa m.dt.length qa, .int .i64 m.st, .slice pt m.tk.length qt, .slice pu m.hd.length qu, .slice pc m.cs.length qc]) (by rw [setRow_size]; exact Nat.le_refl _) (fun q h1 h2 => setRow_other _ _ _ _ (by omega))).mono (by omega : w.heap.size ≤ w1.heap.size))
  have BF := Hid.mk' (RowA.putBelow (hK3.up (Nat.le_of_lt sW) B2.out) (Nat.le_refl w.heap.size) #[.slice pa m.dt.length qa, .int .i64 m.st, .slice pt m.tk.length qt, .slice pu m.hd.length qu, .slice pc m.cs.length qc])
  have HL := HR.load (P := Tryz.prog) _ Tryz.underlying27 rfl (by kernel_rfl)
  clear hHeld
  go_wp2
  refine bodyPost_ret (v := .tuple #[.agg #[.slice pa m.dt.length qa, .int .i64 m.st, .slice pt m.tk.length qt, .slice pu m.hd.length qu, .slice pc m.cs.length qc], .int .i64 (x - 1)]) ?_ ?_ ?_
  · exact results_cell_tmp Tryz.results9 _ _ _ ⟨w.heap.size, 0, none⟩ _ _ rfl HL rfl
  · rfl
  exact ⟨m, pa, pt, pu, pc, qa, qt, qu, qc, x - 1, rfl, DF.out, G2.out, by omega, by omega, BF.out⟩

end Go.Proofs.YtieeojhdidjnaaaGreatDoor

namespace Go.Proofs.YtieeojhdidjnaaaGreatDoor
open Go.RowKit

def CpA (l : List AT) (w : World) (e : Ending) (w' : World) : Prop := ∃ v us, e = .returned v ∧ OA w.heap.size w' v l us ∧ Below w.heap.size w w'

theorem asz_at {l : List AT} {k : Nat} (h : k < l.length) : (atK l k).vl.length + (atK l k).nm.size ≤ asz l := by
  have := asz_take l k h
  have := asz_le l (k + 1)
  omega

theorem at_take {l : List AT} {k : Nat} (h : k < l.length) : l.take (k + 1) = l.take k ++ [atK l k] := by
  rw [List.take_add_one, List.getElem?_eq_getElem h]
  simp [atK, List.getD_eq_getElem?_getD, List.getElem?_eq_getElem h]

set_option maxRecDepth 100000 in
set_option maxHeartbeats 6400000 in
theorem l4CopyAttrs_own (a : Option Addr) (c : Nat) (l : List AT) (w : World) (ha : AAt w a l) (hl : (l.length : Int) + asz l ≤ 1048576) :
    Calls Tryz.prog 96 #[.slice a l.length c] w fun e w' => CpA l w e w' := by
  have HA := Hid.mk' ha
  clear ha
  go_enter Tryz.func96, Tryz.ntmps96
  go_wp2
  go_loopw [3, 4] (fun v i wr => ∃ (k : Nat) (us : List Value), k ≤ l.length ∧ i = .int .i64 k ∧ OA w.heap.size wr v (l.take k) us ∧ Below w.heap.size w wr) (fun _ i _ => l.length - (intOf i).toNat)
  case atStart => exact ⟨0, [], Nat.zero_le _, rfl, ⟨rfl, by simpa [acs] using World.ownsRow_lit (base := w.heap.size) (e := 139) (size := 2) w #[] 0 (Nat.le_refl _) (by decide) rfl, fun j h => absurd h (by simp), fun j h => absurd h (by simp), fun i j _ h => absurd h (by simp), fun j h => absurd h (by simp)⟩, below_new _ _⟩
  case round =>
    obtain ⟨k, us, hk, rfl, hoa, hbl⟩ := hrel
    have HB := Hid.mk' hbl
    obtain ⟨av, cv, ev, _⟩ := own_cap hoa.row
    have lt_ : (l.take k).length = k := by rw [List.length_take]; omega
    rw [lt_] at ev
    subst ev
    by_cases hlt : k < l.length
    · have ci : (k : Int) < (l.length : Int) := by omega
      rcases HA.out with h0 | ⟨b1, o1, rfl, s0, hc1⟩
      · exact absurd hlt (by rw [h0]; exact Nat.not_lt_zero _)
      obtain ⟨h1, p1, d1, h2, h3⟩ := hc1 k hlt
      replace h1 := (hbl.cell s0).trans h1
      replace h2 := (hbl.cell s0).trans h2
      replace h3 := h3.below hbl
      have s1 := Nat.lt_of_lt_of_le s0 hbl.size
      have sz1 : (atK l k).vl.length + (atK l k).nm.size ≤ asz l := asz_at hlt
      have AT1 := Hid.mk' (at_take hlt)
      have HO := Hid.mk' hoa
      have H3 := Hid.mk' h3
      clear hc1 h3 hoa
      go_wp2_with fail
      have GNE : Hid (∀ j, (Value.slice av k cv).ownBlock = some j → ¬ j = b1) := Hid.mk' (fun j e ej => by subst ej; have := (HO.out.row.lt j e).1; omega)
      refine wp_region_held_drew (S := fun w' => w'.cell? ⟨b1, o1 + k * 2, none⟩ = some (.string (atK l k).nm) ∧ w'.cell? ⟨b1, o1 + k * 2 + 1, none⟩ = some (.slice p1 (atK l k).vl.length d1)) (by kernel_rfl) (by simp [*]) (fun hHeld => ?_)
      refine tkY 0 ?_
      refine tkY 1 ?_
      refine tkY 2 ?_
      refine tkY 3 ?_
      refine tkY 4 ?_
      refine tkY 5 ?_
      refine tkY 6 ?_
      refine tkY 7 ?_
      refine tkY 8 ?_
      refine tkY 9 ?_
      refine tkY 10 ?_
      refine wpAnyH_ready (rs := [11]) (by kernel_rfl) (by simp) ?_
      refine AllReadyH.cons (o := ⟨_, _, _, _, _, _⟩) rfl (fun K hK => ?_) AllReadyH.nil
      go_simp
      go_at_call 51
      refine (l1Copy_own p1 d1 (atK l k).vl wr.drew (H3.out.below (Below.refl _ _).drew) (by omega)).mono ?_
      rintro e w2 ⟨u, rfl, hu, hb2⟩
      replace hb2 := undrew hb2
      obtain ⟨pu, cu, eu, _⟩ := own_cap hu
      subst eu
      have z0 := (hb2.cell s1).trans h1
      have z1 := (hb2.cell s1).trans h2
      have z2 := Nat.lt_of_lt_of_le s1 hb2.size
      have B2 : Hid (Below wr.heap.size wr w2) := Hid.mk' hb2
      have LO1 : Hid (wr.heap.size ≤ wr.heap.size) := Hid.mk' (Nat.le_refl _)
      have HU := Hid.mk' hu
      clear hb2 hu
      refine hK.out _ _ ⟨z0, z1⟩ (fun hHeld => ?_)
      clear hK K
      try simp only [Act.put, zA, zB, zC]
      refine tkY 12 ?_
      refine wpAnyH_ready (rs := [13]) (by kernel_rfl) (by simp) ?_
      refine AllReadyH.cons (o := ⟨_, _, _, _, _, _⟩) rfl (fun K hK => ?_) AllReadyH.nil
      go_simp
      have NN := below_new w2 (.cells #[.string (atK l k).nm, .slice pu (atK l k).vl.length cu] 139)
      have q0 := (NN.cell z2).trans z0
      have q1 := (NN.cell z2).trans z1
      have q2 := Nat.lt_of_lt_of_le z2 NN.size
      have B3 : Hid (Below wr.heap.size wr _) := Hid.mk' (B2.out.trans (NN.mono B2.out.size))
      have OW := Hid.mk' (HO.out.below B3.out)
      have HU2 := Hid.mk' (own_keep HU.out NN)
      clear NN
      refine hK.out _ _ ⟨q0, q1⟩ (fun hHeld => ?_)
      clear hK K
      try simp only [Act.put, zA, zB, zC]
      refine wpAnyH_ready (rs := [14]) (by kernel_rfl) (by simp) ?_
      refine AllReadyH.cons (o := ⟨_, _, _, _, _, _⟩) rfl (fun K hK => ?_) AllReadyH.nil
      refine step_append_at rfl (.tmp 12) (.tmp 25) 105 rfl w.heap.size 139 (.agg #[.string ⟨#[]⟩, .slice none 0 0]) 2 40 Tryz.underlying105 Tryz.info139 rfl (by decide) _ k _ rfl (by have := OW.out.row; rw [lt_] at this; exact this) _ 1 _ [.string (atK l k).nm, .slice pu (atK l k).vl.length cu] rfl rfl (.inr ⟨_, rfl, one_attr w2 _ _ _ _ rfl⟩) (by simp [Value.oneCell']) (by unfold maxLen; omega) (by omega) (Nat.le_trans HB.out.size B3.out.size) ?_
      intro v' w4 ho hgr hat
      have ho' : w4.ownsRow w.heap.size 139 2 v' ((l.take k).length + 1) (acs (l.take k) us ++ [.string (atK l k).nm, .slice pu (atK l k).vl.length cu]) := by rw [lt_]; exact ho
      have A4 := HO.out.app (w1 := w2.alloc (.cells #[.string (atK l k).nm, .slice pu (atK l k).vl.length cu] 139)) (w2 := w4) (a := atK l k) (u := .slice pu (atK l k).vl.length cu) B3.out (OB.of_own HU2.out).1 HB.out.size (fun j e => Nat.le_trans LO1.out ((OB.of_own HU2.out).2 j e)) ho' hgr hat
      rw [← AT1.out] at A4
      have HA4 := Hid.mk' A4
      have HB4 := Hid.mk' ((HB.out.trans (B3.out.mono HB.out.size)).grown hgr (Nat.le_trans HB.out.size B3.out.size) (own_lo OW.out.row))
      have gne : ∀ j, (Value.slice av k cv).ownBlock = some j → ¬ j = b1 := fun j e => GNE.out j e
      have r0 := hgr.cell q0 (fun e => gne _ e.symm rfl)
      have r1 := hgr.cell q1 (fun e => gne _ e.symm rfl)
      clear ho ho' hgr hat A4
      refine hK.out _ _ ⟨r0, r1⟩ (fun hHeld => ?_)
      clear hK K
      try simp only [Act.put, zA, zB, zC]
      refine tkY 15 ?_
      refine wpAnyH_done (by kernel_rfl) ?_ _
      obtain ⟨aw, cw, ew, _⟩ := own_cap HA4.out.row
      subst ew
      go_wp2
      go_roundw
      case rel => exact ⟨k + 1, _, by omega, by go_num, HA4.out, HB4.out⟩
      case measure => simp [intOf]; omega
    · have ci : ¬ (k : Int) < (l.length : Int) := by omega
      have e : k = l.length := by omega
      subst e
      rw [List.take_length] at hoa
      have HO := Hid.mk' hoa
      clear hoa hbl
      go_wp2
      go_ret
      exact ⟨_, us, rfl, HO.out, HB.out⟩

set_option maxRecDepth 100000 in
set_option maxHeartbeats 6400000 in
theorem l4Copy_any (a : Option Addr) (c : Nat) (l : List TK) (w : World) (ha : TsAt w a l) (hl : (l.length : Int) + tssz l ≤ 1048576) :
    Calls Tryz.prog 67 #[.slice a l.length c] w fun e w' => ∃ v us, e = .returned v ∧ TokS w.heap.size w' v l us ∧ Below w.heap.size w w' := by
  have HA := Hid.mk' ha
  clear ha
  go_enter Tryz.func67, Tryz.ntmps67
  go_wp2
  go_loopw [3, 4] (fun v i wr => ∃ (k : Nat) (us : List Value), k ≤ l.length ∧ i = .int .i64 k ∧ TokS w.heap.size wr v (l.take k) us ∧ Below w.heap.size w wr) (fun _ i _ => l.length - (intOf i).toNat)
  case atStart => exact ⟨0, [], Nat.zero_le _, rfl, ⟨rfl, by simpa [tcs] using World.ownsRow_lit (base := w.heap.size) (e := 107) (size := 5) w #[] 0 (Nat.le_refl _) (by decide) rfl, fun u h => absurd h (by simp), fun i t u h => absurd h (by simp)⟩, below_new _ _⟩
  case round =>
    obtain ⟨k, us, hk, rfl, hts, hbl⟩ := hrel
    have HB := Hid.mk' hbl
    have lt_ : (l.take k).length = k := by rw [List.length_take]; omega
    by_cases hlt : k < l.length
    · have ci : (k : Int) < (l.length : Int) := by omega
      rcases HA.out with ha | ⟨b, o, rfl, hbs, hc⟩
      · exact absurd hlt (by rw [ha]; exact Nat.not_lt_zero _)
      obtain ⟨q1, q2, q3, ⟨p, d, q4, q5⟩, q6⟩ := hc k hlt
      have h1 := (hbl.cell hbs).trans q1
      have h2 := (hbl.cell hbs).trans q2
      have h3 := (hbl.cell hbs).trans q3
      have h4 := (hbl.cell hbs).trans q4
      have h6 := (hbl.cell hbs).trans q6
      have st := tssz_take l k hlt
      have sl := tssz_le l (k + 1)
      unfold tsz at st
      have N1 := below_new wr (.cells #[.int .i64 (tkK l k).kd, .int .i64 (tkK l k).by_, .string (tkK l k).nm, .slice p (tkK l k).at_.length d, .bool (tkK l k).sh] 107)
      have KA := Hid.mk' (l4CopyAttrs_own p d (tkK l k).at_ _ ((q5.below hbl).below N1) (by omega))
      have RT := Hid.mk' (row5 wr 107 (.int .i64 (tkK l k).kd) (.int .i64 (tkK l k).by_) (.string (tkK l k).nm) (.slice p (tkK l k).at_.length d) (.bool (tkK l k).sh))
      have HN := Hid.mk' N1
      have HT := Hid.mk' hts
      have E1 : Hid (l.take (k + 1) = l.take k ++ [tkK l k]) := Hid.mk' (by rw [List.take_succ_eq_append_getElem hlt]; unfold tkK; simp [hlt])
      obtain ⟨av, cv, ev, _⟩ := own_cap hts.row
      rw [lt_] at ev
      subst ev
      have ZW : Hid ((wr.alloc (.cells #[.int .i64 (tkK l k).kd, .int .i64 (tkK l k).by_, .string (tkK l k).nm, .slice p (tkK l k).at_.length d, .bool (tkK l k).sh] 107)).heap.size = wr.heap.size + 1) := Hid.mk' (by simp)
      clear q1 q2 q3 q4 q5 q6 hc st sl N1 hts hbl
      generalize hW : wr.alloc (.cells #[.int .i64 (tkK l k).kd, .int .i64 (tkK l k).by_, .string (tkK l k).nm, .slice p (tkK l k).at_.length d, .bool (tkK l k).sh] 107) = W at *
      obtain ⟨x0, x1, x2, x3, x4, x5⟩ := cells5 RT.out
      go_wp2_with fail
      clear hW h1 h2 h3 h4 h6 x0 x1 x2 x3 x4 x5
      refine KA.out.mono ?_
      rintro e w2 ⟨va, ats, rfl, oa, hb2⟩
      obtain ⟨pa, cb, rfl, _⟩ := own_cap oa.row
      have R2 := Hid.mk' (rowB RT.out hb2)
      have M2 := HN.out.trans (hb2.mono HN.out.size)
      have B3 : Below wr.heap.size wr (w2.setCell ⟨wr.heap.size, 3, none⟩ (.slice pa (tkK l k).at_.length cb)) := M2.setCell (p := ⟨wr.heap.size, 3, none⟩) (Nat.le_refl _) _
      have N4 := below_new (w2.setCell ⟨wr.heap.size, 3, none⟩ (.slice pa (tkK l k).at_.length cb)) (.cells #[.int .i64 (tkK l k).kd, .int .i64 (tkK l k).by_, .string (tkK l k).nm, .slice pa (tkK l k).at_.length cb, .bool (tkK l k).sh] 107)
      have B4 := Hid.mk' (B3.trans (N4.mono B3.size))
      have NC := Hid.mk' (new_cells' (w2.setCell ⟨wr.heap.size, 3, none⟩ (.slice pa (tkK l k).at_.length cb)) 107 [.int .i64 (tkK l k).kd, .int .i64 (tkK l k).by_, .string (tkK l k).nm, .slice pa (tkK l k).at_.length cb, .bool (tkK l k).sh] w2.heap.size (by simp))
      have OV := Hid.mk' (own_keep HT.out.row B4.out)
      have SZ : Hid (w.heap.size ≤ ((w2.setCell ⟨wr.heap.size, 3, none⟩ (.slice pa (tkK l k).at_.length cb)).alloc (.cells #[.int .i64 (tkK l k).kd, .int .i64 (tkK l k).by_, .string (tkK l k).nm, .slice pa (tkK l k).at_.length cb, .bool (tkK l k).sh] 107)).heap.size) := Hid.mk' (Nat.le_trans HB.out.size B4.out.size)
      have P1 : Hid (∀ u ∈ ([.int .i64 (tkK l k).kd, .int .i64 (tkK l k).by_, .string (tkK l k).nm, .slice pa (tkK l k).at_.length cb, .bool (tkK l k).sh] : List Value), u.oneCell' = true) := Hid.mk' (by
        intro u hu'
        simp only [List.mem_cons, List.not_mem_nil, or_false] at hu'
        rcases hu' with rfl | rfl | rfl | rfl | rfl <;> rfl)
      have TI : Hid (TokIn wr.heap.size ((w2.setCell ⟨wr.heap.size, 3, none⟩ (.slice pa (tkK l k).at_.length cb)).alloc (.cells #[.int .i64 (tkK l k).kd, .int .i64 (tkK l k).by_, .string (tkK l k).nm, .slice pa (tkK l k).at_.length cb, .bool (tkK l k).sh] 107)) (Value.slice av k cv).ownBlock (tkK l k) (.slice pa (tkK l k).at_.length cb)) := Hid.mk' (.inr ⟨W.heap.size, w2, ats, by rw [ZW.out]; omega, oa, by simp, fun q h5 h7 => (N4.block q (by simpa using h7)).trans (Below.heap_setCell _ _ _ _ (by rw [ZW.out] at h5; simp; omega)), fun q e => .inl (by have := (HT.out.row.lt q e).2; rw [ZW.out]; omega)⟩)
      obtain ⟨x0, x1, x2, x3, x4, x5⟩ := cells5 R2.out
      have f3 := R2.out.frozen 3
      clear B3 N4 M2 oa hb2 KA RT
      have OV2 : Hid (World.ownsRow ((w2.setCell ⟨wr.heap.size, 3, none⟩ (.slice pa (tkK l k).at_.length cb)).alloc (.cells #[.int .i64 (tkK l k).kd, .int .i64 (tkK l k).by_, .string (tkK l k).nm, .slice pa (tkK l k).at_.length cb, .bool (tkK l k).sh] 107)) w.heap.size 107 5 (.slice av k cv) k (tcs (l.take k) us)) := Hid.mk' (by have := OV.out; rwa [lt_] at this)
      go_wp2_with (at_builtin; refine wpList_append_at _ rfl (.tmp 21) (.tmp 23) 24 rfl w.heap.size 107 (.agg #[.int .i64 0, .int .i64 0, .string ⟨#[]⟩, .slice none 0 0, .bool false]) 5 64 Tryz.underlying24 Tryz.infoTok rfl (by decide) _ _ _ rfl OV2.out _ 1 _ [.int .i64 (tkK l k).kd, .int .i64 (tkK l k).by_, .string (tkK l k).nm, .slice pa (tkK l k).at_.length cb, .bool (tkK l k).sh] rfl rfl (.inr ⟨_, rfl, NC.out⟩) P1.out (by unfold maxLen; omega) (by omega) SZ.out ?_; intro v' w5 ho hgr hat)
      have T5 := HT.out.app (w1 := ((w2.setCell ⟨wr.heap.size, 3, none⟩ (.slice pa (tkK l k).at_.length cb)).alloc (.cells #[.int .i64 (tkK l k).kd, .int .i64 (tkK l k).by_, .string (tkK l k).nm, .slice pa (tkK l k).at_.length cb, .bool (tkK l k).sh] 107))) (w2 := w5) (v' := v') (ts1 := [tkK l k]) (us1 := [.slice pa (tkK l k).at_.length cb]) B4.out HB.out.size (fun i t u ht hu => by
        cases i with
        | succ i => simp at ht
        | zero => simp at ht hu; subst ht hu; exact TI.out) rfl (fun u hu => by rw [List.mem_singleton] at hu; rw [hu]; rfl) (by rw [lt_]; exact ho) hgr hat
      rw [← E1.out] at T5
      have HT5 := Hid.mk' T5
      have HB5 := Hid.mk' ((HB.out.trans (B4.out.mono HB.out.size)).grown hgr SZ.out (own_lo OV2.out))
      clear T5 ho hgr hat
      go_roundw
      case rel => exact ⟨k + 1, _, by omega, by go_num, HT5.out, HB5.out⟩
      case measure => simp [intOf]; omega
    · have ci : ¬ (k : Int) < (l.length : Int) := by omega
      have e : k = l.length := by omega
      subst e
      rw [List.take_length] at hts
      have HT := Hid.mk' hts
      clear hts hbl
      go_wp2
      go_ret
      exact ⟨_, rfl, ⟨us, HT.out⟩, HB.out⟩

end Go.Proofs.YtieeojhdidjnaaaGreatDoor
