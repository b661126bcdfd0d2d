/- A memo and an edit, drawn. -/
import Derived.Test.YtlimgcmhidooaaaGreatDoorM34
import Derived.Test.YtlimgcmhidooaaaGreatDoorM33
import Derived.Test.YtlimgcmhidooaaaGreatDoorM31
import Derived.Test.YtlimgcmhidooaaaGreatDoorM16
set_option maxHeartbeats 8000000
set_option maxRecDepth 100000
set_option linter.unusedVariables false
set_option linter.unusedSimpArgs false
namespace Go.Proofs.YtlimgcmhidooaaaGreatDoor
open Go.RowKit
def DrE (w : World) (e : Ending) (w' : World) : Prop :=
 ∃ (m : ME) (a t u c : Option Addr) (ca ct cu cc : Nat) (A N : Int) (p : List Int) (pe : Option Addr) (d : Nat), e = .returned (.tuple #[.agg #[.slice a m.dt.length ca, .int .i64 m.st, .slice t m.tk.length ct, .slice u m.hd.length cu, .slice c m.cs.length cc], .int .i64 A, .int .i64 N, .slice pe p.length d]) ∧ DM w.heap.size m a t u c ca ct cu cc w' ∧ DG m ∧ (∀ z : World, w'.heap.size ≤ z.heap.size → (∀ q, w.heap.size ≤ q → q < w'.heap.size → z.heap[q]? = w'.heap[q]?) → BAt z pe p) ∧ Byt p ∧ -1 ≤ A ∧ A ≤ 182 ∧ -1 ≤ N ∧ N ≤ 183 ∧ p.length ≤ 241 ∧ Below w.heap.size w w'
theorem l12Draw_dm (b k : Nat) (l : List Int) (w : World) (h : Src b l k w) (hk : k ≤ 9000) (hl : (l.length : Int) ≤ 1048576) :
  Calls Tryz.prog 73 #[.pointer (some ⟨b, 0, none⟩)] w fun e w' => DrM b k 13 l w e w' := by
 refine (l12Draw_any b k l w h (by omega) hl).mono ?_
 rintro e w2 ⟨d, s, k1, vd, vh, t, c, ct, cc, rfl, hd, by_, hs1, hs2, hk1, hN, hS2, hK2⟩
 obtain ⟨p1, q1, rfl⟩ := own_form hN.dt
 obtain ⟨p2_, q2_, rfl⟩ := own_form hN.hd
 exact ⟨⟨d, (s : Int), (allX [] [] d).1, (allX [] [] d).2, cksN d s (d.length / s + 1)⟩, p1, t, p2_, c, q1, ct, q2_, cc, k1, by simp [cksN_len], (hN.box (g := w2.heap.size) (Nat.le_refl _) (s : Int)).dm (Nat.le_refl _) (fun _ _ _ _ => rfl), (dg_new hd by_ hs1 (s : Int) (by omega) (by omega)).1, by omega, hS2, hK2⟩
theorem drawEM_any (a : Option Addr) (c : Nat) (l : List Int) (w : World) (ha : BAt w a l) (hu : ∀ i, i < l.length → 0 ≤ l.getD i 0 ∧ l.getD i 0 ≤ 255) (hl : (l.length : Int) ≤ 1048576) :
  Calls Tryz.prog 35 #[.slice a l.length c] w fun e w' => DrE w e w' := by
 have N0 := below_new w (.cells #[.slice none 0 0, .int .i64 0, .slice none 0 0, .slice none 0 0, .slice none 0 0] 27)
 have K := Hid.mk' (l1Source_any a c l _ (ha.below N0) hu)
 have B0 := Hid.mk' N0
 have R0 := Hid.mk' (RowA.new w 27 #[.slice none 0 0, .int .i64 0, .slice none 0 0, .slice none 0 0, .slice none 0 0])
 clear ha hu N0
 generalize hW : w.alloc (.cells #[.slice none 0 0, .int .i64 0, .slice none 0 0, .slice none 0 0, .slice none 0 0] 27) = W at *
 go_enter Tryz.func35, Tryz.ntmps35
 go_wp2_with fail
 clear hW
 refine K.out.mono ?_
 rintro e w1 ⟨rfl, hS, hb⟩
 have sW : w.heap.size < W.heap.size := R0.out.lt
 have R1 := Hid.mk' (R0.out.below hb)
 have B1 := Hid.mk' (B0.out.trans (hb.mono B0.out.size))
 have HS := Hid.mk' hS
 have hlt1 := hS.lt
 clear K hS hb B0 R0
 go_wp2_with fail
 refine (l12Draw_dm W.heap.size 0 l w1 HS.out (by omega) hl).mono ?_
 rintro e w2 ⟨m, pa, pt, pu, pc, qa, qt, qu, qc, k2, rfl, hDM, hDG, hk2, hS2, hK2⟩
 have N2 := below_new w2 (.cells #[.slice pa m.dt.length qa, .int .i64 m.st, .slice pt m.tk.length qt, .slice pu m.hd.length qu, .slice pc m.cs.length qc] 27)
 have sW2 := hK2.size
 have R2 : Hid (RowA (w2.alloc (.cells #[.slice pa m.dt.length qa, .int .i64 m.st, .slice pt m.tk.length qt, .slice pu m.hd.length qu, .slice pc m.cs.length qc] 27)) w.heap.size 27 #[.slice none 0 0, .int .i64 0, .slice none 0 0, .slice none 0 0, .slice none 0 0]) := Hid.mk' (RowA.below ((hK2.block _ (by omega) (.inl sW)).trans R1.out) N2)
 have M2 := Hid.mk' (RowA.new w2 27 #[.slice pa m.dt.length qa, .int .i64 m.st, .slice pt m.tk.length qt, .slice pu m.hd.length qu, .slice pc m.cs.length qc])
 have D2 := Hid.mk' (hDM.below N2)
 have S2 := Hid.mk' (hS2.below N2)
 have B2 := Hid.mk' ((hK2.up (Nat.le_of_lt sW) B1.out).trans (N2.mono (Nat.le_trans B1.out.size sW2)))
 have G2 := Hid.mk' hDG
 have ml := hDG.dl
 clear hDM hDG hS2 hK2 N2 HS R1 B1
 go_wp2_with (first | ((with_reducible refine wpList_store_row ?_ 27 (.tmp 7) (.tmp 9) ?_ w2.heap.size #[.slice pa m.dt.length qa, .int .i64 m.st, .slice pt m.tk.length qt, .slice pu m.hd.length qu, .slice pc m.cs.length qc] ?_ ?_ 27 _ (Deep.blk_alloc_new w2 _) ?_ ?_ ?_ ?_); rfl; rfl; rfl; rfl; kernel_rfl; rfl; kernel_rfl; rw [alloc_setRow]) | fail)
 generalize hV : w2.alloc (.cells #[.slice pa m.dt.length qa, .int .i64 m.st, .slice pt m.tk.length qt, .slice pu m.hd.length qu, .slice pc m.cs.length qc] 27) = V at *
 clear hV
 have sV : w2.heap.size < V.heap.size := M2.out.lt
 have bW2 : W.heap.size < w2.heap.size := by omega
 refine (l1Chance_any W.heap.size k2 l 8 V S2.out (by omega) (by decide) (by decide) hl).mono ?_
 rintro e w3 ⟨ch, rfl, hS3, hK3⟩
 have s3 := hK3.size
 have M3 : Hid (RowA w3 w2.heap.size 27 #[.slice pa m.dt.length qa, .int .i64 m.st, .slice pt m.tk.length qt, .slice pu m.hd.length qu, .slice pc m.cs.length qc]) := Hid.mk' ((hK3.block _ sV (.inr (by omega))).trans M2.out)
 have R3 : Hid (RowA w3 w.heap.size 27 #[.slice none 0 0, .int .i64 0, .slice none 0 0, .slice none 0 0, .slice none 0 0]) := Hid.mk' ((hK3.block _ (by omega) (.inl sW)).trans R2.out)
 have D3 := Hid.mk' (D2.out.kept hK3 hlt1)
 have S3 := Hid.mk' hS3
 have B3 := Hid.mk' (hK3.up (Nat.le_of_lt sW) B2.out)
 clear hS3 hK3 S2 B2 D2 M2 R2
 cases ch with
 | false =>
  have y0 := M3.out.cell 0 _ rfl
  go_wp2_with fail
  refine (l13With_any W.heap.size (k2 + 1) m.dt.length l _ S3.out (by omega) ml hl).mono ?_
  rintro e w4 ⟨A, N, p, v, k4, rfl, oP, loP, bp, a0, a1, n0, n1, pl, hk4, hS4, hK4⟩
  obtain ⟨pe, pd, rfl, hbp⟩ := oP.len
  have M4 : Hid (RowA w4 w2.heap.size 27 #[.slice pa m.dt.length qa, .int .i64 m.st, .slice pt m.tk.length qt, .slice pu m.hd.length qu, .slice pc m.cs.length qc]) := Hid.mk' ((hK4.block _ M3.out.lt (.inr (by omega))).trans M3.out)
  have R4 : Hid (RowA w4 w.heap.size 27 #[.slice none 0 0, .int .i64 0, .slice none 0 0, .slice none 0 0, .slice none 0 0]) := Hid.mk' ((hK4.block _ R3.out.lt (.inl sW)).trans R3.out)
  have D4 := Hid.mk' (D3.out.kept hK4 (by omega))
  have B4 := Hid.mk' (hK4.up (Nat.le_of_lt sW) B3.out)
  have P4 := Hid.mk' hbp
  have LP := Hid.mk' loP
  have OP4 := Hid.mk' oP
  have BP := Hid.mk' bp
  have sw3 := R3.out.lt
  clear hS4 hK4 S3 B3 D3 M3 R3 y0 oP loP hbp bp
  have HR := Hid.mk' (R4.out.put #[.slice pa m.dt.length qa, .int .i64 m.st, .slice pt m.tk.length qt, .slice pu m.hd.length qu, .slice pc m.cs.length qc])
  have DF := Hid.mk' ((D4.out.keep (w' := w4.setRow w.heap.size #[.slice pa m.dt.length qa, .int .i64 m.st, .slice pt m.tk.length qt, .slice pu m.hd.length qu, .slice pc m.cs.length qc]) (by rw [setRow_size]; exact Nat.le_refl _) (fun q h1 h2 => setRow_other _ _ _ _ (by omega))).mono (by omega : w.heap.size ≤ w1.heap.size))
  have BF := Hid.mk' (RowA.putBelow B4.out (Nat.le_refl w.heap.size) #[.slice pa m.dt.length qa, .int .i64 m.st, .slice pt m.tk.length qt, .slice pu m.hd.length qu, .slice pc m.cs.length qc])
  have PF : Hid (∀ z : World, (w4.setRow w.heap.size #[.slice pa m.dt.length qa, .int .i64 m.st, .slice pt m.tk.length qt, .slice pu m.hd.length qu, .slice pc m.cs.length qc]).heap.size ≤ z.heap.size → (∀ q, w.heap.size ≤ q → q < (w4.setRow w.heap.size #[.slice pa m.dt.length qa, .int .i64 m.st, .slice pt m.tk.length qt, .slice pu m.hd.length qu, .slice pc m.cs.length qc]).heap.size → z.heap[q]? = (w4.setRow w.heap.size #[.slice pa m.dt.length qa, .int .i64 m.st, .slice pt m.tk.length qt, .slice pu m.hd.length qu, .slice pc m.cs.length qc]).heap[q]?) → BAt z pe p) := Hid.mk' (fun z hz hzk => by
   obtain ⟨_, _, e5, h5⟩ := (OP4.out.keep (w' := z) (fun q e hq => (hzk q (by have := LP.out q e; omega) (by rw [setRow_size]; exact hq)).trans (setRow_other _ _ _ _ (by have := LP.out q e; omega)))).len
   injection e5 with e5 _ _
   rw [e5]; exact h5)
  go_wp2_with (first | ((with_reducible refine wpList_load_row ?_ 27 (.tmp 7) ?_ w2.heap.size ?_ 27 #[.slice pa m.dt.length qa, .int .i64 m.st, .slice pt m.tk.length qt, .slice pu m.hd.length qu, .slice pc m.cs.length qc] (0, 0) _ ?_ Tryz.underlying27 ?_ ?_ ?_); rfl; rfl; rfl; exact M4.out; rfl; kernel_rfl) | ((with_reducible refine wpList_store_row ?_ 27 (.tmp 2) (.tmp 28) ?_ w.heap.size #[.slice pa m.dt.length qa, .int .i64 m.st, .slice pt m.tk.length qt, .slice pu m.hd.length qu, .slice pc m.cs.length qc] ?_ ?_ 27 #[.slice none 0 0, .int .i64 0, .slice none 0 0, .slice none 0 0, .slice none 0 0] ?_ ?_ ?_ ?_ ?_); rfl; rfl; rfl; rfl; exact R4.out; kernel_rfl; rfl; kernel_rfl) | fail)
  refine bodyPost_ret (v := .tuple #[.agg #[.slice pa m.dt.length qa, .int .i64 m.st, .slice pt m.tk.length qt, .slice pu m.hd.length qu, .slice pc m.cs.length qc], .int .i64 A, .int .i64 N, .slice pe p.length pd]) ?_ ?_ ?_
  ·have v0 := HR.out.cell 0 _ rfl
   have v1 := HR.out.cell 1 _ rfl
   have v2 := HR.out.cell 2 _ rfl
   have v3 := HR.out.cell 3 _ rfl
   have v4 := HR.out.cell 4 _ rfl
   simp [results, Tryz.results35, go_sem, v0, v1, v2, v3, v4]
  ·rfl
  exact ⟨m, pa, pt, pu, pc, qa, qt, qu, qc, A, N, p, pe, pd, rfl, DF.out, G2.out, PF.out, BP.out, a0, a1, n0, n1, pl, BF.out⟩
 | true =>
  go_wp2_with fail
  refine (l12Bent_any W.heap.size (k2 + 1) l w3 S3.out (by omega) hl).mono ?_
  rintro e w5 ⟨m5, pa5, pt5, pu5, pc5, qa5, qt5, qu5, qc5, k5, rfl, hDM, hDG, hk5, hS5, hK5⟩
  have M5 : Hid (RowA w5 w2.heap.size 27 #[.slice pa m.dt.length qa, .int .i64 m.st, .slice pt m.tk.length qt, .slice pu m.hd.length qu, .slice pc m.cs.length qc]) := Hid.mk' ((hK5.block _ M3.out.lt (.inr (by omega))).trans M3.out)
  have R5 : Hid (RowA w5 w.heap.size 27 #[.slice none 0 0, .int .i64 0, .slice none 0 0, .slice none 0 0, .slice none 0 0]) := Hid.mk' ((hK5.block _ R3.out.lt (.inl sW)).trans R3.out)
  have M6 := Hid.mk' (M5.out.put #[.slice pa5 m5.dt.length qa5, .int .i64 m5.st, .slice pt5 m5.tk.length qt5, .slice pu5 m5.hd.length qu5, .slice pc5 m5.cs.length qc5])
  have R6 := Hid.mk' (RowA.otherRow R5.out (show w.heap.size ≠ w2.heap.size by omega) #[.slice pa5 m5.dt.length qa5, .int .i64 m5.st, .slice pt5 m5.tk.length qt5, .slice pu5 m5.hd.length qu5, .slice pc5 m5.cs.length qc5])
  have g3 := M3.out.lt
  have K6 := RowA.keptRow w5 w2.heap.size #[.slice pa5 m5.dt.length qa5, .int .i64 m5.st, .slice pt5 m5.tk.length qt5, .slice pu5 m5.hd.length qu5, .slice pc5 m5.cs.length qc5]
  have D6 := Hid.mk' (hDM.keep (w' := w5.setRow w2.heap.size #[.slice pa5 m5.dt.length qa5, .int .i64 m5.st, .slice pt5 m5.tk.length qt5, .slice pu5 m5.hd.length qu5, .slice pc5 m5.cs.length qc5]) K6.size (fun q h1 h2 => setRow_other _ _ _ _ (by omega)))
  have S6 := Hid.mk' (hS5.kept K6 bW2)
  have B6 := Hid.mk' (RowA.putBelow (hK5.up (Nat.le_of_lt sW) B3.out) (show w.heap.size ≤ w2.heap.size by omega) #[.slice pa5 m5.dt.length qa5, .int .i64 m5.st, .slice pt5 m5.tk.length qt5, .slice pu5 m5.hd.length qu5, .slice pc5 m5.cs.length qc5])
  have G6 := Hid.mk' hDG
  have ml5 := hDG.dl
  have lo5 : W.heap.size < w3.heap.size := by omega
  clear hDM hDG hS5 hK5 S3 B3 D3 M3 R3 G2 ml K6
  have y0 := M6.out.cell 0 _ rfl
  go_wp2_with (first | ((with_reducible refine wpList_store_row ?_ 27 (.tmp 7) (.tmp 18) ?_ w2.heap.size #[.slice pa5 m5.dt.length qa5, .int .i64 m5.st, .slice pt5 m5.tk.length qt5, .slice pu5 m5.hd.length qu5, .slice pc5 m5.cs.length qc5] ?_ ?_ 27 #[.slice pa m.dt.length qa, .int .i64 m.st, .slice pt m.tk.length qt, .slice pu m.hd.length qu, .slice pc m.cs.length qc] ?_ ?_ ?_ ?_ ?_); rfl; rfl; rfl; rfl; exact M5.out; kernel_rfl; rfl; kernel_rfl) | fail)
  generalize hU : w5.setRow w2.heap.size #[.slice pa5 m5.dt.length qa5, .int .i64 m5.st, .slice pt5 m5.tk.length qt5, .slice pu5 m5.hd.length qu5, .slice pc5 m5.cs.length qc5] = w6 at *
  clear hU y0
  have y0 : True := trivial
  have M3 := M6
  have R3 := R6
  have D3 := D6
  have S3 := S6
  have B3 := B6
  refine (l13With_any W.heap.size k5 m5.dt.length l _ S3.out (by omega) ml5 hl).mono ?_
  rintro e w4 ⟨A, N, p, v, k4, rfl, oP, loP, bp, a0, a1, n0, n1, pl, hk4, hS4, hK4⟩
  obtain ⟨pe, pd, rfl, hbp⟩ := oP.len
  have M4 : Hid (RowA w4 w2.heap.size 27 #[.slice pa5 m5.dt.length qa5, .int .i64 m5.st, .slice pt5 m5.tk.length qt5, .slice pu5 m5.hd.length qu5, .slice pc5 m5.cs.length qc5]) := Hid.mk' ((hK4.block _ M3.out.lt (.inr (by omega))).trans M3.out)
  have R4 : Hid (RowA w4 w.heap.size 27 #[.slice none 0 0, .int .i64 0, .slice none 0 0, .slice none 0 0, .slice none 0 0]) := Hid.mk' ((hK4.block _ R3.out.lt (.inl sW)).trans R3.out)
  have D4 := Hid.mk' (D3.out.kept hK4 lo5)
  have B4 := Hid.mk' (hK4.up (Nat.le_of_lt sW) B3.out)
  have P4 := Hid.mk' hbp
  have LP := Hid.mk' loP
  have OP4 := Hid.mk' oP
  have BP := Hid.mk' bp
  have sw3 := R3.out.lt
  clear hS4 hK4 S3 B3 D3 M3 R3 y0 oP loP hbp bp
  have HR := Hid.mk' (R4.out.put #[.slice pa5 m5.dt.length qa5, .int .i64 m5.st, .slice pt5 m5.tk.length qt5, .slice pu5 m5.hd.length qu5, .slice pc5 m5.cs.length qc5])
  have DF := Hid.mk' ((D4.out.keep (w' := w4.setRow w.heap.size #[.slice pa5 m5.dt.length qa5, .int .i64 m5.st, .slice pt5 m5.tk.length qt5, .slice pu5 m5.hd.length qu5, .slice pc5 m5.cs.length qc5]) (by rw [setRow_size]; exact Nat.le_refl _) (fun q h1 h2 => setRow_other _ _ _ _ (by omega))).mono (by omega : w.heap.size ≤ w3.heap.size))
  have BF := Hid.mk' (RowA.putBelow B4.out (Nat.le_refl w.heap.size) #[.slice pa5 m5.dt.length qa5, .int .i64 m5.st, .slice pt5 m5.tk.length qt5, .slice pu5 m5.hd.length qu5, .slice pc5 m5.cs.length qc5])
  have PF : Hid (∀ z : World, (w4.setRow w.heap.size #[.slice pa5 m5.dt.length qa5, .int .i64 m5.st, .slice pt5 m5.tk.length qt5, .slice pu5 m5.hd.length qu5, .slice pc5 m5.cs.length qc5]).heap.size ≤ z.heap.size → (∀ q, w.heap.size ≤ q → q < (w4.setRow w.heap.size #[.slice pa5 m5.dt.length qa5, .int .i64 m5.st, .slice pt5 m5.tk.length qt5, .slice pu5 m5.hd.length qu5, .slice pc5 m5.cs.length qc5]).heap.size → z.heap[q]? = (w4.setRow w.heap.size #[.slice pa5 m5.dt.length qa5, .int .i64 m5.st, .slice pt5 m5.tk.length qt5, .slice pu5 m5.hd.length qu5, .slice pc5 m5.cs.length qc5]).heap[q]?) → BAt z pe p) := Hid.mk' (fun z hz hzk => by
   obtain ⟨_, _, e5, h5⟩ := (OP4.out.keep (w' := z) (fun q e hq => (hzk q (by have := LP.out q e; omega) (by rw [setRow_size]; exact hq)).trans (setRow_other _ _ _ _ (by have := LP.out q e; omega)))).len
   injection e5 with e5 _ _
   rw [e5]; exact h5)
  go_wp2_with (first | ((with_reducible refine wpList_load_row ?_ 27 (.tmp 7) ?_ w2.heap.size ?_ 27 #[.slice pa5 m5.dt.length qa5, .int .i64 m5.st, .slice pt5 m5.tk.length qt5, .slice pu5 m5.hd.length qu5, .slice pc5 m5.cs.length qc5] (0, 0) _ ?_ Tryz.underlying27 ?_ ?_ ?_); rfl; rfl; rfl; exact M4.out; rfl; kernel_rfl) | ((with_reducible refine wpList_store_row ?_ 27 (.tmp 2) (.tmp 28) ?_ w.heap.size #[.slice pa5 m5.dt.length qa5, .int .i64 m5.st, .slice pt5 m5.tk.length qt5, .slice pu5 m5.hd.length qu5, .slice pc5 m5.cs.length qc5] ?_ ?_ 27 #[.slice none 0 0, .int .i64 0, .slice none 0 0, .slice none 0 0, .slice none 0 0] ?_ ?_ ?_ ?_ ?_); rfl; rfl; rfl; rfl; exact R4.out; kernel_rfl; rfl; kernel_rfl) | fail)
  refine bodyPost_ret (v := .tuple #[.agg #[.slice pa5 m5.dt.length qa5, .int .i64 m5.st, .slice pt5 m5.tk.length qt5, .slice pu5 m5.hd.length qu5, .slice pc5 m5.cs.length qc5], .int .i64 A, .int .i64 N, .slice pe p.length pd]) ?_ ?_ ?_
  ·have v0 := HR.out.cell 0 _ rfl
   have v1 := HR.out.cell 1 _ rfl
   have v2 := HR.out.cell 2 _ rfl
   have v3 := HR.out.cell 3 _ rfl
   have v4 := HR.out.cell 4 _ rfl
   simp [results, Tryz.results35, go_sem, v0, v1, v2, v3, v4]
  ·rfl
  exact ⟨m5, pa5, pt5, pu5, pc5, qa5, qt5, qu5, qc5, A, N, p, pe, pd, rfl, DF.out, G6.out, PF.out, BP.out, a0, a1, n0, n1, pl, BF.out⟩
def DrS (w : World) (e : Ending) (w' : World) : Prop :=
 ∃ (D : List Int) (g c : Nat) (A N : Int) (p : List Int) (pe : Option Addr) (d : Nat), e = .returned (.tuple #[.slice (some ⟨g, 0, none⟩) D.length c, .int .i64 A, .int .i64 N, .slice pe p.length d]) ∧ CAt w' g 0 D ∧ D.length ≤ c ∧ D.length ≤ 181 ∧ Byt D ∧ BAt w' pe p ∧ Byt p ∧ -1 ≤ A ∧ A ≤ 182 ∧ -1 ≤ N ∧ N ≤ 183 ∧ p.length ≤ 241 ∧ Below w.heap.size w w'
theorem drawSB_any (a : Option Addr) (c : Nat) (l : List Int) (w : World) (ha : BAt w a l) (hu : ∀ i, i < l.length → 0 ≤ l.getD i 0 ∧ l.getD i 0 ≤ 255) (hl : (l.length : Int) ≤ 1048576) :
  Calls Tryz.prog 36 #[.slice a l.length c] w fun e w' => DrS w e w' := by
 have K := Hid.mk' (l1Source_any a c l w ha hu)
 clear ha hu
 go_enter Tryz.func36, Tryz.ntmps36
 go_wp2_with fail
 refine K.out.mono ?_
 rintro e w1 ⟨rfl, hS, hb⟩
 have HB := Hid.mk' hb
 have HS := Hid.mk' hS
 have hlt1 := hS.lt
 clear K hS hb
 go_wp2_with fail
 refine (l1Marked_sm w.heap.size 0 8 l w1 HS.out (by decide) (by decide) (by decide) hl).mono ?_
 rintro e w3 ⟨v, out, k3, rfl, ol, hk3, hD, hsm⟩
 obtain ⟨g3, c3, rfl, hc3, hg3, hcat⟩ := own_some hD.own hsm
 have HB3 := Hid.mk' (hD.kept.below' w (Nat.le_refl _) HB.out)
 have O3 := Hid.mk' hcat
 have U3 := Hid.mk' (byt_of_mem hD.u8)
 have HS3 := Hid.mk' hD.src
 have hlt3 := hD.src.lt
 clear HB HS hD hsm hcat
 go_wp2_with fail
 refine (l13With_any w.heap.size k3 out.length l w3 HS3.out (by omega) (by omega) hl).mono ?_
 rintro e w4 ⟨A, N, p, vp, k4, rfl, hop, -, hpb, xa, ya, xn, yn, lp, -, -, hK4⟩
 obtain ⟨pe, d, rfl, hpe⟩ := hop.len
 have HB4 := Hid.mk' (hK4.below' w (Nat.le_refl _) HB3.out)
 have O4 := Hid.mk' (cat_kept O3.out hK4 (by omega))
 have P4 := Hid.mk' hpe
 have Q4 := Hid.mk' hpb
 clear hK4 HB3 HS3 O3 hop hpe hpb
 go_wp2
 refine bodyPost_ret (v := .tuple #[.slice (some ⟨g3, 0, none⟩) out.length c3, .int .i64 A, .int .i64 N, .slice pe p.length d]) ?_ ?_ ?_
 ·simp [results, Tryz.results36, go_sem]
 ·rfl
 exact ⟨out, g3, c3, A, N, p, pe, d, rfl, O4.out, hc3, by omega, U3.out, P4.out, Q4.out, xa, ya, xn, yn, lp, HB4.out⟩
theorem eM_leE (m : ME) (A N : Int) (p : List Int) : (msz (eM m A N p) : Int) ≤ 1048576 := by
 unfold eM
 split
 ·rename_i h
  obtain ⟨h1, h2⟩ := edC_ok h
  obtain ⟨g1, g2, g3, g4⟩ := spC_zero h2
  obtain ⟨h240, -⟩ := memF_ok h1
  have := mem_small (spl m.dt A.toNat N.toNat p) m.st.toNat (by rw [spl_len (by omega)]; omega)
  omega
 ·decide
def EdB (m : ME) (A N : Int) (p : List Int) (V : World) (e : Ending) (w' : World) : Prop :=
 ∃ (y1 y2 y3 y4 : Option Addr) (y5 y6 y7 y8 : Nat), e = .returned (.agg #[.int .i64 (edC m A N p), .int .i64 (eR m A N p), .slice y1 (eM m A N p).dt.length y5, .int .i64 (eM m A N p).st, .slice y2 (eM m A N p).tk.length y6, .slice y3 (eM m A N p).hd.length y7, .slice y4 (eM m A N p).cs.length y8]) ∧ (∀ z : World, w'.heap.size ≤ z.heap.size → (∀ q, V.heap.size ≤ q → q < w'.heap.size → z.heap[q]? = w'.heap[q]?) → MAt z y1 y2 y3 y4 (eM m A N p)) ∧ (eM m A N p).dt.length ≤ y5 ∧ Below V.heap.size V w'
theorem edB_of {m : ME} {a t u c : Option Addr} {ca ct cu cc : Nat} {A N : Int} {e : Option Addr} {d : Nat} {p : List Int} {V : World} (h : Calls Tryz.prog 23 #[.agg #[.slice a m.dt.length ca, .int .i64 m.st, .slice t m.tk.length ct, .slice u m.hd.length cu, .slice c m.cs.length cc], .int .i64 A, .int .i64 N, .slice e p.length d] V fun ev w' => ∃ tau vd tv hv cv us rs bl bh hvs, ev = .returned (.agg #[.int .i64 (edC m A N p), .int .i64 (eR m A N p), vd, .int .i64 (eM m A N p).st, tv, hv, cv]) ∧ GM V.heap.size w'.heap.size tau (eM m A N p) vd tv hv cv us rs bl bh hvs w' ∧ Below V.heap.size V w') :
  Calls Tryz.prog 23 #[.agg #[.slice a m.dt.length ca, .int .i64 m.st, .slice t m.tk.length ct, .slice u m.hd.length cu, .slice c m.cs.length cc], .int .i64 A, .int .i64 N, .slice e p.length d] V fun ev w' => EdB m A N p V ev w' := by
 refine h.mono ?_
 rintro e w' ⟨tau, vd, tv, hv, cv, us, rs, bl, bh, hvs, rfl, gm, hb⟩
 obtain ⟨y1, y5, rfl, -, hc⟩ := gm.d.lenc
 obtain ⟨z1, y2, y3, y4, z5, y6, y7, y8, e1, rfl, rfl, rfl, -⟩ := gm.at
 injection e1 with e1 _ _
 subst e1
 refine ⟨_, _, _, _, _, _, _, _, rfl, fun z hz hzk => ?_, hc, hb⟩
 obtain ⟨_, _, _, _, _, _, _, _, e1, e2, e3, e4, h⟩ := (gm.keepIn hz hzk).at
 simp only [Value.slice.injEq] at e1 e2 e3 e4
 obtain ⟨rfl, -⟩ := e1
 obtain ⟨rfl, -⟩ := e2
 obtain ⟨rfl, -⟩ := e3
 obtain ⟨rfl, -⟩ := e4
 exact h
theorem fBR0 (c : Int) (v : Option Addr) (n d : Nat) (w : World) : (Instr.field 64 (.agg #[.int .i64 c, .slice v n d]) 0).run Tryz.prog w = .ok (.int .i64 c) w := by kernel_rfl
theorem fBR1 (c : Int) (v : Option Addr) (n d : Nat) (w : World) : (Instr.field 64 (.agg #[.int .i64 c, .slice v n d]) 1).run Tryz.prog w = .ok (.slice v n d) w := by kernel_rfl
theorem lawFE_any (q : Option Addr) (c' : Nat) (l : List Int) (tp : TypeId) (pv : Value) (w : World) (hE : Env w.heap.size tp pv w) (hd : BAt w q l) (hu : Byt l) (hl : (l.length : Int) ≤ 9223372036854775807) :
  Calls Tryz.prog 6 #[.slice q l.length c'] w fun e w' => e = .returned (.bool true) ∧ Below w.heap.size w w' := by
 have K0 := Hid.mk' (lwBigF_any q c' l.length w)
 by_cases g1 : (1048576 : Int) < (l.length : Int)
 ·go_enter Tryz.func6, Tryz.ntmps6
  go_wp2_with fail
  refine K0.out.mono ?_
  rintro e w1 ⟨rfl, hw1⟩
  obtain rfl := hw1.symm
  rw [decide_eq_true g1]
  go_wp2
  go_ret
  exact ⟨rfl, Below.refl _ _⟩
 have ll : (l.length : Int) ≤ 1048576 := by omega
 have HE := Hid.mk' hE
 have KA := Hid.mk' (drawEM_any q c' l w hd hu ll)
 have KB := Hid.mk' (fun W (hW : Below w.heap.size w W) => drawSB_any q c' l W (hd.below hW) hu ll)
 clear hd hu hE
 go_enter Tryz.func6, Tryz.ntmps6
 go_wp2_with fail
 refine K0.out.mono ?_
 rintro e w1 ⟨rfl, hw1⟩
 obtain rfl := hw1.symm
 rw [decide_eq_false (show ¬ (1048576 : Int) < (l.length : Int) by omega)]
 clear K0 g1 hw1
 go_wp2_with fail
 refine KA.out.mono ?_
 rintro e w2 ⟨m1, a1, t1, u1, c1, ca1, ct1, cu1, cc1, A1, N1, p1, e1, d1, rfl, hM1, hG1, hP1, bp1, xa1, ya1, xn1, yn1, lp1, hb2⟩
 have N2 := below_new w2 (.cells #[.slice a1 m1.dt.length ca1, .int .i64 m1.st, .slice t1 m1.tk.length ct1, .slice u1 m1.hd.length cu1, .slice c1 m1.cs.length cc1] 27)
 have BB := Hid.mk' (hb2.trans (N2.mono hb2.size))
 have DM1 := Hid.mk' (hM1.below N2)
 have BP1 : Hid (∀ z, Below (w2.alloc (.cells #[.slice a1 m1.dt.length ca1, .int .i64 m1.st, .slice t1 m1.tk.length ct1, .slice u1 m1.hd.length cu1, .slice c1 m1.cs.length cc1] 27)).heap.size (w2.alloc (.cells #[.slice a1 m1.dt.length ca1, .int .i64 m1.st, .slice t1 m1.tk.length ct1, .slice u1 m1.hd.length cu1, .slice c1 m1.cs.length cc1] 27)) z → BAt z e1 p1) := Hid.mk' (fun z hz => hP1 z (Nat.le_trans N2.size hz.size) (fun q _ h2 => (hz.block q (Nat.lt_of_lt_of_le h2 N2.size)).trans (N2.block q h2)))
 have G1 := Hid.mk' hG1
 have Q1 := Hid.mk' bp1
 have R1 := Hid.mk' (row5 w2 27 (.slice a1 m1.dt.length ca1) (.int .i64 m1.st) (.slice t1 m1.tk.length ct1) (.slice u1 m1.hd.length cu1) (.slice c1 m1.cs.length cc1))
 have ml1 := hG1.dl
 clear hM1 hG1 hP1 bp1 hb2 N2 KA
 generalize hW2 : w2.alloc (.cells #[.slice a1 m1.dt.length ca1, .int .i64 m1.st, .slice t1 m1.tk.length ct1, .slice u1 m1.hd.length cu1, .slice c1 m1.cs.length cc1] 27) = W2 at *
 obtain ⟨x0, x1, x2, x3, x4, x5⟩ := cells5 R1.out
 have b1a : -9223372036854775808 ≤ A1 := by omega
 have b1b : A1 ≤ 9223372036854775807 := by omega
 have b1c : -9223372036854775808 ≤ N1 := by omega
 have b1d : N1 ≤ 9223372036854775807 := by omega
 have hz1 : (msz m1 : Int) ≤ 1048576 := by have := G1.out.sz; omega
 have hp1 : p1.length ≤ 1048576 := by omega
 have EN : Hid (∀ V, Below W2.heap.size W2 V → Env V.heap.size tp pv V) := Hid.mk' (fun V hV => (HE.out.keep (BB.out.trans (hV.mono BB.out.size))).up (Nat.le_trans BB.out.size hV.size) (Nat.le_refl _))
 have KE : Hid (∀ V, Below W2.heap.size W2 V → Calls Tryz.prog 23 #[.agg #[.slice a1 m1.dt.length ca1, .int .i64 m1.st, .slice t1 m1.tk.length ct1, .slice u1 m1.hd.length cu1, .slice c1 m1.cs.length cc1], .int .i64 A1, .int .i64 N1, .slice e1 p1.length d1] V fun e w' => EdB m1 A1 N1 p1 V e w') := Hid.mk' (fun V hV => edB_of (implEM_any tp pv m1 a1 t1 u1 c1 ca1 ct1 cu1 cc1 A1 N1 e1 d1 p1 V (EN.out V hV) (DM1.out.below hV).now DM1.out.ka G1.out.ub Q1.out hz1 (BP1.out V hV) hp1 b1a b1b b1c b1d))
 have KES : Hid (∀ V, Below W2.heap.size W2 V → Calls Tryz.prog 39 #[.agg #[.slice a1 m1.dt.length ca1, .int .i64 m1.st, .slice t1 m1.tk.length ct1, .slice u1 m1.hd.length cu1, .slice c1 m1.cs.length cc1], .int .i64 A1, .int .i64 N1, .slice e1 p1.length d1] V fun e w' => ∃ (y1 y2 y3 y4 : Option Addr) (y5 y6 y7 y8 : Nat), e = .returned (.agg #[.int .i64 (edC m1 A1 N1 p1), .int .i64 (eR m1 A1 N1 p1), .slice y1 (eM m1 A1 N1 p1).dt.length y5, .int .i64 (eM m1 A1 N1 p1).st, .slice y2 (eM m1 A1 N1 p1).tk.length y6, .slice y3 (eM m1 A1 N1 p1).hd.length y7, .slice y4 (eM m1 A1 N1 p1).cs.length y8]) ∧ Below V.heap.size V w') := Hid.mk' (fun V hV => (specEM_dm m1 a1 t1 u1 c1 ca1 ct1 cu1 cc1 A1 N1 e1 d1 p1 V (DM1.out.below hV).now DM1.out.ka DM1.out.kt DM1.out.af DM1.out.tf DM1.out.cf (BP1.out V hV) Q1.out G1.out.ub G1.out.cb G1.out.tb G1.out.hb hz1 hp1 b1a b1b b1c b1d).mono (fun e w' h => by
  obtain ⟨y1, y2, y3, y4, y5, y6, y7, y8, rfl, -, hb⟩ := h
  exact ⟨_, _, _, _, _, _, _, _, rfl, hb⟩))
 go_wp2_with fail
 clear hW2
 refine (KE.out W2 (Below.refl _ _)).mono ?_
 rintro e w3 ⟨y1, y2, y3, y4, y5, y6, y7, y8, rfl, hM3, hc3, hb3⟩
 obtain ⟨C1, hC1⟩ : ∃ C1, edC m1 A1 N1 p1 = C1 := ⟨_, rfl⟩
 have MATH := Hid.mk' (fun h : C1 = 0 => bk_math (hC1.trans h))
 have sz3 := eM_leE m1 A1 N1 p1
 rw [hC1] at KES ⊢
 generalize hm3 : eM m1 A1 N1 p1 = m3 at *
 generalize eR m1 A1 N1 p1 = Z1 at *
 have N3 := below_new w3 (.cells #[.int .i64 C1, .int .i64 Z1, .slice y1 m3.dt.length y5, .int .i64 m3.st, .slice y2 m3.tk.length y6, .slice y3 m3.hd.length y7, .slice y4 m3.cs.length y8] 50)
 have HB := Hid.mk' (hb3.trans (N3.mono hb3.size))
 have R1 := Hid.mk' (rowB R1.out HB.out)
 have RE := Hid.mk' (row7 w3 50 (.int .i64 C1) (.int .i64 Z1) (.slice y1 m3.dt.length y5) (.int .i64 m3.st) (.slice y2 m3.tk.length y6) (.slice y3 m3.hd.length y7) (.slice y4 m3.cs.length y8))
 have M3 := Hid.mk' (hM3 _ N3.size (fun q _ h2 => N3.block q h2))
 have HC1 := Hid.mk' hC1
 clear hb3 N3 hM3 hC1 x0 x1 x2 x3 x4 x5
 generalize hW3 : w3.alloc (.cells #[.int .i64 C1, .int .i64 Z1, .slice y1 m3.dt.length y5, .int .i64 m3.st, .slice y2 m3.tk.length y6, .slice y3 m3.hd.length y7, .slice y4 m3.cs.length y8] 50) = W3 at *
 obtain ⟨x0, x1, x2, x3, x4, x5⟩ := cells5 R1.out
 obtain ⟨z0, z1, z2, z3, z4, z5, z6, z7⟩ := cells7 RE.out
 go_wp2_with fail
 clear hW3
 refine (KB.out W3 (BB.out.trans (HB.out.mono BB.out.size))).mono ?_
 rintro e w4 ⟨D, g4, c4, A4, N4, p4, pe4, d4, rfl, hD4, hc4, hl4, hu4, hp4, hpu4, xa4, ya4, xn4, yn4, lp4, hb4⟩
 have HB := Hid.mk' (HB.out.trans (hb4.mono HB.out.size))
 have R1 := Hid.mk' (rowB R1.out hb4)
 have RE := Hid.mk' (rowB RE.out hb4)
 have M3 := Hid.mk' (M3.out.below hb4)
 have HD4 := Hid.mk' hD4
 have HP4 := Hid.mk' hp4
 obtain ⟨CS, hCS⟩ : ∃ CS, spC D.length A4 N4 p4.length = CS := ⟨_, rfl⟩
 obtain ⟨SB, hSB⟩ : ∃ SB, spB D A4 N4 p4 = SB := ⟨_, rfl⟩
 have KSI : Hid (∀ V, Below w4.heap.size w4 V → Calls Tryz.prog 37 #[.slice (some ⟨g4, 0, none⟩) D.length c4, .int .i64 A4, .int .i64 N4, .slice pe4 p4.length d4] V fun e w' => ∃ v, e = .returned (.agg #[.int .i64 CS, v]) ∧ OB w' v SB ∧ In V.heap.size w'.heap.size v ∧ Below V.heap.size V w') := Hid.mk' (fun V hV => by
  have K := implSBb_any g4 0 c4 D A4 N4 pe4 d4 p4 V (HD4.out.below hV).at hc4 (HP4.out.below hV) (by omega) (by omega) (by omega) (by omega) (by omega) (by omega)
  rw [hCS, hSB] at K
  exact K)
 have KSS : Hid (∀ V, Below w4.heap.size w4 V → Calls Tryz.prog 38 #[.slice (some ⟨g4, 0, none⟩) D.length c4, .int .i64 A4, .int .i64 N4, .slice pe4 p4.length d4] V fun e w' => ∃ v, e = .returned (.agg #[.int .i64 CS, v]) ∧ OB w' v SB ∧ In V.heap.size w'.heap.size v ∧ Below V.heap.size V w') := Hid.mk' (fun V hV => by
  have K := specSB_any g4 0 c4 D A4 N4 pe4 d4 p4 V (HD4.out.below hV) hc4 (HP4.out.below hV) (by omega) (by omega) (by omega) (by omega) (by omega) (by omega)
  rw [hCS, hSB] at K
  exact K)
 clear hCS hSB hD4 hp4 hb4 KB xa4 ya4 xn4 yn4 lp4 hu4 hpu4 hl4 hc4 x0 x1 x2 x3 x4 x5 z0 z1 z2 z3 z4 z5 z6 z7
 go_wp2_with fail
 refine (KSI.out w4 (Below.refl _ _)).mono ?_
 rintro e w5 ⟨v5, rfl, hob, -, hb5⟩
 obtain ⟨sa, sc, rfl, hsa, hsc⟩ := hob.lenc
 have N5 := below_new w5 (.cells #[.int .i64 CS, .slice sa SB.length sc] 64)
 have M5 := hb5.trans (N5.mono hb5.size)
 have H45 := Hid.mk' M5
 have HB := Hid.mk' (HB.out.trans (M5.mono HB.out.size))
 have R1 := Hid.mk' (rowB R1.out M5)
 have RE := Hid.mk' (rowB RE.out M5)
 have M3 := Hid.mk' (M3.out.below M5)
 have RS := Hid.mk' (rowQ2 w5 64 (.int .i64 CS) (.slice sa SB.length sc))
 have HSA := Hid.mk' (hsa.below N5)
 clear hob hsa hb5 N5 M5 KSI
 generalize hW5 : w5.alloc (.cells #[.int .i64 CS, .slice sa SB.length sc] 64) = W5 at *
 have K7S : Hid (∀ V, Below W5.heap.size W5 V → Calls Tryz.prog 38 #[.slice (some ⟨g4, 0, none⟩) D.length c4, .int .i64 A4, .int .i64 N4, .slice pe4 p4.length d4] V fun e w' => ∃ a c, e = .returned (.agg #[.int .i64 CS, .slice a SB.length c]) ∧ BAt w' a SB ∧ Below W5.heap.size W5 w') := Hid.mk' (fun V hV => (KSS.out V (H45.out.trans (hV.mono H45.out.size))).mono (fun e w' h => by
  obtain ⟨v, rfl, ho, -, hb⟩ := h
  obtain ⟨a, c, rfl, ha, -⟩ := ho.lenc
  exact ⟨a, c, rfl, ha, hV.trans (hb.mono hV.size)⟩))
 have K7L : Hid (∀ V a c, Below W5.heap.size W5 V → BAt V a SB → Calls Tryz.prog 34 #[.slice sa SB.length sc, .slice a SB.length c] V fun e w' => e = .returned (.bool true) ∧ w' = V) := Hid.mk' (fun V a c hV ha => (lwBytes_beqE sa a sc c SB SB V (HSA.out.below hV) ha).mono (fun e w' h => ⟨by rw [h.1, beqB_refl], h.2⟩))
 have HC7 : Hid (∀ v, Below W5.heap.size W5 v → (fun v => v.cell? ⟨w5.heap.size, 0, none⟩ = some (.int .i64 CS) ∧ v.cell? ⟨w5.heap.size, 1, none⟩ = some (.slice sa SB.length sc)) v) := Hid.mk' (fun v hb => ⟨(cellsQ2 (rowB RS.out hb)).1, (cellsQ2 (rowB RS.out hb)).2.1⟩)
 have b00 : Below W5.heap.size W5 W5 := Below.refl _ _
 have br0 := fBR0
 have br1 := fBR1
 have hcs : (CS != CS) = false := by simp
 go_wp2_with fail
 clear hW5
 refine wp_region_held_drew (S := fun v => v.cell? ⟨w5.heap.size, 0, none⟩ = some (.int .i64 CS) ∧ v.cell? ⟨w5.heap.size, 1, none⟩ = some (.slice sa SB.length sc)) (by kernel_rfl) (HC7.out _ (Below.refl _ _).drew) (fun hHeld => ?_)
 refine tkY 0 ?_
 refine tkY 1 ?_
 refine tkY 2 ?_
 refine tkY 3 ?_
 refine tkY 4 ?_
 refine tkY 5 ?_
 refine wpAnyH_ready (rs := [6]) (by kernel_rfl) (by simp) ?_
 refine AllReadyH.cons (o := ⟨_, _, _, _, _, _⟩) rfl (fun K hK => ?_) AllReadyH.nil
 go_simp
 refine (K7S.out _ (by first | assumption | exact Below.drew (by assumption))).mono ?_
 rintro e wA ⟨sA, cA, rfl, -, hbwA⟩
 refine hK.out _ _ (HC7.out _ hbwA) (fun hHeld => ?_)
 clear hK K
 try simp only [Act.put, zA, zB, zC]
 refine tkY 7 ?_
 refine tkY 8 ?_
 refine tkY 9 ?_
 refine tkY 10 ?_
 refine tkY 11 ?_
 refine tkY 12 ?_
 refine tkY 13 ?_
 refine tkY 14 ?_
 refine tkY 15 ?_
 refine wpAnyH_ready (rs := [16]) (by kernel_rfl) (by simp) ?_
 refine AllReadyH.cons (o := ⟨_, _, _, _, _, _⟩) rfl (fun K hK => ?_) AllReadyH.nil
 go_simp
 refine (K7S.out _ (by first | assumption | exact Below.drew (by assumption))).mono ?_
 rintro e wB ⟨sB, cB, rfl, hBt, hbwB⟩
 refine hK.out _ _ (HC7.out _ hbwB) (fun hHeld => ?_)
 clear hK K
 try simp only [Act.put, zA, zB, zC]
 refine tkY 17 ?_
 refine wpAnyH_ready (rs := [18]) (by kernel_rfl) (by simp) ?_
 refine AllReadyH.cons (o := ⟨_, _, _, _, _, _⟩) rfl (fun K hK => ?_) AllReadyH.nil
 go_simp
 refine (K7L.out wB sB cB hbwB hBt).mono ?_
 rintro e wBB ⟨rfl, hwBB⟩
 obtain rfl := hwBB.symm
 refine hK.out _ _ (HC7.out _ hbwB) (fun hHeld => ?_)
 clear hK K
 try simp only [Act.put, zA, zB, zC]
 refine tkY 19 ?_
 refine tkY 20 ?_
 refine wpAnyH_done (by kernel_rfl) ?_ _
 have HB := Hid.mk' (HB.out.trans (hbwB.mono HB.out.size))
 have R1 := Hid.mk' (rowB R1.out hbwB)
 have RE := Hid.mk' (rowB RE.out hbwB)
 have M3 := Hid.mk' (M3.out.below hbwB)
 clear K7S K7L HC7 b00 hcs KSS HSA RS H45 HD4 HP4 hbwA hbwB hBt
 have hz := RE.out.lt
 obtain ⟨z0, -⟩ := cells7 RE.out
 by_cases hc : C1 = 0
 rotate_left
 ·have hne : (C1 != 0) = true := by simp [hc]
  have K10 : Hid (∀ V, Below wB.heap.size wB V → Calls Tryz.prog 39 #[.agg #[.slice a1 m1.dt.length ca1, .int .i64 m1.st, .slice t1 m1.tk.length ct1, .slice u1 m1.hd.length cu1, .slice c1 m1.cs.length cc1], .int .i64 A1, .int .i64 N1, .slice e1 p1.length d1] V fun e w' => ∃ (y1 y2 y3 y4 : Option Addr) (y5 y6 y7 y8 : Nat), e = .returned (.agg #[.int .i64 C1, .int .i64 Z1, .slice y1 m3.dt.length y5, .int .i64 m3.st, .slice y2 m3.tk.length y6, .slice y3 m3.hd.length y7, .slice y4 m3.cs.length y8]) ∧ Below wB.heap.size wB w') := Hid.mk' (fun V hV => (KES.out V (HB.out.trans (hV.mono HB.out.size))).mono (fun e w' h => by
   obtain ⟨y1, y2, y3, y4, y5, y6, y7, y8, h, hb⟩ := h
   exact ⟨y1, y2, y3, y4, y5, y6, y7, y8, h, hV.trans (hb.mono hV.size)⟩))
  have HC10 : Hid (∀ v, Below wB.heap.size wB v → (fun v => v.cell? ⟨w2.heap.size, 0, none⟩ = some (.slice a1 m1.dt.length ca1) ∧ v.cell? ⟨w2.heap.size, 1, none⟩ = some (.int .i64 m1.st) ∧ v.cell? ⟨w2.heap.size, 2, none⟩ = some (.slice t1 m1.tk.length ct1) ∧ v.cell? ⟨w2.heap.size, 3, none⟩ = some (.slice u1 m1.hd.length cu1) ∧ v.cell? ⟨w2.heap.size, 4, none⟩ = some (.slice c1 m1.cs.length cc1) ∧ v.cell? ⟨w3.heap.size, 0, none⟩ = some (.int .i64 C1)) v) := Hid.mk' (fun v hb => by
   obtain ⟨x0, x1, x2, x3, x4, -⟩ := cells5 (rowB R1.out hb)
   exact ⟨x0, x1, x2, x3, x4, (cells7 (rowB RE.out hb)).1⟩)
  have b00 : Below wB.heap.size wB wB := Below.refl _ _
  have f0 := fMR0
  clear KES KE MATH M3 hm3 HC1
  go_wp2
  refine wp_region_held_drew (S := fun v => v.cell? ⟨w2.heap.size, 0, none⟩ = some (.slice a1 m1.dt.length ca1) ∧ v.cell? ⟨w2.heap.size, 1, none⟩ = some (.int .i64 m1.st) ∧ v.cell? ⟨w2.heap.size, 2, none⟩ = some (.slice t1 m1.tk.length ct1) ∧ v.cell? ⟨w2.heap.size, 3, none⟩ = some (.slice u1 m1.hd.length cu1) ∧ v.cell? ⟨w2.heap.size, 4, none⟩ = some (.slice c1 m1.cs.length cc1) ∧ v.cell? ⟨w3.heap.size, 0, none⟩ = some (.int .i64 C1)) (by kernel_rfl) (HC10.out _ (Below.refl _ _).drew) (fun hHeld => ?_)
  refine tkY 0 ?_
  refine tkY 1 ?_
  refine tkY 2 ?_
  refine tkY 3 ?_
  refine tkY 6 ?_
  refine tkY 7 ?_
  refine wpAnyH_ready (rs := [4]) (by kernel_rfl) (by simp) ?_
  refine AllReadyH.cons (o := ⟨_, _, _, _, _, _⟩) rfl (fun K hK => ?_) AllReadyH.nil
  go_simp
  refine (K10.out _ (by first | assumption | exact Below.drew (by assumption))).mono ?_
  rintro e wC ⟨i1, i2, i3, i4, i5, i6, i7, i8, rfl, hbwC⟩
  refine hK.out _ _ (HC10.out _ hbwC) (fun hHeld => ?_)
  clear hK K
  try simp only [Act.put, zA, zB, zC]
  refine tkY 5 ?_
  refine tkY 8 ?_
  refine tkY 9 ?_
  refine wpAnyH_done (by kernel_rfl) ?_ _
  have HF := Hid.mk' (BB.out.trans ((HB.out.trans (hbwC.mono HB.out.size)).mono BB.out.size))
  go_wp2
  go_ret
  exact ⟨rfl, HF.out⟩
 have bZ : Below wB.heap.size wB wB := Below.refl _ _
 obtain ⟨i, j, s, rfl, rfl, hst, hs, hs2, hij, h240, hp240, hT240, eM3, -, -, -⟩ := MATH.out hc
 have hed : edC m1 (i : Int) (j : Int) p1 = 0 := HC1.out.trans hc
 obtain ⟨-, hsp⟩ := edC_ok hed
 have hsb : spB m1.dt (i : Int) (j : Int) p1 = spl m1.dt i j p1 := by unfold spB; rw [if_pos hsp]; rfl
 obtain ⟨ba, rfl⟩ := DM1.out.af
 have hTB : Byt (spl m1.dt i j p1) := byt_spl G1.out.ub Q1.out i j
 have hka := DM1.out.ka
 have hb11 : ∀ V, Below wB.heap.size wB V → Below W2.heap.size W2 V := fun V hV => HB.out.trans (hV.mono HB.out.size)
 subst hc
 generalize spl m1.dt i j p1 = TT at *
 have E3 : Hid (m3 = memX TT s) := Hid.mk' eM3
 have HTB := Hid.mk' hTB
 have K11 : Hid (∀ V, Below wB.heap.size wB V → Calls Tryz.prog 37 #[.slice (some ⟨ba, 0, none⟩) m1.dt.length ca1, .int .i64 (i : Int), .int .i64 (j : Int), .slice e1 p1.length d1] V fun e w' => ∃ v, e = .returned (.agg #[.int .i64 0, v]) ∧ OB w' v TT ∧ In V.heap.size w'.heap.size v ∧ Below V.heap.size V w') := Hid.mk' (fun V hV => by
  have K := implSBb_any ba 0 ca1 m1.dt (i : Int) (j : Int) e1 d1 p1 V (DM1.out.below (hb11 V hV)).now.1 hka (BP1.out V (hb11 V hV)) (by omega) (by omega) (by omega) (by omega) (by omega) (by omega)
  rw [hsp, hsb] at K
  exact K)
 have HST := Hid.mk' hst
 have HE3B : Hid (m3.dt = TT ∧ m3.st = (s : Int) ∧ m3.tk = (allX [] [] TT).1 ∧ m3.hd = (allX [] [] TT).2) := Hid.mk' (by rw [E3.out]; exact ⟨rfl, rfl, rfl, rfl⟩)
 have h3f : memF m3 = 0 := by rw [E3.out]; exact memF_new hT240 hs hs2
 have h3L : toL m3 = lexX TT := by
  have h := toL_lex (m := m3) (by rw [HE3B.out.1]; exact HTB.out) (by rw [HE3B.out.2.2.1]; exact TkB.tbt (allX_tkb _ _ _ TkB.nil)) (by rw [HE3B.out.2.2.2]; exact allX_byt _ _ _ (fun x hx => HTB.out.mem x hx) Byt.nil) h3f
  rw [HE3B.out.1] at h
  exact h
 have H3F := Hid.mk' h3f
 have H3L := Hid.mk' h3L
 have HKC := Hid.mk' hc3
 have HSZ := Hid.mk' sz3
 have H240 := Hid.mk' hT240
 have HHB := Hid.mk' hb11
 clear hm3 eM3 hsp hsb hTB hed MATH KE KES HC1 h3f h3L hst hij h240 hp240 hc3 sz3 hb11 hT240 hka b1a b1b b1c b1d xa1 ya1 xn1 yn1 lp1 ml1 hz1 hp1
 obtain ⟨x0, x1, x2, x3, x4, x5⟩ := cells5 R1.out
 go_wp2_with fail
 refine (K11.out wB bZ).mono ?_
 rintro e w6 ⟨v6, rfl, hob6, -, hb6⟩
 obtain ⟨ta, tc, rfl, hta, htc⟩ := hob6.lenc
 have N6 := below_new w6 (.cells #[.int .i64 0, .slice ta TT.length tc] 64)
 have M6 := hb6.trans (N6.mono hb6.size)
 have HB := Hid.mk' (HB.out.trans (M6.mono HB.out.size))
 have R1 := Hid.mk' (rowB R1.out M6)
 have RE := Hid.mk' (rowB RE.out M6)
 have M3 := Hid.mk' (M3.out.below M6)
 have RT := Hid.mk' (rowQ2 w6 64 (.int .i64 0) (.slice ta TT.length tc))
 have HTA := Hid.mk' (hta.below N6)
 clear hob6 hta hb6 N6 M6 K11 x0 x1 x2 x3 x4 x5 bZ z0 hz
 generalize hW6 : w6.alloc (.cells #[.int .i64 0, .slice ta TT.length tc] 64) = W6 at *
 have K12 : Hid (∀ V, Below W6.heap.size W6 V → Calls Tryz.prog 25 #[.slice ta TT.length tc, .int .i64 m1.st] V fun e w' => ∃ (x1 x2 x3 x4 : Option Addr) (i1 i2 i3 i4 : Nat), e = .returned (.agg #[.int .i64 0, .int .i64 (TT.length : Int), .slice x1 m3.dt.length i1, .int .i64 m3.st, .slice x2 m3.tk.length i2, .slice x3 m3.hd.length i3, .slice x4 m3.cs.length i4]) ∧ MAt w' x1 x2 x3 x4 m3 ∧ Below V.heap.size V w') := Hid.mk' (fun V hV => by
  have h240 := H240.out
  have ha0 : askC TT (s : Int) = 0 := askC_good h240 hs hs2
  have eM : rM TT (s : Int) = m3 := by unfold rM; rw [if_pos ha0, Int.toNat_natCast, E3.out]
  have eR : rR TT (s : Int) = (TT.length : Int) := by unfold rR; rw [if_pos ha0]
  have K := implNM_gm tp pv TT (s : Int) ta tc V (EN.out V (HB.out.trans (hV.mono HB.out.size))) (HTA.out.below hV) htc HTB.out (by omega)
  rw [ha0, eM, eR] at K
  rw [HST.out]
  refine K.mono (fun e w' h => ?_)
  obtain ⟨tau, vd, tv, hv, cv, us, rs, bl, bh, hvs, rfl, gm, hb⟩ := h
  obtain ⟨x1, x2, x3, x4, i1, i2, i3, i4, rfl, rfl, rfl, rfl, hM⟩ := gm.at
  exact ⟨x1, x2, x3, x4, i1, i2, i3, i4, rfl, hM, hb⟩)
 obtain ⟨x0, x1, x2, x3, x4, x5⟩ := cells5 R1.out
 obtain ⟨t0, t1, t2⟩ := cellsQ2 RT.out
 go_wp2_with fail
 clear hW6
 refine (K12.out W6 (Below.refl _ _)).mono ?_
 rintro e w7 ⟨k1, k2, k3, k4, i1, i2, i3, i4, rfl, hM7, hb7⟩
 have N7 := below_new w7 (.cells #[.int .i64 0, .int .i64 (TT.length : Int), .slice k1 m3.dt.length i1, .int .i64 m3.st, .slice k2 m3.tk.length i2, .slice k3 m3.hd.length i3, .slice k4 m3.cs.length i4] 50)
 have M7 := hb7.trans (N7.mono hb7.size)
 have HB := Hid.mk' (HB.out.trans (M7.mono HB.out.size))
 have RE := Hid.mk' (rowB RE.out M7)
 have M3 := Hid.mk' (M3.out.below M7)
 have RT := Hid.mk' (rowB RT.out M7)
 have HTA := Hid.mk' (HTA.out.below M7)
 have RX := Hid.mk' (row7 w7 50 (.int .i64 0) (.int .i64 (TT.length : Int)) (.slice k1 m3.dt.length i1) (.int .i64 m3.st) (.slice k2 m3.tk.length i2) (.slice k3 m3.hd.length i3) (.slice k4 m3.cs.length i4))
 have MX := Hid.mk' (hM7.below N7)
 clear hM7 hb7 N7 M7 K12 x0 x1 x2 x3 x4 x5 t0 t1 t2 R1
 generalize hW7 : w7.alloc (.cells #[.int .i64 0, .int .i64 (TT.length : Int), .slice k1 m3.dt.length i1, .int .i64 m3.st, .slice k2 m3.tk.length i2, .slice k3 m3.hd.length i3, .slice k4 m3.cs.length i4] 50) = W7 at *
 have KSM : Hid (∀ V, Below W7.heap.size W7 V → Calls Tryz.prog 12 #[.agg #[.slice y1 m3.dt.length y5, .int .i64 m3.st, .slice y2 m3.tk.length y6, .slice y3 m3.hd.length y7, .slice y4 m3.cs.length y8], .agg #[.slice k1 m3.dt.length i1, .int .i64 m3.st, .slice k2 m3.tk.length i2, .slice k3 m3.hd.length i3, .slice k4 m3.cs.length i4]] V fun e w' => e = .returned (.bool true) ∧ Below W7.heap.size W7 w') := Hid.mk' (fun V hV => by
  have K := implSM_any m3 m3 y1 y2 y3 y4 k1 k2 k3 k4 y5 y6 y7 y8 i1 i2 i3 i4 V (M3.out.below hV) (MX.out.below hV) HSZ.out HSZ.out
  rw [sameM_refl] at K
  exact K.mono (fun e w' h => ⟨h.1, hV.trans (h.2.mono hV.size)⟩))
 have KMF : Hid (∀ V, Below W7.heap.size W7 V → Calls Tryz.prog 31 #[.agg #[.slice y1 m3.dt.length y5, .int .i64 m3.st, .slice y2 m3.tk.length y6, .slice y3 m3.hd.length y7, .slice y4 m3.cs.length y8]] V fun e w' => e = .returned (.int .i64 0) ∧ Below W7.heap.size W7 w') := Hid.mk' (fun V hV => by
  have K := implMF_any tp pv m3 y1 y2 y3 y4 y5 y6 y7 y8 V (EN.out V (HB.out.trans (hV.mono HB.out.size))) (M3.out.below hV) HKC.out (by rw [HE3B.out.1]; exact HTB.out) HSZ.out
  rw [H3F.out] at K
  exact K.mono (fun e w' h => ⟨h.1, hV.trans (h.2.mono hV.size)⟩))
 have KTO : Hid (∀ V, Below W7.heap.size W7 V → Calls Tryz.prog 27 #[.agg #[.slice y1 m3.dt.length y5, .int .i64 m3.st, .slice y2 m3.tk.length y6, .slice y3 m3.hd.length y7, .slice y4 m3.cs.length y8]] V fun e w' => ∃ v d, e = .returned (.agg #[.int .i64 0, .slice v (lexX TT).length d, .slice none 0 0]) ∧ TsAt w' v (lexX TT) ∧ Below W7.heap.size W7 w') := Hid.mk' (fun V hV => by
  have K := implTO_any tp pv m3 y1 y2 y3 y4 y5 y6 y7 y8 V (EN.out V (HB.out.trans (hV.mono HB.out.size))) (M3.out.below hV) HKC.out (by rw [HE3B.out.1]; exact HTB.out) (by rw [HE3B.out.2.2.2]; exact allX_byt _ _ _ (fun x hx => HTB.out.mem x hx) Byt.nil) (by rw [HE3B.out.2.2.1]; exact TkB.tbt (allX_tkb _ _ _ TkB.nil)) HSZ.out
  refine K.mono (fun e w' h => ?_)
  rcases h with ⟨h0, _⟩ | ⟨_, tv, us, rs, bl, bh, rfl, ht, hb⟩
  ·exact absurd H3F.out h0
  ·obtain ⟨v, d, rfl, ha⟩ := ht.tsAt
   rw [H3L.out] at ha ⊢
   exact ⟨v, d, rfl, ha, hV.trans (hb.mono hV.size)⟩)
 have KLT : Hid (∀ V, Below W7.heap.size W7 V → Calls Tryz.prog 30 #[.slice ta TT.length tc] V fun e w' => ∃ v d, e = .returned (.agg #[.int .i64 0, .slice v (lexX TT).length d, .slice none 0 0]) ∧ TsAt w' v (lexX TT) ∧ Below V.heap.size V w' ∧ Below W7.heap.size W7 w') := Hid.mk' (fun V hV => by
  have h240 := H240.out
  have K := implLT_any tp pv TT ta tc V (EN.out V (HB.out.trans (hV.mono HB.out.size))) (HTA.out.below hV) HTB.out (by omega)
  refine K.mono (fun e w' h => ?_)
  rcases h with ⟨h, _⟩ | ⟨_, tv, us, rs, bl, bh, rfl, ht, hb⟩
  ·omega
  ·obtain ⟨v, d, rfl, ha⟩ := ht.tsAt
   exact ⟨v, d, rfl, ha, hb, hV.trans (hb.mono hV.size)⟩)
 have KST : Hid (∀ V v v' d d', Below W7.heap.size W7 V → TsAt V v (lexX TT) → TsAt V v' (lexX TT) → Calls Tryz.prog 29 #[.slice v (lexX TT).length d, .slice v' (lexX TT).length d'] V fun e w' => e = .returned (.bool true) ∧ Below W7.heap.size W7 w') := Hid.mk' (fun V v v' d d' hV ha hb => by
  have hf := fits_le TT H240.out
  refine (implSameT_any v v' d d' (lexX TT) (lexX TT) V ha hb hf hf).mono (fun e w' h => ⟨?_, hV.trans (h.2.mono hV.size)⟩)
  rw [h.1, sameTs_refl])
 generalize (lexX TT).length = NL at *
 have HC13 : Hid (∀ v, Below W7.heap.size W7 v → (fun v => v.cell? ⟨w6.heap.size, 0, none⟩ = some (.int .i64 0) ∧ v.cell? ⟨w6.heap.size, 1, none⟩ = some (.slice ta TT.length tc) ∧ v.cell? ⟨w7.heap.size, 0, none⟩ = some (.int .i64 0) ∧ v.cell? ⟨w7.heap.size, 2, none⟩ = some (.slice k1 m3.dt.length i1) ∧ v.cell? ⟨w7.heap.size, 3, none⟩ = some (.int .i64 m3.st) ∧ v.cell? ⟨w7.heap.size, 4, none⟩ = some (.slice k2 m3.tk.length i2) ∧ v.cell? ⟨w7.heap.size, 5, none⟩ = some (.slice k3 m3.hd.length i3) ∧ v.cell? ⟨w7.heap.size, 6, none⟩ = some (.slice k4 m3.cs.length i4) ∧ v.cell? ⟨w3.heap.size, 2, none⟩ = some (.slice y1 m3.dt.length y5) ∧ v.cell? ⟨w3.heap.size, 3, none⟩ = some (.int .i64 m3.st) ∧ v.cell? ⟨w3.heap.size, 4, none⟩ = some (.slice y2 m3.tk.length y6) ∧ v.cell? ⟨w3.heap.size, 5, none⟩ = some (.slice y3 m3.hd.length y7) ∧ v.cell? ⟨w3.heap.size, 6, none⟩ = some (.slice y4 m3.cs.length y8)) v) := Hid.mk' (fun v hb => by
  obtain ⟨a0, a1, -⟩ := cellsQ2 (rowB RT.out hb)
  obtain ⟨b0, b1, b2, b3, b4, b5, b6, -⟩ := cells7 (rowB RX.out hb)
  obtain ⟨d0, d1, d2, d3, d4, d5, d6, -⟩ := cells7 (rowB RE.out hb)
  exact ⟨a0, a1, b0, b2, b3, b4, b5, b6, d2, d3, d4, d5, d6⟩)
 have b00 : Below W7.heap.size W7 W7 := Below.refl _ _
 have fl1 := fLR1
 go_wp2_with fail
 clear hW7
 refine wp_region_held_drew (S := fun v => v.cell? ⟨w6.heap.size, 0, none⟩ = some (.int .i64 0) ∧ v.cell? ⟨w6.heap.size, 1, none⟩ = some (.slice ta TT.length tc) ∧ v.cell? ⟨w7.heap.size, 0, none⟩ = some (.int .i64 0) ∧ v.cell? ⟨w7.heap.size, 2, none⟩ = some (.slice k1 m3.dt.length i1) ∧ v.cell? ⟨w7.heap.size, 3, none⟩ = some (.int .i64 m3.st) ∧ v.cell? ⟨w7.heap.size, 4, none⟩ = some (.slice k2 m3.tk.length i2) ∧ v.cell? ⟨w7.heap.size, 5, none⟩ = some (.slice k3 m3.hd.length i3) ∧ v.cell? ⟨w7.heap.size, 6, none⟩ = some (.slice k4 m3.cs.length i4) ∧ v.cell? ⟨w3.heap.size, 2, none⟩ = some (.slice y1 m3.dt.length y5) ∧ v.cell? ⟨w3.heap.size, 3, none⟩ = some (.int .i64 m3.st) ∧ v.cell? ⟨w3.heap.size, 4, none⟩ = some (.slice y2 m3.tk.length y6) ∧ v.cell? ⟨w3.heap.size, 5, none⟩ = some (.slice y3 m3.hd.length y7) ∧ v.cell? ⟨w3.heap.size, 6, none⟩ = some (.slice y4 m3.cs.length y8)) (by kernel_rfl) (HC13.out _ (Below.refl _ _).drew) (fun hHeld => ?_)
 refine tkY 0 ?_
 refine tkY 1 ?_
 refine tkY 2 ?_
 refine tkY 3 ?_
 refine tkY 4 ?_
 refine tkY 5 ?_
 refine tkY 6 ?_
 refine tkY 7 ?_
 refine tkY 8 ?_
 refine tkY 9 ?_
 refine tkY 10 ?_
 refine tkY 11 ?_
 refine tkY 12 ?_
 refine wpAnyH_ready (rs := [13]) (by kernel_rfl) (by simp) ?_
 refine AllReadyH.cons (o := ⟨_, _, _, _, _, _⟩) rfl (fun K hK => ?_) AllReadyH.nil
 go_simp
 refine (KSM.out _ (by first | assumption | exact Below.drew (by assumption))).mono ?_
 rintro e wE ⟨rfl, hbwE⟩
 refine hK.out _ _ (HC13.out _ hbwE) (fun hHeld => ?_)
 clear hK K
 try simp only [Act.put, zA, zB, zC]
 refine tkY 14 ?_
 refine tkY 15 ?_
 refine tkY 16 ?_
 refine tkY 17 ?_
 refine wpAnyH_ready (rs := [18]) (by kernel_rfl) (by simp) ?_
 refine AllReadyH.cons (o := ⟨_, _, _, _, _, _⟩) rfl (fun K hK => ?_) AllReadyH.nil
 go_simp
 refine (KMF.out _ (by first | assumption | exact Below.drew (by assumption))).mono ?_
 rintro e wF ⟨rfl, hbwF⟩
 refine hK.out _ _ (HC13.out _ hbwF) (fun hHeld => ?_)
 clear hK K
 try simp only [Act.put, zA, zB, zC]
 refine tkY 19 ?_
 refine tkY 20 ?_
 refine tkY 21 ?_
 refine tkY 22 ?_
 refine tkY 23 ?_
 refine tkY 26 ?_
 refine tkY 27 ?_
 refine wpAnyH_ready (rs := [24]) (by kernel_rfl) (by simp) ?_
 refine AllReadyH.cons (o := ⟨_, _, _, _, _, _⟩) rfl (fun K hK => ?_) AllReadyH.nil
 go_simp
 refine (KTO.out _ (by first | assumption | exact Below.drew (by assumption))).mono ?_
 rintro e wG ⟨vG, dG, rfl, hGt, hbwG⟩
 refine hK.out _ _ (HC13.out _ hbwG) (fun hHeld => ?_)
 clear hK K
 try simp only [Act.put, zA, zB, zC]
 refine tkY 25 ?_
 refine wpAnyH_ready (rs := [28]) (by kernel_rfl) (by simp) ?_
 refine AllReadyH.cons (o := ⟨_, _, _, _, _, _⟩) rfl (fun K hK => ?_) AllReadyH.nil
 go_simp
 refine (KLT.out wG hbwG).mono ?_
 rintro e wI ⟨vI, dI, rfl, hIt, hbGI, hbwI⟩
 refine hK.out _ _ (HC13.out _ hbwI) (fun hHeld => ?_)
 clear hK K
 try simp only [Act.put, zA, zB, zC]
 refine tkY 29 ?_
 refine wpAnyH_ready (rs := [30]) (by kernel_rfl) (by simp) ?_
 refine AllReadyH.cons (o := ⟨_, _, _, _, _, _⟩) rfl (fun K hK => ?_) AllReadyH.nil
 go_simp
 refine (KST.out wI vG vI dG dI hbwI (hGt.below hbGI) hIt).mono ?_
 rintro e wH ⟨rfl, hbwH⟩
 refine hK.out _ _ (HC13.out _ hbwH) (fun hHeld => ?_)
 clear hK K
 try simp only [Act.put, zA, zB, zC]
 refine tkY 31 ?_
 refine tkY 32 ?_
 refine wpAnyH_done (by kernel_rfl) ?_ _
 have HF := Hid.mk' (BB.out.trans ((HB.out.trans (hbwH.mono HB.out.size)).mono BB.out.size))
 go_wp2
 go_ret
 exact ⟨rfl, HF.out⟩

end Go.Proofs.YtlimgcmhidooaaaGreatDoor
