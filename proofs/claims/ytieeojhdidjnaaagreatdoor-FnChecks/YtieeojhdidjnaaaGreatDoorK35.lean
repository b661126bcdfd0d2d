/- Two memos drawn. -/
import Derived.Test.YtieeojhdidjnaaaGreatDoorK34
import Derived.Test.YtieeojhdidjnaaaGreatDoorK29
import Derived.Test.YtieeojhdidjnaaaGreatDoorK27
import Derived.Test.YtieeojhdidjnaaaGreatDoorK23
set_option linter.unusedVariables false
set_option linter.unusedSimpArgs false
namespace Go.Proofs.YtieeojhdidjnaaaGreatDoor
open Go.RowKit

theorem step_load_row {P : Program} {ops : Array Oper} {o : Oper} {a : Act} {w : World} {K : Act → World → Prop} {Q : Exit → Act → World → Prop} {E : Prop} (hgd : o.guard = none) (ty : TypeId) (x : Operand) (ho : o.op = .load ty x) (g : Nat) (hx : a.eval x = .pointer (some ⟨g, 0, none⟩))
    (t : TypeId) (cs : Array Value) (fr : Nat × Nat) (d : TypeDesc) (hg : w.heap[g]? = some (.cells cs t fr)) (hu : P.underlying ty = some d) (hd : (match d with | .struct _ | .array _ _ => true | _ => false) = true) (hi : (P.info? ty).map (·.size) = some cs.size)
    (h : K (a.put o.dst (.agg cs)) w) : if Region.wanted o (yielded ops a.tmps) = true then Oper.wp P o a w K Q else E := by
  have hw : Region.wanted o (yielded ops a.tmps) = true := by simp [Region.wanted, hgd]
  rw [if_pos hw]
  unfold Oper.wp
  rw [exec_load_row ty x ho g hx t cs fr d hg hu hd hi]
  exact h

theorem results_cell2 {fn : Func} {p u : Tmp} {t1 t2 : TypeId} (h : fn.results = #[.cell p t1, .cell u t2]) (tmps : Array Value) (P : Program) (w : World) (g k : Addr) (v x : Value) (hp : tmps.getD p undef = .pointer (some g)) (hl : (loadVar t1 g).run P w = .ok v w)
    (hq : tmps.getD u undef = .pointer (some k)) (hk : (loadVar t2 k).run P w = .ok x w) : (results fn tmps).run P w = .ok (.tuple #[v, x]) w := by
  rw [results_cell_cell h, hp, hq]
  simp [asAddr, Result.andThen, hl, hk]

theorem own_batN {w : World} {base n : Nat} {p : Option Addr} {q : Nat} {l : List Int} (hn : n = l.length) (h : w.ownsRow base 5 1 (.slice p n q) n (bcs l)) : BAt w p l := by
  subst hn
  exact own_batp h

def DrS (w : World) (e : Ending) (w' : World) : Prop :=
  ∃ (m n : ME) (pa pt pu pc na nt nu nc : Option Addr) (qa qt qu qc ma mt mu mc : Nat), e = .returned (.tuple #[.agg #[.slice pa m.dt.length qa, .int .i64 m.st, .slice pt m.tk.length qt, .slice pu m.hd.length qu, .slice pc m.cs.length qc], .agg #[.slice na n.dt.length ma, .int .i64 n.st, .slice nt n.tk.length mt, .slice nu n.hd.length mu, .slice nc n.cs.length mc]]) ∧ MAt w' pa pt pu pc m ∧ MAt w' na nt nu nc n ∧ (msz m : Int) ≤ 1048576 ∧ (msz n : Int) ≤ 1048576 ∧ Below w.heap.size w w'

set_option maxRecDepth 100000 in
set_option maxHeartbeats 6400000 in
theorem drawSM_any (a : Option Addr) (c : Nat) (l : List Int) (w : World) (ha : BAt w a l) (hu : ∀ i, i < l.length → 0 ≤ l.getD i 0 ∧ l.getD i 0 ≤ 255) (hl : (l.length : Int) ≤ 1048576) :
    Calls Tryz.prog 11 #[.slice a l.length c] w fun e w' => DrS w e w' := by
  obtain ⟨N0, RA0, RB0⟩ := twoM w #[.slice none 0 0, .int .i64 0, .slice none 0 0, .slice none 0 0, .slice none 0 0] #[.slice none 0 0, .int .i64 0, .slice none 0 0, .slice none 0 0, .slice none 0 0]
  have K := Hid.mk' (l1Source_any a c l _ (ha.below N0) hu)
  have B0 := Hid.mk' N0
  have RA := Hid.mk' RA0
  have RB := Hid.mk' RB0
  clear ha hu N0 RA0 RB0
  generalize hW : (w.alloc (.cells #[.slice none 0 0, .int .i64 0, .slice none 0 0, .slice none 0 0, .slice none 0 0] 27)).alloc (.cells #[.slice none 0 0, .int .i64 0, .slice none 0 0, .slice none 0 0, .slice none 0 0] 27) = W at *
  go_enter Tryz.func11, Tryz.ntmps11
  go_wp2_with fail
  clear hW
  refine K.out.mono ?_
  rintro e w1 ⟨rfl, hS, hb⟩
  have sW : w.heap.size + 1 < W.heap.size := RB.out.lt
  have RA1 := Hid.mk' (RA.out.below hb)
  have RB1 := Hid.mk' (RB.out.below hb)
  have B1 := Hid.mk' (B0.out.trans (hb.mono B0.out.size))
  have HS := Hid.mk' hS
  have hlt1 := hS.lt
  clear K hS hb B0 RA RB
  go_wp2_with fail
  refine (l12Bent_any W.heap.size 0 l w1 HS.out (by omega) hl).mono ?_
  rintro e w2 ⟨m, pa, pt, pu, pc, qa, qt, qu, qc, k2, rfl, hDM, hDG, hk2, hS2, hK2⟩
  have N2 := below_new w2 (.cells #[.slice pa m.dt.length qa, .int .i64 m.st, .slice pt m.tk.length qt, .slice pu m.hd.length qu, .slice pc m.cs.length qc] 27)
  have sW2 := hK2.size
  have RA2 : Hid (RowA (w2.alloc (.cells #[.slice pa m.dt.length qa, .int .i64 m.st, .slice pt m.tk.length qt, .slice pu m.hd.length qu, .slice pc m.cs.length qc] 27)) w.heap.size 27 #[.slice none 0 0, .int .i64 0, .slice none 0 0, .slice none 0 0, .slice none 0 0]) := Hid.mk' (RowA.below ((hK2.block _ (by omega) (.inl (by omega))).trans RA1.out) N2)
  have RB2 : Hid (RowA (w2.alloc (.cells #[.slice pa m.dt.length qa, .int .i64 m.st, .slice pt m.tk.length qt, .slice pu m.hd.length qu, .slice pc m.cs.length qc] 27)) (w.heap.size + 1) 27 #[.slice none 0 0, .int .i64 0, .slice none 0 0, .slice none 0 0, .slice none 0 0]) := Hid.mk' (RowA.below ((hK2.block _ (by omega) (.inl (by omega))).trans RB1.out) N2)
  have M2 := Hid.mk' (RowA.new w2 27 #[.slice pa m.dt.length qa, .int .i64 m.st, .slice pt m.tk.length qt, .slice pu m.hd.length qu, .slice pc m.cs.length qc])
  have D2 := Hid.mk' (hDM.below N2)
  have S2 := Hid.mk' (hS2.below N2)
  have B2 := Hid.mk' ((hK2.up (by omega) B1.out).trans (N2.mono (Nat.le_trans B1.out.size sW2)))
  have Gz : Hid ((msz m : Int) ≤ 200000) := Hid.mk' hDG.sz
  clear hDM hDG hS2 hK2 N2 HS RA1 RB1 B1
  go_wp2_with (first | ((with_reducible refine wpList_store_row ?_ 27 (.tmp 5) (.tmp 10) ?_ w2.heap.size #[.slice pa m.dt.length qa, .int .i64 m.st, .slice pt m.tk.length qt, .slice pu m.hd.length qu, .slice pc m.cs.length qc] ?_ ?_ 27 _ (Deep.blk_alloc_new w2 _) ?_ ?_ ?_ ?_); rfl; rfl; rfl; rfl; kernel_rfl; rfl; kernel_rfl; rw [alloc_setRow]) | ((with_reducible refine wpList_load_row ?_ 27 (.tmp 5) ?_ w2.heap.size ?_ 27 #[.slice pa m.dt.length qa, .int .i64 m.st, .slice pt m.tk.length qt, .slice pu m.hd.length qu, .slice pc m.cs.length qc] (0, 0) _ ?_ Tryz.underlying27 ?_ ?_ ?_); rfl; rfl; rfl; exact M2.out; rfl; kernel_rfl) | fail)
  generalize hV : w2.alloc (.cells #[.slice pa m.dt.length qa, .int .i64 m.st, .slice pt m.tk.length qt, .slice pu m.hd.length qu, .slice pc m.cs.length qc] 27) = V at *
  clear hV
  have sV : w2.heap.size < V.heap.size := M2.out.lt
  refine (l12Copy_any m pa pt pu pc qa qt qu qc V D2.out.now (by have := Gz.out; omega)).mono ?_
  rintro e w3 ⟨na, nt, nh, nc, ma, mt, mh, mc, rfl, hCP, hb3⟩
  have N3 := below_new w3 (.cells #[.slice na m.dt.length ma, .int .i64 m.st, .slice nt m.tk.length mt, .slice nh m.hd.length mh, .slice nc m.cs.length mc] 27)
  have b3 := hb3.size
  have CP3 := Hid.mk' hCP
  have BV := Hid.mk' hb3
  have S3 := Hid.mk' ((S2.out.below hb3).below N3)
  have M3 := Hid.mk' ((M2.out.below hb3).below N3)
  have RA3 := Hid.mk' ((RA2.out.below hb3).below N3)
  have RB3 := Hid.mk' ((RB2.out.below hb3).below N3)
  have P3 := Hid.mk' (RowA.new w3 27 #[.slice na m.dt.length ma, .int .i64 m.st, .slice nt m.tk.length mt, .slice nh m.hd.length mh, .slice nc m.cs.length mc])
  have B3 := Hid.mk' ((B2.out.trans (hb3.mono B2.out.size)).trans (N3.mono (Nat.le_trans B2.out.size b3)))
  have HN3 := Hid.mk' (own_keep hCP.hd N3)
  have Q3 : Hid (∀ q, q < w3.heap.size → (w3.alloc (.cells #[.slice na m.dt.length ma, .int .i64 m.st, .slice nt m.tk.length mt, .slice nh m.hd.length mh, .slice nc m.cs.length mc] 27)).heap[q]? = w3.heap[q]?) := Hid.mk' (fun q h => N3.block q h)
  clear hCP hb3 N3 S2 M2 RA2 RB2 B2
  go_wp2_with (first | ((with_reducible refine wpList_store_row ?_ 27 (.tmp 6) (.tmp 12) ?_ w3.heap.size #[.slice na m.dt.length ma, .int .i64 m.st, .slice nt m.tk.length mt, .slice nh m.hd.length mh, .slice nc m.cs.length mc] ?_ ?_ 27 _ (Deep.blk_alloc_new w3 _) ?_ ?_ ?_ ?_); rfl; rfl; rfl; rfl; kernel_rfl; rfl; kernel_rfl; rw [alloc_setRow]) | fail)
  generalize hV3 : w3.alloc (.cells #[.slice na m.dt.length ma, .int .i64 m.st, .slice nt m.tk.length mt, .slice nh m.hd.length mh, .slice nc m.cs.length mc] 27) = V3 at *
  clear hV3
  have sV3 : w3.heap.size < V3.heap.size := P3.out.lt
  refine (l1Chance_any W.heap.size k2 l 2 V3 S3.out (by omega) (by decide) (by decide) hl).mono ?_
  rintro e w4 ⟨ch, rfl, hS4, hK4⟩
  have s4 := hK4.size
  have M4 : Hid (RowA w4 w2.heap.size 27 #[.slice pa m.dt.length qa, .int .i64 m.st, .slice pt m.tk.length qt, .slice pu m.hd.length qu, .slice pc m.cs.length qc]) := Hid.mk' ((hK4.block _ (by omega) (.inr (by omega))).trans M3.out)
  have P4 : Hid (RowA w4 w3.heap.size 27 #[.slice na m.dt.length ma, .int .i64 m.st, .slice nt m.tk.length mt, .slice nh m.hd.length mh, .slice nc m.cs.length mc]) := Hid.mk' ((hK4.block _ (by omega) (.inr (by omega))).trans P3.out)
  have RA4 : Hid (RowA w4 w.heap.size 27 #[.slice none 0 0, .int .i64 0, .slice none 0 0, .slice none 0 0, .slice none 0 0]) := Hid.mk' ((hK4.block _ (by omega) (.inl (by omega))).trans RA3.out)
  have RB4 : Hid (RowA w4 (w.heap.size + 1) 27 #[.slice none 0 0, .int .i64 0, .slice none 0 0, .slice none 0 0, .slice none 0 0]) := Hid.mk' ((hK4.block _ (by omega) (.inl (by omega))).trans RB3.out)
  have B4 := Hid.mk' (hK4.up (by omega) B3.out)
  have HN4 := Hid.mk' (own_of HN3.out (Nat.le_refl _) (fun q e _ => hK4.block q (HN3.out.lt q e).2 (.inr (by have := (HN3.out.lt q e).1; omega))))
  have Q4 : Hid (∀ q, q < w3.heap.size → q ≠ W.heap.size → w4.heap[q]? = w3.heap[q]?) := Hid.mk' (fun q h1 h2 => (hK4.block q (by omega) (by omega)).trans (Q3.out q h1))
  have SZ4 : Hid (w3.heap.size < w4.heap.size) := Hid.mk' (by omega)
  clear hS4 hK4 S3 B3 M3 P3 RA3 RB3 HN3 Q3 s4 sV3
  cases ch with
  | false =>
    have FA : Hid (RowA w4.drew w2.heap.size 27 #[.slice pa m.dt.length qa, .int .i64 m.st, .slice pt m.tk.length qt, .slice pu m.hd.length qu, .slice pc m.cs.length qc] ∧ RowA w4.drew w3.heap.size 27 #[.slice na m.dt.length ma, .int .i64 m.st, .slice nt m.tk.length mt, .slice nh m.hd.length mh, .slice nc m.cs.length mc] ∧ RowA w4.drew w.heap.size 27 #[.slice none 0 0, .int .i64 0, .slice none 0 0, .slice none 0 0, .slice none 0 0] ∧ RowA w4.drew (w.heap.size + 1) 27 #[.slice none 0 0, .int .i64 0, .slice none 0 0, .slice none 0 0, .slice none 0 0] ∧ Below w.heap.size w w4.drew ∧ (w4.drew).ownsRow V.heap.size 5 1 (.slice nh m.hd.length mh) m.hd.length (bcs (m).hd) ∧ (∀ q, q < w3.heap.size → q ≠ W.heap.size → (Value.slice nh m.hd.length mh).ownBlock ≠ some q → w4.drew.heap[q]? = w3.heap[q]?) ∧ w3.heap.size < w4.drew.heap.size) := Hid.mk' ⟨M4.out, P4.out, RA4.out, RB4.out, B4.out.drew, HN4.out, (fun q h1 h2 _ => Q4.out q h1 h2), SZ4.out⟩
    go_wp2_with fail
    generalize hVd : w4.drew = V6 at *
    have T1 : ∀ z : World, RowA z w2.heap.size 27 #[.slice pa m.dt.length qa, .int .i64 m.st, .slice pt m.tk.length qt, .slice pu m.hd.length qu, .slice pc m.cs.length qc] ∧ RowA z w3.heap.size 27 #[.slice na m.dt.length ma, .int .i64 m.st, .slice nt m.tk.length mt, .slice nh m.hd.length mh, .slice nc m.cs.length mc] → (Hid (RowA z w2.heap.size 27 #[.slice pa m.dt.length qa, .int .i64 m.st, .slice pt m.tk.length qt, .slice pu m.hd.length qu, .slice pc m.cs.length qc]) ∧ Hid (RowA z w3.heap.size 27 #[.slice na m.dt.length ma, .int .i64 m.st, .slice nt m.tk.length mt, .slice nh m.hd.length mh, .slice nc m.cs.length mc])) := fun z h => ⟨Hid.mk' h.1, Hid.mk' h.2⟩
    refine wp_region_held_drew (S := (fun z => Hid (RowA z w2.heap.size 27 #[.slice pa m.dt.length qa, .int .i64 m.st, .slice pt m.tk.length qt, .slice pu m.hd.length qu, .slice pc m.cs.length qc]) ∧ Hid (RowA z w3.heap.size 27 #[.slice na m.dt.length ma, .int .i64 m.st, .slice nt m.tk.length mt, .slice nh m.hd.length mh, .slice nc m.cs.length mc]))) (by kernel_rfl) (by rw [hVd]; exact T1 _ ⟨FA.out.1, FA.out.2.1⟩) (fun hHeld => ?_)
    rw [hVd] at hHeld ⊢
    clear hVd
    have g2 : w.heap.size + 1 < w2.heap.size := by omega
    have g3 : w.heap.size + 1 < w3.heap.size := by omega
    have RA5 := Hid.mk' FA.out.2.2.1
    have RB5 := Hid.mk' FA.out.2.2.2.1
    have M6 : Hid (RowA (V6.setRow w.heap.size #[.slice pa m.dt.length qa, .int .i64 m.st, .slice pt m.tk.length qt, .slice pu m.hd.length qu, .slice pc m.cs.length qc]) w2.heap.size 27 #[.slice pa m.dt.length qa, .int .i64 m.st, .slice pt m.tk.length qt, .slice pu m.hd.length qu, .slice pc m.cs.length qc]) := Hid.mk' (FA.out.1.otherRow (by omega) _)
    have P6 : Hid (RowA (V6.setRow w.heap.size #[.slice pa m.dt.length qa, .int .i64 m.st, .slice pt m.tk.length qt, .slice pu m.hd.length qu, .slice pc m.cs.length qc]) w3.heap.size 27 #[.slice na m.dt.length ma, .int .i64 m.st, .slice nt m.tk.length mt, .slice nh m.hd.length mh, .slice nc m.cs.length mc]) := Hid.mk' (FA.out.2.1.otherRow (by omega) _)
    have RA6 : Hid (RowA (V6.setRow w.heap.size #[.slice pa m.dt.length qa, .int .i64 m.st, .slice pt m.tk.length qt, .slice pu m.hd.length qu, .slice pc m.cs.length qc]) w.heap.size 27 #[.slice pa m.dt.length qa, .int .i64 m.st, .slice pt m.tk.length qt, .slice pu m.hd.length qu, .slice pc m.cs.length qc]) := Hid.mk' (RA5.out.put _)
    have RB6 : Hid (RowA (V6.setRow w.heap.size #[.slice pa m.dt.length qa, .int .i64 m.st, .slice pt m.tk.length qt, .slice pu m.hd.length qu, .slice pc m.cs.length qc]) (w.heap.size + 1) 27 #[.slice none 0 0, .int .i64 0, .slice none 0 0, .slice none 0 0, .slice none 0 0]) := Hid.mk' (RB5.out.otherRow (by omega) _)
    have M7 : Hid (RowA ((V6.setRow w.heap.size #[.slice pa m.dt.length qa, .int .i64 m.st, .slice pt m.tk.length qt, .slice pu m.hd.length qu, .slice pc m.cs.length qc]).setRow (w.heap.size + 1) #[.slice na m.dt.length ma, .int .i64 m.st, .slice nt m.tk.length mt, .slice nh m.hd.length mh, .slice nc m.cs.length mc]) w2.heap.size 27 #[.slice pa m.dt.length qa, .int .i64 m.st, .slice pt m.tk.length qt, .slice pu m.hd.length qu, .slice pc m.cs.length qc]) := Hid.mk' (M6.out.otherRow (by omega) _)
    have P7 : Hid (RowA ((V6.setRow w.heap.size #[.slice pa m.dt.length qa, .int .i64 m.st, .slice pt m.tk.length qt, .slice pu m.hd.length qu, .slice pc m.cs.length qc]).setRow (w.heap.size + 1) #[.slice na m.dt.length ma, .int .i64 m.st, .slice nt m.tk.length mt, .slice nh m.hd.length mh, .slice nc m.cs.length mc]) w3.heap.size 27 #[.slice na m.dt.length ma, .int .i64 m.st, .slice nt m.tk.length mt, .slice nh m.hd.length mh, .slice nc m.cs.length mc]) := Hid.mk' (P6.out.otherRow (by omega) _)
    have RA7 : Hid (RowA ((V6.setRow w.heap.size #[.slice pa m.dt.length qa, .int .i64 m.st, .slice pt m.tk.length qt, .slice pu m.hd.length qu, .slice pc m.cs.length qc]).setRow (w.heap.size + 1) #[.slice na m.dt.length ma, .int .i64 m.st, .slice nt m.tk.length mt, .slice nh m.hd.length mh, .slice nc m.cs.length mc]) w.heap.size 27 #[.slice pa m.dt.length qa, .int .i64 m.st, .slice pt m.tk.length qt, .slice pu m.hd.length qu, .slice pc m.cs.length qc]) := Hid.mk' (RA6.out.otherRow (by omega) _)
    have RB7 : Hid (RowA ((V6.setRow w.heap.size #[.slice pa m.dt.length qa, .int .i64 m.st, .slice pt m.tk.length qt, .slice pu m.hd.length qu, .slice pc m.cs.length qc]).setRow (w.heap.size + 1) #[.slice na m.dt.length ma, .int .i64 m.st, .slice nt m.tk.length mt, .slice nh m.hd.length mh, .slice nc m.cs.length mc]) (w.heap.size + 1) 27 #[.slice na m.dt.length ma, .int .i64 m.st, .slice nt m.tk.length mt, .slice nh m.hd.length mh, .slice nc m.cs.length mc]) := Hid.mk' (RB6.out.put _)
    have BF := Hid.mk' (RowA.putBelow (RowA.putBelow FA.out.2.2.2.2.1 (Nat.le_refl _) #[.slice pa m.dt.length qa, .int .i64 m.st, .slice pt m.tk.length qt, .slice pu m.hd.length qu, .slice pc m.cs.length qc]) (Nat.le_succ w.heap.size) #[.slice na m.dt.length ma, .int .i64 m.st, .slice nt m.tk.length mt, .slice nh m.hd.length mh, .slice nc m.cs.length mc])
    have FQ : ∀ q, w.heap.size + 1 < q → ((V6.setRow w.heap.size #[.slice pa m.dt.length qa, .int .i64 m.st, .slice pt m.tk.length qt, .slice pu m.hd.length qu, .slice pc m.cs.length qc]).setRow (w.heap.size + 1) #[.slice na m.dt.length ma, .int .i64 m.st, .slice nt m.tk.length mt, .slice nh m.hd.length mh, .slice nc m.cs.length mc]).heap[q]? = V6.heap[q]? := fun q h => (setRow_other _ _ _ _ (by omega)).trans (setRow_other _ _ _ _ (by omega))
    have FS : ((V6.setRow w.heap.size #[.slice pa m.dt.length qa, .int .i64 m.st, .slice pt m.tk.length qt, .slice pu m.hd.length qu, .slice pc m.cs.length qc]).setRow (w.heap.size + 1) #[.slice na m.dt.length ma, .int .i64 m.st, .slice nt m.tk.length mt, .slice nh m.hd.length mh, .slice nc m.cs.length mc]).heap.size = V6.heap.size := by rw [setRow_size, setRow_size]
    have FM := Hid.mk' (D2.out.at_ _ (by rw [FS]; have := FA.out.2.2.2.2.2.2.2; have := BV.out.size; omega) (fun q h1 h2 => (FQ q (by omega)).trans ((FA.out.2.2.2.2.2.2.1 q (Nat.lt_of_lt_of_le h2 BV.out.size) (by omega) (fun e => by have := (CP3.out.hd.lt q e).1; omega)).trans (BV.out.block q h2))))
    have FR := CP3.out.rest ((V6.setRow w.heap.size #[.slice pa m.dt.length qa, .int .i64 m.st, .slice pt m.tk.length qt, .slice pu m.hd.length qu, .slice pc m.cs.length qc]).setRow (w.heap.size + 1) #[.slice na m.dt.length ma, .int .i64 m.st, .slice nt m.tk.length mt, .slice nh m.hd.length mh, .slice nc m.cs.length mc]) (by rw [FS]; have := FA.out.2.2.2.2.2.2.2; omega) (fun q h1 h2 h3 => (FQ q (by omega)).trans (FA.out.2.2.2.2.2.2.1 q h2 (by omega) h3))
    have FH : BAt ((V6.setRow w.heap.size #[.slice pa m.dt.length qa, .int .i64 m.st, .slice pt m.tk.length qt, .slice pu m.hd.length qu, .slice pc m.cs.length qc]).setRow (w.heap.size + 1) #[.slice na m.dt.length ma, .int .i64 m.st, .slice nt m.tk.length mt, .slice nh m.hd.length mh, .slice nc m.cs.length mc]) nh (m).hd := own_batN (rfl) (own_of FA.out.2.2.2.2.2.1 (Nat.le_refl _) (fun q e _ => FQ q (by have := (FA.out.2.2.2.2.2.1.lt q e).1; omega)))
    have FN : Hid (MAt ((V6.setRow w.heap.size #[.slice pa m.dt.length qa, .int .i64 m.st, .slice pt m.tk.length qt, .slice pu m.hd.length qu, .slice pc m.cs.length qc]).setRow (w.heap.size + 1) #[.slice na m.dt.length ma, .int .i64 m.st, .slice nt m.tk.length mt, .slice nh m.hd.length mh, .slice nc m.cs.length mc]) na nt nh nc (m)) := Hid.mk' ⟨FR.1, FR.2.1, FH, FR.2.2⟩
    clear FQ FS FR FH T1
    refine wpAnyH_take (i := 0) (oi := ⟨_, _, _, _, _, _⟩) (v := ?_) rfl (by kernel_rfl) (by kernel_rfl) (by kernel_rfl) (fun _ _ _ h => h) (Or.inl ⟨by rfl, ?_⟩) (by assumption) ?_
    rotate_left
    · (intro w hSw; refine RowA.exec hSw.1.out (.tmp 5) ?_ ?_ _ Tryz.underlying27 ?_ ?_; rfl; rfl; rfl; kernel_rfl)
    try simp only [Act.put, zA, zB, zC]
    refine wpAnyH_ready (rs := [1, 2]) (by kernel_rfl) (by simp) ?_
    refine AllReadyH.cons (o := ⟨_, _, _, _, _, _⟩) rfl (fun K9 hK => ?_) (AllReadyH.cons (o := ⟨_, _, _, _, _, _⟩) rfl (fun K9 hK => ?_) AllReadyH.nil)
    · refine step_load_row rfl 27 (.tmp 6) rfl w3.heap.size rfl 27 #[.slice na m.dt.length ma, .int .i64 m.st, .slice nt m.tk.length mt, .slice nh m.hd.length mh, .slice nc m.cs.length mc] (0, 0) _ FA.out.2.1 Tryz.underlying27 rfl (by kernel_rfl) ?_
      refine hK.out _ _ ⟨Hid.mk' FA.out.1, Hid.mk' FA.out.2.1⟩ (fun hHeld => ?_)
      clear hK K9
      try simp only [Act.put, zA, zB, zC]
      refine wpAnyH_ready (rs := [2]) (by kernel_rfl) (by simp) ?_
      refine AllReadyH.cons (o := ⟨_, _, _, _, _, _⟩) rfl (fun K9 hK => ?_) AllReadyH.nil
      refine step_store_row rfl 27 (.tmp 2) (.tmp 20) rfl w.heap.size #[.slice pa m.dt.length qa, .int .i64 m.st, .slice pt m.tk.length qt, .slice pu m.hd.length qu, .slice pc m.cs.length qc] rfl rfl 27 #[.slice none 0 0, .int .i64 0, .slice none 0 0, .slice none 0 0, .slice none 0 0] RA5.out (by kernel_rfl) rfl (by kernel_rfl) ?_
      refine hK.out _ _ ⟨M6, P6⟩ (fun hHeld => ?_)
      clear hK K9
      try simp only [Act.put, zA, zB, zC]
      refine wpAnyH_ready (rs := [3]) (by kernel_rfl) (by simp) ?_
      refine AllReadyH.cons (o := ⟨_, _, _, _, _, _⟩) rfl (fun K9 hK => ?_) AllReadyH.nil
      refine step_store_row rfl 27 (.tmp 3) (.tmp 21) rfl (w.heap.size + 1) #[.slice na m.dt.length ma, .int .i64 m.st, .slice nt m.tk.length mt, .slice nh m.hd.length mh, .slice nc m.cs.length mc] rfl rfl 27 #[.slice none 0 0, .int .i64 0, .slice none 0 0, .slice none 0 0, .slice none 0 0] RB6.out (by kernel_rfl) rfl (by kernel_rfl) ?_
      refine hK.out _ _ ⟨M7, P7⟩ (fun hHeld => ?_)
      clear hK K9
      try simp only [Act.put, zA, zB, zC]
      refine wpAnyH_done (by kernel_rfl) ?_ _
      clear hHeld
      go_wp2
      refine bodyPost_ret (v := .tuple #[.agg #[.slice pa m.dt.length qa, .int .i64 m.st, .slice pt m.tk.length qt, .slice pu m.hd.length qu, .slice pc m.cs.length qc], .agg #[.slice na m.dt.length ma, .int .i64 m.st, .slice nt m.tk.length mt, .slice nh m.hd.length mh, .slice nc m.cs.length mc]]) ?_ ?_ ?_
      · exact results_cell2 Tryz.results11 _ _ _ ⟨w.heap.size, 0, none⟩ ⟨w.heap.size + 1, 0, none⟩ _ _ rfl (RA7.out.load _ Tryz.underlying27 rfl (by kernel_rfl)) rfl (RB7.out.load _ Tryz.underlying27 rfl (by kernel_rfl))
      · rfl
      exact ⟨m, (m), pa, pt, pu, pc, na, nt, nh, nc, qa, qt, qu, qc, ma, mt, mh, mc, rfl, FM.out, FN.out, by have := Gz.out; omega, by have := Gz.out; omega, BF.out⟩
    · refine step_store_row rfl 27 (.tmp 2) (.tmp 20) rfl w.heap.size #[.slice pa m.dt.length qa, .int .i64 m.st, .slice pt m.tk.length qt, .slice pu m.hd.length qu, .slice pc m.cs.length qc] rfl rfl 27 #[.slice none 0 0, .int .i64 0, .slice none 0 0, .slice none 0 0, .slice none 0 0] RA5.out (by kernel_rfl) rfl (by kernel_rfl) ?_
      refine hK.out _ _ ⟨M6, P6⟩ (fun hHeld => ?_)
      clear hK K9
      try simp only [Act.put, zA, zB, zC]
      refine wpAnyH_ready (rs := [1]) (by kernel_rfl) (by simp) ?_
      refine AllReadyH.cons (o := ⟨_, _, _, _, _, _⟩) rfl (fun K9 hK => ?_) AllReadyH.nil
      refine step_load_row rfl 27 (.tmp 6) rfl w3.heap.size rfl 27 #[.slice na m.dt.length ma, .int .i64 m.st, .slice nt m.tk.length mt, .slice nh m.hd.length mh, .slice nc m.cs.length mc] (0, 0) _ P6.out Tryz.underlying27 rfl (by kernel_rfl) ?_
      refine hK.out _ _ ⟨M6, P6⟩ (fun hHeld => ?_)
      clear hK K9
      try simp only [Act.put, zA, zB, zC]
      refine wpAnyH_ready (rs := [3]) (by kernel_rfl) (by simp) ?_
      refine AllReadyH.cons (o := ⟨_, _, _, _, _, _⟩) rfl (fun K9 hK => ?_) AllReadyH.nil
      refine step_store_row rfl 27 (.tmp 3) (.tmp 21) rfl (w.heap.size + 1) #[.slice na m.dt.length ma, .int .i64 m.st, .slice nt m.tk.length mt, .slice nh m.hd.length mh, .slice nc m.cs.length mc] rfl rfl 27 #[.slice none 0 0, .int .i64 0, .slice none 0 0, .slice none 0 0, .slice none 0 0] RB6.out (by kernel_rfl) rfl (by kernel_rfl) ?_
      refine hK.out _ _ ⟨M7, P7⟩ (fun hHeld => ?_)
      clear hK K9
      try simp only [Act.put, zA, zB, zC]
      refine wpAnyH_done (by kernel_rfl) ?_ _
      clear hHeld
      go_wp2
      refine bodyPost_ret (v := .tuple #[.agg #[.slice pa m.dt.length qa, .int .i64 m.st, .slice pt m.tk.length qt, .slice pu m.hd.length qu, .slice pc m.cs.length qc], .agg #[.slice na m.dt.length ma, .int .i64 m.st, .slice nt m.tk.length mt, .slice nh m.hd.length mh, .slice nc m.cs.length mc]]) ?_ ?_ ?_
      · exact results_cell2 Tryz.results11 _ _ _ ⟨w.heap.size, 0, none⟩ ⟨w.heap.size + 1, 0, none⟩ _ _ rfl (RA7.out.load _ Tryz.underlying27 rfl (by kernel_rfl)) rfl (RB7.out.load _ Tryz.underlying27 rfl (by kernel_rfl))
      · rfl
      exact ⟨m, (m), pa, pt, pu, pc, na, nt, nh, nc, qa, qt, qu, qc, ma, mt, mh, mc, rfl, FM.out, FN.out, by have := Gz.out; omega, by have := Gz.out; omega, BF.out⟩
  | true =>
    have y3 := P4.out.cell 3 _ rfl
    have f3 := P4.out.frozen 3
    have N5 := Hid.mk' (below_new w4 (.cells #[.int .u8 1] 5))
    have OV := Hid.mk' (own_keep HN4.out N5.out)
    have P5 := Hid.mk' (P4.out.below N5.out)
    have NB := Hid.mk' (one_byteS w4 1)
    have sv4 : Hid (V.heap.size ≤ (w4.alloc (.cells #[.int .u8 1] 5)).heap.size) := Hid.mk' (by have := N5.out.size; have := BV.out.size; have := SZ4.out; omega)
    have ln : Hid ((m.hd.length : Int) ≤ 200000) := Hid.mk' (by have := Gz.out; unfold msz at this; omega)
    have ln2 : m.hd.length ≤ 200000 := by have := ln.out; omega
    go_wp2_with (at_builtin; refine wpList_append_at _ rfl (.tmp 16) (.tmp 17) 22 rfl V.heap.size 5 (.int .u8 0) 1 1 Tryz.underlying22 Tryz.info5 rfl (by decide) _ m.hd.length (bcs m.hd) rfl OV.out _ 1 _ (bcs [1]) rfl rfl (.inr ⟨_, rfl, NB.out⟩) (bcs_one _) (by unfold maxLen; omega) (by omega) sv4.out ?_; intro v' w5 ho hgr hat; obtain ⟨nv, qv, rfl⟩ := own_form ho; have R5 : Hid (RowA w5 w3.heap.size 27 #[.slice na m.dt.length ma, .int .i64 m.st, .slice nt m.tk.length mt, .slice nh m.hd.length mh, .slice nc m.cs.length mc]) := Hid.mk' ((hgr.block _ P5.out.lt (fun e => by have := (CP3.out.hd.lt _ e.symm).2; omega)).trans P5.out); have y5 := R5.out.cell 3 _ rfl; have f5 := R5.out.frozen 3)
    have HO := Hid.mk' ho
    have HG := Hid.mk' hgr
    have kg : ∀ q, q < w4.heap.size → (Value.slice nh m.hd.length mh).ownBlock ≠ some q → w5.heap[q]? = w4.heap[q]? := fun q h1 h2 => (HG.out.block q (Nat.lt_of_lt_of_le h1 N5.out.size) (fun e => h2 e.symm)).trans (N5.out.block q h1)
    have ob : ∀ q, (Value.slice nh m.hd.length mh).ownBlock = some q → V.heap.size ≤ q ∧ q < w3.heap.size := fun q e => CP3.out.hd.lt q e
    have s45 : w4.heap.size ≤ w5.heap.size := Nat.le_trans N5.out.size HG.out.size
    have P6 := Hid.mk' (R5.out.set 3 (.slice nv (m.hd.length + 1) qv))
    have s3 := SZ4.out
    have sb3 := BV.out.size
    have k6 : ∀ q, q < w4.heap.size → q ≠ w3.heap.size → (Value.slice nh m.hd.length mh).ownBlock ≠ some q → (w5.setCell ⟨w3.heap.size, 3, none⟩ (.slice nv (m.hd.length + 1) qv)).heap[q]? = w4.heap[q]? := fun q h1 h2 h3 => (Deep.blk_setCell_other _ _ _ _ (by show q ≠ w3.heap.size; exact h2)).trans (kg q h1 h3)
    have M6_ : Hid (RowA (w5.setCell ⟨w3.heap.size, 3, none⟩ (.slice nv (m.hd.length + 1) qv)) w2.heap.size 27 #[.slice pa m.dt.length qa, .int .i64 m.st, .slice pt m.tk.length qt, .slice pu m.hd.length qu, .slice pc m.cs.length qc]) := Hid.mk' ((k6 _ (by omega) (by omega) (fun e => by have := (ob _ e).1; omega)).trans M4.out)
    have RA6_ : Hid (RowA (w5.setCell ⟨w3.heap.size, 3, none⟩ (.slice nv (m.hd.length + 1) qv)) w.heap.size 27 #[.slice none 0 0, .int .i64 0, .slice none 0 0, .slice none 0 0, .slice none 0 0]) := Hid.mk' ((k6 _ (by omega) (by omega) (fun e => by have := (ob _ e).1; omega)).trans RA4.out)
    have RB6_ : Hid (RowA (w5.setCell ⟨w3.heap.size, 3, none⟩ (.slice nv (m.hd.length + 1) qv)) (w.heap.size + 1) 27 #[.slice none 0 0, .int .i64 0, .slice none 0 0, .slice none 0 0, .slice none 0 0]) := Hid.mk' ((k6 _ (by omega) (by omega) (fun e => by have := (ob _ e).1; omega)).trans RB4.out)
    have B6_ := Hid.mk' (RowA.setBelow (g := w3.heap.size) ((B4.out.trans (N5.out.mono B4.out.size)).grown HG.out (Nat.le_trans B4.out.size N5.out.size) (fun q e => by have := (ob q e).1; omega)) (by omega) 3 (.slice nv (m.hd.length + 1) qv))
    have HN6 : Hid ((w5.setCell ⟨w3.heap.size, 3, none⟩ (.slice nv (m.hd.length + 1) qv)).ownsRow V.heap.size 5 1 (.slice nv (m.hd.length + 1) qv) (m.hd.length + 1) (bcs (m.hd ++ [1]))) := Hid.mk' (by
      rw [bcs_append]
      exact own_of HO.out (Nat.le_refl _) (fun q e _ => Deep.blk_setCell_other _ _ _ _ (by
        show q ≠ w3.heap.size
        rcases hat with ht | ht
        · rw [ht] at e; have := (ob q e).2; omega
        · rw [ht] at e; injection e with e; have := N5.out.size; omega)))
    have SZ6 : Hid (w3.heap.size < (w5.setCell ⟨w3.heap.size, 3, none⟩ (.slice nv (m.hd.length + 1) qv)).heap.size) := Hid.mk' P6.out.lt
    have Q6 : Hid (∀ q, q < w3.heap.size → q ≠ W.heap.size → (Value.slice nh m.hd.length mh).ownBlock ≠ some q → (w5.setCell ⟨w3.heap.size, 3, none⟩ (.slice nv (m.hd.length + 1) qv)).heap[q]? = w3.heap[q]?) := Hid.mk' (fun q h1 h2 h3 => (k6 q (by omega) (by omega) h3).trans (Q4.out q h1 h2))
    clear ho hgr hat kg k6 y5 f5 y3 f3
    generalize hw6 : w5.setCell ⟨w3.heap.size, 3, none⟩ (.slice nv (m.hd.length + 1) qv) = w6 at *
    clear hw6
    have FA : Hid (RowA w6.drew w2.heap.size 27 #[.slice pa m.dt.length qa, .int .i64 m.st, .slice pt m.tk.length qt, .slice pu m.hd.length qu, .slice pc m.cs.length qc] ∧ RowA w6.drew w3.heap.size 27 #[.slice na m.dt.length ma, .int .i64 m.st, .slice nt m.tk.length mt, .slice nv (m.hd.length + 1) qv, .slice nc m.cs.length mc] ∧ RowA w6.drew w.heap.size 27 #[.slice none 0 0, .int .i64 0, .slice none 0 0, .slice none 0 0, .slice none 0 0] ∧ RowA w6.drew (w.heap.size + 1) 27 #[.slice none 0 0, .int .i64 0, .slice none 0 0, .slice none 0 0, .slice none 0 0] ∧ Below w.heap.size w w6.drew ∧ (w6.drew).ownsRow V.heap.size 5 1 (.slice nv (m.hd.length + 1) qv) (m.hd.length + 1) (bcs (⟨m.dt, m.st, m.tk, m.hd ++ [1], m.cs⟩ : ME).hd) ∧ (∀ q, q < w3.heap.size → q ≠ W.heap.size → (Value.slice nh m.hd.length mh).ownBlock ≠ some q → w6.drew.heap[q]? = w3.heap[q]?) ∧ w3.heap.size < w6.drew.heap.size) := Hid.mk' ⟨M6_.out, P6.out, RA6_.out, RB6_.out, B6_.out.drew, HN6.out, (fun q h1 h2 h3 => Q6.out q h1 h2 h3), SZ6.out⟩
    go_wp2_with fail
    generalize hVd : w6.drew = V6 at *
    have T1 : ∀ z : World, RowA z w2.heap.size 27 #[.slice pa m.dt.length qa, .int .i64 m.st, .slice pt m.tk.length qt, .slice pu m.hd.length qu, .slice pc m.cs.length qc] ∧ RowA z w3.heap.size 27 #[.slice na m.dt.length ma, .int .i64 m.st, .slice nt m.tk.length mt, .slice nv (m.hd.length + 1) qv, .slice nc m.cs.length mc] → (Hid (RowA z w2.heap.size 27 #[.slice pa m.dt.length qa, .int .i64 m.st, .slice pt m.tk.length qt, .slice pu m.hd.length qu, .slice pc m.cs.length qc]) ∧ Hid (RowA z w3.heap.size 27 #[.slice na m.dt.length ma, .int .i64 m.st, .slice nt m.tk.length mt, .slice nv (m.hd.length + 1) qv, .slice nc m.cs.length mc])) := fun z h => ⟨Hid.mk' h.1, Hid.mk' h.2⟩
    refine wp_region_held_drew (S := (fun z => Hid (RowA z w2.heap.size 27 #[.slice pa m.dt.length qa, .int .i64 m.st, .slice pt m.tk.length qt, .slice pu m.hd.length qu, .slice pc m.cs.length qc]) ∧ Hid (RowA z w3.heap.size 27 #[.slice na m.dt.length ma, .int .i64 m.st, .slice nt m.tk.length mt, .slice nv (m.hd.length + 1) qv, .slice nc m.cs.length mc]))) (by kernel_rfl) (by rw [hVd]; exact T1 _ ⟨FA.out.1, FA.out.2.1⟩) (fun hHeld => ?_)
    rw [hVd] at hHeld ⊢
    clear hVd
    have g2 : w.heap.size + 1 < w2.heap.size := by omega
    have g3 : w.heap.size + 1 < w3.heap.size := by omega
    have RA5 := Hid.mk' FA.out.2.2.1
    have RB5 := Hid.mk' FA.out.2.2.2.1
    have M6 : Hid (RowA (V6.setRow w.heap.size #[.slice pa m.dt.length qa, .int .i64 m.st, .slice pt m.tk.length qt, .slice pu m.hd.length qu, .slice pc m.cs.length qc]) w2.heap.size 27 #[.slice pa m.dt.length qa, .int .i64 m.st, .slice pt m.tk.length qt, .slice pu m.hd.length qu, .slice pc m.cs.length qc]) := Hid.mk' (FA.out.1.otherRow (by omega) _)
    have P6 : Hid (RowA (V6.setRow w.heap.size #[.slice pa m.dt.length qa, .int .i64 m.st, .slice pt m.tk.length qt, .slice pu m.hd.length qu, .slice pc m.cs.length qc]) w3.heap.size 27 #[.slice na m.dt.length ma, .int .i64 m.st, .slice nt m.tk.length mt, .slice nv (m.hd.length + 1) qv, .slice nc m.cs.length mc]) := Hid.mk' (FA.out.2.1.otherRow (by omega) _)
    have RA6 : Hid (RowA (V6.setRow w.heap.size #[.slice pa m.dt.length qa, .int .i64 m.st, .slice pt m.tk.length qt, .slice pu m.hd.length qu, .slice pc m.cs.length qc]) w.heap.size 27 #[.slice pa m.dt.length qa, .int .i64 m.st, .slice pt m.tk.length qt, .slice pu m.hd.length qu, .slice pc m.cs.length qc]) := Hid.mk' (RA5.out.put _)
    have RB6 : Hid (RowA (V6.setRow w.heap.size #[.slice pa m.dt.length qa, .int .i64 m.st, .slice pt m.tk.length qt, .slice pu m.hd.length qu, .slice pc m.cs.length qc]) (w.heap.size + 1) 27 #[.slice none 0 0, .int .i64 0, .slice none 0 0, .slice none 0 0, .slice none 0 0]) := Hid.mk' (RB5.out.otherRow (by omega) _)
    have M7 : Hid (RowA ((V6.setRow w.heap.size #[.slice pa m.dt.length qa, .int .i64 m.st, .slice pt m.tk.length qt, .slice pu m.hd.length qu, .slice pc m.cs.length qc]).setRow (w.heap.size + 1) #[.slice na m.dt.length ma, .int .i64 m.st, .slice nt m.tk.length mt, .slice nv (m.hd.length + 1) qv, .slice nc m.cs.length mc]) w2.heap.size 27 #[.slice pa m.dt.length qa, .int .i64 m.st, .slice pt m.tk.length qt, .slice pu m.hd.length qu, .slice pc m.cs.length qc]) := Hid.mk' (M6.out.otherRow (by omega) _)
    have P7 : Hid (RowA ((V6.setRow w.heap.size #[.slice pa m.dt.length qa, .int .i64 m.st, .slice pt m.tk.length qt, .slice pu m.hd.length qu, .slice pc m.cs.length qc]).setRow (w.heap.size + 1) #[.slice na m.dt.length ma, .int .i64 m.st, .slice nt m.tk.length mt, .slice nv (m.hd.length + 1) qv, .slice nc m.cs.length mc]) w3.heap.size 27 #[.slice na m.dt.length ma, .int .i64 m.st, .slice nt m.tk.length mt, .slice nv (m.hd.length + 1) qv, .slice nc m.cs.length mc]) := Hid.mk' (P6.out.otherRow (by omega) _)
    have RA7 : Hid (RowA ((V6.setRow w.heap.size #[.slice pa m.dt.length qa, .int .i64 m.st, .slice pt m.tk.length qt, .slice pu m.hd.length qu, .slice pc m.cs.length qc]).setRow (w.heap.size + 1) #[.slice na m.dt.length ma, .int .i64 m.st, .slice nt m.tk.length mt, .slice nv (m.hd.length + 1) qv, .slice nc m.cs.length mc]) w.heap.size 27 #[.slice pa m.dt.length qa, .int .i64 m.st, .slice pt m.tk.length qt, .slice pu m.hd.length qu, .slice pc m.cs.length qc]) := Hid.mk' (RA6.out.otherRow (by omega) _)
    have RB7 : Hid (RowA ((V6.setRow w.heap.size #[.slice pa m.dt.length qa, .int .i64 m.st, .slice pt m.tk.length qt, .slice pu m.hd.length qu, .slice pc m.cs.length qc]).setRow (w.heap.size + 1) #[.slice na m.dt.length ma, .int .i64 m.st, .slice nt m.tk.length mt, .slice nv (m.hd.length + 1) qv, .slice nc m.cs.length mc]) (w.heap.size + 1) 27 #[.slice na m.dt.length ma, .int .i64 m.st, .slice nt m.tk.length mt, .slice nv (m.hd.length + 1) qv, .slice nc m.cs.length mc]) := Hid.mk' (RB6.out.put _)
    have BF := Hid.mk' (RowA.putBelow (RowA.putBelow FA.out.2.2.2.2.1 (Nat.le_refl _) #[.slice pa m.dt.length qa, .int .i64 m.st, .slice pt m.tk.length qt, .slice pu m.hd.length qu, .slice pc m.cs.length qc]) (Nat.le_succ w.heap.size) #[.slice na m.dt.length ma, .int .i64 m.st, .slice nt m.tk.length mt, .slice nv (m.hd.length + 1) qv, .slice nc m.cs.length mc])
    have FQ : ∀ q, w.heap.size + 1 < q → ((V6.setRow w.heap.size #[.slice pa m.dt.length qa, .int .i64 m.st, .slice pt m.tk.length qt, .slice pu m.hd.length qu, .slice pc m.cs.length qc]).setRow (w.heap.size + 1) #[.slice na m.dt.length ma, .int .i64 m.st, .slice nt m.tk.length mt, .slice nv (m.hd.length + 1) qv, .slice nc m.cs.length mc]).heap[q]? = V6.heap[q]? := fun q h => (setRow_other _ _ _ _ (by omega)).trans (setRow_other _ _ _ _ (by omega))
    have FS : ((V6.setRow w.heap.size #[.slice pa m.dt.length qa, .int .i64 m.st, .slice pt m.tk.length qt, .slice pu m.hd.length qu, .slice pc m.cs.length qc]).setRow (w.heap.size + 1) #[.slice na m.dt.length ma, .int .i64 m.st, .slice nt m.tk.length mt, .slice nv (m.hd.length + 1) qv, .slice nc m.cs.length mc]).heap.size = V6.heap.size := by rw [setRow_size, setRow_size]
    have FM := Hid.mk' (D2.out.at_ _ (by rw [FS]; have := FA.out.2.2.2.2.2.2.2; have := BV.out.size; omega) (fun q h1 h2 => (FQ q (by omega)).trans ((FA.out.2.2.2.2.2.2.1 q (Nat.lt_of_lt_of_le h2 BV.out.size) (by omega) (fun e => by have := (CP3.out.hd.lt q e).1; omega)).trans (BV.out.block q h2))))
    have FR := CP3.out.rest ((V6.setRow w.heap.size #[.slice pa m.dt.length qa, .int .i64 m.st, .slice pt m.tk.length qt, .slice pu m.hd.length qu, .slice pc m.cs.length qc]).setRow (w.heap.size + 1) #[.slice na m.dt.length ma, .int .i64 m.st, .slice nt m.tk.length mt, .slice nv (m.hd.length + 1) qv, .slice nc m.cs.length mc]) (by rw [FS]; have := FA.out.2.2.2.2.2.2.2; omega) (fun q h1 h2 h3 => (FQ q (by omega)).trans (FA.out.2.2.2.2.2.2.1 q h2 (by omega) h3))
    have FH : BAt ((V6.setRow w.heap.size #[.slice pa m.dt.length qa, .int .i64 m.st, .slice pt m.tk.length qt, .slice pu m.hd.length qu, .slice pc m.cs.length qc]).setRow (w.heap.size + 1) #[.slice na m.dt.length ma, .int .i64 m.st, .slice nt m.tk.length mt, .slice nv (m.hd.length + 1) qv, .slice nc m.cs.length mc]) nv (⟨m.dt, m.st, m.tk, m.hd ++ [1], m.cs⟩ : ME).hd := own_batN (by simp) (own_of FA.out.2.2.2.2.2.1 (Nat.le_refl _) (fun q e _ => FQ q (by have := (FA.out.2.2.2.2.2.1.lt q e).1; omega)))
    have FN : Hid (MAt ((V6.setRow w.heap.size #[.slice pa m.dt.length qa, .int .i64 m.st, .slice pt m.tk.length qt, .slice pu m.hd.length qu, .slice pc m.cs.length qc]).setRow (w.heap.size + 1) #[.slice na m.dt.length ma, .int .i64 m.st, .slice nt m.tk.length mt, .slice nv (m.hd.length + 1) qv, .slice nc m.cs.length mc]) na nt nv nc (⟨m.dt, m.st, m.tk, m.hd ++ [1], m.cs⟩ : ME)) := Hid.mk' ⟨FR.1, FR.2.1, FH, FR.2.2⟩
    clear FQ FS FR FH T1
    refine wpAnyH_take (i := 0) (oi := ⟨_, _, _, _, _, _⟩) (v := ?_) rfl (by kernel_rfl) (by kernel_rfl) (by kernel_rfl) (fun _ _ _ h => h) (Or.inl ⟨by rfl, ?_⟩) (by assumption) ?_
    rotate_left
    · (intro w hSw; refine RowA.exec hSw.1.out (.tmp 5) ?_ ?_ _ Tryz.underlying27 ?_ ?_; rfl; rfl; rfl; kernel_rfl)
    try simp only [Act.put, zA, zB, zC]
    refine wpAnyH_ready (rs := [1, 2]) (by kernel_rfl) (by simp) ?_
    refine AllReadyH.cons (o := ⟨_, _, _, _, _, _⟩) rfl (fun K9 hK => ?_) (AllReadyH.cons (o := ⟨_, _, _, _, _, _⟩) rfl (fun K9 hK => ?_) AllReadyH.nil)
    · refine step_load_row rfl 27 (.tmp 6) rfl w3.heap.size rfl 27 #[.slice na m.dt.length ma, .int .i64 m.st, .slice nt m.tk.length mt, .slice nv (m.hd.length + 1) qv, .slice nc m.cs.length mc] (0, 0) _ FA.out.2.1 Tryz.underlying27 rfl (by kernel_rfl) ?_
      refine hK.out _ _ ⟨Hid.mk' FA.out.1, Hid.mk' FA.out.2.1⟩ (fun hHeld => ?_)
      clear hK K9
      try simp only [Act.put, zA, zB, zC]
      refine wpAnyH_ready (rs := [2]) (by kernel_rfl) (by simp) ?_
      refine AllReadyH.cons (o := ⟨_, _, _, _, _, _⟩) rfl (fun K9 hK => ?_) AllReadyH.nil
      refine step_store_row rfl 27 (.tmp 2) (.tmp 20) rfl w.heap.size #[.slice pa m.dt.length qa, .int .i64 m.st, .slice pt m.tk.length qt, .slice pu m.hd.length qu, .slice pc m.cs.length qc] rfl rfl 27 #[.slice none 0 0, .int .i64 0, .slice none 0 0, .slice none 0 0, .slice none 0 0] RA5.out (by kernel_rfl) rfl (by kernel_rfl) ?_
      refine hK.out _ _ ⟨M6, P6⟩ (fun hHeld => ?_)
      clear hK K9
      try simp only [Act.put, zA, zB, zC]
      refine wpAnyH_ready (rs := [3]) (by kernel_rfl) (by simp) ?_
      refine AllReadyH.cons (o := ⟨_, _, _, _, _, _⟩) rfl (fun K9 hK => ?_) AllReadyH.nil
      refine step_store_row rfl 27 (.tmp 3) (.tmp 21) rfl (w.heap.size + 1) #[.slice na m.dt.length ma, .int .i64 m.st, .slice nt m.tk.length mt, .slice nv (m.hd.length + 1) qv, .slice nc m.cs.length mc] rfl rfl 27 #[.slice none 0 0, .int .i64 0, .slice none 0 0, .slice none 0 0, .slice none 0 0] RB6.out (by kernel_rfl) rfl (by kernel_rfl) ?_
      refine hK.out _ _ ⟨M7, P7⟩ (fun hHeld => ?_)
      clear hK K9
      try simp only [Act.put, zA, zB, zC]
      refine wpAnyH_done (by kernel_rfl) ?_ _
      clear hHeld
      go_wp2
      refine bodyPost_ret (v := .tuple #[.agg #[.slice pa m.dt.length qa, .int .i64 m.st, .slice pt m.tk.length qt, .slice pu m.hd.length qu, .slice pc m.cs.length qc], .agg #[.slice na m.dt.length ma, .int .i64 m.st, .slice nt m.tk.length mt, .slice nv (m.hd.length + 1) qv, .slice nc m.cs.length mc]]) ?_ ?_ ?_
      · exact results_cell2 Tryz.results11 _ _ _ ⟨w.heap.size, 0, none⟩ ⟨w.heap.size + 1, 0, none⟩ _ _ rfl (RA7.out.load _ Tryz.underlying27 rfl (by kernel_rfl)) rfl (RB7.out.load _ Tryz.underlying27 rfl (by kernel_rfl))
      · rfl
      exact ⟨m, (⟨m.dt, m.st, m.tk, m.hd ++ [1], m.cs⟩ : ME), pa, pt, pu, pc, na, nt, nv, nc, qa, qt, qu, qc, ma, mt, qv, mc, by simp, FM.out, FN.out, by have := Gz.out; omega, by have := Gz.out; unfold msz at this ⊢; dsimp only; rw [List.length_append, List.length_singleton]; omega, BF.out⟩
    · refine step_store_row rfl 27 (.tmp 2) (.tmp 20) rfl w.heap.size #[.slice pa m.dt.length qa, .int .i64 m.st, .slice pt m.tk.length qt, .slice pu m.hd.length qu, .slice pc m.cs.length qc] rfl rfl 27 #[.slice none 0 0, .int .i64 0, .slice none 0 0, .slice none 0 0, .slice none 0 0] RA5.out (by kernel_rfl) rfl (by kernel_rfl) ?_
      refine hK.out _ _ ⟨M6, P6⟩ (fun hHeld => ?_)
      clear hK K9
      try simp only [Act.put, zA, zB, zC]
      refine wpAnyH_ready (rs := [1]) (by kernel_rfl) (by simp) ?_
      refine AllReadyH.cons (o := ⟨_, _, _, _, _, _⟩) rfl (fun K9 hK => ?_) AllReadyH.nil
      refine step_load_row rfl 27 (.tmp 6) rfl w3.heap.size rfl 27 #[.slice na m.dt.length ma, .int .i64 m.st, .slice nt m.tk.length mt, .slice nv (m.hd.length + 1) qv, .slice nc m.cs.length mc] (0, 0) _ P6.out Tryz.underlying27 rfl (by kernel_rfl) ?_
      refine hK.out _ _ ⟨M6, P6⟩ (fun hHeld => ?_)
      clear hK K9
      try simp only [Act.put, zA, zB, zC]
      refine wpAnyH_ready (rs := [3]) (by kernel_rfl) (by simp) ?_
      refine AllReadyH.cons (o := ⟨_, _, _, _, _, _⟩) rfl (fun K9 hK => ?_) AllReadyH.nil
      refine step_store_row rfl 27 (.tmp 3) (.tmp 21) rfl (w.heap.size + 1) #[.slice na m.dt.length ma, .int .i64 m.st, .slice nt m.tk.length mt, .slice nv (m.hd.length + 1) qv, .slice nc m.cs.length mc] rfl rfl 27 #[.slice none 0 0, .int .i64 0, .slice none 0 0, .slice none 0 0, .slice none 0 0] RB6.out (by kernel_rfl) rfl (by kernel_rfl) ?_
      refine hK.out _ _ ⟨M7, P7⟩ (fun hHeld => ?_)
      clear hK K9
      try simp only [Act.put, zA, zB, zC]
      refine wpAnyH_done (by kernel_rfl) ?_ _
      clear hHeld
      go_wp2
      refine bodyPost_ret (v := .tuple #[.agg #[.slice pa m.dt.length qa, .int .i64 m.st, .slice pt m.tk.length qt, .slice pu m.hd.length qu, .slice pc m.cs.length qc], .agg #[.slice na m.dt.length ma, .int .i64 m.st, .slice nt m.tk.length mt, .slice nv (m.hd.length + 1) qv, .slice nc m.cs.length mc]]) ?_ ?_ ?_
      · exact results_cell2 Tryz.results11 _ _ _ ⟨w.heap.size, 0, none⟩ ⟨w.heap.size + 1, 0, none⟩ _ _ rfl (RA7.out.load _ Tryz.underlying27 rfl (by kernel_rfl)) rfl (RB7.out.load _ Tryz.underlying27 rfl (by kernel_rfl))
      · rfl
      exact ⟨m, (⟨m.dt, m.st, m.tk, m.hd ++ [1], m.cs⟩ : ME), pa, pt, pu, pc, na, nt, nv, nc, qa, qt, qu, qc, ma, mt, qv, mc, by simp, FM.out, FN.out, by have := Gz.out; omega, by have := Gz.out; unfold msz at this ⊢; dsimp only; rw [List.length_append, List.length_singleton]; omega, BF.out⟩

end Go.Proofs.YtieeojhdidjnaaaGreatDoor

namespace Go.Proofs.YtieeojhdidjnaaaGreatDoor
open Go.RowKit

theorem lwBigF_any (a : Option Addr) (c n : Nat) (w : World) :
    Calls Tryz.prog 8 #[.slice a n c] w fun e w' => e = .returned (.bool (decide ((1048576 : Int) < (n : Int)))) ∧ w' = w := by
  go_enter Tryz.func8, Tryz.ntmps8
  go_wp2
  go_ret
  exact ⟨rfl, rfl⟩

end Go.Proofs.YtieeojhdidjnaaaGreatDoor
