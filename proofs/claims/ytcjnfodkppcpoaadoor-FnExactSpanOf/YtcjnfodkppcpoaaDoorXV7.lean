/- How many bytes stand ahead, the program's side: sizeAhead. -/
import Derived.Test.YtcjnfodkppcpoaaDoorXUr
import Derived.Test.YtcjnfodkppcpoaaDoorXUm
import Derived.Test.YtcjnfodkppcpoaaDoorXGt
import Derived.Test.YtcjnfodkppcpoaaDoorXV3
namespace Go.Proofs.YtcjnfodkppcpoaaDoor
open Go.RowKit Go.Maps Go.Shelf
set_option linter.unusedVariables false
set_option linter.unusedSimpArgs false
attribute [local go_sem] Oper.semAt_some

theorem first_eq {α : Type} (p : α → Prop) : ∀ (A P : List α) (x y : α) (B R : List α), A ++ x :: B = P ++ y :: R → (∀ z ∈ A, ¬ p z) → (∀ z ∈ P, ¬ p z) → p x → p y → A = P
  | [], [], x, y, B, R, e, h1, h2, hx, hy => rfl
  | [], z :: P, x, y, B, R, e, h1, h2, hx, hy => by
    injection e with e1 e2
    exact absurd hx (by rw [e1]; exact h2 z (List.mem_cons_self ..))
  | z :: A, [], x, y, B, R, e, h1, h2, hx, hy => by
    injection e with e1 e2
    exact absurd hy (by rw [← e1]; exact h1 z (List.mem_cons_self ..))
  | z :: A, z' :: P, x, y, B, R, e, h1, h2, hx, hy => by
    injection e with e1 e2
    rw [e1, first_eq p A P x y B R e2 (fun q hq => h1 q (List.mem_cons_of_mem _ hq)) (fun q hq => h2 q (List.mem_cons_of_mem _ hq)) hx hy]

/-- The boxes of sizeAhead, and that nobody guards the one that is turned. -/
structure SV (w : World) (nv : Value) (m S : Nat) (Pr : Nat → Prop) (Z : World) : Prop where
  nb : Z.rowIs w.heap.size 28 1 (fun _ => nv)
  ab : Z.rowIs (w.heap.size + 1) 2 1 (fun _ => .int .i64 (m : Int))
  sb : Z.rowIs (w.heap.size + 1 + 1) 3 1 (fun _ => .int .i64 (S : Int))
  bl : Below w.heap.size w Z
  p1 : ¬ Pr (w.heap.size + 1 + 1)

theorem SV.tol {w : World} {nv : Value} {m S : Nat} {Pr : Nat → Prop} {Z Z' : World} {row : Option Nat} (h : SV w nv m S Pr Z) (hg : Z.grownBy Z' row) (hr : ∀ r, row = some r → w.heap.size ≤ r ∧ ∃ o : Obj, Z.heap[r]? = some o ∧ o.isCells = false) :
    SV w nv m S (fun k => Pr k ∨ (Z.heap.size ≤ k ∧ k < Z'.heap.size)) Z' := by
  have hr' := fun r e => (hr r e).2
  have l1 := h.sb.lt
  refine ⟨rowIs_tol h.nb hg hr', rowIs_tol h.ab hg hr', rowIs_tol h.sb hg hr', ?_, ?_⟩
  · exact ⟨hg.os.trans h.bl.os, hg.tape.trans h.bl.tape, hg.output.trans h.bl.output, Nat.le_trans h.bl.size hg.size, fun k hk => (hg.block k (Nat.lt_of_lt_of_le hk h.bl.size) (fun e => by have := (hr k e.symm).1; omega)).trans (h.bl.block k hk)⟩
  · exact fun x => x.elim h.p1 (fun x => by omega)

theorem SV.set {w : World} {nv : Value} {m S : Nat} {Pr : Nat → Prop} {Z X : World} (h : SV w nv m S Pr Z) (hX : Below Z.heap.size Z X) (S' : Nat) :
    SV w nv m S' Pr (X.setCell ⟨w.heap.size + 1 + 1, 0, none⟩ (.int .i64 (S' : Int))) ∧ KpS Pr Z (X.setCell ⟨w.heap.size + 1 + 1, 0, none⟩ (.int .i64 (S' : Int))) := by
  have hs : (X.setCell ⟨w.heap.size + 1 + 1, 0, none⟩ (.int .i64 (S' : Int))).heap.size = X.heap.size := by simp [World.setCell]
  refine ⟨⟨?_, ?_, ?_, ?_, h.p1⟩, ⟨hX.os, hX.tape, hX.output, ?_, fun k hk hl => ?_⟩⟩
  · exact (rowB h.nb hX).setOther (by show w.heap.size ≠ w.heap.size + 1 + 1; omega) _
  · exact (rowB h.ab hX).setOther (by show w.heap.size + 1 ≠ w.heap.size + 1 + 1; omega) _
  · exact ((rowB h.sb hX).set 0 _).congr (fun i hi => by rw [if_pos (by omega)])
  · exact (h.bl.trans (hX.mono h.bl.size)).setCell (p := ⟨w.heap.size + 1 + 1, 0, none⟩) (by show w.heap.size ≤ w.heap.size + 1 + 1; omega) _
  · rw [hs]; exact hX.size
  · rw [Deep.blk_setCell_other _ _ _ _ (fun e => h.p1 (by have : k = w.heap.size + 1 + 1 := e; rw [← this]; exact hk))]
    exact hX.block k hl

theorem SV.fin {w : World} {nv : Value} {m S : Nat} {Pr : Nat → Prop} {Z : World} (h : SV w nv m S Pr Z) {D : Nat} (hD : w.heap.size ≤ D) (hd : Z.heap[D]? = some (.deferred (some []))) :
    Below w.heap.size w (Z.putObj D (.deferred none)) := by
  have hg : Z.grownBy (Z.putObj D (.deferred none)) (some D) := grownBy_putObj' _ _ _
  have hbl := h.bl
  exact ⟨hg.os.trans hbl.os, hg.tape.trans hbl.tape, hg.output.trans hbl.output, Nat.le_trans hbl.size hg.size, fun k hk => (hg.block k (Nat.lt_of_lt_of_le hk hbl.size) (fun e => by cases e; omega)).trans (hbl.block k hk)⟩

set_option maxRecDepth 100000 in
set_option maxHeartbeats 6400000 in
theorem sizeAhead_any (l : List ND) (G : Good l) (hB : NB l) (hl : (l.length : Int) + nssz l ≤ 1048576) (a : Option Addr) (cc : Nat) (wB : World) (base g : Nat) (pa : Nat → Option Addr) (ca : Nat → Nat) (vn vw : Value)
    (m : Nat) (hm : m < l.length) (w : World) (hr : Refs w) (ha : NsAt w a l) (hTT : TT wB base g l pa ca l.length vn vw w) :
    Calls Tryd.prog 40 #[.pointer (some ⟨g, 0, none⟩), .slice a l.length cc, .int .i64 (m : Int)] w fun e w' => e = .returned (.int .i64 (frm l m : Int)) ∧ Below w.heap.size w w' := by
  have hw := treeF_ways G.tree
  have h60 := treeF_len G.tree
  obtain ⟨P, R, hP1, hP2, hP3⟩ := Seg.told hw (egE l) (l.length - 0) 0 0 l.length m (Nat.le_refl _) (Seg.top hw) (Nat.zero_le _) hm
  have HP1 := Hid.mk' hP1
  have HP2 := Hid.mk' hP2
  have HP3 := Hid.mk' hP3
  have hLen : ∀ q, q <+: evs (endN l) 0 l.length → FLn l q ≤ 172800 := fun q hq => by
    obtain ⟨r, hr⟩ := hq
    have h1 := G.len (Seg.top hw)
    unfold tx at h1
    rw [← hr, List.flatMap_append, List.length_append] at h1
    unfold FLn
    omega
  have HLn := Hid.mk' hLen
  clear hP1 hP2 hP3 hLen
  refine (callsIn_wide (n := 0)).1 (callsIn_of_wp_marks Tryd.func40 rfl trivial ?_)
  simp only [Tryd.ntmps40, List.size_toArray, List.length_cons, List.length_nil, Nat.reduceAdd, Nat.reduceSub, Array.replicate_succ, Array.replicate_zero, List.push_toArray, List.append_toArray, List.nil_append, List.cons_append]
  have HG := Hid.mk' G
  have HBn := Hid.mk' hB
  have HRf := Hid.mk' hr
  have HNs := Hid.mk' ha
  have HTr := Hid.mk' hTT
  have HSg := Hid.mk' (Seg.top hw)
  clear G hB hr ha hTT
  refine wpIn_wide.2 ?_
  have N1 := below_new w (.cells #[.slice a l.length cc] 28)
  have N2 := N1.alloc (by simp) (.cells #[.int .i64 (m : Int)] 2)
  have N3 := N2.alloc (by simp; omega) (.cells #[.int .i64 0] 3)
  have s1 : (w.alloc (.cells #[.slice a l.length cc] 28)).heap.size = w.heap.size + 1 := by simp
  have s2 : ((w.alloc (.cells #[.slice a l.length cc] 28)).alloc (.cells #[.int .i64 (m : Int)] 2)).heap.size = w.heap.size + 1 + 1 := by simp
  have s3 : Hid ((((w.alloc (.cells #[.slice a l.length cc] 28)).alloc (.cells #[.int .i64 (m : Int)] 2)).alloc (.cells #[.int .i64 0] 3)).heap.size = w.heap.size + 1 + 1 + 1) := Hid.mk' (by simp)
  have hSV : Hid (SV w (.slice a l.length cc) m 0 (fun k => k < w.heap.size) (((w.alloc (.cells #[.slice a l.length cc] 28)).alloc (.cells #[.int .i64 (m : Int)] 2)).alloc (.cells #[.int .i64 0] 3))) := Hid.mk' (by
    have M3 := below_new ((w.alloc (.cells #[.slice a l.length cc] 28)).alloc (.cells #[.int .i64 (m : Int)] 2)) (.cells #[.int .i64 0] 3)
    have M2 := below_new (w.alloc (.cells #[.slice a l.length cc] 28)) (.cells #[.int .i64 (m : Int)] 2)
    refine ⟨?_, ?_, ?_, N3, fun h => by omega⟩
    · exact rowB (rowB (row1 w 28 (.slice a l.length cc)) M2) M3
    · have := rowB (row1 (w.alloc (.cells #[.slice a l.length cc] 28)) 2 (.int .i64 (m : Int))) M3
      rwa [s1] at this
    · have := row1 ((w.alloc (.cells #[.slice a l.length cc] 28)).alloc (.cells #[.int .i64 (m : Int)] 2)) 3 (.int .i64 0)
      rwa [s2] at this)
  have HN3 := Hid.mk' N3
  clear N1 N2 N3 s1 s2
  go_wp2_with fail
  generalize ((w.alloc (.cells #[.slice a l.length cc] 28)).alloc (.cells #[.int .i64 (m : Int)] 2)).alloc (.cells #[.int .i64 0] 3) = W1 at *
  refine (around_at _ _ _ W1).mono ?_
  rintro e W0 ⟨rfl, hb0, hs0, q0, q1, q2⟩
  have hW0s : Hid (W0.heap.size = w.heap.size + 1 + 1 + 1 + 3) := Hid.mk' (by rw [hs0, s3.out])
  have hB0 : Below w.heap.size w W0 := HN3.out.trans (hb0.mono HN3.out.size)
  have hit := Hid.mk' (around1_any l HG.out.tree wB base g pa ca vn vw w HTr.out (l.length - 0) 0 0 l.length rfl HSg.out W1.heap.size W0 hB0 (by have := s3.out; omega) (by omega) q0 q1 q2)
  have hSV0 := Hid.mk' (hSV.out.tol (grown_of_below hb0) (fun r e => by cases e))
  have HB0 := Hid.mk' hB0
  have HS0 := Hid.mk' hs0
  clear hb0 hs0 q0 q1 q2 hB0 hSV HN3
  go_wp2
  refine (wpIn_wide (n := 0)).1 ?_
  refine range_law (n := 0) (gf := 66) (lb := #[.pointer (some ⟨W1.heap.size + 1, 0, none⟩), .pointer (some ⟨W1.heap.size + 2, 0, none⟩), .pointer (some ⟨W1.heap.size, 0, none⟩)]) rfl (enters_of Tryd.func66 (by kernel_rfl) rfl) hit.out (fun _ => rfl)
    (fun Pr q Z => (∀ x ∈ q, ¬ x.1 = m) ∧ SV w (.slice a l.length cc) m (FLn l q) Pr Z)
    (fun c Pr q Z => c = .exit 0 ∧ ∃ q0 b, q = q0 ++ [(m, b)] ∧ (∀ x ∈ q0, ¬ x.1 = m) ∧ SV w (.slice a l.length cc) m (FLn l q0) Pr Z)
    ?tolI ?tolX (fun k => k < w.heap.size ∨ (W1.heap.size ≤ k ∧ k < W0.heap.size)) ?need ⟨(fun x hx => by cases hx), hSV0.out⟩
    (fun x => { tmps := (Value.pointer (some ⟨g, 0, none⟩) :: Value.slice a l.length cc :: Value.int .i64 (m : Int) :: undef :: Value.pointer (some ⟨w.heap.size, 0, none⟩) :: Value.pointer (some ⟨w.heap.size + 1, 0, none⟩) :: Value.int .i64 0 :: Value.pointer (some ⟨w.heap.size + 1 + 1, 0, none⟩) :: Value.int .i64 (x.1 : Int) :: Value.int .i64 (sideI x) :: Value.pointer (some ⟨g, 0, none⟩) :: Value.slice a l.length cc :: Value.int .i64 (l.length : Int) :: Value.func (.func 66) #[] #[.pointer (some ⟨W1.heap.size + 1, 0, none⟩), .pointer (some ⟨W1.heap.size + 2, 0, none⟩), .pointer (some ⟨W1.heap.size, 0, none⟩)] :: Value.int .i64 (x.1 : Int) :: Value.int .i64 (sideI x) :: undef :: undef :: undef :: undef :: undef :: undef :: undef :: undef :: undef :: undef :: undef :: undef :: undef :: undef :: []).toArray, defers := [] }) ?assign ?body ?done ?stop
  case tolI =>
    rintro Pr q Z Z' row ⟨z1, z2⟩ hg hr
    exact ⟨z1, z2.tol hg (fun r e => ⟨by have := (hr r e).1; have := HB0.out.size; omega, (hr r e).2⟩)⟩
  case tolX =>
    rintro c' Pr q Z Z' row ⟨z0, q0, b, z1, z3, z2⟩ hg hr
    exact ⟨z0, q0, b, z1, z3, z2.tol hg (fun r e => ⟨by have := (hr r e).1; have := HB0.out.size; omega, (hr r e).2⟩)⟩
  case need =>
    intro k hk
    have := HS0.out
    rcases hk with h | h
    · exact .inl h
    · exact .inr ⟨h.1, by omega⟩
  case assign =>
    intro m' l' x Z K hK
    clear hit hSV0 HB0 HG HBn HRf HNs HTr HSg HP1 HP2 HP3 HLn
    dsimp only [encE]
    gi_wp2
    exact hK
  case body =>
    rintro m' l' Pr q ⟨k, b⟩ Z hPr ⟨z1, z2⟩ hpx
    have hxm : (k, b) ∈ evs (endN l) 0 l.length := hpx.subset (List.mem_append.2 (.inr (List.mem_singleton.2 rfl)))
    have hk : k < l.length := evs_mem (l.length - 0) 0 0 l.length (k, b) (Nat.le_refl _) HSg.out hw hxm
    have hq2 : FLn l (q ++ [(k, b)]) = FLn l q + (egE l (k, b)).length := by unfold FLn; simp
    have hS : FLn l q ≤ 172800 := by have := HLn.out _ hpx; omega
    have KE0 : Hid (∀ p p' pc pc', AAt Z p (ndK l k).at_ → BAt Z p' (ndK l k).tx → ∀ w', Below Z.heap.size Z w' → Calls Tryd.prog 53 #[.agg #[.int .i64 (ndK l k).up, .string (ndK l k).tg, .slice p (ndK l k).at_.length pc, .slice p' (ndK l k).tx.length pc'], .int .i64 (sideI (k, b))] w' fun e w'' => e = .returned (.agg #[.int .i64 0, .string ⟨(egE l (k, b)).toArray⟩]) ∧ Below w'.heap.size w' w'') :=
      Hid.mk' (fun p p' pc pc' h1 h2 w' hb => edgeOf_any l HG.out HBn.out hl k hk b p p' pc pc' w' (HRf.out.below (z2.bl.trans (hb.mono z2.bl.size))) (h1.below hb) (h2.below hb))
    have hE := HG.out.edge hk b
    have nsZ := HNs.out.below z2.bl
    have ci : (k : Int) < (l.length : Int) := by omega
    have WZ := Hid.mk' z2
    have n0 := z2.nb.cell (i := 0) (by omega)
    have a0 := z2.ab.cell (i := 0) (by omega)
    have s0 := z2.sb.cell (i := 0) (by omega)
    have sf := z2.sb.frozen 0
    have sl := z2.sb.lt
    have Z1 := Hid.mk' z1
    clear hit hSV0 HTr HSg hxm hpx z2 z1 HNs HG HBn HRf HP1 HP2 HP3 HLn
    by_cases hkm : k = m
    · subst hkm
      have GX := Hid.mk' (show leftM W0.heap.size (fun Pr q Z => (∀ x ∈ q, ¬ x.1 = k) ∧ SV w (.slice a l.length cc) k (FLn l q) Pr Z) (fun c Pr q Z => c = .exit 0 ∧ ∃ q0 b, q = q0 ++ [(k, b)] ∧ (∀ x ∈ q0, ¬ x.1 = k) ∧ SV w (.slice a l.length cc) k (FLn l q0) Pr Z) Pr (q ++ [(k, b)]) Z (.exit 0) { tmps := #[], defers := [] } Z from
        ⟨⟨rfl, q, b, rfl, Z1.out, WZ.out⟩, KpS.refl _ _⟩)
      dsimp only at *
      generalize sideI (k, b) = sd at *
      clear n0 s0 sf nsZ KE0
      gi_wp2
      exact GX.out
    rcases nsZ with h0 | ⟨nb, no, rfl, hnb, hc⟩
    · exact absurd hk (by rw [h0]; exact Nat.not_lt_zero _)
    obtain ⟨d0, d1, ⟨p, pc, d2, hpc, hat⟩, ⟨p', pc', d3, htx⟩⟩ := hc k hk
    have KE := Hid.mk' (KE0.out p p' pc pc' hat htx)
    have GX := Hid.mk' (show ∀ w7, Below Z.heap.size Z w7 → leftM W0.heap.size (fun Pr q Z => (∀ x ∈ q, ¬ x.1 = m) ∧ SV w (.slice (some ⟨nb, no, none⟩) l.length cc) m (FLn l q) Pr Z) (fun c Pr q Z => c = .exit 0 ∧ ∃ q0 b, q = q0 ++ [(m, b)] ∧ (∀ x ∈ q0, ¬ x.1 = m) ∧ SV w (.slice (some ⟨nb, no, none⟩) l.length cc) m (FLn l q0) Pr Z) Pr (q ++ [(k, b)]) Z .normal { tmps := #[], defers := [] } (w7.setCell ⟨w.heap.size + 1 + 1, 0, none⟩ (.int .i64 (IntKind.i64.wrap ((FLn l q : Int) + ((egE l (k, b)).length : Int))))) from fun w7 hb7 => by
      have e1 : IntKind.i64.wrap ((FLn l q : Int) + ((egE l (k, b)).length : Int)) = ((FLn l (q ++ [(k, b)]) : Nat) : Int) := by
        rw [hq2]
        rw [IntKind.wrap_i64]; omega
      rw [e1]
      have := WZ.out.set hb7 (FLn l (q ++ [(k, b)]))
      refine ⟨⟨fun x hx => ?_, this.1⟩, this.2⟩
      rcases List.mem_append.1 hx with h | h
      · exact Z1.out x h
      · rw [List.mem_singleton.1 h]; exact hkm)
    have R6 := Hid.mk' (fun x0 x1 x2 x3 x5 x6 x10 x11 x12 x13 x14 x15 x16 x17 x18 x19 x20 x21 x22 x23 x24 x25 x26 x27 x28 x29 => region6 Z (w.heap.size + 1 + 1) w.heap.size nb no l.length cc k (FLn l q) (sideI (k, b)) (egE l (k, b)) (ndK l k) p p' pc pc' l' m' [] (by omega) hE s0 sf sl n0 ci d0 d1 d2 d3 KE x0 x1 x2 x3 x5 x6 x10 x11 x12 x13 x14 x15 x16 x17 x18 x19 x20 x21 x22 x23 x24 x25 x26 x27 x28 x29)
    clear KE0 hc hat htx KE d0 d1 d2 d3 n0 s0 sf hq2 hE
    have hkb : ((k : Int) == (m : Int)) = false := by simp; omega
    have hkd : ¬ ((k : Int) = (m : Int)) := by omega
    dsimp only at *
    generalize egE l (k, b) = T at *
    generalize ndK l k = t at *
    generalize hSd : sideI (k, b) = sd at *
    gi_wp2_with fail
    refine wpIn_mono (R6.out _ _ _ _ _ _ _ _ _ _ _ _ _ _ _ _ _ _ _ _ _ _ _ _ _ _) ?_
    rintro e a' X ⟨rfl, w7, hb7, rfl⟩
    exact GX.out w7 hb7
  case done =>
    rintro D Pr Z hD hDZ hPr hPD ⟨z1, z2⟩ hkz hd
    exact absurd rfl (z1 (m, false) (by rw [HP1.out]; exact List.mem_append.2 (.inr (List.mem_cons_self ..))))
  case stop =>
    rintro D Pr c' q Z hD hDZ hPr hPD hq ⟨rfl, q0, b, rfl, z1, z2⟩ hkz hd
    have hDw : w.heap.size ≤ D := by have := HB0.out.size; omega
    have hfr : FLn l q0 = frm l m := by
      obtain ⟨r, hr⟩ := hq
      have : q0 = P := first_eq (fun x => x.1 = m) q0 P (m, b) (m, false) r R (by rw [← HP1.out, ← hr]; simp) z1 HP2.out rfl rfl
      rw [this]
      exact HP3.out
    rw [hfr] at z2
    have s0 := z2.sb.cell (i := 0) (by omega)
    have P5 := Hid.mk' (z2.fin hDw hd)
    have P1 := Hid.mk' hd
    clear z1 z2 hit hSV0 HG HBn HRf HNs HTr HSg hkz hd hPr hPD hDw hq HP1 HP2 HP3 HLn hfr
    refine wpIn_wide.2 ?_
    go_wp2
    refine ⟨by simp, .inl ⟨_, _, rfl, run_takeDeferred P1.out, ?_⟩⟩
    refine ⟨.int .i64 (frm l m : Int), by simp [results, Tryd.results40, go_sem], rfl, P5.out⟩
end Go.Proofs.YtcjnfodkppcpoaaDoor

/- SpanOf, the program's side. -/
namespace Go.Proofs.YtcjnfodkppcpoaaDoor
open Go.RowKit Go.Maps
set_option linter.unusedVariables false
set_option linter.unusedSimpArgs false

set_option maxRecDepth 100000 in
set_option maxHeartbeats 3200000 in
theorem implSP_any (a : Option Addr) (c : Nat) (l : List ND) (x : Int) (w : World) (hr : Refs w) (ha : NsAt w a l) (hB : NB l) (hl : (l.length : Int) + nssz l ≤ 1048576) :
    Calls Tryd.prog 18 #[.slice a l.length c, .int .i64 x] w fun e w' => e = .returned (.agg #[.int .i64 (spC l x), .int .i64 (spA l x), .int .i64 (spB l x)]) ∧ Below w.heap.size w w' := by
  have N0 := below_new w (.cells #[.int .i64 0, .int .i64 0, .int .i64 0] 38)
  have HB0 := Hid.mk' N0
  have HR := Hid.mk' (rowQ3 w 38 (.int .i64 0) (.int .i64 0) (.int .i64 0))
  have KA := Hid.mk' (implWR_any a c l _ (hr.below N0) (ha.below N0) hB hl)
  have HA := Hid.mk' ha
  have HRf := Hid.mk' hr
  have HNB := Hid.mk' hB
  obtain ⟨CC, KK, hCK⟩ : ∃ CC KK, (CC, KK) = wtF l := ⟨_, _, rfl⟩
  rw [← hCK] at KA
  have HCK := Hid.mk' hCK
  clear ha hB N0 hCK hr
  generalize hW : w.alloc (.cells #[.int .i64 0, .int .i64 0, .int .i64 0] 38) = W at *
  go_enter Tryd.func18, Tryd.ntmps18
  go_wp2_with fail
  clear hW
  refine KA.out.mono ?_
  rintro e w1 ⟨v, c', rfl, hat, hfa, hfr, hb1⟩
  have N2 := below_new w1 (.cells #[.int .i64 CC, .slice v KK.length c'] 26)
  have B2 := hb1.trans (N2.mono hb1.size)
  have HB := Hid.mk' (HB0.out.trans (B2.mono HB0.out.size))
  have HR2 := Hid.mk' (rowB HR.out B2)
  have RT := rowQ2 w1 26 (.int .i64 CC) (.slice v KK.length c')
  clear hb1 N2 B2 KA hat hfa hfr
  dsimp only at *
  generalize hW2 : w1.alloc (.cells #[.int .i64 CC, .slice v KK.length c'] 26) = W2 at *
  obtain ⟨t0, t1, t2⟩ := cellsQ2 RT
  by_cases h0 : CC = 0
  rotate_left
  · have hc0 : ¬ (wtF l).1 = 0 := by rw [← HCK.out]; exact h0
    have E : Hid (spC l x = CC ∧ spA l x = 0 ∧ spB l x = 0) := Hid.mk' (by
      have e1 : spC l x = CC := by unfold spC; rw [if_neg hc0, ← HCK.out]
      exact ⟨e1, by unfold spA; rw [if_neg (by rw [e1]; exact h0)], by unfold spB; rw [if_neg (by rw [e1]; exact h0)]⟩)
    have h0b : (CC != 0) = true := by simp [h0]
    obtain ⟨y0, y1, y2, y3⟩ := cellsQ3 HR2.out
    obtain ⟨f0, f1, f2⟩ := frzQ3 HR2.out
    clear hc0 h0
    go_wp2
    refine bodyPost_ret (v := .agg #[.int .i64 CC, .int .i64 0, .int .i64 0]) (by simp [results, Tryd.results18, go_sem, *]) rfl ?_
    exact ⟨by rw [E.out.1, E.out.2.1, E.out.2.2], ((HB.out.setCell (p := ⟨w.heap.size, 0, none⟩) (by simp) _).setCell (p := ⟨w.heap.size, 1, none⟩) (by simp) _).setCell (p := ⟨w.heap.size, 2, none⟩) (by simp) _⟩
  subst h0
  have hc0 : (wtF l).1 = 0 := by rw [← HCK.out]
  obtain ⟨G, G240⟩ := wt_good hc0
  have h60 := treeF_len G.tree
  have HG := Hid.mk' G
  have HC0 := Hid.mk' hc0
  clear G hc0
  have KF := Hid.mk' (treeOf_any a c l W2 (HA.out.below HB.out) hl)
  go_wp2_with fail
  clear hW2
  refine KF.out.mono ?_
  rintro e w3 (⟨h0, rfl, hb⟩ | ⟨h0, pa, ca, g, vn, vw, rfl, hT⟩)
  · exact absurd HG.out.tree h0
  obtain ⟨an, cn, ev, _⟩ := own_len hT.on
  subst ev
  obtain ⟨aw, cw, ev, _⟩ := own_len hT.ow
  subst ev
  have N2 := below_new w3 (.cells #[.slice an l.length cn, .slice aw (wayU (upF l) l.length).length cw] 54)
  have HT2 := Hid.mk' (hT.rebox N2 (Nat.le_refl _) (rowp2 w3 54 (.slice an l.length cn) (.slice aw (wayU (upF l) l.length).length cw)))
  have HR3 := Hid.mk' (rowB HR2.out (hT.bl.trans (N2.mono hT.bl.size)))
  have HB2 := Hid.mk' (HB.out.trans ((hT.bl.trans (N2.mono hT.bl.size)).mono HB.out.size))
  clear hT N2 KF t0 t1 t2 RT h0
  generalize hW3 : w3.alloc (.cells #[.slice an l.length cn, .slice aw (wayU (upF l) l.length).length cw] 54) = W3 at *
  obtain ⟨t0, t1, t2⟩ := cells2 HT2.out.box
  have KH := Hid.mk' (hasPlace_any w3.heap.size an l.length cn x W3 t0)
  go_wp2_with fail
  clear hW3
  refine KH.out.mono ?_
  rintro e w4 ⟨rfl, hw4⟩
  obtain rfl := hw4.symm
  clear KH t0 t1 t2
  by_cases hin : 0 ≤ x ∧ x < (l.length : Int)
  rotate_left
  · have E : Hid (spC l x = 3 ∧ spA l x = 0 ∧ spB l x = 0) := Hid.mk' (by
      have e1 : spC l x = 3 := by unfold spC; rw [if_pos HC0.out, if_neg hin]
      exact ⟨e1, by unfold spA; rw [if_neg (by rw [e1]; decide)], by unfold spB; rw [if_neg (by rw [e1]; decide)]⟩)
    have hd : (decide (x ≥ 0) && decide (x < (l.length : Int))) = false := by
      cases hq : (decide (x ≥ 0) && decide (x < (l.length : Int))) with
      | false => rfl
      | true =>
        simp only [Bool.and_eq_true, decide_eq_true_eq] at hq
        exact absurd ⟨hq.1, hq.2⟩ hin
    rw [hd]
    obtain ⟨y0, y1, y2, y3⟩ := cellsQ3 HR3.out
    obtain ⟨f0, f1, f2⟩ := frzQ3 HR3.out
    clear hin hd
    go_wp2
    refine bodyPost_ret (v := .agg #[.int .i64 3, .int .i64 0, .int .i64 0]) (by simp [results, Tryd.results18, go_sem, *]) rfl ?_
    exact ⟨by rw [E.out.1, E.out.2.1, E.out.2.2], ((HB2.out.setCell (p := ⟨w.heap.size, 0, none⟩) (by simp) _).setCell (p := ⟨w.heap.size, 1, none⟩) (by simp) _).setCell (p := ⟨w.heap.size, 2, none⟩) (by simp) _⟩
  obtain ⟨m, rfl⟩ : ∃ m : Nat, x = (m : Int) := ⟨x.toNat, by omega⟩
  have hm : m < l.length := by omega
  have hd : (decide ((m : Int) ≥ 0) && decide ((m : Int) < (l.length : Int))) = true := by simp; omega
  rw [hd]
  have E : Hid (spC l (m : Int) = 0 ∧ spA l (m : Int) = (frm l m : Int) ∧ spB l (m : Int) = ((nT l m).length : Int)) := Hid.mk' (by
    have e1 : spC l (m : Int) = 0 := by unfold spC; rw [if_pos HC0.out, if_pos hin]
    exact ⟨e1, by unfold spA; rw [if_pos e1, Int.toNat_natCast], by unfold spB; rw [if_pos e1, Int.toNat_natCast]⟩)
  have KE := Hid.mk' (end_any W2 W2.heap.size w3.heap.size l pa ca _ _ m W3 HT2.out hm (by omega))
  have KW0 : Hid (∀ w', Below W3.heap.size W3 w' → Calls Tryd.prog 26 #[.pointer (some ⟨w3.heap.size, 0, none⟩), .slice a l.length c, .int .i64 (m : Int), .int .i64 (endN l m : Int)] w' fun e w'' => KqP (ansT (nT l m)) w' e w'') := Hid.mk' (fun w' hb => written_any l HG.out HNB.out hl a c W2 W2.heap.size w3.heap.size pa ca _ _ (dp l m) m (endN l m) (Seg.one (treeF_ways HG.out.tree) hm) w' (HRf.out.below (HB2.out.trans (hb.mono HB2.out.size))) (HA.out.below (HB2.out.trans (hb.mono HB2.out.size))) (HT2.out.below hb))
  have KS0 : Hid (∀ w', Below W3.heap.size W3 w' → Calls Tryd.prog 40 #[.pointer (some ⟨w3.heap.size, 0, none⟩), .slice a l.length c, .int .i64 (m : Int)] w' fun e w'' => e = .returned (.int .i64 (frm l m : Int)) ∧ Below w'.heap.size w' w'') := Hid.mk' (fun w' hb => sizeAhead_any l HG.out HNB.out hl a c W2 W2.heap.size w3.heap.size pa ca _ _ m hm w' (HRf.out.below (HB2.out.trans (hb.mono HB2.out.size))) (HA.out.below (HB2.out.trans (hb.mono HB2.out.size))) (HT2.out.below hb))
  rw [ansT_fit (show ¬ 240 < (nT l m).length by have := nT_le HG.out hm; omega)] at KW0
  have hT2' : (bytesL ⟨(nT l m).toArray⟩).length = (nT l m).length := by unfold bytesL; simp
  have hTL : (nT l m).length ≤ 240 := by have := nT_le HG.out hm; omega
  clear hd hin HG HC0 G240
  generalize bytesL ⟨(nT l m).toArray⟩ = TB at *
  generalize nT l m = T at *
  generalize ahead (egE l) (endN l) 0 l.length m = fr at *
  have HT := Hid.mk' hT2'
  clear hT2'
  go_wp2_with fail
  refine KE.out.mono ?_
  rintro e w5 ⟨rfl, hb5⟩
  have KW := Hid.mk' (KW0.out w5 hb5)
  have HB5 := Hid.mk' hb5
  clear KE KW0 hb5 HT2
  go_wp2_with fail
  refine KW.out.mono ?_
  rintro e w6 ⟨u, uc, rfl, hat, hfa, hfr', hb6⟩
  have N6 := below_new w6 (.cells #[.int .i64 0, .slice u TB.length uc] 26)
  have B6 := hb6.trans (N6.mono hb6.size)
  have HB6 := Hid.mk' (HB5.out.trans (B6.mono HB5.out.size))
  have RO := Hid.mk' (rowQ2 w6 26 (.int .i64 0) (.slice u TB.length uc))
  have HLT := Hid.mk' (show w.heap.size < w6.heap.size from by have h1 := HR3.out.lt; have h2 := HB5.out.size; have h3 := hb6.size; omega)
  clear hat hfa hfr' hb6 N6 B6 KW HB5
  dsimp only at *
  generalize hW6 : w6.alloc (.cells #[.int .i64 0, .slice u TB.length uc] 26) = W6 at *
  obtain ⟨o0, o1, o2⟩ := cellsQ2 RO.out
  have HR6 := Hid.mk' (rowB HR3.out HB6.out)
  obtain ⟨y0, y1, y2, y3⟩ := cellsQ3 HR6.out
  obtain ⟨f0, f1, f2⟩ := frzQ3 HR6.out
  have KS := Hid.mk' (KS0.out W6.drew HB6.out.drew)
  clear KS0
  go_wp2_with fail
  clear hW6
  have hne : w.heap.size ≠ w6.heap.size := by have := HB2.out.size; have := HB6.out.size; have := HLT.out; omega
  have hne2 : w6.heap.size ≠ w.heap.size := fun e => hne e.symm
  go_region_held3 (fun w' => w'.cell? ⟨w6.heap.size, 1, none⟩ = some (.slice u TB.length uc) ∧ w'.frozen? ⟨w.heap.size, 0, none⟩ = false ∧ w'.frozen? ⟨w.heap.size, 1, none⟩ = false ∧ w'.frozen? ⟨w.heap.size, 2, none⟩ = false) (first | (simp [*]; done) | go_keep)
    ((go_at_call 40; refine KS.out.mono ?_; rintro e w7 ⟨rfl, hb7⟩; replace hb7 := undrew hb7; obtain ⟨hx1, hx2⟩ := bcell hb7))
  have HR7 := Hid.mk' (rowB HR6.out hb7)
  have B7 := HB6.out.trans (hb7.mono HB6.out.size)
  have HB7 := Hid.mk' (HB2.out.trans (B7.mono HB2.out.size))
  clear hx1 hx2 hb7 B7 y0 y1 y2 f0 f1 f2
  obtain ⟨y0, y1, y2, y4⟩ := cellsQ3 HR7.out
  obtain ⟨f0, f1, f2⟩ := frzQ3 HR7.out
  go_wp2
  refine bodyPost_ret (v := .agg #[.int .i64 0, .int .i64 (frm l m : Int), .int .i64 (TB.length : Int)]) (by simp [results, Tryd.results18, go_sem, *]) rfl ?_
  exact ⟨by rw [E.out.1, E.out.2.1, E.out.2.2, ← HT.out], ((HB7.out.setCell (p := ⟨w.heap.size, 0, none⟩) (by simp) _).setCell (p := ⟨w.heap.size, 1, none⟩) (by simp) _).setCell (p := ⟨w.heap.size, 2, none⟩) (by simp) _⟩
end Go.Proofs.YtcjnfodkppcpoaaDoor

/- The law on SpanOf. -/
namespace Go.Proofs.YtcjnfodkppcpoaaDoor
open Go.RowKit Go.Maps
set_option linter.unusedVariables false
set_option linter.unusedSimpArgs false

theorem eqSR_any (x y z : Int) (w : World) :
    Calls Tryd.prog 19 #[.agg #[.int .i64 x, .int .i64 y, .int .i64 z], .agg #[.int .i64 x, .int .i64 y, .int .i64 z]] w fun e w' => e = .returned (.bool true) ∧ Below w.heap.size w w' := by
  go_enter Tryd.func19, Tryd.ntmps19
  go_wp2
  go_ret
  exact ⟨rfl, ((below_new _ _).alloc (by simp) _)⟩

set_option maxRecDepth 100000 in
set_option maxHeartbeats 6000000 in
theorem lawSP_any (a : Option Addr) (c : Nat) (l : List ND) (x : Int) (w : World) (ha : NsAt w a l) (hw : WideN l) (hB : NB l) (hl : (l.length : Int) ≤ 9223372036854775807) (hr : Refs w) :
    Calls Tryd.prog 5 #[.slice a l.length c, .int .i64 x] w fun e w' => e = .returned (.bool true) ∧ Below w.heap.size w w' := by
  have KS := szNodeS_any a c l 1048576 w ha hw (by omega) (by omega) hl
  have HA := Hid.mk' ha
  have HRF := Hid.mk' hr
  have HNB := Hid.mk' hB
  clear ha hw hr hB
  by_cases g1 : 1048576 < (l.length : Int) + nssz l
  · rw [if_pos g1] at KS
    have KS := Hid.mk' KS
    go_enter Tryd.func5, Tryd.ntmps5
    go_wp2_with fail
    refine KS.out.mono ?_
    rintro e w1 ⟨rfl, hb1⟩
    have HB := Hid.mk' hb1
    clear hb1 KS
    go_wp2
    go_ret
    exact ⟨rfl, HB.out⟩
  rw [if_neg g1] at KS
  have KS := Hid.mk' KS
  have zz : ¬ (1048576 - (l.length : Int) - nssz l < 0) := by omega
  have hl2 : (l.length : Int) + nssz l ≤ 1048576 := by omega
  have KSP : Hid (∀ (X : World) (a' : Option Addr) (c' : Nat), NsAt X a' l → Calls Tryd.prog 17 #[.slice a' l.length c', .int .i64 x] X fun e w' => e = .returned (.agg #[.int .i64 (spC l x), .int .i64 (spA l x), .int .i64 (spB l x)]) ∧ Below X.heap.size X w') := Hid.mk' (fun X a' c' h2 => specSP_any a' c' l x X h2 HNB.out hl2)
  have KIM : Hid (∀ (X : World) (a' : Option Addr) (c' : Nat), NsAt X a' l → Refs X → Calls Tryd.prog 18 #[.slice a' l.length c', .int .i64 x] X fun e w' => e = .returned (.agg #[.int .i64 (spC l x), .int .i64 (spA l x), .int .i64 (spB l x)]) ∧ Below X.heap.size X w') := Hid.mk' (fun X a' c' h2 h3 => implSP_any a' c' l x X h3 h2 HNB.out hl2)
  generalize spC l x = A at *
  generalize spA l x = V at *
  generalize spB l x = U at *
  go_enter Tryd.func5, Tryd.ntmps5
  go_wp2_with fail
  refine KS.out.mono ?_
  rintro e w2 ⟨rfl, hb2⟩
  have HB := Hid.mk' hb2
  clear hb2 KS g1
  go_wp2_with fail
  clear zz
  refine (toNodeS_any a c l w2 (HA.out.below HB.out) hl2).mono ?_
  rintro e w3 ⟨rfl, t3⟩
  have HB := Hid.mk' (HB.out.trans (t3.bl.mono HB.out.size))
  have KSP := Hid.mk' (KSP.out w3 _ l.length t3.at)
  clear t3
  go_wp2_with fail
  refine KSP.out.mono ?_
  rintro e w5 ⟨rfl, hb5⟩
  have N5 := below_new w5 (.cells #[.int .i64 A, .int .i64 V, .int .i64 U] 38)
  have M5 := hb5.trans (N5.mono hb5.size)
  have HB := Hid.mk' (HB.out.trans (M5.mono HB.out.size))
  have RW := Hid.mk' (rowQ3 w5 38 (.int .i64 A) (.int .i64 V) (.int .i64 U))
  clear hb5 N5 M5 KSP
  generalize hW5 : w5.alloc (.cells #[.int .i64 A, .int .i64 V, .int .i64 U] 38) = W5 at *
  go_wp2_with fail
  clear hW5
  refine (toNodeS_any a c l W5 (HA.out.below HB.out) hl2).mono ?_
  rintro e w6 ⟨rfl, t6⟩
  have HB := Hid.mk' (HB.out.trans (t6.bl.mono HB.out.size))
  have RW := Hid.mk' (rowB RW.out t6.bl)
  have T6 := Hid.mk' t6.at
  clear t6
  have KI := Hid.mk' (KIM.out w6 _ l.length T6.out (HRF.out.below HB.out))
  clear KIM
  go_wp2_with fail
  refine KI.out.mono ?_
  rintro e w8 ⟨rfl, hb8⟩
  have N8 := below_new w8 (.cells #[.int .i64 A, .int .i64 V, .int .i64 U] 38)
  have M8 := hb8.trans (N8.mono hb8.size)
  have HB := Hid.mk' (HB.out.trans (M8.mono HB.out.size))
  have RW := Hid.mk' (rowB RW.out M8)
  have RG := Hid.mk' (rowQ3 w8 38 (.int .i64 A) (.int .i64 V) (.int .i64 U))
  have T6 := Hid.mk' (T6.out.below M8)
  clear hb8 N8 M8 KI
  generalize hW8 : w8.alloc (.cells #[.int .i64 A, .int .i64 V, .int .i64 U] 38) = W8 at *
  obtain ⟨g0, g1, g2, g3⟩ := cellsQ3 RG.out
  obtain ⟨k0, k1, k2, k3⟩ := cellsQ3 RW.out
  go_wp2_with fail
  clear hW8
  refine (eqSR_any A V U W8).mono ?_
  rintro e w1 ⟨rfl, hb1⟩
  have HB := Hid.mk' (HB.out.trans (hb1.mono HB.out.size))
  have T6 := Hid.mk' (T6.out.below hb1)
  clear hb1 g0 g1 g2 g3 k0 k1 k2 k3
  go_wp2_with fail
  refine (toNodeS_any a c l w1 (HA.out.below HB.out) hl2).mono ?_
  rintro e w9 ⟨rfl, t9⟩
  have HB := Hid.mk' (HB.out.trans (t9.bl.mono HB.out.size))
  have T6 := Hid.mk' (T6.out.below t9.bl)
  have T9 := Hid.mk' t9.at
  clear t9
  go_wp2_with fail
  refine (eqNodeS_any _ _ _ _ l w9 T6.out T9.out hl2).mono ?_
  rintro e w10 ⟨rfl, hb10⟩
  have HB := Hid.mk' (HB.out.trans (hb10.mono HB.out.size))
  clear hb10 T6 T9
  go_wp2
  go_ret
  exact ⟨rfl, HB.out⟩
end Go.Proofs.YtcjnfodkppcpoaaDoor
