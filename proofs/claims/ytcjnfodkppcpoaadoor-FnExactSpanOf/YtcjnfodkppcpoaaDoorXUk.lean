/- The text of nodes, the program's side: written. -/
import Derived.Test.YtcjnfodkppcpoaaDoorXUl
namespace Go.Proofs.YtcjnfodkppcpoaaDoor
open Go.RowKit Go.Maps Go.Shelf
set_option linter.unusedVariables false
set_option linter.unusedSimpArgs false
attribute [local go_sem] Oper.semAt_some

/-- The answer is laid, and the mark of the loop is taken. -/
theorem WV.fin {w : World} {nv : Value} {lg : Bool} {Pr : Nat → Prop} {L : List Int} {v : Value} {Z : World} (h : WV w nv lg Pr L v Z) (x y : Value) {D : Nat} (hD : w.heap.size ≤ D) (hd : Z.heap[D]? = some (.deferred (some []))) :
    ((Z.setCell ⟨w.heap.size + 1, 0, none⟩ x).setCell ⟨w.heap.size + 1, 1, none⟩ y).heap[D]? = some (.deferred (some [])) ∧
    (((Z.setCell ⟨w.heap.size + 1, 0, none⟩ x).setCell ⟨w.heap.size + 1, 1, none⟩ y).putObj D (.deferred none)).cell? ⟨w.heap.size + 1, 0, none⟩ = some x ∧
    (((Z.setCell ⟨w.heap.size + 1, 0, none⟩ x).setCell ⟨w.heap.size + 1, 1, none⟩ y).putObj D (.deferred none)).cell? ⟨w.heap.size + 1, 1, none⟩ = some y ∧
    (((Z.setCell ⟨w.heap.size + 1, 0, none⟩ x).setCell ⟨w.heap.size + 1, 1, none⟩ y).putObj D (.deferred none)).ownsRow (w.heap.size + 1 + 1 + 1 + 1) 5 1 v L.length (bcs L) ∧
    Below w.heap.size w (((Z.setCell ⟨w.heap.size + 1, 0, none⟩ x).setCell ⟨w.heap.size + 1, 1, none⟩ y).putObj D (.deferred none)) := by
  have hne : D ≠ w.heap.size + 1 := fun e => by
    obtain ⟨c, hc, _⟩ := h.rb
    rw [← e, hd] at hc
    cases hc
  have hdF : ((Z.setCell ⟨w.heap.size + 1, 0, none⟩ x).setCell ⟨w.heap.size + 1, 1, none⟩ y).heap[D]? = some (.deferred (some [])) := by
    rw [Deep.blk_setCell_other _ _ _ _ hne, Deep.blk_setCell_other _ _ _ _ hne]; exact hd
  have hrow := (h.rb.set 0 x).set 1 y
  have hbl : Below w.heap.size w ((Z.setCell ⟨w.heap.size + 1, 0, none⟩ x).setCell ⟨w.heap.size + 1, 1, none⟩ y) := (h.bl.setCell (p := ⟨w.heap.size + 1, 0, none⟩) (by show w.heap.size ≤ w.heap.size + 1; omega) x).setCell (p := ⟨w.heap.size + 1, 1, none⟩) (by show w.heap.size ≤ w.heap.size + 1; omega) y
  have hown : ((Z.setCell ⟨w.heap.size + 1, 0, none⟩ x).setCell ⟨w.heap.size + 1, 1, none⟩ y).ownsRow (w.heap.size + 1 + 1 + 1 + 1) 5 1 v L.length (bcs L) := by
    refine ⟨h.own.1, h.own.2.imp id ?_⟩
    rintro ⟨g, cap, cur, e, hb, hh, hrest⟩
    refine ⟨g, cap, cur, e, hb, ?_, hrest⟩
    rw [Deep.blk_setCell_other _ _ _ _ (by show g ≠ w.heap.size + 1; omega), Deep.blk_setCell_other _ _ _ _ (by show g ≠ w.heap.size + 1; omega)]
    exact hh
  generalize (Z.setCell ⟨w.heap.size + 1, 0, none⟩ x).setCell ⟨w.heap.size + 1, 1, none⟩ y = F at *
  have hg : F.grownBy (F.putObj D (.deferred none)) (some D) := grownBy_putObj' _ _ _
  have hr : ∀ r, some D = some r → ∃ o : Obj, F.heap[r]? = some o ∧ o.isCells = false := fun r e => by cases e; exact ⟨_, hdF, rfl⟩
  have hrow' := rowIs_tol hrow hg hr
  refine ⟨hdF, ?_, ?_, own_tol hown hg hr, ?_⟩
  · have := hrow'.cell (i := 0) (by omega)
    simpa using this
  · have := hrow'.cell (i := 1) (by omega)
    simpa using this
  · exact ⟨hg.os.trans hbl.os, hg.tape.trans hbl.tape, hg.output.trans hbl.output, Nat.le_trans hbl.size hg.size, fun k hk => (hg.block k (Nat.lt_of_lt_of_le hk hbl.size) (fun e => by cases e; omega)).trans (hbl.block k hk)⟩

theorem own_bytes {Z : World} {base : Nat} {av : Option Addr} {cv : Nat} {L : List Int} (h : Z.ownsRow base 5 1 (.slice av L.length cv) L.length (bcs L)) : BAt Z av L ∧ FrA Z av L.length ∧ (∀ b o, av = some ⟨b, o, none⟩ → base ≤ b) := by
  rcases h.2 with ⟨e, e0⟩ | ⟨g, cap, cur, e, hb, hh, hnc, hcm, hsz, hx⟩
  · have : L = [] := List.eq_nil_of_length_eq_zero e0
    injection e with e1 _ _
    subst e1
    exact ⟨.inl this, (fun b o e => by cases e), (fun b o e => by cases e)⟩
  · cases e
    have hcell : ∀ k, k < L.length → Z.cell? ⟨g, 0 + k, none⟩ = some (bv L k) := fun k hk => by
      have h1 : (cur.toList.take (L.length * 1))[k]? = (bcs L)[k]? := by rw [hx]
      rw [Nat.mul_one, List.getElem?_take_of_lt hk] at h1
      simp only [World.cell?, hh]
      rw [Nat.zero_add, ← Array.getElem?_toList, h1]
      simp [bcs, bv, hk]
    refine ⟨.inr ⟨g, 0, rfl, (Array.getElem?_eq_some_iff.1 hh).1, hcell⟩, fun b o e k hk => ?_, fun b o e => ?_⟩
    · cases e
      simp [World.frozen?, hh]
    · cases e
      exact hb

/-- How many bytes were told. -/
def FLn (l : List ND) (q : List (Nat × Bool)) : Nat := (q.flatMap (egE l)).length

set_option maxRecDepth 100000 in
set_option maxHeartbeats 6400000 in
theorem written_any (l : List ND) (G : Good l) (hB : NB l) (hl : (l.length : Int) + nssz l ≤ 1048576) (a : Option Addr) (cc : Nat) (wB : World) (base g : Nat) (pa : Nat → Option Addr) (ca : Nat → Nat) (vn vw : Value)
    (c i j : Nat) (hseg : Seg l c i j) (w : World) (hr : Refs w) (ha : NsAt w a l) (hTT : TT wB base g l pa ca l.length vn vw w) :
    Calls Tryd.prog 26 #[.pointer (some ⟨g, 0, none⟩), .slice a l.length cc, .int .i64 (i : Int), .int .i64 (j : Int)] w fun e w' => KqP (ansT (tx (egE l) (endN l) i j)) w e w' := by
  have hw := treeF_ways G.tree
  have h60 := treeF_len G.tree
  refine (callsIn_wide (n := 0)).1 (callsIn_of_wp_marks Tryd.func26 rfl trivial ?_)
  simp only [Tryd.ntmps26, List.size_toArray, List.length_cons, List.length_nil, Nat.reduceAdd, Nat.reduceSub, Array.replicate_succ, Array.replicate_zero, List.push_toArray, List.append_toArray, List.nil_append, List.cons_append]
  have HG := Hid.mk' G
  have HBn := Hid.mk' hB
  have HRf := Hid.mk' hr
  have HNs := Hid.mk' ha
  have HTr := Hid.mk' hTT
  have HSg := Hid.mk' hseg
  clear G hB hr ha hTT hseg
  refine wpIn_wide.2 ?_
  go_wp2
  refine wp_scope_none (fun l a w h => h) ?_
  have N1 := below_new w (.cells #[.slice a l.length cc] 28)
  have N2 := N1.alloc (by simp) (.cells #[.int .i64 0, .slice none 0 0] 26)
  have N3 := N2.alloc (by simp; omega) (.cells #[.slice none 0 0] 24)
  have N4 := N3.alloc (by simp; omega) (.cells #[.bool false] 4)
  have s1 : (w.alloc (.cells #[.slice a l.length cc] 28)).heap.size = w.heap.size + 1 := by simp
  have s2 : ((w.alloc (.cells #[.slice a l.length cc] 28)).alloc (.cells #[.int .i64 0, .slice none 0 0] 26)).heap.size = w.heap.size + 1 + 1 := by simp
  have s3 : (((w.alloc (.cells #[.slice a l.length cc] 28)).alloc (.cells #[.int .i64 0, .slice none 0 0] 26)).alloc (.cells #[.slice none 0 0] 24)).heap.size = w.heap.size + 1 + 1 + 1 := by simp
  have s4 : Hid (((((w.alloc (.cells #[.slice a l.length cc] 28)).alloc (.cells #[.int .i64 0, .slice none 0 0] 26)).alloc (.cells #[.slice none 0 0] 24)).alloc (.cells #[.bool false] 4)).heap.size = w.heap.size + 1 + 1 + 1 + 1) := Hid.mk' (by simp)
  have hWI : Hid (WI w (.slice a l.length cc) false (fun k => k < w.heap.size) [] ((((w.alloc (.cells #[.slice a l.length cc] 28)).alloc (.cells #[.int .i64 0, .slice none 0 0] 26)).alloc (.cells #[.slice none 0 0] 24)).alloc (.cells #[.bool false] 4))) := Hid.mk' (by
    have M4 := below_new (((w.alloc (.cells #[.slice a l.length cc] 28)).alloc (.cells #[.int .i64 0, .slice none 0 0] 26)).alloc (.cells #[.slice none 0 0] 24)) (.cells #[.bool false] 4)
    have M3 := below_new ((w.alloc (.cells #[.slice a l.length cc] 28)).alloc (.cells #[.int .i64 0, .slice none 0 0] 26)) (.cells #[.slice none 0 0] 24)
    have M2 := below_new (w.alloc (.cells #[.slice a l.length cc] 28)) (.cells #[.int .i64 0, .slice none 0 0] 26)
    refine ⟨.slice none 0 0, ?_, ⟨rfl, .inl ⟨rfl, rfl⟩⟩, ?_, ?_, ?_, N4, fun h => by omega, fun h => by omega, fun k hk => by simp [Value.ownBlock] at hk, fun k hk => by have := N4.size; omega⟩
    · have := rowB (row1 ((w.alloc (.cells #[.slice a l.length cc] 28)).alloc (.cells #[.int .i64 0, .slice none 0 0] 26)) 24 (.slice none 0 0)) M4
      rwa [s2] at this
    · have := row1 (((w.alloc (.cells #[.slice a l.length cc] 28)).alloc (.cells #[.int .i64 0, .slice none 0 0] 26)).alloc (.cells #[.slice none 0 0] 24)) 4 (.bool false)
      rwa [s3] at this
    · exact rowB (rowB (rowB (row1 w 28 (.slice a l.length cc)) M2) M3) M4
    · have := rowB (rowB (rowQ2 (w.alloc (.cells #[.slice a l.length cc] 28)) 26 (.int .i64 0) (.slice none 0 0)) M3) M4
      rwa [s1] at this)
  have HN4 := Hid.mk' N4
  clear N1 N2 N3 N4 s1 s2 s3
  go_wp2
  refine wp_label ?_
  go_wp2_with fail
  generalize (((w.alloc (.cells #[.slice a l.length cc] 28)).alloc (.cells #[.int .i64 0, .slice none 0 0] 26)).alloc (.cells #[.slice none 0 0] 24)).alloc (.cells #[.bool false] 4) = W1 at *
  refine (around_at _ _ _ W1).mono ?_
  rintro e W0 ⟨rfl, hb0, hs0, q0, q1, q2⟩
  have hW0s : Hid (W0.heap.size = w.heap.size + 1 + 1 + 1 + 1 + 3) := Hid.mk' (by rw [hs0, s4.out])
  have hB0 : Below w.heap.size w W0 := HN4.out.trans (hb0.mono HN4.out.size)
  have hit := Hid.mk' (around1_any l HG.out.tree wB base g pa ca vn vw w HTr.out (j - i) c i j rfl HSg.out W1.heap.size W0 hB0 (by have := s4.out; omega) (by omega) q0 q1 q2)
  have hWI0 := Hid.mk' (hWI.out.tol (grown_of_below hb0) (fun r e => by cases e))
  have HB0 := Hid.mk' hB0
  have HS0 := Hid.mk' hs0
  clear hb0 hs0 q0 q1 q2 hB0 hWI HN4
  go_wp2
  refine (wpIn_wide (n := 0)).1 ?_
  refine range_law (n := 0) (gf := 66) (lb := #[.pointer (some ⟨W1.heap.size + 1, 0, none⟩), .pointer (some ⟨W1.heap.size + 2, 0, none⟩), .pointer (some ⟨W1.heap.size, 0, none⟩)]) rfl (enters_of Tryd.func66 (by kernel_rfl) rfl) hit.out (fun _ => rfl)
    (fun Pr q Z => FLn l q ≤ 240 ∧ WI w (.slice a l.length cc) false Pr (LB l q) Z)
    (fun c Pr q Z => c = .exit 0 ∧ 240 < FLn l q ∧ ∃ L, WI w (.slice a l.length cc) true Pr L Z)
    ?tolI ?tolX (fun k => k < w.heap.size ∨ (W1.heap.size ≤ k ∧ k < W0.heap.size)) ?need ⟨by unfold FLn; simp, hWI0.out⟩
    (fun x => { tmps := (Value.pointer (some ⟨g, 0, none⟩) :: Value.slice a l.length cc :: Value.int .i64 (i : Int) :: Value.int .i64 (j : Int) :: undef :: Value.pointer (some ⟨w.heap.size, 0, none⟩) :: undef :: undef :: Value.pointer (some ⟨w.heap.size + 1, 0, none⟩) :: Value.pointer (some ⟨w.heap.size + 1 + 1, 0, none⟩) :: Value.pointer (some ⟨w.heap.size + 1 + 1 + 1, 0, none⟩) :: Value.int .i64 (x.1 : Int) :: Value.int .i64 (sideI x) :: undef :: undef :: Value.pointer (some ⟨g, 0, none⟩) :: Value.int .i64 (i : Int) :: Value.int .i64 (j : Int) :: Value.func (.func 66) #[] #[.pointer (some ⟨W1.heap.size + 1, 0, none⟩), .pointer (some ⟨W1.heap.size + 2, 0, none⟩), .pointer (some ⟨W1.heap.size, 0, none⟩)] :: Value.int .i64 (x.1 : Int) :: Value.int .i64 (sideI x) :: undef :: undef :: undef :: undef :: undef :: undef :: undef :: undef :: undef :: undef :: undef :: undef :: undef :: undef :: undef :: undef :: undef :: undef :: undef :: undef :: undef :: undef :: undef :: undef :: undef :: undef :: undef :: []).toArray, defers := [] }) ?assign ?body ?done ?stop
  case tolI =>
    rintro Pr q Z Z' row ⟨z1, z2⟩ hg hr
    exact ⟨z1, z2.tol hg (fun r e => ⟨by have := (hr r e).1; have := HB0.out.size; omega, (hr r e).2⟩)⟩
  case tolX =>
    rintro c' Pr q Z Z' row ⟨z0, z1, L, z2⟩ hg hr
    exact ⟨z0, z1, L, z2.tol hg (fun r e => ⟨by have := (hr r e).1; have := HB0.out.size; omega, (hr r e).2⟩)⟩
  case need =>
    intro k hk
    have := HS0.out
    rcases hk with h | h
    · exact .inl h
    · exact .inr ⟨h.1, by omega⟩
  case assign =>
    intro m' l' x Z K hK
    clear hit hWI0 HB0 HG HBn HRf HNs HTr HSg
    dsimp only [encE]
    gi_wp2
    exact hK
  case body =>
    rintro m' l' Pr q ⟨k, b⟩ Z hPr ⟨z1, v, z2⟩ hpx
    have hxm : (k, b) ∈ evs (endN l) i j := hpx.subset (List.mem_append.2 (.inr (List.mem_singleton.2 rfl)))
    have hk : k < l.length := by
      have h1 : k < j := evs_mem (j - i) c i j (k, b) (Nat.le_refl _) HSg.out hw hxm
      have := HSg.out.lt
      omega
    have KE0 : Hid (∀ p p' pc pc', AAt Z p (ndK l k).at_ → BAt Z p' (ndK l k).tx → Calls Tryd.prog 53 #[.agg #[.int .i64 (ndK l k).up, .string (ndK l k).tg, .slice p (ndK l k).at_.length pc, .slice p' (ndK l k).tx.length pc'], .int .i64 (sideI (k, b))] Z fun e w' => e = .returned (.agg #[.int .i64 0, .string ⟨(egE l (k, b)).toArray⟩]) ∧ Below Z.heap.size Z w') :=
      Hid.mk' (fun p p' pc pc' h1 h2 => edgeOf_any l HG.out HBn.out hl k hk b p p' pc pc' Z (HRf.out.below z2.bl) h1 h2)
    have hE := HG.out.edge hk b
    have nsZ := HNs.out.below z2.bl
    have ci : (k : Int) < (l.length : Int) := by omega
    have WZ := Hid.mk' z2
    have n0 := z2.nb.cell (i := 0) (by omega)
    have LBq : Hid (LB l (q ++ [(k, b)]) = LB l q ++ (egE l (k, b)).map (fun (b : UInt8) => (b.toNat : Int))) := Hid.mk' (by unfold LB; simp)
    have FLq' : FLn l (q ++ [(k, b)]) = FLn l q + (egE l (k, b)).length := by unfold FLn; simp
    have LBl' : (LB l q).length = FLn l q := by unfold LB FLn; simp
    clear hit hWI0 HTr HSg hxm hpx z2 HNs HG HBn HRf
    rcases nsZ with h0 | ⟨nb, no, rfl, hnb, hc⟩
    · exact absurd hk (by rw [h0]; exact Nat.not_lt_zero _)
    obtain ⟨d0, d1, ⟨p, pc, d2, hpc, hat⟩, ⟨p', pc', d3, htx⟩⟩ := hc k hk
    have KE := Hid.mk' (KE0.out p p' pc pc' hat htx)
    clear KE0 hc hat htx
    generalize ndK l k = t at *
    generalize egE l (k, b) = E at *
    generalize hLq : LB l q = Lq at *
    generalize hSd : sideI (k, b) = sd at *
    have FLq := Hid.mk' FLq'
    have LBl := Hid.mk' LBl'
    have Z1Q := Hid.mk' z1
    clear FLq' LBl' z1
    dsimp only at *
    gi_wp2
    refine ⟨trivial, fun h => absurd h (by decide), CallsIn.inRound l' (callsIn_wide.2 (KE.out.mono ?_))⟩
    rintro e Z1 ⟨rfl, hb1⟩
    have N1 := below_new Z1 (.cells #[.int .i64 0, .string ⟨E.toArray⟩] 85)
    have hb2 := hb1.trans (N1.mono hb1.size)
    have WZ2 := Hid.mk' (WZ.out.grow (grown_of_below hb2))
    have KP2 : Hid (KpS Pr Z (Z1.alloc (.cells #[.int .i64 0, .string ⟨E.toArray⟩] 85))) := Hid.mk' (KpS.of_below hb2)
    have RT := Hid.mk' (rowQ2 Z1 85 (.int .i64 0) (.string ⟨E.toArray⟩))
    have HZB := Hid.mk' (show w.heap.size + 1 + 1 < Z1.heap.size from Nat.lt_of_lt_of_le WZ.out.tb.lt hb1.size)
    clear hb1 N1 hb2 KE d0 d1 d2 d3 n0 WZ
    generalize hZ2 : Z1.alloc (.cells #[.int .i64 0, .string ⟨E.toArray⟩] 85) = Z2 at *
    generalize hze : Z1.heap.size = ze at *
    obtain ⟨r0, r1, r2⟩ := cellsQ2 RT.out
    have hsz : ((⟨E.toArray⟩ : ByteArray).size : Int) = (E.length : Int) := by simp [ByteArray.size]
    gi_wp2
    clear hZ2 hze r0 r1 hsz
    gi_loopw [30] (fun y wr => ∃ (ii : Nat) (v : Value), ii ≤ E.length ∧ y = .int .i64 (ii : Int) ∧ Lq.length + ii ≤ 240 ∧ WV w (.slice (some ⟨nb, no, none⟩) l.length cc) false Pr (Lq ++ (E.take ii).map (fun (b : UInt8) => (b.toNat : Int))) v wr ∧ KpS Pr Z wr ∧ wr.rowIs ze 85 2 (q2 (.int .i64 0) (.string ⟨E.toArray⟩))) (fun y _ => E.length - (intOf y).toNat)
    case atStart => exact ⟨0, v, Nat.zero_le _, rfl, by have := LBl.out; have := Z1Q.out; omega, by simpa using WZ2.out, KP2.out, RT.out⟩
    case round =>
      obtain ⟨ii, v, hii, rfl, h240, hWV, hKp, hRT⟩ := hrel
      clear WZ2 KP2 RT
      have t0 := hWV.tb.cell (i := 0) (by omega)
      have t1 := hWV.tb.frozen 0
      have b0 := hWV.lb.cell (i := 0) (by omega)
      have b1 := hWV.lb.frozen 0
      obtain ⟨r0, r1, r2⟩ := cellsQ2 hRT
      have LL : (Lq ++ (E.take ii).map (fun (b : UInt8) => (b.toNat : Int))).length = Lq.length + ii := by simp; omega
      obtain ⟨av, cv, ev, _⟩ := own_len hWV.own
      rw [LL] at ev
      by_cases hlt : ii < E.length
      · have ci2 : (ii : Int) < (E.length : Int) := by omega
        by_cases hbig : 240 ≤ Lq.length + ii
        · have hb1 : (240 : Int) ≤ ((Lq.length + ii : Nat) : Int) := by omega
          subst ev
          have GX := Hid.mk' (show leftM W0.heap.size (fun Pr q Z => FLn l q ≤ 240 ∧ WI w (.slice (some ⟨nb, no, none⟩) l.length cc) false Pr (LB l q) Z) (fun c Pr q Z => c = .exit 0 ∧ 240 < FLn l q ∧ ∃ L, WI w (.slice (some ⟨nb, no, none⟩) l.length cc) true Pr L Z) Pr (q ++ [(k, b)]) Z (.exit 0) { tmps := #[], defers := [] } (wr.setCell ⟨w.heap.size + 1 + 1 + 1, 0, none⟩ (.bool true)) from
            ⟨⟨rfl, by have := FLq.out; have := LBl.out; omega, _, _, hWV.large.1⟩, (hKp.trans hWV.large.2).mono (fun k h => h.1)⟩)
          clear hWV hKp hRT
          gi_wp2
          exact GX.out
        · have hb1 : ¬ (240 : Int) ≤ ((Lq.length + ii : Nat) : Int) := by omega
          subst ev
          have R12 := Hid.mk' (fun x0 x1 x2 x3 x4 x5 x6 x7 x8 x10 x11 x12 x15 x16 x17 x18 x19 x20 x21 x22 x23 x24 x25 x26 x27 x28 x29 x30 x31 x32 x33 x34 x35 x36 x37 x38 x39 x40 x41 x42 x43 x44 x45 x46 x47 => region12 w (.slice (some ⟨nb, no, none⟩) l.length cc) Pr Lq E ii ze av cv wr l' m' [] hlt hE (by omega) hWV hRT (by have := HZB.out; omega) _ rfl x0 x1 x2 x3 x4 x5 x6 x7 x8 x10 x11 x12 x15 x16 x17 x18 x19 x20 x21 x22 x23 x24 x25 x26 x27 x28 x29 x30 x31 x32 x33 x34 x35 x36 x37 x38 x39 x40 x41 x42 x43 x44 x45 x46 x47)
          have KPr := Hid.mk' hKp
          clear hWV hKp hRT
          gi_wp2
          refine wpIn_mono (R12.out _ _ _ _ _ _ _ _ _ _ _ _ _ _ _ _ _ _ _ _ _ _ _ _ _ _ _ _ _ _ _ _ _ _ _ _ _ _ _ _ _ _ _ _ _) ?_
          rintro e a' X ⟨rfl, v', rfl, h1, h2, h3⟩
          have H1 := Hid.mk' h1
          have H2 := Hid.mk' (KPr.out.trans h2)
          have H3 := Hid.mk' h3
          clear R12 h1 h2 h3 KPr t0 t1 b0 b1 r0 r1 r2
          gi_wp2
          go_roundw
          case rel => exact ⟨ii + 1, v', by omega, by go_num, by omega, H1.out, H2.out, H3.out⟩
          case measure => simp [intOf]; omega
      · have ci2 : ¬ (ii : Int) < (E.length : Int) := by omega
        have hie : ii = E.length := by omega
        have GX := Hid.mk' (show leftM W0.heap.size (fun Pr q Z => FLn l q ≤ 240 ∧ WI w (.slice (some ⟨nb, no, none⟩) l.length cc) false Pr (LB l q) Z) (fun c Pr q Z => c = .exit 0 ∧ 240 < FLn l q ∧ ∃ L, WI w (.slice (some ⟨nb, no, none⟩) l.length cc) true Pr L Z) Pr (q ++ [(k, b)]) Z .normal { tmps := #[], defers := [] } wr from
          ⟨⟨by have := FLq.out; have := LBl.out; omega, v, by rw [LBq.out]; rw [hie, List.take_length] at hWV; exact hWV⟩, hKp⟩)
        clear hWV hKp hRT
        gi_wp2
        exact GX.out
  case done =>
    rintro D Pr Z hD hDZ hPr hPD ⟨z1, v, z2⟩ hkz hd
    obtain ⟨av, cv, ev, _⟩ := own_len z2.own
    subst ev
    have t0 := z2.tb.cell (i := 0) (by omega)
    have b0 := z2.lb.cell (i := 0) (by omega)
    obtain ⟨y0, y1, y2⟩ := cellsQ2 z2.rb
    obtain ⟨f0, f1⟩ := frzQ2 z2.rb
    have hDw : w.heap.size ≤ D := by have := HB0.out.size; omega
    obtain ⟨p1, p2, p3, p4, p5⟩ := z2.fin (.int .i64 0) (.slice av (LB l (evs (endN l) i j)).length cv) hDw hd
    have E1 : ansT (tx (egE l) (endN l) i j) = (0, LB l (evs (endN l) i j)) := by
      rw [ansT_fit (show ¬ 240 < (tx (egE l) (endN l) i j).length from by have : FLn l (evs (endN l) i j) ≤ 240 := z1; unfold FLn at this; unfold tx; omega)]
      refine congrArg (fun x => ((0 : Int), x)) ?_
      unfold bytesL LB tx
      rfl
    have P1 := Hid.mk' p1
    have P2 := Hid.mk' p2
    have P3 := Hid.mk' p3
    have P4 := Hid.mk' p4
    have P5 := Hid.mk' p5
    have HE1 := Hid.mk' E1
    have HD2 := Hid.mk' hd
    clear p1 p2 p3 p4 p5 E1 z1 z2 hit hWI0 HG HBn HRf HNs HTr HSg hkz hd hPr hPD hDw
    generalize LB l (evs (endN l) i j) = L at *
    go_wp2
    refine ⟨by simp, .inl ⟨_, _, rfl, run_takeDeferred P1.out, ?_⟩⟩
    have q2' := P2.out
    have q3' := P3.out
    obtain ⟨o1, o2, o3⟩ := own_bytes P4.out
    refine ⟨.agg #[.int .i64 0, .slice av L.length cv], by simp [results, Tryd.results26, go_sem, q2', q3'], ?_⟩
    rw [HE1.out]
    exact ⟨av, cv, rfl, o1, o2, fun b o e => by have := o3 b o e; omega, P5.out⟩
  case stop =>
    rintro D Pr c' q Z hD hDZ hPr hPD hq ⟨rfl, z1, L, v, z2⟩ hkz hd
    have b0 := z2.lb.cell (i := 0) (by omega)
    obtain ⟨y0, y1, y2⟩ := cellsQ2 z2.rb
    obtain ⟨f0, f1⟩ := frzQ2 z2.rb
    have hDw : w.heap.size ≤ D := by have := HB0.out.size; omega
    obtain ⟨p1, p2, p3, p4, p5⟩ := z2.fin (.int .i64 6) (.slice none 0 0) hDw hd
    have E1 : ansT (tx (egE l) (endN l) i j) = (6, []) := by
      refine ansT_big ?_
      obtain ⟨r, hr⟩ := hq
      have : (tx (egE l) (endN l) i j).length = FLn l q + (r.flatMap (egE l)).length := by
        unfold tx FLn
        rw [← hr, List.flatMap_append, List.length_append]
      omega
    have P1 := Hid.mk' p1
    have P2 := Hid.mk' p2
    have P3 := Hid.mk' p3
    have P5 := Hid.mk' p5
    have HE1 := Hid.mk' E1
    clear p1 p2 p3 p4 p5 E1 z1 z2 hit hWI0 HG HBn HRf HNs HTr HSg hkz hd hPr hPD hDw hq
    refine wpIn_wide.2 ?_
    go_wp2
    refine ⟨by simp, .inl ⟨_, _, rfl, run_takeDeferred P1.out, ?_⟩⟩
    have q2' := P2.out
    have q3' := P3.out
    refine ⟨.agg #[.int .i64 6, .slice none 0 0], by simp [results, Tryd.results26, go_sem, q2', q3'], ?_⟩
    exact kqP_nil HE1.out P5.out
end Go.Proofs.YtcjnfodkppcpoaaDoor
