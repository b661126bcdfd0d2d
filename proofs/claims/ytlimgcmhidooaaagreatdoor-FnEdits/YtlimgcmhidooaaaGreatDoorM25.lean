/- The program reads a text from check to check: the walk. -/
import Derived.Test.YtlimgcmhidooaaaGreatDoorM24
import Derived.BigGuard
set_option maxHeartbeats 6400000
set_option maxRecDepth 100000
set_option linter.unusedVariables false
set_option linter.unusedSimpArgs false
namespace Go.Proofs.YtlimgcmhidooaaaGreatDoor
open Go.RowKit
theorem checksIn_any (ad : Option Addr) (n c : Nat) (s : Nat) (w : World) (hn : (n : Int) ≤ 240) (hs : 1 ≤ s) (hs2 : s ≤ 60) :
  Calls Tryz.prog 65 #[.slice ad n c, .int .i64 (s : Int)] w fun e w' => e = .returned (.int .i64 ((n / s + 1 : Nat) : Int)) ∧ w' = w := by
 have hq : n / s ≤ 240 := Nat.le_trans (Nat.div_le_self _ _) (by omega)
 have hd : (n : Int) / (s : Int) = ((n / s : Nat) : Int) := by simp
 generalize n / s = q at *
 have w1 : IntKind.i64.wrap (q : Int) = (q : Int) := by rw [IntKind.wrap_i64]; omega
 have w2 : IntKind.i64.wrap ((q : Int) + 1) = (q : Int) + 1 := by rw [IntKind.wrap_i64]; omega
 go_enter Tryz.func65, Tryz.ntmps65
 go_wp2
 go_ret
 exact ⟨by first | rfl | (congr 2; simp [*]; done) | (congr 2; omega), rfl⟩
def arrOf (n : Nat) (f : Nat → Value) : Array Value := Array.ofFn (fun i : Fin n => f i)
theorem arrOf_size (n : Nat) (f : Nat → Value) : (arrOf n f).size = n := by simp [arrOf]
theorem arrOf_at (n : Nat) (f : Nat → Value) (i : Nat) (h : i < n) : (arrOf n f)[i]? = some (f i) := by simp [arrOf, h]
theorem row_arr {w : World} {b : Nat} {t : TypeId} {n : Nat} {f : Nat → Value} (h : w.rowIs b t n f) : w.heap[b]? = some (.cells (arrOf n f) t (0, 0)) := by
 obtain ⟨cs, hg, hs, hc⟩ := h
 have e : cs = arrOf n f := by
  apply Array.ext_getElem?
  intro i
  by_cases hi : i < n
  ·rw [hc i hi, arrOf_at n f i hi]
  ·rw [Array.getElem?_eq_none (by omega), Array.getElem?_eq_none (by rw [arrOf_size]; omega)]
 rw [← e]; exact hg
theorem row_of_arr {w : World} {b : Nat} {t : TypeId} {n : Nat} {f : Nat → Value} (h : w.heap[b]? = some (.cells (arrOf n f) t (0, 0))) : w.rowIs b t n f :=
 ⟨_, h, arrOf_size n f, fun i hi => arrOf_at n f i hi⟩
theorem arr3 (x y z : Value) : arrOf 3 (r3 x y z) = #[x, y, z] := by simp [arrOf, Array.ofFn_succ, r3]
theorem exec_load_row {P : Program} {o : Oper} {a : Act} {w : World} (ty : TypeId) (x : Operand) (ho : o.op = .load ty x) (g : Nat) (hx : a.eval x = .pointer (some ⟨g, 0, none⟩)) (t : TypeId) (cs : Array Value) (fr : Nat × Nat) (d : TypeDesc) (hg : w.heap[g]? = some (.cells cs t fr))
  (hu : P.underlying ty = some d) (hd : (match d with | .struct _ | .array _ _ => true | _ => false) = true) (hi : (P.info? ty).map (·.size) = some cs.size) :
  (execOp a.eval o).run P w = .ok (.value (.agg cs)) w := by
 unfold execOp
 simp only [ho, hx, Instr.loadAt, Instr.sureAddr, Sem.run_bind, Sem.run_pure, Result.andThen_ok, run_loadVar_row w g t ty cs fr d hg hu hd hi]
theorem step_store_row {P : Program} {ops : Array Oper} {o : Oper} {a : Act} {w : World} {K : Act → World → Prop} {Q : Exit → Act → World → Prop} {E : Prop} (hgd : o.guard = none) (ty : TypeId) (x y : Operand) (ho : o.op = .store ty x y)
  (g : Nat) (cells : Array Value) (hx : a.eval x = .pointer (some ⟨g, 0, none⟩)) (hy : a.eval y = .agg cells)
  (t : TypeId) (old : Array Value) (hg : w.heap[g]? = some (.cells old t (0, 0))) (hi : (P.info? ty).map (·.size) = some cells.size)
  (hold : old.size = cells.size) (h1 : cells.all (·.oneCell') = true)
  (h : K (a.put o.dst undef) (w.setRow g cells)) : if Region.wanted o (yielded ops a.tmps) = true then Oper.wp P o a w K Q else E := by
 have hw : Region.wanted o (yielded ops a.tmps) = true := by simp [Region.wanted, hgd]
 rw [if_pos hw]
 exact wp_store_row ty x y ho g cells hx hy t old hg hi hold h1 h
theorem kept_setRow (w : World) (g : Nat) (cs : Array Value) : KeptIn g (g + 1) w (w.setRow g cs) :=
 ⟨rfl, rfl, rfl, by simp [World.setRow], fun i hi hn => by
  unfold World.setRow
  rw [Array.getElem?_modify, if_neg (by omega)]⟩
theorem ckV_one {d : List Int} {s j : Nat} {hvs : Nat → Value} (h : ∀ i, i ≤ j → (hvs i).oneCell' = true) (i : Nat) : (ckV d s j hvs i).oneCell' = true := by
 unfold ckV
 have h3 : i % 3 = 0 ∨ i % 3 = 1 ∨ i % 3 = 2 := by omega
 by_cases c : i / 3 < j
 ·rw [if_pos c]
  rcases h3 with h3 | h3 | h3 <;> rw [h3] <;> simp [r3]
  ·rfl
  ·rfl
  ·exact h _ (by omega)
 ·rw [if_neg c]
  rcases h3 with h3 | h3 | h3 <;> rw [h3] <;> rfl
theorem all_arr {n : Nat} {f : Nat → Value} (h : ∀ i, (f i).oneCell' = true) : (arrOf n f).all (·.oneCell') = true := by
 rw [Array.all_eq_true]
 intro i hi
 rw [arrOf_size] at hi
 have := arrOf_at n f i hi
 rw [Array.getElem?_eq_some_iff] at this
 obtain ⟨_, e⟩ := this
 rw [e]; exact h i
theorem results_cell_cell {fn : Func} {p u : Tmp} {t1 t2 : TypeId} (h : fn.results = #[.cell p t1, .cell u t2]) (tmps : Array Value) (P : Program) (w : World) :
  (results fn tmps).run P w =
   ((asAddr (tmps.getD p undef)).run P w).andThen fun a w₁ => ((loadVar t1 a).run P w₁).andThen fun v w₂ => ((asAddr (tmps.getD u undef)).run P w₂).andThen fun b w₃ => ((loadVar t2 b).run P w₃).andThen fun v' w₄ => .ok (.tuple #[v, v']) w₄ := by
 simp only [results, h]
 simp [Sem.run_bind, Result.andThen]
theorem info_row : (Tryz.prog.info? 96).map (·.size) = some 723 := by kernel_rfl
structure RX (base : Nat) (d : List Int) (s j : Nat) (tv : Value) (hvs : Nat → Value) (us : List Value) (rs : Nat → List Value) (bl bh : Nat → Nat) (wr : World) : Prop where
 tp : TP base wr tv (tkN d s j) us rs bl bh
 own : ∀ i, i ≤ j → wr.ownsRow base 5 1 (hvs i) (hdN d s i).length (bcs (hdN d s i))
 ap : ∀ i k, i < k → k ≤ j → Ap (hvs i) (hvs k)
 at_ : ∀ i, i ≤ j → Ap (hvs i) tv
 av : ∀ i, i ≤ j → ∀ t, t < (tkN d s j).length → ∀ k, (hvs i).ownBlock = some k → k < bl t ∨ bh t ≤ k
theorem RX.keep {base : Nat} {d : List Int} {s j : Nat} {tv : Value} {hvs : Nat → Value} {us : List Value} {rs : Nat → List Value} {bl bh : Nat → Nat} {wr wj : World} (x : RX base d s j tv hvs us rs bl bh wr) (hs : wr.heap.size ≤ wj.heap.size) (hk : ∀ q, base ≤ q → q < wr.heap.size → wj.heap[q]? = wr.heap[q]?) : RX base d s j tv hvs us rs bl bh wj :=
 ⟨x.tp.keep hs hk, fun i hi => own_of (x.own i hi) (Nat.le_refl _) (fun k e hl => hk k hl ((x.own i hi).lt k e).2), x.ap, x.at_, x.av⟩
theorem RX.below {base : Nat} {d : List Int} {s j : Nat} {tv : Value} {hvs : Nat → Value} {us : List Value} {rs : Nat → List Value} {bl bh : Nat → Nat} {wr wj : World} (x : RX base d s j tv hvs us rs bl bh wr) (hb : Below wr.heap.size wr wj) : RX base d s j tv hvs us rs bl bh wj := x.keep hb.size (fun q _ h => hb.block q h)
theorem RD.rx {w : World} {d : List Int} {s j c : Nat} {tv : Value} {hvs : Nat → Value} {us : List Value} {rs : Nat → List Value} {bl bh : Nat → Nat} {wr : World} (x : RD w d s j c tv hvs us rs bl bh wr) : RX (w.heap.size + 4) d s j tv hvs us rs bl bh wr := ⟨x.tp, x.own, x.ap, x.at_, x.av⟩
def RiP (d : List Int) (s : Nat) (w : World) (e : Ending) (w' : World) : Prop :=
 ∃ tv hvs us rs bl bh, e = .returned (.tuple #[.agg #[.int .i64 0, tv, hvs (d.length / s + 1)], .agg (arrOf 723 (ckV d s (d.length / s + 1) hvs))]) ∧ RX (w.heap.size + 4) d s (d.length / s + 1) tv hvs us rs bl bh w' ∧ Below w.heap.size w w'
theorem Byt.of {l : List Int} (h : ∀ x ∈ l, 0 ≤ x ∧ x ≤ 255) : Byt l := fun k hk => by
 have := h (l[k]) (List.getElem_mem hk)
 simpa [List.getD_eq_getElem?_getD, hk] using this
theorem BAt.part {w : World} {ad : Option Addr} {d : List Int} (h : BAt w ad d) (f n : Nat) (hf : f + n ≤ d.length) (A : Option Addr) (hA : 0 < n → ∀ b o, ad = some ⟨b, o, none⟩ → A = some ⟨b, o + f, none⟩) : BAt w A ((d.drop f).take n) := by
 by_cases h0 : n = 0
 ·left; subst h0; simp
 rcases h with h | ⟨b, o, e, hs, hc⟩
 ·rw [h] at hf; simp at hf; omega
 ·refine .inr ⟨b, o + f, hA (by omega) b o e, hs, fun k hk => ?_⟩
  rw [List.length_take, List.length_drop] at hk
  have := hc (f + k) (by omega)
  rw [show o + f + k = o + (f + k) by omega, this]
  unfold bv
  congr 2
  simp [List.getD_eq_getElem?_getD, List.getElem?_take, show k < n by omega]
theorem readInSteps_any (tp : TypeId) (pv : Value) (d : List Int) (ad : Option Addr) (cd : Nat) (s : Nat) (w : World) (hE : Env w.heap.size tp pv w) (hd : BAt w ad d) (hcd : d.length ≤ cd) (hu : Byt d) (hl : d.length ≤ 240) (hs : 1 ≤ s) (hs2 : s ≤ 60) :
  Calls Tryz.prog 62 #[.slice ad d.length cd, .int .i64 (s : Int)] w fun e w' => RiP d s w e w' := by
 have HD := Hid.mk' hd
 have HU := Hid.mk' hu
 have HE := Hid.mk' hE
 have R0 := Hid.mk' (RD.start w d s)
 have hJ : d.length / s ≤ d.length := Nat.div_le_self _ _
 clear hd hu hE
 generalize hW : (((w.alloc (.cells #[.int .i64 0, .slice none 0 0, .slice none 0 0] 41)).alloc (.cells Tryz.zeroCells96 96)).alloc (.cells #[.int .i64 0, .slice none 0 0, .slice none 0 0] 41)).alloc (.cells Tryz.zeroCells96 96) = W at *
 go_enter Tryz.func62, Tryz.ntmps62
 go_wp2_with fail
 clear hW
 refine (checksIn_any ad d.length cd s _ (by omega) hs hs2).mono ?_
 rintro e w1 ⟨rfl, hw1⟩
 obtain rfl := hw1.symm
 clear hw1
 generalize hJJ : d.length / s + 1 = J at *
 have HJ := Hid.mk' hJJ
 have hJ1 : J ≤ 241 := by omega
 clear hJJ hJ
 go_wp2_with fail
 go_loopw [14] (fun i wr => ∃ (j : Nat) (tv : Value) (hvs : Nat → Value) (us : List Value) (rs : Nat → List Value) (bl bh : Nat → Nat), j ≤ J ∧ i = .int .i64 j ∧ RD w d s j j tv hvs us rs bl bh wr) (fun i _ => J - (intOf i).toNat)
 case atStart => exact ⟨0, _, _, _, _, _, _, Nat.zero_le _, rfl, R0.out⟩
 case round =>
  obtain ⟨j, tv, hvs, us, rs, bl, bh, hj, rfl, hr⟩ := hrel
  by_cases hlt : j < J
  ·have ci : (j : Int) < (J : Int) := by omega
   have ci2 : (j : Int) < 241 := by omega
   have hjs : j * s ≤ d.length := by
    have h1 : j ≤ d.length / s := by have := HJ.out; omega
    have := Nat.mul_le_mul_right s h1
    have := Nat.div_mul_le_self d.length s
    omega
   obtain ⟨q, hq⟩ : ∃ q : Nat, j * s = q := ⟨_, rfl⟩
   have hmul : (j : Int) * (s : Int) = (q : Int) := by rw [← hq]; simp
   have R1 := hr.check (by omega)
   rw [hq] at R1 hjs
   have hwr : IntKind.i64.wrap (q : Int) = (q : Int) := by rw [IntKind.wrap_i64]; omega
   obtain ⟨ta, tc, rfl, -⟩ := own_src hr.tp.row
   obtain ⟨ha, hc, eh, -⟩ := own_bat (hr.own j (Nat.le_refl _))
   rw [eh] at R1
   obtain ⟨x0, x1, x2, x3⟩ := cells3 hr.all
   rw [eh] at x2
   have f0 := hr.cks.frozen (j * 3)
   have f1 := hr.cks.frozen (j * 3 + 1)
   have f2 := hr.cks.frozen (j * 3 + 2)
   obtain ⟨v0, g0⟩ : ∃ v, wr.cell? ⟨w.heap.size + 1 + 1 + 1, j * 3, none⟩ = some v := ⟨_, hr.cks.cell (by omega)⟩
   obtain ⟨v1, g1⟩ : ∃ v, wr.cell? ⟨w.heap.size + 1 + 1 + 1, j * 3 + 1, none⟩ = some v := ⟨_, hr.cks.cell (by omega)⟩
   obtain ⟨v2, g2⟩ : ∃ v, wr.cell? ⟨w.heap.size + 1 + 1 + 1, j * 3 + 2, none⟩ = some v := ⟨_, hr.cks.cell (by omega)⟩
   have RR := Hid.mk' R1
   have EH := Hid.mk' eh
   have HQ := Hid.mk' hq
   clear R1 hr eh hq
   generalize hT : tkN d s j = T at *
   generalize hH : hdN d s j = H at *
   have HT := Hid.mk' hT
   have HH := Hid.mk' hH
   clear hT hH

   obtain ⟨E, hE1⟩ : ∃ E : Nat, min (q + s) d.length = E := ⟨_, rfl⟩
   have hE2 : q ≤ E := by omega
   have hE3 : E ≤ d.length := by omega
   have hadd : IntKind.i64.wrap ((q : Int) + (s : Int)) = (q : Int) + (s : Int) := by rw [IntKind.wrap_i64]; omega
   generalize hV1 : ((wr.setCell ⟨w.heap.size + 1 + 1 + 1, j * 3, none⟩ (.int .i64 (q : Int))).setCell ⟨w.heap.size + 1 + 1 + 1, j * 3 + 1, none⟩ (.int .i64 (T.length : Int))).setCell ⟨w.heap.size + 1 + 1 + 1, j * 3 + 2, none⟩ (.slice ha H.length hc) = V1 at *
   have hx2 : V1.cell? ⟨w.heap.size + 1 + 1, 2, none⟩ = some (.slice ha H.length hc) := by
    have := (cells3 RR.out.all).2.2.1
    rw [EH.out] at this
    exact this
   go_wp2
   clear hV1 x0 x1 x2 x3 f0 f1 f2 g0 g1 g2

   obtain ⟨A, hA⟩ : ∃ A, (if cd = q then ad else Option.map (fun x => x.add q) ad) = A := ⟨_, rfl⟩
   have hEc : E ≤ cd := by omega
   obtain ⟨seg, hseg⟩ : ∃ seg, (d.drop q).take s = seg := ⟨_, rfl⟩
   have hsl : seg.length = E - q := by rw [← hseg, List.length_take, List.length_drop]; omega
   have hgood : GoodH H := by rw [← HH.out]; exact allX_good _ _ _ (.inl rfl)
   have hbytH : Byt H := by rw [← HH.out]; exact allX_byt _ _ _ (fun x hx => HU.out.mem x (List.mem_of_mem_take hx)) Byt.nil
   have hbytS : Byt seg := Byt.of (fun x hx => HU.out.mem x (by rw [← hseg] at hx; exact List.mem_of_mem_drop (List.mem_of_mem_take hx)))
   obtain ⟨T', hT'⟩ : ∃ T', (allX [] H seg).1 = T' := ⟨_, rfl⟩
   obtain ⟨H', hH'⟩ : ∃ H', (allX [] H seg).2 = H' := ⟨_, rfl⟩
   have stp := allX_step d s j
   rw [HQ.out, show (allX [] [] (d.take q)).2 = H by rw [← HH.out, ← HQ.out], hseg, hT', hH'] at stp
   have HHN : Hid (hdN d s (j + 1) = H') := Hid.mk' (congrArg Prod.snd stp)
   have EX : Hid (allX [] [] (d.take ((j + 1) * s)) = (tkN d s j ++ T', hdN d s (j + 1))) := Hid.mk' (by rw [stp]; show _ = (tkN d s j ++ T', hdN d s (j + 1)); rw [HHN.out, ← HQ.out])
   have lT : T.length ≤ 161 * 240 := by
    have := allX_len (d.take (j * s)) [] [] (by simp)
    rw [← HT.out]
    have l2 : (d.take (j * s)).length ≤ 240 := by rw [List.length_take]; omega
    show (allX [] [] (d.take (j * s))).1.length ≤ _
    simp only [List.length_nil, Nat.zero_add] at this
    omega
   have lT' : T'.length ≤ 161 * 240 := by
    have := allX_len seg [] H (by have := hgood.len; omega)
    rw [hT'] at this
    simp only [List.length_nil, Nat.zero_add] at this
    omega
   have KF : Hid (∀ v, Below V1.heap.size V1 v → Calls Tryz.prog 15 #[.agg #[.slice ha H.length hc], .slice A (E - q) (cd - q)] v fun e w' => ∃ hv tv us rs bl bh lo g, e = .returned (.agg #[.int .i64 0, tv, hv]) ∧ v.heap.size ≤ lo ∧ LX lo g w' hv tv H' T' us rs bl bh ∧ Below v.heap.size v w') := Hid.mk' (fun v hb => by
    have B : Below w.heap.size w v := RR.out.bel.trans (hb.mono RR.out.bel.size)
    have bh : BAt V1 ha H := by
     obtain ⟨p, c, e, b⟩ := own_bat (RR.out.own j (Nat.le_refl _))
     have e2 := EH.out
     rw [HH.out] at e b
     rw [e] at e2
     injection e2 with e3 _ _
     rw [← e3]; exact b
    have bs : BAt v A seg := by
     rw [← hseg]
     by_cases h0 : E - q = 0
     ·left
      apply List.eq_nil_of_length_eq_zero
      rw [hseg]; omega
     ·have := (HD.out.below B).part q (E - q) (by omega) A (fun _ b o e => by
       rw [← hA, if_neg (by omega), e]; simp [Addr.add_mid])
      have e : (d.drop q).take s = (d.drop q).take (E - q) := by
       rw [List.take_eq_take_iff, List.length_drop]; omega
      rw [e]; exact this
    have := feedFrom_any tp pv H ha hc seg A (cd - q) v ((HE.out.keep B).up B.size (Nat.le_refl _)) (bh.below hb) hgood hbytH bs hbytS (by omega)
    rw [hsl] at this
    unfold FfP at this
    rw [hT', hH'] at this
    exact this)
   have Q1 := Hid.mk' hsl
   have Q2 := Hid.mk' hseg
   have Q3 := Hid.mk' hE1
   clear hsl hseg hgood hbytH hbytS hE1 hT' hH' stp
   refine wp_region_held_drew (S := (fun w' => w'.cell? ⟨w.heap.size + 1 + 1, 2, none⟩ = some (.slice ha H.length hc))) (by kernel_rfl) hx2 (fun hHeld => ?_)
   refine tkY 0 ?_
   refine tkY 1 ?_
   refine tkY 2 ?_
   refine tkY 3 ?_
   refine tkY 4 ?_
   refine tkY 5 ?_
   refine tkY 6 ?_
   refine tkY 7 ?_
   refine tkY 8 ?_
   refine wpAnyH_take (i := 9) (oi := ⟨_, _, _, _, _, _⟩) (v := .int .i64 (E : Int)) rfl (by kernel_rfl) (by kernel_rfl) (by kernel_rfl) (fun _ _ _ h => h) (Or.inl ⟨by rfl, ?_⟩) (by assumption) ?_
   ·(intro w hSw; (try dsimp only at hSw); go_simp; have := Q3.out; omega)
   try simp only [Act.put, zA, zB, zC]
   refine wpAnyH_take (i := 10) (oi := ⟨_, _, _, _, _, _⟩) (v := .slice A (E - q) (cd - q)) rfl (by kernel_rfl) (by kernel_rfl) (by kernel_rfl) (fun _ _ _ h => h) (Or.inl ⟨by rfl, ?_⟩) (by assumption) ?_
   ·(intro w hSw; (try dsimp only at hSw); go_simp; (try with_reducible rfl))
   try simp only [Act.put, zA, zB, zC]

   refine wpAnyH_ready (rs := [11, 12]) (by kernel_rfl) (by simp) ?_
   refine AllReadyH.cons (o := ⟨_, _, _, _, _, _⟩) rfl (fun K hK => ?_) (AllReadyH.cons (o := ⟨_, _, _, _, _, _⟩) rfl (fun K hK => ?_) AllReadyH.nil)
   ·go_simp
    refine (KF.out _ (Below.refl _ _).drew).mono ?_
    rintro e w2 ⟨hv', tv', us', rs', bl', bh', lo, g, rfl, hlo, hx, hb2⟩
    obtain ⟨ha', hc', rfl, -⟩ := own_src hx.held
    obtain ⟨ta', tc', rfl, -⟩ := own_src hx.row
    replace hb2 := undrew hb2
    refine hK.out _ _ ((hb2.cell (p := ⟨w.heap.size + 1 + 1, 2, none⟩) RR.out.all.lt).trans hx2) (fun hHeld => ?_)
    clear hK K
    try simp only [Act.put, zA, zB, zC]
    refine wpAnyH_ready (rs := [12]) (by kernel_rfl) (by simp) ?_
    refine AllReadyH.cons (o := ⟨_, _, _, _, _, _⟩) rfl (fun K hK => ?_) AllReadyH.nil
    go_simp
    refine hK.out _ _ (((hb2.trans ((below_new w2 _).mono hb2.size)).cell (p := ⟨w.heap.size + 1 + 1, 2, none⟩) RR.out.all.lt).trans hx2) (fun hHeld => ?_)
    clear hK K
    try simp only [Act.put, zA, zB, zC]
    have Z := row3 w2 41 (.int .i64 0) (.slice none 0 0) (.slice none 0 0)
    obtain ⟨z0, z1, z2, z3⟩ := cells3 Z
    have y0 := Z.frozen 0
    have y1 := Z.frozen 1
    have y2 := Z.frozen 2
    refine wpAnyH_ready (rs := [13]) (by kernel_rfl) (by simp) ?_
    refine AllReadyH.cons (o := ⟨_, _, _, _, _, _⟩) rfl (fun K hK => ?_) AllReadyH.nil
    go_simp
    refine hK.out _ _ (((hb2.trans ((below_new w2 _).mono hb2.size)).cell (p := ⟨w.heap.size + 1 + 1, 2, none⟩) RR.out.all.lt).trans hx2) (fun hHeld => ?_)
    clear hK K
    try simp only [Act.put, zA, zB, zC]
    have BX := Hid.mk' (row3 w2 41 (.int .i64 0) (.slice ta' T'.length tc') (.slice ha' H'.length hc'))
    have N2 := below_new w2 (.cells #[.int .i64 0, .slice ta' T'.length tc', .slice ha' H'.length hc'] 41)
    have B3 := Hid.mk' (hb2.trans (N2.mono hb2.size))
    have LX3 := Hid.mk' (hx.below N2)
    have XG : Hid (V1.heap.size ≤ w2.heap.size) := Hid.mk' hb2.size
    have HLO : Hid (V1.heap.size ≤ lo) := Hid.mk' hlo
    clear N2 hx hlo z0 z1 z2 z3 y0 y1 y2 Z hx2
    refine wpAnyH_done (by kernel_rfl) ?_ _
    clear hHeld
    generalize hV3 : w2.alloc (.cells #[.int .i64 0, .slice ta' T'.length tc', .slice ha' H'.length hc'] 41) = V3 at *
    clear hV3
    obtain ⟨k0, k1, k2, k3⟩ := cells3 BX.out
    have RA := Hid.mk' (RR.out.keep B3.out)
    obtain ⟨a0, a1, a2, a3⟩ := cells3 RA.out.all
    have D3 := Hid.mk' ((Below.refl V3.heap.size V3).drew)
    have OWN := Hid.mk' (own_keep RA.out.tp.row D3.out)
    rw [HT.out] at OWN
    obtain ⟨_, _, ee, src⟩ := own_src (own_keep LX3.out.row D3.out)
    cases ee
    have SRC := Hid.mk' src
    have hlen : Hid ((tcs T' us').length = T'.length * 5) := Hid.mk' (tcs_len _ _ LX3.out.ta.len)
    have hone : Hid (∀ u ∈ tcs T' us', u.oneCell' = true) := Hid.mk' (tcs_one _ _ LX3.out.ta.one)
    have hbs : Hid (w.heap.size + 4 ≤ V3.drew.heap.size) := Hid.mk' RA.out.sz
    have hxt : Hid (some w2.heap.size ≠ (Value.slice ta T.length tc).ownBlock) := Hid.mk' (fun e => by have := (RR.out.tp.row.lt _ e.symm).2; have := XG.out; omega)
    have hga : Hid (some (w.heap.size + 1 + 1) ≠ (Value.slice ta T.length tc).ownBlock) := Hid.mk' (fun e => by have := (RR.out.tp.row.lt _ e.symm).1; omega)
    have hxl := k3
    have HXL := Hid.mk' hxl
    clear src hxl k3
    go_wp2
    refine wp_region_held_drew (S := (fun w' => w'.cell? ⟨w2.heap.size, 1, none⟩ = some (.slice ta' T'.length tc') ∧ w'.cell? ⟨w2.heap.size, 2, none⟩ = some (.slice ha' H'.length hc'))) (by kernel_rfl) (by simp [*]) (fun hHeld => ?_)
    refine tkY 0 ?_
    refine tkY 2 ?_
    refine tkY 3 ?_
    refine tkY 5 ?_
    refine tkY 6 ?_

    refine wpAnyH_ready (rs := [1]) (by kernel_rfl) (by simp) ?_
    refine AllReadyH.cons (o := ⟨_, _, _, _, _, _⟩) rfl (fun K hK => ?_) AllReadyH.nil
    go_simp
    refine hK.out _ _ (by assumption) (fun hHeld => ?_)
    clear hK K
    try simp only [Act.put, zA, zB, zC]
    refine wpAnyH_ready (rs := [4]) (by kernel_rfl) (by simp) ?_
    refine AllReadyH.cons (o := ⟨_, _, _, _, _, _⟩) rfl (fun K hK => ?_) AllReadyH.nil
    refine step_append_at rfl (.tmp 43) (.tmp 45) 24 rfl (w.heap.size + 4) 107 (.agg #[.int .i64 0, .int .i64 0, .string ⟨#[]⟩, .slice none 0 0, .bool false]) 5 64 Tryz.underlying24 Tryz.infoTok rfl (by decide) _ _ _ rfl OWN.out _ _ _ (tcs T' us') rfl hlen.out SRC.out hone.out (by unfold maxLen; omega) (by omega) hbs.out ?_
    intro v4 w4 ho hg hat
    obtain ⟨a4, c4, rfl, -⟩ := own_src ho
    have hc1 := (World.cell?_of_block (a := ⟨w2.heap.size, 1, none⟩) (hg.block w2.heap.size HXL.out hxt.out)).trans hHeld.1
    have hc2 := (World.cell?_of_block (a := ⟨w2.heap.size, 2, none⟩) (hg.block w2.heap.size HXL.out hxt.out)).trans hHeld.2
    refine hK.out _ _ ⟨hc1, hc2⟩ (fun hHeld => ?_)
    clear hK K
    try simp only [Act.put, zA, zB, zC]
    refine tkY 7 ?_
    have RL := RA.out.all.of_block (hg.block _ a3 hga.out)
    obtain ⟨b0, b1, b2, b3⟩ := cells3 RL
    have fb0 := RL.frozen 0
    have fb1 := RL.frozen 1
    have fb2 := RL.frozen 2
    have NEW := Hid.mk' (RR.out.step (T' := T') (tv' := undef) (tv'' := .slice a4 (T.length + T'.length) c4) EX.out (B3.out.trans (D3.out.mono B3.out.size)) ((LX3.out.below D3.out).ta.widen HLO.out (Nat.le_refl _)) (by rw [HHN.out]; exact own_down (LX3.out.below D3.out).held HLO.out) LX3.out.vh (by rw [HT.out]; exact ho) hg hat)
    rw [HT.out] at NEW
    clear ho hat RL
    refine wpAnyH_ready (rs := [8]) (by kernel_rfl) (by simp) ?_
    refine AllReadyH.cons (o := ⟨_, _, _, _, _, _⟩) rfl (fun K hK => ?_) AllReadyH.nil
    go_simp
    refine hK.out _ _ ⟨(three_other w4 (w.heap.size + 1 + 1) (w2.heap.size) 1 (by have := XG.out; have := RR.out.all.lt; omega) _ _ _).trans hc1, (three_other w4 (w.heap.size + 1 + 1) (w2.heap.size) 2 (by have := XG.out; have := RR.out.all.lt; omega) _ _ _).trans hc2⟩ (fun hHeld => ?_)
    clear hK K
    try simp only [Act.put, zA, zB, zC]
    refine wpAnyH_done (by kernel_rfl) ?_ _
    clear hg hc1 hc2 hHeld b0 b1 b2 b3 fb0 fb1 fb2 a0 a1 a2 a3 k0 k1 k2
    go_wp2
    go_roundw
    case rel => exact ⟨j + 1, _, _, _, _, _, _, by omega, by go_num, NEW.out⟩
    case measure => simp [intOf]; omega
   ·go_simp
    have hbB : Below V1.heap.size V1 (V1.alloc (.cells #[.int .i64 0, .slice none 0 0, .slice none 0 0] 41)).drew := (below_new V1 _).drew
    refine hK.out _ _ ((hbB.cell (p := ⟨w.heap.size + 1 + 1, 2, none⟩) RR.out.all.lt).trans hx2) (fun hHeld => ?_)
    clear hK K
    try simp only [Act.put, zA, zB, zC]
    refine wpAnyH_ready (rs := [11]) (by kernel_rfl) (by simp) ?_
    refine AllReadyH.cons (o := ⟨_, _, _, _, _, _⟩) rfl (fun K hK => ?_) AllReadyH.nil
    go_simp
    refine (KF.out _ hbB).mono ?_
    rintro e w2 ⟨hv', tv', us', rs', bl', bh', lo, g, rfl, hlo, hx, hb2⟩
    obtain ⟨ha', hc', rfl, -⟩ := own_src hx.held
    obtain ⟨ta', tc', rfl, -⟩ := own_src hx.row
    replace hb2 := undrew hb2
    refine hK.out _ _ ((((below_new V1 _).trans (hb2.mono (by simp))).cell (p := ⟨w.heap.size + 1 + 1, 2, none⟩) RR.out.all.lt).trans hx2) (fun hHeld => ?_)
    clear hK K hbB
    try simp only [Act.put, zA, zB, zC]
    have Z := rowB (w := V1.alloc (.cells #[.int .i64 0, .slice none 0 0, .slice none 0 0] 41)) (row3 V1 41 (.int .i64 0) (.slice none 0 0) (.slice none 0 0)) hb2
    obtain ⟨z0, z1, z2, z3⟩ := cells3 Z
    have y0 := Z.frozen 0
    have y1 := Z.frozen 1
    have y2 := Z.frozen 2
    have hgx : w.heap.size + 1 + 1 ≠ V1.heap.size := by have := RR.out.all.lt; omega
    have hx9 := (((below_new V1 (.cells #[.int .i64 0, .slice none 0 0, .slice none 0 0] 41)).trans (hb2.mono (by simp))).cell (p := ⟨w.heap.size + 1 + 1, 2, none⟩) RR.out.all.lt).trans hx2
    refine wpAnyH_ready (rs := [13]) (by kernel_rfl) (by simp) ?_
    refine AllReadyH.cons (o := ⟨_, _, _, _, _, _⟩) rfl (fun K hK => ?_) AllReadyH.nil
    go_simp
    refine hK.out _ _ ((three_other w2 V1.heap.size (w.heap.size + 1 + 1) 2 (Ne.symm hgx) _ _ _).trans hx9) (fun hHeld => ?_)
    clear hK K hx9 hgx
    try simp only [Act.put, zA, zB, zC]
    have BX0 := rowB (w := V1.alloc (.cells #[.int .i64 0, .slice none 0 0, .slice none 0 0] 41)) (row3 V1 41 (.int .i64 0) (.slice none 0 0) (.slice none 0 0)) hb2
    have BX := Hid.mk' ((((BX0.set 0 (.int .i64 0)).set 1 (.slice ta' T'.length tc')).set 2 (.slice ha' H'.length hc')).congr (g := r3 (.int .i64 0) (.slice ta' T'.length tc') (.slice ha' H'.length hc')) (fun i hi => by
     have h : i = 0 ∨ i = 1 ∨ i = 2 := by omega
     rcases h with rfl | rfl | rfl <;> simp [r3]))
    have KK := (((KeptIn.refl V1.heap.size (V1.heap.size + 1) w2).setCell (p := ⟨V1.heap.size, 0, none⟩) (by simp) (by simp) (.int .i64 0)).setCell (p := ⟨V1.heap.size, 1, none⟩) (by simp) (by simp) (.slice ta' T'.length tc')).setCell (p := ⟨V1.heap.size, 2, none⟩) (by simp) (by simp) (.slice ha' H'.length hc')
    have bs := BX0.lt
    have B3 := Hid.mk' ((((below_new V1 (.cells #[.int .i64 0, .slice none 0 0, .slice none 0 0] 41)).trans (hb2.mono (by simp)))).trans (KK.below (Nat.le_refl _) (by omega)))
    have LX3 := Hid.mk' (hx.keep KK.size (fun k h1 h2 => KK.block k h2 (by have := hlo; simp at this; omega)))
    have XG : Hid (V1.heap.size ≤ V1.heap.size) := Hid.mk' (Nat.le_refl _)
    have HLO : Hid (V1.heap.size ≤ lo) := Hid.mk' (by have := hlo; simp at this; omega)
    clear BX0 KK bs hx hlo z0 z1 z2 z3 y0 y1 y2 Z hx2
    refine wpAnyH_done (by kernel_rfl) ?_ _
    clear hHeld
    generalize hV3 : ((w2.setCell ⟨V1.heap.size, 0, none⟩ (.int .i64 0)).setCell ⟨V1.heap.size, 1, none⟩ (.slice ta' T'.length tc')).setCell ⟨V1.heap.size, 2, none⟩ (.slice ha' H'.length hc') = V3 at *
    clear hV3
    obtain ⟨k0, k1, k2, k3⟩ := cells3 BX.out
    have RA := Hid.mk' (RR.out.keep B3.out)
    obtain ⟨a0, a1, a2, a3⟩ := cells3 RA.out.all
    have D3 := Hid.mk' ((Below.refl V3.heap.size V3).drew)
    have OWN := Hid.mk' (own_keep RA.out.tp.row D3.out)
    rw [HT.out] at OWN
    obtain ⟨_, _, ee, src⟩ := own_src (own_keep LX3.out.row D3.out)
    cases ee
    have SRC := Hid.mk' src
    have hlen : Hid ((tcs T' us').length = T'.length * 5) := Hid.mk' (tcs_len _ _ LX3.out.ta.len)
    have hone : Hid (∀ u ∈ tcs T' us', u.oneCell' = true) := Hid.mk' (tcs_one _ _ LX3.out.ta.one)
    have hbs : Hid (w.heap.size + 4 ≤ V3.drew.heap.size) := Hid.mk' RA.out.sz
    have hxt : Hid (some V1.heap.size ≠ (Value.slice ta T.length tc).ownBlock) := Hid.mk' (fun e => by have := (RR.out.tp.row.lt _ e.symm).2; have := XG.out; omega)
    have hga : Hid (some (w.heap.size + 1 + 1) ≠ (Value.slice ta T.length tc).ownBlock) := Hid.mk' (fun e => by have := (RR.out.tp.row.lt _ e.symm).1; omega)
    have hxl := k3
    have HXL := Hid.mk' hxl
    clear src hxl k3
    go_wp2
    refine wp_region_held_drew (S := (fun w' => w'.cell? ⟨V1.heap.size, 1, none⟩ = some (.slice ta' T'.length tc') ∧ w'.cell? ⟨V1.heap.size, 2, none⟩ = some (.slice ha' H'.length hc'))) (by kernel_rfl) (by simp [*]) (fun hHeld => ?_)
    refine tkY 0 ?_
    refine tkY 2 ?_
    refine tkY 3 ?_
    refine tkY 5 ?_
    refine tkY 6 ?_

    refine wpAnyH_ready (rs := [1]) (by kernel_rfl) (by simp) ?_
    refine AllReadyH.cons (o := ⟨_, _, _, _, _, _⟩) rfl (fun K hK => ?_) AllReadyH.nil
    go_simp
    refine hK.out _ _ (by assumption) (fun hHeld => ?_)
    clear hK K
    try simp only [Act.put, zA, zB, zC]
    refine wpAnyH_ready (rs := [4]) (by kernel_rfl) (by simp) ?_
    refine AllReadyH.cons (o := ⟨_, _, _, _, _, _⟩) rfl (fun K hK => ?_) AllReadyH.nil
    refine step_append_at rfl (.tmp 43) (.tmp 45) 24 rfl (w.heap.size + 4) 107 (.agg #[.int .i64 0, .int .i64 0, .string ⟨#[]⟩, .slice none 0 0, .bool false]) 5 64 Tryz.underlying24 Tryz.infoTok rfl (by decide) _ _ _ rfl OWN.out _ _ _ (tcs T' us') rfl hlen.out SRC.out hone.out (by unfold maxLen; omega) (by omega) hbs.out ?_
    intro v4 w4 ho hg hat
    obtain ⟨a4, c4, rfl, -⟩ := own_src ho
    have hc1 := (World.cell?_of_block (a := ⟨V1.heap.size, 1, none⟩) (hg.block V1.heap.size HXL.out hxt.out)).trans hHeld.1
    have hc2 := (World.cell?_of_block (a := ⟨V1.heap.size, 2, none⟩) (hg.block V1.heap.size HXL.out hxt.out)).trans hHeld.2
    refine hK.out _ _ ⟨hc1, hc2⟩ (fun hHeld => ?_)
    clear hK K
    try simp only [Act.put, zA, zB, zC]
    refine tkY 7 ?_
    have RL := RA.out.all.of_block (hg.block _ a3 hga.out)
    obtain ⟨b0, b1, b2, b3⟩ := cells3 RL
    have fb0 := RL.frozen 0
    have fb1 := RL.frozen 1
    have fb2 := RL.frozen 2
    have NEW := Hid.mk' (RR.out.step (T' := T') (tv' := undef) (tv'' := .slice a4 (T.length + T'.length) c4) EX.out (B3.out.trans (D3.out.mono B3.out.size)) ((LX3.out.below D3.out).ta.widen HLO.out (Nat.le_refl _)) (by rw [HHN.out]; exact own_down (LX3.out.below D3.out).held HLO.out) LX3.out.vh (by rw [HT.out]; exact ho) hg hat)
    rw [HT.out] at NEW
    clear ho hat RL
    refine wpAnyH_ready (rs := [8]) (by kernel_rfl) (by simp) ?_
    refine AllReadyH.cons (o := ⟨_, _, _, _, _, _⟩) rfl (fun K hK => ?_) AllReadyH.nil
    go_simp
    refine hK.out _ _ ⟨(three_other w4 (w.heap.size + 1 + 1) (V1.heap.size) 1 (by have := XG.out; have := RR.out.all.lt; omega) _ _ _).trans hc1, (three_other w4 (w.heap.size + 1 + 1) (V1.heap.size) 2 (by have := XG.out; have := RR.out.all.lt; omega) _ _ _).trans hc2⟩ (fun hHeld => ?_)
    clear hK K
    try simp only [Act.put, zA, zB, zC]
    refine wpAnyH_done (by kernel_rfl) ?_ _
    clear hg hc1 hc2 hHeld b0 b1 b2 b3 fb0 fb1 fb2 a0 a1 a2 a3 k0 k1 k2
    go_wp2
    go_roundw
    case rel => exact ⟨j + 1, _, _, _, _, _, _, by omega, by go_num, NEW.out⟩
    case measure => simp [intOf]; omega
  ·have ci : ¬ (j : Int) < (J : Int) := by omega
   obtain rfl : j = J := by omega
   obtain ⟨ta, tc, rfl, -⟩ := own_src hr.tp.row
   obtain ⟨ha, hc, eh, -⟩ := own_bat (hr.own j (Nat.le_refl _))
   obtain ⟨x0, x1, x2, x3⟩ := cells3 hr.all
   rw [eh] at x2
   have CK := Hid.mk' hr.cks
   have HR := Hid.mk' hr
   have EH := Hid.mk' eh
   have RK : Hid (wr.drew.rowIs (w.heap.size + 1 + 1 + 1) 96 723 (ckV d s j hvs)) := Hid.mk' (rowB hr.cks (Below.refl _ _).drew)
   obtain ⟨C, hC⟩ : ∃ C, arrOf 723 (ckV d s j hvs) = C := ⟨_, rfl⟩
   obtain ⟨r00, r01, r02, r03⟩ := cells3 hr.r0
   have fr0 := hr.r0.frozen 0
   have fr1 := hr.r0.frozen 1
   have fr2 := hr.r0.frozen 2
   have HC := Hid.mk' hC
   clear hr eh hC
   go_wp2
   refine wp_region_held_drew (S := (fun w' => w'.cell? ⟨w.heap.size + 1 + 1, 0, none⟩ = some (.int .i64 0) ∧ w'.cell? ⟨w.heap.size + 1 + 1, 1, none⟩ = some (.slice ta (tkN d s j).length tc) ∧ w'.cell? ⟨w.heap.size + 1 + 1, 2, none⟩ = some (.slice ha (hdN d s j).length hc) ∧ Hid (w'.rowIs (w.heap.size + 1 + 1 + 1) 96 723 (ckV d s j hvs)))) (by kernel_rfl) ⟨x0, x1, x2, RK.out⟩ (fun hHeld => ?_)
   refine tkY 0 ?_
   refine wpAnyH_take (i := 1) (oi := ⟨_, _, _, _, _, _⟩) (v := .agg C) rfl (by kernel_rfl) (by kernel_rfl) (by kernel_rfl) (fun _ _ _ h => h) (Or.inl ⟨by rfl, ?_⟩) (by assumption) ?_
   ·(intro w hSw; have hg := row_arr hSw.2.2.2.out; rw [HC.out] at hg; exact exec_load_row 96 (.tmp 7) rfl _ rfl _ C _ _ hg Tryz.underlying96 rfl (by rw [← HC.out, arrOf_size]; exact info_row))
   try simp only [Act.put, zA, zB, zC]
   refine wpAnyH_ready (rs := [2]) (by kernel_rfl) (by simp) ?_
   refine AllReadyH.cons (o := ⟨_, _, _, _, _, _⟩) rfl (fun K hK => ?_) AllReadyH.nil
   go_simp
   have K2 := (((KeptIn.refl w.heap.size (w.heap.size + 1) wr).setCell (p := ⟨w.heap.size, 0, none⟩) (by simp) (by simp) (.int .i64 0)).setCell (p := ⟨w.heap.size, 1, none⟩) (by simp) (by simp) (.slice ta (tkN d s j).length tc)).setCell (p := ⟨w.heap.size, 2, none⟩) (by simp) (by simp) (.slice ha (hdN d s j).length hc)
   have RW1 := rowK HR.out.r1 K2 (.inr (by omega))
   have RC1 := rowK HR.out.cks K2 (.inr (by omega))
   have RA1 := rowK HR.out.all K2 (.inr (by omega))
   rw [EH.out] at RA1
   have RZ1 := (((HR.out.r0.set 0 (.int .i64 0)).set 1 (.slice ta (tkN d s j).length tc)).set 2 (.slice ha (hdN d s j).length hc)).congr (g := r3 (.int .i64 0) (.slice ta (tkN d s j).length tc) (.slice ha (hdN d s j).length hc)) (fun i hi => by
    have h : i = 0 ∨ i = 1 ∨ i = 2 := by omega
    rcases h with rfl | rfl | rfl <;> simp [r3])
   have HK2 := Hid.mk' K2
   refine hK.out _ _ ⟨(rowB RA1 (Below.refl _ _).drew).cell (i := 0) (by omega), (rowB RA1 (Below.refl _ _).drew).cell (i := 1) (by omega), (rowB RA1 (Below.refl _ _).drew).cell (i := 2) (by omega), rowB RC1 (Below.refl _ _).drew⟩ (fun hHeld => ?_)
   clear hK K
   try simp only [Act.put, zA, zB, zC]
   generalize hV2 : ((wr.setCell ⟨w.heap.size, 0, none⟩ (.int .i64 0)).setCell ⟨w.heap.size, 1, none⟩ (.slice ta (tkN d s j).length tc)).setCell ⟨w.heap.size, 2, none⟩ (.slice ha (hdN d s j).length hc) = V2 at *
   clear hV2
   have RW2 := rowB RW1 (Below.refl _ _).drew
   have D2 := (Below.refl V2.heap.size V2).drew
   have KS := kept_setRow V2.drew (w.heap.size + 1) C
   have RS := Hid.mk' (setRow_heap V2.drew (w.heap.size + 1) _ C _ _ (row_arr RW2))
   have KS' := Hid.mk' KS
   have RA2 := rowK (rowB RA1 D2) KS (.inr (by omega))
   have RC2 := rowK (rowB RC1 D2) KS (.inr (by omega))
   have RZ2 := Hid.mk' (rowK (rowB RZ1 D2) KS (.inl (by omega)))
   have D2' := Hid.mk' D2
   refine wpAnyH_ready (rs := [3]) (by kernel_rfl) (by simp) ?_
   refine AllReadyH.cons (o := ⟨_, _, _, _, _, _⟩) rfl (fun K hK => ?_) AllReadyH.nil
   refine step_store_row rfl 96 (.tmp 5) (.tmp 52) rfl (w.heap.size + 1) C rfl rfl 96 _ (row_arr RW2) (by rw [← HC.out, arrOf_size]; exact info_row) (by rw [← HC.out, arrOf_size, arrOf_size]) (by rw [← HC.out]; exact all_arr (ckV_one (fun i hi => by obtain ⟨_, _, e, _⟩ := own_bat (HR.out.own i hi); rw [e]; rfl))) ?_
   refine hK.out _ _ ⟨RA2.cell (i := 0) (by omega), RA2.cell (i := 1) (by omega), RA2.cell (i := 2) (by omega), RC2⟩ (fun hHeld => ?_)
   clear hK K
   try simp only [Act.put, zA, zB, zC]
   refine wpAnyH_done (by kernel_rfl) ?_ _
   clear hHeld RW1 RC1 RA1 RZ1 RW2 D2 KS RA2 RC2 K2
   go_wp2
   have l1 := run_loadVar_row (P := Tryz.prog) (V2.drew.setRow (w.heap.size + 1) C) (w.heap.size + 1) 96 96 C (0, 0) _ RS.out Tryz.underlying96 rfl (by rw [← HC.out, arrOf_size]; exact info_row)
   have hz := row_arr RZ2.out
   rw [arr3] at hz
   have l0 := run_loadVar_row (P := Tryz.prog) (V2.drew.setRow (w.heap.size + 1) C) w.heap.size 41 41 #[.int .i64 0, .slice ta (tkN d s j).length tc, .slice ha (hdN d s j).length hc] (0, 0) _ hz Tryz.underlying41 rfl (by kernel_rfl)
   refine bodyPost_ret (v := .tuple #[.agg #[.int .i64 0, .slice ta (tkN d s j).length tc, .slice ha (hdN d s j).length hc], .agg C]) ?_ rfl ?_
   ·rw [results_cell_cell Tryz.results62]
    simp [asAddr, Result.andThen, l0, l1]
   ·have k2 := HK2.out
    have k3 := KS'.out
    have d2 := D2'.out
    have sz := HR.out.sz
    have s2 := k2.size
    have s3 := k3.size
    have kb : ∀ q, w.heap.size + 1 < q → q < wr.heap.size → (V2.drew.setRow (w.heap.size + 1) C).heap[q]? = wr.heap[q]? := fun q h1 h2 => (k3.block q (show q < V2.heap.size by omega) (by omega)).trans (k2.block q h2 (by omega))
    have B : Below w.heap.size w (V2.drew.setRow (w.heap.size + 1) C) := ((HR.out.bel.trans (k2.below (Nat.le_refl _) (by omega))).trans (d2.mono (by omega))).trans (k3.below (by omega) (show w.heap.size ≤ V2.heap.size by omega))
    unfold RiP
    rw [HJ.out]
    exact ⟨_, hvs, us, rs, bl, bh, by rw [EH.out, HC.out], HR.out.rx.keep (show wr.heap.size ≤ _ from Nat.le_trans s2 s3) (fun q h1 h2 => kb q (by omega) h2), B⟩
theorem run_copy_wide {P : Program} (w : World) (dT sT ty elem : TypeId) (g dLen dCap : Nat) (a : Addr) (sLen sCap : Nat) (cur : Array Value) (t : TypeId) (cs : List Value) (z k : Nat)
  (hu : P.underlying dT = some (.slice elem)) (hs : (P.info? elem).map (·.size) = some z)
  (hg : w.heap[g]? = some (.cells cur t (0, 0))) (hk : Nat.min sLen dLen = k) (hn : cs.length = k * z)
  (hsrc : ∀ j v, cs[j]? = some v → w.cell? (a.add j) = some v) (hfit : cs.length = cur.size) (h1 : ∀ v ∈ cs, v.oneCell' = true) :
  (Builtin.copy_ #[dT, sT] ty #[.slice (some ⟨g, 0, none⟩) dLen dCap, .slice (some a) sLen sCap]).run P w = .ok (goInt k) (w.setRow g cs.toArray) := by
 have hl := run_loadCells_list (P := P) w a cs hsrc
 have hst := run_storeCells_at P g 0 t cs 0 cur w hg (by simpa using Nat.le_of_eq hfit) h1
 have e : cur.toList.drop (0 + 0 + cs.length) = [] := List.drop_eq_nil_of_le (by rw [Array.length_toList]; omega)
 rw [e, List.append_nil, List.take_zero, List.nil_append] at hst
 rw [hn] at hl
 cases hq : P.info? elem with
 | none => simp [hq] at hs
 | some i =>
  have hi : i.size = z := by simpa [hq] using hs
  simp [Builtin.copy_, run_underlying hu, Builtin.lenOf, Builtin.firstCells, sizeOf, typeInfo, hq, hi, hk, hl, hst]
theorem first_any (f : Nat → Value) (hf : ∀ i, (f i).oneCell' = true) (n : Nat) (hn : n ≤ 241) (w : World) :
  Calls Tryz.prog 64 #[.agg (arrOf 723 f), .int .i64 (n : Int)] w fun e w' => ∃ b, e = .returned (.slice (some ⟨b, 0, none⟩) n n) ∧ w.heap.size ≤ b ∧ w'.rowIs b 31 (n * 3) f ∧ Below w.heap.size w w' := by
 have hmk := make_checks (P := Tryz.prog) 25 31 Tryz.underlying25 Tryz.info31 n (by omega)
 have N0 := below_new w (.cells (arrOf 723 f) 96)
 have R0 : (w.alloc (.cells (arrOf 723 f) 96)).rowIs w.heap.size 96 723 f := row_of_arr (Deep.blk_alloc_new _ _)
 have z1 : (w.alloc (.cells (arrOf 723 f) 96)).heap.size = w.heap.size + 1 := by simp
 have R1 := R0.alloc (.cells (madeCells #[.int .i64 0, .int .i64 0, .slice none 0 0] (n * 3)) 31)
 have hg : ((w.alloc (.cells (arrOf 723 f) 96)).alloc (.cells (madeCells #[.int .i64 0, .int .i64 0, .slice none 0 0] (n * 3)) 31)).heap[w.heap.size + 1]? = some (.cells (madeCells #[.int .i64 0, .int .i64 0, .slice none 0 0] (n * 3)) 31 (0, 0)) := by
  have := Deep.blk_alloc_new (w.alloc (.cells (arrOf 723 f) 96)) (.cells (madeCells #[.int .i64 0, .int .i64 0, .slice none 0 0] (n * 3)) 31)
  rw [z1] at this
  exact this
 have B1 := N0.alloc (by simp) (.cells (madeCells #[.int .i64 0, .int .i64 0, .slice none 0 0] (n * 3)) 31)
 have hlen : (arrOf (n * 3) f).toList.length = n * 3 := by rw [Array.length_toList, arrOf_size]
 have hcp := run_copy_wide (P := Tryz.prog) _ 25 25 3 31 (w.heap.size + 1) n n ⟨w.heap.size, 0, none⟩ 241 241 _ _ (arrOf (n * 3) f).toList 3 n Tryz.underlying25 (by kernel_rfl) hg (Nat.min_eq_right hn) hlen (fun j v hv => by
  have hv' : (arrOf (n * 3) f)[j]? = some v := by simpa using hv
  have hj : j < n * 3 := by
   have := (Array.getElem?_eq_some_iff.1 hv').1
   rw [arrOf_size] at this; exact this
  rw [arrOf_at _ f j hj] at hv'
  have hadd : (⟨w.heap.size, 0, none⟩ : Addr).add j = ⟨w.heap.size, j, none⟩ := by unfold Addr.add; split <;> simp_all
  rw [hadd, R1.cell (by omega), hv']) (by rw [hlen, size_madeCells]) (fun v hv => by
  obtain ⟨j, hj, e⟩ := List.getElem_of_mem hv
  rw [hlen] at hj
  have := arrOf_at (n * 3) f j hj
  have e2 : (arrOf (n * 3) f).toList[j]? = some v := by rw [List.getElem?_eq_some_iff]; exact ⟨by rw [hlen]; exact hj, e⟩
  rw [Array.getElem?_toList, this] at e2
  cases e2; exact hf j)
 rw [Array.toArray_toList] at hcp
 have HB := Hid.mk' B1
 have HG := Hid.mk' hg
 have HM := Hid.mk' hmk
 clear N0 R0 R1 B1 hg z1 hlen
 generalize hA : arrOf 723 f = A at *
 go_enter Tryz.func64, Tryz.ntmps64
 go_wp2
 generalize hV : (w.alloc (.cells A 96)).alloc (.cells (madeCells #[.int .i64 0, .int .i64 0, .slice none 0 0] (n * 3)) 31) = V at *
 go_ret
 exact ⟨_, rfl, by omega, row_of_arr (setRow_heap _ _ _ _ _ _ HG.out), HB.out.trans ((kept_setRow _ _ _).below (by omega) HB.out.size)⟩
def r7 (x0 x1 x2 x3 x4 x5 x6 : Value) (i : Nat) : Value := if i = 0 then x0 else if i = 1 then x1 else if i = 2 then x2 else if i = 3 then x3 else if i = 4 then x4 else if i = 5 then x5 else x6
theorem row7 (w : World) (t : TypeId) (x0 x1 x2 x3 x4 x5 x6 : Value) : (w.alloc (.cells #[x0, x1, x2, x3, x4, x5, x6] t)).rowIs w.heap.size t 7 (r7 x0 x1 x2 x3 x4 x5 x6) :=
 ⟨_, Deep.blk_alloc_new _ _, rfl, fun i hi => by
  have : i = 0 ∨ i = 1 ∨ i = 2 ∨ i = 3 ∨ i = 4 ∨ i = 5 ∨ i = 6 := by omega
  rcases this with rfl | rfl | rfl | rfl | rfl | rfl | rfl <;> rfl⟩
theorem cells7 {w : World} {g : Nat} {ty : TypeId} {x0 x1 x2 x3 x4 x5 x6 : Value} (h : w.rowIs g ty 7 (r7 x0 x1 x2 x3 x4 x5 x6)) : w.cell? ⟨g, 0, none⟩ = some x0 ∧ w.cell? ⟨g, 1, none⟩ = some x1 ∧ w.cell? ⟨g, 2, none⟩ = some x2 ∧ w.cell? ⟨g, 3, none⟩ = some x3 ∧ w.cell? ⟨g, 4, none⟩ = some x4 ∧ w.cell? ⟨g, 5, none⟩ = some x5 ∧ w.cell? ⟨g, 6, none⟩ = some x6 ∧ g < w.heap.size :=
 ⟨h.cell (by omega), h.cell (by omega), h.cell (by omega), h.cell (by omega), h.cell (by omega), h.cell (by omega), h.cell (by omega), h.lt⟩
theorem seven {B : Nat} {w w' : World} (h : Below B w w') {c : Nat} {v0 v1 v2 v3 v4 v5 v6 : Value} (hc : B ≤ c) : Below B w (((((((w'.setCell ⟨c, 0, none⟩ v0).setCell ⟨c, 1, none⟩ v1).setCell ⟨c, 2, none⟩ v2).setCell ⟨c, 3, none⟩ v3).setCell ⟨c, 4, none⟩ v4).setCell ⟨c, 5, none⟩ v5).setCell ⟨c, 6, none⟩ v6) :=
 ((((((h.setCell (p := ⟨c, 0, none⟩) hc v0).setCell (p := ⟨c, 1, none⟩) hc v1).setCell (p := ⟨c, 2, none⟩) hc v2).setCell (p := ⟨c, 3, none⟩) hc v3).setCell (p := ⟨c, 4, none⟩) hc v4).setCell (p := ⟨c, 5, none⟩) hc v5).setCell (p := ⟨c, 6, none⟩) hc v6
theorem kept7 (w' : World) (c : Nat) (v0 v1 v2 v3 v4 v5 v6 : Value) : KeptIn c (c + 1) w' (((((((w'.setCell ⟨c, 0, none⟩ v0).setCell ⟨c, 1, none⟩ v1).setCell ⟨c, 2, none⟩ v2).setCell ⟨c, 3, none⟩ v3).setCell ⟨c, 4, none⟩ v4).setCell ⟨c, 5, none⟩ v5).setCell ⟨c, 6, none⟩ v6) :=
 (((((((KeptIn.refl c (c + 1) w').setCell (p := ⟨c, 0, none⟩) (by simp) (by simp) v0).setCell (p := ⟨c, 1, none⟩) (by simp) (by simp) v1).setCell (p := ⟨c, 2, none⟩) (by simp) (by simp) v2).setCell (p := ⟨c, 3, none⟩) (by simp) (by simp) v3).setCell (p := ⟨c, 4, none⟩) (by simp) (by simp) v4).setCell (p := ⟨c, 5, none⟩) (by simp) (by simp) v5).setCell (p := ⟨c, 6, none⟩) (by simp) (by simp) v6
theorem RX.down {base base' : Nat} {d : List Int} {s j : Nat} {tv : Value} {hvs : Nat → Value} {us : List Value} {rs : Nat → List Value} {bl bh : Nat → Nat} {wr : World} (x : RX base d s j tv hvs us rs bl bh wr) (h : base' ≤ base) : RX base' d s j tv hvs us rs bl bh wr :=
 ⟨x.tp.down h, fun i hi => own_down (x.own i hi) h, x.ap, x.at_, x.av⟩
abbrev errM (c : Int) : Value := .agg #[.int .i64 c, .int .i64 0, .slice none 0 0, .int .i64 0, .slice none 0 0, .slice none 0 0, .slice none 0 0]
structure NM (base : Nat) (d : List Int) (s : Nat) (gd gc : Nat) (tv : Value) (hvs : Nat → Value) (us : List Value) (rs : Nat → List Value) (bl bh : Nat → Nat) (w : World) : Prop where
 v1 : ∃ v : World, v.heap.size ≤ gd ∧ RX base d s (d.length / s + 1) tv hvs us rs bl bh v
 rx : RX base d s (d.length / s + 1) tv hvs us rs bl bh w
 dt : w.rowIs gd 5 d.length (bv d)
 ck : w.rowIs gc 31 ((d.length / s + 1) * 3) (ckV d s (d.length / s + 1) hvs)
 o1 : base ≤ gd
 o2 : gd < gc
theorem NM.keep {base : Nat} {d : List Int} {s : Nat} {gd gc : Nat} {tv : Value} {hvs : Nat → Value} {us : List Value} {rs : Nat → List Value} {bl bh : Nat → Nat} {w w' : World} (x : NM base d s gd gc tv hvs us rs bl bh w) (hs : w.heap.size ≤ w'.heap.size) (hk : ∀ q, base ≤ q → q < w.heap.size → w'.heap[q]? = w.heap[q]?) : NM base d s gd gc tv hvs us rs bl bh w' :=
 ⟨x.v1, x.rx.keep hs hk, x.dt.of_block (hk _ x.o1 x.dt.lt), x.ck.of_block (hk _ (by have := x.o1; have := x.o2; omega) x.ck.lt), x.o1, x.o2⟩
theorem NM.below {base : Nat} {d : List Int} {s : Nat} {gd gc : Nat} {tv : Value} {hvs : Nat → Value} {us : List Value} {rs : Nat → List Value} {bl bh : Nat → Nat} {w w' : World} (x : NM base d s gd gc tv hvs us rs bl bh w) (hb : Below w.heap.size w w') : NM base d s gd gc tv hvs us rs bl bh w' := x.keep hb.size (fun q _ h => hb.block q h)
def NmP (d : List Int) (st : Int) (w : World) (e : Ending) (w' : World) : Prop :=
 (240 < d.length ∧ e = .returned (errM 6) ∧ Below w.heap.size w w') ∨
 (d.length ≤ 240 ∧ (st < 1 ∨ 60 < st) ∧ e = .returned (errM 3) ∧ Below w.heap.size w w') ∨
 (d.length ≤ 240 ∧ ∃ s : Nat, st = (s : Int) ∧ 1 ≤ s ∧ s ≤ 60 ∧ ∃ gd gc tv hvs us rs bl bh, e = .returned (.agg #[.int .i64 0, .int .i64 (d.length : Int), .slice (some ⟨gd, 0, none⟩) d.length d.length, .int .i64 (s : Int), tv, hvs (d.length / s + 1), .slice (some ⟨gc, 0, none⟩) (d.length / s + 1) (d.length / s + 1)]) ∧ NM (w.heap.size + 1) d s gd gc tv hvs us rs bl bh w' ∧ Below w.heap.size w w')
theorem implNM_any (tp : TypeId) (pv : Value) (d : List Int) (st : Int) (ad : Option Addr) (cd : Nat) (w : World) (hE : Env w.heap.size tp pv w) (hd : BAt w ad d) (hcd : d.length ≤ cd) (hu : Byt d) (hl : (d.length : Int) ≤ 9223372036854775807) :
  Calls Tryz.prog 25 #[.slice ad d.length cd, .int .i64 st] w fun e w' => NmP d st w e w' := by
 have N0 := below_new w (.cells #[.int .i64 0, .int .i64 0, .slice none 0 0, .int .i64 0, .slice none 0 0, .slice none 0 0, .slice none 0 0] 50)
 have HR := Hid.mk' (row7 w 50 (.int .i64 0) (.int .i64 0) (.slice none 0 0) (.int .i64 0) (.slice none 0 0) (.slice none 0 0) (.slice none 0 0))
 have HB := Hid.mk' N0
 by_cases h6 : 240 < d.length
 ·have c6 : (240 : Int) < d.length := by omega
  have H6 := Hid.mk' h6
  clear h6 hd hu hE
  obtain ⟨y0, y1, y2, y3, y4, y5, y6, y7⟩ := cells7 HR.out
  have f0 := HR.out.frozen 0
  have f1 := HR.out.frozen 1
  have f2 := HR.out.frozen 2
  have f3 := HR.out.frozen 3
  have f4 := HR.out.frozen 4
  have f5 := HR.out.frozen 5
  have f6 := HR.out.frozen 6
  clear N0
  generalize hW : w.alloc (.cells #[.int .i64 0, .int .i64 0, .slice none 0 0, .int .i64 0, .slice none 0 0, .slice none 0 0, .slice none 0 0] 50) = W at *
  go_enter Tryz.func25, Tryz.ntmps25
  go_wp2_with (first | go_big_skip)
  clear hW
  refine bodyPost_ret (v := errM 6) (by simp [errM, results, Tryz.results25, go_sem, *]) rfl ?_
  exact .inl ⟨H6.out, rfl, seven HB.out (Nat.le_refl _)⟩
 have c6 : ¬ (240 : Int) < d.length := by omega
 have h6' : d.length ≤ 240 := by omega
 clear h6
 by_cases h3 : st < 1 ∨ 60 < st
 ·have H3 := Hid.mk' h3
  have H6 := Hid.mk' h6'
  clear hd hu hE
  by_cases h3a : st < 1
  ·clear h3
   obtain ⟨y0, y1, y2, y3, y4, y5, y6, y7⟩ := cells7 HR.out
   have f0 := HR.out.frozen 0
   have f1 := HR.out.frozen 1
   have f2 := HR.out.frozen 2
   have f3 := HR.out.frozen 3
   have f4 := HR.out.frozen 4
   have f5 := HR.out.frozen 5
   have f6 := HR.out.frozen 6
   clear N0
   generalize hW : w.alloc (.cells #[.int .i64 0, .int .i64 0, .slice none 0 0, .int .i64 0, .slice none 0 0, .slice none 0 0, .slice none 0 0] 50) = W at *
   go_enter Tryz.func25, Tryz.ntmps25
   go_wp2_with (first | go_big_skip)
   clear hW
   refine bodyPost_ret (v := errM 3) (by simp [errM, results, Tryz.results25, go_sem, *]) rfl ?_
   exact .inr (.inl ⟨H6.out, H3.out, rfl, seven HB.out (Nat.le_refl _)⟩)
  ·have h3b : 60 < st := by rcases h3 with h | h; exact absurd h h3a; exact h
   clear h3
   obtain ⟨y0, y1, y2, y3, y4, y5, y6, y7⟩ := cells7 HR.out
   have f0 := HR.out.frozen 0
   have f1 := HR.out.frozen 1
   have f2 := HR.out.frozen 2
   have f3 := HR.out.frozen 3
   have f4 := HR.out.frozen 4
   have f5 := HR.out.frozen 5
   have f6 := HR.out.frozen 6
   clear N0
   generalize hW : w.alloc (.cells #[.int .i64 0, .int .i64 0, .slice none 0 0, .int .i64 0, .slice none 0 0, .slice none 0 0, .slice none 0 0] 50) = W at *
   go_enter Tryz.func25, Tryz.ntmps25
   go_wp2_with (first | go_big_skip)
   clear hW
   refine bodyPost_ret (v := errM 3) (by simp [errM, results, Tryz.results25, go_sem, *]) rfl ?_
   exact .inr (.inl ⟨H6.out, H3.out, rfl, seven HB.out (Nat.le_refl _)⟩)
 obtain ⟨s, rfl⟩ : ∃ s : Nat, st = (s : Int) := ⟨st.toNat, by omega⟩
 have hs : 1 ≤ s := by omega
 have hs2 : s ≤ 60 := by omega
 have c1 : ¬ (s : Int) < 1 := by omega
 have c2 : ¬ (60 : Int) < s := by omega
 have KR := Hid.mk' (readInSteps_any tp pv d ad cd s _ ((hE.keep N0).up N0.size (Nat.le_refl _)) (hd.below N0) hcd hu h6' hs hs2)
 have HD := Hid.mk' hd
 clear h3 hE hu N0 hd
 generalize hW : w.alloc (.cells #[.int .i64 0, .int .i64 0, .slice none 0 0, .int .i64 0, .slice none 0 0, .slice none 0 0, .slice none 0 0] 50) = W at *
 go_enter Tryz.func25, Tryz.ntmps25
 go_wp2_with (first | go_big_skip | fail)
 clear hW c1 c2
 refine KR.out.mono ?_
 rintro e w1 ⟨tv, hvs, us, rs, bl, bh, rfl, hx, hb1⟩
 obtain ⟨ta, tc, rfl, -⟩ := own_src hx.tp.row
 obtain ⟨ha, hc, eh, -⟩ := own_bat (hx.own (d.length / s + 1) (Nat.le_refl _))
 rw [eh]
 obtain ⟨A, hA⟩ : ∃ A, arrOf 723 (ckV d s (d.length / s + 1) hvs) = A := ⟨_, rfl⟩
 have hsz : A.size = 723 := by rw [← hA, arrOf_size]
 have hone : ∀ i, (ckV d s (d.length / s + 1) hvs i).oneCell' = true := ckV_one (fun i hi => by obtain ⟨_, _, e, _⟩ := own_bat (hx.own i hi); rw [e]; rfl)
 have h1c : A.all (·.oneCell') = true := by rw [← hA]; exact all_arr hone
 rw [hA]
 have hst := run_storeCells_new (P := Tryz.prog) (w1.alloc (.cells #[.int .i64 0, .slice ta (tkN d s (d.length / s + 1)).length tc, .slice ha (hdN d s (d.length / s + 1)).length hc] 41)) 96 Tryz.zeroCells96 A (by rw [hsz]; exact info_row) (by rw [hsz]; exact Tryz.zeroCells96_size) h1c
 rw [show (w1.alloc (.cells #[.int .i64 0, .slice ta (tkN d s (d.length / s + 1)).length tc, .slice ha (hdN d s (d.length / s + 1)).length hc] 41)).heap.size = w1.heap.size + 1 by simp] at hst
 have hq : (d.length / s + 1) ≤ 241 := by have := Nat.div_le_self d.length s; omega
 have HA := Hid.mk' hA
 have HX := Hid.mk' hx
 have EH := Hid.mk' eh
 have HO := Hid.mk' hone
 have B1 := Hid.mk' hb1
 have KCI : Hid (∀ v, Calls Tryz.prog 65 #[.slice ad d.length cd, .int .i64 (s : Int)] v fun e w' => e = .returned (.int .i64 (((d.length / s + 1) : Nat) : Int)) ∧ w' = v) := Hid.mk' (fun v => checksIn_any ad d.length cd s v (by omega) hs hs2)
 have KFI : Hid (∀ v, Calls Tryz.prog 64 #[.agg A, .int .i64 (((d.length / s + 1) : Nat) : Int)] v fun e w' => ∃ b, e = .returned (.slice (some ⟨b, 0, none⟩) (d.length / s + 1) (d.length / s + 1)) ∧ v.heap.size ≤ b ∧ w'.rowIs b 31 ((d.length / s + 1) * 3) (ckV d s (d.length / s + 1) hvs) ∧ Below v.heap.size v w') := Hid.mk' (fun v => by rw [← hA]; exact first_any _ hone (d.length / s + 1) hq v)
 have HS := Hid.mk' (And.intro hs hs2)
 clear hx eh hA hone h1c hb1 KR hs hs2
 generalize hJ : (d.length / s + 1) = J at *
 generalize hT : tkN d s J = Tk at *
 generalize hH : hdN d s J = Hd at *
 have HJ := Hid.mk' hJ
 have HT := Hid.mk' hT
 have HH := Hid.mk' hH
 clear hJ hT hH
 go_wp2_with fail
 have z1 : (w1.alloc (.cells #[.int .i64 0, .slice ta Tk.length tc, .slice ha Hd.length hc] 41)).heap.size = w1.heap.size + 1 := by simp
 have N1 := below_new w1 (.cells #[.int .i64 0, .slice ta Tk.length tc, .slice ha Hd.length hc] 41)
 have N2 := N1.alloc (by simp) (.cells A 96)
 have RB := (row3 w1 41 (.int .i64 0) (.slice ta Tk.length tc) (.slice ha Hd.length hc)).alloc (.cells A 96)
 have RC : ((w1.alloc (.cells #[.int .i64 0, .slice ta Tk.length tc, .slice ha Hd.length hc] 41)).alloc (.cells A 96)).heap[w1.heap.size + 1]? = some (.cells A 96 (0, 0)) := by
  have := Deep.blk_alloc_new (w1.alloc (.cells #[.int .i64 0, .slice ta Tk.length tc, .slice ha Hd.length hc] 41)) (.cells A 96)
  rw [z1] at this; exact this
 have HRC := Hid.mk' RC
 have HRB := Hid.mk' RB
 have HN2 := Hid.mk' N2
 clear z1 N1 N2 RB RC hst
 generalize hV : (w1.alloc (.cells #[.int .i64 0, .slice ta Tk.length tc, .slice ha Hd.length hc] 41)).alloc (.cells A 96) = V at *
 clear hV
 have HCE : Hid (∀ v, Below V.heap.size V v → v.cell? ⟨w1.heap.size, 1, none⟩ = some (.slice ta Tk.length tc) ∧ v.cell? ⟨w1.heap.size, 2, none⟩ = some (.slice ha Hd.length hc) ∧ Hid (v.heap[w1.heap.size + 1]? = some (.cells A 96 (0, 0)))) := Hid.mk' (fun v hb => by
  obtain ⟨_, c1, c2, c3⟩ := cells3 HRB.out
  exact ⟨(hb.cell c3).trans c1, (hb.cell c3).trans c2, (hb.block _ (Array.getElem?_eq_some_iff.1 HRC.out).1).trans HRC.out⟩)

 have WV : Hid (Below w.heap.size w V) := Hid.mk' ((HB.out.trans (B1.out.mono HB.out.size)).trans (HN2.out.mono (Nat.le_trans HB.out.size B1.out.size)))
 refine wp_region_held_drew (S := (fun v => v.cell? ⟨w1.heap.size, 1, none⟩ = some (.slice ta Tk.length tc) ∧ v.cell? ⟨w1.heap.size, 2, none⟩ = some (.slice ha Hd.length hc) ∧ Hid (v.heap[w1.heap.size + 1]? = some (.cells A 96 (0, 0))))) (by kernel_rfl) (HCE.out _ (Below.refl _ _).drew) (fun hHeld => ?_)
 refine tkY 0 ?_
 refine tkY 1 ?_
 refine tkY 2 ?_
 refine tkY 4 ?_
 refine tkY 5 ?_
 refine tkY 6 ?_
 refine tkY 7 ?_
 refine tkY 8 ?_
 refine tkY 9 ?_
 refine wpAnyH_take (i := 10) (oi := ⟨_, _, _, _, _, _⟩) (v := .agg A) rfl (by kernel_rfl) (by kernel_rfl) (by kernel_rfl) (fun _ _ _ h => h) (Or.inl ⟨by rfl, ?_⟩) (by assumption) ?_
 ·(intro w hSw; exact exec_load_row 96 (.tmp 6) rfl _ rfl _ A _ _ hSw.2.2.out Tryz.underlying96 rfl (by rw [hsz]; exact info_row))
 try simp only [Act.put, zA, zB, zC]
 refine tkY 11 ?_
 refine tkY 12 ?_
 refine wpAnyH_ready (rs := [3]) (by kernel_rfl) (by simp) ?_
 refine AllReadyH.cons (o := ⟨_, _, _, _, _, _⟩) rfl (fun K hK => ?_) AllReadyH.nil
 go_simp
 refine (copyBytes_any ad cd d _ (HD.out.below (WV.out.trans ((Below.refl V.heap.size V).drew.mono WV.out.size))) (by omega)).mono ?_
 rintro e w2 ⟨gd, rfl, hgd, hrd, hb2⟩
 replace hb2 := undrew hb2
 have GD : Hid (V.heap.size ≤ gd) := Hid.mk' hgd
 have RD2 := Hid.mk' hrd
 have B2 := Hid.mk' hb2
 have S2 := Hid.mk' (HCE.out w2 hb2)
 clear hb2 hrd hgd
 refine hK.out _ _ S2.out (fun hHeld => ?_)
 clear hK K
 try simp only [Act.put, zA, zB, zC]
 refine wpAnyH_ready (rs := [13]) (by kernel_rfl) (by simp) ?_
 refine AllReadyH.cons (o := ⟨_, _, _, _, _, _⟩) rfl (fun K hK => ?_) AllReadyH.nil
 go_simp
 refine (KCI.out _).mono ?_
 rintro e w3 ⟨rfl, hw3⟩
 obtain rfl := hw3.symm
 clear hw3
 refine hK.out _ _ S2.out (fun hHeld => ?_)
 clear hK K
 try simp only [Act.put, zA, zB, zC]
 refine wpAnyH_ready (rs := [14]) (by kernel_rfl) (by simp) ?_
 refine AllReadyH.cons (o := ⟨_, _, _, _, _, _⟩) rfl (fun K hK => ?_) AllReadyH.nil
 go_simp
 refine (KFI.out _).mono ?_
 rintro e w4 ⟨gc, rfl, hgc, hrc, hb4⟩
 have B4 := Hid.mk' (B2.out.trans (hb4.mono B2.out.size))
 have RD4 := Hid.mk' (rowB RD2.out hb4)
 have GC : Hid (gd < gc) := Hid.mk' (by have := RD2.out.lt; omega)
 have RC4 := Hid.mk' hrc
 have S4 := Hid.mk' (HCE.out w4 B4.out)
 clear hb4 hrc hgc
 refine hK.out _ _ S4.out (fun hHeld => ?_)
 clear hK K
 try simp only [Act.put, zA, zB, zC]
 refine tkY 15 ?_
 refine tkY 16 ?_
 have RZ := rowB HR.out ((B1.out.trans (HN2.out.mono B1.out.size)).trans (B4.out.mono (Nat.le_trans B1.out.size HN2.out.size)))
 obtain ⟨y0, y1, y2, y3, y4, y5, y6, y7⟩ := cells7 RZ
 have f0 := RZ.frozen 0
 have f1 := RZ.frozen 1
 have f2 := RZ.frozen 2
 have f3 := RZ.frozen 3
 have f4 := RZ.frozen 4
 have f5 := RZ.frozen 5
 have f6 := RZ.frozen 6
 clear RZ
 refine wpAnyH_ready (rs := [17]) (by kernel_rfl) (by simp) ?_
 refine AllReadyH.cons (o := ⟨_, _, _, _, _, _⟩) rfl (fun K hK => ?_) AllReadyH.nil
 go_simp
 refine hK.out _ _ ?_ (fun hHeld => ?_)
 ·have k := kept7 w4 w.heap.size (.int .i64 0) (.int .i64 (d.length : Int)) (.slice (some ⟨gd, 0, none⟩) d.length d.length) (.int .i64 (s : Int)) (.slice ta Tk.length tc) (.slice ha Hd.length hc) (.slice (some ⟨gc, 0, none⟩) J J)
  have l0 := HR.out.lt
  have l1 := B1.out.size
  have l2 := (Array.getElem?_eq_some_iff.1 S4.out.2.2.out).1
  exact ⟨(World.cell?_of_block (a := ⟨w1.heap.size, 1, none⟩) (k.block w1.heap.size (by omega) (by omega))).trans S4.out.1, (World.cell?_of_block (a := ⟨w1.heap.size, 2, none⟩) (k.block w1.heap.size (by omega) (by omega))).trans S4.out.2.1, (k.block _ l2 (by omega)).trans S4.out.2.2.out⟩
 clear hK K
 try simp only [Act.put, zA, zB, zC]
 refine wpAnyH_done (by kernel_rfl) ?_ _
 clear hHeld
 go_wp2
 refine bodyPost_ret (v := .agg #[.int .i64 0, .int .i64 (d.length : Int), .slice (some ⟨gd, 0, none⟩) d.length d.length, .int .i64 (s : Int), .slice ta Tk.length tc, .slice ha Hd.length hc, .slice (some ⟨gc, 0, none⟩) J J]) (by simp [results, Tryz.results25, go_sem, *]) rfl ?_
 have k := kept7 w4 w.heap.size (.int .i64 0) (.int .i64 (d.length : Int)) (.slice (some ⟨gd, 0, none⟩) d.length d.length) (.int .i64 (s : Int)) (.slice ta Tk.length tc) (.slice ha Hd.length hc) (.slice (some ⟨gc, 0, none⟩) J J)
 have l0 := HR.out.lt
 have l1 := B1.out.size
 have l2 := HN2.out.size
 have l3 := GD.out
 have l4 := GC.out
 have BV := WV.out.trans (B4.out.mono WV.out.size)
 have XW := ((HX.out.below (HN2.out.trans (B4.out.mono HN2.out.size))).down (show w.heap.size + 1 ≤ _ by omega)).keep k.size (fun q h1 h2 => k.block q h2 (by omega))
 refine .inr (.inr ⟨h6', s, rfl, HS.out.1, HS.out.2, gd, gc, .slice ta Tk.length tc, hvs, us, rs, bl, bh, ?_, ?_, seven BV (Nat.le_refl _)⟩)
 ·rw [HJ.out, EH.out]
 ·have e := HJ.out
  exact ⟨⟨w1, by omega, by rw [e]; exact HX.out.down (show w.heap.size + 1 ≤ _ by omega)⟩, by rw [e]; exact XW, rowK RD4.out k (.inr (by omega)), by rw [e]; exact rowK RC4.out k (.inr (by omega)), by omega, by omega⟩
def BT (X : Nat → Prop) (w : World) (v : Value) (l : List Int) : Prop :=
 ∃ B : Nat → Prop, (∀ k, B k → k < w.heap.size ∧ ¬ X k) ∧ ∃ a c, v = .slice a l.length c ∧ l.length ≤ c ∧ ∀ w', (∀ k, B k → w'.heap[k]? = w.heap[k]?) → BAt w' a l
theorem BT.step {X X' : Nat → Prop} {w w' : World} {v : Value} {l : List Int} (h : BT X w v l) (hk : ∀ k, k < w.heap.size → ¬ X k → w'.heap[k]? = w.heap[k]?) (hs : w.heap.size ≤ w'.heap.size) (hX : ∀ k, X' k → X k ∨ w.heap.size ≤ k) : BT X' w' v l := by
 obtain ⟨B, hB, a, c, e, hc, hw⟩ := h
 refine ⟨B, fun k hk' => ⟨Nat.lt_of_lt_of_le (hB k hk').1 hs, fun hx => ?_⟩, a, c, e, hc, fun v hv => hw v (fun k hk' => (hv k hk').trans (hk k (hB k hk').1 (hB k hk').2))⟩
 rcases hX k hx with h | h
 ·exact (hB k hk').2 h
 ·have := (hB k hk').1; omega
theorem BT.at {X : Nat → Prop} {w : World} {v : Value} {l : List Int} (h : BT X w v l) : ∃ a c, v = .slice a l.length c ∧ l.length ≤ c ∧ BAt w a l := by
 obtain ⟨B, hB, a, c, e, hc, hw⟩ := h
 exact ⟨a, c, e, hc, hw w (fun _ _ => rfl)⟩
theorem BT.of_own {X : Nat → Prop} {w : World} {base : Nat} {v : Value} {l : List Int} (h : w.ownsRow base 5 1 v l.length (bcs l)) (hX : ∀ k, v.ownBlock = some k → ¬ X k) : BT X w v l := by
 obtain ⟨a, c, e, hc⟩ := own_cap h
 refine ⟨fun k => v.ownBlock = some k, fun k hk => ⟨(h.lt k hk).2, hX k hk⟩, a, c, e, hc, fun w' hw => ?_⟩
 obtain ⟨p, c', e', hb⟩ := own_bat (own_of h (Nat.le_refl _) (fun k e _ => hw k e) : w'.ownsRow base 5 1 v l.length (bcs l))
 rw [e] at e'
 injection e' with e1 _ _
 rw [e1]; exact hb
def TC (X : Nat → Prop) (w : World) (us : List Value) (ts : List TK) : Prop :=
 ∀ i, i < ts.length → ∃ B : Nat → Prop, (∀ k, B k → k < w.heap.size ∧ ¬ X k) ∧ ∃ a c, us.getD i undef = .slice a (tkK ts i).at_.length c ∧ ∀ w', (∀ k, B k → w'.heap[k]? = w.heap[k]?) → w.heap.size ≤ w'.heap.size → AAt w' a (tkK ts i).at_
theorem TC.step {X X' : Nat → Prop} {w w' : World} {us : List Value} {ts : List TK} (h : TC X w us ts) (hk : ∀ k, k < w.heap.size → ¬ X k → w'.heap[k]? = w.heap[k]?) (hs : w.heap.size ≤ w'.heap.size) (hX : ∀ k, X' k → X k ∨ w.heap.size ≤ k) : TC X' w' us ts := by
 intro i hi
 obtain ⟨B, hB, a, c, e, hw⟩ := h i hi
 refine ⟨B, fun k hk' => ⟨Nat.lt_of_lt_of_le (hB k hk').1 hs, fun hx => ?_⟩, a, c, e, fun v hv hsz => hw v (fun k hk' => (hv k hk').trans (hk k (hB k hk').1 (hB k hk').2)) (Nat.le_trans hs hsz)⟩
 rcases hX k hx with h | h
 ·exact (hB k hk').2 h
 ·have := (hB k hk').1; omega
theorem TC.app {X : Nat → Prop} {w : World} {us us1 : List Value} {ts ts1 : List TK} (h : TC X w us ts) (hl : us.length = ts.length) (k : TC X w us1 ts1) : TC X w (us ++ us1) (ts ++ ts1) := by
 intro i hi
 by_cases c : i < ts.length
 ·rw [tkK_left c, usK_left (by omega)]; exact h i c
 ·rw [tkK_right c, usK_right (by omega), hl]
  exact k _ (by rw [List.length_append] at hi; omega)
theorem TC.nil (X : Nat → Prop) (w : World) : TC X w [] [] := fun i hi => absurd hi (Nat.not_lt_zero _)
theorem TC.of {X : Nat → Prop} {base : Nat} {w : World} {us : List Value} {ts : List TK} (hl : us.length = ts.length) (h : ∀ (i : Nat) t u, ts[i]? = some t → us[i]? = some u → TokIn base w none t u) (hX : ∀ k, X k → k < base) : TC X w us ts := by
 intro i hi
 have h1 : ts[i]? = some (tkK ts i) := by unfold tkK; simp [hi]
 have h2 : us[i]? = some (us.getD i undef) := by simp [show i < us.length by omega]
 rcases h i _ _ h1 h2 with ⟨e1, e2⟩ | ⟨lo, w9, rs, k1, k2, k3, k4, k5⟩
 ·refine ⟨fun _ => False, fun k hk => absurd hk id, none, 0, by rw [e2, e1]; rfl, fun w' _ _ => .inl e1⟩
 ·obtain ⟨a, c, e, hA⟩ := k2.at
  refine ⟨fun k => lo ≤ k ∧ k < w9.heap.size, fun k hk => ⟨by omega, fun hx => by have := hX k hx; omega⟩, a, c, e, fun w' hw _ => ?_⟩
  obtain ⟨a', c', e', hA'⟩ := (k2.keep (w' := w') (Nat.le_refl _) (fun k h1 h2 => (hw k ⟨h1, h2⟩).trans (k4 k h1 h2))).at
  rw [e] at e'
  injection e' with e1 _ _
  rw [e1]; exact hA'
theorem rowT_cellN {lo g cap : Nat} {w : World} {ts : List TK} {us : List Value} (hl : us.length = ts.length) (h : w.ownsRow lo 107 5 (.slice (some ⟨g, 0, none⟩) ts.length cap) ts.length (tcs ts us)) {n i : Nat} (hn : n < ts.length) (hi : i < 5) : w.cell? ⟨g, n * 5 + i, none⟩ = ([.int .i64 (tkK ts n).kd, .int .i64 (tkK ts n).by_, .string (tkK ts n).nm, us.getD n undef, .bool (tkK ts n).sh] : List Value)[i]? ∧ w.frozen? ⟨g, n * 5 + i, none⟩ = false := by
 rcases h.2 with ⟨h0, _⟩ | ⟨g', cap', cur, hv, hg, hh, hc, hm, hs', ht⟩
 ·cases h0
 ·cases hv
  refine ⟨?_, Lib.frozen_of_heap hh _⟩
  rw [Lib.cell_of_heap hh, ← tcs_get ts us n i hl hn hi, ← ht, List.getElem?_take_of_lt (by omega)]
  simp
theorem row_tsAtN {w : World} {lo : Nat} {v : Value} {ts : List TK} {us : List Value} (hl : us.length = ts.length) (h : w.ownsRow lo 107 5 v ts.length (tcs ts us)) (ha : ∀ j, j < ts.length → ∃ p c, us.getD j undef = .slice p (tkK ts j).at_.length c ∧ AAt w p (tkK ts j).at_) : ∃ a c, v = .slice a ts.length c ∧ TsAt w a ts := by
 by_cases h0 : ts = []
 ·subst h0
  obtain ⟨a, c, e, _⟩ := own_src h
  exact ⟨a, c, e, .inl rfl⟩
 ·have hp : 0 < ts.length := List.length_pos_iff.2 h0
  rcases h.2 with ⟨rfl, h9⟩ | ⟨g, cap, cur, rfl, hg, hh, hc, hm, hs, ht⟩
  ·omega
  ·have glt : g < w.heap.size := Nat.lt_of_not_le fun hn => by rw [Array.getElem?_eq_none hn] at hh; cases hh
   refine ⟨_, _, rfl, .inr ⟨g, 0, rfl, glt, fun k hk => ?_⟩⟩
   have cc := fun i hi => (rowT_cellN hl h hk (i := i) hi).1
   obtain ⟨p, c, e, haa⟩ := ha k hk
   simp only [Nat.zero_add]
   refine ⟨cc 0 (by omega), cc 1 (by omega), cc 2 (by omega), ⟨p, c, ?_, haa⟩, cc 4 (by omega)⟩
   rw [cc 3 (by omega), ← e]; rfl
theorem TP.tsAtN {lo : Nat} {w : World} {tv : Value} {ts : List TK} {us : List Value} {rs : Nat → List Value} {bl bh : Nat → Nat} (h : TP lo w tv ts us rs bl bh) : ∃ a c, tv = .slice a ts.length c ∧ TsAt w a ts :=
 row_tsAtN h.ta.len h.row (fun j hj => (h.ta.att j hj).at)
theorem TC.ts {X : Nat → Prop} {base : Nat} {w : World} {tv : Value} {us : List Value} {ts : List TK} (h : TC X w us ts) (hl : us.length = ts.length) (hr : w.ownsRow base 107 5 tv ts.length (tcs ts us)) : ∃ a c, tv = .slice a ts.length c ∧ TsAt w a ts :=
 row_tsAtN hl hr (fun j hj => by
  obtain ⟨B, _, a, c, e, hw⟩ := h j hj
  exact ⟨a, c, e, hw w (fun _ _ => rfl) (Nat.le_refl _)⟩)
def cvs (d : List Int) (s c : Nat) (hs : Nat → Value) : List Value := (List.range (c * 3)).map (ckV d s c hs)
theorem cvs_len (d : List Int) (s c : Nat) (hs : Nat → Value) : (cvs d s c hs).length = c * 3 := by simp [cvs]
theorem cvs_at (d : List Int) (s c : Nat) (hs : Nat → Value) (i : Nat) (h : i < c * 3) : (cvs d s c hs)[i]? = some (ckV d s c hs i) := by simp [cvs, h]
theorem cvs_succ (d : List Int) (s c : Nat) (hs : Nat → Value) (v : Value) : cvs d s c hs ++ [.int .i64 ((c * s : Nat) : Int), .int .i64 ((tkN d s c).length : Int), v] = cvs d s (c + 1) (fun i => if i = c then v else hs i) := by
 apply List.ext_getElem?
 intro i
 by_cases h : i < c * 3
 ·rw [List.getElem?_append_left (by rw [cvs_len]; exact h), cvs_at _ _ _ _ _ h, cvs_at _ _ _ _ _ (by omega)]
  unfold ckV
  rw [if_pos (by omega), if_pos (by omega)]
  dsimp only
  rw [if_neg (by omega)]
 ·rw [List.getElem?_append_right (by rw [cvs_len]; omega), cvs_len]
  by_cases h2 : i < (c + 1) * 3
  ·rw [cvs_at _ _ _ _ _ h2]
   have e : i = c * 3 ∨ i = c * 3 + 1 ∨ i = c * 3 + 2 := by omega
   unfold ckV
   rcases e with rfl | rfl | rfl
   ·rw [show c * 3 - c * 3 = 0 by omega, show c * 3 / 3 = c by omega, show c * 3 % 3 = 0 by omega, if_pos (by omega)]; rfl
   ·rw [show c * 3 + 1 - c * 3 = 1 by omega, show (c * 3 + 1) / 3 = c by omega, show (c * 3 + 1) % 3 = 1 by omega, if_pos (by omega)]; rfl
   ·rw [show c * 3 + 2 - c * 3 = 2 by omega, show (c * 3 + 2) / 3 = c by omega, show (c * 3 + 2) % 3 = 2 by omega, if_pos (by omega)]
    dsimp only
    rw [if_pos rfl]; rfl
  ·rw [List.getElem?_eq_none (by simp; omega), List.getElem?_eq_none (by rw [cvs_len]; omega)]
abbrev XB (b g : Nat) (tv cv : Value) (k : Nat) : Prop := k ≤ b ∨ k = g ∨ tv.ownBlock = some k ∨ cv.ownBlock = some k
structure MS (w : World) (d : List Int) (s k c g : Nat) (dv tv cv hv : Value) (us : List Value) (hs : Nat → Value) (wr : World) : Prop where
 bel : Below w.heap.size w wr
 box : wr.rowIs g 27 5 (r5 dv (.int .i64 (s : Int)) tv (.slice none 0 0) cv)
 r0 : wr.rowIs w.heap.size 27 5 (r5 (.slice none 0 0) (.int .i64 0) (.slice none 0 0) (.slice none 0 0) (.slice none 0 0))
 gl : w.heap.size < g
 gt : tv.ownBlock ≠ some g
 gc : cv.ownBlock ≠ some g
 tr : wr.ownsRow (w.heap.size + 1) 107 5 tv (allX [] [] (d.take k)).1.length (tcs (allX [] [] (d.take k)).1 us)
 ul : us.length = (allX [] [] (d.take k)).1.length
 uo : ∀ u ∈ us, u.oneCell' = true
 cr : wr.ownsRow (w.heap.size + 1) 31 3 cv c (cvs d s c hs)
 xa : Ap tv cv
 tc : TC (XB w.heap.size g tv cv) wr us (allX [] [] (d.take k)).1
 dt : BT (XB w.heap.size g tv cv) wr dv d
 hd : BT (XB w.heap.size g tv cv) wr hv (allX [] [] (d.take k)).2
 hc : ∀ i, i < c → BT (XB w.heap.size g tv cv) wr (hs i) (hdN d s i)
theorem MS.keep {w : World} {d : List Int} {s k c g : Nat} {dv tv cv hv : Value} {us : List Value} {hs : Nat → Value} {wr wj : World} (x : MS w d s k c g dv tv cv hv us hs wr) (hb : Below wr.heap.size wr wj) : MS w d s k c g dv tv cv hv us hs wj :=
 ⟨x.bel.trans (hb.mono x.bel.size), rowB x.box hb, rowB x.r0 hb, x.gl, x.gt, x.gc, own_keep x.tr hb, x.ul, x.uo, own_keep x.cr hb, x.xa, x.tc.step (fun k h _ => hb.block k h) hb.size (fun _ h => .inl h), x.dt.step (fun k h _ => hb.block k h) hb.size (fun _ h => .inl h), x.hd.step (fun k h _ => hb.block k h) hb.size (fun _ h => .inl h), fun i hi => (x.hc i hi).step (fun k h _ => hb.block k h) hb.size (fun _ h => .inl h)⟩
theorem MS.check {w : World} {d : List Int} {s k c g : Nat} {dv tv cv hv : Value} {us : List Value} {hs : Nat → Value} {wr w2 w3 : World} (x : MS w d s k c g dv tv cv hv us hs wr) {v cv' : Value} (hb : Below wr.heap.size wr w2) (hv2 : BT (XB w.heap.size g tv cv) w2 v (hdN d s c))
  (ho : w3.ownsRow (w.heap.size + 1) 31 3 cv' (c + 1) (cvs d s c hs ++ [.int .i64 ((c * s : Nat) : Int), .int .i64 ((tkN d s c).length : Int), v])) (hg : w2.grownBy w3 cv.ownBlock) (e : cv'.ownBlock = cv.ownBlock ∨ cv'.ownBlock = some w2.heap.size) :
  MS w d s k (c + 1) g dv tv cv' hv us (fun i => if i = c then v else hs i) (w3.setCell ⟨g, 4, none⟩ cv') := by
 have y := x.keep hb
 have s2 := hg.size
 have K := (KeptIn.refl g (g + 1) w3).setCell (p := ⟨g, 4, none⟩) (by simp) (by simp) cv'
 have sK := K.size
 have told : ∀ q, cv.ownBlock = some q → w.heap.size + 1 ≤ q ∧ q < w2.heap.size := fun q e => y.cr.lt q e
 have tol : ∀ q, tv.ownBlock = some q → w.heap.size + 1 ≤ q ∧ q < w2.heap.size := fun q e => y.tr.lt q e
 have gl := y.gl
 have gb := y.box.lt
 have kb : ∀ q, q < w2.heap.size → q ≠ g → cv.ownBlock ≠ some q → (w3.setCell ⟨g, 4, none⟩ cv').heap[q]? = w2.heap[q]? := fun q h1 h2 h3 => (K.block q (by omega) (by omega)).trans (hg.block q h1 (fun e => h3 e.symm))
 have kX : ∀ q, q < w2.heap.size → ¬ XB w.heap.size g tv cv q → (w3.setCell ⟨g, 4, none⟩ cv').heap[q]? = w2.heap[q]? := fun q h1 h2 => kb q h1 (fun e => h2 (.inr (.inl e))) (fun e => h2 (.inr (.inr (.inr e))))
 have hX : ∀ q, XB w.heap.size g tv cv' q → XB w.heap.size g tv cv q ∨ w2.heap.size ≤ q := fun q h => by
  rcases h with h | h | h | h
  ·exact .inl (.inl h)
  ·exact .inl (.inr (.inl h))
  ·exact .inl (.inr (.inr (.inl h)))
  ·rcases e with e | e
   ·exact .inl (.inr (.inr (.inr (e ▸ h))))
   ·rw [e] at h; cases h; exact .inr (Nat.le_refl _)
 have sz : w2.heap.size ≤ (w3.setCell ⟨g, 4, none⟩ cv').heap.size := Nat.le_trans s2 sK
 have gc' : cv'.ownBlock ≠ some g := fun h => by
  rcases e with e | e
  ·exact y.gc (e ▸ h)
  ·rw [e] at h; cases h; omega
 refine ⟨?_, ?_, ?_, gl, y.gt, gc', ?_, y.ul, y.uo, ?_, ?_, y.tc.step kX sz hX, y.dt.step kX sz hX, y.hd.step kX sz hX, fun i hi => ?_⟩
 ·exact ⟨K.os.trans (hg.os.trans y.bel.os), K.tape.trans (hg.tape.trans y.bel.tape), K.output.trans (hg.output.trans y.bel.output), Nat.le_trans y.bel.size sz, fun q hq => (kb q (by have := y.bel.size; omega) (by omega) (fun e => by have := told q e; omega)).trans (y.bel.block q hq)⟩
 ·have r := y.box.of_block (hg.block g gb (fun e => y.gc e.symm))
  refine (r.set 4 cv').congr (fun i hi => ?_)
  have h : i = 0 ∨ i = 1 ∨ i = 2 ∨ i = 3 ∨ i = 4 := by omega
  rcases h with rfl | rfl | rfl | rfl | rfl <;> simp [r5]
 ·exact y.r0.of_block (kb _ y.r0.lt (by omega) (fun e => by have := told _ e; omega))
 ·exact own_of y.tr (Nat.le_refl _) (fun q eq hq => kb q (tol q eq).2 (fun e => y.gt (e ▸ eq)) (fun e2 => y.xa q eq e2))
 ·rw [← cvs_succ]
  exact own_of ho (Nat.le_refl _) (fun q eq hq => K.block q (ho.lt q eq).2 (by have : q ≠ g := fun e2 => gc' (e2 ▸ eq); omega))
 ·intro q eq eq2
  rcases e with e | e
  ·rw [e] at eq2; exact y.xa q eq eq2
  ·rw [e] at eq2; cases eq2; have := tol _ eq; omega
 ·by_cases h : i = c
  ·subst h
   rw [if_pos rfl]
   exact hv2.step kX sz hX
  ·rw [if_neg h]
   exact (y.hc i (by omega)).step kX sz hX
theorem MS.feed {w : World} {d : List Int} {s k c g : Nat} {dv tv cv hv : Value} {us : List Value} {hs : Nat → Value} {wr w2 w3 : World} (x : MS w d s k c g dv tv cv hv us hs wr) {tv' hv' : Value} {R : List TK × List Int} {us1 : List Value} (eX : allX [] [] (d.take (k + 1)) = ((allX [] [] (d.take k)).1 ++ R.1, R.2))
  (hb : Below wr.heap.size wr w2) (hl1 : us1.length = R.1.length) (h1 : ∀ u ∈ us1, u.oneCell' = true) (hA : ∀ (i : Nat) t u, R.1[i]? = some t → us1[i]? = some u → TokIn wr.heap.size w2 none t u) (hh : w2.ownsRow wr.heap.size 5 1 hv' R.2.length (bcs R.2))
  (ho : w3.ownsRow (w.heap.size + 1) 107 5 tv' ((allX [] [] (d.take k)).1.length + R.1.length) (tcs (allX [] [] (d.take k)).1 us ++ tcs R.1 us1)) (hg : w2.grownBy w3 tv.ownBlock) (e : tv'.ownBlock = tv.ownBlock ∨ tv'.ownBlock = some w2.heap.size) :
  MS w d s (k + 1) c g dv tv' cv hv' (us ++ us1) hs (w3.setCell ⟨g, 2, none⟩ tv') := by
 have y := x.keep hb
 have s1 := hb.size
 have s2 := hg.size
 have K := (KeptIn.refl g (g + 1) w3).setCell (p := ⟨g, 2, none⟩) (by simp) (by simp) tv'
 have sK := K.size
 have told : ∀ q, cv.ownBlock = some q → w.heap.size + 1 ≤ q ∧ q < wr.heap.size := fun q e => x.cr.lt q e
 have tol : ∀ q, tv.ownBlock = some q → w.heap.size + 1 ≤ q ∧ q < wr.heap.size := fun q e => x.tr.lt q e
 have gl := y.gl
 have gb := x.box.lt
 have kb : ∀ q, q < w2.heap.size → q ≠ g → tv.ownBlock ≠ some q → (w3.setCell ⟨g, 2, none⟩ tv').heap[q]? = w2.heap[q]? := fun q h1 h2 h3 => (K.block q (by omega) (by omega)).trans (hg.block q h1 (fun e => h3 e.symm))
 have kX : ∀ q, q < w2.heap.size → ¬ XB w.heap.size g tv cv q → (w3.setCell ⟨g, 2, none⟩ tv').heap[q]? = w2.heap[q]? := fun q h1 h2 => kb q h1 (fun e => h2 (.inr (.inl e))) (fun e => h2 (.inr (.inr (.inl e))))
 have hX : ∀ q, XB w.heap.size g tv' cv q → XB w.heap.size g tv cv q ∨ w2.heap.size ≤ q := fun q h => by
  rcases h with h | h | h | h
  ·exact .inl (.inl h)
  ·exact .inl (.inr (.inl h))
  ·rcases e with e | e
   ·exact .inl (.inr (.inr (.inl (e ▸ h))))
   ·rw [e] at h; cases h; exact .inr (Nat.le_refl _)
  ·exact .inl (.inr (.inr (.inr h)))
 have old : ∀ q, XB w.heap.size g tv cv q → q < wr.heap.size := fun q h => by
  rcases h with h | h | h | h
  ·omega
  ·omega
  ·exact (tol q h).2
  ·exact (told q h).2
 have sz : w2.heap.size ≤ (w3.setCell ⟨g, 2, none⟩ tv').heap.size := Nat.le_trans s2 sK
 have gt' : tv'.ownBlock ≠ some g := fun h => by
  rcases e with e | e
  ·exact y.gt (e ▸ h)
  ·rw [e] at h; cases h; omega
 have e1 : (allX [] [] (d.take (k + 1))).1 = (allX [] [] (d.take k)).1 ++ R.1 := congrArg Prod.fst eX
 have e2 : (allX [] [] (d.take (k + 1))).2 = R.2 := by rw [eX]
 refine ⟨?_, ?_, ?_, gl, gt', y.gc, ?_, ?_, fun u hu => ?_, ?_, ?_, ?_, y.dt.step kX sz hX, ?_, fun i hi => (y.hc i hi).step kX sz hX⟩
 ·exact ⟨K.os.trans (hg.os.trans y.bel.os), K.tape.trans (hg.tape.trans y.bel.tape), K.output.trans (hg.output.trans y.bel.output), Nat.le_trans y.bel.size sz, fun q hq => (kb q (by have := y.bel.size; omega) (by omega) (fun e => by have := tol q e; omega)).trans (y.bel.block q hq)⟩
 ·have r := y.box.of_block (hg.block g (by omega) (fun e => y.gt e.symm))
  refine (r.set 2 tv').congr (fun i hi => ?_)
  have h : i = 0 ∨ i = 1 ∨ i = 2 ∨ i = 3 ∨ i = 4 := by omega
  rcases h with rfl | rfl | rfl | rfl | rfl <;> simp [r5]
 ·exact y.r0.of_block (kb _ y.r0.lt (by omega) (fun e => by have := tol _ e; omega))
 ·rw [e1, tcs_app _ _ _ _ x.ul, List.length_append]
  exact own_of ho (Nat.le_refl _) (fun q eq hq => K.block q (ho.lt q eq).2 (by have : q ≠ g := fun e2 => gt' (e2 ▸ eq); omega))
 ·rw [e1, List.length_append, List.length_append, x.ul, hl1]
 ·rcases List.mem_append.1 hu with hu | hu
  ·exact x.uo u hu
  ·exact h1 u hu
 ·exact own_of y.cr (Nat.le_refl _) (fun q eq hq => kb q (by have := told q eq; omega) (fun e => y.gc (e ▸ eq)) (fun e2 => y.xa q e2 eq))
 ·intro q eq eq2
  rcases e with e | e
  ·rw [e] at eq; exact y.xa q eq eq2
  ·rw [e] at eq; cases eq; have := told _ eq2; omega
 ·rw [e1]
  exact (y.tc.app x.ul (TC.of hl1 hA old)).step kX sz hX
 ·rw [e2]
  exact (BT.of_own hh (fun q eq hx => by have := (hh.lt q eq).1; have := old q hx; omega)).step kX sz hX

end Go.Proofs.YtlimgcmhidooaaaGreatDoor
