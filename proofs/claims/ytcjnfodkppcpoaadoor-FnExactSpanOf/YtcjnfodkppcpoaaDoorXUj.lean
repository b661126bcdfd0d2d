/- The text of nodes, the program's side. -/
import Derived.Test.YtcjnfodkppcpoaaDoorXUi
namespace Go.Proofs.YtcjnfodkppcpoaaDoor
open Go.RowKit Go.Maps Go.Shelf
set_option linter.unusedVariables false
set_option linter.unusedSimpArgs false
attribute [local go_sem] Oper.semAt_some

/-- A scope whose labels nobody jumps to. -/
theorem wp_scope_none {P : Program} {a : Act} {w : World} {Q : Exit → Act → World → Prop} {c : Code} (hg : ∀ l a w, ¬ Q (.goto l) a w) (first : c.wp P Q a w) : (Code.scope c).wp P Q a w := by
  intro b k cs
  obtain ⟨e, a₁, w₁, hq, harr⟩ := first b (.inScope c :: k) cs
  cases e with
  | normal => exact ⟨.normal, a₁, w₁, hq, .head step_scope (Steps.trans harr (.one step_inScope))⟩
  | exit id => exact ⟨.exit id, a₁, w₁, hq, fun k' hk => .head step_scope (harr k' (by simp [exitTo, hk]))⟩
  | goto l' => exact absurd hq (hg _ _ _)
  | ret => exact ⟨_, a₁, w₁, hq, .of_steps (.one step_scope) harr⟩
  | panic ch => exact ⟨_, a₁, w₁, hq, .of_steps (.one step_scope) harr⟩
  | outgrown => exact ⟨_, a₁, w₁, hq, .of_steps (.one step_scope) harr⟩

theorem rowIs_tol {Z Z' : World} {b n : Nat} {t : TypeId} {f : Nat → Value} {row : Option Nat} (h : Z.rowIs b t n f) (hg : Z.grownBy Z' row) (hr : ∀ r, row = some r → ∃ o : Obj, Z.heap[r]? = some o ∧ o.isCells = false) : Z'.rowIs b t n f := by
  refine h.of_block (hg.block b h.lt (fun e => ?_))
  obtain ⟨o, ho, hc⟩ := hr b e.symm
  obtain ⟨cs, hb, _⟩ := h
  rw [hb] at ho
  cases ho
  cases hc

theorem own_tol {Z Z' : World} {base n sz : Nat} {e : TypeId} {v : Value} {xs : List Value} {row : Option Nat} (h : Z.ownsRow base e sz v n xs) (hg : Z.grownBy Z' row) (hr : ∀ r, row = some r → ∃ o : Obj, Z.heap[r]? = some o ∧ o.isCells = false) : Z'.ownsRow base e sz v n xs := by
  refine ⟨h.1, h.2.imp id ?_⟩
  rintro ⟨g, cap, cur, ev, hb, hh, hrest⟩
  refine ⟨g, cap, cur, ev, hb, ?_, hrest⟩
  rw [hg.block g (Array.getElem?_eq_some_iff.1 hh).1 (fun e => ?_)]
  · exact hh
  · obtain ⟨o, ho, hc⟩ := hr g e.symm
    rw [hh] at ho
    cases ho
    cases hc

/-- The text that is written: its boxes, its row, and that nobody guards them. -/
structure WV (w : World) (nv : Value) (lg : Bool) (Pr : Nat → Prop) (L : List Int) (v : Value) (Z : World) : Prop where
  tb : Z.rowIs (w.heap.size + 1 + 1) 24 1 (fun _ => v)
  own : Z.ownsRow (w.heap.size + 1 + 1 + 1 + 1) 5 1 v L.length (bcs L)
  lb : Z.rowIs (w.heap.size + 1 + 1 + 1) 4 1 (fun _ => .bool lg)
  nb : Z.rowIs w.heap.size 28 1 (fun _ => nv)
  rb : Z.rowIs (w.heap.size + 1) 26 2 (q2 (.int .i64 0) (.slice none 0 0))
  bl : Below w.heap.size w Z
  p1 : ¬ Pr (w.heap.size + 1 + 1)
  p2 : ¬ Pr (w.heap.size + 1 + 1 + 1)
  pv : ∀ k, v.ownBlock = some k → ¬ Pr k ∧ k < Z.heap.size
  pl : ∀ k, Pr k → k < Z.heap.size

def WI (w : World) (nv : Value) (lg : Bool) (Pr : Nat → Prop) (L : List Int) (Z : World) : Prop := ∃ v, WV w nv lg Pr L v Z

theorem WV.tol {w : World} {nv : Value} {lg : Bool} {Pr : Nat → Prop} {L : List Int} {v : Value} {Z Z' : World} {row : Option Nat} (h : WV w nv lg Pr L v Z) (hg : Z.grownBy Z' row) (hr : ∀ r, row = some r → w.heap.size ≤ r ∧ ∃ o : Obj, Z.heap[r]? = some o ∧ o.isCells = false) :
    WV w nv lg (fun k => Pr k ∨ (Z.heap.size ≤ k ∧ k < Z'.heap.size)) L v Z' := by
  have hr' := fun r e => (hr r e).2
  have l1 := h.tb.lt
  have l3 := h.lb.lt
  refine ⟨rowIs_tol h.tb hg hr', own_tol h.own hg hr', rowIs_tol h.lb hg hr', rowIs_tol h.nb hg hr', rowIs_tol h.rb hg hr', ?_, ?_, ?_, fun k hk => ⟨?_, ?_⟩, fun k hk => ?_⟩
  · exact ⟨hg.os.trans h.bl.os, hg.tape.trans h.bl.tape, hg.output.trans h.bl.output, Nat.le_trans h.bl.size hg.size, fun k hk => (hg.block k (Nat.lt_of_lt_of_le hk h.bl.size) (fun e => by have := (hr k e.symm).1; omega)).trans (h.bl.block k hk)⟩
  · exact fun x => x.elim h.p1 (fun x => by omega)
  · exact fun x => x.elim h.p2 (fun x => by omega)
  · exact fun x => x.elim (h.pv k hk).1 (fun x => by have := (h.pv k hk).2; omega)
  · exact Nat.lt_of_lt_of_le (h.pv k hk).2 hg.size
  · rcases hk with x | x
    · exact Nat.lt_of_lt_of_le (h.pl k x) hg.size
    · exact x.2

theorem WI.tol {w : World} {nv : Value} {lg : Bool} {Pr : Nat → Prop} {L : List Int} {Z Z' : World} {row : Option Nat} (h : WI w nv lg Pr L Z) (hg : Z.grownBy Z' row) (hr : ∀ r, row = some r → w.heap.size ≤ r ∧ ∃ o : Obj, Z.heap[r]? = some o ∧ o.isCells = false) :
    WI w nv lg (fun k => Pr k ∨ (Z.heap.size ≤ k ∧ k < Z'.heap.size)) L Z' := by
  obtain ⟨v, h⟩ := h
  exact ⟨v, h.tol hg hr⟩

/-- New blocks of one's own are nobody's. -/
theorem WV.grow {w : World} {nv : Value} {lg : Bool} {Pr : Nat → Prop} {L : List Int} {v : Value} {Z Z' : World} (h : WV w nv lg Pr L v Z) (hg : Z.grownBy Z' none) : WV w nv lg Pr L v Z' := by
  have hr' : ∀ r, (none : Option Nat) = some r → ∃ o : Obj, Z.heap[r]? = some o ∧ o.isCells = false := fun r e => by cases e
  refine ⟨rowIs_tol h.tb hg hr', own_tol h.own hg hr', rowIs_tol h.lb hg hr', rowIs_tol h.nb hg hr', rowIs_tol h.rb hg hr', ?_, h.p1, h.p2, fun k hk => ⟨(h.pv k hk).1, Nat.lt_of_lt_of_le (h.pv k hk).2 hg.size⟩, fun k hk => Nat.lt_of_lt_of_le (h.pl k hk) hg.size⟩
  exact ⟨hg.os.trans h.bl.os, hg.tape.trans h.bl.tape, hg.output.trans h.bl.output, Nat.le_trans h.bl.size hg.size, fun k hk => (hg.block k (Nat.lt_of_lt_of_le hk h.bl.size) (fun e => by cases e)).trans (h.bl.block k hk)⟩

theorem own_ne {Z : World} {base n sz m b : Nat} {v : Value} {xs : List Value} {t : TypeId} {f : Nat → Value} (h : Z.ownsRow base 5 sz v n xs) (hr : Z.rowIs b t m f) (ht : t ≠ 5) : some b ≠ v.ownBlock := fun e => by
  rcases h.2 with ⟨rfl, _⟩ | ⟨g, cap, cur, rfl, _, hh, _⟩
  · simp [Value.ownBlock] at e
  · simp [Value.ownBlock] at e
    subst e
    obtain ⟨c, hc, _⟩ := hr
    rw [hh] at hc
    cases hc
    exact ht rfl

/-- One byte more. -/
theorem WV.app {w : World} {nv : Value} {Pr : Nat → Prop} {L : List Int} {v v' : Value} {Z X X' : World} {x : Int} (h : WV w nv false Pr L v Z) (hX : Z.grownBy X none)
    (ho : X'.ownsRow (w.heap.size + 1 + 1 + 1 + 1) 5 1 v' (L.length + 1) (bcs L ++ [.int .u8 x])) (hg : X.grownBy X' v.ownBlock) (hv : v'.ownBlock = v.ownBlock ∨ v'.ownBlock = some X.heap.size) :
    WV w nv false Pr (L ++ [x]) v' (X'.setCell ⟨w.heap.size + 1 + 1, 0, none⟩ v') ∧ KpS Pr Z (X'.setCell ⟨w.heap.size + 1 + 1, 0, none⟩ v') ∧
      (∀ (b m : Nat) (t : TypeId) (f : Nat → Value), t ≠ 5 → b ≠ w.heap.size + 1 + 1 → Z.rowIs b t m f → (X'.setCell ⟨w.heap.size + 1 + 1, 0, none⟩ v').rowIs b t m f) := by
  have hK := h.grow hX
  have hkeep : ∀ (b m : Nat) (t : TypeId) (f : Nat → Value), t ≠ 5 → X.rowIs b t m f → X'.rowIs b t m f := fun b m t f ht hb => hb.of_block (hg.block b hb.lt (own_ne hK.own hb ht))
  have hz : ∀ (b m : Nat) (t : TypeId) (f : Nat → Value), Z.rowIs b t m f → X.rowIs b t m f := fun b m t f hb => hb.of_block (hX.block b hb.lt (fun e => by cases e))
  have htb : X'.rowIs (w.heap.size + 1 + 1) 24 1 (fun _ => v) := hkeep _ _ _ _ (by decide) hK.tb
  have hs : (X'.setCell ⟨w.heap.size + 1 + 1, 0, none⟩ v').heap.size = X'.heap.size := by simp [World.setCell]
  have vlt : ∀ k, v'.ownBlock = some k → ¬ Pr k ∧ k < X'.heap.size ∧ w.heap.size + 1 + 1 + 1 + 1 ≤ k := fun k hk => by
    have hge : w.heap.size + 1 + 1 + 1 + 1 ≤ k ∧ k < X'.heap.size := by
      rcases ho.2 with ⟨rfl, _⟩ | ⟨g, cap, cur, rfl, hb, hh, _⟩
      · simp [Value.ownBlock] at hk
      · simp [Value.ownBlock] at hk
        subst hk
        exact ⟨hb, (Array.getElem?_eq_some_iff.1 hh).1⟩
    refine ⟨?_, hge.2, hge.1⟩
    rcases hv with e | e
    · exact (hK.pv k (e ▸ hk)).1
    · intro hp
      have := h.pl k hp
      have := hX.size
      rw [e] at hk
      cases hk
      omega
  have kps : KpS Pr Z (X'.setCell ⟨w.heap.size + 1 + 1, 0, none⟩ v') := by
    refine ⟨hg.os.trans hX.os, hg.tape.trans hX.tape, hg.output.trans hX.output, ?_, fun k hk hl => ?_⟩
    · rw [hs]; exact Nat.le_trans hX.size hg.size
    · rw [Deep.blk_setCell_other _ _ _ _ (fun e => h.p1 (by have : k = w.heap.size + 1 + 1 := e; rw [← this]; exact hk))]
      rw [hg.block k (Nat.lt_of_lt_of_le hl hX.size) (fun e => (h.pv k e.symm).1 hk)]
      exact hX.block k hl (fun e => by cases e)
  refine ⟨⟨?_, ?_, ?_, ?_, ?_, ?_, h.p1, h.p2, fun k hk => ⟨(vlt k hk).1, ?_⟩, fun k hk => ?_⟩, kps, fun b m t f ht hb hr => (hkeep b m t f ht (hz b m t f hr)).setOther hb v'⟩
  · exact (htb.set 0 v').congr (fun i hi => by rw [if_pos (by omega)])
  · have e1 : (L ++ [x]).length = L.length + 1 := by simp
    have e2 : bcs (L ++ [x]) = bcs L ++ [.int .u8 x] := by simp [bcs]
    rw [e1, e2]
    refine ⟨ho.1, ho.2.imp id ?_⟩
    rintro ⟨g, cap, cur, e, hb, hh, hrest⟩
    refine ⟨g, cap, cur, e, hb, ?_, hrest⟩
    rw [Deep.blk_setCell_other _ _ _ _ (by show g ≠ w.heap.size + 1 + 1; omega)]
    exact hh
  · exact (hkeep _ _ _ _ (by decide) hK.lb).setOther (by show w.heap.size + 1 + 1 + 1 ≠ w.heap.size + 1 + 1; omega) v'
  · exact (hkeep _ _ _ _ (by decide) hK.nb).setOther (by show w.heap.size ≠ w.heap.size + 1 + 1; omega) v'
  · exact (hkeep _ _ _ _ (by decide) hK.rb).setOther (by show w.heap.size + 1 ≠ w.heap.size + 1 + 1; omega) v'
  · have hb' : Below w.heap.size w X' := ⟨hg.os.trans hK.bl.os, hg.tape.trans hK.bl.tape, hg.output.trans hK.bl.output, Nat.le_trans hK.bl.size hg.size, fun k hk => (hg.block k (Nat.lt_of_lt_of_le hk hK.bl.size) (fun e => by
      have : w.heap.size + 1 + 1 + 1 + 1 ≤ k := by
        rcases hK.own.2 with ⟨rfl, _⟩ | ⟨g, cap, cur, rfl, hb, hh, _⟩
        · simp [Value.ownBlock] at e
        · simp [Value.ownBlock] at e
          omega
      omega)).trans (hK.bl.block k hk)⟩
    exact hb'.setCell (p := ⟨w.heap.size + 1 + 1, 0, none⟩) (by show w.heap.size ≤ w.heap.size + 1 + 1; omega) v'
  · rw [hs]; exact (vlt k hk).2.1
  · rw [hs]; exact Nat.lt_of_lt_of_le (h.pl k hk) (Nat.le_trans hX.size hg.size)

/-- It is too large. -/
theorem WV.large {w : World} {nv : Value} {Pr : Nat → Prop} {L : List Int} {v : Value} {Z : World} (h : WV w nv false Pr L v Z) :
    WV w nv true Pr L v (Z.setCell ⟨w.heap.size + 1 + 1 + 1, 0, none⟩ (.bool true)) ∧ KpS Pr Z (Z.setCell ⟨w.heap.size + 1 + 1 + 1, 0, none⟩ (.bool true)) := by
  have hs : (Z.setCell ⟨w.heap.size + 1 + 1 + 1, 0, none⟩ (.bool true)).heap.size = Z.heap.size := by simp [World.setCell]
  refine ⟨⟨?_, ?_, ?_, ?_, ?_, ?_, h.p1, h.p2, fun k hk => ⟨(h.pv k hk).1, ?_⟩, fun k hk => ?_⟩, ⟨rfl, rfl, rfl, ?_, fun k hk hl => ?_⟩⟩
  · exact h.tb.setOther (by show w.heap.size + 1 + 1 ≠ w.heap.size + 1 + 1 + 1; omega) _
  · refine ⟨h.own.1, h.own.2.imp id ?_⟩
    rintro ⟨g, cap, cur, e, hb, hh, hrest⟩
    refine ⟨g, cap, cur, e, hb, ?_, hrest⟩
    rw [Deep.blk_setCell_other _ _ _ _ (by show g ≠ w.heap.size + 1 + 1 + 1; omega)]
    exact hh
  · exact (h.lb.set 0 (.bool true)).congr (fun i hi => by rw [if_pos (by omega)])
  · exact h.nb.setOther (by show w.heap.size ≠ w.heap.size + 1 + 1 + 1; omega) _
  · exact h.rb.setOther (by show w.heap.size + 1 ≠ w.heap.size + 1 + 1 + 1; omega) _
  · exact h.bl.setCell (p := ⟨w.heap.size + 1 + 1 + 1, 0, none⟩) (by show w.heap.size ≤ w.heap.size + 1 + 1 + 1; omega) _
  · rw [hs]; exact (h.pv k hk).2
  · rw [hs]; exact h.pl k hk
  · rw [hs]; exact Nat.le_refl _
  · exact Deep.blk_setCell_other _ _ _ _ (fun e => h.p2 (by have : k = w.heap.size + 1 + 1 + 1 := e; rw [← this]; exact hk))

/-- append onto a row of one's own, within a fence, and where the answer lies. -/
theorem wpListIn_append_at {F : Fence} {m0 : Nat} {P : Program} (w : World) {ops : Array Oper} {rest : List Oper} {o : Oper} {a : Act} {Q : Exit → Act → World → Prop} (hgd : o.guard = none) (s x : Operand) (t : TypeId)
    (hop : o.op = .call { callee := .builtin .append, args := #[s, x], argTypes := #[t, t] })
    (base : Nat) (e : TypeId) (z : Value) (size bytes : Nat) (ht : P.underlying t = some (.slice e)) (hinfo : (P.info? e).map (fun i => (i.zero, i.size, i.bytes)) = some (some z, size, bytes))
    (hzs : z.cells.size = size) (hsz : 0 < size)
    (v : Value) (n : Nat) (xs : List Value) (hs : a.eval s = v) (hown : w.ownsRow base e size v n xs)
    (ad : Addr) (m c : Nat) (news : List Value) (hx : a.eval x = .slice (some ad) m c) (hl : news.length = m * size)
    (hsrc : ∀ j u, news[j]? = some u → w.cell? (ad.add j) = some u) (h1 : ∀ u ∈ news, u.oneCell' = true)
    (h63 : n + m ≤ maxLen) (hbytes : (n + m) * bytes ≤ 140737488355328) (hbase : base ≤ w.heap.size)
    (h : ∀ v' w', w'.ownsRow base e size v' (n + m) (xs ++ news) → w.grownBy w' v.ownBlock → (v'.ownBlock = v.ownBlock ∨ v'.ownBlock = some w.heap.size) → wpListIn F m0 P ops Q rest (a.put o.dst v') w') : wpListIn F m0 P ops Q (o :: rest) a w := by
  obtain ⟨i, hi, hz0, hz1, hz2⟩ := info_parts hinfo
  refine wpListIn_plain hgd fun K hK' => ?_
  obtain ⟨v', w', hrun, r1, r2, _, r4⟩ := run_append_own_at (P := P) w base t o.type e i z size bytes ht hi hz0 hz1 hz2 hzs hsz v n xs hown ad m c news hl hsrc h1 h63 hbytes hbase
  unfold Oper.wpIn
  refine ⟨?_, ?_⟩
  · simp [Oper.about, hop, resolve, Target.leads, Sem.run_pure]
  · rw [Oper.semAt_plain F _ _ (by rw [hop]; intro c hc'; cases hc')]
    simp [execOp, hop, resolve, invoke, builtin, hs, hx, hrun, Result.andThen]
    exact hK' _ _ (h v' w' r1 r2 r4)

theorem row1 (w : World) (t : TypeId) (x : Value) : (w.alloc (.cells #[x] t)).rowIs w.heap.size t 1 (fun _ => x) :=
  ⟨#[x], World.alloc_heap_new w _, rfl, fun i hi => by obtain rfl : i = 0 := (by omega); rfl⟩

/-- The bytes that were told. -/
def LB (l : List ND) (q : List (Nat × Bool)) : List Int := (q.flatMap (egE l)).map (fun (b : UInt8) => (b.toNat : Int))

end Go.Proofs.YtcjnfodkppcpoaaDoor
