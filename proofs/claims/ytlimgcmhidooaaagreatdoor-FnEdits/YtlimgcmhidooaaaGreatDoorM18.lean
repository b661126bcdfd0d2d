/- The program's takeTag: a machine of labels. -/
import Derived.Test.YtlimgcmhidooaaaGreatDoorM14
import Derived.Test.YtlimgcmhidooaaaGreatDoorM16
import Derived.ScopeJumps
import Derived.WalkMore
set_option maxHeartbeats 6400000
set_option maxRecDepth 100000
set_option linter.unusedVariables false
set_option linter.unusedSimpArgs false
namespace Go.Proofs.YtlimgcmhidooaaaGreatDoor
open Go.RowKit
def jumps (J : Nat → Act → World → Prop) (Q : Exit → Act → World → Prop) : Exit → Act → World → Prop
 | .goto l, a, w => J l a w
 | e, a, w => Q e a w
theorem wp_scope_many {P : Program} {a : Act} {w : World} {Q : Exit → Act → World → Prop} {c : Code} (J : Nat → Act → World → Prop) (μ : Nat → Act → World → Nat)
  (first : c.wp P (jumps J Q) a w)
  (pass : ∀ l a w, J l a w → ∃ rest, findLabel c l = some rest ∧ rest.wp P (jumps (fun l' a' w' => J l' a' w' ∧ μ l' a' w' < μ l a w) Q) a w) : (Code.scope c).wp P Q a w := by
 intro b k cs
 have hg : ∀ {l rest}, findLabel c l = some rest → gotoIn l (.inScope c :: k) = some (.code rest :: .inScope c :: k) := fun hf => by simp [gotoIn, hf]
 have key : ∀ n l rest a w, findLabel c l = some rest → μ l a w = n → J l a w → ∃ e a' w', Q e a' w' ∧ Arrives P (lone (b.at a (.code rest :: .inScope c :: k)) cs w) b k cs e a' w' := by
  intro n
  induction n using Nat.strongRecOn with
  | _ n ih =>
   intro l rest a w hf hn hJ
   obtain ⟨rest', hf', hp⟩ := pass l a w hJ
   obtain rfl := Option.some.inj (hf'.symm.trans hf)
   obtain ⟨e, a₁, w₁, hq, harr⟩ := hp b (.inScope c :: k) cs
   cases e with
   | normal => exact ⟨.normal, a₁, w₁, hq, Steps.trans harr (.one step_inScope)⟩
   | exit id => exact ⟨.exit id, a₁, w₁, hq, fun k' hk => harr k' (by simp [exitTo, hk])⟩
   | goto l' =>
    obtain ⟨hJ', hlt⟩ := hq
    obtain ⟨rest2, hf2, _⟩ := pass l' a₁ w₁ hJ'
    obtain ⟨e₂, a₂, w₂, hq₂, harr₂⟩ := ih _ (by omega) l' rest2 a₁ w₁ hf2 rfl hJ'
    exact ⟨e₂, a₂, w₂, hq₂, .of_steps (harr _ (hg hf2)) harr₂⟩
   | ret => exact ⟨_, a₁, w₁, hq, harr⟩
   | panic ch => exact ⟨_, a₁, w₁, hq, harr⟩
   | outgrown => exact ⟨_, a₁, w₁, hq, harr⟩
 obtain ⟨e, a₁, w₁, hq, harr⟩ := first b (.inScope c :: k) cs
 cases e with
 | normal => exact ⟨.normal, a₁, w₁, hq, .head step_scope (Steps.trans harr (.one step_inScope))⟩
 | exit id => exact ⟨.exit id, a₁, w₁, hq, fun k' hk => .head step_scope (harr k' (by simp [exitTo, hk]))⟩
 | goto l' =>
  obtain ⟨rest, hf, _⟩ := pass l' a₁ w₁ hq
  obtain ⟨e₂, a₂, w₂, hq₂, harr₂⟩ := key _ l' rest a₁ w₁ hf rfl hq
  exact ⟨e₂, a₂, w₂, hq₂, .of_steps (.head step_scope (harr _ (hg hf))) harr₂⟩
 | ret => exact ⟨_, a₁, w₁, hq, .of_steps (.one step_scope) harr⟩
 | panic ch => exact ⟨_, a₁, w₁, hq, .of_steps (.one step_scope) harr⟩
 | outgrown => exact ⟨_, a₁, w₁, hq, .of_steps (.one step_scope) harr⟩
theorem wp_scope_fall {P : Program} {a : Act} {w : World} {Q : Exit → Act → World → Prop} {c : Code} (J : Nat → Act → World → Prop) (μ : Nat → Act → World → Nat)
  (pass : ∀ l a w, J l a w → ∃ rest, findLabel c l = some rest ∧ rest.wp P (jumps (fun l' a' w' => J l' a' w' ∧ μ l' a' w' < μ l a w) Q) a w)
  (first : (∀ l a w, J l a w → ∃ rest, findLabel c l = some rest ∧ rest.wp P (jumps J Q) a w) → c.wp P (jumps J Q) a w) : (Code.scope c).wp P Q a w := by
 refine wp_scope_many J μ (first fun l a w hJ => ?_) pass
 obtain ⟨rest, hf, hp⟩ := pass l a w hJ
 refine ⟨rest, hf, fun b k cs => ?_⟩
 obtain ⟨e, a', w', hq, harr⟩ := hp b k cs
 refine ⟨e, a', w', ?_, harr⟩
 cases e <;> first | exact hq.1 | exact hq
theorem arr_ofFn (t : Array Value) (n : Nat) (h : t.size = n) : t = Array.ofFn (fun i : Fin n => t.getD i undef) := by
 subst h
 apply Array.ext
 ·simp
 ·intro i h1 h2
  simp [Array.getD, h1]
theorem lit53 (u : Nat → Value) : Array.ofFn (fun i : Fin 53 => u i) = #[u 0, u 1, u 2, u 3, u 4, u 5, u 6, u 7, u 8, u 9, u 10, u 11, u 12, u 13, u 14, u 15, u 16, u 17, u 18, u 19, u 20, u 21, u 22, u 23, u 24, u 25, u 26, u 27, u 28, u 29, u 30, u 31, u 32, u 33, u 34, u 35, u 36, u 37, u 38, u 39, u 40, u 41, u 42, u 43, u 44, u 45, u 46, u 47, u 48, u 49, u 50, u 51, u 52] := by kernel_rfl
def fr (g r q : Nat) (u : Nat → Value) : Act := { tmps := #[.pointer (some ⟨g, 0, none⟩), u 1, .pointer (some ⟨r, 0, none⟩), .pointer (some ⟨q, 0, none⟩), u 4, u 5, u 6, u 7, u 8, u 9, u 10, u 11, u 12, u 13, u 14, u 15, u 16, u 17, u 18, u 19, u 20, u 21, u 22, u 23, u 24, u 25, u 26, u 27, u 28, u 29, u 30, u 31, u 32, u 33, u 34, u 35, u 36, u 37, u 38, u 39, u 40, u 41, u 42, u 43, u 44, u 45, u 46, u 47, u 48, u 49, u 50, u 51, u 52], defers := [] }
def FR (g r q : Nat) (a : Act) : Prop := a.defers = [] ∧ a.tmps.size = 53 ∧ a.tmps.getD 0 undef = .pointer (some ⟨g, 0, none⟩) ∧ a.tmps.getD 2 undef = .pointer (some ⟨r, 0, none⟩) ∧ a.tmps.getD 3 undef = .pointer (some ⟨q, 0, none⟩)
theorem FR.lit {g r q : Nat} {a : Act} (h : FR g r q a) : ∃ u, a = fr g r q u := by
 obtain ⟨t, d⟩ := a
 obtain ⟨rfl, h1, h2, h3, h4⟩ := h
 refine ⟨fun i => t.getD i undef, ?_⟩
 have e := arr_ofFn t 53 h1
 rw [lit53 (fun i => t.getD i undef)] at e
 simp only at h2 h3 h4
 unfold fr
 rw [← h2, ← h3, ← h4]
 exact congrArg (fun x => ({ tmps := x, defers := [] } : Act)) e
def TTP (r : Option TK) (g : Nat) (tp : TypeId) (pv : Value) (w : World) (e : Ending) (w' : World) : Prop := (match r with
      | none => e = boom tp pv
      | some t => ∃ v us, e = .returned (.agg #[.int .i64 t.kd, .int .i64 t.by_, .string t.nm, v, .bool t.sh]) ∧ OA w.heap.size w' v t.at_ us) ∧ KeptIn g (g + 1) w w'
theorem TTP.no {r : Option TK} {g : Nat} {tp : TypeId} {pv : Value} {w w' : World} (h : r = none) (hk : KeptIn g (g + 1) w w') : TTP r g tp pv w (boom tp pv) w' := by
 subst h; exact ⟨rfl, hk⟩
structure TI (B g : Nat) (tp : TypeId) (pv : Value) (w : World) (R : List UInt8) (kd : Int) (nm : ByteArray) (v : Value) (sh : Bool) (acc : List AT) (us : List Value) (wr : World) : Prop where
 rl : RL g R wr
 short : R.length ≤ 200
 box : wr.rowIs (w.heap.size + 1) 107 5 (r5 (.int .i64 kd) (.int .i64 0) (.string nm) v (.bool sh))
 res : wr.rowIs w.heap.size 107 5 (r5 (.int .i64 0) (.int .i64 0) (.string ⟨#[]⟩) (.slice none 0 0) (.bool false))
 own : OA (w.heap.size + 1 + 1) wr v acc us
 few : acc.length ≤ 200
 env : Env B tp pv wr
 kp : KeptIn g (g + 1) w wr
def JJ (B g : Nat) (tp : TypeId) (pv : Value) (w : World) (T : Option TK) (l : Nat) (a : Act) (wr : World) : Prop := FR g w.heap.size (w.heap.size + 1) a ∧ ∃ (R : List UInt8) (kd : Int) (nm : ByteArray) (v : Value) (sh : Bool) (acc : List AT) (us : List Value), TI B g tp pv w R kd nm v sh acc us wr ∧
  ((l = 0 ∧ T = (if Lib.hasSuffix R [45, 45, 62] = true then some ⟨4, 0, ⟨#[]⟩, [], false⟩ else none)) ∨
   (l = 1 ∧ kd = 2 ∧ sh = false ∧ acc = [] ∧ us = [] ∧ v = .slice none 0 0 ∧ T = (if (1 ≤ spn pL R ∧ spn pL R ≤ 8) ∧ R.drop (spn pL R) = [62] then some ⟨3, 0, ⟨(R.take (spn pL R)).toArray⟩, [], false⟩ else none)) ∨
   (l = 2 ∧ kd = 2 ∧ sh = false ∧ acc.length + R.length ≤ 200 ∧ ∃ f, R.length < f ∧ T = (match insideA f R acc with | none => none | some (x, y) => some ⟨2, 0, nm, x, y⟩)) ∨
   (l = 3 ∧ T = (if R = [62] then some ⟨kd, 0, nm, acc, sh⟩ else none)))
def MM (g : Nat) (l : Nat) (a : Act) (wr : World) : Nat := if l = 2 then (match wr.cell? ⟨g, 0, none⟩ with | some (.string s) => s.size + 2 | _ => 0) else if l = 1 then 1 else 0
theorem kept_new {lo hi : Nat} {w wr : World} (h : KeptIn lo hi w wr) {p : Addr} (hp : w.heap.size ≤ p.block) (u : Value) : KeptIn lo hi w (wr.setCell p u) :=
 ⟨h.os, h.tape, h.output, by simp only [World.heap_size_setCell']; exact h.size, fun i hi hx => by rw [Deep.blk_setCell_other _ _ _ _ (by omega)]; exact h.block i hi hx⟩
theorem five_kept {lo hi : Nat} {w wr : World} (h : KeptIn lo hi w wr) (r : Nat) (x y z u v : Value) (hr : w.heap.size ≤ r) : KeptIn lo hi w (((((wr.setCell ⟨r, 0, none⟩ x).setCell ⟨r, 1, none⟩ y).setCell ⟨r, 2, none⟩ z).setCell ⟨r, 3, none⟩ u).setCell ⟨r, 4, none⟩ v) :=
 kept_new (kept_new (kept_new (kept_new (kept_new h (p := ⟨r, 0, none⟩) hr x) (p := ⟨r, 1, none⟩) hr y) (p := ⟨r, 2, none⟩) hr z) (p := ⟨r, 3, none⟩) hr u) (p := ⟨r, 4, none⟩) hr v
theorem beq62 (R : List UInt8) : (R == [62]) = decide (R = [62]) := by by_cases h : R = [62] <;> simp [h]
theorem pre_iff (L : List UInt8) (c : UInt8) (hc : c ≠ 0) : Lib.hasPrefix L [c] = true ↔ (L.getD 0 0).toNat = c.toNat := by
 rw [pre1, decide_eq_true_eq]
 constructor
 ·rintro ⟨_, h⟩; rw [h]
 ·intro h
  have e := UInt8.toNat_inj.1 h
  refine ⟨fun h0 => hc ?_, e⟩
  subst h0
  exact e.symm
theorem tagA_steps (L : List UInt8) : tagA L = (if Lib.hasPrefix L [60] = true then
  (if Lib.hasPrefix (L.drop 1) [33, 45, 45] = true then (if Lib.hasSuffix (L.drop 4) [45, 45, 62] = true then some ⟨4, 0, ⟨#[]⟩, [], false⟩ else none)
  else if Lib.hasPrefix (L.drop 1) [47] = true then (if (1 ≤ spn pL (L.drop 2) ∧ spn pL (L.drop 2) ≤ 8) ∧ (L.drop 2).drop (spn pL (L.drop 2)) = [62] then some ⟨3, 0, ⟨((L.drop 2).take (spn pL (L.drop 2))).toArray⟩, [], false⟩ else none)
  else if 1 ≤ spn pL (L.drop 1) ∧ spn pL (L.drop 1) ≤ 8 then
   (match insideA (L.length + 1) ((L.drop 1).drop (spn pL (L.drop 1))) [] with
   | none => none
   | some (l, sh) => some ⟨2, 0, ⟨((L.drop 1).take (spn pL (L.drop 1))).toArray⟩, l, sh⟩)
  else none)
 else none) := by
 unfold tagA
 have h1 := pre_iff L 60 (by decide)
 have h2 := pre_iff (L.drop 1) 47 (by decide)
 rw [getD_drop] at h2
 by_cases c1 : (L.getD 0 0).toNat = 60
 ·rw [if_pos c1, if_pos (h1.2 c1)]
  by_cases c0 : Lib.hasPrefix (L.drop 1) [33, 45, 45] = true
  ·rw [if_pos c0, if_pos c0]
  ·rw [if_neg c0, if_neg c0]
   by_cases c2 : (L.getD 1 0).toNat = 47
   ·rw [if_pos c2, if_pos (h2.2 c2), List.drop_drop]
   ·rw [if_neg c2, if_neg (fun h => c2 (h2.1 h)), List.drop_drop]
    by_cases c3 : 1 ≤ spn pL (L.drop 1) ∧ spn pL (L.drop 1) ≤ 8
    ·rw [if_pos c3, if_pos c3]
     cases insideA (L.length + 1) (List.drop (1 + spn pL (List.drop 1 L)) L) [] with
     | none => rfl
     | some p => rfl
    ·rw [if_neg c3, if_neg c3]
 ·rw [if_neg c1, if_neg (fun h => c1 (h1.1 h))]
theorem inside_steps (f : Nat) (R : List UInt8) (acc : List AT) : insideA (f + 1) R acc = (if Lib.hasPrefix (R.drop (spn pB R)) [47] = true then (if R.drop (spn pB R + 1) = [62] then some (acc, true) else none)
  else if Lib.hasPrefix (R.drop (spn pB R)) [62] = true then (if R.drop (spn pB R) = [62] then some (acc, false) else none)
  else if spn pB R = 0 then none
  else match attrA (R.drop (spn pB R)) with
   | none => none
   | some (a, n) => insideA f (R.drop (spn pB R + n)) (addA acc a)) := by
 have h1 := pre_iff (R.drop (spn pB R)) 47 (by decide)
 have h2 := pre_iff (R.drop (spn pB R)) 62 (by decide)
 conv => lhs; unfold insideA
 by_cases c1 : ((R.drop (spn pB R)).getD 0 0).toNat = 47
 ·rw [if_pos c1, if_pos (h1.2 c1)]
 ·rw [if_neg c1, if_neg (fun h => c1 (h1.1 h))]
  by_cases c2 : ((R.drop (spn pB R)).getD 0 0).toNat = 62
  ·rw [if_pos c2, if_pos (h2.2 c2)]
  ·rw [if_neg c2, if_neg (fun h => c2 (h2.1 h))]
   by_cases c3 : spn pB R = 0
   ·rw [if_pos c3, if_pos c3]
   ·rw [if_neg c3, if_neg c3]
    cases attrA (R.drop (spn pB R)) with
    | none => rfl
    | some p => rfl
theorem TI.turn {B g : Nat} {tp : TypeId} {pv : Value} {w : World} {R : List UInt8} {kd kd' : Int} {nm nm' : ByteArray} {v v' : Value} {sh sh' : Bool} {acc acc' : List AT} {us us' : List Value} {wr : World} (h : TI B g tp pv w R kd nm v sh acc us wr) (hgl : g < w.heap.size) (i : Nat) (x : Value)
    (hbox : (wr.setCell ⟨w.heap.size + 1, i, none⟩ x).rowIs (w.heap.size + 1) 107 5 (r5 (.int .i64 kd') (.int .i64 0) (.string nm') v' (.bool sh'))) (hown : OA (w.heap.size + 1 + 1) wr v' acc' us') (hfew : acc'.length ≤ 200) (hB : B ≤ g) : TI B g tp pv w R kd' nm' v' sh' acc' us' (wr.setCell ⟨w.heap.size + 1, i, none⟩ x) :=
  ⟨World.rowIs.setOther h.rl (a := ⟨w.heap.size + 1, i, none⟩) (by show g ≠ w.heap.size + 1; omega) x, h.short, hbox, h.res.setOther (a := ⟨w.heap.size + 1, i, none⟩) (by show w.heap.size ≠ w.heap.size + 1; omega) x,
   hown.keep (Nat.le_refl _) (fun k hk _ => Deep.blk_setCell_other _ _ _ _ (by show k ≠ w.heap.size + 1; omega)), hfew, h.env.keep ((Below.refl _ _).setCell (p := ⟨w.heap.size + 1, i, none⟩) (by show B ≤ w.heap.size + 1; omega) x), kept_new h.kp (p := ⟨w.heap.size + 1, i, none⟩) (by show w.heap.size ≤ w.heap.size + 1; omega) x⟩
theorem TI.move {B g : Nat} {tp : TypeId} {pv : Value} {w : World} {R R' : List UInt8} {kd : Int} {nm : ByteArray} {v : Value} {sh : Bool} {acc : List AT} {us : List Value} {wr w1 : World} (h : TI B g tp pv w R kd nm v sh acc us wr) (hgl : g < w.heap.size) (hB : B ≤ g) (hr : RL g R' w1) (hl : R'.length ≤ 200) (hk : KeptIn g (g + 1) wr w1) : TI B g tp pv w R' kd nm v sh acc us w1 :=
 ⟨hr, hl, rowK h.box hk (.inr (by omega)), rowK h.res hk (.inr (by omega)), h.own.keep (Nat.le_refl _) (fun k h1 h2 => hk.block k h2 (.inr (by omega))), h.few, h.env.kept hk hB, h.kp.trans hk⟩
theorem TI.app {B g : Nat} {tp : TypeId} {pv : Value} {w : World} {R : List UInt8} {kd : Int} {nm : ByteArray} {v v' : Value} {sh : Bool} {acc acc' : List AT} {us us' : List Value} {w5 w6 : World} (h : TI B g tp pv w R kd nm v sh acc us w5) (hgl : g < w.heap.size) (hB : B ≤ g) (hb : Below (w.heap.size + 1 + 1) w5 w6) (ho : OA (w.heap.size + 1 + 1) w6 v' acc' us') (hfew : acc'.length ≤ 200) (hbox : (w6.setCell ⟨w.heap.size + 1, 3, none⟩ v').rowIs (w.heap.size + 1) 107 5 (r5 (.int .i64 kd) (.int .i64 0) (.string nm) v' (.bool sh))) : TI B g tp pv w R kd nm v' sh acc' us' (w6.setCell ⟨w.heap.size + 1, 3, none⟩ v') :=
  ⟨World.rowIs.setOther (World.rowIs.of_block h.rl (hb.block _ (by omega))) (a := ⟨w.heap.size + 1, 3, none⟩) (by show g ≠ w.heap.size + 1; omega) _, h.short, hbox,
   (h.res.of_block (hb.block _ (by omega))).setOther (a := ⟨w.heap.size + 1, 3, none⟩) (by show w.heap.size ≠ w.heap.size + 1; omega) _,
   ho.keep (Nat.le_refl _) (fun k hk _ => Deep.blk_setCell_other _ _ _ _ (by show k ≠ w.heap.size + 1; omega)), hfew,
   (h.env.keep (hb.mono (by omega))).keep ((Below.refl _ _).setCell (p := ⟨w.heap.size + 1, 3, none⟩) (by show B ≤ w.heap.size + 1; omega) _),
   kept_new (⟨hb.os.trans h.kp.os, hb.tape.trans h.kp.tape, hb.output.trans h.kp.output, Nat.le_trans h.kp.size hb.size, fun i hi hx => (hb.block i (by omega)).trans (h.kp.block i hi hx)⟩ : KeptIn g (g + 1) w w6) (p := ⟨w.heap.size + 1, 3, none⟩) (by show w.heap.size ≤ w.heap.size + 1; omega) _⟩
theorem undrewK {lo hi : Nat} {w w1 : World} (h : KeptIn lo hi w.drew w1) : KeptIn lo hi w w1 := ⟨h.os, h.tape, h.output, h.size, h.block⟩
theorem RL.drew {g : Nat} {L : List UInt8} {w : World} (h : RL g L w) : RL g L w.drew := h
theorem Env.drew {B : Nat} {tp : TypeId} {pv : Value} {w : World} (h : Env B tp pv w) : Env B tp pv w.drew := h.keep (Below.refl _ _).drew
theorem addA_len (l : List AT) (a : AT) : (addA l a).length ≤ l.length + 1 := by unfold addA; split <;> simp
theorem box0 {wr : World} {q : Nat} {kd kd' : Int} {nm : ByteArray} {v : Value} {sh : Bool} (h : wr.rowIs q 107 5 (r5 (.int .i64 kd) (.int .i64 0) (.string nm) v (.bool sh))) : (wr.setCell ⟨q, 0, none⟩ (.int .i64 kd')).rowIs q 107 5 (r5 (.int .i64 kd') (.int .i64 0) (.string nm) v (.bool sh)) :=
 (h.set 0 _).congr (fun j _ => by by_cases e : j = 0 <;> simp [r5, e])
theorem box2 {wr : World} {q : Nat} {kd : Int} {nm nm' : ByteArray} {v : Value} {sh : Bool} (h : wr.rowIs q 107 5 (r5 (.int .i64 kd) (.int .i64 0) (.string nm) v (.bool sh))) : (wr.setCell ⟨q, 2, none⟩ (.string nm')).rowIs q 107 5 (r5 (.int .i64 kd) (.int .i64 0) (.string nm') v (.bool sh)) :=
 (h.set 2 _).congr (fun j _ => by by_cases e : j = 2 <;> simp [r5, e])
theorem box3 {wr : World} {q : Nat} {kd : Int} {nm : ByteArray} {v v' : Value} {sh : Bool} (h : wr.rowIs q 107 5 (r5 (.int .i64 kd) (.int .i64 0) (.string nm) v (.bool sh))) : (wr.setCell ⟨q, 3, none⟩ v').rowIs q 107 5 (r5 (.int .i64 kd) (.int .i64 0) (.string nm) v' (.bool sh)) :=
 (h.set 3 _).congr (fun j _ => by by_cases e : j = 3 <;> simp [r5, e])
theorem box4 {wr : World} {q : Nat} {kd : Int} {nm : ByteArray} {v : Value} {sh sh' : Bool} (h : wr.rowIs q 107 5 (r5 (.int .i64 kd) (.int .i64 0) (.string nm) v (.bool sh))) : (wr.setCell ⟨q, 4, none⟩ (.bool sh')).rowIs q 107 5 (r5 (.int .i64 kd) (.int .i64 0) (.string nm) v (.bool sh')) :=
 (h.set 4 _).congr (fun j hj => by
  by_cases e : j = 4
  ·subst e; rfl
  ·rw [if_neg e]; unfold r5; split; rfl; split; rfl; split; rfl; split; rfl; omega)
theorem TTP.yes {r : Option TK} {g : Nat} {tp : TypeId} {pv : Value} {w wr : World} {t : TK} {v : Value} {us : List Value} {lo : Nat} (h : r = some t) (ho : OA lo wr v t.at_ us) (hlo : w.heap.size < lo) (hk : KeptIn g (g + 1) w wr) : TTP r g tp pv w (.returned (.agg #[.int .i64 t.kd, .int .i64 t.by_, .string t.nm, v, .bool t.sh])) (((((wr.setCell ⟨w.heap.size, 0, none⟩ (.int .i64 t.kd)).setCell ⟨w.heap.size, 1, none⟩ (.int .i64 t.by_)).setCell ⟨w.heap.size, 2, none⟩ (.string t.nm)).setCell ⟨w.heap.size, 3, none⟩ v).setCell ⟨w.heap.size, 4, none⟩ (.bool t.sh)) := by
 subst h
 exact ⟨⟨v, us, rfl, ho.keep (by omega) (fun k hk _ => five_other wr w.heap.size k _ _ _ _ _ (by omega))⟩, five_kept hk w.heap.size _ _ _ _ _ (Nat.le_refl _)⟩
theorem takeTag_any (B g : Nat) (L : List UInt8) (tp : TypeId) (pv : Value) (w : World) (hE : Env B tp pv w) (hg : B ≤ g) (h : RL g L w) (hL : L.length ≤ 160) :
  Calls Tryz.prog 126 #[.pointer (some ⟨g, 0, none⟩)] w fun e w' => TTP (tagA L) g tp pv w e w' := by
 have hgl := h.cell.2.2
 have g0 := hE.b0
 have N0 := below_new w (.cells #[.int .i64 0, .int .i64 0, .string ⟨#[]⟩, .slice none 0 0, .bool false] 107)
 have R0 := row5 w 107 (.int .i64 0) (.int .i64 0) (.string ⟨#[]⟩) (.slice none 0 0) (.bool false)
 have sz0 : (w.alloc (.cells #[.int .i64 0, .int .i64 0, .string ⟨#[]⟩, .slice none 0 0, .bool false] 107)).heap.size = w.heap.size + 1 := by simp
 have N1 := below_new (w.alloc (.cells #[.int .i64 0, .int .i64 0, .string ⟨#[]⟩, .slice none 0 0, .bool false] 107)) (.cells #[.int .i64 2, .int .i64 0, .string ⟨#[]⟩, .slice none 0 0, .bool false] 107)
 have R1 := row5 (w.alloc (.cells #[.int .i64 0, .int .i64 0, .string ⟨#[]⟩, .slice none 0 0, .bool false] 107)) 107 (.int .i64 2) (.int .i64 0) (.string ⟨#[]⟩) (.slice none 0 0) (.bool false)
 rw [sz0] at R1
 have M1 := N0.trans (N1.mono (by omega))
 have T0 : Hid (TI B g tp pv w L 2 ⟨#[]⟩ (.slice none 0 0) false [] [] ((w.alloc (.cells #[.int .i64 0, .int .i64 0, .string ⟨#[]⟩, .slice none 0 0, .bool false] 107)).alloc (.cells #[.int .i64 2, .int .i64 0, .string ⟨#[]⟩, .slice none 0 0, .bool false] 107))) := Hid.mk'
  ⟨h.below M1, by omega, R1, rowB R0 N1, OA.nil _ _, by simp, hE.keep (M1.mono hE.hB), KeptIn.of_below M1⟩
 clear h hE N0 R0 N1 R1 M1
 go_enter Tryz.func126, Tryz.ntmps126
 go_wp2
 refine wp_scope_fall (JJ B g tp pv w (tagA L)) (MM g) ?_ ?_
 ·rintro l a wr ⟨hFR, R, kd, nm, v, sh, acc, us, hTI, hJ⟩
  clear T0
  obtain ⟨u, rfl⟩ := hFR.lit
  have HT := Hid.mk' hTI
  clear hFR hTI
  unfold fr
  rcases hJ with ⟨rfl, hT⟩ | ⟨rfl, rfl, rfl, rfl, rfl, rfl, hT⟩ | ⟨rfl, rfl, rfl, hfew, f, hf, hT⟩ | ⟨rfl, hT⟩
  all_goals
   have HTT := Hid.mk' hT
   clear hT
  ·-- a note
   refine ⟨_, rfl, ?_⟩
   obtain ⟨av, cv, rfl, _⟩ := HT.out.own.at
   obtain ⟨c0, c1, c2⟩ := HT.out.rl.cell
   obtain ⟨b0, b1, b2, b3, b4, b5⟩ := cells5 HT.out.box
   obtain ⟨d0, d1, d2, d3, d4, d5⟩ := cells5 HT.out.res
   have f0 := HT.out.res.frozen 0
   have f1 := HT.out.res.frozen 1
   have f2 := HT.out.res.frozen 2
   have f3 := HT.out.res.frozen 3
   have f4 := HT.out.res.frozen 4
   have t0 : wr.cell? ⟨1, 0, none⟩ = some (.iface tp pv) := HT.out.env.tag
   have KS := Tryz.strings_HasSuffix ⟨R.toArray⟩ ⟨#[45, 45, 62]⟩ wr (by rw [list_size]; have := HT.out.short; omega)
   rw [list_data, show (⟨#[45, 45, 62]⟩ : ByteArray).data.toList = [45, 45, 62] from rfl] at KS
   cases hR : Lib.hasSuffix R [45, 45, 62] with
   | true =>
    rw [hR] at KS
    have KS := Hid.mk' KS
    have E : Hid (tagA L = some ⟨4, 0, ⟨#[]⟩, [], false⟩) := Hid.mk' (HTT.out.trans (if_pos hR))
    clear HTT hR
    go_wp2_with fail
    refine KS.out.mono ?_
    rintro e w1 ⟨rfl, hw⟩
    obtain rfl := hw.symm
    go_wp2
    refine bodyPost_ret (v := .agg #[.int .i64 4, .int .i64 0, .string ⟨#[]⟩, .slice none 0 0, .bool false]) ?_ rfl ?_
    ·simp [results, Tryz.results126, go_sem, d0, d1, d2, d3, d4, d5]
    ·exact TTP.yes (t := ⟨4, 0, ⟨#[]⟩, [], false⟩) E.out (OA.nil (w.heap.size + 1) wr) (by omega) HT.out.kp
   | false =>
    rw [hR] at KS
    have KS := Hid.mk' KS
    have E : Hid (tagA L = none) := Hid.mk' (HTT.out.trans (if_neg (by rw [hR]; decide)))
    clear HTT hR
    go_wp2_with fail
    refine KS.out.mono ?_
    rintro e w1 ⟨rfl, hw⟩
    obtain rfl := hw.symm
    go_wp2
    exact ⟨rfl, TTP.no E.out HT.out.kp⟩
  ·-- an end
   refine ⟨_, rfl, ?_⟩
   have g' := HT.out.box.frozen 0
   obtain ⟨b0, b1, b2, b3, b4, b5⟩ := cells5 HT.out.box
   have T1 := Hid.mk' (HT.out.turn hgl 0 (.int .i64 3) (box0 (kd' := 3) HT.out.box) HT.out.own (by simp) hg)
   by_cases hn : 1 ≤ spn pL R ∧ spn pL R ≤ 8
   rotate_left
   ·have E : Hid (tagA L = none) := Hid.mk' (HTT.out.trans (if_neg (fun h => hn h.1)))
    go_wp2_with fail
    generalize wr.setCell ⟨w.heap.size + 1, 0, none⟩ (.int .i64 3) = w1 at *
    refine (takeName_no g R w1 tp pv T1.out.rl (by have := T1.out.short; omega) hn T1.out.env.tag).mono ?_
    rintro e w2 ⟨rfl, hk⟩
    have K2 := Hid.mk' (T1.out.kp.trans hk)
    clear hk
    go_wp2
    exact ⟨rfl, TTP.no E.out K2.out⟩
   have HTT : Hid (tagA L = if R.drop (spn pL R) = [62] then some ⟨3, 0, ⟨(R.take (spn pL R)).toArray⟩, [], false⟩ else none) := Hid.mk' (HTT.out.trans (by
    by_cases h : R.drop (spn pL R) = [62]
    ·rw [if_pos ⟨hn, h⟩, if_pos h]
    ·rw [if_neg (fun x => h x.2), if_neg h]))
   go_wp2_with fail
   generalize wr.setCell ⟨w.heap.size + 1, 0, none⟩ (.int .i64 3) = w1 at *
   refine (takeName_yes g R w1 T1.out.rl (by have := T1.out.short; omega) hn).mono ?_
   rintro e w2 ⟨rfl, hr2, hk2⟩
   have T2 := Hid.mk' (T1.out.move hgl hg hr2 (by rw [List.length_drop]; have := T1.out.short; omega) hk2)
   have T3 := Hid.mk' (T2.out.turn hgl 2 (.string ⟨(R.take (spn pL R)).toArray⟩) (box2 (nm' := ⟨(R.take (spn pL R)).toArray⟩) T2.out.box) T2.out.own (by simp) hg)
   have h' := T2.out.box.frozen 2
   have q2 := (cells5 T2.out.box).2.2.1
   have q5 := T2.out.box.lt
   clear hr2 hk2 T1 b0 b1 b2 b3 b4 b5 g' HT
   generalize R.drop (spn pL R) = R2 at *
   generalize (⟨(R.take (spn pL R)).toArray⟩ : ByteArray) = nm2 at *
   go_wp2
   go_step3
   generalize w2.setCell ⟨w.heap.size + 1, 2, none⟩ (.string nm2) = w3 at *
   have HT := T3
   clear T2 T3 h' q2 q5
   obtain ⟨c0, c1, c2⟩ := HT.out.rl.cell
   obtain ⟨b0, b1, b2, b3, b4, b5⟩ := cells5 HT.out.box
   obtain ⟨d0, d1, d2, d3, d4, d5⟩ := cells5 HT.out.res
   have f0 := HT.out.res.frozen 0
   have f1 := HT.out.res.frozen 1
   have f2 := HT.out.res.frozen 2
   have f3 := HT.out.res.frozen 3
   have f4 := HT.out.res.frozen 4
   have t0 : w3.cell? ⟨1, 0, none⟩ = some (.iface tp pv) := HT.out.env.tag
   by_cases hR : R2 = [62]
   ·have E : Hid (tagA L = some ⟨3, 0, nm2, [], false⟩) := Hid.mk' (HTT.out.trans (if_pos hR))
    have er : (R2 == [62]) = true := by rw [beq62]; exact decide_eq_true hR
    clear HTT hR
    go_wp2
    refine bodyPost_ret (v := .agg #[.int .i64 3, .int .i64 0, .string nm2, .slice none 0 0, .bool false]) ?_ rfl ?_
    ·simp [results, Tryz.results126, go_sem, d0, d1, d2, d3, d4, d5]
    ·exact TTP.yes (t := ⟨3, 0, nm2, [], false⟩) E.out HT.out.own (by omega) HT.out.kp
   ·have E : Hid (tagA L = none) := Hid.mk' (HTT.out.trans (if_neg hR))
    have er : (R2 == [62]) = false := by rw [beq62]; exact decide_eq_false hR
    clear HTT hR
    go_wp2
    exact ⟨rfl, TTP.no E.out HT.out.kp⟩
  ·-- inside
   refine ⟨_, rfl, ?_⟩
   obtain ⟨f, rfl⟩ : ∃ f', f = f' + 1 := ⟨f - 1, by omega⟩
   have IS := Hid.mk' (inside_steps f R acc)
   have KB := Hid.mk' (skipBlanks_any g R wr HT.out.rl)
   have short := HT.out.short
   have MU : Hid (MM g 2 (fr g w.heap.size (w.heap.size + 1) u) wr = R.length + 2) := Hid.mk' (by unfold MM; rw [if_pos rfl, HT.out.rl.cell.1]; simp [ByteArray.size])
   go_wp2_with fail
   refine KB.out.mono ?_
   rintro e w1 ⟨rfl, hr1, hk1⟩
   have T1 := Hid.mk' (HT.out.move hgl hg hr1 (by rw [List.length_drop]; omega) hk1)
   clear hr1 hk1 KB
   generalize hb : spn pB R = b at *
   have KS := skip_any g (R.drop b) [47] w1 T1.out.rl
   cases h47 : Lib.hasPrefix (R.drop b) [47] with
   | true =>
    have IS := Hid.mk' (IS.out.trans (if_pos h47))
    rw [trim1 _ _ h47, h47, List.drop_drop] at KS
    have KS := Hid.mk' KS
    clear h47
    go_wp2_with fail
    refine KS.out.mono ?_
    rintro e w2 ⟨rfl, hr2, hk2⟩
    have hr2 : RL g (R.drop (b + 1)) w2 := hr2
    have T2 := Hid.mk' (T1.out.move hgl hg hr2 (by rw [List.length_drop]; omega) hk2)
    have T3 := Hid.mk' (T2.out.turn hgl 4 (.bool true) (box4 (sh' := true) T2.out.box) T2.out.own T2.out.few hg)
    have h' := T2.out.box.frozen 4
    have q2 := (cells5 T2.out.box).2.2.2.2.1
    have q5 := T2.out.box.lt
    clear hr2 hk2 KS T1
    go_wp2
    go_step3
    have TE : tagA L = (if R.drop (b + 1) = [62] then some ⟨2, 0, nm, acc, true⟩ else none) := by
     rw [HTT.out, IS.out]
     by_cases h : R.drop (b + 1) = [62]
     ·rw [if_pos h, if_pos h]
     ·rw [if_neg h, if_neg h]
    exact ⟨⟨⟨rfl, rfl, rfl, rfl, rfl⟩, R.drop (b + 1), 2, nm, _, true, acc, us, T3.out, .inr (.inr (.inr ⟨rfl, TE⟩))⟩, by show MM g 3 _ _ < MM g 2 (fr g w.heap.size (w.heap.size + 1) u) wr; rw [MU.out]; simp [MM]⟩
   | false =>
    have IS := Hid.mk' (IS.out.trans (if_neg (by rw [h47]; decide)))
    rw [trim0 _ _ h47, h47] at KS
    have KS := Hid.mk' KS
    clear h47
    go_wp2_with fail
    refine KS.out.mono ?_
    rintro e w2 ⟨rfl, hr2, hk2⟩
    have T2 := Hid.mk' (T1.out.move hgl hg hr2 (by rw [List.length_drop]; omega) hk2)
    obtain ⟨c0, c1, c2⟩ := hr2.cell
    have KP := Tryz.strings_HasPrefix ⟨(R.drop b).toArray⟩ ⟨#[62]⟩ w2
    rw [list_data, show (⟨#[62]⟩ : ByteArray).data.toList = [62] from rfl] at KP
    clear hr2 hk2 KS T1
    cases h62 : Lib.hasPrefix (R.drop b) [62] with
    | true =>
     have IS := Hid.mk' (IS.out.trans (if_pos h62))
     rw [h62] at KP
     have KP := Hid.mk' KP
     clear h62
     go_wp2_with fail
     refine KP.out.mono ?_
     rintro e w3 ⟨rfl, hw⟩
     obtain rfl := hw.symm
     go_wp2
     go_step3
     have TE : tagA L = (if R.drop b = [62] then some ⟨2, 0, nm, acc, false⟩ else none) := by
      rw [HTT.out, IS.out]
      by_cases h : R.drop b = [62]
      ·rw [if_pos h, if_pos h]
      ·rw [if_neg h, if_neg h]
     exact ⟨⟨⟨rfl, rfl, rfl, rfl, rfl⟩, R.drop b, 2, nm, _, false, acc, us, T2.out, .inr (.inr (.inr ⟨rfl, TE⟩))⟩, by show MM g 3 _ _ < MM g 2 (fr g w.heap.size (w.heap.size + 1) u) wr; rw [MU.out]; simp [MM]⟩
    | false =>
     have IS := Hid.mk' (IS.out.trans (if_neg (by rw [h62]; decide)))
     rw [h62] at KP
     have KP := Hid.mk' KP
     clear h62
     by_cases hb0 : b = 0
     ·have E : Hid (tagA L = none) := Hid.mk' (by rw [HTT.out, IS.out, if_pos hb0])
      have t0 : w2.cell? ⟨1, 0, none⟩ = some (.iface tp pv) := T2.out.env.tag
      have z0 : decide (0 < b) = false := by simp; omega
      clear hb0
      go_wp2_with fail
      refine KP.out.mono ?_
      rintro e w3 ⟨rfl, hw⟩
      obtain rfl := hw.symm
      go_wp2
      exact ⟨rfl, TTP.no E.out T2.out.kp⟩
     have IS := Hid.mk' (IS.out.trans (if_neg hb0))
     have z0 : decide (0 < b) = true := by simp; omega
     have ble : b ≤ R.length := by rw [← hb]; exact spn_le _ _
     have KA := takeAttr_any B g (R.drop b) tp pv w2.drew T2.out.env.drew hg T2.out.rl.drew (by rw [List.length_drop]; omega)
     obtain ⟨av, cv, rfl, _⟩ := T2.out.own.at
     obtain ⟨b0, b1, b2, b3, b4, c5⟩ := cells5 T2.out.box
     clear b0 b1 b2 b4
     go_wp2_with fail
     refine KP.out.mono ?_
     rintro e w3 ⟨rfl, hw⟩
     obtain rfl := hw.symm
     go_wp2
     cases hA : attrA (R.drop b) with
     | none =>
      rw [hA] at KA
      have KV : Hid (Calls Tryz.prog 144 #[.pointer (some ⟨g, 0, none⟩)] w2.drew fun e w' => e = boom tp pv ∧ KeptIn g (g + 1) w2.drew w') := Hid.mk' KA
      have E : Hid (tagA L = none) := Hid.mk' (by rw [HTT.out, IS.out, hA])
      clear KA hA
      refine wp_region_held_drew (S := fun _ => True) (by kernel_rfl) trivial (fun hHeld => ?_)
      refine tkY 0 ?_
      refine tkY 2 ?_
      refine wpAnyH_ready (rs := [1, 3]) (by kernel_rfl) (by simp) ?_
      refine AllReadyH.cons (o := ⟨_, _, _, _, _, _⟩) rfl (fun K hK => ?_) (AllReadyH.cons (o := ⟨_, _, _, _, _, _⟩) rfl (fun K hK => ?_) AllReadyH.nil)
      ·go_simp
       refine hK.out _ _ trivial (fun hHeld => ?_)
       clear hK K
       try simp only [Act.put, zA, zB, zC]
       refine wpAnyH_ready (rs := [3]) (by kernel_rfl) (by simp) ?_
       refine AllReadyH.cons (o := ⟨_, _, _, _, _, _⟩) rfl (fun K hK => ?_) AllReadyH.nil
       go_simp
       go_at_call 144
       refine KV.out.mono ?_
       rintro e w4 ⟨rfl, hk⟩
       exact ⟨rfl, TTP.no E.out (T2.out.kp.trans (undrewK hk))⟩
      ·go_simp
       go_at_call 144
       refine KV.out.mono ?_
       rintro e w4 ⟨rfl, hk⟩
       exact ⟨rfl, TTP.no E.out (T2.out.kp.trans (undrewK hk))⟩
     | some r =>
      obtain ⟨a1, n1⟩ := r
      rw [hA] at KA
      have KV : Hid (Calls Tryz.prog 144 #[.pointer (some ⟨g, 0, none⟩)] w2.drew fun e w' => (∃ u, e = .returned (.agg #[.string a1.nm, u]) ∧ OB w' u a1.vl ∧ In w2.drew.heap.size w'.heap.size u ∧ RL g ((R.drop b).drop n1) w') ∧ KeptIn g (g + 1) w2.drew w') := Hid.mk' KA
      have IS : Hid (insideA (f + 1) R acc = insideA f (R.drop (b + n1)) (addA acc a1)) := Hid.mk' (by rw [IS.out, hA])
      obtain ⟨n3, nle, nm8, szl⟩ := attrA_len hA
      rw [List.length_drop] at nle szl
      rw [List.drop_drop] at KV
      clear KA hA
      refine wp_region_held_drew (S := fun _ => True) (by kernel_rfl) trivial (fun hHeld => ?_)
      refine tkY 0 ?_
      refine tkY 2 ?_
      refine wpAnyH_ready (rs := [1, 3]) (by kernel_rfl) (by simp) ?_
      refine AllReadyH.cons (o := ⟨_, _, _, _, _, _⟩) rfl (fun K hK => ?_) (AllReadyH.cons (o := ⟨_, _, _, _, _, _⟩) rfl (fun K hK => ?_) AllReadyH.nil)
      ·go_simp
       refine hK.out _ _ trivial (fun hHeld => ?_)
       clear hK K
       try simp only [Act.put, zA, zB, zC]
       refine wpAnyH_ready (rs := [3]) (by kernel_rfl) (by simp) ?_
       refine AllReadyH.cons (o := ⟨_, _, _, _, _, _⟩) rfl (fun K hK => ?_) AllReadyH.nil
       go_simp
       go_at_call 144
       refine KV.out.mono ?_
       rintro e w4 ⟨⟨ux, rfl, hob, hin, hr4⟩, hk4⟩
       have hk4 := undrewK hk4
       have x4 : w4.cell? ⟨w.heap.size + 1, 3, none⟩ = some (.slice av acc.length cv) := (World.cell?_of_block (hk4.block _ (show w.heap.size + 1 < w2.heap.size from c5) (.inr (show g + 1 ≤ w.heap.size + 1 by omega)))).trans b3
       have KW := Hid.mk' (withAttr_any (w.heap.size + 1 + 1) w2 w4 (.slice av acc.length cv) ux acc us a1 T2.out.own hk4.size (fun k h1 h2 => hk4.block k h2 (.inr (by omega))) hob (fun k e => (hin k e).1) (show w.heap.size + 1 + 1 ≤ w2.heap.size from c5) (by have := T2.out.few; omega))
       have T4 := Hid.mk' (T2.out.move hgl hg hr4 (by rw [List.length_drop]; omega) hk4)
       clear hob hin hr4 hk4
       refine hK.out _ _ trivial (fun hHeld => ?_)
       clear hK K
       try simp only [Act.put, zA, zB, zC]
       refine wpAnyH_ready (rs := [4]) (by kernel_rfl) (by simp) ?_
       refine AllReadyH.cons (o := ⟨_, _, _, _, _, _⟩) rfl (fun K hK => ?_) AllReadyH.nil
       go_simp
       go_at_call 143
       refine KW.out.mono ?_
       rintro e w5 ⟨v5, us5, rfl, ho5, hb5⟩
       obtain ⟨a5, q5, rfl, _⟩ := ho5.at
       have BX5 := T4.out.box.of_block (hb5.block _ (show w.heap.size + 1 < w.heap.size + 1 + 1 by omega))
       have y0 := BX5.frozen 3
       have y1 := (cells5 BX5).2.2.2.1
       have y2 := BX5.lt
       have T5 := Hid.mk' (T4.out.app hgl hg hb5 ho5 (by have := addA_len acc a1; omega) (box3 BX5))
       clear ho5 hb5 BX5
       refine hK.out _ _ trivial (fun hHeld => ?_)
       clear hK K
       try simp only [Act.put, zA, zB, zC]
       refine tkY 5 ?_
       refine wpAnyH_ready (rs := [6]) (by kernel_rfl) (by simp) ?_
       refine AllReadyH.cons (o := ⟨_, _, _, _, _, _⟩) rfl (fun K hK => ?_) AllReadyH.nil
       go_simp
       refine hK.out _ _ trivial (fun hHeld => ?_)
       clear hK K
       try simp only [Act.put, zA, zB, zC]
       refine wpAnyH_done (by kernel_rfl) ?_ _
       go_wp2
       go_step3
       have TE : tagA L = (match insideA f (R.drop (b + n1)) (addA acc a1) with | none => none | some (x, y) => some ⟨2, 0, nm, x, y⟩) := by rw [HTT.out, IS.out]
       exact ⟨⟨⟨rfl, rfl, rfl, rfl, rfl⟩, R.drop (b + n1), 2, nm, _, false, addA acc a1, us5, T5.out, .inr (.inr (.inl ⟨rfl, rfl, rfl, by have := addA_len acc a1; rw [List.length_drop]; omega, f, by rw [List.length_drop]; omega, TE⟩))⟩, by show MM g 2 _ _ < MM g 2 (fr g w.heap.size (w.heap.size + 1) u) wr; rw [MU.out]; unfold MM; rw [if_pos rfl, T5.out.rl.cell.1]; show (⟨(R.drop (b + n1)).toArray⟩ : ByteArray).size + 2 < _; rw [list_size, List.length_drop]; omega⟩
      ·go_simp
       go_at_call 144
       refine KV.out.mono ?_
       rintro e w4 ⟨⟨ux, rfl, hob, hin, hr4⟩, hk4⟩
       have hk4 := undrewK hk4
       have x4 : w4.cell? ⟨w.heap.size + 1, 3, none⟩ = some (.slice av acc.length cv) := (World.cell?_of_block (hk4.block _ (show w.heap.size + 1 < w2.heap.size from c5) (.inr (show g + 1 ≤ w.heap.size + 1 by omega)))).trans b3
       have KW := Hid.mk' (withAttr_any (w.heap.size + 1 + 1) w2 w4 (.slice av acc.length cv) ux acc us a1 T2.out.own hk4.size (fun k h1 h2 => hk4.block k h2 (.inr (by omega))) hob (fun k e => (hin k e).1) (show w.heap.size + 1 + 1 ≤ w2.heap.size from c5) (by have := T2.out.few; omega))
       have T4 := Hid.mk' (T2.out.move hgl hg hr4 (by rw [List.length_drop]; omega) hk4)
       clear hob hin hr4 hk4
       refine hK.out _ _ trivial (fun hHeld => ?_)
       clear hK K
       try simp only [Act.put, zA, zB, zC]
       refine wpAnyH_ready (rs := [1]) (by kernel_rfl) (by simp) ?_
       refine AllReadyH.cons (o := ⟨_, _, _, _, _, _⟩) rfl (fun K hK => ?_) AllReadyH.nil
       go_simp
       refine hK.out _ _ trivial (fun hHeld => ?_)
       clear hK K
       try simp only [Act.put, zA, zB, zC]
       refine wpAnyH_ready (rs := [4]) (by kernel_rfl) (by simp) ?_
       refine AllReadyH.cons (o := ⟨_, _, _, _, _, _⟩) rfl (fun K hK => ?_) AllReadyH.nil
       go_simp
       go_at_call 143
       refine KW.out.mono ?_
       rintro e w5 ⟨v5, us5, rfl, ho5, hb5⟩
       obtain ⟨a5, q5, rfl, _⟩ := ho5.at
       have BX5 := T4.out.box.of_block (hb5.block _ (show w.heap.size + 1 < w.heap.size + 1 + 1 by omega))
       have y0 := BX5.frozen 3
       have y1 := (cells5 BX5).2.2.2.1
       have y2 := BX5.lt
       have T5 := Hid.mk' (T4.out.app hgl hg hb5 ho5 (by have := addA_len acc a1; omega) (box3 BX5))
       clear ho5 hb5 BX5
       refine hK.out _ _ trivial (fun hHeld => ?_)
       clear hK K
       try simp only [Act.put, zA, zB, zC]
       refine tkY 5 ?_
       refine wpAnyH_ready (rs := [6]) (by kernel_rfl) (by simp) ?_
       refine AllReadyH.cons (o := ⟨_, _, _, _, _, _⟩) rfl (fun K hK => ?_) AllReadyH.nil
       go_simp
       refine hK.out _ _ trivial (fun hHeld => ?_)
       clear hK K
       try simp only [Act.put, zA, zB, zC]
       refine wpAnyH_done (by kernel_rfl) ?_ _
       go_wp2
       go_step3
       have TE : tagA L = (match insideA f (R.drop (b + n1)) (addA acc a1) with | none => none | some (x, y) => some ⟨2, 0, nm, x, y⟩) := by rw [HTT.out, IS.out]
       exact ⟨⟨⟨rfl, rfl, rfl, rfl, rfl⟩, R.drop (b + n1), 2, nm, _, false, addA acc a1, us5, T5.out, .inr (.inr (.inl ⟨rfl, rfl, rfl, by have := addA_len acc a1; rw [List.length_drop]; omega, f, by rw [List.length_drop]; omega, TE⟩))⟩, by show MM g 2 _ _ < MM g 2 (fr g w.heap.size (w.heap.size + 1) u) wr; rw [MU.out]; unfold MM; rw [if_pos rfl, T5.out.rl.cell.1]; show (⟨(R.drop (b + n1)).toArray⟩ : ByteArray).size + 2 < _; rw [list_size, List.length_drop]; omega⟩
  ·-- the last one
   refine ⟨_, rfl, ?_⟩
   obtain ⟨av, cv, rfl, _⟩ := HT.out.own.at
   obtain ⟨c0, c1, c2⟩ := HT.out.rl.cell
   obtain ⟨b0, b1, b2, b3, b4, b5⟩ := cells5 HT.out.box
   obtain ⟨d0, d1, d2, d3, d4, d5⟩ := cells5 HT.out.res
   have f0 := HT.out.res.frozen 0
   have f1 := HT.out.res.frozen 1
   have f2 := HT.out.res.frozen 2
   have f3 := HT.out.res.frozen 3
   have f4 := HT.out.res.frozen 4
   have t0 : wr.cell? ⟨1, 0, none⟩ = some (.iface tp pv) := HT.out.env.tag
   by_cases hR : R = [62]
   ·have E : Hid (tagA L = some ⟨kd, 0, nm, acc, sh⟩) := Hid.mk' (HTT.out.trans (if_pos hR))
    have er : (R == [62]) = true := by rw [beq62]; exact decide_eq_true hR
    clear HTT hR
    go_wp2
    refine bodyPost_ret (v := .agg #[.int .i64 kd, .int .i64 0, .string nm, .slice av acc.length cv, .bool sh]) ?_ rfl ?_
    ·simp [results, Tryz.results126, go_sem, d0, d1, d2, d3, d4, d5]
    ·exact TTP.yes (t := ⟨kd, 0, nm, acc, sh⟩) E.out HT.out.own (by omega) HT.out.kp
   ·have E : Hid (tagA L = none) := Hid.mk' (HTT.out.trans (if_neg hR))
    have er : (R == [62]) = false := by rw [beq62]; exact decide_eq_false hR
    clear HTT hR
    go_wp2
    exact ⟨rfl, TTP.no E.out HT.out.kp⟩
 ·intro hpass
  have TS := Hid.mk' (tagA_steps L)
  have HE0 := T0.out.env.tag
  go_wp2_with fail
  generalize (w.alloc (.cells #[.int .i64 0, .int .i64 0, .string ⟨#[]⟩, .slice none 0 0, .bool false] 107)).alloc (.cells #[.int .i64 2, .int .i64 0, .string ⟨#[]⟩, .slice none 0 0, .bool false] 107) = W0 at *
  cases h60 : Lib.hasPrefix L [60] with
  | false =>
   have E : Hid (tagA L = none) := Hid.mk' (TS.out.trans (if_neg (by rw [h60]; decide)))
   refine (take_no g L [60] W0 tp pv T0.out.rl h60 (by omega) T0.out.env.tag).mono ?_
   rintro e w1 ⟨rfl, hk⟩
   have K2 := Hid.mk' (T0.out.kp.trans hk)
   clear hk
   go_wp2
   exact ⟨rfl, TTP.no E.out K2.out⟩
  | true =>
   have TS := Hid.mk' (TS.out.trans (if_pos h60))
   have KT := take_yes g L [60] W0 T0.out.rl h60
   rw [trim1 _ _ h60] at KT
   have KT := Hid.mk' KT
   clear h60
   refine KT.out.mono ?_
   rintro e w1 ⟨rfl, hr1, hk1⟩
   have hr1 : RL g (L.drop 1) w1 := hr1
   have T1 := Hid.mk' (T0.out.move hgl hg hr1 (by rw [List.length_drop]; omega) hk1)
   have KS := skip_any g (L.drop 1) [33, 45, 45] w1 hr1
   clear hr1 hk1 KT T0 HE0
   cases h33 : Lib.hasPrefix (L.drop 1) [33, 45, 45] with
   | true =>
    have TS := Hid.mk' (TS.out.trans (if_pos h33))
    rw [trim1 _ _ h33, h33, List.drop_drop] at KS
    have KS := Hid.mk' KS
    clear h33
    go_wp2_with fail
    refine KS.out.mono ?_
    rintro e w2 ⟨rfl, hr2, hk2⟩
    have hr2 : RL g (L.drop 4) w2 := hr2
    have T2 := Hid.mk' (T1.out.move hgl hg hr2 (by rw [List.length_drop]; omega) hk2)
    clear hr2 hk2 KS T1
    go_wp2
    go_step3
    exact ⟨⟨rfl, rfl, rfl, rfl, rfl⟩, L.drop 4, 2, _, _, _, _, _, T2.out, .inl ⟨rfl, TS.out⟩⟩
   | false =>
    have TS := Hid.mk' (TS.out.trans (if_neg (by rw [h33]; decide)))
    rw [trim0 _ _ h33, h33] at KS
    have KS := Hid.mk' KS
    clear h33
    go_wp2_with fail
    refine KS.out.mono ?_
    rintro e w2 ⟨rfl, hr2, hk2⟩
    have T2 := Hid.mk' (T1.out.move hgl hg hr2 (by rw [List.length_drop]; omega) hk2)
    have KS := skip_any g (L.drop 1) [47] w2 hr2
    clear hr2 hk2 T1
    cases h47 : Lib.hasPrefix (L.drop 1) [47] with
    | true =>
     have TS := Hid.mk' (TS.out.trans (if_pos h47))
     rw [trim1 _ _ h47, h47, List.drop_drop] at KS
     have KS := Hid.mk' KS
     clear h47
     go_wp2_with fail
     refine KS.out.mono ?_
     rintro e w3 ⟨rfl, hr3, hk3⟩
     have hr3 : RL g (L.drop 2) w3 := hr3
     have T3 := Hid.mk' (T2.out.move hgl hg hr3 (by rw [List.length_drop]; omega) hk3)
     clear hr3 hk3 KS T2
     go_wp2
     go_step3
     exact ⟨⟨rfl, rfl, rfl, rfl, rfl⟩, L.drop 2, 2, _, _, _, _, _, T3.out, .inr (.inl ⟨rfl, rfl, rfl, rfl, rfl, rfl, TS.out⟩)⟩
    | false =>
     have TS := Hid.mk' (TS.out.trans (if_neg (by rw [h47]; decide)))
     rw [trim0 _ _ h47, h47] at KS
     have KS := Hid.mk' KS
     clear h47
     go_wp2_with fail
     refine KS.out.mono ?_
     rintro e w3 ⟨rfl, hr3, hk3⟩
     have T3 := Hid.mk' (T2.out.move hgl hg hr3 (by rw [List.length_drop]; omega) hk3)
     clear hr3 hk3 KS T2
     by_cases hn : 1 ≤ spn pL (L.drop 1) ∧ spn pL (L.drop 1) ≤ 8
     rotate_left
     ·have E : Hid (tagA L = none) := Hid.mk' (TS.out.trans (if_neg hn))
      go_wp2_with fail
      refine (takeName_no g (L.drop 1) w3 tp pv T3.out.rl (by rw [List.length_drop]; omega) hn T3.out.env.tag).mono ?_
      rintro e w4 ⟨rfl, hk⟩
      have K2 := Hid.mk' (T3.out.kp.trans hk)
      clear hk
      go_wp2
      exact ⟨rfl, TTP.no E.out K2.out⟩
     have TS := Hid.mk' (TS.out.trans (if_pos hn))
     go_wp2_with fail
     refine (takeName_yes g (L.drop 1) w3 T3.out.rl (by rw [List.length_drop]; omega) hn).mono ?_
     rintro e w4 ⟨rfl, hr4, hk4⟩
     have T4 := Hid.mk' (T3.out.move hgl hg hr4 (by rw [List.length_drop, List.length_drop]; omega) hk4)
     have T5 := Hid.mk' (T4.out.turn hgl 2 (.string ⟨((L.drop 1).take (spn pL (L.drop 1))).toArray⟩) (box2 (nm' := ⟨((L.drop 1).take (spn pL (L.drop 1))).toArray⟩) T4.out.box) T4.out.own (by simp) hg)
     have h' := T4.out.box.frozen 2
     have q2 := (cells5 T4.out.box).2.2.1
     have q5 := T4.out.box.lt
     have lR : ((L.drop 1).drop (spn pL (L.drop 1))).length ≤ L.length := by rw [List.length_drop, List.length_drop]; omega
     clear hr4 hk4 T3
     generalize hR2 : (L.drop 1).drop (spn pL (L.drop 1)) = R2 at *
     generalize hnm2 : (⟨((L.drop 1).take (spn pL (L.drop 1))).toArray⟩ : ByteArray) = nm2 at *
     clear hR2 hnm2
     go_wp2
     go_step3
     generalize w4.setCell ⟨w.heap.size + 1, 2, none⟩ (.string nm2) = w5 at *
     clear T4 h' q2 q5
     have PK : ∃ (R : List UInt8) (nm : ByteArray) (v : Value) (acc : List AT) (us : List Value) (f : Nat), TI B g tp pv w R 2 nm v false acc us w5 ∧ acc.length + R.length ≤ 200 ∧ R.length < f ∧ tagA L = (match insideA f R acc with | none => none | some (x, y) => some ⟨2, 0, nm, x, y⟩) := ⟨R2, nm2, _, [], [], L.length + 1, T5.out, by simp; omega, by omega, TS.out⟩
     clear T5 TS lR hn
     obtain ⟨R, nm, v, acc, us, f, hTI, hfew, hf, hT⟩ := PK
     have HT := Hid.mk' hTI
     have HTT := Hid.mk' hT
     clear hTI hT hpass
     generalize w5 = wr at *
     obtain ⟨f, rfl⟩ : ∃ f', f = f' + 1 := ⟨f - 1, by omega⟩
     have IS := Hid.mk' (inside_steps f R acc)
     have KB := Hid.mk' (skipBlanks_any g R wr HT.out.rl)
     have short := HT.out.short
     go_wp2_with fail
     refine KB.out.mono ?_
     rintro e w1 ⟨rfl, hr1, hk1⟩
     have T1 := Hid.mk' (HT.out.move hgl hg hr1 (by rw [List.length_drop]; omega) hk1)
     clear hr1 hk1 KB
     generalize hb : spn pB R = b at *
     have KS := skip_any g (R.drop b) [47] w1 T1.out.rl
     cases h47 : Lib.hasPrefix (R.drop b) [47] with
     | true =>
      have IS := Hid.mk' (IS.out.trans (if_pos h47))
      rw [trim1 _ _ h47, h47, List.drop_drop] at KS
      have KS := Hid.mk' KS
      clear h47
      go_wp2_with fail
      refine KS.out.mono ?_
      rintro e w2 ⟨rfl, hr2, hk2⟩
      have hr2 : RL g (R.drop (b + 1)) w2 := hr2
      have T2 := Hid.mk' (T1.out.move hgl hg hr2 (by rw [List.length_drop]; omega) hk2)
      have T3 := Hid.mk' (T2.out.turn hgl 4 (.bool true) (box4 (sh' := true) T2.out.box) T2.out.own T2.out.few hg)
      have h' := T2.out.box.frozen 4
      have q2 := (cells5 T2.out.box).2.2.2.2.1
      have q5 := T2.out.box.lt
      clear hr2 hk2 KS T1
      go_wp2
      go_step3
      have TE : tagA L = (if R.drop (b + 1) = [62] then some ⟨2, 0, nm, acc, true⟩ else none) := by
       rw [HTT.out, IS.out]
       by_cases h : R.drop (b + 1) = [62]
       ·rw [if_pos h, if_pos h]
       ·rw [if_neg h, if_neg h]
      exact ⟨⟨rfl, rfl, rfl, rfl, rfl⟩, R.drop (b + 1), 2, nm, _, true, acc, us, T3.out, .inr (.inr (.inr ⟨rfl, TE⟩))⟩
     | false =>
      have IS := Hid.mk' (IS.out.trans (if_neg (by rw [h47]; decide)))
      rw [trim0 _ _ h47, h47] at KS
      have KS := Hid.mk' KS
      clear h47
      go_wp2_with fail
      refine KS.out.mono ?_
      rintro e w2 ⟨rfl, hr2, hk2⟩
      have T2 := Hid.mk' (T1.out.move hgl hg hr2 (by rw [List.length_drop]; omega) hk2)
      obtain ⟨c0, c1, c2⟩ := hr2.cell
      have KP := Tryz.strings_HasPrefix ⟨(R.drop b).toArray⟩ ⟨#[62]⟩ w2
      rw [list_data, show (⟨#[62]⟩ : ByteArray).data.toList = [62] from rfl] at KP
      clear hr2 hk2 KS T1
      cases h62 : Lib.hasPrefix (R.drop b) [62] with
      | true =>
       have IS := Hid.mk' (IS.out.trans (if_pos h62))
       rw [h62] at KP
       have KP := Hid.mk' KP
       clear h62
       go_wp2_with fail
       refine KP.out.mono ?_
       rintro e w3 ⟨rfl, hw⟩
       obtain rfl := hw.symm
       go_wp2
       go_step3
       have TE : tagA L = (if R.drop b = [62] then some ⟨2, 0, nm, acc, false⟩ else none) := by
        rw [HTT.out, IS.out]
        by_cases h : R.drop b = [62]
        ·rw [if_pos h, if_pos h]
        ·rw [if_neg h, if_neg h]
       exact ⟨⟨rfl, rfl, rfl, rfl, rfl⟩, R.drop b, 2, nm, _, false, acc, us, T2.out, .inr (.inr (.inr ⟨rfl, TE⟩))⟩
      | false =>
       have IS := Hid.mk' (IS.out.trans (if_neg (by rw [h62]; decide)))
       rw [h62] at KP
       have KP := Hid.mk' KP
       clear h62
       by_cases hb0 : b = 0
       ·have E : Hid (tagA L = none) := Hid.mk' (by rw [HTT.out, IS.out, if_pos hb0])
        have t0 : w2.cell? ⟨1, 0, none⟩ = some (.iface tp pv) := T2.out.env.tag
        have z0 : decide (0 < b) = false := by simp; omega
        clear hb0
        go_wp2_with fail
        refine KP.out.mono ?_
        rintro e w3 ⟨rfl, hw⟩
        obtain rfl := hw.symm
        go_wp2
        exact ⟨rfl, TTP.no E.out T2.out.kp⟩
       have IS := Hid.mk' (IS.out.trans (if_neg hb0))
       have z0 : decide (0 < b) = true := by simp; omega
       have ble : b ≤ R.length := by rw [← hb]; exact spn_le _ _
       have KA := takeAttr_any B g (R.drop b) tp pv w2.drew T2.out.env.drew hg T2.out.rl.drew (by rw [List.length_drop]; omega)
       obtain ⟨av, cv, rfl, _⟩ := T2.out.own.at
       obtain ⟨b0, b1, b2, b3, b4, c5⟩ := cells5 T2.out.box
       clear b0 b1 b2 b4
       go_wp2_with fail
       refine KP.out.mono ?_
       rintro e w3 ⟨rfl, hw⟩
       obtain rfl := hw.symm
       go_wp2
       cases hA : attrA (R.drop b) with
       | none =>
        rw [hA] at KA
        have KV : Hid (Calls Tryz.prog 144 #[.pointer (some ⟨g, 0, none⟩)] w2.drew fun e w' => e = boom tp pv ∧ KeptIn g (g + 1) w2.drew w') := Hid.mk' KA
        have E : Hid (tagA L = none) := Hid.mk' (by rw [HTT.out, IS.out, hA])
        clear KA hA
        refine wp_region_held_drew (S := fun _ => True) (by kernel_rfl) trivial (fun hHeld => ?_)
        refine tkY 0 ?_
        refine tkY 2 ?_
        refine wpAnyH_ready (rs := [1, 3]) (by kernel_rfl) (by simp) ?_
        refine AllReadyH.cons (o := ⟨_, _, _, _, _, _⟩) rfl (fun K hK => ?_) (AllReadyH.cons (o := ⟨_, _, _, _, _, _⟩) rfl (fun K hK => ?_) AllReadyH.nil)
        ·go_simp
         refine hK.out _ _ trivial (fun hHeld => ?_)
         clear hK K
         try simp only [Act.put, zA, zB, zC]
         refine wpAnyH_ready (rs := [3]) (by kernel_rfl) (by simp) ?_
         refine AllReadyH.cons (o := ⟨_, _, _, _, _, _⟩) rfl (fun K hK => ?_) AllReadyH.nil
         go_simp
         go_at_call 144
         refine KV.out.mono ?_
         rintro e w4 ⟨rfl, hk⟩
         exact ⟨rfl, TTP.no E.out (T2.out.kp.trans (undrewK hk))⟩
        ·go_simp
         go_at_call 144
         refine KV.out.mono ?_
         rintro e w4 ⟨rfl, hk⟩
         exact ⟨rfl, TTP.no E.out (T2.out.kp.trans (undrewK hk))⟩
       | some r =>
        obtain ⟨a1, n1⟩ := r
        rw [hA] at KA
        have KV : Hid (Calls Tryz.prog 144 #[.pointer (some ⟨g, 0, none⟩)] w2.drew fun e w' => (∃ u, e = .returned (.agg #[.string a1.nm, u]) ∧ OB w' u a1.vl ∧ In w2.drew.heap.size w'.heap.size u ∧ RL g ((R.drop b).drop n1) w') ∧ KeptIn g (g + 1) w2.drew w') := Hid.mk' KA
        have IS : Hid (insideA (f + 1) R acc = insideA f (R.drop (b + n1)) (addA acc a1)) := Hid.mk' (by rw [IS.out, hA])
        obtain ⟨n3, nle, nm8, szl⟩ := attrA_len hA
        rw [List.length_drop] at nle szl
        rw [List.drop_drop] at KV
        clear KA hA
        refine wp_region_held_drew (S := fun _ => True) (by kernel_rfl) trivial (fun hHeld => ?_)
        refine tkY 0 ?_
        refine tkY 2 ?_
        refine wpAnyH_ready (rs := [1, 3]) (by kernel_rfl) (by simp) ?_
        refine AllReadyH.cons (o := ⟨_, _, _, _, _, _⟩) rfl (fun K hK => ?_) (AllReadyH.cons (o := ⟨_, _, _, _, _, _⟩) rfl (fun K hK => ?_) AllReadyH.nil)
        ·go_simp
         refine hK.out _ _ trivial (fun hHeld => ?_)
         clear hK K
         try simp only [Act.put, zA, zB, zC]
         refine wpAnyH_ready (rs := [3]) (by kernel_rfl) (by simp) ?_
         refine AllReadyH.cons (o := ⟨_, _, _, _, _, _⟩) rfl (fun K hK => ?_) AllReadyH.nil
         go_simp
         go_at_call 144
         refine KV.out.mono ?_
         rintro e w4 ⟨⟨ux, rfl, hob, hin, hr4⟩, hk4⟩
         have hk4 := undrewK hk4
         have x4 : w4.cell? ⟨w.heap.size + 1, 3, none⟩ = some (.slice av acc.length cv) := (World.cell?_of_block (hk4.block _ (show w.heap.size + 1 < w2.heap.size from c5) (.inr (show g + 1 ≤ w.heap.size + 1 by omega)))).trans b3
         have KW := Hid.mk' (withAttr_any (w.heap.size + 1 + 1) w2 w4 (.slice av acc.length cv) ux acc us a1 T2.out.own hk4.size (fun k h1 h2 => hk4.block k h2 (.inr (by omega))) hob (fun k e => (hin k e).1) (show w.heap.size + 1 + 1 ≤ w2.heap.size from c5) (by have := T2.out.few; omega))
         have T4 := Hid.mk' (T2.out.move hgl hg hr4 (by rw [List.length_drop]; omega) hk4)
         clear hob hin hr4 hk4
         refine hK.out _ _ trivial (fun hHeld => ?_)
         clear hK K
         try simp only [Act.put, zA, zB, zC]
         refine wpAnyH_ready (rs := [4]) (by kernel_rfl) (by simp) ?_
         refine AllReadyH.cons (o := ⟨_, _, _, _, _, _⟩) rfl (fun K hK => ?_) AllReadyH.nil
         go_simp
         go_at_call 143
         refine KW.out.mono ?_
         rintro e w5 ⟨v5, us5, rfl, ho5, hb5⟩
         obtain ⟨a5, q5, rfl, _⟩ := ho5.at
         have BX5 := T4.out.box.of_block (hb5.block _ (show w.heap.size + 1 < w.heap.size + 1 + 1 by omega))
         have y0 := BX5.frozen 3
         have y1 := (cells5 BX5).2.2.2.1
         have y2 := BX5.lt
         have T5 := Hid.mk' (T4.out.app hgl hg hb5 ho5 (by have := addA_len acc a1; omega) (box3 BX5))
         clear ho5 hb5 BX5
         refine hK.out _ _ trivial (fun hHeld => ?_)
         clear hK K
         try simp only [Act.put, zA, zB, zC]
         refine tkY 5 ?_
         refine wpAnyH_ready (rs := [6]) (by kernel_rfl) (by simp) ?_
         refine AllReadyH.cons (o := ⟨_, _, _, _, _, _⟩) rfl (fun K hK => ?_) AllReadyH.nil
         go_simp
         refine hK.out _ _ trivial (fun hHeld => ?_)
         clear hK K
         try simp only [Act.put, zA, zB, zC]
         refine wpAnyH_done (by kernel_rfl) ?_ _
         go_wp2
         go_step3
         have TE : tagA L = (match insideA f (R.drop (b + n1)) (addA acc a1) with | none => none | some (x, y) => some ⟨2, 0, nm, x, y⟩) := by rw [HTT.out, IS.out]
         exact ⟨⟨rfl, rfl, rfl, rfl, rfl⟩, R.drop (b + n1), 2, nm, _, false, addA acc a1, us5, T5.out, .inr (.inr (.inl ⟨rfl, rfl, rfl, by have := addA_len acc a1; rw [List.length_drop]; omega, f, by rw [List.length_drop]; omega, TE⟩))⟩
        ·go_simp
         go_at_call 144
         refine KV.out.mono ?_
         rintro e w4 ⟨⟨ux, rfl, hob, hin, hr4⟩, hk4⟩
         have hk4 := undrewK hk4
         have x4 : w4.cell? ⟨w.heap.size + 1, 3, none⟩ = some (.slice av acc.length cv) := (World.cell?_of_block (hk4.block _ (show w.heap.size + 1 < w2.heap.size from c5) (.inr (show g + 1 ≤ w.heap.size + 1 by omega)))).trans b3
         have KW := Hid.mk' (withAttr_any (w.heap.size + 1 + 1) w2 w4 (.slice av acc.length cv) ux acc us a1 T2.out.own hk4.size (fun k h1 h2 => hk4.block k h2 (.inr (by omega))) hob (fun k e => (hin k e).1) (show w.heap.size + 1 + 1 ≤ w2.heap.size from c5) (by have := T2.out.few; omega))
         have T4 := Hid.mk' (T2.out.move hgl hg hr4 (by rw [List.length_drop]; omega) hk4)
         clear hob hin hr4 hk4
         refine hK.out _ _ trivial (fun hHeld => ?_)
         clear hK K
         try simp only [Act.put, zA, zB, zC]
         refine wpAnyH_ready (rs := [1]) (by kernel_rfl) (by simp) ?_
         refine AllReadyH.cons (o := ⟨_, _, _, _, _, _⟩) rfl (fun K hK => ?_) AllReadyH.nil
         go_simp
         refine hK.out _ _ trivial (fun hHeld => ?_)
         clear hK K
         try simp only [Act.put, zA, zB, zC]
         refine wpAnyH_ready (rs := [4]) (by kernel_rfl) (by simp) ?_
         refine AllReadyH.cons (o := ⟨_, _, _, _, _, _⟩) rfl (fun K hK => ?_) AllReadyH.nil
         go_simp
         go_at_call 143
         refine KW.out.mono ?_
         rintro e w5 ⟨v5, us5, rfl, ho5, hb5⟩
         obtain ⟨a5, q5, rfl, _⟩ := ho5.at
         have BX5 := T4.out.box.of_block (hb5.block _ (show w.heap.size + 1 < w.heap.size + 1 + 1 by omega))
         have y0 := BX5.frozen 3
         have y1 := (cells5 BX5).2.2.2.1
         have y2 := BX5.lt
         have T5 := Hid.mk' (T4.out.app hgl hg hb5 ho5 (by have := addA_len acc a1; omega) (box3 BX5))
         clear ho5 hb5 BX5
         refine hK.out _ _ trivial (fun hHeld => ?_)
         clear hK K
         try simp only [Act.put, zA, zB, zC]
         refine tkY 5 ?_
         refine wpAnyH_ready (rs := [6]) (by kernel_rfl) (by simp) ?_
         refine AllReadyH.cons (o := ⟨_, _, _, _, _, _⟩) rfl (fun K hK => ?_) AllReadyH.nil
         go_simp
         refine hK.out _ _ trivial (fun hHeld => ?_)
         clear hK K
         try simp only [Act.put, zA, zB, zC]
         refine wpAnyH_done (by kernel_rfl) ?_ _
         go_wp2
         go_step3
         have TE : tagA L = (match insideA f (R.drop (b + n1)) (addA acc a1) with | none => none | some (x, y) => some ⟨2, 0, nm, x, y⟩) := by rw [HTT.out, IS.out]
         exact ⟨⟨rfl, rfl, rfl, rfl, rfl⟩, R.drop (b + n1), 2, nm, _, false, addA acc a1, us5, T5.out, .inr (.inr (.inl ⟨rfl, rfl, rfl, by have := addA_len acc a1; rw [List.length_drop]; omega, f, by rw [List.length_drop]; omega, TE⟩))⟩

end Go.Proofs.YtlimgcmhidooaaaGreatDoor
