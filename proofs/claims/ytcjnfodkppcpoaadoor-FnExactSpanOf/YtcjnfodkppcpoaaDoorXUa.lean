/- A range over a function that itself ranges over functions: what a round may turn, what it must keep, and the statement's law. -/
import Derived.Test.YtcjnfodkppcpoaaDoorXOwn
import Derived.RangeFuncNested
import Derived.RangeFuncBound
import Derived.RangeFuncCalls
import Derived.RangeFuncLeaves
import Derived.Shelf.Abstract
import Derived.Shelf.RegionOpen
import Derived.OwnWalkIn
import Derived.TacticsInMore
import Derived.LoopNIn
import Derived.LoopIn
import Derived.Sort.LoopGhostIn
namespace Go.Proofs.YtcjnfodkppcpoaaDoor
open Go.RowKit Go.Shelf
set_option linter.unusedVariables false

/-- What is told so far, in a world, and which blocks are not to be turned. -/
abbrev Fam (α : Type) := (Nat → Prop) → List α → World → Prop

/-- The blocks of p lie as they lay. -/
structure KpS (p : Nat → Prop) (W W' : World) : Prop where
  os : W'.os = W.os
  tape : W'.tape = W.tape
  output : W'.output = W.output
  size : W.heap.size ≤ W'.heap.size
  block : ∀ k, p k → k < W.heap.size → W'.heap[k]? = W.heap[k]?

theorem KpS.refl (p : Nat → Prop) (W : World) : KpS p W W := ⟨rfl, rfl, rfl, Nat.le_refl _, fun _ _ _ => rfl⟩
theorem KpS.trans {p : Nat → Prop} {A B C : World} (h : KpS p A B) (k : KpS p B C) : KpS p A C :=
  ⟨k.os.trans h.os, k.tape.trans h.tape, k.output.trans h.output, Nat.le_trans h.size k.size, fun i hi hl => (k.block i hi (Nat.lt_of_lt_of_le hl h.size)).trans (h.block i hi hl)⟩
theorem KpS.mono {p q : Nat → Prop} {A B : World} (h : KpS p A B) (hq : ∀ k, q k → p k) : KpS q A B := ⟨h.os, h.tape, h.output, h.size, fun k hk hl => h.block k (hq k hk) hl⟩
theorem KpS.of_grown {p : Nat → Prop} {A B : World} {row : Option Nat} (h : A.grownBy B row) (hr : ∀ k, p k → some k ≠ row) : KpS p A B :=
  ⟨h.os, h.tape, h.output, h.size, fun k hk hl => h.block k hl (hr k hk)⟩
theorem grown_of_below {A B : World} (h : Below A.heap.size A B) : A.grownBy B none := ⟨h.os, h.tape, h.output, h.size, fun k hk _ => h.block k hk⟩
theorem KpS.of_below {p : Nat → Prop} {A B : World} (h : Below A.heap.size A B) : KpS p A B := .of_grown (grown_of_below h) (fun _ _ e => by cases e)
theorem KpS.below {p : Nat → Prop} {A B : World} {n : Nat} (h : KpS p A B) (hp : ∀ k, k < n → p k) (hn : n ≤ A.heap.size) : Below n A B := ⟨h.os, h.tape, h.output, h.size, fun k hk => h.block k (hp k hk) (by omega)⟩

/-- It abides new blocks, which may be guarded from then on, and the turn of what is no cells, from B on. -/
def Tol {α : Type} (B : Nat) (J : Fam α) : Prop := ∀ Pr s W W' row, J Pr s W → W.grownBy W' row → (∀ r, row = some r → B ≤ r ∧ ∃ o : Obj, W.heap[r]? = some o ∧ o.isCells = false) →
  J (fun k => Pr k ∨ (W.heap.size ≤ k ∧ k < W'.heap.size)) s W'

theorem Tol.mono {α : Type} {B B' : Nat} {J : Fam α} (h : Tol B J) (hB : B ≤ B') : Tol B' J := fun Pr s W W' row hj hg hr => h Pr s W W' row hj hg (fun r e => ⟨Nat.le_trans hB (hr r e).1, (hr r e).2⟩)

theorem Tol.put {α : Type} {B : Nat} {J : Fam α} (h : Tol B J) {Pr : Nat → Prop} {s : List α} {W : World} {l : Nat} {o : Obj} (o' : Obj) (hj : J Pr s W) (hB : B ≤ l) (hl : W.heap[l]? = some o) (ho : o.isCells = false) : J Pr s (W.putObj l o') := by
  have := h Pr s W _ (some l) hj (grownBy_putObj' W l o') (fun r e => by cases e; exact ⟨hB, o, hl, ho⟩)
  have e : (fun k => Pr k ∨ (W.heap.size ≤ k ∧ k < (W.putObj l o').heap.size)) = Pr := by
    funext k
    have hs : (W.putObj l o').heap.size = W.heap.size := by simp [World.putObj]
    rw [hs]
    exact propext ⟨fun h => h.elim id (fun h => absurd h.1 (by omega)), .inl⟩
  rwa [e] at this

theorem kps_put {p : Nat → Prop} {W : World} {l : Nat} (o : Obj) (h : ¬ p l) : KpS p W (W.putObj l o) := .of_grown (grownBy_putObj' W l o) (fun k hk e => h (by cases e; exact hk))

/-- A round, as the one who is ranged over may call it. -/
def YOk {α : Type} (P : Program) (l : Nat) (encs : α → Array Value) (B : Nat) (J Jx : Fam α) (xs : List α) : Prop :=
  ∀ m Pr pre x W, J Pr pre W → (pre ++ [x]) <+: xs → YieldAt Fence.wide m P l (encs x) W fun e W' =>
    (e = .returned (.bool true) ∧ J Pr (pre ++ [x]) W' ∧ KpS Pr W W') ∨ (e = .returned (.bool false) ∧ Jx Pr (pre ++ [x]) W' ∧ KpS (fun k => Pr k ∧ B ≤ k) W W')

/-- All of xs are told, in their order, or a part, where a round has said that it is enough. -/
def IterC {α : Type} (P : Program) (need : Nat → Prop) (gf : Nat) (lb : Array Value) (encs : α → Array Value) (xs : List α) (w0 : World) : Prop :=
  ∀ (n l : Nat) (J Jx : Fam α) (Pr : Nat → Prop) (pre : List α) (W : World), w0.grownBy W none → (∀ k, need k → Pr k) → Tol W.heap.size J → Tol W.heap.size Jx → YOk P l encs W.heap.size J Jx (pre ++ xs) → J Pr pre W →
    CallsIn Fence.wide n P gf (#[.func (.yield l) #[] #[]] ++ lb) W fun e W' => (∃ v, e = .returned v) ∧ ∃ Pr' : Nat → Prop, (∀ k, Pr k → Pr' k) ∧
      ((J Pr' (pre ++ xs) W' ∧ KpS Pr W W') ∨ (∃ q, q <+: xs ∧ Jx Pr' (pre ++ q) W' ∧ KpS (fun _ => False) W W'))

/-- How the body of a round may be left. -/
def leftM {α : Type} (B : Nat) (I : Fam α) (Ix : Code → Fam α) (Pr : Nat → Prop) (s : List α) (W : World) : Exit → Act → World → Prop
  | .normal, _, W' => I Pr s W' ∧ KpS Pr W W'
  | .ret, _, W' => Ix .ret Pr s W' ∧ KpS (fun k => Pr k ∧ B ≤ k) W W'
  | .exit i, _, W' => Ix (.exit i) Pr s W' ∧ KpS (fun k => Pr k ∧ B ≤ k) W W'
  | .goto t, _, W' => Ix (.goto t) Pr s W' ∧ KpS (fun k => Pr k ∧ B ≤ k) W W'
  | _, _, _ => False

theorem range_law {α : Type} {P : Program} {n : Nat} {g : Operand} {ps : Array Tmp} {assign body : Code} {Q : Exit → Act → World → Prop} {a : Act} {w : World}
    {gf : Nat} {lb : Array Value} (hg : a.eval g = .func (.func gf) #[] lb) (eg : ∀ args w, (callFunc gf args).run P w = .ok (.enter gf args) w)
    {encs : α → Array Value} {need : Nat → Prop} {xs : List α} (hit : IterC P need gf lb encs xs w) (hps : ∀ x, (encs x).size = ps.size)
    (I : Fam α) (Ix : Code → Fam α) (hI : Tol w.heap.size I) (hIx : ∀ c, Tol w.heap.size (Ix c)) (Pr : Nat → Prop) (hn : ∀ k, need k → Pr k) (h0 : I Pr [] w)
    (a₁ : α → Act)
    (hassign : ∀ (m l : Nat) (x : α) (W : World) (K : Act → World → Prop), K (a₁ x) W →
      assign.wpIn (Fence.wide.inRound l) m P (Exit.then K (fun _ _ _ => False)) { tmps := (ps.zip (encs x)).foldl (fun t (p, v) => t.setIfInBounds p v) a.tmps, defers := [] } W)
    (hbody : ∀ (m l : Nat) (Pr' : Nat → Prop) (pre : List α) (x : α) (W : World), (∀ k, Pr k → Pr' k) → I Pr' pre W → (pre ++ [x]) <+: xs → body.wpIn (Fence.wide.inRound l) m P (leftM w.heap.size I Ix Pr' (pre ++ [x]) W) (a₁ x) W)
    (hdone : ∀ (D : Nat) (Pr' : Nat → Prop) (W : World), w.heap.size ≤ D → D < W.heap.size → (∀ k, Pr k → Pr' k) → Pr' D → I Pr' xs W → KpS Pr w W → W.heap[D]? = some (.deferred (some [])) → Q .normal { a with defers := { target := .collected D, args := #[] } :: a.defers } W)
    (hstop : ∀ (D : Nat) (Pr' : Nat → Prop) (c : Code) (q : List α) (W : World), w.heap.size ≤ D → D < W.heap.size → (∀ k, Pr k → Pr' k) → Pr' D → q <+: xs → Ix c Pr' q W → KpS (fun _ => False) w W → W.heap[D]? = some (.deferred (some [])) → c.wpIn Fence.wide n P Q { a with defers := { target := .collected D, args := #[] } :: a.defers } W) :
    (Code.rangeFunc g ps assign body).wpIn Fence.wide n P Q a w := by
  refine wpIn_rangeFunc ?_
  intro fn hfn
  obtain ⟨rec, hrec⟩ : ∃ rec : LoopState → Option Code → Loop, rec = fun st pe => { state := st, pending := pe, fn, tmps := a.tmps, params := ps, assign, body, defers := w.heap.size } := ⟨_, rfl⟩
  have hG : w.grownBy ((w.alloc (.deferred (some []))).alloc (.loop (rec .ready none))) none := grown_of_below (((Below.refl _ w).alloc (Nat.le_refl _) _).alloc (by simp) _)
  have hL0 : ((w.alloc (.deferred (some []))).alloc (.loop (rec .ready none))).heap[w.heap.size + 1]? = some (.loop (rec .ready none)) := by
    have := World.alloc_heap_new (w.alloc (.deferred (some []))) (.loop (rec .ready none)); rwa [World.size_alloc] at this
  have hK0 : ((w.alloc (.deferred (some []))).alloc (.loop (rec .ready none))).heap[w.heap.size]? = some (.deferred (some [])) :=
    (Below.heap_alloc _ _ _ (by simp)).trans (World.alloc_heap_new w _)
  have hS0 : ((w.alloc (.deferred (some []))).alloc (.loop (rec .ready none))).heap.size = w.heap.size + 2 := by simp
  have hE0 : (Instr.enterLoop fn a.tmps ps assign body Fence.wide.round).run P w = .ok (w.heap.size + 1, [{ target := .collected w.heap.size, args := #[] }]) ((w.alloc (.deferred (some []))).alloc (.loop (rec .ready none))) := by
    rw [hrec]; exact run_enterLoop_outer _ _ _ _ _
  generalize (w.alloc (.deferred (some []))).alloc (.loop (rec .ready none)) = W1 at *
  obtain ⟨D, hD⟩ : ∃ D, w.heap.size = D := ⟨_, rfl⟩
  obtain ⟨l, hl⟩ : ∃ l, w.heap.size + 1 = l := ⟨_, rfl⟩
  refine ⟨w.heap.size + 1, _, W1, { target := .fn (.func gf) lb, args := #[.func (.yield (w.heap.size + 1)) #[] #[]] }, W1, gf,
    #[.func (.yield (w.heap.size + 1)) #[] #[]] ++ lb, W1, hE0, ?_, fun _ _ => trivial, ?_, fun h => absurd h (by decide), ?_⟩
  · simp only [resolve, hg]
    simp [go_sem]
  · simp [invoke, go_sem, eg]
  · have h1 : I (fun k => Pr k ∨ (w.heap.size ≤ k ∧ k < W1.heap.size)) [] W1 := hI Pr [] w W1 none h0 hG (fun r e => by cases e)
    have tolD : ∀ (o : Obj) (k : Nat), k < W1.heap.size → ∀ {A B : World} {row : Option Nat}, A.heap[k]? = some o → A.grownBy B row → (∀ r, row = some r → W1.heap.size ≤ r ∧ ∃ o : Obj, A.heap[r]? = some o ∧ o.isCells = false) → B.heap[k]? = some o := fun o k hk A B row ha hg' hr =>
      (hg'.block k (Array.getElem?_eq_some_iff.1 ha).1 (fun e => by have := (hr k e.symm).1; omega)).trans ha
    refine (hit (n - 1) (w.heap.size + 1)
      (fun Pr' pre W => I Pr' pre W ∧ (∀ k, Pr k → Pr' k) ∧ Pr' w.heap.size ∧ Pr' (w.heap.size + 1) ∧ W.heap[w.heap.size + 1]? = some (.loop (rec .ready none)) ∧ W.heap[w.heap.size]? = some (.deferred (some [])))
      (fun Pr' pre W => ∃ c, Ix c Pr' pre W ∧ (∀ k, Pr k → Pr' k) ∧ Pr' w.heap.size ∧ Pr' (w.heap.size + 1) ∧ W.heap[w.heap.size + 1]? = some (.loop (rec .done (some c))) ∧ W.heap[w.heap.size]? = some (.deferred (some [])))
      (fun k => Pr k ∨ (w.heap.size ≤ k ∧ k < W1.heap.size)) [] W1 hG (fun k hk => .inl (hn k hk)) ?_ ?_ ?_ ⟨h1, fun k hk => .inl hk, .inr ⟨by omega, by omega⟩, .inr ⟨by omega, by omega⟩, hL0, hK0⟩).mono ?_
    · rintro Pr s A B row ⟨hi, p0, p1, p2, hl', hk'⟩ hg' hr
      exact ⟨hI Pr s A B row hi hg' (fun r e => ⟨by have := (hr r e).1; omega, (hr r e).2⟩), fun k hk => .inl (p0 k hk), .inl p1, .inl p2, tolD _ _ (by omega) hl' hg' hr, tolD _ _ (by omega) hk' hg' hr⟩
    · rintro Pr s A B row ⟨c, hi, p0, p1, p2, hl', hk'⟩ hg' hr
      exact ⟨c, hIx c Pr s A B row hi hg' (fun r e => ⟨by have := (hr r e).1; omega, (hr r e).2⟩), fun k hk => .inl (p0 k hk), .inl p1, .inl p2, tolD _ _ (by omega) hl' hg' hr, tolD _ _ (by omega) hk' hg' hr⟩
    · -- one round
      rintro m Pr' pre x W ⟨hi, p0, p1, p2, hl', hk'⟩ hpre
      have hlt : w.heap.size + 1 < W.heap.size := (Array.getElem?_eq_some_iff.1 hl').1
      have hy := run_yield (P := P) (args := encs x) hl' (by rw [hrec]; exact hps x)
      rw [hrec] at hy
      refine ⟨fn, _, assign, body, hy, roundIn_of_wpIn hfn (hassign _ _ x W _ ?_)⟩
      clear hy
      refine ⟨_, run_beginRound hl' (by rw [hrec]), ?_⟩
      have hl2 : (W.putObj (w.heap.size + 1) (.loop { rec .ready none with state := .busy })).heap[w.heap.size + 1]? = some (.loop { rec .ready none with state := .busy }) := World.putObj_heap_same hlt
      have hk2 : (W.putObj (w.heap.size + 1) (.loop { rec .ready none with state := .busy })).heap[w.heap.size]? = some (.deferred (some [])) := (World.putObj_heap_other (by omega)).trans hk'
      have hi2 : I Pr' pre (W.putObj (w.heap.size + 1) (.loop { rec .ready none with state := .busy })) := hI.put _ hi (by omega) hl' rfl
      have hother : ∀ k, ¬ k = w.heap.size + 1 → (W.putObj (w.heap.size + 1) (.loop { rec .ready none with state := .busy })).heap[k]? = W.heap[k]? := fun k hk => World.putObj_heap_other hk
      have hg2 : W.grownBy (W.putObj (w.heap.size + 1) (.loop { rec .ready none with state := .busy })) (some (w.heap.size + 1)) := grownBy_putObj' _ _ _
      have hs2 : (W.putObj (w.heap.size + 1) (.loop { rec .ready none with state := .busy })).heap.size = W.heap.size := by simp [World.putObj]
      generalize W.putObj (w.heap.size + 1) (.loop { rec .ready none with state := .busy }) = W2 at *
      refine wpIn_mono (hbody m _ Pr' pre x W2 p0 hi2 hpre) ?_
      have fin : ∀ (jump : Option Code) (W3 : World), W3.heap[w.heap.size + 1]? = some (.loop { rec .ready none with state := .busy }) →
          (Instr.endRound (w.heap.size + 1) jump).run P W3 = .ok (.bool jump.isNone) (W3.putObj (w.heap.size + 1) (.loop (rec (if jump.isNone then .ready else .done) jump))) ∧
          (W3.putObj (w.heap.size + 1) (.loop (rec (if jump.isNone then .ready else .done) jump))).heap[w.heap.size + 1]? = some (.loop (rec (if jump.isNone then .ready else .done) jump)) := fun jump W3 hl3 => by
        have := run_endRound (P := P) jump hl3
        rw [hrec] at this ⊢
        exact ⟨this, World.putObj_heap_same (Array.getElem?_eq_some_iff.1 hl3).1⟩
      have stopCase : ∀ (c : Code) (W3 : World), Ix c Pr' (pre ++ [x]) W3 → KpS (fun k => Pr' k ∧ w.heap.size ≤ k) W2 W3 →
          ∃ v w', (Instr.endRound (w.heap.size + 1) (some c)).run P W3 = .ok v w' ∧ ((Ending.returned v = .returned (.bool true) ∧ (I Pr' (pre ++ [x]) w' ∧ (∀ k, Pr k → Pr' k) ∧ Pr' w.heap.size ∧ Pr' (w.heap.size + 1) ∧ w'.heap[w.heap.size + 1]? = some (.loop (rec .ready none)) ∧ w'.heap[w.heap.size]? = some (.deferred (some []))) ∧ KpS Pr' W w') ∨
            (Ending.returned v = .returned (.bool false) ∧ (∃ c, Ix c Pr' (pre ++ [x]) w' ∧ (∀ k, Pr k → Pr' k) ∧ Pr' w.heap.size ∧ Pr' (w.heap.size + 1) ∧ w'.heap[w.heap.size + 1]? = some (.loop (rec .done (some c))) ∧ w'.heap[w.heap.size]? = some (.deferred (some []))) ∧ KpS (fun k => Pr' k ∧ W1.heap.size ≤ k) W w')) := fun c W3 hx hk3 => by
        have hl3 : W3.heap[w.heap.size + 1]? = some (.loop { rec .ready none with state := .busy }) := (hk3.block _ ⟨p2, by omega⟩ (by omega)).trans hl2
        obtain ⟨f1, f2⟩ := fin (some c) W3 hl3
        refine ⟨_, _, f1, .inr ⟨rfl, ⟨c, (hIx c).put _ hx (by omega) hl3 rfl, p0, p1, p2, f2, (World.putObj_heap_other (by omega)).trans ((hk3.block _ ⟨p1, Nat.le_refl _⟩ (by omega)).trans hk2)⟩, ?_⟩⟩
        exact ((KpS.of_grown hg2 (fun k hk e => by cases e; have := hk.2; omega)).trans (hk3.mono (fun k hk => ⟨hk.1, by have := hk.2; omega⟩))).trans (kps_put _ (fun h => by have := h.2; omega))
      rintro e a3 W3 hp
      cases e with
      | normal =>
        obtain ⟨hi3, hk3⟩ := hp
        have hl3 : W3.heap[w.heap.size + 1]? = some (.loop { rec .ready none with state := .busy }) := (hk3.block _ p2 (by omega)).trans hl2
        obtain ⟨f1, f2⟩ := fin none W3 hl3
        refine ⟨_, _, f1, .inl ⟨rfl, ⟨hI.put _ hi3 (by omega) hl3 rfl, p0, p1, p2, f2, (World.putObj_heap_other (by omega)).trans ((hk3.block _ p1 (by omega)).trans hk2)⟩, ?_⟩⟩
        refine ⟨?_, ?_, ?_, ?_, fun k hk hlk => ?_⟩
        · exact (hk3.os.trans hg2.os)
        · exact (hk3.tape.trans hg2.tape)
        · exact (hk3.output.trans hg2.output)
        · have : (W3.putObj (w.heap.size + 1) (Obj.loop (rec (if (none : Option Code).isNone then .ready else .done) none))).heap.size = W3.heap.size := by simp [World.putObj]
          rw [this]; have := hk3.size; omega
        · by_cases e : k = w.heap.size + 1
          · rw [e, hl']; exact f2
          · rw [World.putObj_heap_other e, hk3.block k hk (by omega), hother k e]
      | ret => exact stopCase _ W3 hp.1 hp.2
      | exit i => exact stopCase _ W3 hp.1 hp.2
      | goto t => exact stopCase _ W3 hp.1 hp.2
      | panic ch => exact hp.elim
      | outgrown => exact hp.elim
    · -- behind the one who is ranged over
      rintro e W2 ⟨⟨v, rfl⟩, Pr', hsub, (⟨⟨hi, p0, p1, p2, hl', hk'⟩, hkp⟩ | ⟨q, hq, ⟨c, hi, p0, p1, p2, hl', hk'⟩, hkp⟩)⟩
      · have hend : (Instr.endLoop (w.heap.size + 1)).run P W2 = .ok none (W2.putObj (w.heap.size + 1) (.loop { rec .ready none with state := .exhausted })) := by
          have := run_endLoop (P := P) hl' (by rw [hrec]; simp); rw [hrec] at this ⊢; exact this
        refine ⟨none, _, hend, hdone w.heap.size Pr' _ (Nat.le_refl _) ?_ p0 p1 (hI.put _ hi (by omega) hl' rfl) ?_ ((World.putObj_heap_other (by omega)).trans hk')⟩
        · have := (Array.getElem?_eq_some_iff.1 hk').1
          simpa [World.putObj] using this
        · refine ⟨hkp.os.trans hG.os, hkp.tape.trans hG.tape, hkp.output.trans hG.output, ?_, fun k hk hlk => ?_⟩
          · have h1 := hkp.size
            have h2 := hG.size
            have : (W2.putObj (w.heap.size + 1) (.loop { rec .ready none with state := .exhausted })).heap.size = W2.heap.size := by simp [World.putObj]
            rw [this]; omega
          · rw [World.putObj_heap_other (by omega), hkp.block k (.inl hk) (by have := hG.size; omega), hG.block k hlk (fun e => by cases e)]
      · have hend : (Instr.endLoop (w.heap.size + 1)).run P W2 = .ok (some c) (W2.putObj (w.heap.size + 1) (.loop { rec .done (some c) with state := .exhausted })) := by
          have := run_endLoop (P := P) hl' (by rw [hrec]; simp); rw [hrec] at this ⊢; exact this
        refine ⟨some c, _, hend, hstop w.heap.size Pr' c q _ (Nat.le_refl _) ?_ p0 p1 hq ((hIx c).put _ hi (by omega) hl' rfl) ?_ ((World.putObj_heap_other (by omega)).trans hk')⟩
        · have := (Array.getElem?_eq_some_iff.1 hk').1
          simpa [World.putObj] using this
        · refine ⟨hkp.os.trans hG.os, hkp.tape.trans hG.tape, hkp.output.trans hG.output, ?_, fun k hk hlk => hk.elim⟩
          have h1 := hkp.size
          have h2 := hG.size
          have : (W2.putObj (w.heap.size + 1) (.loop { rec .done (some c) with state := .exhausted })).heap.size = W2.heap.size := by simp [World.putObj]
          rw [this]; omega
end Go.Proofs.YtcjnfodkppcpoaaDoor
