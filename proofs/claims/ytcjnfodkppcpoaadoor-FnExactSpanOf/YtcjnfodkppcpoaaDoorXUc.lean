/- The program tells the nodes of a tree: its iterator, which ranges over itself. -/
import Derived.Test.YtcjnfodkppcpoaaDoorXUa
import Derived.Test.YtcjnfodkppcpoaaDoorXUb
namespace Go.Proofs.YtcjnfodkppcpoaaDoor
open Go.RowKit Go.Shelf
set_option linter.unusedVariables false
attribute [local go_sem] Oper.semAt_some

/-- The side of a node, as a number. -/
def sideI : Nat × Bool → Int
  | (_, false) => 0
  | (_, true) => 1

/-- A node told, as the two values that are handed over. -/
def encE (x : Nat × Bool) : Array Value := #[.int .i64 (x.1 : Int), .int .i64 (sideI x)]

theorem around_any (g : Addr) (x y : Int) (w : World) :
    Calls Tryd.prog 52 #[.pointer (some g), .int .i64 x, .int .i64 y] w fun e w' => e = .returned (.func (.func 66) #[] #[.pointer (some ⟨w.heap.size + 1, 0, none⟩), .pointer (some ⟨w.heap.size + 2, 0, none⟩), .pointer (some ⟨w.heap.size, 0, none⟩)]) ∧
      w' = ((w.alloc (.cells #[.pointer (some g)] 58)).alloc (.cells #[.int .i64 x] 2)).alloc (.cells #[.int .i64 y] 2) := by
  go_enter Tryd.func52, Tryd.ntmps52
  go_wp2
  go_ret
  exact ⟨rfl, rfl⟩

theorem around_at (g : Addr) (x y : Int) (w : World) :
    Calls Tryd.prog 52 #[.pointer (some g), .int .i64 x, .int .i64 y] w fun e w' => e = .returned (.func (.func 66) #[] #[.pointer (some ⟨w.heap.size + 1, 0, none⟩), .pointer (some ⟨w.heap.size + 2, 0, none⟩), .pointer (some ⟨w.heap.size, 0, none⟩)]) ∧
      Below w.heap.size w w' ∧ w'.heap.size = w.heap.size + 3 ∧ w'.cell? ⟨w.heap.size, 0, none⟩ = some (.pointer (some g)) ∧ w'.cell? ⟨w.heap.size + 1, 0, none⟩ = some (.int .i64 x) ∧ w'.cell? ⟨w.heap.size + 2, 0, none⟩ = some (.int .i64 y) := by
  refine (around_any g x y w).mono ?_
  rintro e w' ⟨rfl, rfl⟩
  refine ⟨rfl, ((Below.refl _ w).alloc (Nat.le_refl _) _ |>.alloc (by simp) _).alloc (by simp; omega) _, by simp, ?_, ?_, ?_⟩
  · rw [World.cell?_alloc_lt _ _ ⟨w.heap.size, 0, none⟩ (by simp; omega), World.cell?_alloc_lt _ _ ⟨w.heap.size, 0, none⟩ (by simp)]; simp
  · rw [World.cell?_alloc_lt _ _ ⟨w.heap.size + 1, 0, none⟩ (by simp)]
    rw [World.cell?_alloc_at _ _ _ _ (by simp)]; rfl
  · rw [World.cell?_alloc_at _ _ _ _ (by simp)]; rfl

/-- Marks of loops that are over: each block holds no call. -/
def Marks (Pr : Nat → Prop) (B : Nat) : List Deferred → World → Prop
  | [], _ => True
  | d :: ds, W => (∃ D, d = { target := .collected D, args := #[] } ∧ Pr D ∧ B ≤ D ∧ W.heap[D]? = some (.deferred (some [])) ∧ ∀ d' ∈ ds, ∀ D', d'.target = .collected D' → D' < D) ∧ Marks Pr B ds W

theorem Marks.keep {Pr Pr' : Nat → Prop} {B : Nat} {W W' : World} (hk : KpS (fun k => Pr k ∧ B ≤ k) W W') (hp : ∀ k, Pr k → Pr' k) : ∀ {ds : List Deferred}, Marks Pr B ds W → Marks Pr' B ds W'
  | [], _ => trivial
  | d :: ds, ⟨⟨D, e, p, hB, hd, hl⟩, hr⟩ => ⟨⟨D, e, hp D p, hB, (hk.block D ⟨p, hB⟩ (Array.getElem?_eq_some_iff.1 hd).1).trans hd, hl⟩, Marks.keep hk hp hr⟩

theorem Marks.lt {Pr : Nat → Prop} {B : Nat} {W : World} : ∀ {ds : List Deferred}, Marks Pr B ds W → ∀ d ∈ ds, ∀ D, d.target = .collected D → D < W.heap.size
  | [], _, d, hd, _, _ => by cases hd
  | d :: ds, ⟨⟨D, e, p, hB, hd, hl⟩, hr⟩, d', hm, D', ht => by
    rcases List.mem_cons.1 hm with h | h
    · subst h; rw [e] at ht; cases ht; exact (Array.getElem?_eq_some_iff.1 hd).1
    · exact Marks.lt hr d' h D' ht

theorem Marks.put {Pr : Nat → Prop} {B : Nat} {W : World} {D : Nat} (o : Obj) : ∀ {ds : List Deferred}, Marks Pr B ds W → (∀ d ∈ ds, ∀ D', d.target = .collected D' → D' < D) → Marks Pr B ds (W.putObj D o)
  | [], _, _ => trivial
  | d :: ds, ⟨⟨D1, e, p, hB, hd, hl⟩, hr⟩, hlt => ⟨⟨D1, e, p, hB, (World.putObj_heap_other (by have := hlt d (List.mem_cons_self ..) D1 (by rw [e]); omega)).trans hd, hl⟩, Marks.put o hr (fun d' h D' ht => hlt d' (List.mem_cons_of_mem _ h) D' ht)⟩

/-- A function without an answer goes out, its marks behind it. -/
theorem leave_marks {P : Program} {n : Nat} {fn : Func} {tmps : Array Value} {R : Ending → World → Prop} {B : Nat} {Pr : Nat → Prop} {S : World → Prop} (hfn : fn.results = #[])
    (hS : ∀ W D, S W → B ≤ D → W.heap[D]? = some (.deferred (some [])) → S (W.putObj D (.deferred none))) (hR : ∀ W, S W → R (.returned (.tuple #[])) W) :
    ∀ (ds : List Deferred) (W : World), Marks Pr B ds W → S W → LeavesInM Fence.wide n P fn tmps R ds .returning W
  | [], W, _, hs => ⟨.tuple #[], results_none hfn _ _ _, hR W hs⟩
  | d :: ds, W, ⟨⟨D, e, p, hB, hd, hl⟩, hr⟩, hs => by
    refine ⟨by simp, .inl ⟨D, _, by rw [e], run_takeDeferred hd, ?_⟩⟩
    exact leave_marks hfn hS hR ds _ (hr.put _ hl) (hS W D hs hB hd)

theorem cell_of_block {X Y : World} {k o : Nat} (h : Y.heap[k]? = X.heap[k]?) : Y.cell? ⟨k, o, none⟩ = X.cell? ⟨k, o, none⟩ := by
  unfold World.cell?; rw [h]

theorem Marks.tol {Pr Pr' : Nat → Prop} {B C : Nat} {W W' : World} {row : Option Nat} (hg : W.grownBy W' row) (hr : ∀ r, row = some r → C ≤ r) (hp : ∀ k, Pr k → Pr' k) : ∀ {ds : List Deferred}, (∀ d ∈ ds, ∀ D, d.target = .collected D → D < C) → Marks Pr B ds W → Marks Pr' B ds W'
  | [], _, _ => trivial
  | d :: ds, hl0, ⟨⟨D, e, p, hB, hd, hl⟩, hm⟩ => ⟨⟨D, e, hp D p, hB, (hg.block D (Array.getElem?_eq_some_iff.1 hd).1 (fun x => by have := hr D x.symm; have := hl0 d (List.mem_cons_self ..) D (by rw [e]); omega)).trans hd, hl⟩, Marks.tol hg hr hp (fun d' h => hl0 d' (List.mem_cons_of_mem _ h)) hm⟩

theorem KpS.tol {p : Nat → Prop} {A W W' : World} {row : Option Nat} (h : KpS p A W) (hg : W.grownBy W' row) (hr : ∀ r, row = some r → A.heap.size ≤ r) : KpS p A W' :=
  ⟨hg.os.trans h.os, hg.tape.trans h.tape, hg.output.trans h.output, Nat.le_trans h.size hg.size, fun k hk hl => (hg.block k (Nat.lt_of_lt_of_le hl h.size) (fun e => by have := hr k e.symm; omega)).trans (h.block k hk hl)⟩

set_option maxRecDepth 100000 in
set_option maxHeartbeats 8000000 in
theorem around1_any (l : List ND) (hT : treeF l = 0) (wB : World) (base g : Nat) (pa : Nat → Option Addr) (ca : Nat → Nat) (vn vw : Value) (wT : World) (hTT : TT wB base g l pa ca l.length vn vw wT) :
    ∀ (N c i j : Nat), j - i = N → Seg l c i j → ∀ (b : Nat) (w0 : World), Below wT.heap.size wT w0 → wT.heap.size ≤ b → b + 2 < w0.heap.size →
      w0.cell? ⟨b, 0, none⟩ = some (.pointer (some ⟨g, 0, none⟩)) → w0.cell? ⟨b + 1, 0, none⟩ = some (.int .i64 (i : Int)) → w0.cell? ⟨b + 2, 0, none⟩ = some (.int .i64 (j : Int)) →
      IterC Tryd.prog (fun k => k < wT.heap.size ∨ (b ≤ k ∧ k < b + 3)) 66 #[.pointer (some ⟨b + 1, 0, none⟩), .pointer (some ⟨b + 2, 0, none⟩), .pointer (some ⟨b, 0, none⟩)] encE (evs (endN l) i j) w0 := by
  intro N
  induction N using Nat.strongRecOn with
  | _ N ih =>
    intro c i j hN hseg b w0 hwT hb hb2 c0 c1 c2 n lr J Jx Pr pre W hG hneed hJ hJx hY h0
    have hWy := treeF_ways hT
    have hlen := treeF_len hT
    refine callsIn_of_wp_marks Tryd.func66 rfl trivial ?_
    simp only [Tryd.ntmps66, List.size_toArray, List.length_cons, List.length_nil, Nat.reduceAdd, Nat.reduceSub, Array.replicate_succ, Array.replicate_zero, List.push_toArray, List.append_toArray, List.nil_append, List.cons_append]
    have hWs := hG.size
    have k0 := hG.block b (by omega) (fun e => by cases e)
    have k1 := hG.block (b + 1) (by omega) (fun e => by cases e)
    have k2 := hG.block (b + 2) (by omega) (fun e => by cases e)
    rw [← cell_of_block k0] at c0
    rw [← cell_of_block k1] at c1
    rw [← cell_of_block k2] at c2
    have hwTW : Below wT.heap.size wT W := hwT.trans ((KpS.of_grown (p := fun k => k < wT.heap.size) hG (fun _ _ e => by cases e)).below (fun k h => h) hwT.size)
    clear k0 k1 k2 hwT
    have NB := below_new W (.cells #[.func (.yield lr) #[] #[]] 106)
    have e1 : (W.alloc (.cells #[.func (.yield lr) #[] #[]] 106)).cell? ⟨b + 1, 0, none⟩ = some (.int .i64 (i : Int)) := by rw [NB.cell (p := ⟨b + 1, 0, none⟩) (by show b + 1 < _; omega)]; exact c1
    have eY : (W.alloc (.cells #[.func (.yield lr) #[] #[]] 106)).cell? ⟨W.heap.size, 0, none⟩ = some (.func (.yield lr) #[] #[]) := by simp
    have hJ1 := hJ Pr pre W _ none h0 (grown_of_below NB) (fun r e => by cases e)
    have hS1 : (W.alloc (.cells #[.func (.yield lr) #[] #[]] 106)).heap.size = W.heap.size + 1 := by simp
    have hK1 : KpS Pr W (W.alloc (.cells #[.func (.yield lr) #[] #[]] 106)) := KpS.of_below NB
    gi_wp2
    clear e1 c1 h0 NB
    have LEAVE : ∀ (tmps : Array Value) (ds : List Deferred) (PrA : Nat → Prop) (X : World), Marks PrA W.heap.size ds X → (∀ k, Pr k → PrA k) → J PrA (pre ++ evs (endN l) i j) X → KpS Pr W X →
        bodyPostM Fence.wide n Tryd.prog Tryd.f66 (fun e W' => (∃ v, e = Ending.returned v) ∧ ∃ Pr', (∀ k, Pr k → Pr' k) ∧ (J Pr' (pre ++ evs (endN l) i j) W' ∧ KpS Pr W W' ∨ ∃ q, q <+: evs (endN l) i j ∧ Jx Pr' (pre ++ q) W' ∧ KpS (fun x => False) W W')) .ret { tmps := tmps, defers := ds } X := fun tmps ds PrA X hm hp hj hk =>
      leave_marks (S := fun Z => J PrA (pre ++ evs (endN l) i j) Z ∧ KpS Pr W Z) rfl
        (fun Z D hs hB hd => ⟨hJ.put _ hs.1 hB hd rfl, hs.2.tol (grownBy_putObj' Z D _) (fun r e => by cases e; exact hB)⟩)
        (fun Z hs => ⟨⟨_, rfl⟩, PrA, hp, .inl hs⟩) ds X hm ⟨hj, hk⟩
    have STOP : ∀ (tmps : Array Value) (ds : List Deferred) (PrA : Nat → Prop) (q : List (Nat × Bool)) (X : World), Marks PrA W.heap.size ds X → (∀ k, Pr k → PrA k) → q <+: evs (endN l) i j → Jx PrA (pre ++ q) X → KpS (fun _ => False) W X →
        bodyPostM Fence.wide n Tryd.prog Tryd.f66 (fun e W' => (∃ v, e = Ending.returned v) ∧ ∃ Pr', (∀ k, Pr k → Pr' k) ∧ (J Pr' (pre ++ evs (endN l) i j) W' ∧ KpS Pr W W' ∨ ∃ q, q <+: evs (endN l) i j ∧ Jx Pr' (pre ++ q) W' ∧ KpS (fun x => False) W W')) .ret { tmps := tmps, defers := ds } X := fun tmps ds PrA q X hm hp hq hj hk =>
      leave_marks (S := fun Z => Jx PrA (pre ++ q) Z ∧ KpS (fun _ => False) W Z) rfl
        (fun Z D hs hB hd => ⟨hJx.put _ hs.1 hB hd rfl, hs.2.tol (grownBy_putObj' Z D _) (fun r e => by cases e; exact hB)⟩)
        (fun Z hs => ⟨⟨_, rfl⟩, PrA, hp, .inr ⟨q, hq, hs⟩⟩) ds X hm ⟨hj, hk⟩
    refine wpIn_loop_ghost (fun m a X => ∃ (s : Nat) (told : List (Nat × Bool)) (ds : List Deferred) (PrA : Nat → Prop) (u6 u7 u8 u9 u10 u11 u12 u13 u14 u15 u16 u17 u18 u19 u20 u21 u22 u23 u24 u25 u26 u27 u28 u29 u30 u31 u32 u33 u34 u35 u36 : Value),
      m = j - s ∧ i ≤ s ∧ Seg l c s j ∧ told ++ evs (endN l) s j = evs (endN l) i j ∧ a = { tmps := (Value.func (.yield lr) #[] #[] :: Value.pointer (some ⟨b + 1, 0, none⟩) :: Value.pointer (some ⟨b + 2, 0, none⟩) :: Value.pointer (some ⟨b, 0, none⟩) :: Value.pointer (some ⟨W.heap.size, 0, none⟩) :: Value.int .i64 (s : Int) :: u6 :: u7 :: u8 :: u9 :: u10 :: u11 :: u12 :: u13 :: u14 :: u15 :: u16 :: u17 :: u18 :: u19 :: u20 :: u21 :: u22 :: u23 :: u24 :: u25 :: u26 :: u27 :: u28 :: u29 :: u30 :: u31 :: u32 :: u33 :: u34 :: u35 :: u36 :: []).toArray, defers := ds } ∧
      Marks PrA W.heap.size ds X ∧ (∀ k, Pr k → PrA k) ∧ PrA W.heap.size ∧ J PrA (pre ++ told) X ∧ X.cell? ⟨W.heap.size, 0, none⟩ = some (.func (.yield lr) #[] #[]) ∧ KpS Pr W X ∧ W.heap.size < X.heap.size) (j - i)
      ⟨i, [], [], (fun k => Pr k ∨ (W.heap.size ≤ k ∧ k < (W.alloc (.cells #[.func (.yield lr) #[] #[]] 106)).heap.size)), _, _, _, _, _, _, _, _, _, _, _, _, _, _, _, _, _, _, _, _, _, _, _, _, _, _, _, _, _, _, _, rfl, Nat.le_refl _, hseg, rfl, rfl, trivial, (fun k hk => Or.inl hk), Or.inr ⟨Nat.le_refl _, by omega⟩, by rw [List.append_nil]; exact hJ1, eY, hK1, by omega⟩ ?_
    clear hJ1 eY hK1 hS1
    rintro m a X ⟨s, told, ds, PrA, u6, u7, u8, u9, u10, u11, u12, u13, u14, u15, u16, u17, u18, u19, u20, u21, u22, u23, u24, u25, u26, u27, u28, u29, u30, u31, u32, u33, u34, u35, u36, rfl, his, hs, hev, rfl, hm, hp, hpY, hj, hy, hk, hsz⟩
    have g0 : X.cell? ⟨b, 0, none⟩ = some (.pointer (some ⟨g, 0, none⟩)) := by rw [cell_of_block (hk.block b (hneed b (.inr ⟨by omega, by omega⟩)) (by omega))]; exact c0
    have g2 : X.cell? ⟨b + 2, 0, none⟩ = some (.int .i64 (j : Int)) := by rw [cell_of_block (hk.block (b + 2) (hneed (b + 2) (.inr ⟨by omega, by omega⟩)) (by omega))]; exact c2
    by_cases hlt : s < j
    · have ci : (s : Int) < (j : Int) := by omega
      obtain ⟨f1, f2⟩ := hs.fst hlt
      have hsl : s < l.length := by have := hs.lt; omega
      have hev2 := evs_cons (E := endN l) hlt f1 f2
      obtain ⟨fn1, tmps1, assign1, body1, hy1, hR1⟩ := hY (n - 1) PrA (pre ++ told) (s, false) X hj (by
        rw [← hev, hev2]; exact ⟨evs (endN l) (s + 1) (endN l s) ++ (s, true) :: evs (endN l) (endN l s) j, by simp⟩)
      have hy1' : Sem.run Tryd.prog (Instr.yield lr #[Value.int .i64 (s : Int), Value.int .i64 0]) X = .ok (Next.round lr fn1 tmps1 assign1 body1) X := hy1
      clear hy1
      have LV := Hid.mk' LEAVE
      have ST := Hid.mk' STOP
      have HY := Hid.mk' hY
      have IH := Hid.mk' ih
      clear LEAVE STOP hY ih
      gi_wp2
      refine ⟨fun h => absurd h (by decide), ?_⟩
      refine hR1.mono ?_
      rintro e X2 (⟨rfl, hj2, hk2⟩ | ⟨rfl, hx2, hk2⟩)
      rotate_left
      · have hm2 := hm.keep hk2 (fun k h => h)
        have SS := Hid.mk' (fun tmps => ST.out tmps ds PrA (told ++ [(s, false)]) X2 hm2 hp (by rw [← hev, hev2]; exact ⟨evs (endN l) (s + 1) (endN l s) ++ (s, true) :: evs (endN l) (endN l s) j, by simp⟩) (by rw [← List.append_assoc]; exact hx2) ⟨hk2.os.trans hk.os, hk2.tape.trans hk.tape, hk2.output.trans hk.output, Nat.le_trans hk.size hk2.size, fun _ h _ => h.elim⟩)
        clear hR1 hy1' ST LV HY IH
        gi_wp2
        exact SS.out _
      clear hR1 hy1'
      have hkX2 : KpS Pr W X2 := hk.trans (hk2.mono hp)
      have hm2 := Hid.mk' (hm.keep (hk2.mono (fun k h => h.1)) (fun k h => h))
      have yX2 : X2.cell? ⟨W.heap.size, 0, none⟩ = some (.func (.yield lr) #[] #[]) := by rw [cell_of_block (hk2.block _ hpY hsz)]; exact hy
      have t2 : X2.cell? ⟨b, 0, none⟩ = some (.pointer (some ⟨g, 0, none⟩)) := by rw [cell_of_block (hkX2.block b (hneed b (.inr ⟨by omega, by omega⟩)) (by omega))]; exact c0
      have wT2 : Below wT.heap.size wT X2 := hwTW.trans (hkX2.below (fun k h => hneed k (.inl h)) hwTW.size)
      have hsz2 : W.heap.size < X2.heap.size := Nat.lt_of_lt_of_le hsz hk2.size
      have HJ2 := Hid.mk' hj2
      have HK2 := Hid.mk' hkX2
      have HT2 := Hid.mk' (hTT.below wT2)
      have HW2 := Hid.mk' wT2
      clear hk hk2 hm hj hj2 hy g0 g2 hkX2 wT2
      gi_wp2
      refine wpIn_wide.2 ?_
      go_region_held3 (fun w' => w'.cell? ⟨b, 0, none⟩ = some (.pointer (some ⟨g, 0, none⟩))) (simp [*])
        (first | (go_at_call 38; refine (end_any wB base g l pa ca vn vw s _ (HT2.out.below (Below.refl _ _).drew) hsl (by omega)).mono ?_; rintro e X3 ⟨rfl, hb3⟩; replace hb3 := undrew hb3; obtain ⟨hx1, hx2⟩ := bcell hb3; have zz1 := hb3.size; have zz2 : b < X2.heap.size := (by omega); have zz3 : b < X3.heap.size := (by omega)) | (go_at_call 52; refine (around_at _ _ _ _).mono ?_; rintro e X4 ⟨rfl, hb4, hs4, q0, q1, q2⟩; obtain ⟨hx3, hx4⟩ := bcell hb4))
      clear hx1 hx2 hx3 hx4 zz2 zz3
      have qw : IntKind.i64.wrap ((s : Int) + 1) = ((s + 1 : Nat) : Int) := by
        unfold IntKind.wrap
        simp [IntKind.bits, IntKind.signed]
        omega
      rw [qw] at q1
      clear qw
      have hb5 : Below X2.heap.size X2 X4 := hb3.trans (hb4.mono hb3.size)
      have hz5 := hb5.size
      have hJ4 := hJ PrA (pre ++ told ++ [(s, false)]) X2 X4 none HJ2.out (grown_of_below hb5) (fun r e => by cases e)
      have hm4 := hm2.out.keep (KpS.of_below hb5) (Pr' := fun k => PrA k ∨ (X2.heap.size ≤ k ∧ k < X4.heap.size)) (fun k h => .inl h)
      have hml : ∀ d ∈ ds, ∀ D, d.target = .collected D → D < X4.heap.size := hm4.lt
      have hk4 : KpS Pr W X4 := HK2.out.trans (KpS.of_below hb5)
      have wT4 : Below wT.heap.size wT X4 := HW2.out.trans (hb5.mono HW2.out.size)
      have yX4 : X4.cell? ⟨W.heap.size, 0, none⟩ = some (.func (.yield lr) #[] #[]) := by rw [cell_of_block (hb5.block _ hsz2)]; exact yX2
      have hpre0 : ∀ q x, (q ++ [x]) <+: evs (endN l) (s + 1) (endN l s) → (pre ++ told ++ [(s, false)] ++ q ++ [x]) <+: (pre ++ evs (endN l) i j) := fun q x ⟨r, hr⟩ => by
        rw [← hev, hev2, ← hr]; exact ⟨r ++ (s, true) :: evs (endN l) (endN l s) j, by simp⟩
      have hpre1 : ∀ q, q <+: evs (endN l) (s + 1) (endN l s) → (told ++ [(s, false)] ++ q) <+: evs (endN l) i j := fun q ⟨r, hr⟩ => by
        rw [← hev, hev2, ← hr]; exact ⟨r ++ (s, true) :: evs (endN l) (endN l s) j, by simp⟩
      have hit := IH.out (endN l s - (s + 1)) (by omega) (c + 1) (s + 1) (endN l s) rfl (hs.sub hWy hlt) X3.heap.size X4 wT4 (by have := HW2.out.size; omega) (by omega) q0 q1 q2
      have HJ4 := Hid.mk' hJ4
      have HM4 := Hid.mk' hm4
      have HK4 := Hid.mk' hk4
      have HWT4 := Hid.mk' wT4
      clear hJ4 hm4 hk4 wT4 HJ2 hm2 HK2 HW2 yX2 t2 q0 q1 q2 IH hb3 hb4 HT2
      gi_wp2
      refine range_law (gf := 66) (lb := #[.pointer (some ⟨X3.heap.size + 1, 0, none⟩), .pointer (some ⟨X3.heap.size + 2, 0, none⟩), .pointer (some ⟨X3.heap.size, 0, none⟩)]) rfl (enters_of Tryd.func66 (by kernel_rfl) rfl) hit (fun _ => rfl)
        (fun PrI q Z => J PrI (pre ++ told ++ [(s, false)] ++ q) Z ∧ (∀ k, PrA k → PrI k) ∧ Marks PrI W.heap.size ds Z ∧ KpS (fun k => PrA k) X4 Z)
        (fun c PrI q Z => c = .ret ∧ Jx PrI (pre ++ told ++ [(s, false)] ++ q) Z ∧ (∀ k, PrA k → PrI k) ∧ Marks PrI W.heap.size ds Z ∧ KpS (fun _ => False) X4 Z)
        ?tolI ?tolX (fun k => PrA k ∨ (X2.heap.size ≤ k ∧ k < X4.heap.size)) ?need ⟨by rw [List.append_nil]; exact HJ4.out, fun k h => .inl h, HM4.out, KpS.refl _ _⟩
        (fun x => { tmps := (Value.func (.yield lr) #[] #[] :: Value.pointer (some ⟨b + 1, 0, none⟩) :: Value.pointer (some ⟨b + 2, 0, none⟩) :: Value.pointer (some ⟨b, 0, none⟩) :: Value.pointer (some ⟨W.heap.size, 0, none⟩) :: Value.int .i64 (s : Int) :: Value.int .i64 (x.1 : Int) :: Value.int .i64 (sideI x) :: u8 :: Value.int .i64 (s : Int) :: Value.int .i64 (j : Int) :: Value.bool true :: u12 :: u13 :: u14 :: Value.func (.yield lr) #[] #[] :: Value.int .i64 (s : Int) :: Value.bool true :: Value.bool false :: Value.pointer (some ⟨g, 0, none⟩) :: Value.int .i64 (s : Int) :: Value.int .i64 ((s : Int) + 1) :: Value.pointer (some ⟨g, 0, none⟩) :: Value.int .i64 (s : Int) :: Value.int .i64 (endN l s : Int) :: Value.func (.func 66) #[] #[.pointer (some ⟨X3.heap.size + 1, 0, none⟩), .pointer (some ⟨X3.heap.size + 2, 0, none⟩), .pointer (some ⟨X3.heap.size, 0, none⟩)] :: Value.int .i64 (x.1 : Int) :: Value.int .i64 (sideI x) :: u28 :: u29 :: u30 :: u31 :: u32 :: u33 :: u34 :: u35 :: u36 :: []).toArray, defers := [] }) ?assign ?body ?done ?stop
      case tolI =>
        rintro PrI q Z Z' row ⟨z1, z2, z3, z4⟩ hg hr
        exact ⟨hJ PrI _ Z Z' row z1 hg (fun r e => ⟨by have := (hr r e).1; omega, (hr r e).2⟩), fun k h => .inl (z2 k h), z3.tol hg (fun r e => (hr r e).1) (fun k h => .inl h) hml, z4.tol hg (fun r e => (hr r e).1)⟩
      case tolX =>
        rintro c' PrI q Z Z' row ⟨z0, z1, z2, z3, z4⟩ hg hr
        exact ⟨z0, hJx PrI _ Z Z' row z1 hg (fun r e => ⟨by have := (hr r e).1; omega, (hr r e).2⟩), fun k h => .inl (z2 k h), z3.tol hg (fun r e => (hr r e).1) (fun k h => .inl h) hml, z4.tol hg (fun r e => (hr r e).1)⟩
      case need =>
        intro k hk
        rcases hk with h | ⟨h1, h2⟩
        · exact .inl (hp k (hneed k (.inl h)))
        · exact .inr ⟨by omega, by omega⟩
      case assign =>
        intro m' l' x Z K hK
        clear LV ST HY hit HJ4 HM4 HK4 HWT4
        dsimp only [encE]
        gi_wp2
        exact hK
      case body =>
        rintro m' l' PrI q x Z hPI ⟨z1, z2, z3, z4⟩ hpx
        have yZ : Z.cell? ⟨W.heap.size, 0, none⟩ = some (.func (.yield lr) #[] #[]) := by rw [cell_of_block (z4.block _ hpY (by omega))]; exact yX4
        obtain ⟨fn2, tmps2, assign2, body2, hy2, hR2⟩ := HY.out (m' - 1) PrI (pre ++ told ++ [(s, false)] ++ q) x Z z1 (hpre0 q x hpx)
        have hy2' : Sem.run Tryd.prog (Instr.yield lr #[Value.int .i64 (x.1 : Int), Value.int .i64 (sideI x)]) Z = .ok (Next.round lr fn2 tmps2 assign2 body2) Z := hy2
        have Z3 := Hid.mk' z3
        have Z4 := Hid.mk' z4
        have Z2 := Hid.mk' z2
        clear hy2 z1 z2 z3 z4 LV ST HY hit HJ4 HM4 HK4 HWT4 yX4
        gi_wp2
        refine ⟨fun h => absurd h (by decide), ?_⟩
        refine hR2.mono ?_
        rintro e Z5 (⟨rfl, hj5, hk5⟩ | ⟨rfl, hx5, hk5⟩)
        · have G5 : Hid (∀ a : Act, leftM X4.heap.size (fun PrI q Z => J PrI (pre ++ told ++ [(s, false)] ++ q) Z ∧ (∀ k, PrA k → PrI k) ∧ Marks PrI W.heap.size ds Z ∧ KpS (fun k => PrA k) X4 Z) (fun c PrI q Z => c = .ret ∧ Jx PrI (pre ++ told ++ [(s, false)] ++ q) Z ∧ (∀ k, PrA k → PrI k) ∧ Marks PrI W.heap.size ds Z ∧ KpS (fun _ => False) X4 Z) PrI (q ++ [x]) Z .normal a Z5) := Hid.mk' fun a =>
            ⟨⟨by rw [← List.append_assoc]; exact hj5, Z2.out, Z3.out.keep (hk5.mono (fun k h => h.1)) (fun k h => h), Z4.out.trans (hk5.mono Z2.out)⟩, hk5⟩
          clear hR2 hy2' Z2 Z3 Z4 hj5 hk5
          gi_wp2
          exact G5.out _
        · have G5 : Hid (∀ a : Act, leftM X4.heap.size (fun PrI q Z => J PrI (pre ++ told ++ [(s, false)] ++ q) Z ∧ (∀ k, PrA k → PrI k) ∧ Marks PrI W.heap.size ds Z ∧ KpS (fun k => PrA k) X4 Z) (fun c PrI q Z => c = .ret ∧ Jx PrI (pre ++ told ++ [(s, false)] ++ q) Z ∧ (∀ k, PrA k → PrI k) ∧ Marks PrI W.heap.size ds Z ∧ KpS (fun _ => False) X4 Z) PrI (q ++ [x]) Z .ret a Z5) := Hid.mk' fun a =>
            ⟨⟨rfl, by rw [← List.append_assoc]; exact hx5, Z2.out, Z3.out.keep hk5 (fun k h => h), ⟨hk5.os.trans Z4.out.os, hk5.tape.trans Z4.out.tape, hk5.output.trans Z4.out.output, Nat.le_trans Z4.out.size hk5.size, fun _ h _ => h.elim⟩⟩, hk5.mono (fun k h => ⟨h.1, by have := h.2; omega⟩)⟩
          clear hR2 hy2' Z2 Z3 Z4 hx5 hk5
          gi_wp2
          exact G5.out _
      case done =>
        rintro D PrI Z hD hDZ hPI hPD ⟨z1, z2, z3, z4⟩ hkz hd
        have yZ : Z.cell? ⟨W.heap.size, 0, none⟩ = some (.func (.yield lr) #[] #[]) := by rw [cell_of_block (z4.block _ hpY (by omega))]; exact yX4
        have mD : Marks PrI W.heap.size ({ target := .collected D, args := #[] } :: ds) Z := ⟨⟨D, rfl, hPD, by omega, hd, fun d' h D' ht => by have := hml d' h D' ht; omega⟩, z3⟩
        have kZ : KpS Pr W Z := HK4.out.trans (hkz.mono (fun k h => .inl (hp k h)))
        have hprl : (pre ++ told ++ [(s, false)] ++ evs (endN l) (s + 1) (endN l s) ++ [(s, true)]) <+: (pre ++ evs (endN l) i j) := by
          rw [← hev, hev2]; exact ⟨evs (endN l) (endN l s) j, by simp⟩
        obtain ⟨fn2, tmps2, assign2, body2, hy2, hR2⟩ := HY.out (n - 1) PrI (pre ++ told ++ [(s, false)] ++ evs (endN l) (s + 1) (endN l s)) (s, true) Z z1 hprl
        have hy2' : Sem.run Tryd.prog (Instr.yield lr #[Value.int .i64 (s : Int), Value.int .i64 1]) Z = .ok (Next.round lr fn2 tmps2 assign2 body2) Z := hy2
        have MD := Hid.mk' mD
        have KZ := Hid.mk' kZ
        have Z2 := Hid.mk' z2
        clear hy2 z1 z2 z3 z4 HY hit HJ4 HM4 HK4 yX4 hkz mD kZ
        gi_wp2
        refine ⟨fun h => absurd h (by decide), ?_⟩
        refine hR2.mono ?_
        rintro e Z5 (⟨rfl, hj5, hk5⟩ | ⟨rfl, hx5, hk5⟩)
        · have kZ5 : KpS Pr W Z5 := KZ.out.trans (hk5.mono (fun k h => Z2.out k (hp k h)))
          have tZ5 : Z5.cell? ⟨b, 0, none⟩ = some (.pointer (some ⟨g, 0, none⟩)) := by rw [cell_of_block (kZ5.block b (hneed b (.inr ⟨by omega, by omega⟩)) (by omega))]; exact c0
          have yZ5 : Z5.cell? ⟨W.heap.size, 0, none⟩ = some (.func (.yield lr) #[] #[]) := by rw [cell_of_block (hk5.block _ (Z2.out _ hpY) (by omega))]; exact yZ
          have wT5 : Below wT.heap.size wT Z5 := hwTW.trans (kZ5.below (fun k h => hneed k (.inl h)) hwTW.size)
          have EN := Hid.mk' (end_any wB base g l pa ca vn vw s Z5 (hTT.below wT5) hsl (by omega))
          have M5 := Hid.mk' (MD.out.keep (hk5.mono (fun k h => h.1)) (fun k h => h))
          have KZ5 := Hid.mk' kZ5
          have J5 := Hid.mk' hj5
          have hz5' := hk5.size
          clear hR2 hy2' yZ hj5 hk5 MD KZ kZ5 wT5
          gi_wp2
          refine ⟨trivial, fun h => absurd h (by decide), callsIn_wide.2 (EN.out.mono ?_)⟩
          rintro e Z6 ⟨rfl, hb6⟩
          have J6 := hJ PrI _ Z5 Z6 none J5.out (grown_of_below hb6) (fun r e => by cases e)
          have M6 := M5.out.keep (KpS.of_below hb6) (Pr' := fun k => PrI k ∨ (Z5.heap.size ≤ k ∧ k < Z6.heap.size)) (fun k h => .inl h)
          have K6 := KZ5.out.trans (KpS.of_below (p := Pr) hb6)
          have y6 : Z6.cell? ⟨W.heap.size, 0, none⟩ = some (.func (.yield lr) #[] #[]) := by rw [cell_of_block (hb6.block _ (by omega))]; exact yZ5
          have z6 := hb6.size
          have JJ := Hid.mk' J6
          have MM := Hid.mk' M6
          have KK := Hid.mk' K6
          have YY := Hid.mk' y6
          have NX := Hid.mk' (hs.next hlt)
          have EV : Hid ((told ++ [(s, false)] ++ evs (endN l) (s + 1) (endN l s) ++ [(s, true)]) ++ evs (endN l) (endN l s) j = evs (endN l) i j) := Hid.mk' (by rw [← hev, hev2]; simp)
          clear EN J5 M5 KZ5 hb6 J6 M6 K6 y6 yZ5 tZ5 LV ST hs hev hev2
          gi_wp2
          refine ⟨j - endN l s, by omega, endN l s, told ++ [(s, false)] ++ evs (endN l) (s + 1) (endN l s) ++ [(s, true)], { target := .collected D, args := #[] } :: ds, (fun k => PrI k ∨ (Z5.heap.size ≤ k ∧ k < Z6.heap.size)), _, _, _, _, _, _, _, _, _, _, _, _, _, _, _, _, _, _, _, _, _, _, _, _, _, _, _, _, _, _, _, rfl, by omega, NX.out, EV.out, rfl, MM.out, (fun k h => .inl (Z2.out k (hp k h))), .inl (Z2.out _ hpY), by simpa [List.append_assoc] using JJ.out, YY.out, KK.out, by omega⟩
        · have SS := Hid.mk' (fun tmps => ST.out tmps _ PrI (told ++ [(s, false)] ++ evs (endN l) (s + 1) (endN l s) ++ [(s, true)]) Z5 (MD.out.keep hk5 (fun k h => h)) (fun k h => Z2.out k (hp k h)) (by rw [← hev, hev2]; exact ⟨evs (endN l) (endN l s) j, by simp⟩) (by simpa [List.append_assoc] using hx5) ⟨hk5.os.trans KZ.out.os, hk5.tape.trans KZ.out.tape, hk5.output.trans KZ.out.output, Nat.le_trans KZ.out.size hk5.size, fun _ h _ => h.elim⟩)
          clear hR2 hy2' ST LV
          gi_wp2
          exact SS.out _
      case stop =>
        rintro D PrI c' q Z hD hDZ hPI hPD hq ⟨rfl, z1, z2, z3, z4⟩ hkz hd
        have SS := Hid.mk' (fun tmps => ST.out tmps ({ target := .collected D, args := #[] } :: ds) PrI (told ++ [(s, false)] ++ q) Z ⟨⟨D, rfl, hPD, by omega, hd, fun d' h D' ht => by have := hml d' h D' ht; omega⟩, z3⟩ (fun k h => z2 k (hp k h)) (hpre1 q hq) (by simpa [List.append_assoc] using z1) ⟨hkz.os.trans HK4.out.os, hkz.tape.trans HK4.out.tape, hkz.output.trans HK4.out.output, Nat.le_trans HK4.out.size hkz.size, fun _ h _ => h.elim⟩)
        clear LV ST HY hit HJ4 HM4 HK4 HWT4 z1 z2 z3 z4
        gi_wp2
        exact SS.out _
    · have ci : ¬ (s : Int) < (j : Int) := by omega
      have hsj : s = j := by have := hs.le; omega
      have hev' : told = evs (endN l) i j := by rw [← hev, evs_nil hlt, List.append_nil]
      rw [hev'] at hj
      have LV := Hid.mk' (fun tmps => LEAVE tmps ds PrA X hm hp hj hk)
      clear LEAVE STOP hY ih
      gi_wp2
      exact LV.out _
end Go.Proofs.YtcjnfodkppcpoaaDoor
