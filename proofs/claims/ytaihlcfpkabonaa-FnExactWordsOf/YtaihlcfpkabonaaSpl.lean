/- Plain mathematics of pieces that are cut at a place; two rows of one's own that grow side by side. -/
import Derived.Test.YtaihlcfpkabonaaTxt
import Derived.Maps.AppendAt
namespace Go.Proofs.Ytaihlcfpkabonaa
open Go.RowKit
set_option linter.unusedVariables false

/-- What a piece leaves ahead of a place x (from its beginning), and behind it. -/
def stepA (p : PC) (x : Int) : List PC := if p.sz ≤ x then [p] else if x ≤ 0 then [] else [⟨p.ad, p.fr, x⟩]
def stepB (p : PC) (x : Int) : List PC := if p.sz ≤ x then [] else if x ≤ 0 then [p] else [⟨p.ad, p.fr + x, p.sz - x⟩]
/-- The pieces up to a place, and those from it on. -/
def partA : List PC → Int → List PC
  | [], _ => []
  | p :: r, x => stepA p x ++ partA r (x - p.sz)
def partB : List PC → Int → List PC
  | [], _ => []
  | p :: r, x => stepB p x ++ partB r (x - p.sz)

theorem partA_snoc (l : List PC) (p : PC) : ∀ x, partA (l ++ [p]) x = partA l x ++ stepA p (x - total l) := by
  induction l with
  | nil => intro x; simp [partA, total]
  | cons q r ih => intro x; simp only [List.cons_append, partA, total, ih, List.append_assoc]; rw [show x - q.sz - total r = x - (q.sz + total r) from by omega]
theorem partB_snoc (l : List PC) (p : PC) : ∀ x, partB (l ++ [p]) x = partB l x ++ stepB p (x - total l) := by
  induction l with
  | nil => intro x; simp [partB, total]
  | cons q r ih => intro x; simp only [List.cons_append, partB, total, ih, List.append_assoc]; rw [show x - q.sz - total r = x - (q.sz + total r) from by omega]
theorem partA_take (l : List PC) (k : Nat) (x : Int) (h : k < l.length) : partA (l.take (k + 1)) x = partA (l.take k) x ++ stepA (pc l k) (x - total (l.take k)) := by
  rw [take_snoc l k h, partA_snoc, pc_get l k h]
theorem partB_take (l : List PC) (k : Nat) (x : Int) (h : k < l.length) : partB (l.take (k + 1)) x = partB (l.take k) x ++ stepB (pc l k) (x - total (l.take k)) := by
  rw [take_snoc l k h, partB_snoc, pc_get l k h]

theorem stepA_len (p : PC) (x : Int) : (stepA p x).length ≤ 1 := by unfold stepA; split; simp; split <;> simp
theorem stepB_len (p : PC) (x : Int) : (stepB p x).length ≤ 1 := by unfold stepB; split; simp; split <;> simp
theorem partA_len (l : List PC) : ∀ x, (partA l x).length ≤ l.length := by
  induction l with
  | nil => intro x; simp [partA]
  | cons p r ih => intro x; have h1 := ih (x - p.sz); have h2 := stepA_len p x; simp only [partA, List.length_append, List.length_cons]; omega
theorem partB_len (l : List PC) : ∀ x, (partB l x).length ≤ l.length := by
  induction l with
  | nil => intro x; simp [partB]
  | cons p r ih => intro x; have h1 := ih (x - p.sz); have h2 := stepB_len p x; simp only [partB, List.length_append, List.length_cons]; omega

/-- Pieces whose numbers are small: none of what is reckoned with them wraps. -/
def Tame (l : List PC) : Prop := l.length ≤ 100 ∧ ∀ p ∈ l, 0 ≤ p.fr ∧ p.fr ≤ 100000 ∧ 0 ≤ p.sz ∧ p.sz ≤ 2000

theorem Tame.at {l : List PC} (h : Tame l) (k : Nat) (hk : k < l.length) : 0 ≤ (pc l k).fr ∧ (pc l k).fr ≤ 100000 ∧ 0 ≤ (pc l k).sz ∧ (pc l k).sz ≤ 2000 := by
  rw [pc_get l k hk]; exact h.2 _ (List.getElem_mem hk)

theorem Tame.total_le {l : List PC} (h : Tame l) : ∀ k, k ≤ l.length → 0 ≤ total (l.take k) ∧ total (l.take k) ≤ 2000 * k := by
  intro k
  induction k with
  | zero => intro _; simp [total]
  | succ k ih =>
    intro hk
    have h1 := ih (by omega)
    have h2 := h.at k (by omega)
    rw [total_take l k (by omega)]
    omega

theorem tame_of_fault {t : TB} (h : fault t = 0) : Tame t.pcs := by
  obtain ⟨h1, h2, h3, h4, _⟩ := fault_zero h
  refine ⟨by omega, fun p hp => ?_⟩
  have hl := lies_bounds (List.all_eq_true.1 h4 p hp)
  unfold room at hl
  split at hl <;> omega

theorem stepB_tame {p : PC} {x : Int} (h : 0 ≤ p.fr ∧ p.fr ≤ 2000 ∧ 0 ≤ p.sz ∧ p.sz ≤ 2000) : ∀ q ∈ stepB p x, 0 ≤ q.fr ∧ q.fr ≤ 100000 ∧ 0 ≤ q.sz ∧ q.sz ≤ 2000 := by
  intro q hq
  unfold stepB at hq
  split at hq
  · simp at hq
  · split at hq
    · simp at hq; subst hq; omega
    · simp at hq; subst hq; simp; omega

theorem partB_tame : ∀ (l : List PC) (x : Int), (∀ p ∈ l, 0 ≤ p.fr ∧ p.fr ≤ 2000 ∧ 0 ≤ p.sz ∧ p.sz ≤ 2000) → ∀ q ∈ partB l x, 0 ≤ q.fr ∧ q.fr ≤ 100000 ∧ 0 ≤ q.sz ∧ q.sz ≤ 2000
  | [], x, _, q, hq => by simp [partB] at hq
  | p :: r, x, h, q, hq => by
    simp only [partB, List.mem_append] at hq
    rcases hq with hq | hq
    · exact stepB_tame (h p (by simp)) q hq
    · exact partB_tame r _ (fun p' hp' => h p' (by simp [hp'])) q hq

theorem tame_partB {t : TB} (h : fault t = 0) (x : Int) : Tame (partB t.pcs x) := by
  have hT := tame_of_fault h
  obtain ⟨h1, h2, h3, h4, _⟩ := fault_zero h
  refine ⟨Nat.le_trans (partB_len _ _) hT.1, partB_tame _ _ (fun p hp => ?_)⟩
  have hl := lies_bounds (List.all_eq_true.1 h4 p hp)
  unfold room at hl
  split at hl <;> omega

/-- append(v, x...) onto a row of one's own, and where the answer lies. -/
theorem wpList_append_at {P : Program} (w : World) {ops : Array Oper} {rest : List Oper} {o : Oper} {a : Act} {Q : Exit → Act → World → Prop} (hgd : o.guard = none) (s x : Operand) (t : TypeId)
    (ho : o.op = .call { callee := .builtin .append, args := #[s, x], argTypes := #[t, t] })
    (base : Nat) (e : TypeId) (z : Value) (size bytes : Nat) (ht : P.underlying t = some (.slice e)) (hinfo : (P.info? e).map (fun i => (i.zero, i.size, i.bytes)) = some (some z, size, bytes))
    (hzs : z.cells.size = size) (hsz : 0 < size)
    (v : Value) (n : Nat) (xs : List Value) (hs : a.eval s = v) (hown : w.ownsRow base e size v n xs)
    (ax : Option Addr) (m c : Nat) (news : List Value) (hx : a.eval x = .slice ax m c) (hl : news.length = m * size)
    (hsrc : m = 0 ∨ ∃ ad, ax = some ad ∧ ∀ j u, news[j]? = some u → w.cell? (ad.add j) = some u) (h1 : ∀ u ∈ news, u.oneCell' = true)
    (h63 : n + m ≤ maxLen) (hbytes : (n + m) * bytes ≤ 140737488355328) (hbase : base ≤ w.heap.size)
    (h : ∀ v' w', w'.ownsRow base e size v' (n + m) (xs ++ news) → w.grownBy w' v.ownBlock → (v'.ownBlock = v.ownBlock ∨ v'.ownBlock = some w.heap.size) → wpList P ops Q rest (a.put o.dst v') w') : wpList P ops Q (o :: rest) a w := by
  obtain ⟨i, hi, hz0, hz1, hz2⟩ := info_parts hinfo
  refine wpList_plain hgd fun K hK => ?_
  cases ax with
  | some ad =>
    have hnews : ∀ j u, news[j]? = some u → w.cell? (ad.add j) = some u := by
      rcases hsrc with h0 | ⟨ad', e', hc⟩
      · subst h0
        have : news = [] := List.eq_nil_of_length_eq_zero (by simpa using hl)
        subst this
        intro j u hj
        simp at hj
      · cases e'
        exact hc
    obtain ⟨v', w', hr, h2, h3, _, h5⟩ := run_append_own_at (P := P) w base t o.type e i z size bytes ht hi hz0 hz1 hz2 hzs hsz v n xs hown ad m c news hl hnews h1 h63 hbytes hbase
    unfold Oper.wp execOp
    simp only [ho, resolve, invoke, builtin, Sem.run_bind, Sem.run_pure, Result.andThen_ok, List.map_toArray, List.map_cons, List.map_nil, hs, hx, hr]
    exact hK _ _ (h v' w' h2 h3 h5)
  | none =>
    have hm : m = 0 := by
      rcases hsrc with h0 | ⟨ad', e', _⟩
      · exact h0
      · cases e'
    subst hm
    have hn : news = [] := List.eq_nil_of_length_eq_zero (by simpa using hl)
    subst hn
    have hr : (Builtin.append_ #[t, t] o.type #[v, .slice none 0 c]).run P w = .ok v w := by
      rcases hown.2 with ⟨rfl, rfl⟩ | ⟨g, cap, cur, rfl, _, _, hnc, _⟩
      · simp [Builtin.append_, run_underlying ht, sizeOf, typeInfo, hi, Builtin.lenOf, Builtin.firstCells]
      · simp [Builtin.append_, run_underlying ht, sizeOf, typeInfo, hi, Builtin.lenOf, Builtin.firstCells, hnc, storeCells]
    unfold Oper.wp execOp
    simp only [ho, resolve, invoke, builtin, Sem.run_bind, Sem.run_pure, Result.andThen_ok, List.map_toArray, List.map_cons, List.map_nil, hs, hx, hr]
    exact hK _ _ (h v w (by simpa using hown) ⟨rfl, rfl, rfl, Nat.le_refl _, fun _ _ _ => rfl⟩ (.inl rfl))

/-- The same as one step of a region that draws its order. -/
theorem step_append_at {P : Program} {ops : Array Oper} {o : Oper} {a : Act} {w : World} {K : Act → World → Prop} {Q : Exit → Act → World → Prop} {E : Prop} (hgd : o.guard = none) (s x : Operand) (t : TypeId)
    (ho : o.op = .call { callee := .builtin .append, args := #[s, x], argTypes := #[t, t] })
    (base : Nat) (e : TypeId) (z : Value) (size bytes : Nat) (ht : P.underlying t = some (.slice e)) (hinfo : (P.info? e).map (fun i => (i.zero, i.size, i.bytes)) = some (some z, size, bytes))
    (hzs : z.cells.size = size) (hsz : 0 < size)
    (v : Value) (n : Nat) (xs : List Value) (hs : a.eval s = v) (hown : w.ownsRow base e size v n xs)
    (ax : Option Addr) (m c : Nat) (news : List Value) (hx : a.eval x = .slice ax m c) (hl : news.length = m * size)
    (hsrc : m = 0 ∨ ∃ ad, ax = some ad ∧ ∀ j u, news[j]? = some u → w.cell? (ad.add j) = some u) (h1 : ∀ u ∈ news, u.oneCell' = true)
    (h63 : n + m ≤ maxLen) (hbytes : (n + m) * bytes ≤ 140737488355328) (hbase : base ≤ w.heap.size)
    (h : ∀ v' w', w'.ownsRow base e size v' (n + m) (xs ++ news) → w.grownBy w' v.ownBlock → (v'.ownBlock = v.ownBlock ∨ v'.ownBlock = some w.heap.size) → K (a.put o.dst v') w') :
    if Region.wanted o (yielded ops a.tmps) = true then Oper.wp P o a w K Q else E := by
  have hw : Region.wanted o (yielded ops a.tmps) = true := by simp [Region.wanted, hgd]
  rw [if_pos hw]
  obtain ⟨i, hi, hz0, hz1, hz2⟩ := info_parts hinfo
  cases ax with
  | some ad =>
    have hnews : ∀ j u, news[j]? = some u → w.cell? (ad.add j) = some u := by
      rcases hsrc with h0 | ⟨ad', e', hc⟩
      · subst h0
        have : news = [] := List.eq_nil_of_length_eq_zero (by simpa using hl)
        subst this
        intro j u hj
        simp at hj
      · cases e'
        exact hc
    obtain ⟨v', w', hr, h2, h3, _, h5⟩ := run_append_own_at (P := P) w base t o.type e i z size bytes ht hi hz0 hz1 hz2 hzs hsz v n xs hown ad m c news hl hnews h1 h63 hbytes hbase
    unfold Oper.wp execOp
    simp only [ho, resolve, invoke, builtin, Sem.run_bind, Sem.run_pure, Result.andThen_ok, List.map_toArray, List.map_cons, List.map_nil, hs, hx, hr]
    exact h v' w' h2 h3 h5
  | none =>
    have hm : m = 0 := by
      rcases hsrc with h0 | ⟨ad', e', _⟩
      · exact h0
      · cases e'
    subst hm
    have hn : news = [] := List.eq_nil_of_length_eq_zero (by simpa using hl)
    subst hn
    have hr : (Builtin.append_ #[t, t] o.type #[v, .slice none 0 c]).run P w = .ok v w := by
      rcases hown.2 with ⟨rfl, rfl⟩ | ⟨g, cap, cur, rfl, _, _, hnc, _⟩
      · simp [Builtin.append_, run_underlying ht, sizeOf, typeInfo, hi, Builtin.lenOf, Builtin.firstCells]
      · simp [Builtin.append_, run_underlying ht, sizeOf, typeInfo, hi, Builtin.lenOf, Builtin.firstCells, hnc, storeCells]
    unfold Oper.wp execOp
    simp only [ho, resolve, invoke, builtin, Sem.run_bind, Sem.run_pure, Result.andThen_ok, List.map_toArray, List.map_cons, List.map_nil, hs, hx, hr]
    exact h v w (by simpa using hown) ⟨rfl, rfl, rfl, Nat.le_refl _, fun _ _ _ => rfl⟩ (.inl rfl)

/-- Two rows of pieces of one's own, side by side. -/
structure Two (base : Nat) (e : TypeId) (w : World) (va vb : Value) (A B : List PC) (wr : World) : Prop where
  oa : wr.ownsRow base e 3 va A.length (pcs A)
  ob : wr.ownsRow base e 3 vb B.length (pcs B)
  ap : Ap va vb
  bl : Below base w wr
  sz : base ≤ wr.heap.size

theorem Two.alloc {base : Nat} {e : TypeId} {w wr : World} {va vb : Value} {A B : List PC} (h : Two base e w va vb A B wr) (o : Obj) : Two base e w va vb A B (wr.alloc o) :=
  ⟨h.oa.alloc o, h.ob.alloc o, h.ap, h.bl.alloc h.sz o, by have := h.sz; simp; omega⟩

theorem own_keep {w w' : World} {base : Nat} {e : TypeId} {size : Nat} {v : Value} {n : Nat} {xs : List Value} (h : w.ownsRow base e size v n xs) (hb : Below w.heap.size w w') : w'.ownsRow base e size v n xs :=
  h.kept (row := none) ⟨hb.os, hb.tape, hb.output, hb.size, fun k hk _ => hb.block k hk⟩ (by cases hv : v.ownBlock <;> simp)

theorem Two.below {base : Nat} {e : TypeId} {w wr w' : World} {va vb : Value} {A B : List PC} (h : Two base e w va vb A B wr) (hb : Below wr.heap.size wr w') : Two base e w va vb A B w' :=
  ⟨own_keep h.oa hb, own_keep h.ob hb, h.ap, h.bl.trans (hb.mono h.sz), Nat.le_trans h.sz hb.size⟩

theorem Two.appA {base : Nat} {e : TypeId} {w wr w1 : World} {va vb v' : Value} {A B C : List PC} (h : Two base e w va vb A B wr) (ho : w1.ownsRow base e 3 v' (A.length + C.length) (pcs A ++ pcs C)) (hg : wr.grownBy w1 va.ownBlock) (hat : v'.ownBlock = va.ownBlock ∨ v'.ownBlock = some wr.heap.size) : Two base e w v' vb (A ++ C) B w1 := by
  refine ⟨by rw [List.length_append, pcs_append]; exact ho, h.ob.kept hg ?_, fun k e1 e2 => ?_, h.bl.grown hg h.sz (own_lo h.oa), Nat.le_trans h.sz hg.size⟩
  · cases hv : vb.ownBlock with
    | none => left; rfl
    | some k => right; intro e'; exact h.ap k e'.symm hv
  · rcases hat with ha | ha
    · exact h.ap k (ha ▸ e1) e2
    · rw [ha] at e1
      have := (h.ob.lt k e2).2
      simp at e1
      omega

theorem Two.swap {base : Nat} {e : TypeId} {w wr : World} {va vb : Value} {A B : List PC} (h : Two base e w va vb A B wr) : Two base e w vb va B A wr := ⟨h.ob, h.oa, h.ap.symm, h.bl, h.sz⟩

theorem Two.appB {base : Nat} {e : TypeId} {w wr w1 : World} {va vb v' : Value} {A B C : List PC} (h : Two base e w va vb A B wr) (ho : w1.ownsRow base e 3 v' (B.length + C.length) (pcs B ++ pcs C)) (hg : wr.grownBy w1 vb.ownBlock) (hat : v'.ownBlock = vb.ownBlock ∨ v'.ownBlock = some wr.heap.size) : Two base e w va v' A (B ++ C) w1 :=
  (h.swap.appA ho hg hat).swap

/-- The three cells of one piece, laid in a new block. -/
theorem one_piece (w : World) (t : TypeId) (p : PC) : ∀ j u, (pcs [p])[j]? = some u → (w.alloc (.cells #[.bool p.ad, .int .i64 p.fr, .int .i64 p.sz] t)).cell? ((⟨w.heap.size, 0, none⟩ : Addr).add j) = some u := by
  intro j u hj
  have hr := row3 w t (.bool p.ad) (.int .i64 p.fr) (.int .i64 p.sz)
  have hlt : j < 3 := by have := (List.getElem?_eq_some_iff.1 hj).1; simpa [pcs] using this
  rw [Addr.add_mid, Nat.zero_add, hr.cell hlt, ← hj]
  have : j = 0 ∨ j = 1 ∨ j = 2 := by omega
  rcases this with rfl | rfl | rfl <;> simp [pcs, r3]

end Go.Proofs.Ytaihlcfpkabonaa
