/- Plain mathematics of a table's text; append and copy as one step of a region that draws its order. -/
import Derived.Test.YtaihlcfpkabonaaApp
namespace Go.Proofs.Ytaihlcfpkabonaa
open Go.RowKit
set_option linter.unusedVariables false

/-- The store that a piece is of. -/
def store (t : TB) (p : PC) : List Int := if p.ad then t.more else t.base
/-- The bytes of a piece. -/
def pbytes (t : TB) (p : PC) : List Int := ((store t p).drop p.fr.toNat).take p.sz.toNat
/-- The text of pieces. -/
def ptext (t : TB) (l : List PC) : List Int := l.flatMap (pbytes t)
/-- The text of a table. -/
def text (t : TB) : List Int := ptext t t.pcs

theorem room_store (t : TB) (p : PC) : room t p = ((store t p).length : Int) := by unfold room store; split <;> rfl

theorem ptext_take (t : TB) (l : List PC) (k : Nat) (h : k < l.length) : ptext t (l.take (k + 1)) = ptext t (l.take k) ++ pbytes t (pc l k) := by
  unfold ptext
  rw [take_snoc l k h, List.flatMap_append, pc_get l k h]
  simp

/-- A piece that lies in its store, in numbers from 0 on. -/
theorem lies_nat {t : TB} {p : PC} (h : lies t p = true) : ∃ f z : Nat, p.fr = f ∧ p.sz = z ∧ 1 ≤ z ∧ f + z ≤ (store t p).length ∧ pbytes t p = ((store t p).drop f).take z ∧ (pbytes t p).length = z := by
  obtain ⟨h1, h2, h3⟩ := lies_bounds h
  rw [room_store] at h3
  refine ⟨p.fr.toNat, p.sz.toNat, by omega, by omega, by omega, by omega, rfl, ?_⟩
  unfold pbytes
  rw [List.length_take, List.length_drop]
  omega

theorem lies_k {t : TB} (h : fault t = 0) (k : Nat) (hk : k < t.pcs.length) : lies t (pc t.pcs k) = true := by
  obtain ⟨_, _, _, ha, _⟩ := fault_zero h
  rw [pc_get _ _ hk]
  exact List.all_eq_true.1 ha _ (List.getElem_mem hk)

theorem ptext_len {t : TB} (h : fault t = 0) : ∀ k, k ≤ t.pcs.length → ((ptext t (t.pcs.take k)).length : Int) = total (t.pcs.take k) := by
  intro k
  induction k with
  | zero => intro _; simp [ptext, total]
  | succ k ih =>
    intro hk
    obtain ⟨f, z, e1, e2, _, _, _, e3⟩ := lies_nat (lies_k h k (by omega))
    rw [ptext_take _ _ _ (by omega), total_take _ _ (by omega), List.length_append, e2, ← ih (by omega), e3]
    omega

theorem text_len {t : TB} (h : fault t = 0) : ((text t).length : Int) = total t.pcs ∧ (text t).length ≤ 240 := by
  have := ptext_len h t.pcs.length (Nat.le_refl _)
  rw [List.take_length] at this
  have h5 := (fault_zero h).2.2.2.2
  unfold text
  omega

theorem ptext_le {t : TB} (h : fault t = 0) (k : Nat) (hk : k ≤ t.pcs.length) : (ptext t (t.pcs.take k)).length ≤ 80000 := by
  have h1 := ptext_len h k hk
  have h2 := (fault_small h).total_le k hk
  have h3 := (fault_small h).1
  omega

/-- Bytes from place f on, z of them. -/
theorem BAt.sub {w : World} {b o f z : Nat} {l : List Int} (hc : ∀ k, k < l.length → w.cell? ⟨b, o + k, none⟩ = some (bv l k)) (hb : b < w.heap.size) (h : f + z ≤ l.length) : BAt w (some ⟨b, o + f, none⟩) ((l.drop f).take z) := by
  refine .inr ⟨b, o + f, rfl, hb, fun k hk => ?_⟩
  rw [List.length_take, List.length_drop] at hk
  have hk' : k < z := by omega
  rw [show o + f + k = o + (f + k) from by omega, hc (f + k) (by omega)]
  unfold bv
  congr 2
  simp [hk']

/-- append(v, x...) as one step of a region that draws its order. -/
theorem step_append_any {P : Program} {ops : Array Oper} {o : Oper} {a : Act} {w : World} {K : Act → World → Prop} {Q : Exit → Act → World → Prop} {E : Prop} (hgd : o.guard = none) (s x : Operand) (t : TypeId)
    (ho : o.op = .call { callee := .builtin .append, args := #[s, x], argTypes := #[t, t] })
    (base : Nat) (e : TypeId) (z : Value) (size bytes : Nat) (ht : P.underlying t = some (.slice e)) (hinfo : (P.info? e).map (fun i => (i.zero, i.size, i.bytes)) = some (some z, size, bytes))
    (hzs : z.cells.size = size) (hsz : 0 < size)
    (v : Value) (n : Nat) (xs : List Value) (hs : a.eval s = v) (hown : w.ownsRow base e size v n xs)
    (ad : Addr) (m c : Nat) (news : List Value) (hx : a.eval x = .slice (some ad) m c) (hl : news.length = m * size)
    (hsrc : ∀ j u, news[j]? = some u → w.cell? (ad.add j) = some u) (h1 : ∀ u ∈ news, u.oneCell' = true)
    (h63 : n + m ≤ maxLen) (hbytes : (n + m) * bytes ≤ 140737488355328) (hbase : base ≤ w.heap.size)
    (h : ∀ v' w', w'.ownsRow base e size v' (n + m) (xs ++ news) → w.grownBy w' v.ownBlock → K (a.put o.dst v') w') :
    if Region.wanted o (yielded ops a.tmps) = true then Oper.wp P o a w K Q else E := by
  have hw : Region.wanted o (yielded ops a.tmps) = true := by simp [Region.wanted, hgd]
  rw [if_pos hw]
  obtain ⟨i, hi, hz0, hz1, hz2⟩ := info_parts hinfo
  exact wp_append_own w s x t ho base e i z size bytes ht hi hz0 hz1 hz2 hzs hsz v n xs hs hown ad m c news hx hl hsrc h1 h63 hbytes hbase fun v' w' h2 h3 _ => h v' w' h2 h3

/-- Behind an append to a row of one's own the cells below B are as they were. -/
theorem grown_cells {B : Nat} {w w1 : World} {row : Option Nat} (hg : w.grownBy w1 row) (hr : ∀ k, row = some k → B ≤ k) (hB : B ≤ w.heap.size) : ∀ b o, b < B → w1.cell? ⟨b, o, none⟩ = w.cell? ⟨b, o, none⟩ := by
  intro b o hb
  exact World.cell?_of_block (hg.block b (by omega) (fun e => by have := hr b e.symm; omega))

theorem BAt.cells {w : World} {ad : Addr} {l : List Int} (h : BAt w (some ad) l) : ∀ j u, (bcs l)[j]? = some u → w.cell? (ad.add j) = some u := by
  rcases h.src with h0 | ⟨ad', e, hc⟩
  · have : l = [] := List.eq_nil_of_length_eq_zero h0
    subst this
    intro j u hj
    simp [bcs] at hj
  · cases e; exact hc

theorem own_lo {w : World} {base : Nat} {e : TypeId} {size : Nat} {v : Value} {n : Nat} {xs : List Value} (h : w.ownsRow base e size v n xs) : ∀ k, v.ownBlock = some k → base ≤ k := fun k hk => (h.lt k hk).1

/-- copy into a row of bytes of one's own, as one step of a region that draws its order. -/
theorem step_copy_any {P : Program} {ops : Array Oper} {op : Oper} {a : Act} {w : World} {K : Act → World → Prop} {Q : Exit → Act → World → Prop} {E : Prop} (hgd : op.guard = none) (d s : Operand) (dT sT : TypeId)
    (ho : op.op = .call { callee := .builtin .copy, args := #[d, s], argTypes := #[dT, sT] }) (hu : P.underlying dT = some (.slice 5)) (hs : (P.info? 5).map (·.size) = some 1)
    (g o dn dc : Nat) (hd : a.eval d = .slice (some ⟨g, o, none⟩) dn dc) (ax : Option Addr) (m c : Nat) (hx : a.eval s = .slice ax m c) (l : List Int) (hm : l.length = m) (cn : Nat) (f : Nat → Value) (hr : w.rowIs g 5 cn f)
    (ha : BAt w ax l) (h1 : m ≤ dn) (h2 : o + m ≤ cn)
    (h : ∀ w', w'.rowIs g 5 cn (fun j => if o ≤ j ∧ j < o + m then bv l (j - o) else f j) → KeptIn g (g + 1) w w' → K (a.put op.dst (goInt m)) w') :
    if Region.wanted op (yielded ops a.tmps) = true then Oper.wp P op a w K Q else E := by
  have hw : Region.wanted op (yielded ops a.tmps) = true := by simp [Region.wanted, hgd]
  rw [if_pos hw]
  subst hm
  obtain ⟨w', hrun, hr', hk'⟩ := copy_row (P := P) dT sT op.type hu hs o dn dc hr ax c l ha h1 h2
  unfold Oper.wp
  simp [execOp, ho, resolve, invoke, builtin, hd, hx, hrun, Result.andThen]
  exact h w' hr' hk'

/-- What the text holds when the bytes of k pieces are copied. -/
def tpart (t : TB) (k j : Nat) : Value := if j < (ptext t (t.pcs.take k)).length then bv (text t) j else .int .u8 0

theorem text_split (t : TB) (k : Nat) : text t = ptext t (t.pcs.take k) ++ ptext t (t.pcs.drop k) := by
  unfold text ptext
  rw [← List.flatMap_append, List.take_append_drop]

theorem tpart_step {t : TB} {w : World} {g T k z : Nat} (hk : k < t.pcs.length) (hz : (pbytes t (pc t.pcs k)).length = z) (h : w.rowIs g 5 T (fun j => if (ptext t (t.pcs.take k)).length ≤ j ∧ j < (ptext t (t.pcs.take k)).length + z then bv (pbytes t (pc t.pcs k)) (j - (ptext t (t.pcs.take k)).length) else tpart t k j)) :
    w.rowIs g 5 T (tpart t (k + 1)) := by
  refine h.congr (fun j _ => ?_)
  have e := ptext_take t t.pcs k hk
  have el : (ptext t (t.pcs.take (k + 1))).length = (ptext t (t.pcs.take k)).length + z := by rw [e, List.length_append, hz]
  have es := text_split t (k + 1)
  by_cases c1 : j < (ptext t (t.pcs.take k)).length
  · rw [if_neg (by omega)]; unfold tpart; rw [if_pos c1, if_pos (by omega)]
  · by_cases c2 : j < (ptext t (t.pcs.take k)).length + z
    · rw [if_pos (by omega)]; unfold tpart; rw [if_pos (by omega), es, bv_append_left _ _ _ (by omega), e, bv_append_right _ _ _ (by omega)]
    · rw [if_neg (by omega)]; unfold tpart; rw [if_neg c1, if_neg (by omega)]

theorem tpart_end {t : TB} {w : World} {g : Nat} (h : w.rowIs g 5 (text t).length (tpart t t.pcs.length)) : w.rowIs g 5 (text t).length (bv (text t)) :=
  h.congr (fun j hj => by unfold tpart; rw [List.take_length]; exact if_pos hj)

theorem ptext_le_text {t : TB} (k : Nat) (hk : k < t.pcs.length) : (ptext t (t.pcs.take k)).length + (pbytes t (pc t.pcs k)).length ≤ (text t).length := by
  have e := congrArg List.length (text_split t (k + 1))
  rw [ptext_take t t.pcs k hk] at e
  simp only [List.length_append] at e
  omega

theorem grown_frozen {B : Nat} {w w1 : World} {row : Option Nat} (hg : w.grownBy w1 row) (hr : ∀ k, row = some k → B ≤ k) (hB : B ≤ w.heap.size) : ∀ b o, b < B → w1.frozen? ⟨b, o, none⟩ = w.frozen? ⟨b, o, none⟩ := by
  intro b o hb
  exact World.frozen?_of_block (hg.block b (by omega) (fun e => by have := hr b e.symm; omega))

end Go.Proofs.Ytaihlcfpkabonaa
