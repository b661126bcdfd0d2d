/- What the laws on inserts and deletes hold on to: the boxes of their variables, the tables and bytes that these name. -/
import Derived.Test.YtahkneghmgmnbaaYg
import Derived.Test.YtahkneghmgmnbaaSam
import Derived.Test.YtahkneghmgmnbaaYm
import Derived.Deep.RegionHeld3
namespace Go.Proofs.Ytahkneghmgmnbaa
open Go.RowKit
set_option linter.unusedVariables false

theorem size_text (t : TB) : sizeVal t = ((textVal t).length : Int) := by
  unfold sizeVal textVal
  by_cases h : fault t = 0
  · rw [if_pos h, if_pos h]; exact (text_len h).1.symm
  · rw [if_neg h, if_neg h]; rfl

theorem wft_of_fault {t : TB} (h : fault t = 0) : WFT t := fun k hk => by
  have h3 := (fault_zero h)
  rw [pc_get _ _ hk]
  have hb := lies_bounds (List.all_eq_true.1 (fault_zero h).2.2.2.1 _ (List.getElem_mem hk))
  unfold room at hb
  obtain ⟨h1, h2, _⟩ := fault_zero h
  split at hb <;> omega

theorem new_text {l : List Int} : text (newT l) = l := by
  unfold text newT newPcs
  by_cases h : l.length = 0
  · have : l = [] := List.length_eq_zero_iff.1 h
    subst this; rfl
  · simp only [if_neg h, ptext, List.flatMap_cons, List.flatMap_nil, List.append_nil]
    simp [pbytes, store]

theorem new_fault {l : List Int} (hu : U8 l) (h : ¬ 240 < l.length) : newCode l = 0 ∧ fault (newTR l) = 0 ∧ textVal (newTR l) = l := by
  have g := (good_new hu (by omega)).fz
  have e : newTR l = newT l := by unfold newTR; rw [if_neg h]
  rw [e]
  refine ⟨by unfold newCode; rw [if_neg h], g, ?_⟩
  unfold textVal
  rw [if_pos g, new_text]

theorem new_big {l : List Int} (h : 240 < l.length) : newCode l = 6 := by unfold newCode; rw [if_pos h]

theorem ob_form {w : World} {v : Value} {l : List Int} (h : OB w v l) : ∃ a c, v = .slice a l.length c ∧ BAt w a l ∧ l.length ≤ c ∧ ((a = none ∧ c = 0 ∧ l = []) ∨ ∃ g, a = some ⟨g, 0, none⟩) := by
  obtain ⟨a, c, e, hb, hc⟩ := h.cap
  refine ⟨a, c, e, hb, hc, ?_⟩
  rcases h with ⟨hv, hl⟩ | ⟨g, cap, cn, f, hv, _⟩
  · subst hl; rw [e] at hv; simp at hv; exact .inl ⟨hv.1, hv.2, rfl⟩
  · rw [e] at hv; simp at hv; exact .inr ⟨g, hv.1⟩

/-- Bytes of a table's text are bytes. -/
theorem u8_text {t : TB} (h1 : U8 t.base) (h2 : U8 t.more) : U8 (text t) := by
  intro x hx
  unfold text ptext at hx
  obtain ⟨p, _, hp⟩ := List.mem_flatMap.1 hx
  unfold pbytes at hp
  have := List.mem_of_mem_drop (List.mem_of_mem_take hp)
  unfold store at this
  split at this
  · exact h2 x this
  · exact h1 x this

theorem sameT_refl (t : TB) : sameT t t = true := by
  unfold sameT
  rw [samePcs_all t.pcs t.pcs rfl (fun k _ => by unfold peq; simp)]
  simp

/-- The bytes of a slice up to a place, and from it on. -/
theorem BAt.upto {w : World} {g k : Nat} {l : List Int} (h : BAt w (some ⟨g, 0, none⟩) l) (hk : k ≤ l.length) : BAt w (some ⟨g, 0, none⟩) (l.take k) := by
  rcases h with h0 | ⟨b, o, e, hb, hc⟩
  · left; subst h0; simp
  · cases e
    have := BAt.sub (f := 0) (z := k) hc hb (by omega)
    simpa using this
theorem BAt.from {w : World} {g k : Nat} {l : List Int} (h : BAt w (some ⟨g, 0, none⟩) l) (hk : k ≤ l.length) : BAt w (some ⟨g, k, none⟩) (l.drop k) := by
  rcases h with h0 | ⟨b, o, e, hb, hc⟩
  · left; subst h0; simp
  · cases e
    have := BAt.sub (f := k) (z := l.length - k) hc hb (by omega)
    rw [List.take_of_length_le (by simp)] at this
    simpa using this

theorem src_upto {w : World} {g k : Nat} {l : List Int} (h : BAt w (some ⟨g, 0, none⟩) l) (hk : k ≤ l.length) : k = 0 ∨ ∃ ad, some (⟨g, 0, none⟩ : Addr) = some ad ∧ ∀ j u, (bcs (l.take k))[j]? = some u → w.cell? (ad.add j) = some u := by
  rcases (h.upto hk).src with h0 | h1
  · left; rw [List.length_take] at h0; omega
  · exact .inr h1
theorem src_from {w : World} {g k cq : Nat} {l : List Int} (h : BAt w (some ⟨g, 0, none⟩) l) (hk : k ≤ l.length) (hc : l.length ≤ cq) : l.length - k = 0 ∨ ∃ ad, (if cq = k then some (⟨g, 0, none⟩ : Addr) else some ⟨g, k, none⟩) = some ad ∧ ∀ j u, (bcs (l.drop k))[j]? = some u → w.cell? (ad.add j) = some u := by
  by_cases e : cq = k
  · left; omega
  · rw [if_neg e]
    rcases (h.from hk).src with h0 | h1
    · left; rw [List.length_drop] at h0; omega
    · exact .inr h1
theorem len_upto {l : List Int} {k : Nat} (hk : k ≤ l.length) : (bcs (l.take k)).length = k * 1 := by rw [bcs_len, List.length_take]; omega
theorem len_from {l : List Int} {k : Nat} : (bcs (l.drop k)).length = (l.length - k) * 1 := by rw [bcs_len, List.length_drop]

/-- The three rows, one behind the other. -/
theorem three_rows {w : World} {base k : Nat} {v : Value} {l d : List Int} (hk : k ≤ l.length) (h : w.ownsRow base 5 1 v (0 + k + d.length + (l.length - k)) ([] ++ bcs (l.take k) ++ bcs d ++ bcs (l.drop k))) : OB w v ((l.take k ++ d) ++ l.drop k) := by
  refine (OB.of_own (base := base) ?_).1
  rw [bcs_append, bcs_append, List.length_append, List.length_append, List.length_take, List.length_drop]
  rw [List.nil_append, Nat.zero_add] at h
  rw [Nat.min_eq_left hk]
  exact h

/-- What the law on inserts holds on to. -/
structure LI (w : World) (bt br bq bx : Nat) (tv : Value × Value × Value) (t : TB) (rc : Int) (rv : Value × Value × Value) (R : TB) (qc : Int) (pq : Option Addr) (cq : Nat) (Q : List Int) (xc : Int) (xv : Value × Value × Value) (X : TB) (pd : Option Addr) (d : List Int) (pn : Option Addr) (D : List Int) (W : World) : Prop where
  bw : Below w.heap.size w W
  wt : W.rowIs bt 26 3 (r3 tv.1 tv.2.1 tv.2.2)
  wr : W.rowIs br 30 4 (r4 (.int .i64 rc) rv.1 rv.2.1 rv.2.2)
  wq : W.rowIs bq 33 2 (p2 (.int .i64 qc) (.slice pq Q.length cq))
  wx : W.rowIs bx 30 4 (r4 (.int .i64 xc) xv.1 xv.2.1 xv.2.2)
  tt : TAtC W (.agg #[tv.1, tv.2.1, tv.2.2]) t
  rr : TAtC W (.agg #[rv.1, rv.2.1, rv.2.2]) R
  xx : TAtC W (.agg #[xv.1, xv.2.1, xv.2.2]) X
  qq : BAt W pq Q
  dd : BAt W pd d
  nn : BAt W pn D

theorem LI.below {w W W' : World} {bt br bq bx : Nat} {tv : Value × Value × Value} {t : TB} {rc : Int} {rv : Value × Value × Value} {R : TB} {qc : Int} {pq : Option Addr} {cq : Nat} {Q : List Int} {xc : Int} {xv : Value × Value × Value} {X : TB} {pd : Option Addr} {d : List Int} {pn : Option Addr} {D : List Int} (h : LI w bt br bq bx tv t rc rv R qc pq cq Q xc xv X pd d pn D W) (hb : Below W.heap.size W W') : LI w bt br bq bx tv t rc rv R qc pq cq Q xc xv X pd d pn D W' :=
  ⟨h.bw.trans (hb.mono h.bw.size), rowB h.wt hb, rowB h.wr hb, rowB h.wq hb, rowB h.wx hb, h.tt.below hb, h.rr.below hb, h.xx.below hb, h.qq.below hb, h.dd.below hb, h.nn.below hb⟩

theorem fTR0 (c : Int) (x y z : Value) (w : World) : (Instr.field 30 (.agg #[.int .i64 c, x, y, z]) 0).run Try.prog w = .ok (.int .i64 c) w := by kernel_rfl
theorem fTR1 (c : Int) (x y z : Value) (w : World) : (Instr.field 30 (.agg #[.int .i64 c, x, y, z]) 1).run Try.prog w = .ok (.agg #[x, y, z]) w := by kernel_rfl
theorem fBR0 (c : Int) (x : Value) (w : World) : (Instr.field 33 (.agg #[.int .i64 c, x]) 0).run Try.prog w = .ok (.int .i64 c) w := by kernel_rfl
theorem fBR1 (c : Int) (a : Option Addr) (n d : Nat) (w : World) : (Instr.field 33 (.agg #[.int .i64 c, .slice a n d]) 1).run Try.prog w = .ok (.slice a n d) w := by kernel_rfl
theorem fIR0 (c v : Int) (w : World) : (Instr.field 40 (.agg #[.int .i64 c, .int .i64 v]) 0).run Try.prog w = .ok (.int .i64 c) w := by kernel_rfl
theorem fIR1 (c v : Int) (w : World) : (Instr.field 40 (.agg #[.int .i64 c, .int .i64 v]) 1).run Try.prog w = .ok (.int .i64 v) w := by kernel_rfl

end Go.Proofs.Ytahkneghmgmnbaa
