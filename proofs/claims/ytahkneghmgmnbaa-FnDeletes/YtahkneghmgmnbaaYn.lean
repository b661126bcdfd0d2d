/- What the law on deletes holds on to. -/
import Derived.Test.YtahkneghmgmnbaaYk
namespace Go.Proofs.Ytahkneghmgmnbaa
open Go.RowKit
set_option linter.unusedVariables false

/-- The tables that the law on deletes has, in their boxes. -/
structure LD (w : World) (bt br bx bc : Nat) (tv : Value × Value × Value) (t : TB) (rc : Int) (rv : Value × Value × Value) (R : TB) (xv : Value × Value × Value) (X : TB) (cc : Int) (cv : Value × Value × Value) (C : TB) (W : World) : Prop where
  bw : Below w.heap.size w W
  wt : W.rowIs bt 26 3 (r3 tv.1 tv.2.1 tv.2.2)
  wr : W.rowIs br 30 4 (r4 (.int .i64 rc) rv.1 rv.2.1 rv.2.2)
  wx : W.rowIs bx 26 3 (r3 xv.1 xv.2.1 xv.2.2)
  wc : W.rowIs bc 30 4 (r4 (.int .i64 cc) cv.1 cv.2.1 cv.2.2)
  tt : TAtC W (.agg #[tv.1, tv.2.1, tv.2.2]) t
  rr : TAtC W (.agg #[rv.1, rv.2.1, rv.2.2]) R
  xx : TAtC W (.agg #[xv.1, xv.2.1, xv.2.2]) X
  cc_ : TAtC W (.agg #[cv.1, cv.2.1, cv.2.2]) C

theorem LD.below {w W W' : World} {bt br bx bc : Nat} {tv : Value × Value × Value} {t : TB} {rc : Int} {rv : Value × Value × Value} {R : TB} {xv : Value × Value × Value} {X : TB} {cc : Int} {cv : Value × Value × Value} {C : TB} (h : LD w bt br bx bc tv t rc rv R xv X cc cv C W) (hb : Below W.heap.size W W') : LD w bt br bx bc tv t rc rv R xv X cc cv C W' :=
  ⟨h.bw.trans (hb.mono h.bw.size), rowB h.wt hb, rowB h.wr hb, rowB h.wx hb, rowB h.wc hb, h.tt.below hb, h.rr.below hb, h.xx.below hb, h.cc_.below hb⟩

/-- Later the text beside them. -/
structure LE (w : World) (bt br bq : Nat) (tv : Value × Value × Value) (t : TB) (rc : Int) (rv : Value × Value × Value) (R : TB) (qc : Int) (pq : Option Addr) (cq : Nat) (Q : List Int) (W : World) : Prop where
  bw : Below w.heap.size w W
  wt : W.rowIs bt 26 3 (r3 tv.1 tv.2.1 tv.2.2)
  wr : W.rowIs br 30 4 (r4 (.int .i64 rc) rv.1 rv.2.1 rv.2.2)
  wq : W.rowIs bq 33 2 (p2 (.int .i64 qc) (.slice pq Q.length cq))
  tt : TAtC W (.agg #[tv.1, tv.2.1, tv.2.2]) t
  rr : TAtC W (.agg #[rv.1, rv.2.1, rv.2.2]) R
  qq : BAt W pq Q

theorem LE.below {w W W' : World} {bt br bq : Nat} {tv : Value × Value × Value} {t : TB} {rc : Int} {rv : Value × Value × Value} {R : TB} {qc : Int} {pq : Option Addr} {cq : Nat} {Q : List Int} (h : LE w bt br bq tv t rc rv R qc pq cq Q W) (hb : Below W.heap.size W W') : LE w bt br bq tv t rc rv R qc pq cq Q W' :=
  ⟨h.bw.trans (hb.mono h.bw.size), rowB h.wt hb, rowB h.wr hb, rowB h.wq hb, h.tt.below hb, h.rr.below hb, h.qq.below hb⟩

/-- A table without a fault, in one piece. -/
theorem comp_good {t : TB} (h1 : U8 t.base) (h2 : U8 t.more) (h : fault t = 0) : fault (compT t) = 0 ∧ textVal (compT t) = text t ∧ textVal t = text t ∧ (compT t).pcs.length ≤ 1 := by
  have hl := (text_len h).2
  have g := (good_new (u8_text h1 h2) hl).fz
  have e : compT t = newT (text t) := by unfold compT; rw [if_pos h]
  rw [e]
  refine ⟨g, ?_, ?_, ?_⟩
  · unfold textVal; rw [if_pos g, new_text]
  · unfold textVal; rw [if_pos h]
  · show (newPcs (text t)).length ≤ 1
    unfold newPcs; split <;> simp

theorem two_rows {w : World} {base k m : Nat} {v : Value} {l : List Int} (hk : k ≤ l.length) (h : w.ownsRow base 5 1 v (0 + k + (l.length - m)) ([] ++ bcs (l.take k) ++ bcs (l.drop m))) : OB w v (l.take k ++ l.drop m) := by
  refine (OB.of_own (base := base) ?_).1
  rw [bcs_append, List.length_append, List.length_take, List.length_drop]
  rw [List.nil_append, Nat.zero_add] at h
  rw [Nat.min_eq_left hk]
  exact h

end Go.Proofs.Ytahkneghmgmnbaa
