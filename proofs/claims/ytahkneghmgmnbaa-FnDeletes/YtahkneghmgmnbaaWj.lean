/- Walks: the text of a table, the model's side. -/
import Derived.Test.YtahkneghmgmnbaaWi
import Derived.Test.YtahkneghmgmnbaaTxt
namespace Go.Proofs.Ytahkneghmgmnbaa
open Go.RowKit
set_option linter.unusedVariables false

theorem kept2 (w : World) (g o1 o2 : Nat) (v1 v2 : Value) : KeptIn g (g + 1) w ((w.setCell ⟨g, o1, none⟩ v1).setCell ⟨g, o2, none⟩ v2) :=
  ((KeptIn.refl g (g + 1) w).setCell (p := ⟨g, o1, none⟩) (Nat.le_refl _) (Nat.lt_succ_self _) _).setCell (p := ⟨g, o2, none⟩) (Nat.le_refl _) (Nat.lt_succ_self _) _

theorem l1Of_val (tb pb po : Nat) (a b v : Value) (ad : Bool) (w : World) (h0 : w.cell? ⟨tb, 0, none⟩ = some a) (h1 : w.cell? ⟨tb, 1, none⟩ = some b) (h2 : w.cell? ⟨pb, po, none⟩ = some (.bool ad)) (hv : v = if ad then b else a) :
    Calls Try.prog 63 #[.pointer (some ⟨tb, 0, none⟩), .pointer (some ⟨pb, po, none⟩)] w fun e w' => e = .returned v ∧ w' = w := by
  rw [hv]; exact l1Of_any tb pb po a b ad w h0 h1 h2

/-- The store of a piece, as a slice in memory. -/
theorem store_at {w : World} {a1 a2 : Option Addr} {c1 c2 : Nat} {t : TB} (p : PC) (h1 : BAt w a1 t.base) (h2 : BAt w a2 t.more) (h0 : 0 < (store t p).length) (k1 : t.base.length ≤ c1) (k2 : t.more.length ≤ c2) :
    ∃ b o c, (if p.ad then Value.slice a2 t.more.length c2 else Value.slice a1 t.base.length c1) = .slice (some ⟨b, o, none⟩) (store t p).length c ∧ (store t p).length ≤ c ∧ b < w.heap.size ∧ ∀ k, k < (store t p).length → w.cell? ⟨b, o + k, none⟩ = some (bv (store t p) k) := by
  unfold store at *
  cases hp : p.ad <;> rw [hp] at h0
  · rcases h1 with h1 | ⟨b, o, rfl, hb, hc⟩
    · simp [h1] at h0
    · exact ⟨b, o, c1, rfl, k1, hb, hc⟩
  · rcases h2 with h2 | ⟨b, o, rfl, hb, hc⟩
    · simp [h2] at h0
    · exact ⟨b, o, c2, rfl, k2, hb, hc⟩

set_option maxRecDepth 100000 in
set_option maxHeartbeats 800000 in
theorem l1Text_any (tb : Nat) (a1 a2 a3 : Option Addr) (c1 c2 c3 : Nat) (t : TB) (w : World) (h0 : w.cell? ⟨tb, 0, none⟩ = some (.slice a1 t.base.length c1)) (h1 : w.cell? ⟨tb, 1, none⟩ = some (.slice a2 t.more.length c2))
    (h2 : w.cell? ⟨tb, 2, none⟩ = some (.slice a3 t.pcs.length c3)) (hlt : tb < w.heap.size) (hb1 : BAt w a1 t.base) (hb2 : BAt w a2 t.more) (hp : PAt w a3 t.pcs) (kc1 : t.base.length ≤ c1) (kc2 : t.more.length ≤ c2) (hf : fault t = 0) :
    Calls Try.prog 56 #[.pointer (some ⟨tb, 0, none⟩)] w fun e w' => ∃ v, e = .returned v ∧ OB w' v (text t) ∧ In w.heap.size w'.heap.size v ∧ Below w.heap.size w w' := by
  obtain ⟨m1, m2, m3, _, _⟩ := fault_zero hf
  go_enter Try.func56, Try.ntmps56
  go_wp2
  go_loopw [3, 4] (fun v i wr => ∃ k : Nat, k ≤ t.pcs.length ∧ i = .int .i64 k ∧ wr.ownsRow w.heap.size 5 1 v (ptext t (t.pcs.take k)).length (bcs (ptext t (t.pcs.take k))) ∧ Below w.heap.size w wr) (fun _ i _ => t.pcs.length - (intOf i).toNat)
  case atStart => exact ⟨0, Nat.zero_le _, rfl, World.ownsRow_lit w #[] 0 (Nat.le_refl _) (by decide) rfl, below_new w _⟩
  case round =>
    obtain ⟨k, hk, rfl, hown, hbl⟩ := hrel
    have q0 : wr.cell? ⟨tb, 0, none⟩ = some (.slice a1 t.base.length c1) := (hbl.cell hlt).trans h0
    have q1 : wr.cell? ⟨tb, 1, none⟩ = some (.slice a2 t.more.length c2) := (hbl.cell hlt).trans h1
    have q2 : wr.cell? ⟨tb, 2, none⟩ = some (.slice a3 t.pcs.length c3) := (hbl.cell hlt).trans h2
    by_cases hlk : k < t.pcs.length
    · rcases hp with hp | ⟨b, o, rfl, hbs, hc⟩
      · exact absurd hlk (by rw [hp]; exact Nat.not_lt_zero _)
      obtain ⟨g1, g2, g3⟩ := hc k hlk
      obtain ⟨f, z, e1, e2, hz, hfz, epb, elen⟩ := lies_nat (lies_k hf k hlk)
      have hle := ptext_le hf k hk
      rw [e1] at g2
      rw [e2] at g3
      obtain ⟨sb, so, sc, esv, hcp, hsb, hsc⟩ := store_at (c1 := c1) (c2 := c2) (pc t.pcs k) hb1 hb2 (by omega) kc1 kc2
      have hst : (store t (pc t.pcs k)).length ≤ 2000 := by unfold store; split <;> omega
      have p1 : wr.cell? ⟨b, o + k * 3, none⟩ = some (.bool (pc t.pcs k).ad) := (hbl.cell hbs).trans g1
      have p2 : wr.cell? ⟨b, o + k * 3 + 1, none⟩ = some (.int .i64 f) := (hbl.cell hbs).trans g2
      have p3 : wr.cell? ⟨b, o + k * 3 + 2, none⟩ = some (.int .i64 z) := (hbl.cell hbs).trans g3
      have hsrc : BAt wr (some ⟨sb, so + f, none⟩) (pbytes t (pc t.pcs k)) := by
        rw [epb]; exact BAt.sub (fun j hj => (hbl.cell (p := ⟨sb, so + j, none⟩) hsb).trans (hsc j hj)) (Nat.lt_of_lt_of_le hsb hbl.size) hfz
      have HT := Hid.mk' (ptext_take t t.pcs k hlk)
      have HB := Hid.mk' hbl
      have HS := Hid.mk' hsrc
      have HV := Hid.mk' esv
      have HE := Hid.mk' elen
      have HO := Hid.mk' hown
      have hnl := (store t (pc t.pcs k)).length
      generalize hn : (store t (pc t.pcs k)).length = n at *
      clear hc g1 g2 g3 hbl h0 h1 h2 hb1 hb2 e1 e2 epb elen esv hsc hsrc hown hn hnl
      have HF := Hid.mk' hf
      have i0 : ¬ sc = f := by omega
      have iw : IntKind.i64.wrap ((f : Int) + (z : Int)) = (f : Int) + (z : Int) := by rw [IntKind.wrap_i64]; omega
      have it : ((f : Int) + (z : Int)).toNat - f = z := by omega
      have i1 : (0 : Int) ≤ (f : Int) := by omega
      have i2 : (f : Int) ≤ (f : Int) + (z : Int) := by omega
      have i3 : (f : Int) + (z : Int) ≤ (sc : Int) := by omega
      clear hf
      go_wp2
      go_region_held3 (fun w' => w'.cell? ⟨b, o + k * 3, none⟩ = some (.bool (pc t.pcs k).ad) ∧ w'.cell? ⟨b, o + k * 3 + 1, none⟩ = some (.int .i64 f) ∧ w'.cell? ⟨b, o + k * 3 + 2, none⟩ = some (.int .i64 z)) (simp [*])
        (first | (refine step_append_any rfl (.tmp 22) (.tmp 39) 22 rfl w.heap.size 5 (.int .u8 0) 1 1 Try.underlying22 Try.info5 rfl (by decide) u3 _ _ rfl HO.out.drew ⟨sb, so + f, none⟩ z _ (bcs (pbytes t (pc t.pcs k))) rfl (by rw [bcs_len, HE.out]) (HS.out.below (Below.refl _ _).drew).cells (bcs_one _) (by unfold maxLen; omega) (by omega) HB.out.size ?_; intro v1 w1 ho1 hg1; have hx1 := grown_cells hg1 (own_lo HO.out) HB.out.size; simp at hx1) | (go_at_call 63; refine (l1Of_val tb b (o + k * 3) _ _ _ _ _ (by exact q0) (by exact q1) (by exact p1) HV.out.symm).mono ?_; rintro e w' ⟨rfl, rfl⟩))
      have B1 := Hid.mk' (HB.out.drew.grown hg1 HB.out.size (own_lo HO.out))
      have O1 : Hid (w1.ownsRow w.heap.size 5 1 v1 (ptext t (t.pcs.take (k + 1))).length (bcs (ptext t (t.pcs.take (k + 1))))) := by
        show World.ownsRow _ _ _ _ _ _ _
        rw [HT.out, bcs_append, List.length_append, HE.out]
        exact ho1
      clear hg1 ho1 hx1 iw it i0 i1 i2 i3 q0 q1 q2 p1 p2 p3
      go_wp2
      go_roundw
      case rel => exact ⟨k + 1, by omega, by go_num, O1.out, B1.out⟩
      case measure => simp [intOf]; omega
    · go_wp2
      go_ret
      have e : k = t.pcs.length := by omega
      subst e
      rw [List.take_length] at hown
      obtain ⟨ho, hlo⟩ := OB.of_own hown
      exact ⟨_, rfl, ho, fun j hj => ⟨hlo j hj, ho.lt j hj⟩, hbl⟩

/-- The bytes that are told beside the code. -/
def textVal (t : TB) : List Int := if fault t = 0 then text t else []

end Go.Proofs.Ytahkneghmgmnbaa
