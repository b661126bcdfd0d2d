/- The model's WriteToken. -/
import Derived.Test.YtcjnfodkppcpoaaDoorXKa
namespace Go.Proofs.YtcjnfodkppcpoaaDoor
open Go.RowKit
set_option linter.unusedVariables false
set_option linter.unusedSimpArgs false

/-- The code and the text of a start tag. -/
def wsCode (t : TK) : Int := if 160 < (openT t.nm t.at_ t.sh).length then 6 else 0
def wsText (t : TK) : ByteArray := if 160 < (openT t.nm t.at_ t.sh).length then ⟨#[]⟩ else ⟨(openT t.nm t.at_ t.sh).toArray⟩
/-- The code and the text of a token. -/
def wtCode (t : TK) : Int := if tfault t = 0 then (if t.kd = 2 then wsCode t else 0) else tfault t
def wtText (t : TK) : ByteArray := if tfault t = 0 then (if t.kd = 1 then escB t.by_ else if t.kd = 2 then wsText t else if t.kd = 3 then (⟨#[60, 47]⟩ ++ t.nm) ++ ⟨#[62]⟩ else ⟨#[60, 33, 45, 45, 45, 45, 62]⟩) else ⟨#[]⟩

/-- What a token without a fault is like. -/
theorem fine {t : TK} (h : tfault t = 0) : (t.kd = 1 ∨ t.kd = 2 ∨ t.kd = 3 ∨ t.kd = 4) ∧ 0 ≤ t.by_ ∧ t.by_ ≤ 255 ∧ ((t.kd = 2 ∨ t.kd = 3) → t.nm.size ≤ 8) := by
  unfold tfault at h
  by_cases h1 : tform t = true
  · rw [if_pos h1] at h
    by_cases h2 : 0 ≤ t.by_ ∧ t.by_ ≤ 255
    · rw [if_pos h2] at h
      refine ⟨?_, h2.1, h2.2, fun hk => ?_⟩
      · unfold tform at h1
        simp only [Bool.and_eq_true, decide_eq_true_eq] at h1
        have := h1.1.1.1
        omega
      · by_cases h3 : (t.kd = 2 ∨ t.kd = 3) ∧ nmB t.nm = false
        · rw [if_pos h3] at h; exact absurd h (by decide)
        · have h4 : nmB t.nm = true := by
            cases e : nmB t.nm with
            | true => rfl
            | false => exact absurd ⟨hk, e⟩ h3
          unfold nmB at h4
          simp only [Bool.and_eq_true, decide_eq_true_eq] at h4
          exact h4.1.2
    · rw [if_neg h2] at h; exact absurd h (by decide)
  · rw [if_neg h1] at h; exact absurd h (by decide)

theorem wrap_byte {b : Int} (h0 : 0 ≤ b) (h1 : b ≤ 255) : IntKind.u8.wrap b = b := by unfold IntKind.wrap; simp [IntKind.bits, IntKind.signed]; omega

theorem rowR (w : World) (t : TypeId) (x y : Value) : (w.alloc (.cells #[x, y] t)).rowIs w.heap.size t 2 (fun i => if i = 0 then x else y) :=
  ⟨_, Deep.blk_alloc_new _ _, rfl, fun i hi => by
    have : i = 0 ∨ i = 1 := by omega
    rcases this with rfl | rfl <;> rfl⟩
theorem cellsR {w : World} {g : Nat} {ty : TypeId} {x y : Value} (h : w.rowIs g ty 2 (fun i => if i = 0 then x else y)) : w.cell? ⟨g, 0, none⟩ = some x ∧ w.cell? ⟨g, 1, none⟩ = some y ∧ w.frozen? ⟨g, 0, none⟩ = false ∧ w.frozen? ⟨g, 1, none⟩ = false ∧ g < w.heap.size :=
  ⟨h.cell (by omega), h.cell (by omega), h.frozen 0, h.frozen 1, h.lt⟩

set_option maxRecDepth 100000 in
set_option maxHeartbeats 3200000 in
theorem specWT_any (t : TK) (a : Option Addr) (c : Nat) (w : World) (ha : AAt w a t.at_) (hB : VB t.at_) (hc : t.at_.length ≤ c) (hn : (t.nm.size : Int) ≤ 1048576) (hl : (t.at_.length : Int) + asz t.at_ ≤ 1048576) :
    Calls Tryd.prog 74 #[.agg #[.int .i64 t.kd, .int .i64 t.by_, .string t.nm, .slice a t.at_.length c, .bool t.sh]] w fun e w' => e = .returned (.agg #[.int .i64 (wtCode t), .string (wtText t)]) ∧ Below w.heap.size w w' := by
  have N0 := below_new w (.cells #[.int .i64 t.kd, .int .i64 t.by_, .string t.nm, .slice a t.at_.length c, .bool t.sh] 105)
  have N1 := N0.alloc (by simp) (.cells #[.int .i64 0, .string ⟨#[]⟩] 85)
  have HP := Hid.mk' ((row5 w 105 (.int .i64 t.kd) (.int .i64 t.by_) (.string t.nm) (.slice a t.at_.length c) (.bool t.sh)).alloc (.cells #[.int .i64 0, .string ⟨#[]⟩] 85))
  have HR := rowR (w.alloc (.cells #[.int .i64 t.kd, .int .i64 t.by_, .string t.nm, .slice a t.at_.length c, .bool t.sh] 105)) 85 (.int .i64 0) (.string ⟨#[]⟩)
  rw [show (w.alloc (.cells #[.int .i64 t.kd, .int .i64 t.by_, .string t.nm, .slice a t.at_.length c, .bool t.sh] 105)).heap.size = w.heap.size + 1 from by simp] at HR
  have HR := Hid.mk' HR
  have HA := Hid.mk' (ha.below N1)
  have HB := Hid.mk' N1
  have HV := Hid.mk' hB
  clear ha N0 N1 hB
  have SZ : ((w.alloc (.cells #[.int .i64 t.kd, .int .i64 t.by_, .string t.nm, .slice a t.at_.length c, .bool t.sh] 105)).alloc (.cells #[.int .i64 0, .string ⟨#[]⟩] 85)).heap.size = w.heap.size + 2 := by simp
  generalize hW : (w.alloc (.cells #[.int .i64 t.kd, .int .i64 t.by_, .string t.nm, .slice a t.at_.length c, .bool t.sh] 105)).alloc (.cells #[.int .i64 0, .string ⟨#[]⟩] 85) = W at *
  have KF := Hid.mk' (l4Fault_any t w.heap.size a c W HP.out HA.out hc hn hl)
  by_cases hf : tfault t = 0
  rotate_left
  · rw [show wtCode t = tfault t from by unfold wtCode; rw [if_neg hf], show wtText t = ⟨#[]⟩ from by unfold wtText; rw [if_neg hf]]
    go_enter Tryd.func74, Tryd.ntmps74
    go_wp2_with fail
    clear hW
    refine KF.out.mono ?_
    rintro e w1 ⟨rfl, hb⟩
    have HR := Hid.mk' (rowB HR.out hb)
    have HB := Hid.mk' (HB.out.trans (hb.mono HB.out.size))
    clear hb KF
    obtain ⟨d0, d1, d2, d3, d4⟩ := cellsR HR.out
    go_wp2
    exact bodyPost_ret (v := .agg #[.int .i64 (tfault t), .string ⟨#[]⟩]) (by simp [results, Tryd.results74, go_sem, *]) rfl ⟨rfl, (HB.out.setCell (p := ⟨w.heap.size + 1, 0, none⟩) (by simp) _).setCell (p := ⟨w.heap.size + 1, 1, none⟩) (by simp) _⟩
  obtain ⟨kk, b0, b1, nn⟩ := fine hf
  rw [show wtCode t = (if t.kd = 2 then wsCode t else 0) from by unfold wtCode; rw [if_pos hf], show wtText t = (if t.kd = 1 then escB t.by_ else if t.kd = 2 then wsText t else if t.kd = 3 then (⟨#[60, 47]⟩ ++ t.nm) ++ ⟨#[62]⟩ else ⟨#[60, 33, 45, 45, 45, 45, 62]⟩) from by unfold wtText; rw [if_pos hf]]
  rw [hf] at KF
  clear hf
  rcases kk with e | e | e | e
  · -- a byte
    rw [e] at HP hW ⊢
    rw [if_neg (by decide), if_pos rfl]
    have hwb := wrap_byte b0 b1
    have e6 := escB_size t.by_
    clear nn e
    go_enter Tryd.func74, Tryd.ntmps74
    go_wp2_with fail
    clear hW
    refine KF.out.mono ?_
    rintro e w1 ⟨rfl, hb⟩
    have HP := Hid.mk' (rowB HP.out hb)
    have HR := Hid.mk' (rowB HR.out hb)
    have HB := Hid.mk' (HB.out.trans (hb.mono HB.out.size))
    clear hb KF
    obtain ⟨c0, c1, c2, c3, c4, c5⟩ := cells5 HP.out
    go_wp2_with fail
    refine (l2Byte_any t.by_ w1 b0 b1).mono ?_
    rintro e w2 ⟨rfl, hb⟩
    have HR := Hid.mk' (rowB HR.out hb)
    have HB := Hid.mk' (HB.out.trans (hb.mono HB.out.size))
    clear hb c0 c1 c2 c3 c4 c5
    obtain ⟨d0, d1, d2, d3, d4⟩ := cellsR HR.out
    have g : ¬ (160 : Int) < ((escB t.by_).size : Int) := by omega
    go_wp2
    exact bodyPost_ret (v := .agg #[.int .i64 0, .string (escB t.by_)]) (by simp [results, Tryd.results74, go_sem, *]) rfl ⟨rfl, (HB.out.setCell (p := ⟨w.heap.size + 1, 0, none⟩) (by simp) _).setCell (p := ⟨w.heap.size + 1, 1, none⟩) (by simp) _⟩
  · -- a start
    have nn := nn (.inl e)
    rw [e] at HP hW ⊢
    rw [if_pos rfl, if_neg (by decide), if_pos rfl]
    clear e
    go_enter Tryd.func74, Tryd.ntmps74
    go_wp2_with fail
    clear hW
    refine KF.out.mono ?_
    rintro e w1 ⟨rfl, hb⟩
    have HP := Hid.mk' (rowB HP.out hb)
    have HR := Hid.mk' (rowB HR.out hb)
    have HA := Hid.mk' (HA.out.below hb)
    have HB := Hid.mk' (HB.out.trans (hb.mono HB.out.size))
    clear hb KF
    obtain ⟨c0, c1, c2, c3, c4, c5⟩ := cells5 HP.out
    obtain ⟨d0, d1, d2, d3, d4⟩ := cellsR HR.out
    go_wp2
    go_loopw [5] (fun i wr => ∃ k : Nat, k ≤ t.at_.length ∧ i = .int .i64 k ∧ (∀ j, j < k → (atK t.at_ j).vl.length ≤ 160) ∧ wr = w1) (fun i _ => t.at_.length - (intOf i).toNat)
    case atStart => exact ⟨0, Nat.zero_le _, rfl, fun j h => absurd h (Nat.not_lt_zero _), rfl⟩
    case round =>
      obtain ⟨k, hk, rfl, hs, rfl⟩ := hrel
      have HS := Hid.mk' hs
      clear hs
      by_cases hlt : k < t.at_.length
      · have ci : (k : Int) < (t.at_.length : Int) := by omega
        rcases HA.out with ha | ⟨b1, o1, rfl, s1, hc1⟩
        · exact absurd hlt (by rw [ha]; exact Nat.not_lt_zero _)
        obtain ⟨x1, p1, d5, x2, x3⟩ := hc1 k hlt
        clear hc1 x3
        by_cases hv : 160 < (atK t.at_ k).vl.length
        · have E1 : Hid (wsCode t = 6) := Hid.mk' (by unfold wsCode; rw [if_pos (openT_big hlt hv)])
          have E2 : Hid (wsText t = ⟨#[]⟩) := Hid.mk' (by unfold wsText; rw [if_pos (openT_big hlt hv)])
          have g : (160 : Int) < ((atK t.at_ k).vl.length : Int) := by omega
          go_wp2
          exact bodyPost_ret (v := .agg #[.int .i64 6, .string ⟨#[]⟩]) (by simp [results, Tryd.results74, go_sem, *]) rfl ⟨by rw [E1.out, E2.out], (HB.out.setCell (p := ⟨w.heap.size + 1, 0, none⟩) (by simp) _).setCell (p := ⟨w.heap.size + 1, 1, none⟩) (by simp) _⟩
        · have g : ¬ (160 : Int) < ((atK t.at_ k).vl.length : Int) := by omega
          go_wp2
          go_roundw
          case rel => exact ⟨k + 1, by omega, by go_num, fun j hj => by
            by_cases h : j = k
            · subst h; omega
            · exact HS.out j (by omega), by first | rfl | trivial⟩
          case measure => simp [intOf]; omega
      · have ci : ¬ (k : Int) < (t.at_.length : Int) := by omega
        have e : k = t.at_.length := by omega
        subst e
        have KO := Hid.mk' (l4Open_any t.nm a c t.at_ t.sh _ HA.out HV.out HS.out hn hl)
        have SZ2 := ba_size (openT t.nm t.at_ t.sh)
        go_wp2_with fail
        refine KO.out.mono ?_
        rintro e w2 ⟨rfl, hb⟩
        have HR := Hid.mk' (rowB HR.out hb)
        have HB := Hid.mk' (HB.out.trans (hb.mono HB.out.size))
        clear hb KO c0 c1 c2 c3 c4 c5 d0 d1 d2 d3 d4
        obtain ⟨d0, d1, d2, d3, d4⟩ := cellsR HR.out
        have P1 : Hid (wsCode t = if 160 < (openT t.nm t.at_ t.sh).length then 6 else 0) := Hid.mk' rfl
        have P2 : Hid (wsText t = if 160 < (openT t.nm t.at_ t.sh).length then ⟨#[]⟩ else ⟨(openT t.nm t.at_ t.sh).toArray⟩) := Hid.mk' rfl
        generalize (openT t.nm t.at_ t.sh).length = n at *
        generalize (⟨(openT t.nm t.at_ t.sh).toArray⟩ : ByteArray) = ot at *
        subst SZ2
        by_cases hbig : 160 < ot.size
        · have E1 : Hid (wsCode t = 6) := Hid.mk' (by rw [P1.out, if_pos hbig])
          have E2 : Hid (wsText t = ⟨#[]⟩) := Hid.mk' (by rw [P2.out, if_pos hbig])
          have g : (160 : Int) < (ot.size : Int) := by omega
          clear P1 P2
          go_wp2
          exact bodyPost_ret (v := .agg #[.int .i64 6, .string ⟨#[]⟩]) (by simp [results, Tryd.results74, go_sem, *]) rfl ⟨by rw [E1.out, E2.out], (HB.out.setCell (p := ⟨w.heap.size + 1, 0, none⟩) (by simp) _).setCell (p := ⟨w.heap.size + 1, 1, none⟩) (by simp) _⟩
        · have E1 : Hid (wsCode t = 0) := Hid.mk' (by rw [P1.out, if_neg hbig])
          have E2 : Hid (wsText t = ot) := Hid.mk' (by rw [P2.out, if_neg hbig])
          have g : ¬ (160 : Int) < (ot.size : Int) := by omega
          clear P1 P2
          go_wp2
          exact bodyPost_ret (v := .agg #[.int .i64 0, .string ot]) (by simp [results, Tryd.results74, go_sem, *]) rfl ⟨by rw [E1.out, E2.out], (HB.out.setCell (p := ⟨w.heap.size + 1, 0, none⟩) (by simp) _).setCell (p := ⟨w.heap.size + 1, 1, none⟩) (by simp) _⟩
  · -- an end
    have nn := nn (.inr e)
    rw [e] at HP hW ⊢
    rw [if_neg (by decide), if_neg (by decide), if_neg (by decide), if_pos rfl]
    clear e
    have t1 : (⟨#[60, 47]⟩ : ByteArray).size = 2 := rfl
    have t2 : (⟨#[62]⟩ : ByteArray).size = 1 := rfl
    have f1 : ¬ (9223372036854775807 < 2 + t.nm.size) := by omega
    have f2 : ¬ (9223372036854775807 < 2 + t.nm.size + 1) := by omega
    have g : ¬ (160 : Int) < 2 + (t.nm.size : Int) + 1 := by omega
    go_enter Tryd.func74, Tryd.ntmps74
    go_wp2_with fail
    clear hW
    refine KF.out.mono ?_
    rintro e w1 ⟨rfl, hb⟩
    have HP := Hid.mk' (rowB HP.out hb)
    have HR := Hid.mk' (rowB HR.out hb)
    have HB := Hid.mk' (HB.out.trans (hb.mono HB.out.size))
    clear hb KF
    obtain ⟨c0, c1, c2, c3, c4, c5⟩ := cells5 HP.out
    obtain ⟨d0, d1, d2, d3, d4⟩ := cellsR HR.out
    go_wp2
    exact bodyPost_ret (v := .agg #[.int .i64 0, .string ((⟨#[60, 47]⟩ ++ t.nm) ++ ⟨#[62]⟩)]) (by simp [results, Tryd.results74, go_sem, *]) rfl ⟨rfl, (HB.out.setCell (p := ⟨w.heap.size + 1, 0, none⟩) (by simp) _).setCell (p := ⟨w.heap.size + 1, 1, none⟩) (by simp) _⟩
  · -- a note
    rw [e] at HP hW ⊢
    rw [if_neg (by decide), if_neg (by decide), if_neg (by decide), if_neg (by decide)]
    clear e nn
    have t1 : (⟨#[60, 33, 45, 45, 45, 45, 62]⟩ : ByteArray).size = 7 := rfl
    go_enter Tryd.func74, Tryd.ntmps74
    go_wp2_with fail
    clear hW
    refine KF.out.mono ?_
    rintro e w1 ⟨rfl, hb⟩
    have HP := Hid.mk' (rowB HP.out hb)
    have HR := Hid.mk' (rowB HR.out hb)
    have HB := Hid.mk' (HB.out.trans (hb.mono HB.out.size))
    clear hb KF
    obtain ⟨c0, c1, c2, c3, c4, c5⟩ := cells5 HP.out
    obtain ⟨d0, d1, d2, d3, d4⟩ := cellsR HR.out
    go_wp2
    exact bodyPost_ret (v := .agg #[.int .i64 0, .string ⟨#[60, 33, 45, 45, 45, 45, 62]⟩]) (by simp [results, Tryd.results74, go_sem, *]) rfl ⟨rfl, (HB.out.setCell (p := ⟨w.heap.size + 1, 0, none⟩) (by simp) _).setCell (p := ⟨w.heap.size + 1, 1, none⟩) (by simp) _⟩

end Go.Proofs.YtcjnfodkppcpoaaDoor
