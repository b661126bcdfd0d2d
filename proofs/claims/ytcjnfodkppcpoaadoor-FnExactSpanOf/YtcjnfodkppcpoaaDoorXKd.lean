/- The program's WriteToken. -/
import Derived.Test.YtcjnfodkppcpoaaDoorXKc
namespace Go.Proofs.YtcjnfodkppcpoaaDoor
open Go.RowKit
set_option linter.unusedVariables false
set_option linter.unusedSimpArgs false

set_option maxRecDepth 100000 in
set_option maxHeartbeats 3200000 in
theorem implWT_any (t : TK) (a : Option Addr) (c : Nat) (w : World) (hr : Refs w) (ha : AAt w a t.at_) (hB : VB t.at_) (hn : (t.nm.size : Int) ≤ 1048576) (hl : (t.at_.length : Int) + asz t.at_ ≤ 1048576) :
    Calls Tryd.prog 65 #[.agg #[.int .i64 t.kd, .int .i64 t.by_, .string t.nm, .slice a t.at_.length c, .bool t.sh]] w fun e w' => e = .returned (.agg #[.int .i64 (wtCode t), .string (wtText t)]) ∧ Below w.heap.size w w' := by
  have N0 := below_new w (.cells #[.int .i64 t.kd, .int .i64 t.by_, .string t.nm, .slice a t.at_.length c, .bool t.sh] 105)
  have N1 := N0.alloc (by simp) (.cells #[.int .i64 0, .string ⟨#[]⟩] 85)
  have HP := Hid.mk' ((row5 w 105 (.int .i64 t.kd) (.int .i64 t.by_) (.string t.nm) (.slice a t.at_.length c) (.bool t.sh)).alloc (.cells #[.int .i64 0, .string ⟨#[]⟩] 85))
  have HR := rowR (w.alloc (.cells #[.int .i64 t.kd, .int .i64 t.by_, .string t.nm, .slice a t.at_.length c, .bool t.sh] 105)) 85 (.int .i64 0) (.string ⟨#[]⟩)
  rw [show (w.alloc (.cells #[.int .i64 t.kd, .int .i64 t.by_, .string t.nm, .slice a t.at_.length c, .bool t.sh] 105)).heap.size = w.heap.size + 1 from by simp] at HR
  have HR := Hid.mk' HR
  have HA := Hid.mk' (ha.below N1)
  have HF := Hid.mk' (hr.below N1)
  have HB := Hid.mk' N1
  have HV := Hid.mk' hB
  clear ha N0 N1 hB hr
  have SZ : ((w.alloc (.cells #[.int .i64 t.kd, .int .i64 t.by_, .string t.nm, .slice a t.at_.length c, .bool t.sh] 105)).alloc (.cells #[.int .i64 0, .string ⟨#[]⟩] 85)).heap.size = w.heap.size + 2 := by simp
  generalize hW : (w.alloc (.cells #[.int .i64 t.kd, .int .i64 t.by_, .string t.nm, .slice a t.at_.length c, .bool t.sh] 105)).alloc (.cells #[.int .i64 0, .string ⟨#[]⟩] 85) = W at *
  have KF := Hid.mk' (implTF_any t a c W HA.out hn hl)
  obtain ⟨c0, c1, c2, c3, c4, c5⟩ := cells5 HP.out
  by_cases hf : tfault t = 0
  rotate_left
  · rw [show wtCode t = tfault t from by unfold wtCode; rw [if_neg hf], show wtText t = ⟨#[]⟩ from by unfold wtText; rw [if_neg hf]]
    go_enter Tryd.func65, Tryd.ntmps65
    go_wp2_with fail
    clear hW
    refine KF.out.mono ?_
    rintro e w1 ⟨rfl, hb⟩
    have HR := Hid.mk' (rowB HR.out hb)
    have HB := Hid.mk' (HB.out.trans (hb.mono HB.out.size))
    clear hb KF c0 c1 c2 c3 c4 c5
    obtain ⟨d0, d1, d2, d3, d4⟩ := cellsR HR.out
    go_wp2
    exact bodyPost_ret (v := .agg #[.int .i64 (tfault t), .string ⟨#[]⟩]) (by simp [results, Tryd.results65, go_sem, *]) rfl ⟨rfl, (HB.out.setCell (p := ⟨w.heap.size + 1, 0, none⟩) (by simp) _).setCell (p := ⟨w.heap.size + 1, 1, none⟩) (by simp) _⟩
  obtain ⟨kk, b0, b1, nn⟩ := fine hf
  rw [show wtCode t = (if t.kd = 2 then wsCode t else 0) from by unfold wtCode; rw [if_pos hf], show wtText t = (if t.kd = 1 then escB t.by_ else if t.kd = 2 then wsText t else if t.kd = 3 then (⟨#[60, 47]⟩ ++ t.nm) ++ ⟨#[62]⟩ else ⟨#[60, 33, 45, 45, 45, 45, 62]⟩) from by unfold wtText; rw [if_pos hf]]
  rw [hf] at KF
  clear hf
  rcases kk with e | e | e | e
  · -- a byte
    rw [e] at HP hW c0 KF ⊢
    rw [if_neg (by decide), if_pos rfl]
    clear nn e
    go_enter Tryd.func65, Tryd.ntmps65
    go_wp2_with fail
    clear hW
    refine KF.out.mono ?_
    rintro e w1 ⟨rfl, hb⟩
    have HP := Hid.mk' (rowB HP.out hb)
    have HR := Hid.mk' (rowB HR.out hb)
    have HA := Hid.mk' (HA.out.below hb)
    have HF := Hid.mk' (HF.out.below hb)
    have HB := Hid.mk' (HB.out.trans (hb.mono HB.out.size))
    clear hb KF c0 c1 c2 c3 c4 c5
    obtain ⟨c0, c1, c2, c3, c4, c5⟩ := cells5 HP.out
    obtain ⟨d0, d1, d2, d3, d4⟩ := cellsR HR.out
    have K1 := implEB_any t.by_ w1 HF.out
    rw [show ebCode t.by_ = 0 from by unfold ebCode; rw [if_pos ⟨b0, b1⟩], show ebText t.by_ = escB t.by_ from by unfold ebText; rw [if_pos ⟨b0, b1⟩]] at K1
    have K1 := Hid.mk' K1
    go_wp2_with fail
    refine K1.out.mono ?_
    rintro e w2 ⟨rfl, hb⟩
    have HR := Hid.mk' (rowB HR.out hb)
    have HB := Hid.mk' (HB.out.trans (hb.mono HB.out.size))
    clear hb K1 c0 c1 c2 c3 c4 c5 d0 d1 d2 d3 d4
    obtain ⟨d0, d1, d2, d3, d4⟩ := cellsR HR.out
    go_wp2
    exact bodyPost_ret (v := .agg #[.int .i64 (0), .string (escB t.by_)]) (by simp [results, Tryd.results65, go_sem, *]) rfl ⟨rfl, (HB.out.setCell (p := ⟨w.heap.size + 1, 0, none⟩) (by simp) _).setCell (p := ⟨w.heap.size + 1, 1, none⟩) (by simp) _⟩
  · -- a start
    have K0 := Hid.mk' (fun w1 h1 h2 => writeStart_any t a c w1 h1 h2 HV.out hn hl)
    rw [e] at HP hW c0 KF K0 ⊢
    rw [if_pos rfl, if_neg (by decide), if_pos rfl]
    clear e nn
    go_enter Tryd.func65, Tryd.ntmps65
    go_wp2_with fail
    clear hW
    refine KF.out.mono ?_
    rintro e w1 ⟨rfl, hb⟩
    have HP := Hid.mk' (rowB HP.out hb)
    have HR := Hid.mk' (rowB HR.out hb)
    have HA := Hid.mk' (HA.out.below hb)
    have HF := Hid.mk' (HF.out.below hb)
    have HB := Hid.mk' (HB.out.trans (hb.mono HB.out.size))
    clear hb KF c0 c1 c2 c3 c4 c5
    obtain ⟨c0, c1, c2, c3, c4, c5⟩ := cells5 HP.out
    obtain ⟨d0, d1, d2, d3, d4⟩ := cellsR HR.out
    have K1 := Hid.mk' (K0.out w1 HF.out HA.out)
    clear K0
    go_wp2_with fail
    refine K1.out.mono ?_
    rintro e w2 ⟨rfl, hb⟩
    have HR := Hid.mk' (rowB HR.out hb)
    have HB := Hid.mk' (HB.out.trans (hb.mono HB.out.size))
    clear hb K1 c0 c1 c2 c3 c4 c5 d0 d1 d2 d3 d4
    obtain ⟨d0, d1, d2, d3, d4⟩ := cellsR HR.out
    go_wp2
    exact bodyPost_ret (v := .agg #[.int .i64 (wsCode t), .string (wsText t)]) (by simp [results, Tryd.results65, go_sem, *]) rfl ⟨rfl, (HB.out.setCell (p := ⟨w.heap.size + 1, 0, none⟩) (by simp) _).setCell (p := ⟨w.heap.size + 1, 1, none⟩) (by simp) _⟩
  · -- an end
    have nn := nn (.inr e)
    rw [e] at HP hW c0 KF ⊢
    rw [if_neg (by decide), if_neg (by decide), if_neg (by decide), if_pos rfl]
    clear e
    have t1 : (⟨#[60, 47]⟩ : ByteArray).size = 2 := rfl
    have t2 : (⟨#[62]⟩ : ByteArray).size = 1 := rfl
    have f1 : ¬ (9223372036854775807 < 2 + t.nm.size) := by omega
    have f2 : ¬ (9223372036854775807 < 2 + t.nm.size + 1) := by omega
    go_enter Tryd.func65, Tryd.ntmps65
    go_wp2_with fail
    clear hW
    refine KF.out.mono ?_
    rintro e w1 ⟨rfl, hb⟩
    have HP := Hid.mk' (rowB HP.out hb)
    have HR := Hid.mk' (rowB HR.out hb)
    have HA := Hid.mk' (HA.out.below hb)
    have HF := Hid.mk' (HF.out.below hb)
    have HB := Hid.mk' (HB.out.trans (hb.mono HB.out.size))
    clear hb KF c0 c1 c2 c3 c4 c5
    obtain ⟨c0, c1, c2, c3, c4, c5⟩ := cells5 HP.out
    obtain ⟨d0, d1, d2, d3, d4⟩ := cellsR HR.out
    go_wp2
    exact bodyPost_ret (v := .agg #[.int .i64 (0), .string ((⟨#[60, 47]⟩ ++ t.nm) ++ ⟨#[62]⟩)]) (by simp [results, Tryd.results65, go_sem, *]) rfl ⟨rfl, (HB.out.setCell (p := ⟨w.heap.size + 1, 0, none⟩) (by simp) _).setCell (p := ⟨w.heap.size + 1, 1, none⟩) (by simp) _⟩
  · -- a note
    rw [e] at HP hW c0 KF ⊢
    rw [if_neg (by decide), if_neg (by decide), if_neg (by decide), if_neg (by decide)]
    clear e nn
    go_enter Tryd.func65, Tryd.ntmps65
    go_wp2_with fail
    clear hW
    refine KF.out.mono ?_
    rintro e w1 ⟨rfl, hb⟩
    have HP := Hid.mk' (rowB HP.out hb)
    have HR := Hid.mk' (rowB HR.out hb)
    have HA := Hid.mk' (HA.out.below hb)
    have HF := Hid.mk' (HF.out.below hb)
    have HB := Hid.mk' (HB.out.trans (hb.mono HB.out.size))
    clear hb KF c0 c1 c2 c3 c4 c5
    obtain ⟨c0, c1, c2, c3, c4, c5⟩ := cells5 HP.out
    obtain ⟨d0, d1, d2, d3, d4⟩ := cellsR HR.out
    go_wp2
    exact bodyPost_ret (v := .agg #[.int .i64 (0), .string (⟨#[60, 33, 45, 45, 45, 45, 62]⟩)]) (by simp [results, Tryd.results65, go_sem, *]) rfl ⟨rfl, (HB.out.setCell (p := ⟨w.heap.size + 1, 0, none⟩) (by simp) _).setCell (p := ⟨w.heap.size + 1, 1, none⟩) (by simp) _⟩

end Go.Proofs.YtcjnfodkppcpoaaDoor
