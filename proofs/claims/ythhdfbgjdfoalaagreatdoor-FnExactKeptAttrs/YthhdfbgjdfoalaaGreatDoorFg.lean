/- fmtEFG at 'f', in one; and at 0. -/
import Derived.Test.YthhdfbgjdfoalaaGreatDoorFe
namespace Go.Proofs.YthhdfbgjdfoalaaGreatDoor
open Go.RowKit
set_option linter.unusedVariables false
set_option linter.unusedSimpArgs false

theorem GrF.alloc {w0 wr : World} {v : Value} {l : List Int} (h : GrF w0 v l wr) (o : Obj) : GrF w0 v l (wr.alloc o) :=
  ⟨h.own.alloc o, h.bl.alloc h.sz o, by have := h.sz; simp; omega⟩
theorem GrF.app {w0 wr w1 : World} {v v' : Value} {l : List Int} {x : Int} (h : GrF w0 v l wr) (ho : w1.ownsRow w0.heap.size 5 1 v' (l.length + 1) (bcs l ++ bcs [x])) (hg : wr.grownBy w1 v.ownBlock) : GrF w0 v' (l ++ [x]) w1 :=
  ⟨by rw [List.length_append, bcs_append]; exact ho, h.bl.grown hg h.sz (own_lo h.own), Nat.le_trans h.sz hg.size⟩

theorem fmtF_any (w0 w : World) (v : Value) (g dp nd : Nat) (dv : Nat → Nat) (neg : Bool) (hG : FB w0 g dv v [] w) (h1 : nd ≤ 30) (h2 : dp ≤ 30) (h3 : 1 ≤ nd) :
    Calls Tryz.prog 217 #[v, .bool neg, .slice (some ⟨g, 0, none⟩) 32 32, .int .i64 dp, .int .i64 nd, .int .i64 (max ((nd : Int) - (dp : Int)) 0), .int .u8 102, .bool true] w fun e w' => ∃ v', e = .returned v' ∧ FB w0 g dv v' (fmtL neg dp nd dv) w' := by
  by_cases hf : dp < nd
  · have e : max ((nd : Int) - (dp : Int)) 0 = (nd : Int) - dp := by omega
    rw [e]
    by_cases hd : dp = 0
    · cases neg
      · exact fmtF_fz w0 w v g dp nd dv hG h1 h2 hd hf
      · exact fmtF_tz w0 w v g dp nd dv hG h1 h2 hd hf
    · cases neg
      · exact fmtF_ff w0 w v g dp nd dv hG h1 h2 (by omega) hf
      · exact fmtF_tf w0 w v g dp nd dv hG h1 h2 (by omega) hf
  · have e : max ((nd : Int) - (dp : Int)) 0 = 0 := by omega
    rw [e]
    cases neg
    · exact fmtF_fn w0 w v g dp nd dv 0 (by omega) (by omega) hG h1 h2 (by omega) (by omega)
    · exact fmtF_tn w0 w v g dp nd dv 0 (by omega) (by omega) hG h1 h2 (by omega) (by omega)

theorem fmtL_neg (dp nd : Nat) (dv : Nat → Nat) : fmtL true dp nd dv = 45 :: fmtL false dp nd dv := by
  unfold fmtL; simp

set_option maxRecDepth 100000 in
set_option maxHeartbeats 6400000 in
theorem fmtZ_f (w0 w : World) (v : Value) (hG : GrF w0 v [] w) :
    Calls Tryz.prog 217 #[v, .bool false, .slice none 0 0, .int .i64 0, .int .i64 0, .int .i64 (-1), .int .u8 102, .bool true] w fun e w' => ∃ v', e = .returned v' ∧ GrF w0 v' [48] w' := by
  have G0 := Hid.mk' hG
  clear hG
  go_enter Tryz.func217, Tryz.ntmps217
  go_wp2_with (first | (at_builtin; refine wpList_append_at _ rfl (.tmp 209) (.tmp 210) 51 rfl w0.heap.size 5 (.int .u8 0) 1 1 Tryz.underlying51 infoF5 rfl (by decide) _ _ _ rfl (G0.out.alloc (.cells #[.int .u8 48] 5)).own _ 1 _ (bcs [48]) rfl (bcsF1 _) (.inr ⟨_, rfl, oneF _ _⟩) (bcs_one _) (by simp [maxLen]) (by simp) (G0.out.alloc (.cells #[.int .u8 48] 5)).sz ?_; intro v0 u0 ho hgr hat; have H0 := Hid.mk' ((G0.out.alloc (.cells #[.int .u8 48] 5)).app ho hgr); clear ho hgr hat))
  go_ret
  exact ⟨_, rfl, by simpa using H0.out⟩

set_option maxRecDepth 100000 in
set_option maxHeartbeats 6400000 in
theorem fmtZ_t (w0 w : World) (v : Value) (hG : GrF w0 v [] w) :
    Calls Tryz.prog 217 #[v, .bool true, .slice none 0 0, .int .i64 0, .int .i64 0, .int .i64 (-1), .int .u8 102, .bool true] w fun e w' => ∃ v', e = .returned v' ∧ GrF w0 v' [45, 48] w' := by
  have G0 := Hid.mk' hG
  clear hG
  go_enter Tryz.func217, Tryz.ntmps217
  go_wp2_with (first | (at_builtin; refine wpList_append_at _ rfl (.tmp 179) (.tmp 180) 51 rfl w0.heap.size 5 (.int .u8 0) 1 1 Tryz.underlying51 infoF5 rfl (by decide) _ _ _ rfl (G0.out.alloc (.cells #[.int .u8 45] 5)).own _ 1 _ (bcs [45]) rfl (bcsF1 _) (.inr ⟨_, rfl, oneF _ _⟩) (bcs_one _) (by simp [maxLen]) (by simp) (G0.out.alloc (.cells #[.int .u8 45] 5)).sz ?_; intro v0 u0 ho hgr hat; have H0 := Hid.mk' ((G0.out.alloc (.cells #[.int .u8 45] 5)).app ho hgr); clear ho hgr hat) | (at_builtin; refine wpList_append_at _ rfl (.tmp 209) (.tmp 210) 51 rfl w0.heap.size 5 (.int .u8 0) 1 1 Tryz.underlying51 infoF5 rfl (by decide) _ _ _ rfl (H0.out.alloc (.cells #[.int .u8 48] 5)).own _ 1 _ (bcs [48]) rfl (bcsF1 _) (.inr ⟨_, rfl, oneF _ _⟩) (bcs_one _) (by simp [maxLen]) (by simp) (H0.out.alloc (.cells #[.int .u8 48] 5)).sz ?_; intro v1 u1 ho hgr hat; have H1 := Hid.mk' ((H0.out.alloc (.cells #[.int .u8 48] 5)).app ho hgr); clear ho hgr hat))
  go_ret
  exact ⟨_, rfl, by simpa using H1.out⟩

end Go.Proofs.YthhdfbgjdfoalaaGreatDoor
