/- A number of digits written out plainly. -/
import Derived.Test.YthhdfbgjdfoalaaGreatDoorFd
import Derived.Test.YthhdfbgjdfoalaaGreatDoorSpl
namespace Go.Proofs.YthhdfbgjdfoalaaGreatDoor
open Go.RowKit
set_option linter.unusedVariables false
set_option linter.unusedSimpArgs false

theorem infoF5 : (Tryz.prog.info? 5).map (fun i => (i.zero, i.size, i.bytes)) = some (some (.int .u8 0), 1, 1) := by kernel_rfl
theorem bcsF1 (x : Int) : (bcs [x]).length = 1 * 1 := rfl
theorem oneF (w : World) (x : Int) : ∀ j u, (bcs [x])[j]? = some u → (w.alloc (.cells #[.int .u8 x] 5)).cell? ((⟨w.heap.size, 0, none⟩ : Addr).add j) = some u := by
  intro j u h
  cases j with
  | zero =>
    have e : u = .int .u8 x := by simpa [bcs] using h.symm
    subst e
    simp [Addr.add]
  | succ j => simp [bcs] at h

/-- Bytes that grow in a row of one's own, beside a row of 32 digits. -/
structure GrF (w : World) (v : Value) (l : List Int) (wr : World) : Prop where
  own : wr.ownsRow w.heap.size 5 1 v l.length (bcs l)
  bl : Below w.heap.size w wr
  sz : w.heap.size ≤ wr.heap.size
structure FB (w0 : World) (g : Nat) (dv : Nat → Nat) (v : Value) (l : List Int) (wr : World) : Prop where
  gr : GrF w0 v l wr
  buf : wr.rowIs g 259 32 (fun t => .int .u8 (dv t))
  ne : ∀ b, v.ownBlock = some b → b ≠ g

theorem FB.alloc {w0 wr : World} {g : Nat} {dv : Nat → Nat} {v : Value} {l : List Int} (h : FB w0 g dv v l wr) (o : Obj) : FB w0 g dv v l (wr.alloc o) :=
  ⟨⟨h.gr.own.alloc o, h.gr.bl.alloc h.gr.sz o, by have := h.gr.sz; simp; omega⟩, h.buf.alloc o, h.ne⟩
theorem FB.app {w0 wr w1 : World} {g : Nat} {dv : Nat → Nat} {v v' : Value} {l : List Int} {x : Int} (h : FB w0 g dv v l wr) (ho : w1.ownsRow w0.heap.size 5 1 v' (l.length + 1) (bcs l ++ bcs [x])) (hg : wr.grownBy w1 v.ownBlock) (hat : v'.ownBlock = v.ownBlock ∨ v'.ownBlock = some wr.heap.size) : FB w0 g dv v' (l ++ [x]) w1 := by
  have glt := h.buf.lt
  refine ⟨⟨by rw [List.length_append, bcs_append]; exact ho, h.gr.bl.grown hg h.gr.sz (own_lo h.gr.own), Nat.le_trans h.gr.sz hg.size⟩, h.buf.of_block (hg.block g glt (fun e => h.ne g e.symm rfl)), fun b hb => ?_⟩
  rcases hat with e | e
  · exact h.ne b (e ▸ hb)
  · rw [e] at hb; cases hb; omega

/-- The text: a sign, what stands ahead of the point, and behind it. -/
def fmtL (neg : Bool) (dp nd : Nat) (dv : Nat → Nat) : List Int :=
  (if neg = true then [45] else []) ++ ((if 0 < dp then (List.range (min nd dp)).map (fun i => (dv i : Int)) ++ List.replicate (dp - min nd dp) 48 else [48]) ++ (if dp < nd then 46 :: (List.range (nd - dp)).map (fun i => (dv (dp + i) : Int)) else []))

set_option maxRecDepth 100000 in
set_option maxHeartbeats 6400000 in
theorem fmtF_ff (w0 w : World) (v : Value) (g dp nd : Nat) (dv : Nat → Nat) (hG : FB w0 g dv v [] w) (h1 : nd ≤ 30) (h2 : dp ≤ 30) (hdp : 0 < dp) (hfr : dp < nd) :
    Calls Tryz.prog 217 #[v, .bool false, .slice (some ⟨g, 0, none⟩) 32 32, .int .i64 dp, .int .i64 nd, .int .i64 ((nd : Int) - (dp : Int)), .int .u8 102, .bool true] w fun e w' => ∃ v', e = .returned v' ∧ FB w0 g dv v' (fmtL false dp nd dv) w' := by
  have G0 := Hid.mk' hG
  clear hG
  have c1 : (dp : Int) > 0 := by omega
  have mm : min (nd : Int) (dp : Int) = dp := by omega
  have c2 : (nd : Int) - (dp : Int) > 0 := by omega
  have c3 : max (0 : Int) (-(dp : Int)) = 0 := by omega
  have c4 : min ((nd : Int) - (dp : Int)) 0 = 0 := by omega
  have c5 : max 0 ((nd : Int) - (dp : Int)) = (nd : Int) - dp := by omega
  go_enter Tryz.func217, Tryz.ntmps217
  go_wp2
  go_loopw [0, 191] (fun xa i wa => ∃ k : Nat, k ≤ dp ∧ i = .int .i64 k ∧ FB w0 g dv xa (([] : List Int) ++ (List.range k).map (fun i => (dv i : Int))) wa) (fun _ i _ => dp - (intOf i).toNat)
  case atStart => exact ⟨0, Nat.zero_le _, rfl, by simpa using G0.out⟩
  case round =>
    obtain ⟨k, hk, rfl, hB⟩ := hrel
    have GB := Hid.mk' hB
    have gl := hB.buf.lt
    have LN : Hid ((([] : List Int) ++ (List.range k).map (fun i => (dv i : Int))).length ≤ 40) := Hid.mk' (by simp; omega)
    have cz : wr.cell? ⟨g, k, none⟩ = some (.int .u8 (dv k)) := hB.buf.cell (by omega)
    clear hB
    by_cases hlt : k < dp
    · have ci : (k : Int) < (dp : Int) := by omega
      have A1 := Hid.mk' (GB.out.alloc (.cells #[.int .u8 (dv k)] 5))
      go_wp2_with (at_builtin; refine wpList_append_at _ rfl (.tmp 195) (.tmp 197) 51 rfl w0.heap.size 5 (.int .u8 0) 1 1 Tryz.underlying51 infoF5 rfl (by decide) _ _ _ rfl A1.out.gr.own _ 1 _ (bcs [(dv k : Int)]) rfl (bcsF1 _) (.inr ⟨_, rfl, oneF _ _⟩) (bcs_one _) (by have := LN.out; unfold maxLen; omega) (by have := LN.out; omega) A1.out.gr.sz ?_; intro v' w2 ho hgr hat; have G2 := Hid.mk' (A1.out.app ho hgr hat); clear ho hgr hat)
      go_roundw
      case rel => exact ⟨k + 1, by omega, by go_num, by rw [List.range_succ, List.map_append, ← List.append_assoc]; exact G2.out⟩
      case measure => simp [intOf]; omega
    · have ci : ¬ (k : Int) < (dp : Int) := by omega
      obtain rfl : k = dp := by omega
      clear hlt hk cz
      go_wp2
      go_loopw [0, 203] (fun xb i wb => i = .int .i64 0 ∧ FB w0 g dv xb (([] : List Int) ++ (List.range k).map (fun i => (dv i : Int))) wb) (fun _ _ _ => 0)
      case atStart => exact ⟨rfl, GB.out⟩
      case round =>
        obtain ⟨rfl, hB⟩ := hrel
        have GC := Hid.mk' hB
        clear hB GB
        have LD : Hid ((([] : List Int) ++ (List.range k).map (fun i => (dv i : Int))).length ≤ 80) := Hid.mk' (by simp; omega)
        have A3 := Hid.mk' (GC.out.alloc (.cells #[.int .u8 46] 5))
        go_wp2_with (at_builtin; refine wpList_append_at _ rfl (.tmp 214) (.tmp 215) 51 rfl w0.heap.size 5 (.int .u8 0) 1 1 Tryz.underlying51 infoF5 rfl (by decide) _ _ _ rfl A3.out.gr.own _ 1 _ (bcs [46]) rfl (bcsF1 _) (.inr ⟨_, rfl, oneF _ _⟩) (bcs_one _) (by have := LD.out; unfold maxLen; omega) (by have := LD.out; omega) A3.out.gr.sz ?_; intro v' w2 ho hgr hat; have G2 := Hid.mk' (A3.out.app ho hgr hat); clear ho hgr hat)
        have GD : Hid (FB w0 g dv v' ((([] : List Int) ++ (List.range k).map (fun i => (dv i : Int))) ++ [(46 : Int)]) w2) := G2
        clear G2
        go_loopw [0, 240] (fun xc i wc => i = .int .i64 0 ∧ FB w0 g dv xc ((([] : List Int) ++ (List.range k).map (fun i => (dv i : Int))) ++ [(46 : Int)]) wc) (fun _ _ _ => 0)
        case atStart => exact ⟨rfl, GD.out⟩
        case round =>
          obtain ⟨rfl, hB⟩ := hrel
          have GE := Hid.mk' hB
          clear hB GD
          go_wp2
          go_loopw [0, 247] (fun xd i wd => ∃ j : Nat, j ≤ nd - k ∧ i = .int .i64 j ∧ FB w0 g dv xd (((([] : List Int) ++ (List.range k).map (fun i => (dv i : Int))) ++ [(46 : Int)]) ++ (List.range j).map (fun i => (dv (k + i) : Int))) wd) (fun _ i _ => nd - k - (intOf i).toNat)
          case atStart => exact ⟨0, Nat.zero_le _, rfl, by simpa using GE.out⟩
          case round =>
            obtain ⟨j, hj, rfl, hB⟩ := hrel
            have GF := Hid.mk' hB
            have gl2 := hB.buf.lt
            have LN2 : Hid ((((([] : List Int) ++ (List.range k).map (fun i => (dv i : Int))) ++ [(46 : Int)]) ++ (List.range j).map (fun i => (dv (k + i) : Int))).length ≤ 120) := Hid.mk' (by simp; omega)
            by_cases hlt : j < nd - k
            · have ci2 : (j : Int) < (nd : Int) - (k : Int) := by omega
              have cz2 : wr.cell? ⟨g, k + j, none⟩ = some (.int .u8 (dv (k + j))) := hB.buf.cell (by omega)
              clear hB GE
              have A4 := Hid.mk' (GF.out.alloc (.cells #[.int .u8 (dv (k + j))] 5))
              go_wp2_with (at_builtin; refine wpList_append_at _ rfl (.tmp 250) (.tmp 257) 51 rfl w0.heap.size 5 (.int .u8 0) 1 1 Tryz.underlying51 infoF5 rfl (by decide) _ _ _ rfl A4.out.gr.own _ 1 _ (bcs [(dv (k + j) : Int)]) rfl (bcsF1 _) (.inr ⟨_, rfl, oneF _ _⟩) (bcs_one _) (by have := LN2.out; unfold maxLen; omega) (by have := LN2.out; omega) A4.out.gr.sz ?_; intro v' w2 ho hgr hat; have G2 := Hid.mk' (A4.out.app ho hgr hat); clear ho hgr hat)
              go_roundw
              case rel => exact ⟨j + 1, by omega, by go_num, by rw [List.range_succ, List.map_append, ← List.append_assoc]; exact G2.out⟩
              case measure => simp [intOf]; omega
            · have ci2 : ¬ (j : Int) < (nd : Int) - (k : Int) := by omega
              obtain rfl : j = nd - k := by omega
              clear hB GE hlt hj
              go_wp2
              go_loopw [0, 261] (fun xe i we => i = .int .i64 0 ∧ FB w0 g dv xe (((([] : List Int) ++ (List.range k).map (fun i => (dv i : Int))) ++ [(46 : Int)]) ++ (List.range (nd - k)).map (fun i => (dv (k + i) : Int))) we) (fun _ _ _ => 0)
              case atStart => exact ⟨rfl, GF.out⟩
              case round =>
                obtain ⟨rfl, hB⟩ := hrel
                have GH := Hid.mk' hB
                clear hB GF
                go_wp2
                go_ret
                refine ⟨_, rfl, ?_⟩
                have h := GH.out
                unfold fmtL
                simp only [show min nd k = k by omega, Nat.sub_self, List.replicate_zero, List.append_nil, if_pos (show k < nd by omega), if_pos (show 0 < k by omega), Bool.false_eq_true, if_false]
                simpa using h

set_option maxRecDepth 100000 in
set_option maxHeartbeats 6400000 in
theorem fmtF_tf (w0 w : World) (v : Value) (g dp nd : Nat) (dv : Nat → Nat) (hG : FB w0 g dv v [] w) (h1 : nd ≤ 30) (h2 : dp ≤ 30) (hdp : 0 < dp) (hfr : dp < nd) :
    Calls Tryz.prog 217 #[v, .bool true, .slice (some ⟨g, 0, none⟩) 32 32, .int .i64 dp, .int .i64 nd, .int .i64 ((nd : Int) - (dp : Int)), .int .u8 102, .bool true] w fun e w' => ∃ v', e = .returned v' ∧ FB w0 g dv v' (fmtL true dp nd dv) w' := by
  have G0 := Hid.mk' hG
  clear hG
  have c1 : (dp : Int) > 0 := by omega
  have mm : min (nd : Int) (dp : Int) = dp := by omega
  have c2 : (nd : Int) - (dp : Int) > 0 := by omega
  have c3 : max (0 : Int) (-(dp : Int)) = 0 := by omega
  have c4 : min ((nd : Int) - (dp : Int)) 0 = 0 := by omega
  have c5 : max 0 ((nd : Int) - (dp : Int)) = (nd : Int) - dp := by omega
  have A0 := Hid.mk' (G0.out.alloc (.cells #[.int .u8 45] 5))
  go_enter Tryz.func217, Tryz.ntmps217
  go_wp2_with (at_builtin; refine wpList_append_at _ rfl (.tmp 179) (.tmp 180) 51 rfl w0.heap.size 5 (.int .u8 0) 1 1 Tryz.underlying51 infoF5 rfl (by decide) _ _ _ rfl A0.out.gr.own _ 1 _ (bcs [45]) rfl (bcsF1 _) (.inr ⟨_, rfl, oneF _ _⟩) (bcs_one _) (by have := (show ([] : List Int).length ≤ 0 from Nat.le_refl _); unfold maxLen; omega) (by have := (show ([] : List Int).length ≤ 0 from Nat.le_refl _); omega) A0.out.gr.sz ?_; intro v' w2 ho hgr hat; have G2 := Hid.mk' (A0.out.app ho hgr hat); clear ho hgr hat)
  have G1 : Hid (FB w0 g dv v' ([45] : List Int) w2) := G2
  clear G2
  go_loopw [0, 191] (fun xa i wa => ∃ k : Nat, k ≤ dp ∧ i = .int .i64 k ∧ FB w0 g dv xa (([45] : List Int) ++ (List.range k).map (fun i => (dv i : Int))) wa) (fun _ i _ => dp - (intOf i).toNat)
  case atStart => exact ⟨0, Nat.zero_le _, rfl, by simpa using G1.out⟩
  case round =>
    obtain ⟨k, hk, rfl, hB⟩ := hrel
    have GB := Hid.mk' hB
    have gl := hB.buf.lt
    have LN : Hid ((([45] : List Int) ++ (List.range k).map (fun i => (dv i : Int))).length ≤ 40) := Hid.mk' (by simp; omega)
    have cz : wr.cell? ⟨g, k, none⟩ = some (.int .u8 (dv k)) := hB.buf.cell (by omega)
    clear hB
    by_cases hlt : k < dp
    · have ci : (k : Int) < (dp : Int) := by omega
      have A1 := Hid.mk' (GB.out.alloc (.cells #[.int .u8 (dv k)] 5))
      go_wp2_with (at_builtin; refine wpList_append_at _ rfl (.tmp 195) (.tmp 197) 51 rfl w0.heap.size 5 (.int .u8 0) 1 1 Tryz.underlying51 infoF5 rfl (by decide) _ _ _ rfl A1.out.gr.own _ 1 _ (bcs [(dv k : Int)]) rfl (bcsF1 _) (.inr ⟨_, rfl, oneF _ _⟩) (bcs_one _) (by have := LN.out; unfold maxLen; omega) (by have := LN.out; omega) A1.out.gr.sz ?_; intro v' w2 ho hgr hat; have G2 := Hid.mk' (A1.out.app ho hgr hat); clear ho hgr hat)
      go_roundw
      case rel => exact ⟨k + 1, by omega, by go_num, by rw [List.range_succ, List.map_append, ← List.append_assoc]; exact G2.out⟩
      case measure => simp [intOf]; omega
    · have ci : ¬ (k : Int) < (dp : Int) := by omega
      obtain rfl : k = dp := by omega
      clear hlt hk cz
      go_wp2
      go_loopw [0, 203] (fun xb i wb => i = .int .i64 0 ∧ FB w0 g dv xb (([45] : List Int) ++ (List.range k).map (fun i => (dv i : Int))) wb) (fun _ _ _ => 0)
      case atStart => exact ⟨rfl, GB.out⟩
      case round =>
        obtain ⟨rfl, hB⟩ := hrel
        have GC := Hid.mk' hB
        clear hB GB
        have LD : Hid ((([45] : List Int) ++ (List.range k).map (fun i => (dv i : Int))).length ≤ 80) := Hid.mk' (by simp; omega)
        have A3 := Hid.mk' (GC.out.alloc (.cells #[.int .u8 46] 5))
        go_wp2_with (at_builtin; refine wpList_append_at _ rfl (.tmp 214) (.tmp 215) 51 rfl w0.heap.size 5 (.int .u8 0) 1 1 Tryz.underlying51 infoF5 rfl (by decide) _ _ _ rfl A3.out.gr.own _ 1 _ (bcs [46]) rfl (bcsF1 _) (.inr ⟨_, rfl, oneF _ _⟩) (bcs_one _) (by have := LD.out; unfold maxLen; omega) (by have := LD.out; omega) A3.out.gr.sz ?_; intro v' w2 ho hgr hat; have G2 := Hid.mk' (A3.out.app ho hgr hat); clear ho hgr hat)
        have GD : Hid (FB w0 g dv v' ((([45] : List Int) ++ (List.range k).map (fun i => (dv i : Int))) ++ [(46 : Int)]) w2) := G2
        clear G2
        go_loopw [0, 240] (fun xc i wc => i = .int .i64 0 ∧ FB w0 g dv xc ((([45] : List Int) ++ (List.range k).map (fun i => (dv i : Int))) ++ [(46 : Int)]) wc) (fun _ _ _ => 0)
        case atStart => exact ⟨rfl, GD.out⟩
        case round =>
          obtain ⟨rfl, hB⟩ := hrel
          have GE := Hid.mk' hB
          clear hB GD
          go_wp2
          go_loopw [0, 247] (fun xd i wd => ∃ j : Nat, j ≤ nd - k ∧ i = .int .i64 j ∧ FB w0 g dv xd (((([45] : List Int) ++ (List.range k).map (fun i => (dv i : Int))) ++ [(46 : Int)]) ++ (List.range j).map (fun i => (dv (k + i) : Int))) wd) (fun _ i _ => nd - k - (intOf i).toNat)
          case atStart => exact ⟨0, Nat.zero_le _, rfl, by simpa using GE.out⟩
          case round =>
            obtain ⟨j, hj, rfl, hB⟩ := hrel
            have GF := Hid.mk' hB
            have gl2 := hB.buf.lt
            have LN2 : Hid ((((([45] : List Int) ++ (List.range k).map (fun i => (dv i : Int))) ++ [(46 : Int)]) ++ (List.range j).map (fun i => (dv (k + i) : Int))).length ≤ 120) := Hid.mk' (by simp; omega)
            by_cases hlt : j < nd - k
            · have ci2 : (j : Int) < (nd : Int) - (k : Int) := by omega
              have cz2 : wr.cell? ⟨g, k + j, none⟩ = some (.int .u8 (dv (k + j))) := hB.buf.cell (by omega)
              clear hB GE
              have A4 := Hid.mk' (GF.out.alloc (.cells #[.int .u8 (dv (k + j))] 5))
              go_wp2_with (at_builtin; refine wpList_append_at _ rfl (.tmp 250) (.tmp 257) 51 rfl w0.heap.size 5 (.int .u8 0) 1 1 Tryz.underlying51 infoF5 rfl (by decide) _ _ _ rfl A4.out.gr.own _ 1 _ (bcs [(dv (k + j) : Int)]) rfl (bcsF1 _) (.inr ⟨_, rfl, oneF _ _⟩) (bcs_one _) (by have := LN2.out; unfold maxLen; omega) (by have := LN2.out; omega) A4.out.gr.sz ?_; intro v' w2 ho hgr hat; have G2 := Hid.mk' (A4.out.app ho hgr hat); clear ho hgr hat)
              go_roundw
              case rel => exact ⟨j + 1, by omega, by go_num, by rw [List.range_succ, List.map_append, ← List.append_assoc]; exact G2.out⟩
              case measure => simp [intOf]; omega
            · have ci2 : ¬ (j : Int) < (nd : Int) - (k : Int) := by omega
              obtain rfl : j = nd - k := by omega
              clear hB GE hlt hj
              go_wp2
              go_loopw [0, 261] (fun xe i we => i = .int .i64 0 ∧ FB w0 g dv xe (((([45] : List Int) ++ (List.range k).map (fun i => (dv i : Int))) ++ [(46 : Int)]) ++ (List.range (nd - k)).map (fun i => (dv (k + i) : Int))) we) (fun _ _ _ => 0)
              case atStart => exact ⟨rfl, GF.out⟩
              case round =>
                obtain ⟨rfl, hB⟩ := hrel
                have GH := Hid.mk' hB
                clear hB GF
                go_wp2
                go_ret
                refine ⟨_, rfl, ?_⟩
                have h := GH.out
                unfold fmtL
                simp only [show min nd k = k by omega, Nat.sub_self, List.replicate_zero, List.append_nil, if_pos (show k < nd by omega), if_pos (show 0 < k by omega), if_true]
                simpa using h

set_option maxRecDepth 100000 in
set_option maxHeartbeats 6400000 in
theorem fmtF_fn (w0 w : World) (v : Value) (g dp nd : Nat) (dv : Nat → Nat) (pr : Int) (hpr : pr ≤ 0) (hpr2 : -2 ≤ pr) (hG : FB w0 g dv v [] w) (h1 : nd ≤ 30) (h2 : dp ≤ 30) (hdp : 0 < dp) (hfr : nd ≤ dp) :
    Calls Tryz.prog 217 #[v, .bool false, .slice (some ⟨g, 0, none⟩) 32 32, .int .i64 dp, .int .i64 nd, .int .i64 pr, .int .u8 102, .bool true] w fun e w' => ∃ v', e = .returned v' ∧ FB w0 g dv v' (fmtL false dp nd dv) w' := by
  have G0 := Hid.mk' hG
  clear hG
  have c1 : (dp : Int) > 0 := by omega
  have mm : min (nd : Int) (dp : Int) = nd := by omega
  have c2 : ¬ pr > 0 := by omega
  go_enter Tryz.func217, Tryz.ntmps217
  go_wp2
  go_loopw [0, 191] (fun xa i wa => ∃ k : Nat, k ≤ nd ∧ i = .int .i64 k ∧ FB w0 g dv xa (([] : List Int) ++ (List.range k).map (fun i => (dv i : Int))) wa) (fun _ i _ => nd - (intOf i).toNat)
  case atStart => exact ⟨0, Nat.zero_le _, rfl, by simpa using G0.out⟩
  case round =>
    obtain ⟨k, hk, rfl, hB⟩ := hrel
    have GB := Hid.mk' hB
    have gl := hB.buf.lt
    have LN : Hid ((([] : List Int) ++ (List.range k).map (fun i => (dv i : Int))).length ≤ 40) := Hid.mk' (by simp; omega)
    have cz : wr.cell? ⟨g, k, none⟩ = some (.int .u8 (dv k)) := hB.buf.cell (by omega)
    clear hB
    by_cases hlt : k < nd
    · have ci : (k : Int) < (nd : Int) := by omega
      have A1 := Hid.mk' (GB.out.alloc (.cells #[.int .u8 (dv k)] 5))
      go_wp2_with (at_builtin; refine wpList_append_at _ rfl (.tmp 195) (.tmp 197) 51 rfl w0.heap.size 5 (.int .u8 0) 1 1 Tryz.underlying51 infoF5 rfl (by decide) _ _ _ rfl A1.out.gr.own _ 1 _ (bcs [(dv k : Int)]) rfl (bcsF1 _) (.inr ⟨_, rfl, oneF _ _⟩) (bcs_one _) (by have := LN.out; unfold maxLen; omega) (by have := LN.out; omega) A1.out.gr.sz ?_; intro v' w2 ho hgr hat; have G2 := Hid.mk' (A1.out.app ho hgr hat); clear ho hgr hat)
      go_roundw
      case rel => exact ⟨k + 1, by omega, by go_num, by rw [List.range_succ, List.map_append, ← List.append_assoc]; exact G2.out⟩
      case measure => simp [intOf]; omega
    · have ci : ¬ (k : Int) < (nd : Int) := by omega
      obtain rfl : k = nd := by omega
      clear hlt hk cz
      go_wp2
      go_loopw [0, 203] (fun xb i wb => ∃ j : Nat, j ≤ dp - k ∧ i = .int .i64 j ∧ FB w0 g dv xb (([] : List Int) ++ (List.range k).map (fun i => (dv i : Int)) ++ List.replicate j (48 : Int)) wb) (fun _ i _ => dp - k - (intOf i).toNat)
      case atStart => exact ⟨0, Nat.zero_le _, rfl, by simpa using GB.out⟩
      case round =>
        obtain ⟨j, hj, rfl, hB⟩ := hrel
        have GC := Hid.mk' hB
        have LN : Hid ((([] : List Int) ++ (List.range k).map (fun i => (dv i : Int)) ++ List.replicate j (48 : Int)).length ≤ 80) := Hid.mk' (by simp; omega)
        clear hB GB
        by_cases hlt : j < dp - k
        · have ci2 : (j : Int) < (dp : Int) - (k : Int) := by omega
          have A2 := Hid.mk' (GC.out.alloc (.cells #[.int .u8 48] 5))
          go_wp2_with (at_builtin; refine wpList_append_at _ rfl (.tmp 205) (.tmp 206) 51 rfl w0.heap.size 5 (.int .u8 0) 1 1 Tryz.underlying51 infoF5 rfl (by decide) _ _ _ rfl A2.out.gr.own _ 1 _ (bcs [48]) rfl (bcsF1 _) (.inr ⟨_, rfl, oneF _ _⟩) (bcs_one _) (by have := LN.out; unfold maxLen; omega) (by have := LN.out; omega) A2.out.gr.sz ?_; intro v' w2 ho hgr hat; have G2 := Hid.mk' (A2.out.app ho hgr hat); clear ho hgr hat)
          go_roundw
          case rel => exact ⟨j + 1, by omega, by go_num, by rw [List.replicate_succ', ← List.append_assoc]; exact G2.out⟩
          case measure => simp [intOf]; omega
        · have ci2 : ¬ (j : Int) < (dp : Int) - (k : Int) := by omega
          obtain rfl : j = dp - k := by omega
          clear hlt hj
          go_wp2
          go_ret
          refine ⟨_, rfl, ?_⟩
          have h := GC.out
          unfold fmtL
          simp only [show min k dp = k by omega, if_neg (show ¬ dp < k by omega), if_pos (show 0 < dp by omega), Bool.false_eq_true, if_false]
          simpa using h

set_option maxRecDepth 100000 in
set_option maxHeartbeats 6400000 in
theorem fmtF_tn (w0 w : World) (v : Value) (g dp nd : Nat) (dv : Nat → Nat) (pr : Int) (hpr : pr ≤ 0) (hpr2 : -2 ≤ pr) (hG : FB w0 g dv v [] w) (h1 : nd ≤ 30) (h2 : dp ≤ 30) (hdp : 0 < dp) (hfr : nd ≤ dp) :
    Calls Tryz.prog 217 #[v, .bool true, .slice (some ⟨g, 0, none⟩) 32 32, .int .i64 dp, .int .i64 nd, .int .i64 pr, .int .u8 102, .bool true] w fun e w' => ∃ v', e = .returned v' ∧ FB w0 g dv v' (fmtL true dp nd dv) w' := by
  have G0 := Hid.mk' hG
  clear hG
  have c1 : (dp : Int) > 0 := by omega
  have mm : min (nd : Int) (dp : Int) = nd := by omega
  have c2 : ¬ pr > 0 := by omega
  have A0 := Hid.mk' (G0.out.alloc (.cells #[.int .u8 45] 5))
  go_enter Tryz.func217, Tryz.ntmps217
  go_wp2_with (at_builtin; refine wpList_append_at _ rfl (.tmp 179) (.tmp 180) 51 rfl w0.heap.size 5 (.int .u8 0) 1 1 Tryz.underlying51 infoF5 rfl (by decide) _ _ _ rfl A0.out.gr.own _ 1 _ (bcs [45]) rfl (bcsF1 _) (.inr ⟨_, rfl, oneF _ _⟩) (bcs_one _) (by have := (show ([] : List Int).length ≤ 0 from Nat.le_refl _); unfold maxLen; omega) (by have := (show ([] : List Int).length ≤ 0 from Nat.le_refl _); omega) A0.out.gr.sz ?_; intro v' w2 ho hgr hat; have G2 := Hid.mk' (A0.out.app ho hgr hat); clear ho hgr hat)
  have G1 : Hid (FB w0 g dv v' ([45] : List Int) w2) := G2
  clear G2
  go_loopw [0, 191] (fun xa i wa => ∃ k : Nat, k ≤ nd ∧ i = .int .i64 k ∧ FB w0 g dv xa (([45] : List Int) ++ (List.range k).map (fun i => (dv i : Int))) wa) (fun _ i _ => nd - (intOf i).toNat)
  case atStart => exact ⟨0, Nat.zero_le _, rfl, by simpa using G1.out⟩
  case round =>
    obtain ⟨k, hk, rfl, hB⟩ := hrel
    have GB := Hid.mk' hB
    have gl := hB.buf.lt
    have LN : Hid ((([45] : List Int) ++ (List.range k).map (fun i => (dv i : Int))).length ≤ 40) := Hid.mk' (by simp; omega)
    have cz : wr.cell? ⟨g, k, none⟩ = some (.int .u8 (dv k)) := hB.buf.cell (by omega)
    clear hB
    by_cases hlt : k < nd
    · have ci : (k : Int) < (nd : Int) := by omega
      have A1 := Hid.mk' (GB.out.alloc (.cells #[.int .u8 (dv k)] 5))
      go_wp2_with (at_builtin; refine wpList_append_at _ rfl (.tmp 195) (.tmp 197) 51 rfl w0.heap.size 5 (.int .u8 0) 1 1 Tryz.underlying51 infoF5 rfl (by decide) _ _ _ rfl A1.out.gr.own _ 1 _ (bcs [(dv k : Int)]) rfl (bcsF1 _) (.inr ⟨_, rfl, oneF _ _⟩) (bcs_one _) (by have := LN.out; unfold maxLen; omega) (by have := LN.out; omega) A1.out.gr.sz ?_; intro v' w2 ho hgr hat; have G2 := Hid.mk' (A1.out.app ho hgr hat); clear ho hgr hat)
      go_roundw
      case rel => exact ⟨k + 1, by omega, by go_num, by rw [List.range_succ, List.map_append, ← List.append_assoc]; exact G2.out⟩
      case measure => simp [intOf]; omega
    · have ci : ¬ (k : Int) < (nd : Int) := by omega
      obtain rfl : k = nd := by omega
      clear hlt hk cz
      go_wp2
      go_loopw [0, 203] (fun xb i wb => ∃ j : Nat, j ≤ dp - k ∧ i = .int .i64 j ∧ FB w0 g dv xb (([45] : List Int) ++ (List.range k).map (fun i => (dv i : Int)) ++ List.replicate j (48 : Int)) wb) (fun _ i _ => dp - k - (intOf i).toNat)
      case atStart => exact ⟨0, Nat.zero_le _, rfl, by simpa using GB.out⟩
      case round =>
        obtain ⟨j, hj, rfl, hB⟩ := hrel
        have GC := Hid.mk' hB
        have LN : Hid ((([45] : List Int) ++ (List.range k).map (fun i => (dv i : Int)) ++ List.replicate j (48 : Int)).length ≤ 80) := Hid.mk' (by simp; omega)
        clear hB GB
        by_cases hlt : j < dp - k
        · have ci2 : (j : Int) < (dp : Int) - (k : Int) := by omega
          have A2 := Hid.mk' (GC.out.alloc (.cells #[.int .u8 48] 5))
          go_wp2_with (at_builtin; refine wpList_append_at _ rfl (.tmp 205) (.tmp 206) 51 rfl w0.heap.size 5 (.int .u8 0) 1 1 Tryz.underlying51 infoF5 rfl (by decide) _ _ _ rfl A2.out.gr.own _ 1 _ (bcs [48]) rfl (bcsF1 _) (.inr ⟨_, rfl, oneF _ _⟩) (bcs_one _) (by have := LN.out; unfold maxLen; omega) (by have := LN.out; omega) A2.out.gr.sz ?_; intro v' w2 ho hgr hat; have G2 := Hid.mk' (A2.out.app ho hgr hat); clear ho hgr hat)
          go_roundw
          case rel => exact ⟨j + 1, by omega, by go_num, by rw [List.replicate_succ', ← List.append_assoc]; exact G2.out⟩
          case measure => simp [intOf]; omega
        · have ci2 : ¬ (j : Int) < (dp : Int) - (k : Int) := by omega
          obtain rfl : j = dp - k := by omega
          clear hlt hj
          go_wp2
          go_ret
          refine ⟨_, rfl, ?_⟩
          have h := GC.out
          unfold fmtL
          simp only [show min k dp = k by omega, if_neg (show ¬ dp < k by omega), if_pos (show 0 < dp by omega), if_true]
          simpa using h

set_option maxRecDepth 100000 in
set_option maxHeartbeats 6400000 in
theorem fmtF_fz (w0 w : World) (v : Value) (g dp nd : Nat) (dv : Nat → Nat) (hG : FB w0 g dv v [] w) (h1 : nd ≤ 30) (h2 : dp ≤ 30) (hdp : dp = 0) (hfr : dp < nd) :
    Calls Tryz.prog 217 #[v, .bool false, .slice (some ⟨g, 0, none⟩) 32 32, .int .i64 dp, .int .i64 nd, .int .i64 ((nd : Int) - (dp : Int)), .int .u8 102, .bool true] w fun e w' => ∃ v', e = .returned v' ∧ FB w0 g dv v' (fmtL false dp nd dv) w' := by
  have G0 := Hid.mk' hG
  clear hG
  subst hdp
  have c2 : (nd : Int) - 0 > 0 := by omega
  have c3 : max (0 : Int) (-0) = 0 := by omega
  have c4 : min ((nd : Int) - 0) 0 = 0 := by omega
  have c5 : max 0 (nd : Int) = (nd : Int) := by omega
  have c6 : min (nd : Int) 0 = 0 := by omega
  have c7 : (nd : Int) > 0 := by omega
  have c8 : max (0 : Int) ((nd : Int) - 0) = (nd : Int) := by omega
  go_enter Tryz.func217, Tryz.ntmps217
  go_wp2_with (first | (at_builtin; refine wpList_append_at _ rfl (.tmp 209) (.tmp 210) 51 rfl w0.heap.size 5 (.int .u8 0) 1 1 Tryz.underlying51 infoF5 rfl (by decide) _ _ _ rfl (G0.out.alloc (.cells #[.int .u8 48] 5)).gr.own _ 1 _ (bcs [48]) rfl (bcsF1 _) (.inr ⟨_, rfl, oneF _ _⟩) (bcs_one _) (by simp [maxLen]) (by simp) (G0.out.alloc (.cells #[.int .u8 48] 5)).gr.sz ?_; intro v0 u0 ho hgr hat; have H0 := Hid.mk' ((G0.out.alloc (.cells #[.int .u8 48] 5)).app ho hgr hat); clear ho hgr hat) | (at_builtin; refine wpList_append_at _ rfl (.tmp 214) (.tmp 215) 51 rfl w0.heap.size 5 (.int .u8 0) 1 1 Tryz.underlying51 infoF5 rfl (by decide) _ _ _ rfl (H0.out.alloc (.cells #[.int .u8 46] 5)).gr.own _ 1 _ (bcs [46]) rfl (bcsF1 _) (.inr ⟨_, rfl, oneF _ _⟩) (bcs_one _) (by simp [maxLen]) (by simp) (H0.out.alloc (.cells #[.int .u8 46] 5)).gr.sz ?_; intro v1 u1 ho hgr hat; have H1 := Hid.mk' ((H0.out.alloc (.cells #[.int .u8 46] 5)).app ho hgr hat); clear ho hgr hat))
  have GD : Hid (FB w0 g dv v1 ((([] : List Int) ++ [(48 : Int)]) ++ [(46 : Int)]) u1) := H1
  go_loopw [0, 240] (fun xc i wc => i = .int .i64 0 ∧ FB w0 g dv xc ((([] : List Int) ++ [(48 : Int)]) ++ [(46 : Int)]) wc) (fun _ _ _ => 0)
  case atStart => exact ⟨rfl, GD.out⟩
  case round =>
    obtain ⟨rfl, hB⟩ := hrel
    have GE := Hid.mk' hB
    clear hB GD
    go_wp2
    go_loopw [0, 247] (fun xd i wd => ∃ j : Nat, j ≤ nd ∧ i = .int .i64 j ∧ FB w0 g dv xd (((([] : List Int) ++ [(48 : Int)]) ++ [(46 : Int)]) ++ (List.range j).map (fun i => (dv (0 + i) : Int))) wd) (fun _ i _ => nd - (intOf i).toNat)
    case atStart => exact ⟨0, Nat.zero_le _, rfl, by simpa using GE.out⟩
    case round =>
      obtain ⟨j, hj, rfl, hB⟩ := hrel
      have GF := Hid.mk' hB
      have gl2 := hB.buf.lt
      have LN2 : Hid ((((([] : List Int) ++ [(48 : Int)]) ++ [(46 : Int)]) ++ (List.range j).map (fun i => (dv (0 + i) : Int))).length ≤ 120) := Hid.mk' (by simp; omega)
      by_cases hlt : j < nd
      · have ci2 : (j : Int) < (nd : Int) := by omega
        have cz2 : wr.cell? ⟨g, 0 + j, none⟩ = some (.int .u8 (dv (0 + j))) := hB.buf.cell (by omega)
        rw [Nat.zero_add] at cz2
        clear hB GE
        have A4 := Hid.mk' (GF.out.alloc (.cells #[.int .u8 (dv j)] 5))
        go_wp2_with (at_builtin; refine wpList_append_at _ rfl (.tmp 250) (.tmp 257) 51 rfl w0.heap.size 5 (.int .u8 0) 1 1 Tryz.underlying51 infoF5 rfl (by decide) _ _ _ rfl A4.out.gr.own _ 1 _ (bcs [(dv j : Int)]) rfl (bcsF1 _) (.inr ⟨_, rfl, oneF _ _⟩) (bcs_one _) (by have := LN2.out; unfold maxLen; omega) (by have := LN2.out; omega) A4.out.gr.sz ?_; intro v' w2 ho hgr hat; have G2 := Hid.mk' (A4.out.app ho hgr hat); clear ho hgr hat)
        go_roundw
        case rel => exact ⟨j + 1, by omega, by go_num, by rw [List.range_succ, List.map_append, ← List.append_assoc]; simpa using G2.out⟩
        case measure => simp [intOf]; omega
      · have ci2 : ¬ (j : Int) < (nd : Int) := by omega
        obtain rfl : j = nd := by omega
        clear hB GE hlt hj
        go_wp2
        go_loopw [0, 261] (fun xe i we => i = .int .i64 0 ∧ FB w0 g dv xe (((([] : List Int) ++ [(48 : Int)]) ++ [(46 : Int)]) ++ (List.range j).map (fun i => (dv (0 + i) : Int))) we) (fun _ _ _ => 0)
        case atStart => exact ⟨rfl, GF.out⟩
        case round =>
          obtain ⟨rfl, hB⟩ := hrel
          have GH := Hid.mk' hB
          clear hB GF
          go_wp2
          go_ret
          refine ⟨_, rfl, ?_⟩
          have h := GH.out
          unfold fmtL
          simp only [if_pos (show 0 < j by omega), if_neg (show ¬ 0 < 0 by omega), Bool.false_eq_true, if_false]
          simpa using h

set_option maxRecDepth 100000 in
set_option maxHeartbeats 6400000 in
theorem fmtF_tz (w0 w : World) (v : Value) (g dp nd : Nat) (dv : Nat → Nat) (hG : FB w0 g dv v [] w) (h1 : nd ≤ 30) (h2 : dp ≤ 30) (hdp : dp = 0) (hfr : dp < nd) :
    Calls Tryz.prog 217 #[v, .bool true, .slice (some ⟨g, 0, none⟩) 32 32, .int .i64 dp, .int .i64 nd, .int .i64 ((nd : Int) - (dp : Int)), .int .u8 102, .bool true] w fun e w' => ∃ v', e = .returned v' ∧ FB w0 g dv v' (fmtL true dp nd dv) w' := by
  have G0 := Hid.mk' hG
  clear hG
  subst hdp
  have c2 : (nd : Int) - 0 > 0 := by omega
  have c3 : max (0 : Int) (-0) = 0 := by omega
  have c4 : min ((nd : Int) - 0) 0 = 0 := by omega
  have c5 : max 0 (nd : Int) = (nd : Int) := by omega
  have c6 : min (nd : Int) 0 = 0 := by omega
  have c7 : (nd : Int) > 0 := by omega
  have c8 : max (0 : Int) ((nd : Int) - 0) = (nd : Int) := by omega
  go_enter Tryz.func217, Tryz.ntmps217
  go_wp2_with (first | (at_builtin; refine wpList_append_at _ rfl (.tmp 179) (.tmp 180) 51 rfl w0.heap.size 5 (.int .u8 0) 1 1 Tryz.underlying51 infoF5 rfl (by decide) _ _ _ rfl (G0.out.alloc (.cells #[.int .u8 45] 5)).gr.own _ 1 _ (bcs [45]) rfl (bcsF1 _) (.inr ⟨_, rfl, oneF _ _⟩) (bcs_one _) (by simp [maxLen]) (by simp) (G0.out.alloc (.cells #[.int .u8 45] 5)).gr.sz ?_; intro v0 u0 ho hgr hat; have H0 := Hid.mk' ((G0.out.alloc (.cells #[.int .u8 45] 5)).app ho hgr hat); clear ho hgr hat) | (at_builtin; refine wpList_append_at _ rfl (.tmp 209) (.tmp 210) 51 rfl w0.heap.size 5 (.int .u8 0) 1 1 Tryz.underlying51 infoF5 rfl (by decide) _ _ _ rfl (H0.out.alloc (.cells #[.int .u8 48] 5)).gr.own _ 1 _ (bcs [48]) rfl (bcsF1 _) (.inr ⟨_, rfl, oneF _ _⟩) (bcs_one _) (by simp [maxLen]) (by simp) (H0.out.alloc (.cells #[.int .u8 48] 5)).gr.sz ?_; intro v1 u1 ho hgr hat; have H1 := Hid.mk' ((H0.out.alloc (.cells #[.int .u8 48] 5)).app ho hgr hat); clear ho hgr hat) | (at_builtin; refine wpList_append_at _ rfl (.tmp 214) (.tmp 215) 51 rfl w0.heap.size 5 (.int .u8 0) 1 1 Tryz.underlying51 infoF5 rfl (by decide) _ _ _ rfl (H1.out.alloc (.cells #[.int .u8 46] 5)).gr.own _ 1 _ (bcs [46]) rfl (bcsF1 _) (.inr ⟨_, rfl, oneF _ _⟩) (bcs_one _) (by simp [maxLen]) (by simp) (H1.out.alloc (.cells #[.int .u8 46] 5)).gr.sz ?_; intro v2 u2 ho hgr hat; have H2 := Hid.mk' ((H1.out.alloc (.cells #[.int .u8 46] 5)).app ho hgr hat); clear ho hgr hat))
  have GD : Hid (FB w0 g dv v2 ((([45] : List Int) ++ [(48 : Int)]) ++ [(46 : Int)]) u2) := H2
  go_loopw [0, 240] (fun xc i wc => i = .int .i64 0 ∧ FB w0 g dv xc ((([45] : List Int) ++ [(48 : Int)]) ++ [(46 : Int)]) wc) (fun _ _ _ => 0)
  case atStart => exact ⟨rfl, GD.out⟩
  case round =>
    obtain ⟨rfl, hB⟩ := hrel
    have GE := Hid.mk' hB
    clear hB GD
    go_wp2
    go_loopw [0, 247] (fun xd i wd => ∃ j : Nat, j ≤ nd ∧ i = .int .i64 j ∧ FB w0 g dv xd (((([45] : List Int) ++ [(48 : Int)]) ++ [(46 : Int)]) ++ (List.range j).map (fun i => (dv (0 + i) : Int))) wd) (fun _ i _ => nd - (intOf i).toNat)
    case atStart => exact ⟨0, Nat.zero_le _, rfl, by simpa using GE.out⟩
    case round =>
      obtain ⟨j, hj, rfl, hB⟩ := hrel
      have GF := Hid.mk' hB
      have gl2 := hB.buf.lt
      have LN2 : Hid ((((([45] : List Int) ++ [(48 : Int)]) ++ [(46 : Int)]) ++ (List.range j).map (fun i => (dv (0 + i) : Int))).length ≤ 120) := Hid.mk' (by simp; omega)
      by_cases hlt : j < nd
      · have ci2 : (j : Int) < (nd : Int) := by omega
        have cz2 : wr.cell? ⟨g, 0 + j, none⟩ = some (.int .u8 (dv (0 + j))) := hB.buf.cell (by omega)
        rw [Nat.zero_add] at cz2
        clear hB GE
        have A4 := Hid.mk' (GF.out.alloc (.cells #[.int .u8 (dv j)] 5))
        go_wp2_with (at_builtin; refine wpList_append_at _ rfl (.tmp 250) (.tmp 257) 51 rfl w0.heap.size 5 (.int .u8 0) 1 1 Tryz.underlying51 infoF5 rfl (by decide) _ _ _ rfl A4.out.gr.own _ 1 _ (bcs [(dv j : Int)]) rfl (bcsF1 _) (.inr ⟨_, rfl, oneF _ _⟩) (bcs_one _) (by have := LN2.out; unfold maxLen; omega) (by have := LN2.out; omega) A4.out.gr.sz ?_; intro v' w2 ho hgr hat; have G2 := Hid.mk' (A4.out.app ho hgr hat); clear ho hgr hat)
        go_roundw
        case rel => exact ⟨j + 1, by omega, by go_num, by rw [List.range_succ, List.map_append, ← List.append_assoc]; simpa using G2.out⟩
        case measure => simp [intOf]; omega
      · have ci2 : ¬ (j : Int) < (nd : Int) := by omega
        obtain rfl : j = nd := by omega
        clear hB GE hlt hj
        go_wp2
        go_loopw [0, 261] (fun xe i we => i = .int .i64 0 ∧ FB w0 g dv xe (((([45] : List Int) ++ [(48 : Int)]) ++ [(46 : Int)]) ++ (List.range j).map (fun i => (dv (0 + i) : Int))) we) (fun _ _ _ => 0)
        case atStart => exact ⟨rfl, GF.out⟩
        case round =>
          obtain ⟨rfl, hB⟩ := hrel
          have GH := Hid.mk' hB
          clear hB GF
          go_wp2
          go_ret
          refine ⟨_, rfl, ?_⟩
          have h := GH.out
          unfold fmtL
          simp only [if_pos (show 0 < j by omega), if_neg (show ¬ 0 < 0 by omega), if_true]
          simpa using h

end Go.Proofs.YthhdfbgjdfoalaaGreatDoor
