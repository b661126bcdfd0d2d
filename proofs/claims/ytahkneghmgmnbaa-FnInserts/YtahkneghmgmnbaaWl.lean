/- Walks: pieces that are cut at a place, both sides. -/
import Derived.Test.YtahkneghmgmnbaaSpl
import Derived.Test.YtahkneghmgmnbaaLaw
namespace Go.Proofs.Ytahkneghmgmnbaa
open Go.RowKit
set_option linter.unusedVariables false

theorem one_piece' (w : World) (t : TypeId) (p : PC) (g : Nat) (hg : w.heap.size = g) : ∀ j u, (pcs [p])[j]? = some u → (w.alloc (.cells #[.bool p.ad, .int .i64 p.fr, .int .i64 p.sz] t)).cell? ((⟨g, 0, none⟩ : Addr).add j) = some u := by
  subst hg; exact one_piece w t p

theorem Two.start (e : TypeId) (w : World) : Two w.heap.size e w (.slice (some ⟨w.heap.size, 0, none⟩) 0 0) (.slice (some ⟨w.heap.size + 1, 0, none⟩) 0 0) [] [] ((w.alloc (.cells #[] e)).alloc (.cells #[] e)) := by
  refine ⟨(World.ownsRow_lit w #[] 0 (Nat.le_refl _) (by decide) rfl).alloc _, ?_, fun k e1 e2 => ?_, (below_new w _).alloc (by simp) _, by simp; omega⟩
  · show World.ownsRow _ _ _ _ _ 0 []
    have h := World.ownsRow_lit (base := w.heap.size) (e := e) (size := 3) (w.alloc (.cells #[] e)) #[] 0 (by simp) (by decide) rfl
    simpa using h
  · simp [Value.ownBlock] at e1 e2
    omega

theorem grown_other {W w1 : World} {v : Value} {g : Nat} (hg : W.grownBy w1 v.ownBlock) (hv : ∀ k, v.ownBlock = some k → k < g) (hgl : g < W.heap.size) : w1.heap[g]? = W.heap[g]? :=
  hg.block g hgl (fun e => by have := hv g e.symm; omega)

theorem bcs3 (p : PC) : (pcs [p]).length = 1 * 3 := by simp [pcs]

set_option maxHeartbeats 2000000 in
theorem l1Parts_any (a : Option Addr) (c : Nat) (l : List PC) (x : Int) (w : World) (ha : PAt w a l) (ht : Tame l) (hx1 : -1000000 ≤ x) (hx2 : x ≤ 1000000) :
    Calls Try.prog 52 #[.slice a l.length c, .int .i64 x] w fun e w' => ∃ va vb, e = .returned (.tuple #[va, vb]) ∧ Two w.heap.size 72 w va vb (partA l x) (partB l x) w' := by
  have hl := ht.1
  go_enter Try.func52, Try.ntmps52
  go_wp2
  go_loopw [1, 6, 7, 8] (fun s va vb i wr => ∃ k : Nat, k ≤ l.length ∧ i = .int .i64 k ∧ s = .int .i64 (x - total (l.take k)) ∧ Two w.heap.size 72 w va vb (partA (l.take k) x) (partB (l.take k) x) wr) (fun _ _ _ i _ => l.length - (intOf i).toNat)
  case atStart => exact ⟨0, Nat.zero_le _, rfl, by simp [total], Two.start 72 w⟩
  case round =>
    obtain ⟨k, hk, rfl, rfl, hT⟩ := hrel
    have htot := ht.total_le k hk
    by_cases hlt : k < l.length
    · rcases ha with ha | ⟨b, o, rfl, hbs, hc⟩
      · exact absurd hlt (by rw [ha]; exact Nat.not_lt_zero _)
      obtain ⟨q1, q2, q3⟩ := hc k hlt
      have h1 : wr.cell? ⟨b, o + k * 3, none⟩ = some (.bool (pc l k).ad) := (hT.bl.cell hbs).trans q1
      have h2 : wr.cell? ⟨b, o + k * 3 + 1, none⟩ = some (.int .i64 (pc l k).fr) := (hT.bl.cell hbs).trans q2
      have h3 : wr.cell? ⟨b, o + k * 3 + 2, none⟩ = some (.int .i64 (pc l k).sz) := (hT.bl.cell hbs).trans q3
      obtain ⟨f1, f2, f3, f4⟩ := ht.at k hlt
      have EA := Hid.mk' (partA_take l k x hlt)
      have EB := Hid.mk' (partB_take l k x hlt)
      have ET := Hid.mk' (total_take l k hlt)
      have la := partA_len (l.take k) x
      have lb := partB_len (l.take k) x
      have lt1 : (l.take k).length ≤ k := List.length_take_le _ _
      obtain ⟨y, hy⟩ : ∃ y, y = x - total (l.take k) := ⟨_, rfl⟩
      rw [← hy] at EA EB ⊢
      have y1 : -2000000 ≤ y := by omega
      have y2 : y ≤ 2000000 := by omega
      have HY := Hid.mk' hy
      have HT := Hid.mk' hT
      generalize hp : pc l k = p at *
      clear hc q1 q2 q3 hT hy htot hp
      by_cases c1 : p.sz ≤ y
      · have SA : Hid (stepA p y = [p]) := by show _ = _; unfold stepA; rw [if_pos c1]
        have SB : Hid (stepB p y = []) := by show _ = _; unfold stepB; rw [if_pos c1]
        have T1 := Hid.mk' ((HT.out.alloc (.cells #[.bool p.ad, .int .i64 p.fr, .int .i64 p.sz] 72)).alloc (.cells #[.bool p.ad, .int .i64 p.fr, .int .i64 p.sz] 72))
        have RP := Hid.mk' ((row3 wr 72 (.bool p.ad) (.int .i64 p.fr) (.int .i64 p.sz)).alloc (.cells #[.bool p.ad, .int .i64 p.fr, .int .i64 p.sz] 72))
        go_wp2_with (at_builtin; refine wpList_append_at _ rfl (.tmp 50) (.tmp 52) 24 rfl w.heap.size 72 (.agg #[.bool false, .int .i64 0, .int .i64 0]) 3 24 Try.underlying24 Try.info72 rfl (by decide) _ _ _ rfl T1.out.oa _ 1 _ (pcs [p]) rfl (bcs3 _) (.inr ⟨_, rfl, one_piece' (wr.alloc (.cells #[.bool p.ad, .int .i64 p.fr, .int .i64 p.sz] 72)) 72 p _ (by simp)⟩) (pcs_one _) (by unfold maxLen; omega) (by omega) T1.out.sz ?_; intro v' w1 ho hg hat; have Rp1 := RP.out.of_block (grown_other hg (fun j e => (HT.out.oa.lt j e).2) (by simp; omega)); obtain ⟨r0, r1, r2, _⟩ := cells3 Rp1)
        have F : Hid (Two w.heap.size 72 w v' u7 (partA (l.take (k + 1)) x) (partB (l.take (k + 1)) x) w1) := by
          show Two _ _ _ _ _ _ _ _
          rw [EA.out, EB.out, SA.out, SB.out, List.append_nil]; exact T1.out.appA ho hg hat
        clear ho hg hat Rp1 RP T1 r0 r1 r2 h1 h2 h3
        go_roundw
        case rel => exact ⟨k + 1, by omega, by go_num, by rw [ET.out, HY.out]; go_num, F.out⟩
        case measure => simp [intOf]; omega
      by_cases c2 : y ≤ 0
      · have SA : Hid (stepA p y = []) := by show _ = _; unfold stepA; rw [if_neg c1, if_pos c2]
        have SB : Hid (stepB p y = [p]) := by show _ = _; unfold stepB; rw [if_neg c1, if_pos c2]
        have T1 := Hid.mk' ((HT.out.alloc (.cells #[.bool p.ad, .int .i64 p.fr, .int .i64 p.sz] 72)).alloc (.cells #[.bool p.ad, .int .i64 p.fr, .int .i64 p.sz] 72))
        have RP := Hid.mk' ((row3 wr 72 (.bool p.ad) (.int .i64 p.fr) (.int .i64 p.sz)).alloc (.cells #[.bool p.ad, .int .i64 p.fr, .int .i64 p.sz] 72))
        go_wp2_with (at_builtin; refine wpList_append_at _ rfl (.tmp 57) (.tmp 59) 24 rfl w.heap.size 72 (.agg #[.bool false, .int .i64 0, .int .i64 0]) 3 24 Try.underlying24 Try.info72 rfl (by decide) _ _ _ rfl T1.out.ob _ 1 _ (pcs [p]) rfl (bcs3 _) (.inr ⟨_, rfl, one_piece' (wr.alloc (.cells #[.bool p.ad, .int .i64 p.fr, .int .i64 p.sz] 72)) 72 p _ (by simp)⟩) (pcs_one _) (by unfold maxLen; omega) (by omega) T1.out.sz ?_; intro v' w1 ho hg hat; have Rp1 := RP.out.of_block (grown_other hg (fun j e => (HT.out.ob.lt j e).2) (by simp; omega)); obtain ⟨r0, r1, r2, _⟩ := cells3 Rp1)
        have F : Hid (Two w.heap.size 72 w u6 v' (partA (l.take (k + 1)) x) (partB (l.take (k + 1)) x) w1) := by
          show Two _ _ _ _ _ _ _ _
          rw [EA.out, EB.out, SA.out, SB.out, List.append_nil]; exact T1.out.appB ho hg hat
        clear ho hg hat Rp1 RP T1 r0 r1 r2 h1 h2 h3
        go_roundw
        case rel => exact ⟨k + 1, by omega, by go_num, by rw [ET.out, HY.out]; go_num, F.out⟩
        case measure => simp [intOf]; omega
      have SA : Hid (stepA p y = [⟨p.ad, p.fr, y⟩]) := by show _ = _; unfold stepA; rw [if_neg c1, if_neg c2]
      have SB : Hid (stepB p y = [⟨p.ad, p.fr + y, p.sz - y⟩]) := by show _ = _; unfold stepB; rw [if_neg c1, if_neg c2]
      have T1 := Hid.mk' ((HT.out.alloc (.cells #[.bool p.ad, .int .i64 p.fr, .int .i64 p.sz] 72)).alloc (.cells #[.bool p.ad, .int .i64 p.fr, .int .i64 y] 72))
      have RP := Hid.mk' ((row3 wr 72 (.bool p.ad) (.int .i64 p.fr) (.int .i64 p.sz)).alloc (.cells #[.bool p.ad, .int .i64 p.fr, .int .i64 y] 72))
      go_wp2_with (first | (at_builtin; refine wpList_append_at _ rfl (.tmp 22) (.tmp 29) 24 rfl w.heap.size 72 (.agg #[.bool false, .int .i64 0, .int .i64 0]) 3 24 Try.underlying24 Try.info72 rfl (by decide) _ _ _ rfl T1.out.oa _ 1 _ (pcs [(⟨p.ad, p.fr, y⟩ : PC)]) rfl (bcs3 _) (.inr ⟨_, rfl, one_piece' (wr.alloc (.cells #[.bool p.ad, .int .i64 p.fr, .int .i64 p.sz] 72)) 72 (⟨p.ad, p.fr, y⟩ : PC) _ (by simp)⟩) (pcs_one _) (by unfold maxLen; omega) (by omega) T1.out.sz ?_; intro v' w1 ho hg hat; have Rp1 := RP.out.of_block (grown_other hg (fun j e => (HT.out.oa.lt j e).2) (by simp; omega)); have RP1 := Hid.mk' Rp1; obtain ⟨r0, r1, r2, r4⟩ := cells3 Rp1; have T2 := Hid.mk' (T1.out.appA (C := [⟨p.ad, p.fr, y⟩]) ho hg hat); have T3 := Hid.mk' (T2.out.alloc (.cells #[.bool p.ad, .int .i64 (p.fr + y), .int .i64 (p.sz - y)] 72)); clear ho hg hat Rp1 h1 h2 h3) | (at_builtin; refine wpList_append_at _ rfl (.tmp 31) (.tmp 43) 24 rfl w.heap.size 72 (.agg #[.bool false, .int .i64 0, .int .i64 0]) 3 24 Try.underlying24 Try.info72 rfl (by decide) _ _ _ rfl T3.out.ob _ 1 _ (pcs [(⟨p.ad, p.fr + y, p.sz - y⟩ : PC)]) rfl (bcs3 _) (.inr ⟨_, rfl, one_piece' w1 72 (⟨p.ad, p.fr + y, p.sz - y⟩ : PC) _ (by simp)⟩) (pcs_one _) (by unfold maxLen; omega) (by omega) T3.out.sz ?_; intro v'' w2 ho2 hg2 hat2; have Rp2 := (RP1.out.alloc (.cells #[.bool p.ad, .int .i64 (p.fr + y), .int .i64 (p.sz - y)] 72)).of_block (grown_other hg2 (fun j e => (HT.out.ob.lt j e).2) (by simp; omega)); obtain ⟨r5, r6, r7, r8⟩ := cells3 Rp2))
      have F : Hid (Two w.heap.size 72 w v' v'' (partA (l.take (k + 1)) x) (partB (l.take (k + 1)) x) w2) := by
        show Two _ _ _ _ _ _ _ _
        rw [EA.out, EB.out, SA.out, SB.out]; exact T3.out.appB ho2 hg2 hat2
      clear ho2 hg2 hat2 Rp2 RP RP1 T1 T2 T3 r0 r1 r2 r4 r5 r6 r7 r8
      go_roundw
      case rel => exact ⟨k + 1, by omega, by go_num, by rw [ET.out, HY.out]; go_num, F.out⟩
      case measure => simp [intOf]; omega
    · go_wp2
      go_ret2
      have e : k = l.length := by omega
      subst e
      rw [List.take_length] at hT
      exact ⟨_, _, rfl, hT⟩

theorem Two.nil (e : TypeId) (w : World) : Two w.heap.size e w (.slice none 0 0) (.slice none 0 0) [] [] w :=
  ⟨World.ownsRow_nil _ _ _ _, World.ownsRow_nil _ _ _ _, Ap.nil_left _, Below.refl _ _, Nat.le_refl _⟩

theorem under_chain : Try.prog.underlying 61 = some (.slice 66) := by kernel_rfl

set_option maxHeartbeats 400000 in
theorem cut_any (p : PC) (y : Int) (w : World) (f1 : 0 ≤ p.fr) (f2 : p.fr ≤ 100000) (f3 : 0 ≤ p.sz) (f4 : p.sz ≤ 2000) (y1 : -2000000 ≤ y) (y2 : y ≤ 2000000) :
    Calls Try.prog 60 #[.agg #[.bool p.ad, .int .i64 p.fr, .int .i64 p.sz], .int .i64 y] w fun e w' => e = .returned (.tuple #[.agg #[.bool p.ad, .int .i64 p.fr, .int .i64 y], .agg #[.bool p.ad, .int .i64 (p.fr + y), .int .i64 (p.sz - y)]]) ∧ Below w.heap.size w w' := by
  go_enter Try.func60, Try.ntmps60
  go_wp2
  go_region
  go_wp2
  refine bodyPost_ret (v := .tuple #[.agg #[.bool p.ad, .int .i64 p.fr, .int .i64 y], .agg #[.bool p.ad, .int .i64 (p.fr + y), .int .i64 (p.sz - y)]]) (by simp [results, Try.results60, go_sem]) rfl ⟨rfl, ?_⟩
  exact (((((Below.refl _ _).alloc (Nat.le_refl _) _).alloc (by simp) _).alloc (by simp; omega) _).alloc (by simp; omega) _).alloc (by simp; omega) _ |>.drew

set_option maxHeartbeats 2000000 in
theorem split_any (a : Option Addr) (c : Nat) (l : List PC) (x : Int) (w : World) (ha : PAt w a l) (ht : Tame l) (hx1 : -1000000 ≤ x) (hx2 : x ≤ 1000000) :
    Calls Try.prog 38 #[.slice a l.length c, .int .i64 x] w fun e w' => ∃ va vb, e = .returned (.tuple #[va, vb]) ∧ Two w.heap.size 66 w va vb (partA l x) (partB l x) w' := by
  have hl := ht.1
  go_enter Try.func38, Try.ntmps38
  go_wp2
  go_loopw [1, 6, 7, 14] (fun s va vb i wr => ∃ k : Nat, k ≤ l.length ∧ i = .int .i64 k ∧ s = .int .i64 (x - total (l.take k)) ∧ Two w.heap.size 66 w va vb (partA (l.take k) x) (partB (l.take k) x) wr) (fun _ _ _ i _ => l.length - (intOf i).toNat)
  case atStart => exact ⟨0, Nat.zero_le _, rfl, by simp [total], Two.nil 66 w⟩
  case round =>
    obtain ⟨k, hk, rfl, rfl, hT⟩ := hrel
    have htot := ht.total_le k hk
    by_cases hlt : k < l.length
    · rcases ha with ha | ⟨b, o, rfl, hbs, hc⟩
      · exact absurd hlt (by rw [ha]; exact Nat.not_lt_zero _)
      obtain ⟨q1, q2, q3⟩ := hc k hlt
      have h1 : wr.cell? ⟨b, o + k * 3, none⟩ = some (.bool (pc l k).ad) := (hT.bl.cell hbs).trans q1
      have h2 : wr.cell? ⟨b, o + k * 3 + 1, none⟩ = some (.int .i64 (pc l k).fr) := (hT.bl.cell hbs).trans q2
      have h3 : wr.cell? ⟨b, o + k * 3 + 2, none⟩ = some (.int .i64 (pc l k).sz) := (hT.bl.cell hbs).trans q3
      obtain ⟨f1, f2, f3, f4⟩ := ht.at k hlt
      have EA := Hid.mk' (partA_take l k x hlt)
      have EB := Hid.mk' (partB_take l k x hlt)
      have ET := Hid.mk' (total_take l k hlt)
      have la := partA_len (l.take k) x
      have lb := partB_len (l.take k) x
      have lt1 : (l.take k).length ≤ k := List.length_take_le _ _
      obtain ⟨y, hy⟩ : ∃ y, y = x - total (l.take k) := ⟨_, rfl⟩
      rw [← hy] at EA EB ⊢
      have y1 : -2000000 ≤ y := by omega
      have y2 : y ≤ 2000000 := by omega
      have HY := Hid.mk' hy
      have HT := Hid.mk' hT
      generalize hp : pc l k = p at *
      clear hc q1 q2 q3 hT hy htot hp
      by_cases c1 : p.sz ≤ y
      · have SA : Hid (stepA p y = [p]) := by show _ = _; unfold stepA; rw [if_pos c1]
        have SB : Hid (stepB p y = []) := by show _ = _; unfold stepB; rw [if_pos c1]
        have T1 := Hid.mk' ((HT.out.alloc (.cells #[.bool p.ad, .int .i64 p.fr, .int .i64 p.sz] 66)).alloc (.cells #[.bool p.ad, .int .i64 p.fr, .int .i64 p.sz] 66))
        have RP := Hid.mk' ((row3 wr 66 (.bool p.ad) (.int .i64 p.fr) (.int .i64 p.sz)).alloc (.cells #[.bool p.ad, .int .i64 p.fr, .int .i64 p.sz] 66))
        go_wp2_with (at_builtin; refine wpList_append_at _ rfl (.tmp 37) (.tmp 39) 61 rfl w.heap.size 66 (.agg #[.bool false, .int .i64 0, .int .i64 0]) 3 24 under_chain Try.info66 rfl (by decide) _ _ _ rfl T1.out.oa _ 1 _ (pcs [p]) rfl (bcs3 _) (.inr ⟨_, rfl, one_piece' (wr.alloc (.cells #[.bool p.ad, .int .i64 p.fr, .int .i64 p.sz] 66)) 66 p _ (by simp)⟩) (pcs_one _) (by unfold maxLen; omega) (by omega) T1.out.sz ?_; intro v' w1 ho hg hat; have Rp1 := RP.out.of_block (grown_other hg (fun j e => (HT.out.oa.lt j e).2) (by simp; omega)); obtain ⟨r0, r1, r2, _⟩ := cells3 Rp1)
        have F : Hid (Two w.heap.size 66 w v' u7 (partA (l.take (k + 1)) x) (partB (l.take (k + 1)) x) w1) := by
          show Two _ _ _ _ _ _ _ _
          rw [EA.out, EB.out, SA.out, SB.out, List.append_nil]; exact T1.out.appA ho hg hat
        clear ho hg hat Rp1 RP T1 r0 r1 r2 h1 h2 h3
        go_roundw
        case rel => exact ⟨k + 1, by omega, by go_num, by rw [ET.out, HY.out]; go_num, F.out⟩
        case measure => simp [intOf]; omega
      by_cases c2 : y ≤ 0
      · have SA : Hid (stepA p y = []) := by show _ = _; unfold stepA; rw [if_neg c1, if_pos c2]
        have SB : Hid (stepB p y = [p]) := by show _ = _; unfold stepB; rw [if_neg c1, if_pos c2]
        have T1 := Hid.mk' ((HT.out.alloc (.cells #[.bool p.ad, .int .i64 p.fr, .int .i64 p.sz] 66)).alloc (.cells #[.bool p.ad, .int .i64 p.fr, .int .i64 p.sz] 66))
        have RP := Hid.mk' ((row3 wr 66 (.bool p.ad) (.int .i64 p.fr) (.int .i64 p.sz)).alloc (.cells #[.bool p.ad, .int .i64 p.fr, .int .i64 p.sz] 66))
        go_wp2_with (at_builtin; refine wpList_append_at _ rfl (.tmp 44) (.tmp 46) 61 rfl w.heap.size 66 (.agg #[.bool false, .int .i64 0, .int .i64 0]) 3 24 under_chain Try.info66 rfl (by decide) _ _ _ rfl T1.out.ob _ 1 _ (pcs [p]) rfl (bcs3 _) (.inr ⟨_, rfl, one_piece' (wr.alloc (.cells #[.bool p.ad, .int .i64 p.fr, .int .i64 p.sz] 66)) 66 p _ (by simp)⟩) (pcs_one _) (by unfold maxLen; omega) (by omega) T1.out.sz ?_; intro v' w1 ho hg hat; have Rp1 := RP.out.of_block (grown_other hg (fun j e => (HT.out.ob.lt j e).2) (by simp; omega)); obtain ⟨r0, r1, r2, _⟩ := cells3 Rp1)
        have F : Hid (Two w.heap.size 66 w u6 v' (partA (l.take (k + 1)) x) (partB (l.take (k + 1)) x) w1) := by
          show Two _ _ _ _ _ _ _ _
          rw [EA.out, EB.out, SA.out, SB.out, List.append_nil]; exact T1.out.appB ho hg hat
        clear ho hg hat Rp1 RP T1 r0 r1 r2 h1 h2 h3
        go_roundw
        case rel => exact ⟨k + 1, by omega, by go_num, by rw [ET.out, HY.out]; go_num, F.out⟩
        case measure => simp [intOf]; omega
      have SA : Hid (stepA p y = [⟨p.ad, p.fr, y⟩]) := by show _ = _; unfold stepA; rw [if_neg c1, if_neg c2]
      have SB : Hid (stepB p y = [⟨p.ad, p.fr + y, p.sz - y⟩]) := by show _ = _; unfold stepB; rw [if_neg c1, if_neg c2]
      have T0 := Hid.mk' (HT.out.alloc (.cells #[.bool p.ad, .int .i64 p.fr, .int .i64 p.sz] 66))
      have RP0 := Hid.mk' (row3 wr 66 (.bool p.ad) (.int .i64 p.fr) (.int .i64 p.sz))
      go_wp2_with fail
      refine (cut_any p y _ f1 f2 f3 f4 y1 y2).mono ?_
      rintro e wc ⟨rfl, hbc⟩
      have T1 := Hid.mk' (((T0.out.below hbc).alloc (.cells #[.bool p.ad, .int .i64 p.fr, .int .i64 y] 66)).alloc (.cells #[.bool p.ad, .int .i64 (p.fr + y), .int .i64 (p.sz - y)] 66))
      have T1' := Hid.mk' (T1.out.alloc (.cells #[.bool p.ad, .int .i64 p.fr, .int .i64 y] 66))
      have hsz := hbc.size
      simp at hsz
      have RP := Hid.mk' ((((rowB RP0.out hbc).alloc (.cells #[.bool p.ad, .int .i64 p.fr, .int .i64 y] 66)).alloc (.cells #[.bool p.ad, .int .i64 (p.fr + y), .int .i64 (p.sz - y)] 66)).alloc (.cells #[.bool p.ad, .int .i64 p.fr, .int .i64 y] 66))
      have RL := Hid.mk' ((row3 wc 66 (.bool p.ad) (.int .i64 p.fr) (.int .i64 y)).alloc (.cells #[.bool p.ad, .int .i64 (p.fr + y), .int .i64 (p.sz - y)] 66))
      have RR := row3 (wc.alloc (.cells #[.bool p.ad, .int .i64 p.fr, .int .i64 y] 66)) 66 (.bool p.ad) (.int .i64 (p.fr + y)) (.int .i64 (p.sz - y))
      simp only [World.heap_size_alloc'] at RR
      have RR' := Hid.mk' (RR.alloc (.cells #[.bool p.ad, .int .i64 p.fr, .int .i64 y] 66))
      have hua : ∀ j, u6.ownBlock = some j → j < wr.heap.size := fun j e => (HT.out.oa.lt j e).2
      have hub : ∀ j, u7.ownBlock = some j → j < wr.heap.size := fun j e => (HT.out.ob.lt j e).2
      have HUA := Hid.mk' hua
      have HUB := Hid.mk' hub
      clear RR hbc T0 RP0 h1 h2 h3 hua hub
      go_wp2_with (first | (at_builtin; refine wpList_append_at _ rfl (.tmp 24) (.tmp 26) 61 rfl w.heap.size 66 (.agg #[.bool false, .int .i64 0, .int .i64 0]) 3 24 under_chain Try.info66 rfl (by decide) _ _ _ rfl T1'.out.oa _ 1 _ (pcs [(⟨p.ad, p.fr, y⟩ : PC)]) rfl (bcs3 _) (.inr ⟨_, rfl, one_piece' ((wc.alloc (.cells #[.bool p.ad, .int .i64 p.fr, .int .i64 y] 66)).alloc (.cells #[.bool p.ad, .int .i64 (p.fr + y), .int .i64 (p.sz - y)] 66)) 66 (⟨p.ad, p.fr, y⟩ : PC) _ (by simp)⟩) (pcs_one _) (by unfold maxLen; omega) (by omega) T1'.out.sz ?_; intro v' w1 ho hg hat; have Rp1 := RP.out.of_block (grown_other hg HUA.out (by simp; omega)); have RP1 := Hid.mk' Rp1; have Rr1 := RR'.out.of_block (grown_other hg (fun j e => by have := HUA.out j e; omega) (by simp)); have RR1 := Hid.mk' Rr1; obtain ⟨s0, s1, s2, s4⟩ := cells3 Rr1; obtain ⟨r0, r1, r2, r4⟩ := cells3 Rp1; have T2 := Hid.mk' (T1'.out.appA (C := [⟨p.ad, p.fr, y⟩]) ho hg hat); have T3 := Hid.mk' (T2.out.alloc (.cells #[.bool p.ad, .int .i64 (p.fr + y), .int .i64 (p.sz - y)] 66)); clear ho hg hat Rp1 Rr1) | (at_builtin; refine wpList_append_at _ rfl (.tmp 28) (.tmp 30) 61 rfl w.heap.size 66 (.agg #[.bool false, .int .i64 0, .int .i64 0]) 3 24 under_chain Try.info66 rfl (by decide) _ _ _ rfl T3.out.ob _ 1 _ (pcs [(⟨p.ad, p.fr + y, p.sz - y⟩ : PC)]) rfl (bcs3 _) (.inr ⟨_, rfl, one_piece' w1 66 (⟨p.ad, p.fr + y, p.sz - y⟩ : PC) _ (by simp)⟩) (pcs_one _) (by unfold maxLen; omega) (by omega) T3.out.sz ?_; intro v'' w2 ho2 hg2 hat2; have Rp2 := (RP1.out.alloc (.cells #[.bool p.ad, .int .i64 (p.fr + y), .int .i64 (p.sz - y)] 66)).of_block (grown_other hg2 HUB.out (by simp; omega)); obtain ⟨r5, r6, r7, r8⟩ := cells3 Rp2))
      have F : Hid (Two w.heap.size 66 w v' v'' (partA (l.take (k + 1)) x) (partB (l.take (k + 1)) x) w2) := by
        show Two _ _ _ _ _ _ _ _
        rw [EA.out, EB.out, SA.out, SB.out]; exact T3.out.appB ho2 hg2 hat2
      clear ho2 hg2 hat2 Rp2 RP RP1 T1 T1' T2 T3 r0 r1 r2 r4 r5 r6 r7 r8 s0 s1 s2 s4 RL RR' RR1 HUA HUB
      go_roundw
      case rel => exact ⟨k + 1, by omega, by go_num, by rw [ET.out, HY.out]; go_num, F.out⟩
      case measure => simp [intOf]; omega
    · go_wp2
      go_ret2
      have e : k = l.length := by omega
      subst e
      rw [List.take_length] at hT
      exact ⟨_, _, rfl, hT⟩

end Go.Proofs.Ytahkneghmgmnbaa
