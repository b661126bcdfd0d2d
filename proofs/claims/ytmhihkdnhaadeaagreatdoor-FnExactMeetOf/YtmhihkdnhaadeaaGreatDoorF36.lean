/- Where an edit meets: the loop, over contracts. -/
import Derived.Test.YtmhihkdnhaadeaaGreatDoorF35
import Derived.Deep.LoopGhost
import Derived.Test.YtmhihkdnhaadeaaGreatDoorF32
import Derived.Test.YtmhihkdnhaadeaaGreatDoorF33
import Derived.Test.YtmhihkdnhaadeaaGreatDoorF29
set_option linter.unusedVariables false
set_option linter.unusedSimpArgs false
namespace Go.Proofs.YtmhihkdnhaadeaaGreatDoor
open Go.RowKit

set_option maxRecDepth 100000 in
set_option maxHeartbeats 3200000 in
theorem meetLoop_any (EV : Array Value) (hsz : EV.size = 10) (ta : Option Addr) (L tc : Nat) (h5 : EV[5]? = some (.slice ta L tc)) (fa fb : Nat → Nat) (sh : Nat → ByteArray) (f : Nat → Bool) (x0 : Nat) (hx0 : x0 ≤ L) (hL : L ≤ 240) (w : World)
    (KF : ∀ v, Below w.heap.size w v → Calls Tryz.prog 50 #[.agg EV] v fun e w' => e = .returned (.agg #[.complex .f64 (fa x0) (fb x0), .string (sh x0)]) ∧ Below v.heap.size v w')
    (KX : ∀ x v, x0 ≤ x → x < L → Below w.heap.size w v → Calls Tryz.prog 53 #[.agg EV, .agg #[.complex .f64 (fa x) (fb x), .string (sh x)]] v fun e w' => e = .returned (.agg #[.complex .f64 (fa (x + 1)) (fb (x + 1)), .string (sh (x + 1))]) ∧ Below v.heap.size v w')
    (KK : ∀ x v, x0 ≤ x → x < L → Below w.heap.size w v → Calls Tryz.prog 52 #[.agg EV, .agg #[.complex .f64 (fa x) (fb x), .string (sh x)]] v fun e w' => e = .returned (.bool (f x)) ∧ Below v.heap.size v w')
    (KN : ∀ x v, x0 ≤ x → x ≤ L → Calls Tryz.prog 51 #[.agg #[.complex .f64 (fa x) (fb x), .string (sh x)]] v fun e w' => e = .returned (.int .i64 (x : Int)) ∧ Below v.heap.size v w') :
    Calls Tryz.prog 28 #[.agg EV] w fun e w' => e = .returned (.int .i64 (meetN f L x0 : Nat)) ∧ Below w.heap.size w w' := by
  have B0 := below_new w (.cells EV 60)
  have R0 := RowA.new w 60 EV
  have HB := Hid.mk' B0
  have HR := Hid.mk' R0
  have HF := Hid.mk' KF
  have HX := Hid.mk' KX
  have HK := Hid.mk' KK
  have HN := Hid.mk' KN
  have H5 := Hid.mk' h5
  have hgW : w.heap.size < (w.alloc (.cells EV 60)).heap.size := by simp
  clear B0 R0 KF KX KK KN h5
  generalize hW : w.alloc (.cells EV 60) = W at *
  go_enter Tryz.func28, Tryz.ntmps28
  go_wp2_with (first | ((with_reducible refine wpList_load_row ?_ 60 (.tmp 1) ?_ w.heap.size ?_ 60 EV (0, 0) _ ?_ Tryz.underlying60 ?_ ?_ ?_); rfl; rfl; rfl; exact HR.out; rfl; (rw [hsz]; kernel_rfl)) | fail)
  clear hW
  refine (HF.out _ HB.out).mono ?_
  rintro e1 w1 ⟨rfl, hb1⟩
  have HB1 := Hid.mk' (HB.out.trans (hb1.mono (Nat.le_of_lt hgW)))
  have HR1 := Hid.mk' (HR.out.below hb1)
  have hg1 : w.heap.size < w1.heap.size := Nat.lt_of_lt_of_le hgW hb1.size
  clear hb1 HB HR hgW
  go_wp2_with (first | ((with_reducible refine wpList_store_row ?_ 97 (.tmp 3) (.tmp 5) ?_ w1.heap.size #[.complex .f64 (fa x0) (fb x0), .string (sh x0)] ?_ ?_ 97 #[.complex .f64 0 0, .string ⟨#[]⟩] ?_ ?_ ?_ ?_ ?_); rfl; rfl; rfl; rfl; exact RowA.new _ _ _; kernel_rfl; rfl; kernel_rfl; rw [alloc_setRow]) | fail)
  have RB := RowA.new w1 97 #[.complex .f64 (fa x0) (fb x0), .string (sh x0)]
  have N1 := below_new w1 (.cells #[.complex .f64 (fa x0) (fb x0), .string (sh x0)] 97)
  have RE := HR1.out.below N1
  have BB := HB1.out.trans (N1.mono (Nat.le_of_lt hg1))
  clear N1 HR1 HB1
  obtain ⟨g, hg⟩ : ∃ g, w1.heap.size = g := ⟨_, rfl⟩
  generalize hV : w1.alloc (.cells #[.complex .f64 (fa x0) (fb x0), .string (sh x0)] 97) = V0 at *
  rw [hg] at RB hg1 ⊢
  clear hV hg
  have R0 := Hid.mk' (And.intro BB (And.intro RE RB))
  clear BB RE RB
  try simp only [Act.put]
  go_loopg [] (L - x0) (fun k wr => ∃ x, x0 ≤ x ∧ x ≤ L ∧ k = L - x ∧ Hid (meetN f L x0 = meetN f L x) ∧ Hid (Below w.heap.size w wr ∧ RowA wr w.heap.size 60 EV ∧ RowA wr g 97 #[.complex .f64 (fa x) (fb x), .string (sh x)]))
  case atStart => exact ⟨x0, Nat.le_refl _, hx0, rfl, Hid.mk' rfl, R0⟩
  case round =>
    obtain ⟨x, hx1, hx2, rfl, hme, hr⟩ := hrel
    clear R0
    have HS : Hid (∀ v, Below wr.heap.size wr v → (fun v => v.cell? ⟨w.heap.size, 5, none⟩ = some (.slice ta L tc) ∧ Hid (RowA v w.heap.size 60 EV) ∧ Hid (RowA v g 97 #[.complex .f64 (fa x) (fb x), .string (sh x)])) v) := Hid.mk' (fun v hb => ⟨(hr.out.2.1.below hb).cell 5 _ H5.out, Hid.mk' (hr.out.2.1.below hb), Hid.mk' (hr.out.2.2.below hb)⟩)
    by_cases hlt : x < L
    · have ci : (x : Int) < (L : Int) := by omega
      cases hfx : f x with
      | true =>
        go_wp2_with fail
        refine wp_region_held_drew (S := (fun v => v.cell? ⟨w.heap.size, 5, none⟩ = some (.slice ta L tc) ∧ Hid (RowA v w.heap.size 60 EV) ∧ Hid (RowA v g 97 #[.complex .f64 (fa x) (fb x), .string (sh x)]))) (by kernel_rfl) (HS.out _ (Below.refl _ _).drew) (fun hHeld => ?_)
        refine wpAnyH_take (i := 0) (oi := ⟨_, _, _, _, _, _⟩) (v := .agg #[.complex .f64 (fa x) (fb x), .string (sh x)]) rfl (by kernel_rfl) (by kernel_rfl) (by kernel_rfl) (fun _ _ _ h => h) (Or.inl ⟨by rfl, ?_⟩) (by assumption) ?_
        · (intro w' hSw; exact hSw.2.2.out.exec (.tmp 3) rfl rfl _ Tryz.underlying97 rfl (by kernel_rfl))
        try simp only [Act.put, zA, zB, zC]
        refine tkY 2 ?_
        try simp only [Act.put, zA, zB, zC]
        refine tkY 3 ?_
        try simp only [Act.put, zA, zB, zC]
        refine tkY 4 ?_
        try simp only [Act.put, zA, zB, zC]
        refine wpAnyH_ready (rs := [1]) (by kernel_rfl) (by simp) ?_
        refine AllReadyH.cons (o := ⟨_, _, _, _, _, _⟩) rfl (fun K hK => ?_) AllReadyH.nil
        go_simp
        refine (HN.out x _ hx1 hx2).mono ?_
        rintro e2 w2 ⟨rfl, hb2⟩
        replace hb2 := undrew hb2
        have BW2 := Hid.mk' hb2
        clear hb2
        refine hK.out _ _ (HS.out _ BW2.out) (fun hHeld => ?_)
        clear hK K
        try simp only [Act.put, zA, zB, zC]
        refine tkY 5 ?_
        try simp only [Act.put, zA, zB, zC]
        refine tkY 6 ?_
        try simp only [Act.put, zA, zB, zC]
        refine wpAnyH_take (i := 7) (oi := ⟨_, _, _, _, _, _⟩) (v := .agg EV) rfl (by kernel_rfl) (by kernel_rfl) (by kernel_rfl) (fun _ _ _ h => h) (Or.inl ⟨by rfl, ?_⟩) (by assumption) ?_
        · (intro w' hSw; exact hSw.2.1.out.exec (.tmp 1) rfl rfl _ Tryz.underlying60 rfl (by rw [hsz]; kernel_rfl))
        try simp only [Act.put, zA, zB, zC]
        refine wpAnyH_take (i := 8) (oi := ⟨_, _, _, _, _, _⟩) (v := .agg #[.complex .f64 (fa x) (fb x), .string (sh x)]) rfl (by kernel_rfl) (by kernel_rfl) (by kernel_rfl) (fun _ _ _ h => h) (Or.inl ⟨by rfl, ?_⟩) (by assumption) ?_
        · (intro w' hSw; exact hSw.2.2.out.exec (.tmp 3) rfl rfl _ Tryz.underlying97 rfl (by kernel_rfl))
        try simp only [Act.put, zA, zB, zC]
        refine wpAnyH_ready (rs := [9]) (by kernel_rfl) (by simp) ?_
        refine AllReadyH.cons (o := ⟨_, _, _, _, _, _⟩) rfl (fun K hK => ?_) AllReadyH.nil
        go_simp
        refine (HK.out x _ hx1 hlt (hr.out.1.trans (BW2.out.mono hr.out.1.size))).mono ?_
        rintro e3 w3 ⟨rfl, hb3⟩
        have BW3 := Hid.mk' (BW2.out.trans (hb3.mono BW2.out.size))
        clear hb3
        refine hK.out _ _ (HS.out _ BW3.out) (fun hHeld => ?_)
        clear hK K
        try simp only [Act.put, zA, zB, zC]
        refine tkY 10 ?_
        try simp only [Act.put, zA, zB, zC]
        refine tkY 11 ?_
        try simp only [Act.put, zA, zB, zC]
        refine wpAnyH_done (by kernel_rfl) ?_ _
        clear hHeld
        have QB := Hid.mk' (hr.out.1.trans (BW3.out.mono hr.out.1.size))
        have QS := Hid.mk' (hr.out.2.2.below BW3.out)
        go_wp2_with (first | ((with_reducible refine wpList_load_row ?_ 97 (.tmp 3) ?_ g ?_ 97 #[.complex .f64 (fa x) (fb x), .string (sh x)] (0, 0) _ ?_ Tryz.underlying97 ?_ ?_ ?_); rfl; rfl; rfl; exact QS.out; rfl; kernel_rfl) | fail)
        refine (HN.out x _ hx1 hx2).mono ?_
        rintro e5 w5 ⟨rfl, hb5⟩
        have B5 := Hid.mk' hb5
        clear hb5
        go_wp2
        go_ret
        exact ⟨by rw [hme.out, meetN_yes hlt hfx]; rfl, QB.out.trans (B5.out.mono QB.out.size)⟩

      | false =>
        go_wp2_with fail
        refine wp_region_held_drew (S := (fun v => v.cell? ⟨w.heap.size, 5, none⟩ = some (.slice ta L tc) ∧ Hid (RowA v w.heap.size 60 EV) ∧ Hid (RowA v g 97 #[.complex .f64 (fa x) (fb x), .string (sh x)]))) (by kernel_rfl) (HS.out _ (Below.refl _ _).drew) (fun hHeld => ?_)
        refine wpAnyH_take (i := 0) (oi := ⟨_, _, _, _, _, _⟩) (v := .agg #[.complex .f64 (fa x) (fb x), .string (sh x)]) rfl (by kernel_rfl) (by kernel_rfl) (by kernel_rfl) (fun _ _ _ h => h) (Or.inl ⟨by rfl, ?_⟩) (by assumption) ?_
        · (intro w' hSw; exact hSw.2.2.out.exec (.tmp 3) rfl rfl _ Tryz.underlying97 rfl (by kernel_rfl))
        try simp only [Act.put, zA, zB, zC]
        refine tkY 2 ?_
        try simp only [Act.put, zA, zB, zC]
        refine tkY 3 ?_
        try simp only [Act.put, zA, zB, zC]
        refine tkY 4 ?_
        try simp only [Act.put, zA, zB, zC]
        refine wpAnyH_ready (rs := [1]) (by kernel_rfl) (by simp) ?_
        refine AllReadyH.cons (o := ⟨_, _, _, _, _, _⟩) rfl (fun K hK => ?_) AllReadyH.nil
        go_simp
        refine (HN.out x _ hx1 hx2).mono ?_
        rintro e2 w2 ⟨rfl, hb2⟩
        replace hb2 := undrew hb2
        have BW2 := Hid.mk' hb2
        clear hb2
        refine hK.out _ _ (HS.out _ BW2.out) (fun hHeld => ?_)
        clear hK K
        try simp only [Act.put, zA, zB, zC]
        refine tkY 5 ?_
        try simp only [Act.put, zA, zB, zC]
        refine tkY 6 ?_
        try simp only [Act.put, zA, zB, zC]
        refine wpAnyH_take (i := 7) (oi := ⟨_, _, _, _, _, _⟩) (v := .agg EV) rfl (by kernel_rfl) (by kernel_rfl) (by kernel_rfl) (fun _ _ _ h => h) (Or.inl ⟨by rfl, ?_⟩) (by assumption) ?_
        · (intro w' hSw; exact hSw.2.1.out.exec (.tmp 1) rfl rfl _ Tryz.underlying60 rfl (by rw [hsz]; kernel_rfl))
        try simp only [Act.put, zA, zB, zC]
        refine wpAnyH_take (i := 8) (oi := ⟨_, _, _, _, _, _⟩) (v := .agg #[.complex .f64 (fa x) (fb x), .string (sh x)]) rfl (by kernel_rfl) (by kernel_rfl) (by kernel_rfl) (fun _ _ _ h => h) (Or.inl ⟨by rfl, ?_⟩) (by assumption) ?_
        · (intro w' hSw; exact hSw.2.2.out.exec (.tmp 3) rfl rfl _ Tryz.underlying97 rfl (by kernel_rfl))
        try simp only [Act.put, zA, zB, zC]
        refine wpAnyH_ready (rs := [9]) (by kernel_rfl) (by simp) ?_
        refine AllReadyH.cons (o := ⟨_, _, _, _, _, _⟩) rfl (fun K hK => ?_) AllReadyH.nil
        go_simp
        refine (HK.out x _ hx1 hlt (hr.out.1.trans (BW2.out.mono hr.out.1.size))).mono ?_
        rintro e3 w3 ⟨rfl, hb3⟩
        have BW3 := Hid.mk' (BW2.out.trans (hb3.mono BW2.out.size))
        clear hb3
        refine hK.out _ _ (HS.out _ BW3.out) (fun hHeld => ?_)
        clear hK K
        try simp only [Act.put, zA, zB, zC]
        refine tkY 10 ?_
        try simp only [Act.put, zA, zB, zC]
        refine tkY 11 ?_
        try simp only [Act.put, zA, zB, zC]
        refine wpAnyH_done (by kernel_rfl) ?_ _
        clear hHeld
        have QB := Hid.mk' (hr.out.1.trans (BW3.out.mono hr.out.1.size))
        have QE := Hid.mk' (hr.out.2.1.below BW3.out)
        have QS := Hid.mk' (hr.out.2.2.below BW3.out)
        have HM := Hid.mk' (hme.out.trans (meetN_no hlt hfx))
        clear hfx
        go_wp2_with (first | ((with_reducible refine wpList_load_row ?_ 97 (.tmp 3) ?_ g ?_ 97 #[.complex .f64 (fa x) (fb x), .string (sh x)] (0, 0) _ ?_ Tryz.underlying97 ?_ ?_ ?_); rfl; rfl; rfl; exact QS.out; rfl; kernel_rfl) | ((with_reducible refine wpList_load_row ?_ 60 (.tmp 1) ?_ w.heap.size ?_ 60 EV (0, 0) _ ?_ Tryz.underlying60 ?_ ?_ ?_); rfl; rfl; rfl; exact QE.out; rfl; (rw [hsz]; kernel_rfl)) | fail)
        refine (HX.out x _ hx1 hlt QB.out).mono ?_
        rintro e5 w5 ⟨rfl, hb5⟩
        have B5 := Hid.mk' (QB.out.trans (hb5.mono QB.out.size))
        have E5 := Hid.mk' (QE.out.below hb5)
        have S5 := Hid.mk' (QS.out.below hb5)
        clear hb5
        go_wp2_with (first | ((with_reducible refine wpList_store_row ?_ 97 (.tmp 3) (.tmp 20) ?_ g #[.complex .f64 (fa (x + 1)) (fb (x + 1)), .string (sh (x + 1))] ?_ ?_ 97 #[.complex .f64 (fa x) (fb x), .string (sh x)] ?_ ?_ ?_ ?_ ?_); rfl; rfl; rfl; rfl; exact S5.out; kernel_rfl; rfl; kernel_rfl) | fail)
        try simp only [Act.put, zA, zB, zC]
        go_roundg (L - (x + 1))
        case measure => omega
        case rel =>
          exact ⟨x + 1, by omega, by omega, rfl, HM, Hid.mk' ⟨RowA.putBelow B5.out (Nat.le_of_lt hg1) _, E5.out.otherRow (Nat.ne_of_lt hg1) _, S5.out.put _⟩⟩

    · have hxl : Hid (x = L) := Hid.mk' (by omega)
      have ci : ¬ (x : Int) < (L : Int) := by omega
      go_wp2_with fail
      refine wp_region_held_drew (S := (fun v => v.cell? ⟨w.heap.size, 5, none⟩ = some (.slice ta L tc) ∧ Hid (RowA v w.heap.size 60 EV) ∧ Hid (RowA v g 97 #[.complex .f64 (fa x) (fb x), .string (sh x)]))) (by kernel_rfl) (HS.out _ (Below.refl _ _).drew) (fun hHeld => ?_)
      refine wpAnyH_take (i := 0) (oi := ⟨_, _, _, _, _, _⟩) (v := .agg #[.complex .f64 (fa x) (fb x), .string (sh x)]) rfl (by kernel_rfl) (by kernel_rfl) (by kernel_rfl) (fun _ _ _ h => h) (Or.inl ⟨by rfl, ?_⟩) (by assumption) ?_
      · (intro w' hSw; exact hSw.2.2.out.exec (.tmp 3) rfl rfl _ Tryz.underlying97 rfl (by kernel_rfl))
      try simp only [Act.put, zA, zB, zC]
      refine tkY 2 ?_
      try simp only [Act.put, zA, zB, zC]
      refine tkY 3 ?_
      try simp only [Act.put, zA, zB, zC]
      refine tkY 4 ?_
      try simp only [Act.put, zA, zB, zC]
      refine wpAnyH_ready (rs := [1]) (by kernel_rfl) (by simp) ?_
      refine AllReadyH.cons (o := ⟨_, _, _, _, _, _⟩) rfl (fun K hK => ?_) AllReadyH.nil
      go_simp
      refine (HN.out x _ hx1 hx2).mono ?_
      rintro e2 w2 ⟨rfl, hb2⟩
      replace hb2 := undrew hb2
      have BW2 := Hid.mk' hb2
      clear hb2
      refine hK.out _ _ (HS.out _ BW2.out) (fun hHeld => ?_)
      clear hK K
      try simp only [Act.put, zA, zB, zC]
      refine tkY 5 ?_
      try simp only [Act.put, zA, zB, zC]
      refine tkY 6 ?_
      try simp only [Act.put, zA, zB, zC]
      refine tkU 7 ?_
      try simp only [Act.put, zA, zB, zC]
      refine tkU 8 ?_
      try simp only [Act.put, zA, zB, zC]
      refine tkU 9 ?_
      try simp only [Act.put, zA, zB, zC]
      refine tkU 10 ?_
      try simp only [Act.put, zA, zB, zC]
      refine tkY 11 ?_
      try simp only [Act.put, zA, zB, zC]
      refine wpAnyH_done (by kernel_rfl) ?_ _
      clear hHeld
      have QB := Hid.mk' (hr.out.1.trans (BW2.out.mono hr.out.1.size))
      have QS := Hid.mk' (hr.out.2.2.below BW2.out)
      go_wp2_with (first | ((with_reducible refine wpList_load_row ?_ 97 (.tmp 3) ?_ g ?_ 97 #[.complex .f64 (fa x) (fb x), .string (sh x)] (0, 0) _ ?_ Tryz.underlying97 ?_ ?_ ?_); rfl; rfl; rfl; exact QS.out; rfl; kernel_rfl) | fail)
      refine (HN.out x _ hx1 hx2).mono ?_
      rintro e5 w5 ⟨rfl, hb5⟩
      have B5 := Hid.mk' hb5
      clear hb5
      go_wp2
      go_ret
      exact ⟨by rw [hme.out, meetN_end (Nat.le_of_eq hxl.out.symm), ← hxl.out]; rfl, QB.out.trans (B5.out.mono QB.out.size)⟩

end Go.Proofs.YtmhihkdnhaadeaaGreatDoor

namespace Go.Proofs.YtmhihkdnhaadeaaGreatDoor
open Go.RowKit

abbrev edV (d : List Int) (s i j : Nat) (p : List Int) (gd gc : Nat) (tv : Value) (hvs : Nat → Value) (tx : Value) : Array Value := edX d.length s (d.length / s + 1) gd gc tv (hvs (d.length / s + 1)) tx (i / s * s) (tkN d s (i / s)).length (hvs (i / s)) (i + p.length) (i + j)

theorem hdA_succ {T : List Int} {x : Nat} (h : x < T.length) : hdA T (x + 1) = (feedX (hdA T x) (T.getD x 0).toNat).2 := by
  have e : (T.drop x).take 1 = [T.getD x 0] := by
    rw [List.drop_eq_getElem_cons h, List.take_succ_cons, List.take_zero]
    simp [List.getD, h]
  rw [hdA_add T x 1, e]
  rfl

theorem byt_spl {d p : List Int} (hub : Byt d) (hpb : Byt p) (i j : Nat) : Byt (spl d i j p) := Byt.of (fun y hy => by
  unfold spl at hy
  simp only [List.mem_append] at hy
  rcases hy with (h | h) | h
  · exact hub.mem y (List.mem_of_mem_take h)
  · exact hpb.mem y h
  · exact hub.mem y (List.mem_of_mem_drop h))

set_option maxRecDepth 100000 in
set_option maxHeartbeats 1600000 in
theorem editMeet_any (tp : TypeId) (pv : Value) (base : Nat) (d : List Int) (s i j : Nat) (p : List Int) (gd gc : Nat) (tv : Value) (hvs : Nat → Value) (us : List Value) (rs : Nat → List Value) (bl bh : Nat → Nat) (tx : Value) (w : World) (hE : Env w.heap.size tp pv w) (hx : ED base d s i j p gd gc tv hvs us rs bl bh tx w) (hs : 1 ≤ s) (hs2 : s ≤ 60) (hij : i + j ≤ d.length) (hd : d.length ≤ 240) (hT : (spl d i j p).length ≤ 240) (hub : Byt d) (hpb : Byt p) :
    Calls Tryz.prog 28 #[.agg (edV d s i j p gd gc tv hvs tx)] w fun e w' => e = .returned (.int .i64 (meetN (mtF d (spl d i j p) s i j p.length) (spl d i j p).length (i / s * s) : Nat)) ∧ Below w.heap.size w w' := by
  have hTb0 := byt_spl hub hpb i j
  have htx0 := hx.tx
  have hQ : i / s * s ≤ i := Nat.div_mul_le_self _ _
  have htk := spl_take (l := d) (at_ := i) (n := j) (q := i / s * s) (p := p) hQ (by omega)
  have hlen := spl_len (l := d) (at_ := i) (n := j) (p := p) hij
  generalize hTe : spl d i j p = T at *
  obtain ⟨ta, tc, rfl, bt⟩ := htx0.len
  have hKJ : i / s ≤ d.length / s + 1 := by have : i / s ≤ d.length / s := Nat.div_le_div_right (by omega); omega
  obtain ⟨ka, kc, ek, hkb⟩ := own_bat (hx.nm.rx.own (i / s) hKJ)
  have hQT : hdN d s (i / s) = hdA T (i / s * s) := (hdA_same htk).symm
  have hgd : ∀ x, GoodH (hdA T x) := fun x => allX_good _ _ _ (.inl rfl)
  have hby : ∀ x, Byt (hdA T x) := fun x => allX_byt _ _ _ (fun y hy => hTb0.mem y (List.mem_of_mem_take hy)) Byt.nil
  have hm : meetN (mtF d T s i j p.length) T.length (i / s * s) = meetN (mtF d T s i j p.length) T.length (i + p.length) := by
    have := meetN_skip (f := mtF d T s i j p.length) (L := T.length) (i + p.length - i / s * s) (i / s * s) (by omega) (fun y h1 h2 => by unfold mtF; rw [decide_eq_false (by omega)]; rfl)
    rw [this]
    congr 1
    omega
  rw [hm]
  refine meetLoop_any (edV d s i j p gd gc tv hvs (.slice ta T.length tc)) rfl ta T.length tc rfl (fun x => floatOfInt .f64 (x : Int)) (fun x => floatOfInt .f64 ((x + j - p.length : Nat) : Int)) (fun x => strI (hdA T x)) (mtF d T s i j p.length) (i + p.length) (by omega) hT w ?_ ?_ ?_ ?_
  · intro v hv
    have K := editFirst_any tp pv d.length s (d.length / s + 1) gd gc tv (hvs (d.length / s + 1)) (.slice ta T.length tc) T (i / s * s) (tkN d s (i / s)).length ka kc (hdN d s (i / s)) (i + p.length) (i + j) v ((hE.keep hv).up hv.size (Nat.le_refl _)) (hkb.below hv) (by rw [hQT]; exact hgd _) (by rw [hQT]; exact hby _) (htx0.below hv) hTb0 hT (by omega) (by omega)
    rw [← ek, hQT, ← hdA_add, show i / s * s + (i + p.length - i / s * s) = i + p.length by omega] at K
    rw [show i + p.length + j - p.length = i + j by omega]
    exact K
  · intro x v h1 h2 hv
    rcases htx0 with ⟨-, hn⟩ | ⟨g, cap, cn, f, e, hca, hr, hl, hf⟩
    · rw [hn] at h2; simp at h2
    · injection e with e1 e2 e3
      subst e1
      subst e3
      have C : CAt w g 0 T := ⟨hr.lt, fun k hk => by rw [Nat.zero_add, hr.cell (by omega), hf k hk]⟩
      have K := editNext_any tp pv d.length s (d.length / s + 1) gd gc tv (hvs (d.length / s + 1)) g tc T (i / s * s) (tkN d s (i / s)).length (hvs (i / s)) (i + p.length) (i + j) x (x + j - p.length) (hdA T x) v ((hE.keep hv).up hv.size (Nat.le_refl _)) (hgd x) (hby x) (C.below hv) hca hTb0 hT h2 (by omega)
      rw [← hdA_succ h2, show ((x : Int) + 1) = ((x + 1 : Nat) : Int) from rfl, show (((x + j - p.length : Nat) : Int) + 1) = ((x + 1 + j - p.length : Nat) : Int) by omega] at K
      exact K
  · intro x v h1 h2 hv
    have M := hx.nm.below hv
    have ho : x + j - p.length ≤ d.length := by omega
    have hoK : (x + j - p.length) / s ≤ d.length / s + 1 := by have : (x + j - p.length) / s ≤ d.length / s := Nat.div_le_div_right ho; omega
    have K := isKnown_any (.slice (some ⟨gd, 0, none⟩) d.length d.length) tv (hvs (d.length / s + 1)) (.slice ta T.length tc) (.int .i64 ((i / s * s : Nat) : Int)) (.int .i64 ((tkN d s (i / s)).length : Int)) (hvs (i / s)) (.complex .f64 (floatOfInt .f64 ((i + p.length : Nat) : Int)) (floatOfInt .f64 ((i + j : Nat) : Int))) d s x (x + j - p.length) gc hvs (hdA T x) (hby x) v hs hs2 hd ho (by omega) M.ck (own_bat (M.rx.own _ hoK))
    have hmt : mtF d T s i j p.length x = (decide ((x + j - p.length) % s = 0) && beqB (hdN d s ((x + j - p.length) / s)) (hdA T x)) := by
      unfold mtF
      rw [decide_eq_true h1]
      rfl
    rw [hmt]
    exact K
  · intro x v h1 h2
    exact now_any _ _ _ _ v (fl_int x (by omega))

end Go.Proofs.YtmhihkdnhaadeaaGreatDoor

namespace Go.Proofs.YtmhihkdnhaadeaaGreatDoor
open Go.RowKit

set_option maxRecDepth 100000 in
set_option maxHeartbeats 3200000 in
theorem implMT_any (tp : TypeId) (pv : Value) (m : ME) (a t u c : Option Addr) (ca ct cu cc : Nat) (A N : Int) (e : Option Addr) (d : Nat) (p : List Int) (w : World) (hE : Env w.heap.size tp pv w) (h1 : MAt w a t u c m) (hca : m.dt.length ≤ ca) (hub : Byt m.dt) (hpb : Byt p) (hm : (msz m : Int) ≤ 1048576) (he : BAt w e p) (hl : p.length ≤ 1048576) (a1 : -9223372036854775808 ≤ A) (a2 : A ≤ 9223372036854775807) (n1 : -9223372036854775808 ≤ N) (n2 : N ≤ 9223372036854775807) :
    Calls Tryz.prog 9 #[.agg #[.slice a m.dt.length ca, .int .i64 m.st, .slice t m.tk.length ct, .slice u m.hd.length cu, .slice c m.cs.length cc], .int .i64 A, .int .i64 N, .slice e p.length d] w fun ev w' => ev = .returned (.agg #[.int .i64 (edC m A N p), .int .i64 (mtV m A N p)]) ∧ Below w.heap.size w w' := by
  obtain ⟨B0, R1, R2⟩ := boxesI w (.slice a m.dt.length ca) (.int .i64 m.st) (.slice t m.tk.length ct) (.slice u m.hd.length cu) (.slice c m.cs.length cc)
  have HE := Hid.mk' ((hE.keep B0).up B0.size (Nat.le_refl _))
  have KF := Hid.mk' (newEdit_any tp pv m a t u c ca ct cu cc A N e d p _ ((hE.keep B0).up B0.size (Nat.le_refl _)) (h1.below B0) hca hub hm (he.below B0) hl a1 a2 n1 n2)
  have HB := Hid.mk' B0
  have H2 := Hid.mk' R2
  have HU := Hid.mk' hub
  have HP := Hid.mk' hpb
  obtain ⟨x0, x1, x2, x3, x4, x5⟩ := cells5 R1
  clear B0 R1 R2 h1 hub hpb hm hE he
  generalize hW : (w.alloc (.cells #[.slice a m.dt.length ca, .int .i64 m.st, .slice t m.tk.length ct, .slice u m.hd.length cu, .slice c m.cs.length cc] 34)).alloc (.cells #[.int .i64 0, .int .i64 0] 29) = W at *
  go_enter Tryz.func9, Tryz.ntmps9
  go_wp2_with fail
  clear hW x0 x1 x2 x3 x4 x5
  refine KF.out.mono ?_
  rintro e1 w1 (⟨hf, rfl, hb1⟩ | ⟨hf, s, i, j, hst, hs, hs2, rfl, rfl, gd, gc, tv, hvs, us, rs, bl, bh, tx, rfl, hx, ob, hin, hb1⟩)
  · have EV : Hid (mtV m A N p = 0) := Hid.mk' (by unfold mtV; rw [if_neg hf])
    obtain ⟨F, hF⟩ : ∃ F, edC m A N p = F := ⟨_, rfl⟩
    rw [hF] at hf ⊢
    have EC := Hid.mk' hF
    have hne : (F != 0) = true := by simp [hf]
    have N1 := below_new w1 (.cells ed0 60)
    have M1 := hb1.trans (N1.mono hb1.size)
    have HZ := Hid.mk' (rowB H2.out M1)
    have B1 := Hid.mk' (HB.out.trans (M1.mono HB.out.size))
    clear hF N1 M1 hb1
    obtain ⟨y0, y1, y4⟩ := cellsQ2 HZ.out
    obtain ⟨f0, f1⟩ := frzQ2 HZ.out
    go_wp2_with (first | ((with_reducible refine wpList_store_row ?_ 60 (.tmp 9) (.tmp 17) ?_ w1.heap.size ed0 ?_ ?_ 60 _ (Deep.blk_alloc_new w1 _) ?_ ?_ ?_ ?_); rfl; rfl; rfl; rfl; kernel_rfl; rfl; exact ed0_one; rw [alloc_setRow]) | fail)
    refine bodyPost_ret (v := .agg #[.int .i64 F, .int .i64 0]) (by simp [results, Tryz.results9, go_sem, *]) rfl ?_
    exact ⟨by rw [EV.out, EC.out], B1.out.trans ((kept2Q _ _ _ _).below (Nat.le_succ _) B1.out.size)⟩
  · obtain ⟨hf1, hf2⟩ := edC_ok hf
    obtain ⟨g1, g2, g3, g4⟩ := spC_zero hf2
    obtain ⟨h240, -⟩ := memF_ok hf1
    have hij : i + j ≤ m.dt.length := by omega
    have hL : (spl m.dt i j p).length ≤ 240 := by rw [spl_len hij]; omega
    obtain ⟨R, hR⟩ : ∃ R : Nat, meetN (mtF m.dt (spl m.dt i j p) s i j p.length) (spl m.dt i j p).length (i / s * s) = R := ⟨_, rfl⟩
    have EV : Hid (mtV m (i : Int) (j : Int) p = (R : Int)) := Hid.mk' (by
      unfold mtV
      rw [if_pos hf, hst]
      simp only [Int.toNat_natCast]
      rw [hR])
    have EC := Hid.mk' hf
    obtain ⟨X, hX⟩ : ∃ X : Array Value, X = edV m.dt s i j p gd gc tv hvs tx := ⟨_, rfl⟩
    have X1 : X.all (·.oneCell') = true := by
      rw [hX]
      obtain ⟨ha, hc, eh, -⟩ := own_bat (hx.rx.own (m.dt.length / s + 1) (Nat.le_refl _))
      obtain ⟨ta, tc, rfl, -⟩ := own_src hx.rx.tp.row
      obtain ⟨ka, kc, ek, -⟩ := own_bat (hx.rx.own (i / s) (by have : i / s ≤ m.dt.length / s := Nat.div_le_div_right (by omega); omega))
      obtain ⟨va, vc, rfl, -⟩ := ob.len
      unfold edV edX
      rw [eh, ek]
      kernel_rfl
    have X2 : X.size = 10 := by rw [hX]; rfl
    have N1 := below_new w1 (.cells X 60)
    have M1 := hb1.trans (N1.mono hb1.size)
    have KM := editMeet_any tp pv _ m.dt s i j p gd gc tv hvs us rs bl bh tx (w1.alloc (.cells X 60)) ((HE.out.keep M1).up M1.size (Nat.le_refl _)) ⟨hx.below N1, ob.below N1⟩ hs hs2 hij h240 hL HU.out HP.out
    rw [hR, ← hX] at KM
    have hX3 : #[.slice (some ⟨gd, 0, none⟩) m.dt.length m.dt.length, .int .i64 (s : Int), tv, hvs (m.dt.length / s + 1), .slice (some ⟨gc, 0, none⟩) (m.dt.length / s + 1) (m.dt.length / s + 1), tx, .int .i64 ((i / s * s : Nat) : Int), .int .i64 ((tkN m.dt s (i / s)).length : Int), hvs (i / s), .complex .f64 (floatOfInt .f64 ((i : Int) + (p.length : Int))) (floatOfInt .f64 ((i : Int) + (j : Int)))] = X := by
      rw [hX, ← Int.natCast_add, ← Int.natCast_add]
      rfl
    rw [hX3]
    have HK := Hid.mk' KM
    have HM := Hid.mk' M1
    have HXR := Hid.mk' (RowA.new w1 60 X)
    clear hX3 hX KM N1 M1 hb1 hx hin ob
    go_wp2_with (first | ((with_reducible refine wpList_store_row ?_ 60 (.tmp 9) (.tmp 17) ?_ w1.heap.size X ?_ ?_ 60 _ (Deep.blk_alloc_new w1 _) ?_ ?_ ?_ ?_); rfl; rfl; rfl; rfl; (rw [X2]; kernel_rfl); (rw [X2]; rfl); exact X1; rw [alloc_setRow]) | ((with_reducible refine wpList_load_row ?_ 60 (.tmp 9) ?_ w1.heap.size ?_ 60 X (0, 0) _ ?_ Tryz.underlying60 ?_ ?_ ?_); rfl; rfl; rfl; exact HXR.out; rfl; (rw [X2]; kernel_rfl)) | fail)
    refine HK.out.mono ?_
    rintro e2 w2 ⟨rfl, hb2⟩
    have M2 := HM.out.trans (hb2.mono HM.out.size)
    have HZ := Hid.mk' (rowB H2.out M2)
    have B1 := Hid.mk' (HB.out.trans (M2.mono HB.out.size))
    clear M2 hb2
    obtain ⟨y0, y1, y4⟩ := cellsQ2 HZ.out
    obtain ⟨f0, f1⟩ := frzQ2 HZ.out
    go_wp2
    refine bodyPost_ret (v := .agg #[.int .i64 0, .int .i64 (R : Int)]) (by simp [results, Tryz.results9, go_sem, *]) rfl ?_
    exact ⟨by rw [EV.out, EC.out], B1.out.trans ((kept2Q _ _ _ _).below (Nat.le_succ _) B1.out.size)⟩

end Go.Proofs.YtmhihkdnhaadeaaGreatDoor

namespace Go.Proofs.YtmhihkdnhaadeaaGreatDoor
open Go.RowKit

structure Hold1 (w : World) (m : ME) (a t u c : Option Addr) (ca ct cu cc : Nat) (wi : World) : Prop where
  bl : Below w.heap.size w wi
  r1 : wi.rowIs w.heap.size 26 5 (r5 (.slice a m.dt.length ca) (.int .i64 m.st) (.slice t m.tk.length ct) (.slice u m.hd.length cu) (.slice c m.cs.length cc))
  m1 : MAt wi a t u c m

theorem Hold1.below {w : World} {m : ME} {a t u c : Option Addr} {ca ct cu cc : Nat} {wi wj : World} (x : Hold1 w m a t u c ca ct cu cc wi) (hb : Below wi.heap.size wi wj) : Hold1 w m a t u c ca ct cu cc wj :=
  ⟨x.bl.trans (hb.mono x.bl.size), rowB x.r1 hb, x.m1.below hb⟩

end Go.Proofs.YtmhihkdnhaadeaaGreatDoor

namespace Go.Proofs.YtmhihkdnhaadeaaGreatDoor
open Go.RowKit

set_option maxRecDepth 100000 in
set_option maxHeartbeats 8000000 in
theorem lawMT_any (m : ME) (a t u c : Option Addr) (ca ct cu cc : Nat) (A N : Int) (e : Option Addr) (d : Nat) (p : List Int) (tp : TypeId) (pv : Value) (w : World) (hE : Env w.heap.size tp pv w) (ha : MAt w a t u c m) (wa : WideM m) (hub : Byt m.dt) (hcb : ∀ k, k < m.cs.length → Byt (ckK m.cs k).hd) (a1 : -9223372036854775808 ≤ A) (a2 : A ≤ 9223372036854775807) (n1 : -9223372036854775808 ≤ N) (n2 : N ≤ 9223372036854775807) (he : BAt w e p) (hpb : Byt p) (k2 : (p.length : Int) ≤ 9223372036854775807) :
    Calls Tryz.prog 3 #[.agg #[.slice a m.dt.length ca, .int .i64 m.st, .slice t m.tk.length ct, .slice u m.hd.length cu, .slice c m.cs.length cc], .int .i64 A, .int .i64 N, .slice e p.length d] w fun ev w' => ev = .returned (.bool true) ∧ Below w.heap.size w w' := by
  have B0 := below_new w (.cells #[.slice a m.dt.length ca, .int .i64 m.st, .slice t m.tk.length ct, .slice u m.hd.length cu, .slice c m.cs.length cc] 26)
  have H0 : Hold1 w m a t u c ca ct cu cc _ := ⟨B0, row5 w 26 (.slice a m.dt.length ca) (.int .i64 m.st) (.slice t m.tk.length ct) (.slice u m.hd.length cu) (.slice c m.cs.length cc), ha.below B0⟩
  have KS := szMemo_any m a t u c ca ct cu cc 1048576 _ (ha.below B0) wa (by omega) (by omega)
  have HH := Hid.mk' H0
  have HE := Hid.mk' hE
  have HU := Hid.mk' hub
  have HC := Hid.mk' hcb
  have HP := Hid.mk' he
  have HPB := Hid.mk' hpb
  have A1 := Hid.mk' a1
  have A2 := Hid.mk' a2
  have N1 := Hid.mk' n1
  have N2 := Hid.mk' n2
  have BB := Hid.mk' B0
  clear B0 ha H0 wa hE hub hcb he hpb a1 a2 n1 n2
  by_cases g0 : (1048576 : Int) < p.length
  · clear KS
    go_enter Tryz.func3, Tryz.ntmps3
    go_wp2
    go_ret
    exact ⟨rfl, BB.out⟩
  clear BB
  by_cases g1 : (1048576 : Int) < msz m
  · rw [if_pos g1] at KS
    have KS := Hid.mk' KS
    generalize hW : w.alloc (.cells #[.slice a m.dt.length ca, .int .i64 m.st, .slice t m.tk.length ct, .slice u m.hd.length cu, .slice c m.cs.length cc] 26) = W at *
    obtain ⟨x0, x1, x2, x3, x4, x5⟩ := cells5 HH.out.r1
    go_enter Tryz.func3, Tryz.ntmps3
    go_wp2_with fail
    clear hW
    refine KS.out.mono ?_
    rintro e1 w1 ⟨rfl, hb1⟩
    have HB := Hid.mk' (HH.out.below hb1).bl
    clear hb1 KS
    go_wp2
    go_ret
    exact ⟨rfl, HB.out⟩
  rw [if_neg g1] at KS
  have KS := Hid.mk' KS
  have zz : ¬ (1048576 - (msz m : Int) < 0) := by omega
  have hl : (msz m : Int) ≤ 1048576 := by omega
  have hp : (p.length : Int) ≤ 1048576 := by omega
  have hpn : p.length ≤ 1048576 := by omega
  have KSP : Hid (∀ (V : World) (bd bt bc : Nat) (u' e' : Option Addr), MAt V (some ⟨bd, 0, none⟩) (some ⟨bt, 0, none⟩) u' (some ⟨bc, 0, none⟩) m → BAt V e' p → Calls Tryz.prog 6 #[.agg #[.slice (some ⟨bd, 0, none⟩) m.dt.length m.dt.length, .int .i64 m.st, .slice (some ⟨bt, 0, none⟩) m.tk.length m.tk.length, .slice u' m.hd.length m.hd.length, .slice (some ⟨bc, 0, none⟩) m.cs.length m.cs.length], .int .i64 A, .int .i64 N, .slice e' p.length p.length] V fun ev w' => ev = .returned (.agg #[.int .i64 (edC m A N p), .int .i64 (mtV m A N p)]) ∧ Below V.heap.size V w') := Hid.mk' (fun V bd bt bc u' e' h h' => specMT_any m bd bt bc u' m.dt.length m.tk.length m.hd.length m.cs.length A N e' p.length p V h (Nat.le_refl _) (Nat.le_refl _) h' HPB.out HU.out HC.out hl hpn A1.out A2.out N1.out N2.out)
  have KIM : Hid (∀ (V : World) (a' t' u' c' e' : Option Addr), Env V.heap.size tp pv V → MAt V a' t' u' c' m → BAt V e' p → Calls Tryz.prog 9 #[.agg #[.slice a' m.dt.length m.dt.length, .int .i64 m.st, .slice t' m.tk.length m.tk.length, .slice u' m.hd.length m.hd.length, .slice c' m.cs.length m.cs.length], .int .i64 A, .int .i64 N, .slice e' p.length p.length] V fun ev w' => ev = .returned (.agg #[.int .i64 (edC m A N p), .int .i64 (mtV m A N p)]) ∧ Below V.heap.size V w') := Hid.mk' (fun V a' t' u' c' e' hE' h h' => implMT_any tp pv m a' t' u' c' m.dt.length m.tk.length m.hd.length m.cs.length A N e' p.length p V hE' h (Nat.le_refl _) HU.out HPB.out hl h' hpn A1.out A2.out N1.out N2.out)
  generalize edC m A N p = CC at *
  generalize mtV m A N p = VV at *
  clear g1 A1 A2 N1 N2
  generalize hW : w.alloc (.cells #[.slice a m.dt.length ca, .int .i64 m.st, .slice t m.tk.length ct, .slice u m.hd.length cu, .slice c m.cs.length cc] 26) = W at *
  obtain ⟨x0, x1, x2, x3, x4, x5⟩ := cells5 HH.out.r1
  go_enter Tryz.func3, Tryz.ntmps3
  go_wp2_with fail
  clear hW
  refine KS.out.mono ?_
  rintro e1 w1 ⟨rfl, hb1⟩
  have HH := Hid.mk' (HH.out.below hb1)
  clear hb1 KS x0 x1 x2 x3 x4 x5
  obtain ⟨x0, x1, x2, x3, x4, x5⟩ := cells5 HH.out.r1
  go_wp2_with fail
  clear zz
  refine (toMemo_any m a t u c ca ct cu cc _ HH.out.m1 hl).mono ?_
  rintro e3 w3 ⟨g3, h3, i3, j3, rfl, t3, hb3⟩
  have H3 := Hid.mk' (HH.out.below hb3)
  have T3 := Hid.mk' t3
  clear HH hb3 t3 x0 x1 x2 x3 x4 x5
  go_wp2_with fail
  refine (toByteS_any e d p _ (HP.out.below H3.out.bl) hp).mono ?_
  rintro e4 w4 ⟨y4, rfl, ly4, ry4, hb4⟩
  have H4 := Hid.mk' (H3.out.below hb4)
  have T4 := Hid.mk' (T3.out.below hb4)
  have Y4 := Hid.mk' ry4
  clear H3 T3 hb4 ry4 ly4
  go_wp2_with fail
  refine (KSP.out w4 _ _ _ _ _ T4.out (BAt.of_row Y4.out)).mono ?_
  rintro e5 w5 ⟨rfl, hb5⟩
  have N5 := below_new w5 (.cells #[.int .i64 CC, .int .i64 VV] 29)
  have H5 := Hid.mk' ((H4.out.below hb5).below N5)
  have W5 := Hid.mk' (rowQ2 w5 29 (.int .i64 CC) (.int .i64 VV))
  clear H4 T4 Y4 hb5 N5
  generalize hW5 : w5.alloc (.cells #[.int .i64 CC, .int .i64 VV] 29) = W5_ at *
  obtain ⟨x0, x1, x2, x3, x4, x5⟩ := cells5 H5.out.r1
  go_wp2_with fail
  clear hW5
  refine (toMemo_any m a t u c ca ct cu cc _ H5.out.m1 hl).mono ?_
  rintro e6 w6 ⟨g6, h6, i6, j6, rfl, t6, hb6⟩
  have N6 := below_new w6 (.cells #[.slice (some ⟨g6, 0, none⟩) m.dt.length m.dt.length, .int .i64 m.st, .slice (some ⟨h6, 0, none⟩) m.tk.length m.tk.length, .slice (some ⟨i6, 0, none⟩) m.hd.length m.hd.length, .slice (some ⟨j6, 0, none⟩) m.cs.length m.cs.length] 34)
  have H6 := Hid.mk' ((H5.out.below hb6).below N6)
  have T6 := Hid.mk' (t6.below N6)
  have W6 := Hid.mk' (rowB (rowB W5.out hb6) N6)
  have Q6 := Hid.mk' (row5 w6 34 (.slice (some ⟨g6, 0, none⟩) m.dt.length m.dt.length) (.int .i64 m.st) (.slice (some ⟨h6, 0, none⟩) m.tk.length m.tk.length) (.slice (some ⟨i6, 0, none⟩) m.hd.length m.hd.length) (.slice (some ⟨j6, 0, none⟩) m.cs.length m.cs.length))
  clear H5 W5 hb6 t6 N6 x0 x1 x2 x3 x4 x5
  generalize hW6 : w6.alloc (.cells #[.slice (some ⟨g6, 0, none⟩) m.dt.length m.dt.length, .int .i64 m.st, .slice (some ⟨h6, 0, none⟩) m.tk.length m.tk.length, .slice (some ⟨i6, 0, none⟩) m.hd.length m.hd.length, .slice (some ⟨j6, 0, none⟩) m.cs.length m.cs.length] 34) = W6_ at *
  go_wp2_with fail
  clear hW6
  refine (toByteS_any e d p _ (HP.out.below H6.out.bl) hp).mono ?_
  rintro e7 w7 ⟨y7, rfl, ly7, ry7, hb7⟩
  have H7 := Hid.mk' (H6.out.below hb7)
  have T7 := Hid.mk' (T6.out.below hb7)
  have W7 := Hid.mk' (rowB W6.out hb7)
  have Q7 := Hid.mk' (rowB Q6.out hb7)
  have Y7 := Hid.mk' ry7
  clear H6 T6 W6 Q6 hb7 ry7 ly7
  obtain ⟨x0, x1, x2, x3, x4, x5⟩ := cells5 Q7.out
  go_wp2_with fail
  refine (KIM.out w7 _ _ _ _ _ ((HE.out.keep H7.out.bl).up H7.out.bl.size (Nat.le_refl _)) T7.out (BAt.of_row Y7.out)).mono ?_
  rintro e8 w8 ⟨rfl, hb8⟩
  have N8 := below_new w8 (.cells #[.int .i64 CC, .int .i64 VV] 29)
  have H8 := Hid.mk' ((H7.out.below hb8).below N8)
  have T8 := Hid.mk' ((T7.out.below hb8).below N8)
  have W8 := Hid.mk' (rowB (rowB W7.out hb8) N8)
  have Q8 := Hid.mk' (rowB (rowB Q7.out hb8) N8)
  have Y8 := Hid.mk' (rowB (rowB Y7.out hb8) N8)
  have G8 := Hid.mk' (rowQ2 w8 29 (.int .i64 CC) (.int .i64 VV))
  clear H7 T7 W7 Q7 Y7 hb8 N8 x0 x1 x2 x3 x4 x5
  generalize hW8 : w8.alloc (.cells #[.int .i64 CC, .int .i64 VV] 29) = W8_ at *
  obtain ⟨z0, z1, z2⟩ := cellsQ2 W8.out
  obtain ⟨q0, q1, ql⟩ := cellsQ2 G8.out
  go_wp2_with fail
  clear hW8
  refine (eqIntResult_any CC VV _).mono ?_
  rintro e9 w9 ⟨rfl, hb9⟩
  have H9 := Hid.mk' (H8.out.below hb9)
  have T9 := Hid.mk' (T8.out.below hb9)
  have Q9 := Hid.mk' (rowB Q8.out hb9)
  have Y9 := Hid.mk' (rowB Y8.out hb9)
  clear H8 T8 W8 Q8 Y8 G8 hb9 z0 z1 z2 q0 q1 ql
  obtain ⟨x0, x1, x2, x3, x4, x5⟩ := cells5 H9.out.r1
  obtain ⟨y0, y1, y2, y3, y4, y5⟩ := cells5 Q9.out
  have AA := Hid.mk' (H9.out.m1)
  go_wp2
  go_region_held3 (fun w' => w'.cell? ⟨w.heap.size, 0, none⟩ = some (.slice a m.dt.length ca) ∧ w'.cell? ⟨w.heap.size, 1, none⟩ = some (.int .i64 m.st) ∧ w'.cell? ⟨w.heap.size, 2, none⟩ = some (.slice t m.tk.length ct) ∧ w'.cell? ⟨w.heap.size, 3, none⟩ = some (.slice u m.hd.length cu) ∧ w'.cell? ⟨w.heap.size, 4, none⟩ = some (.slice c m.cs.length cc) ∧ w'.cell? ⟨w6.heap.size, 0, none⟩ = some (.slice (some ⟨g6, 0, none⟩) m.dt.length m.dt.length) ∧ w'.cell? ⟨w6.heap.size, 1, none⟩ = some (.int .i64 m.st) ∧ w'.cell? ⟨w6.heap.size, 2, none⟩ = some (.slice (some ⟨h6, 0, none⟩) m.tk.length m.tk.length) ∧ w'.cell? ⟨w6.heap.size, 3, none⟩ = some (.slice (some ⟨i6, 0, none⟩) m.hd.length m.hd.length) ∧ w'.cell? ⟨w6.heap.size, 4, none⟩ = some (.slice (some ⟨j6, 0, none⟩) m.cs.length m.cs.length)) (simp [*])
    (first | (go_at_call 7; refine (toMemo_any m a t u c ca ct cu cc _ (AA.out.below (Below.refl _ _).drew) hl).mono ?_; rintro e wA ⟨gA, hA, iA, jA, rfl, tA, hbA⟩; replace hbA := undrew hbA; obtain ⟨hx1, hx2⟩ := bcell hbA; have s1 := hbA.size; have s2 : w.heap.size < wA.heap.size := (by omega); have s3 : w6.heap.size < wA.heap.size := (by omega)) | (go_at_call 11; refine (eqMemo_any m _ _ _ _ _ _ _ _ _ _ _ _ _ _ _ _ _ (T9.out.below hbA) tA hl).mono ?_; rintro e wB ⟨rfl, hbB⟩; obtain ⟨hx3, hx4⟩ := bcell hbB))
  have HB := Hid.mk' ((H9.out.below hbA).below hbB)
  have YB := Hid.mk' (rowB (rowB Y9.out hbA) hbB)
  clear hx1 hx2 hx3 hx4 s1 s2 s3 hbA hbB tA H9 T9 Q9 Y9 x0 x1 x2 x3 x4 x5 y0 y1 y2 y3 y4 y5 AA
  go_wp2_with fail
  refine (toByteS_any e d p _ (HP.out.below HB.out.bl) hp).mono ?_
  rintro eC wC ⟨yC, rfl, _, ryC, hbC⟩
  have H_C := Hid.mk' (HB.out.below hbC)
  have Y_C := Hid.mk' (rowB YB.out hbC)
  have Z_C := Hid.mk' ryC
  clear HB YB hbC ryC
  go_wp2_with fail
  refine (eqByteS_any _ _ _ _ p wC (BAt.of_row Y_C.out) (BAt.of_row Z_C.out) hp).mono ?_
  rintro eD wD ⟨rfl, hbD⟩
  have HD := Hid.mk' (H_C.out.below hbD)
  clear H_C Y_C Z_C hbD
  go_wp2
  go_ret
  exact ⟨rfl, HD.out.bl⟩

end Go.Proofs.YtmhihkdnhaadeaaGreatDoor
