/- Where an edit meets: the loop, over contracts. -/
import Derived.Test.YtlimgcmhidooaaaGreatDoorM29
import Derived.Deep.LoopGhost
import Derived.Test.YtlimgcmhidooaaaGreatDoorM27
set_option maxHeartbeats 3200000
set_option maxRecDepth 100000
set_option linter.unusedVariables false
set_option linter.unusedSimpArgs false
namespace Go.Proofs.YtlimgcmhidooaaaGreatDoor
open Go.RowKit
theorem meetLoop_any (EV : Array Value) (hsz : EV.size = 10) (ta : Option Addr) (L tc : Nat) (h5 : EV[5]? = some (.slice ta L tc)) (fa fb : Nat → Nat) (sh : Nat → ByteArray) (f : Nat → Bool) (x0 : Nat) (hx0 : x0 ≤ L) (hL : L ≤ 240) (w : World)
  (KF : ∀ v, Below w.heap.size w v → Calls Tryz.prog 87 #[.agg EV] v fun e w' => e = .returned (.agg #[.complex .f64 (fa x0) (fb x0), .string (sh x0)]) ∧ Below v.heap.size v w')
  (KX : ∀ x v, x0 ≤ x → x < L → Below w.heap.size w v → Calls Tryz.prog 90 #[.agg EV, .agg #[.complex .f64 (fa x) (fb x), .string (sh x)]] v fun e w' => e = .returned (.agg #[.complex .f64 (fa (x + 1)) (fb (x + 1)), .string (sh (x + 1))]) ∧ Below v.heap.size v w')
  (KK : ∀ x v, x0 ≤ x → x < L → Below w.heap.size w v → Calls Tryz.prog 89 #[.agg EV, .agg #[.complex .f64 (fa x) (fb x), .string (sh x)]] v fun e w' => e = .returned (.bool (f x)) ∧ Below v.heap.size v w')
  (KN : ∀ x v, x0 ≤ x → x ≤ L → Calls Tryz.prog 88 #[.agg #[.complex .f64 (fa x) (fb x), .string (sh x)]] v fun e w' => e = .returned (.int .i64 (x : Int)) ∧ Below v.heap.size v w') :
  Calls Tryz.prog 57 #[.agg EV] w fun e w' => e = .returned (.int .i64 (meetN f L x0 : Nat)) ∧ Below w.heap.size w w' := by
 have B0 := below_new w (.cells EV 86)
 have R0 := RowA.new w 86 EV
 have HB := Hid.mk' B0
 have HR := Hid.mk' R0
 have HF := Hid.mk' KF
 have HX := Hid.mk' KX
 have HK := Hid.mk' KK
 have HN := Hid.mk' KN
 have H5 := Hid.mk' h5
 have hgW : w.heap.size < (w.alloc (.cells EV 86)).heap.size := by simp
 clear B0 R0 KF KX KK KN h5
 generalize hW : w.alloc (.cells EV 86) = W at *
 go_enter Tryz.func57, Tryz.ntmps57
 go_wp2_with (first | ((with_reducible refine wpList_load_row ?_ 86 (.tmp 1) ?_ w.heap.size ?_ 86 EV (0, 0) _ ?_ Tryz.underlying86 ?_ ?_ ?_); rfl; rfl; rfl; exact HR.out; rfl; (rw [hsz]; kernel_rfl)) | fail)
 clear hW
 refine (HF.out _ HB.out).mono ?_
 rintro e1 w1 ⟨rfl, hb1⟩
 have HB1 := Hid.mk' (HB.out.trans (hb1.mono (Nat.le_of_lt hgW)))
 have HR1 := Hid.mk' (HR.out.below hb1)
 have hg1 : w.heap.size < w1.heap.size := Nat.lt_of_lt_of_le hgW hb1.size
 clear hb1 HB HR hgW
 go_wp2_with (first | ((with_reducible refine wpList_store_row ?_ 124 (.tmp 3) (.tmp 5) ?_ w1.heap.size #[.complex .f64 (fa x0) (fb x0), .string (sh x0)] ?_ ?_ 124 #[.complex .f64 0 0, .string ⟨#[]⟩] ?_ ?_ ?_ ?_ ?_); rfl; rfl; rfl; rfl; exact RowA.new _ _ _; kernel_rfl; rfl; kernel_rfl; rw [alloc_setRow]) | fail)
 have RB := RowA.new w1 124 #[.complex .f64 (fa x0) (fb x0), .string (sh x0)]
 have N1 := below_new w1 (.cells #[.complex .f64 (fa x0) (fb x0), .string (sh x0)] 124)
 have RE := HR1.out.below N1
 have BB := HB1.out.trans (N1.mono (Nat.le_of_lt hg1))
 clear N1 HR1 HB1
 obtain ⟨g, hg⟩ : ∃ g, w1.heap.size = g := ⟨_, rfl⟩
 generalize hV : w1.alloc (.cells #[.complex .f64 (fa x0) (fb x0), .string (sh x0)] 124) = V0 at *
 rw [hg] at RB hg1 ⊢
 clear hV hg
 have R0 := Hid.mk' (And.intro BB (And.intro RE RB))
 clear BB RE RB
 try simp only [Act.put]
 go_loopg [] (L - x0) (fun k wr => ∃ x, x0 ≤ x ∧ x ≤ L ∧ k = L - x ∧ Hid (meetN f L x0 = meetN f L x) ∧ Hid (Below w.heap.size w wr ∧ RowA wr w.heap.size 86 EV ∧ RowA wr g 124 #[.complex .f64 (fa x) (fb x), .string (sh x)]))
 case atStart => exact ⟨x0, Nat.le_refl _, hx0, rfl, Hid.mk' rfl, R0⟩
 case round =>
  obtain ⟨x, hx1, hx2, rfl, hme, hr⟩ := hrel
  clear R0
  have HS : Hid (∀ v, Below wr.heap.size wr v → (fun v => v.cell? ⟨w.heap.size, 5, none⟩ = some (.slice ta L tc) ∧ Hid (RowA v w.heap.size 86 EV) ∧ Hid (RowA v g 124 #[.complex .f64 (fa x) (fb x), .string (sh x)])) v) := Hid.mk' (fun v hb => ⟨(hr.out.2.1.below hb).cell 5 _ H5.out, Hid.mk' (hr.out.2.1.below hb), Hid.mk' (hr.out.2.2.below hb)⟩)
  by_cases hlt : x < L
  ·have ci : (x : Int) < (L : Int) := by omega
   cases hfx : f x with
   | true =>
    go_wp2_with fail
    refine wp_region_held_drew (S := (fun v => v.cell? ⟨w.heap.size, 5, none⟩ = some (.slice ta L tc) ∧ Hid (RowA v w.heap.size 86 EV) ∧ Hid (RowA v g 124 #[.complex .f64 (fa x) (fb x), .string (sh x)]))) (by kernel_rfl) (HS.out _ (Below.refl _ _).drew) (fun hHeld => ?_)
    refine wpAnyH_take (i := 0) (oi := ⟨_, _, _, _, _, _⟩) (v := .agg #[.complex .f64 (fa x) (fb x), .string (sh x)]) rfl (by kernel_rfl) (by kernel_rfl) (by kernel_rfl) (fun _ _ _ h => h) (Or.inl ⟨by rfl, ?_⟩) (by assumption) ?_
    ·(intro w' hSw; exact hSw.2.2.out.exec (.tmp 3) rfl rfl _ Tryz.underlying124 rfl (by kernel_rfl))
    try simp only [Act.put, zA, zB, zC]
    refine tkY 2 ?_
    refine tkY 3 ?_
    refine tkY 4 ?_
    refine wpAnyH_ready (rs := [1]) (by kernel_rfl) (by simp) ?_
    refine AllReadyH.cons (o := ⟨_, _, _, _, _, _⟩) rfl (fun K hK => ?_) AllReadyH.nil
    go_simp
    refine (HN.out x _ hx1 hx2).mono ?_
    rintro e2 w2 ⟨rfl, hb2⟩
    replace hb2 := undrew hb2
    have BW2 := Hid.mk' hb2
    clear hb2
    refine hK.out _ _ (HS.out _ BW2.out) (fun hHeld => ?_)
    clear hK K
    try simp only [Act.put, zA, zB, zC]
    refine tkY 5 ?_
    refine tkY 6 ?_
    refine wpAnyH_take (i := 7) (oi := ⟨_, _, _, _, _, _⟩) (v := .agg EV) rfl (by kernel_rfl) (by kernel_rfl) (by kernel_rfl) (fun _ _ _ h => h) (Or.inl ⟨by rfl, ?_⟩) (by assumption) ?_
    ·(intro w' hSw; exact hSw.2.1.out.exec (.tmp 1) rfl rfl _ Tryz.underlying86 rfl (by rw [hsz]; kernel_rfl))
    try simp only [Act.put, zA, zB, zC]
    refine wpAnyH_take (i := 8) (oi := ⟨_, _, _, _, _, _⟩) (v := .agg #[.complex .f64 (fa x) (fb x), .string (sh x)]) rfl (by kernel_rfl) (by kernel_rfl) (by kernel_rfl) (fun _ _ _ h => h) (Or.inl ⟨by rfl, ?_⟩) (by assumption) ?_
    ·(intro w' hSw; exact hSw.2.2.out.exec (.tmp 3) rfl rfl _ Tryz.underlying124 rfl (by kernel_rfl))
    try simp only [Act.put, zA, zB, zC]
    refine wpAnyH_ready (rs := [9]) (by kernel_rfl) (by simp) ?_
    refine AllReadyH.cons (o := ⟨_, _, _, _, _, _⟩) rfl (fun K hK => ?_) AllReadyH.nil
    go_simp
    refine (HK.out x _ hx1 hlt (hr.out.1.trans (BW2.out.mono hr.out.1.size))).mono ?_
    rintro e3 w3 ⟨rfl, hb3⟩
    have BW3 := Hid.mk' (BW2.out.trans (hb3.mono BW2.out.size))
    clear hb3
    refine hK.out _ _ (HS.out _ BW3.out) (fun hHeld => ?_)
    clear hK K
    try simp only [Act.put, zA, zB, zC]
    refine tkY 10 ?_
    refine tkY 11 ?_
    refine wpAnyH_done (by kernel_rfl) ?_ _
    clear hHeld
    have QB := Hid.mk' (hr.out.1.trans (BW3.out.mono hr.out.1.size))
    have QS := Hid.mk' (hr.out.2.2.below BW3.out)
    go_wp2_with (first | ((with_reducible refine wpList_load_row ?_ 124 (.tmp 3) ?_ g ?_ 124 #[.complex .f64 (fa x) (fb x), .string (sh x)] (0, 0) _ ?_ Tryz.underlying124 ?_ ?_ ?_); rfl; rfl; rfl; exact QS.out; rfl; kernel_rfl) | fail)
    refine (HN.out x _ hx1 hx2).mono ?_
    rintro e5 w5 ⟨rfl, hb5⟩
    have B5 := Hid.mk' hb5
    clear hb5
    go_wp2
    go_ret
    exact ⟨by rw [hme.out, meetN_yes hlt hfx]; rfl, QB.out.trans (B5.out.mono QB.out.size)⟩

   | false =>
    go_wp2_with fail
    refine wp_region_held_drew (S := (fun v => v.cell? ⟨w.heap.size, 5, none⟩ = some (.slice ta L tc) ∧ Hid (RowA v w.heap.size 86 EV) ∧ Hid (RowA v g 124 #[.complex .f64 (fa x) (fb x), .string (sh x)]))) (by kernel_rfl) (HS.out _ (Below.refl _ _).drew) (fun hHeld => ?_)
    refine wpAnyH_take (i := 0) (oi := ⟨_, _, _, _, _, _⟩) (v := .agg #[.complex .f64 (fa x) (fb x), .string (sh x)]) rfl (by kernel_rfl) (by kernel_rfl) (by kernel_rfl) (fun _ _ _ h => h) (Or.inl ⟨by rfl, ?_⟩) (by assumption) ?_
    ·(intro w' hSw; exact hSw.2.2.out.exec (.tmp 3) rfl rfl _ Tryz.underlying124 rfl (by kernel_rfl))
    try simp only [Act.put, zA, zB, zC]
    refine tkY 2 ?_
    refine tkY 3 ?_
    refine tkY 4 ?_
    refine wpAnyH_ready (rs := [1]) (by kernel_rfl) (by simp) ?_
    refine AllReadyH.cons (o := ⟨_, _, _, _, _, _⟩) rfl (fun K hK => ?_) AllReadyH.nil
    go_simp
    refine (HN.out x _ hx1 hx2).mono ?_
    rintro e2 w2 ⟨rfl, hb2⟩
    replace hb2 := undrew hb2
    have BW2 := Hid.mk' hb2
    clear hb2
    refine hK.out _ _ (HS.out _ BW2.out) (fun hHeld => ?_)
    clear hK K
    try simp only [Act.put, zA, zB, zC]
    refine tkY 5 ?_
    refine tkY 6 ?_
    refine wpAnyH_take (i := 7) (oi := ⟨_, _, _, _, _, _⟩) (v := .agg EV) rfl (by kernel_rfl) (by kernel_rfl) (by kernel_rfl) (fun _ _ _ h => h) (Or.inl ⟨by rfl, ?_⟩) (by assumption) ?_
    ·(intro w' hSw; exact hSw.2.1.out.exec (.tmp 1) rfl rfl _ Tryz.underlying86 rfl (by rw [hsz]; kernel_rfl))
    try simp only [Act.put, zA, zB, zC]
    refine wpAnyH_take (i := 8) (oi := ⟨_, _, _, _, _, _⟩) (v := .agg #[.complex .f64 (fa x) (fb x), .string (sh x)]) rfl (by kernel_rfl) (by kernel_rfl) (by kernel_rfl) (fun _ _ _ h => h) (Or.inl ⟨by rfl, ?_⟩) (by assumption) ?_
    ·(intro w' hSw; exact hSw.2.2.out.exec (.tmp 3) rfl rfl _ Tryz.underlying124 rfl (by kernel_rfl))
    try simp only [Act.put, zA, zB, zC]
    refine wpAnyH_ready (rs := [9]) (by kernel_rfl) (by simp) ?_
    refine AllReadyH.cons (o := ⟨_, _, _, _, _, _⟩) rfl (fun K hK => ?_) AllReadyH.nil
    go_simp
    refine (HK.out x _ hx1 hlt (hr.out.1.trans (BW2.out.mono hr.out.1.size))).mono ?_
    rintro e3 w3 ⟨rfl, hb3⟩
    have BW3 := Hid.mk' (BW2.out.trans (hb3.mono BW2.out.size))
    clear hb3
    refine hK.out _ _ (HS.out _ BW3.out) (fun hHeld => ?_)
    clear hK K
    try simp only [Act.put, zA, zB, zC]
    refine tkY 10 ?_
    refine tkY 11 ?_
    refine wpAnyH_done (by kernel_rfl) ?_ _
    clear hHeld
    have QB := Hid.mk' (hr.out.1.trans (BW3.out.mono hr.out.1.size))
    have QE := Hid.mk' (hr.out.2.1.below BW3.out)
    have QS := Hid.mk' (hr.out.2.2.below BW3.out)
    have HM := Hid.mk' (hme.out.trans (meetN_no hlt hfx))
    clear hfx
    go_wp2_with (first | ((with_reducible refine wpList_load_row ?_ 124 (.tmp 3) ?_ g ?_ 124 #[.complex .f64 (fa x) (fb x), .string (sh x)] (0, 0) _ ?_ Tryz.underlying124 ?_ ?_ ?_); rfl; rfl; rfl; exact QS.out; rfl; kernel_rfl) | ((with_reducible refine wpList_load_row ?_ 86 (.tmp 1) ?_ w.heap.size ?_ 86 EV (0, 0) _ ?_ Tryz.underlying86 ?_ ?_ ?_); rfl; rfl; rfl; exact QE.out; rfl; (rw [hsz]; kernel_rfl)) | fail)
    refine (HX.out x _ hx1 hlt QB.out).mono ?_
    rintro e5 w5 ⟨rfl, hb5⟩
    have B5 := Hid.mk' (QB.out.trans (hb5.mono QB.out.size))
    have E5 := Hid.mk' (QE.out.below hb5)
    have S5 := Hid.mk' (QS.out.below hb5)
    clear hb5
    go_wp2_with (first | ((with_reducible refine wpList_store_row ?_ 124 (.tmp 3) (.tmp 20) ?_ g #[.complex .f64 (fa (x + 1)) (fb (x + 1)), .string (sh (x + 1))] ?_ ?_ 124 #[.complex .f64 (fa x) (fb x), .string (sh x)] ?_ ?_ ?_ ?_ ?_); rfl; rfl; rfl; rfl; exact S5.out; kernel_rfl; rfl; kernel_rfl) | fail)
    try simp only [Act.put, zA, zB, zC]
    go_roundg (L - (x + 1))
    case measure => omega
    case rel =>
     exact ⟨x + 1, by omega, by omega, rfl, HM, Hid.mk' ⟨RowA.putBelow B5.out (Nat.le_of_lt hg1) _, E5.out.otherRow (Nat.ne_of_lt hg1) _, S5.out.put _⟩⟩

  ·have hxl : Hid (x = L) := Hid.mk' (by omega)
   have ci : ¬ (x : Int) < (L : Int) := by omega
   go_wp2_with fail
   refine wp_region_held_drew (S := (fun v => v.cell? ⟨w.heap.size, 5, none⟩ = some (.slice ta L tc) ∧ Hid (RowA v w.heap.size 86 EV) ∧ Hid (RowA v g 124 #[.complex .f64 (fa x) (fb x), .string (sh x)]))) (by kernel_rfl) (HS.out _ (Below.refl _ _).drew) (fun hHeld => ?_)
   refine wpAnyH_take (i := 0) (oi := ⟨_, _, _, _, _, _⟩) (v := .agg #[.complex .f64 (fa x) (fb x), .string (sh x)]) rfl (by kernel_rfl) (by kernel_rfl) (by kernel_rfl) (fun _ _ _ h => h) (Or.inl ⟨by rfl, ?_⟩) (by assumption) ?_
   ·(intro w' hSw; exact hSw.2.2.out.exec (.tmp 3) rfl rfl _ Tryz.underlying124 rfl (by kernel_rfl))
   try simp only [Act.put, zA, zB, zC]
   refine tkY 2 ?_
   refine tkY 3 ?_
   refine tkY 4 ?_
   refine wpAnyH_ready (rs := [1]) (by kernel_rfl) (by simp) ?_
   refine AllReadyH.cons (o := ⟨_, _, _, _, _, _⟩) rfl (fun K hK => ?_) AllReadyH.nil
   go_simp
   refine (HN.out x _ hx1 hx2).mono ?_
   rintro e2 w2 ⟨rfl, hb2⟩
   replace hb2 := undrew hb2
   have BW2 := Hid.mk' hb2
   clear hb2
   refine hK.out _ _ (HS.out _ BW2.out) (fun hHeld => ?_)
   clear hK K
   try simp only [Act.put, zA, zB, zC]
   refine tkY 5 ?_
   refine tkY 6 ?_
   refine tkU 7 ?_
   refine tkU 8 ?_
   refine tkU 9 ?_
   refine tkU 10 ?_
   refine tkY 11 ?_
   refine wpAnyH_done (by kernel_rfl) ?_ _
   clear hHeld
   have QB := Hid.mk' (hr.out.1.trans (BW2.out.mono hr.out.1.size))
   have QS := Hid.mk' (hr.out.2.2.below BW2.out)
   go_wp2_with (first | ((with_reducible refine wpList_load_row ?_ 124 (.tmp 3) ?_ g ?_ 124 #[.complex .f64 (fa x) (fb x), .string (sh x)] (0, 0) _ ?_ Tryz.underlying124 ?_ ?_ ?_); rfl; rfl; rfl; exact QS.out; rfl; kernel_rfl) | fail)
   refine (HN.out x _ hx1 hx2).mono ?_
   rintro e5 w5 ⟨rfl, hb5⟩
   have B5 := Hid.mk' hb5
   clear hb5
   go_wp2
   go_ret
   exact ⟨by rw [hme.out, meetN_end (Nat.le_of_eq hxl.out.symm), ← hxl.out]; rfl, QB.out.trans (B5.out.mono QB.out.size)⟩
abbrev edV (d : List Int) (s i j : Nat) (p : List Int) (gd gc : Nat) (tv : Value) (hvs : Nat → Value) (tx : Value) : Array Value := edX d.length s (d.length / s + 1) gd gc tv (hvs (d.length / s + 1)) tx (i / s * s) (tkN d s (i / s)).length (hvs (i / s)) (i + p.length) (i + j)
theorem hdA_succ {T : List Int} {x : Nat} (h : x < T.length) : hdA T (x + 1) = (feedX (hdA T x) (T.getD x 0).toNat).2 := by
 have e : (T.drop x).take 1 = [T.getD x 0] := by
  rw [List.drop_eq_getElem_cons h, List.take_succ_cons, List.take_zero]
  simp [List.getD, h]
 rw [hdA_add T x 1, e]
 rfl
theorem byt_spl {d p : List Int} (hub : Byt d) (hpb : Byt p) (i j : Nat) : Byt (spl d i j p) := Byt.of (fun y hy => by
 unfold spl at hy
 simp only [List.mem_append] at hy
 rcases hy with (h | h) | h
 ·exact hub.mem y (List.mem_of_mem_take h)
 ·exact hpb.mem y h
 ·exact hub.mem y (List.mem_of_mem_drop h))
theorem editMeet_any (tp : TypeId) (pv : Value) (base : Nat) (d : List Int) (s i j : Nat) (p : List Int) (gd gc : Nat) (tv : Value) (hvs : Nat → Value) (us : List Value) (rs : Nat → List Value) (bl bh : Nat → Nat) (tx : Value) (w : World) (hE : Env w.heap.size tp pv w) (hx : ED base d s i j p gd gc tv hvs us rs bl bh tx w) (hs : 1 ≤ s) (hs2 : s ≤ 60) (hij : i + j ≤ d.length) (hd : d.length ≤ 240) (hT : (spl d i j p).length ≤ 240) (hub : Byt d) (hpb : Byt p) :
  Calls Tryz.prog 57 #[.agg (edV d s i j p gd gc tv hvs tx)] w fun e w' => e = .returned (.int .i64 (meetN (mtF d (spl d i j p) s i j p.length) (spl d i j p).length (i / s * s) : Nat)) ∧ Below w.heap.size w w' := by
 have hTb0 := byt_spl hub hpb i j
 have htx0 := hx.tx
 have hQ : i / s * s ≤ i := Nat.div_mul_le_self _ _
 have htk := spl_take (l := d) (at_ := i) (n := j) (q := i / s * s) (p := p) hQ (by omega)
 have hlen := spl_len (l := d) (at_ := i) (n := j) (p := p) hij
 generalize hTe : spl d i j p = T at *
 obtain ⟨ta, tc, rfl, bt⟩ := htx0.len
 have hKJ : i / s ≤ d.length / s + 1 := by have : i / s ≤ d.length / s := Nat.div_le_div_right (by omega); omega
 obtain ⟨ka, kc, ek, hkb⟩ := own_bat (hx.nm.rx.own (i / s) hKJ)
 have hQT : hdN d s (i / s) = hdA T (i / s * s) := (hdA_same htk).symm
 have hgd : ∀ x, GoodH (hdA T x) := fun x => allX_good _ _ _ (.inl rfl)
 have hby : ∀ x, Byt (hdA T x) := fun x => allX_byt _ _ _ (fun y hy => hTb0.mem y (List.mem_of_mem_take hy)) Byt.nil
 have hm : meetN (mtF d T s i j p.length) T.length (i / s * s) = meetN (mtF d T s i j p.length) T.length (i + p.length) := by
  have := meetN_skip (f := mtF d T s i j p.length) (L := T.length) (i + p.length - i / s * s) (i / s * s) (by omega) (fun y h1 h2 => by unfold mtF; rw [decide_eq_false (by omega)]; rfl)
  rw [this]
  congr 1
  omega
 rw [hm]
 refine meetLoop_any (edV d s i j p gd gc tv hvs (.slice ta T.length tc)) rfl ta T.length tc rfl (fun x => floatOfInt .f64 (x : Int)) (fun x => floatOfInt .f64 ((x + j - p.length : Nat) : Int)) (fun x => strI (hdA T x)) (mtF d T s i j p.length) (i + p.length) (by omega) hT w ?_ ?_ ?_ ?_
 ·intro v hv
  have K := editFirst_any tp pv d.length s (d.length / s + 1) gd gc tv (hvs (d.length / s + 1)) (.slice ta T.length tc) T (i / s * s) (tkN d s (i / s)).length ka kc (hdN d s (i / s)) (i + p.length) (i + j) v ((hE.keep hv).up hv.size (Nat.le_refl _)) (hkb.below hv) (by rw [hQT]; exact hgd _) (by rw [hQT]; exact hby _) (htx0.below hv) hTb0 hT (by omega) (by omega)
  rw [← ek, hQT, ← hdA_add, show i / s * s + (i + p.length - i / s * s) = i + p.length by omega] at K
  rw [show i + p.length + j - p.length = i + j by omega]
  exact K
 ·intro x v h1 h2 hv
  rcases htx0 with ⟨-, hn⟩ | ⟨g, cap, cn, f, e, hca, hr, hl, hf⟩
  ·rw [hn] at h2; simp at h2
  ·injection e with e1 e2 e3
   subst e1
   subst e3
   have C : CAt w g 0 T := ⟨hr.lt, fun k hk => by rw [Nat.zero_add, hr.cell (by omega), hf k hk]⟩
   have K := editNext_any tp pv d.length s (d.length / s + 1) gd gc tv (hvs (d.length / s + 1)) g tc T (i / s * s) (tkN d s (i / s)).length (hvs (i / s)) (i + p.length) (i + j) x (x + j - p.length) (hdA T x) v ((hE.keep hv).up hv.size (Nat.le_refl _)) (hgd x) (hby x) (C.below hv) hca hTb0 hT h2 (by omega)
   rw [← hdA_succ h2, show ((x : Int) + 1) = ((x + 1 : Nat) : Int) from rfl, show (((x + j - p.length : Nat) : Int) + 1) = ((x + 1 + j - p.length : Nat) : Int) by omega] at K
   exact K
 ·intro x v h1 h2 hv
  have M := hx.nm.below hv
  have ho : x + j - p.length ≤ d.length := by omega
  have hoK : (x + j - p.length) / s ≤ d.length / s + 1 := by have : (x + j - p.length) / s ≤ d.length / s := Nat.div_le_div_right ho; omega
  have K := isKnown_any (.slice (some ⟨gd, 0, none⟩) d.length d.length) tv (hvs (d.length / s + 1)) (.slice ta T.length tc) (.int .i64 ((i / s * s : Nat) : Int)) (.int .i64 ((tkN d s (i / s)).length : Int)) (hvs (i / s)) (.complex .f64 (floatOfInt .f64 ((i + p.length : Nat) : Int)) (floatOfInt .f64 ((i + j : Nat) : Int))) d s x (x + j - p.length) gc hvs (hdA T x) (hby x) v hs hs2 hd ho (by omega) M.ck (own_bat (M.rx.own _ hoK))
  have hmt : mtF d T s i j p.length x = (decide ((x + j - p.length) % s = 0) && beqB (hdN d s ((x + j - p.length) / s)) (hdA T x)) := by
   unfold mtF
   rw [decide_eq_true h1]
   rfl
  rw [hmt]
  exact K
 ·intro x v h1 h2
  exact now_any _ _ _ _ v (fl_int x (by omega))
theorem meetF_hit {f : Nat → Bool} {L : Nat} : ∀ (n x : Nat), meetF f L n x < L → f (meetF f L n x) = true ∧ x ≤ meetF f L n x
 | 0, x, h => absurd h (Nat.lt_irrefl _)
 | n + 1, x, h => by
  unfold meetF at h ⊢
  split at h
  ·rename_i hf; rw [if_pos hf]; exact ⟨hf, Nat.le_refl _⟩
  ·rename_i hf
   rw [if_neg hf]
   have := meetF_hit n (x + 1) h
   exact ⟨this.1, by omega⟩
theorem meetN_hit {f : Nat → Bool} {L x : Nat} (h : meetN f L x < L) : f (meetN f L x) = true ∧ x ≤ meetN f L x := meetF_hit _ _ h
theorem spl_drop {d p : List Int} {i j x : Nat} (hij : i + j ≤ d.length) (hx : i + p.length ≤ x) : (spl d i j p).drop x = d.drop (x + j - p.length) := by
 unfold spl
 have h1 : (d.take i ++ p).length = i + p.length := by simp; omega
 rw [List.drop_append, List.drop_eq_nil_of_le (by omega), List.nil_append, h1, List.drop_drop]
 congr 1
 omega
theorem toks_at (l : List Int) (q : Nat) : (allX [] [] l).1 = (allX [] [] (l.take q)).1 ++ (allX [] (hdA l q) (l.drop q)).1 ∧ (allX [] [] l).2 = (allX [] (hdA l q) (l.drop q)).2 := by
 have e : allX [] [] l = allX [] [] (l.take q ++ l.drop q) := by rw [List.take_append_drop]
 have e2 := (e.trans (allX_append _ _ _ _)).trans (allX_from _ _ _)
 have f1 := congrArg Prod.fst e2
 have f2 := congrArg Prod.snd e2
 exact ⟨f1, f2⟩
theorem fedT_add (T : List Int) (q x : Nat) (h : q ≤ x) : (allX [] [] (T.take q)).1 ++ fedT T q x = (allX [] [] (T.take x)).1 := by
 unfold fedT
 have e : T.take x = T.take q ++ (T.drop q).take (x - q) := by rw [← List.take_add, Nat.add_sub_cancel' h]
 have e2 := ((congrArg (allX [] []) e).trans (allX_append _ _ _ _)).trans (allX_from _ _ _)
 exact (congrArg Prod.fst e2).symm
theorem edit_toks {d p : List Int} {s i j x : Nat} {tk RT : List TK} {hd RH : List Int} (hub : Byt d) (hpb : Byt p) (hs : 1 ≤ s) (hij : i + j ≤ d.length) (e1 : tk = (allX [] [] d).1) (e2 : hd = (allX [] [] d).2)
  (hx : meetN (mtF d (spl d i j p) s i j p.length) (spl d i j p).length (i / s * s) = x)
  (h1 : x < (spl d i j p).length → RT = tk.take (tkN d s (i / s)).length ++ fedT (spl d i j p) (i / s * s) x ++ tk.drop (tkN d s ((x + j - p.length) / s)).length ∧ RH = hd)
  (h2 : x = (spl d i j p).length → RT = tk.take (tkN d s (i / s)).length ++ fedT (spl d i j p) (i / s * s) x ∧ RH = hdA (spl d i j p) x) :
  RT = (allX [] [] (spl d i j p)).1 ∧ RH = (allX [] [] (spl d i j p)).2 := by
 have hTb := byt_spl hub hpb i j
 have hQ : i / s * s ≤ i := Nat.div_mul_le_self _ _
 have htk := spl_take (l := d) (at_ := i) (n := j) (q := i / s * s) (p := p) hQ (by omega)
 have hlen := spl_len (l := d) (at_ := i) (n := j) (p := p) hij
 have hdr := fun y (h : i + p.length ≤ y) => spl_drop (d := d) (p := p) (i := i) (j := j) (x := y) hij h
 have hle := meetN_le (f := mtF d (spl d i j p) s i j p.length) (L := (spl d i j p).length) _ (i / s * s) rfl
 rw [hx] at hle
 generalize hTe : spl d i j p = T at *
 have a1 : tk.take (tkN d s (i / s)).length = (allX [] [] (T.take (i / s * s))).1 := by
  rw [e1, (toks_at d (i / s * s)).1, htk]
  exact List.take_left' rfl
 rcases Nat.lt_or_ge x T.length with hl | hg
 ·obtain ⟨r1, r2⟩ := h1 hl
  obtain ⟨f1, f2⟩ := meetN_hit (show meetN (mtF d T s i j p.length) T.length (i / s * s) < T.length by rw [hx]; exact hl)
  rw [hx] at f1 f2
  unfold mtF at f1
  simp only [Bool.and_eq_true, decide_eq_true_eq] at f1
  obtain ⟨g1, g2, g3⟩ := f1
  have hmo : (x + j - p.length) / s * s = x + j - p.length := by
   have := Nat.div_add_mod (x + j - p.length) s
   rw [g2, Nat.mul_comm] at this
   omega
  have g4 : hdN d s ((x + j - p.length) / s) = hdA T x := beqB_eq (allX_byt _ _ _ (fun y hy => hub.mem y (List.mem_of_mem_take hy)) Byt.nil) (allX_byt _ _ _ (fun y hy => hTb.mem y (List.mem_of_mem_take hy)) Byt.nil) g3
  have g5 : hdA d (x + j - p.length) = hdA T x := by rw [← g4]; show (allX [] [] (d.take (x + j - p.length))).2 = (allX [] [] (d.take ((x + j - p.length) / s * s))).2; rw [hmo]
  have g6 : tkN d s ((x + j - p.length) / s) = (allX [] [] (d.take (x + j - p.length))).1 := by show (allX [] [] (d.take ((x + j - p.length) / s * s))).1 = _; rw [hmo]
  obtain ⟨t1, t2⟩ := toks_at d (x + j - p.length)
  obtain ⟨u1, u2⟩ := toks_at T x
  rw [g5, ← hdr x g1] at t1 t2
  refine ⟨?_, ?_⟩
  ·rw [r1, a1, fedT_add T _ x f2, u1, e1, t1]
   congr 1
   rw [g6]
   exact List.drop_left' rfl
  ·rw [r2, e2, t2, u2]
 ·have hxe : x = T.length := by omega
  obtain ⟨r1, r2⟩ := h2 hxe
  refine ⟨?_, ?_⟩
  ·rw [r1, a1, fedT_add T _ x (by rw [hlen] at hxe; omega), hxe, List.take_length]
  ·rw [r2, hxe]; unfold hdA; rw [List.take_length]

end Go.Proofs.YtlimgcmhidooaaaGreatDoor
