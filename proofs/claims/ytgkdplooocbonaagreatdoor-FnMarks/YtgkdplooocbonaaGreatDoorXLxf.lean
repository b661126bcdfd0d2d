/- The program's lexer: a reference closed. -/
import Derived.Test.YtgkdplooocbonaaGreatDoorXLxe
import Derived.Test.YtgkdplooocbonaaGreatDoorXQf
namespace Go.Proofs.YtgkdplooocbonaaGreatDoor
open Go.RowKit
set_option linter.unusedVariables false
set_option linter.unusedSimpArgs false

theorem own_cap' {w : World} {base : Nat} {e : TypeId} {size : Nat} {v : Value} {n : Nat} {xs : List Value} (h : w.ownsRow base e size v n xs) : ∃ a c, v = .slice a n c := by
  obtain ⟨a, c, e, _⟩ := own_src h
  exact ⟨a, c, e⟩

theorem convX {lo g n c : Nat} {a : Option Addr} {W : World} {tv : Value} {hs : List Int} {ts : List TK} {us : List Value} {rs : Nat → List Value} {bl bh : Nat → Nat} (h : LX lo g W (.slice a n c) tv hs ts us rs bl bh) (hn : hs.length = n) : (convert 22 9 (.slice a n c)).run Tryz.prog W = .ok (.string (strI hs)) W := by
  obtain ⟨p, c', e, hb⟩ := own_bat h.held
  cases e
  exact conv_bytesT c hb

set_option maxRecDepth 100000 in
set_option maxHeartbeats 3200000 in
theorem closeRef_any (B lo g : Nat) (tp : TypeId) (pv : Value) (w : World) (hs : List Int) (ts : List TK) (h : LXs lo g w hs ts) (hE : Env B tp pv w) (hB : B ≤ lo) (hu : Byt hs) (hl : hs.length ≤ 200) (hn : ts.length ≤ 900000) :
    Calls Tryz.prog 33 #[.pointer (some ⟨g, 0, none⟩)] w fun e w' => LxP lo g [] (ts ++ bytesT (refT hs 59)) w e w' := by
  obtain ⟨hv, tv, us, rs, bl, bh, h⟩ := h
  have lg := h.lg
  have N0 := below_new w (.cells #[.int .u8 59] 5)
  have HX := Hid.mk' (h.below N0)
  have NC := Hid.mk' (new_cells' w 5 [.int .u8 59] w.heap.size rfl)
  have H := Hid.mk' h
  obtain ⟨c0, c1, c2⟩ := cellsQ2 h.box
  obtain ⟨x0, x1, x2⟩ := cellsQ2 HX.out.box
  have HN := Hid.mk' N0
  have SZ : Hid (lo ≤ (w.alloc (.cells #[.int .u8 59] 5)).heap.size) := Hid.mk' (by simp; omega)
  have P1 : Hid (∀ u ∈ ([.int .u8 59] : List Value), u.oneCell' = true) := Hid.mk' (by intro u hu'; rw [List.mem_singleton] at hu'; rw [hu']; rfl)
  obtain ⟨ha, hc, rfl, _⟩ := own_src h.held
  obtain ⟨m, hm⟩ : ∃ m, m = hs ++ [(59 : Int)] := ⟨_, rfl⟩
  have lm : m.length = hs.length + 1 := by rw [hm]; simp
  have zm := strI_size m
  have EE := Hid.mk' hE
  have lm' : (hs ++ [(59 : Int)]).length = hs.length + 1 := by simp
  have r1b := refOf_byte (strU m)
  clear h N0 hE
  go_enter Tryz.func33, Tryz.ntmps33
  go_wp2_with (first | (at_builtin; refine wpList_append_at _ rfl (.tmp 7) (.tmp 8) 22 rfl lo 5 (.int .u8 0) 1 1 Tryz.underlying22 Tryz.info5 rfl (by decide) _ _ _ rfl HX.out.held _ 1 _ [.int .u8 59] rfl rfl (.inr ⟨_, rfl, NC.out⟩) P1.out (by unfold maxLen; omega) (by omega) SZ.out ?_; intro v' w2 ho hgr hat; obtain ⟨a', c', rfl, _⟩ := own_src ho; obtain ⟨d1, f1⟩ := HX.out.spotH hgr; have L2 := Hid.mk' (holdX H.out HN.out ho hgr hat); have hcv := convX L2.out lm'; have B2 := Hid.mk' (heldBl HX.out HN.out hgr (.slice a' (hs.length + 1) c') (Nat.le_trans lg (Nat.le_of_lt c2))); clear ho hgr hat) | fail)
  have KR := Hid.mk' (implRA_any (strI m) 0 (w2.setCell ⟨g, 0, none⟩ (.slice a' (hs.length + 1) c')) (by rw [zm, lm]; omega) (by omega) (by omega) (EE.out.keep (B2.out.mono hB)).refs (EE.out.keep (B2.out.mono hB)).errs)
  rw [hm] at KR
  rw [← hm] at L2
  clear hcv d1 f1 x0 x1 x2 c0 c1
  generalize hV : w2.setCell ⟨g, 0, none⟩ (.slice a' (hs.length + 1) c') = V at *
  clear hV
  refine KR.out.mono ?_
  rintro e w3 ⟨rfl, hb3⟩
  rw [← hm]
  have hd : raOf (strI m).data.toList 0 = (if (refOf (strU m)).2 = 0 then (5, 0, 0) else (0, ((refOf (strU m)).1 : Int), ((refOf (strU m)).2 : Int))) := by
    unfold raOf
    have hlen : (strI m).data.toList.length = m.length := by rw [len_list, zm]
    rw [if_pos ⟨Int.le_refl _, by rw [hlen, lm]; omega⟩]
    rfl
  rw [hd]
  have BS := B2.out.size
  have h3s := hb3.size
  by_cases ha2 : (refOf (strU m)).2 = hs.length + 1
  · -- a reference
    have hne : ¬ (refOf (strU m)).2 = 0 := by omega
    rw [if_neg hne]
    have ER : Hid (refT hs 59 = [((refOf (strU m)).1 : Int)]) := Hid.mk' (by
      unfold refT
      rw [if_pos rfl]
      show (if (refOf (strU (hs ++ [(59 : Int)]))).2 = hs.length + 1 then [((refOf (strU (hs ++ [(59 : Int)]))).1 : Int)] else hs ++ [(59 : Int)]) = _
      rw [← hm, if_pos ha2])
    obtain ⟨r2, hr2⟩ : ∃ r2, (refOf (strU m)).2 = r2 := ⟨_, rfl⟩
    rw [hr2] at ha2 ⊢
    have hq : ((r2 : Int) != (hs.length : Int) + 1) = false := by simp; omega
    clear ha2 hne hr2
    generalize (refOf (strU m)).1 = r1 at *
    dsimp only
    have N3 := below_new w3 (.cells #[.int .i64 0, .int .i64 (r1 : Int), .int .i64 (r2 : Int)] 70)
    have B3 := hb3.trans (N3.mono hb3.size)
    have R3 := row3 w3 70 (.int .i64 0) (.int .i64 (r1 : Int)) (.int .i64 (r2 : Int))
    obtain ⟨y0, y1, y2, y3⟩ := cells3 R3
    have L3 := L2.out.below B3
    obtain ⟨z0, z1, z2⟩ := cellsQ2 L3.box
    obtain ⟨g0, g1⟩ := frzQ2 L3.box
    have HL := Hid.mk' L3
    have HB3 := Hid.mk' (B2.out.trans (B3.mono (by have := L2.out.lt; omega)))
    have HM := Hid.mk' hm
    have LM := Hid.mk' lm
    have HR3 := Hid.mk' R3
    clear KR hd N3 R3 B3 L3 hb3 L2 hm lm lm' zm BS h3s
    go_wp2_with fail
    generalize hV : w3.alloc (.cells #[.int .i64 0, .int .i64 (r1 : Int), .int .i64 (r2 : Int)] 70) = V3 at *
    clear hV
    refine wp_region_held_drew (S := (fun w' => w'.cell? ⟨w3.heap.size, 0, none⟩ = some (.int .i64 0) ∧ w'.cell? ⟨w3.heap.size, 2, none⟩ = some (.int .i64 (r2 : Int)) ∧ w'.cell? ⟨g, 0, none⟩ = some (.slice a' (hs.length + 1) c'))) (by kernel_rfl) ⟨y0, y2, z0⟩ (fun hHeld => ?_)
    refine wpAnyH_take (i := 0) (oi := ⟨_, _, _, _, _, _⟩) (v := ?_) rfl (by kernel_rfl) (by kernel_rfl) (by kernel_rfl) (fun _ _ _ h => h) (Or.inl ⟨by rfl, ?_⟩) (by assumption) ?_
    rotate_left
    · (intro w hSw; (try dsimp only at hSw); go_simp; (try with_reducible rfl))
    try simp only [Act.put, List.setIfInBounds_toArray, List.set_cons_zero, List.set_cons_succ]
    refine wpAnyH_take (i := 1) (oi := ⟨_, _, _, _, _, _⟩) (v := ?_) rfl (by kernel_rfl) (by kernel_rfl) (by kernel_rfl) (fun _ _ _ h => h) (Or.inl ⟨by rfl, ?_⟩) (by assumption) ?_
    rotate_left
    · (intro w hSw; (try dsimp only at hSw); go_simp; (try with_reducible rfl))
    try simp only [Act.put, List.setIfInBounds_toArray, List.set_cons_zero, List.set_cons_succ]
    refine wpAnyH_take (i := 2) (oi := ⟨_, _, _, _, _, _⟩) (v := ?_) rfl (by kernel_rfl) (by kernel_rfl) (by kernel_rfl) (fun _ _ _ h => h) (Or.inl ⟨by rfl, ?_⟩) (by assumption) ?_
    rotate_left
    · (intro w hSw; (try dsimp only at hSw); go_simp; (try with_reducible rfl))
    try simp only [Act.put, List.setIfInBounds_toArray, List.set_cons_zero, List.set_cons_succ]
    refine wpAnyH_take (i := 3) (oi := ⟨_, _, _, _, _, _⟩) (v := ?_) rfl (by kernel_rfl) (by kernel_rfl) (by kernel_rfl) (fun _ _ _ h => h) (Or.inl ⟨by rfl, ?_⟩) (by assumption) ?_
    rotate_left
    · (intro w hSw; (try dsimp only at hSw); go_simp; (try with_reducible rfl))
    try simp only [Act.put, List.setIfInBounds_toArray, List.set_cons_zero, List.set_cons_succ]
    refine wpAnyH_take (i := 4) (oi := ⟨_, _, _, _, _, _⟩) (v := ?_) rfl (by kernel_rfl) (by kernel_rfl) (by kernel_rfl) (fun _ _ _ h => h) (Or.inl ⟨by rfl, ?_⟩) (by assumption) ?_
    rotate_left
    · (intro w hSw; (try dsimp only at hSw); go_simp; (try with_reducible rfl))
    try simp only [Act.put, List.setIfInBounds_toArray, List.set_cons_zero, List.set_cons_succ]
    refine wpAnyH_take (i := 5) (oi := ⟨_, _, _, _, _, _⟩) (v := ?_) rfl (by kernel_rfl) (by kernel_rfl) (by kernel_rfl) (fun _ _ _ h => h) (Or.inl ⟨by rfl, ?_⟩) (by assumption) ?_
    rotate_left
    · (intro w hSw; (try dsimp only at hSw); go_simp; (try with_reducible rfl))
    try simp only [Act.put, List.setIfInBounds_toArray, List.set_cons_zero, List.set_cons_succ]
    refine wpAnyH_take (i := 6) (oi := ⟨_, _, _, _, _, _⟩) (v := ?_) rfl (by kernel_rfl) (by kernel_rfl) (by kernel_rfl) (fun _ _ _ h => h) (Or.inl ⟨by rfl, ?_⟩) (by assumption) ?_
    rotate_left
    · (intro w hSw; (try dsimp only at hSw); go_simp; (try with_reducible rfl))
    try simp only [Act.put, List.setIfInBounds_toArray, List.set_cons_zero, List.set_cons_succ]
    refine wpAnyH_take (i := 7) (oi := ⟨_, _, _, _, _, _⟩) (v := ?_) rfl (by kernel_rfl) (by kernel_rfl) (by kernel_rfl) (fun _ _ _ h => h) (Or.inl ⟨by rfl, ?_⟩) (by assumption) ?_
    rotate_left
    · (intro w hSw; (try dsimp only at hSw); go_simp; (try with_reducible rfl))
    try simp only [Act.put, List.setIfInBounds_toArray, List.set_cons_zero, List.set_cons_succ]
    refine wpAnyH_take (i := 8) (oi := ⟨_, _, _, _, _, _⟩) (v := ?_) rfl (by kernel_rfl) (by kernel_rfl) (by kernel_rfl) (fun _ _ _ h => h) (Or.inl ⟨by rfl, ?_⟩) (by assumption) ?_
    rotate_left
    · (intro w hSw; (try dsimp only at hSw); go_simp; (try with_reducible rfl))
    try simp only [Act.put, List.setIfInBounds_toArray, List.set_cons_zero, List.set_cons_succ]
    refine wpAnyH_take (i := 9) (oi := ⟨_, _, _, _, _, _⟩) (v := ?_) rfl (by kernel_rfl) (by kernel_rfl) (by kernel_rfl) (fun _ _ _ h => h) (Or.inl ⟨by rfl, ?_⟩) (by assumption) ?_
    rotate_left
    · (intro w hSw; (try dsimp only at hSw); go_simp; (try with_reducible rfl))
    try simp only [Act.put, List.setIfInBounds_toArray, List.set_cons_zero, List.set_cons_succ]
    refine wpAnyH_take (i := 10) (oi := ⟨_, _, _, _, _, _⟩) (v := ?_) rfl (by kernel_rfl) (by kernel_rfl) (by kernel_rfl) (fun _ _ _ h => h) (Or.inl ⟨by rfl, ?_⟩) (by assumption) ?_
    rotate_left
    · (intro w hSw; (try dsimp only at hSw); go_simp; (try with_reducible rfl))
    try simp only [Act.put, List.setIfInBounds_toArray, List.set_cons_zero, List.set_cons_succ]
    refine wpAnyH_take (i := 11) (oi := ⟨_, _, _, _, _, _⟩) (v := ?_) rfl (by kernel_rfl) (by kernel_rfl) (by kernel_rfl) (fun _ _ _ h => h) (Or.inl ⟨by rfl, ?_⟩) (by assumption) ?_
    rotate_left
    · (intro w hSw; (try dsimp only at hSw); go_simp; (try with_reducible rfl))
    try simp only [Act.put, List.setIfInBounds_toArray, List.set_cons_zero, List.set_cons_succ]
    refine wpAnyH_take (i := 12) (oi := ⟨_, _, _, _, _, _⟩) (v := ?_) rfl (by kernel_rfl) (by kernel_rfl) (by kernel_rfl) (fun _ _ _ h => h) (Or.inl ⟨by rfl, ?_⟩) (by assumption) ?_
    rotate_left
    · (intro w hSw; (try dsimp only at hSw); go_simp; (try with_reducible rfl))
    try simp only [Act.put, List.setIfInBounds_toArray, List.set_cons_zero, List.set_cons_succ]
    refine wpAnyH_done (by kernel_rfl) ?_ _
    have DB : Below V3.heap.size V3 V3.drew := (Below.refl _ _).drew
    have R4 := rowB HR3.out DB
    have L4 := HL.out.below DB
    have HB4 := HB3.out.trans (DB.mono (by have := HL.out.lt; omega))
    obtain ⟨q0, q1, q2, q3⟩ := cells3 R4
    obtain ⟨p0, p1, p2⟩ := cellsQ2 L4.box
    obtain ⟨k0, k1⟩ := frzQ2 L4.box
    have HL4 := Hid.mk' L4
    have HB4 := Hid.mk' HB4
    clear y0 y1 y2 y3 z0 z1 z2 g0 g1 DB R4 L4 HR3 HL HB3 hHeld
    generalize hV : V3.drew = V4 at *
    clear hV
    go_wp2_with fail
    have LD := HL4.out.drop
    have hws : (V4.setCell ⟨g, 0, none⟩ (.slice none 0 0)).heap.size = V4.heap.size := by simp [World.setCell]
    have NB := below_new (V4.setCell ⟨g, 0, none⟩ (.slice none 0 0)) (.cells #[.int .i64 1, .int .i64 (r1 : Int), .string ⟨#[]⟩, .slice none 0 0, .bool false] 33)
    have NCC := new_cells' (V4.setCell ⟨g, 0, none⟩ (.slice none 0 0)) 33 [.int .i64 1, .int .i64 (r1 : Int), .string ⟨#[]⟩, .slice none 0 0, .bool false] V4.heap.size hws
    have KL := tell_any lo g (some ⟨V4.heap.size, 0, none⟩) 1 _ _ _ _ _ _ _ _ _ _ (bytesT [(r1 : Int)]) (nils 1) (fun _ => []) (fun _ => _) (fun _ => _) LD NB ((TA.bytes _ _ [(r1 : Int)]).widen (Nat.le_refl _) NB.size) (.inr ⟨_, rfl, NCC⟩) (by rw [bytesT_len]; simp; omega)
    rw [bytesT_len] at KL
    have KL := Hid.mk' KL
    have BG := Hid.mk' (((HB4.out).setCell (p := ⟨g, 0, none⟩) lg (.slice none 0 0)).trans (NB.mono (by rw [hws]; omega)))
    clear LD NB NCC q0 q1 q2 q3 p0 p1 p2 k0 k1
    refine KL.out.mono ?_
    rintro e w4 ⟨⟨v, rfl⟩, hx, hb4⟩
    have HX4 := Hid.mk' hx
    have B4 := Hid.mk' (BG.out.trans hb4)
    clear hx hb4 KL
    go_wp2
    go_end0
    refine ⟨⟨_, rfl⟩, ?_, B4.out⟩
    rw [ER.out]
    exact HX4.out
  · by_cases h0 : (refOf (strU m)).2 = 0
    · rw [if_pos h0]
      have ER : Hid (refT hs 59 = m) := Hid.mk' (by
        unfold refT
        rw [if_pos rfl]
        show (if (refOf (strU (hs ++ [(59 : Int)]))).2 = hs.length + 1 then [((refOf (strU (hs ++ [(59 : Int)]))).1 : Int)] else hs ++ [(59 : Int)]) = _
        rw [← hm, if_neg ha2])
      clear ha2 h0 r1b
      dsimp only
      have N3 := below_new w3 (.cells #[.int .i64 5, .int .i64 0, .int .i64 0] 70)
      have B3 := hb3.trans (N3.mono hb3.size)
      have R3 := row3 w3 70 (.int .i64 5) (.int .i64 0) (.int .i64 0)
      obtain ⟨y0, y1, y2, y3⟩ := cells3 R3
      have L3 := L2.out.below B3
      obtain ⟨z0, z1, z2⟩ := cellsQ2 L3.box
      obtain ⟨g0, g1⟩ := frzQ2 L3.box
      have HL := Hid.mk' L3
      have HB3 := Hid.mk' (B2.out.trans (B3.mono (by have := L2.out.lt; omega)))
      have HM := Hid.mk' hm
      have LM := Hid.mk' lm
      have HR3 := Hid.mk' R3
      clear KR hd N3 R3 B3 L3 hb3 L2 hm lm lm' zm BS h3s
      go_wp2_with fail
      generalize hV : w3.alloc (.cells #[.int .i64 5, .int .i64 0, .int .i64 0] 70) = V3 at *
      clear hV
      refine wp_region_held_drew (S := (fun w' => w'.cell? ⟨w3.heap.size, 0, none⟩ = some (.int .i64 5) ∧ w'.cell? ⟨w3.heap.size, 2, none⟩ = some (.int .i64 0) ∧ w'.cell? ⟨g, 0, none⟩ = some (.slice a' (hs.length + 1) c'))) (by kernel_rfl) ⟨y0, y2, z0⟩ (fun hHeld => ?_)
      refine wpAnyH_take (i := 0) (oi := ⟨_, _, _, _, _, _⟩) (v := ?_) rfl (by kernel_rfl) (by kernel_rfl) (by kernel_rfl) (fun _ _ _ h => h) (Or.inl ⟨by rfl, ?_⟩) (by assumption) ?_
      rotate_left
      · (intro w hSw; (try dsimp only at hSw); go_simp; (try with_reducible rfl))
      try simp only [Act.put, List.setIfInBounds_toArray, List.set_cons_zero, List.set_cons_succ]
      refine wpAnyH_take (i := 1) (oi := ⟨_, _, _, _, _, _⟩) (v := ?_) rfl (by kernel_rfl) (by kernel_rfl) (by kernel_rfl) (fun _ _ _ h => h) (Or.inl ⟨by rfl, ?_⟩) (by assumption) ?_
      rotate_left
      · (intro w hSw; (try dsimp only at hSw); go_simp; (try with_reducible rfl))
      try simp only [Act.put, List.setIfInBounds_toArray, List.set_cons_zero, List.set_cons_succ]
      refine wpAnyH_take (i := 2) (oi := ⟨_, _, _, _, _, _⟩) (v := ?_) rfl (by kernel_rfl) (by kernel_rfl) (by kernel_rfl) (fun _ _ _ h => h) (Or.inl ⟨by rfl, ?_⟩) (by assumption) ?_
      rotate_left
      · (intro w hSw; (try dsimp only at hSw); go_simp; (try with_reducible rfl))
      try simp only [Act.put, List.setIfInBounds_toArray, List.set_cons_zero, List.set_cons_succ]
      refine wpAnyH_take (i := 3) (oi := ⟨_, _, _, _, _, _⟩) (v := ?_) rfl (by kernel_rfl) (by kernel_rfl) (by kernel_rfl) (fun _ _ _ h => h) (Or.inl ⟨by rfl, ?_⟩) (by assumption) ?_
      rotate_left
      · (intro w hSw; (try dsimp only at hSw); go_simp; (try with_reducible rfl))
      try simp only [Act.put, List.setIfInBounds_toArray, List.set_cons_zero, List.set_cons_succ]
      refine wpAnyH_take (i := 4) (oi := ⟨_, _, _, _, _, _⟩) (v := undef) rfl (by kernel_rfl) (by kernel_rfl) (by kernel_rfl) (fun _ _ _ h => h) (Or.inr ⟨by rfl, rfl⟩) (by assumption) ?_
      try simp only [Act.put, List.setIfInBounds_toArray, List.set_cons_zero, List.set_cons_succ]
      refine wpAnyH_take (i := 5) (oi := ⟨_, _, _, _, _, _⟩) (v := undef) rfl (by kernel_rfl) (by kernel_rfl) (by kernel_rfl) (fun _ _ _ h => h) (Or.inr ⟨by rfl, rfl⟩) (by assumption) ?_
      try simp only [Act.put, List.setIfInBounds_toArray, List.set_cons_zero, List.set_cons_succ]
      refine wpAnyH_take (i := 6) (oi := ⟨_, _, _, _, _, _⟩) (v := undef) rfl (by kernel_rfl) (by kernel_rfl) (by kernel_rfl) (fun _ _ _ h => h) (Or.inr ⟨by rfl, rfl⟩) (by assumption) ?_
      try simp only [Act.put, List.setIfInBounds_toArray, List.set_cons_zero, List.set_cons_succ]
      refine wpAnyH_take (i := 7) (oi := ⟨_, _, _, _, _, _⟩) (v := undef) rfl (by kernel_rfl) (by kernel_rfl) (by kernel_rfl) (fun _ _ _ h => h) (Or.inr ⟨by rfl, rfl⟩) (by assumption) ?_
      try simp only [Act.put, List.setIfInBounds_toArray, List.set_cons_zero, List.set_cons_succ]
      refine wpAnyH_take (i := 8) (oi := ⟨_, _, _, _, _, _⟩) (v := undef) rfl (by kernel_rfl) (by kernel_rfl) (by kernel_rfl) (fun _ _ _ h => h) (Or.inr ⟨by rfl, rfl⟩) (by assumption) ?_
      try simp only [Act.put, List.setIfInBounds_toArray, List.set_cons_zero, List.set_cons_succ]
      refine wpAnyH_take (i := 9) (oi := ⟨_, _, _, _, _, _⟩) (v := undef) rfl (by kernel_rfl) (by kernel_rfl) (by kernel_rfl) (fun _ _ _ h => h) (Or.inr ⟨by rfl, rfl⟩) (by assumption) ?_
      try simp only [Act.put, List.setIfInBounds_toArray, List.set_cons_zero, List.set_cons_succ]
      refine wpAnyH_take (i := 10) (oi := ⟨_, _, _, _, _, _⟩) (v := undef) rfl (by kernel_rfl) (by kernel_rfl) (by kernel_rfl) (fun _ _ _ h => h) (Or.inr ⟨by rfl, rfl⟩) (by assumption) ?_
      try simp only [Act.put, List.setIfInBounds_toArray, List.set_cons_zero, List.set_cons_succ]
      refine wpAnyH_take (i := 11) (oi := ⟨_, _, _, _, _, _⟩) (v := undef) rfl (by kernel_rfl) (by kernel_rfl) (by kernel_rfl) (fun _ _ _ h => h) (Or.inr ⟨by rfl, rfl⟩) (by assumption) ?_
      try simp only [Act.put, List.setIfInBounds_toArray, List.set_cons_zero, List.set_cons_succ]
      refine wpAnyH_take (i := 12) (oi := ⟨_, _, _, _, _, _⟩) (v := ?_) rfl (by kernel_rfl) (by kernel_rfl) (by kernel_rfl) (fun _ _ _ h => h) (Or.inl ⟨by rfl, ?_⟩) (by assumption) ?_
      rotate_left
      · (intro w hSw; (try dsimp only at hSw); go_simp; (try with_reducible rfl))
      try simp only [Act.put, List.setIfInBounds_toArray, List.set_cons_zero, List.set_cons_succ]
      refine wpAnyH_done (by kernel_rfl) ?_ _
      have KG := Hid.mk' (letGo_any lo g V3.drew m ts ⟨_, _, _, _, _, _, HL.out.below (Below.refl _ _).drew⟩ (by rw [HM.out]; exact hu.snoc 59 (by omega)) (by have := LM.out; omega))
      clear y0 y1 y2 y3 z0 z1 z2 g0 g1
      go_wp2_with fail
      refine KG.out.mono ?_
      rintro e w4 ⟨⟨v, rfl⟩, hx, hb4⟩
      have HX4 := Hid.mk' hx
      have B4 := Hid.mk' (HB3.out.trans ((Below.refl _ _).drew.trans hb4))
      clear hx hb4 KG
      go_wp2
      (try simp only [Exit.inBlock, Exit.then])
      refine bodyPost_ret (results_none rfl _ _ _) rfl ?_
      refine ⟨⟨_, rfl⟩, ?_, B4.out⟩
      rw [ER.out]
      exact HX4.out
    · rw [if_neg h0]
      have ER : Hid (refT hs 59 = m) := Hid.mk' (by
        unfold refT
        rw [if_pos rfl]
        show (if (refOf (strU (hs ++ [(59 : Int)]))).2 = hs.length + 1 then [((refOf (strU (hs ++ [(59 : Int)]))).1 : Int)] else hs ++ [(59 : Int)]) = _
        rw [← hm, if_neg ha2])
      obtain ⟨r2, hr2⟩ : ∃ r2, (refOf (strU m)).2 = r2 := ⟨_, rfl⟩
      rw [hr2] at ha2 ⊢
      have hq : ((r2 : Int) != (hs.length : Int) + 1) = true := by simp; omega
      clear ha2 h0 hr2
      generalize (refOf (strU m)).1 = r1 at *
      dsimp only
      have N3 := below_new w3 (.cells #[.int .i64 0, .int .i64 (r1 : Int), .int .i64 (r2 : Int)] 70)
      have B3 := hb3.trans (N3.mono hb3.size)
      have R3 := row3 w3 70 (.int .i64 0) (.int .i64 (r1 : Int)) (.int .i64 (r2 : Int))
      obtain ⟨y0, y1, y2, y3⟩ := cells3 R3
      have L3 := L2.out.below B3
      obtain ⟨z0, z1, z2⟩ := cellsQ2 L3.box
      obtain ⟨g0, g1⟩ := frzQ2 L3.box
      have HL := Hid.mk' L3
      have HB3 := Hid.mk' (B2.out.trans (B3.mono (by have := L2.out.lt; omega)))
      have HM := Hid.mk' hm
      have LM := Hid.mk' lm
      have HR3 := Hid.mk' R3
      clear KR hd N3 R3 B3 L3 hb3 L2 hm lm lm' zm BS h3s
      go_wp2_with fail
      generalize hV : w3.alloc (.cells #[.int .i64 0, .int .i64 (r1 : Int), .int .i64 (r2 : Int)] 70) = V3 at *
      clear hV
      refine wp_region_held_drew (S := (fun w' => w'.cell? ⟨w3.heap.size, 0, none⟩ = some (.int .i64 0) ∧ w'.cell? ⟨w3.heap.size, 2, none⟩ = some (.int .i64 (r2 : Int)) ∧ w'.cell? ⟨g, 0, none⟩ = some (.slice a' (hs.length + 1) c'))) (by kernel_rfl) ⟨y0, y2, z0⟩ (fun hHeld => ?_)
      refine wpAnyH_take (i := 0) (oi := ⟨_, _, _, _, _, _⟩) (v := ?_) rfl (by kernel_rfl) (by kernel_rfl) (by kernel_rfl) (fun _ _ _ h => h) (Or.inl ⟨by rfl, ?_⟩) (by assumption) ?_
      rotate_left
      · (intro w hSw; (try dsimp only at hSw); go_simp; (try with_reducible rfl))
      try simp only [Act.put, List.setIfInBounds_toArray, List.set_cons_zero, List.set_cons_succ]
      refine wpAnyH_take (i := 1) (oi := ⟨_, _, _, _, _, _⟩) (v := ?_) rfl (by kernel_rfl) (by kernel_rfl) (by kernel_rfl) (fun _ _ _ h => h) (Or.inl ⟨by rfl, ?_⟩) (by assumption) ?_
      rotate_left
      · (intro w hSw; (try dsimp only at hSw); go_simp; (try with_reducible rfl))
      try simp only [Act.put, List.setIfInBounds_toArray, List.set_cons_zero, List.set_cons_succ]
      refine wpAnyH_take (i := 2) (oi := ⟨_, _, _, _, _, _⟩) (v := ?_) rfl (by kernel_rfl) (by kernel_rfl) (by kernel_rfl) (fun _ _ _ h => h) (Or.inl ⟨by rfl, ?_⟩) (by assumption) ?_
      rotate_left
      · (intro w hSw; (try dsimp only at hSw); go_simp; (try with_reducible rfl))
      try simp only [Act.put, List.setIfInBounds_toArray, List.set_cons_zero, List.set_cons_succ]
      refine wpAnyH_take (i := 3) (oi := ⟨_, _, _, _, _, _⟩) (v := ?_) rfl (by kernel_rfl) (by kernel_rfl) (by kernel_rfl) (fun _ _ _ h => h) (Or.inl ⟨by rfl, ?_⟩) (by assumption) ?_
      rotate_left
      · (intro w hSw; (try dsimp only at hSw); go_simp; (try with_reducible rfl))
      try simp only [Act.put, List.setIfInBounds_toArray, List.set_cons_zero, List.set_cons_succ]
      refine wpAnyH_take (i := 4) (oi := ⟨_, _, _, _, _, _⟩) (v := ?_) rfl (by kernel_rfl) (by kernel_rfl) (by kernel_rfl) (fun _ _ _ h => h) (Or.inl ⟨by rfl, ?_⟩) (by assumption) ?_
      rotate_left
      · (intro w hSw; (try dsimp only at hSw); go_simp; (try with_reducible rfl))
      try simp only [Act.put, List.setIfInBounds_toArray, List.set_cons_zero, List.set_cons_succ]
      refine wpAnyH_take (i := 5) (oi := ⟨_, _, _, _, _, _⟩) (v := ?_) rfl (by kernel_rfl) (by kernel_rfl) (by kernel_rfl) (fun _ _ _ h => h) (Or.inl ⟨by rfl, ?_⟩) (by assumption) ?_
      rotate_left
      · (intro w hSw; (try dsimp only at hSw); go_simp; (try with_reducible rfl))
      try simp only [Act.put, List.setIfInBounds_toArray, List.set_cons_zero, List.set_cons_succ]
      refine wpAnyH_take (i := 6) (oi := ⟨_, _, _, _, _, _⟩) (v := ?_) rfl (by kernel_rfl) (by kernel_rfl) (by kernel_rfl) (fun _ _ _ h => h) (Or.inl ⟨by rfl, ?_⟩) (by assumption) ?_
      rotate_left
      · (intro w hSw; (try dsimp only at hSw); go_simp; (try with_reducible rfl))
      try simp only [Act.put, List.setIfInBounds_toArray, List.set_cons_zero, List.set_cons_succ]
      refine wpAnyH_take (i := 7) (oi := ⟨_, _, _, _, _, _⟩) (v := ?_) rfl (by kernel_rfl) (by kernel_rfl) (by kernel_rfl) (fun _ _ _ h => h) (Or.inl ⟨by rfl, ?_⟩) (by assumption) ?_
      rotate_left
      · (intro w hSw; (try dsimp only at hSw); go_simp; (try with_reducible rfl))
      try simp only [Act.put, List.setIfInBounds_toArray, List.set_cons_zero, List.set_cons_succ]
      refine wpAnyH_take (i := 8) (oi := ⟨_, _, _, _, _, _⟩) (v := ?_) rfl (by kernel_rfl) (by kernel_rfl) (by kernel_rfl) (fun _ _ _ h => h) (Or.inl ⟨by rfl, ?_⟩) (by assumption) ?_
      rotate_left
      · (intro w hSw; (try dsimp only at hSw); go_simp; (try with_reducible rfl))
      try simp only [Act.put, List.setIfInBounds_toArray, List.set_cons_zero, List.set_cons_succ]
      refine wpAnyH_take (i := 9) (oi := ⟨_, _, _, _, _, _⟩) (v := ?_) rfl (by kernel_rfl) (by kernel_rfl) (by kernel_rfl) (fun _ _ _ h => h) (Or.inl ⟨by rfl, ?_⟩) (by assumption) ?_
      rotate_left
      · (intro w hSw; (try dsimp only at hSw); go_simp; (try with_reducible rfl))
      try simp only [Act.put, List.setIfInBounds_toArray, List.set_cons_zero, List.set_cons_succ]
      refine wpAnyH_take (i := 10) (oi := ⟨_, _, _, _, _, _⟩) (v := ?_) rfl (by kernel_rfl) (by kernel_rfl) (by kernel_rfl) (fun _ _ _ h => h) (Or.inl ⟨by rfl, ?_⟩) (by assumption) ?_
      rotate_left
      · (intro w hSw; (try dsimp only at hSw); go_simp; (try with_reducible rfl))
      try simp only [Act.put, List.setIfInBounds_toArray, List.set_cons_zero, List.set_cons_succ]
      refine wpAnyH_take (i := 11) (oi := ⟨_, _, _, _, _, _⟩) (v := ?_) rfl (by kernel_rfl) (by kernel_rfl) (by kernel_rfl) (fun _ _ _ h => h) (Or.inl ⟨by rfl, ?_⟩) (by assumption) ?_
      rotate_left
      · (intro w hSw; (try dsimp only at hSw); go_simp; (try with_reducible rfl))
      try simp only [Act.put, List.setIfInBounds_toArray, List.set_cons_zero, List.set_cons_succ]
      refine wpAnyH_take (i := 12) (oi := ⟨_, _, _, _, _, _⟩) (v := ?_) rfl (by kernel_rfl) (by kernel_rfl) (by kernel_rfl) (fun _ _ _ h => h) (Or.inl ⟨by rfl, ?_⟩) (by assumption) ?_
      rotate_left
      · (intro w hSw; (try dsimp only at hSw); go_simp; (try with_reducible rfl))
      try simp only [Act.put, List.setIfInBounds_toArray, List.set_cons_zero, List.set_cons_succ]
      refine wpAnyH_done (by kernel_rfl) ?_ _
      have KG := Hid.mk' (letGo_any lo g V3.drew m ts ⟨_, _, _, _, _, _, HL.out.below (Below.refl _ _).drew⟩ (by rw [HM.out]; exact hu.snoc 59 (by omega)) (by have := LM.out; omega))
      clear y0 y1 y2 y3 z0 z1 z2 g0 g1
      go_wp2_with fail
      refine KG.out.mono ?_
      rintro e w4 ⟨⟨v, rfl⟩, hx, hb4⟩
      have HX4 := Hid.mk' hx
      have B4 := Hid.mk' (HB3.out.trans ((Below.refl _ _).drew.trans hb4))
      clear hx hb4 KG
      go_wp2
      (try simp only [Exit.inBlock, Exit.then])
      refine bodyPost_ret (results_none rfl _ _ _) rfl ?_
      refine ⟨⟨_, rfl⟩, ?_, B4.out⟩
      rw [ER.out]
      exact HX4.out

end Go.Proofs.YtgkdplooocbonaaGreatDoor
