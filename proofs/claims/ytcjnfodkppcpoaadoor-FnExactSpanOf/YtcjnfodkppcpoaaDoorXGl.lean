/- The program's tree of nodes. -/
import Derived.Test.YtcjnfodkppcpoaaDoorXGk
namespace Go.Proofs.YtcjnfodkppcpoaaDoor
open Go.RowKit
set_option linter.unusedVariables false
set_option linter.unusedSimpArgs false

/-- Nodes lie at an address; where the attributes of each one lie is told by two functions. -/
theorem NsAt.fn {w : World} {b o : Nat} {l : List ND} (hc : ∀ k, k < l.length → w.cell? ⟨b, o + k * 4, none⟩ = some (.int .i64 (ndK l k).up) ∧ w.cell? ⟨b, o + k * 4 + 1, none⟩ = some (.string (ndK l k).tg) ∧ (∃ p c, w.cell? ⟨b, o + k * 4 + 2, none⟩ = some (.slice p (ndK l k).at_.length c) ∧ (ndK l k).at_.length ≤ c ∧ AAt w p (ndK l k).at_) ∧ (∃ p c, w.cell? ⟨b, o + k * 4 + 3, none⟩ = some (.slice p (ndK l k).tx.length c) ∧ BAt w p (ndK l k).tx)) :
    ∃ (pa : Nat → Option Addr) (ca : Nat → Nat) (pt : Nat → Option Addr) (ct : Nat → Nat), ∀ k, k < l.length → w.cell? ⟨b, o + k * 4, none⟩ = some (.int .i64 (ndK l k).up) ∧ w.cell? ⟨b, o + k * 4 + 1, none⟩ = some (.string (ndK l k).tg) ∧ w.cell? ⟨b, o + k * 4 + 2, none⟩ = some (.slice (pa k) (ndK l k).at_.length (ca k)) ∧ AAt w (pa k) (ndK l k).at_ ∧ w.cell? ⟨b, o + k * 4 + 3, none⟩ = some (.slice (pt k) (ndK l k).tx.length (ct k)) := by
  classical
  refine ⟨fun k => if h : k < l.length then (hc k h).2.2.1.choose else none, fun k => if h : k < l.length then (hc k h).2.2.1.choose_spec.choose else 0, fun k => if h : k < l.length then (hc k h).2.2.2.choose else none, fun k => if h : k < l.length then (hc k h).2.2.2.choose_spec.choose else 0, fun k hk => ?_⟩
  simp only [dif_pos hk]
  exact ⟨(hc k hk).1, (hc k hk).2.1, (hc k hk).2.2.1.choose_spec.choose_spec.1, (hc k hk).2.2.1.choose_spec.choose_spec.2.2, (hc k hk).2.2.2.choose_spec.choose_spec.1⟩

/-- What treeOf leaves: a code, or a tree in rows of its own. -/
def TreeP (l : List ND) (w : World) (e : Ending) (w' : World) : Prop :=
  (¬ treeF l = 0 ∧ e = .returned (.tuple #[.agg #[.slice none 0 0, .slice none 0 0], .int .i64 (treeF l)]) ∧ Below w.heap.size w w') ∨
  (treeF l = 0 ∧ ∃ pa ca g vn vw, e = .returned (.tuple #[.agg #[vn, vw], .int .i64 0]) ∧ TT w w.heap.size g l pa ca l.length vn vw w')

theorem own_base {w : World} {base base' : Nat} {e : TypeId} {size : Nat} {v : Value} {n : Nat} {xs : List Value} (h : w.ownsRow base e size v n xs) (hb : base' ≤ base) : w.ownsRow base' e size v n xs := by
  refine ⟨h.1, ?_⟩
  rcases h.2 with h | ⟨g, cap, cur, h1, h2, h3⟩
  · exact .inl h
  · exact .inr ⟨g, cap, cur, h1, Nat.le_trans hb h2, h3⟩

/-- The tree is handed back: the box of the answer is written. -/
theorem TT.fin {w W0 wr : World} {g : Nat} {l : List ND} {pa : Nat → Option Addr} {ca : Nat → Nat} {k : Nat} {vn vw u u' : Value} (h : TT W0 (w.heap.size + 1) g l pa ca k vn vw wr) (hB : Below w.heap.size w W0) : TT w w.heap.size g l pa ca k vn vw ((wr.setCell ⟨w.heap.size, 0, none⟩ u).setCell ⟨w.heap.size, 1, none⟩ u') := by
  have hg := h.bg
  have n1 : ¬ vn.ownBlock = some w.heap.size := fun e => by have := own_lo h.on _ e; omega
  have n2 : ¬ vw.ownBlock = some w.heap.size := fun e => by have := own_lo h.ow _ e; omega
  refine ⟨(h.box.setOther (a := ⟨w.heap.size, 0, none⟩) (by dsimp only; omega) u).setOther (a := ⟨w.heap.size, 1, none⟩) (by dsimp only; omega) u', own_base (own_setG (own_setG h.on n1) n1) (by omega), own_base (own_setG (own_setG h.ow n2) n2) (by omega), h.ap, h.an, h.aw, ?_, ?_, by omega⟩
  · exact ((hB.trans (h.bl.mono (by omega))).setCell (p := ⟨w.heap.size, 0, none⟩) (Nat.le_refl _) _).setCell (p := ⟨w.heap.size, 1, none⟩) (Nat.le_refl _) _
  · have := h.sz; simp [World.setCell]; omega

set_option maxRecDepth 100000 in
set_option maxHeartbeats 16000000 in
theorem treeOf_any (a : Option Addr) (c : Nat) (l : List ND) (w : World) (ha : NsAt w a l) (hl : (l.length : Int) + nssz l ≤ 1048576) :
    Calls Tryd.prog 24 #[.slice a l.length c] w fun e w' => TreeP l w e w' := by
  by_cases h60 : (l.length : Int) > 60
  · have E : Hid (treeF l = 2) := Hid.mk' (by unfold treeF; rw [if_pos (by omega)])
    go_enter Tryd.func24, Tryd.ntmps24
    go_wp2
    refine bodyPost_ret (v := .tuple #[.agg #[.slice none 0 0, .slice none 0 0], .int .i64 2]) (by simp [results, Tryd.results24, go_sem, *]) rfl ?_
    exact .inl ⟨by rw [E.out]; decide, by rw [E.out], below_new _ _⟩
  have hle : l.length ≤ 60 := by omega
  have HN : Hid (∃ (b o : Nat) (pa : Nat → Option Addr) (ca : Nat → Nat) (pt : Nat → Option Addr) (ct : Nat → Nat), (0 < l.length → a = some ⟨b, o, none⟩ ∧ b < w.heap.size) ∧ ∀ k, k < l.length → w.cell? ⟨b, o + k * 4, none⟩ = some (.int .i64 (ndK l k).up) ∧ w.cell? ⟨b, o + k * 4 + 1, none⟩ = some (.string (ndK l k).tg) ∧ w.cell? ⟨b, o + k * 4 + 2, none⟩ = some (.slice (pa k) (ndK l k).at_.length (ca k)) ∧ AAt w (pa k) (ndK l k).at_ ∧ w.cell? ⟨b, o + k * 4 + 3, none⟩ = some (.slice (pt k) (ndK l k).tx.length (ct k))) := by
    rcases ha with ha | ⟨b, o, rfl, hbs, hc⟩
    · exact ⟨0, 0, fun _ => none, fun _ => 0, fun _ => none, fun _ => 0, fun h => by rw [ha] at h; exact absurd h (Nat.not_lt_zero _), fun k h => by rw [ha] at h; exact absurd h (Nat.not_lt_zero _)⟩
    · obtain ⟨pa, ca, pt, ct, h⟩ := NsAt.fn hc
      exact ⟨b, o, pa, ca, pt, ct, fun _ => ⟨rfl, hbs⟩, h⟩
  obtain ⟨b, o, pa, ca, pt, ct, hab, hcell⟩ := HN.out
  have HA := Hid.mk' hab
  have HCl := Hid.mk' hcell
  clear HN ha hab hcell
  have B0 := below_new w (.cells #[.slice none 0 0, .slice none 0 0] 54)
  have R0 := (rowp2 w 54 (.slice none 0 0) (.slice none 0 0))
  have z0 : (w.alloc (.cells #[.slice none 0 0, .slice none 0 0] 54)).heap.size = w.heap.size + 1 := by simp
  have TS : TT (w.alloc (.cells #[.slice none 0 0, .slice none 0 0] 54)) (w.heap.size + 1) (w.heap.size + 1 + 1) l pa ca 0 (.slice none 0 0) (.slice (some ⟨w.heap.size + 1, 0, none⟩) 1 1) (((w.alloc (.cells #[.slice none 0 0, .slice none 0 0] 54)).alloc (.cells #[.int .i64 (-1)] 2)).alloc (.cells #[.slice none 0 0, .slice (some ⟨w.heap.size + 1, 0, none⟩) 1 1] 54)) := by
    generalize hW0 : w.alloc (.cells #[.slice none 0 0, .slice none 0 0] 54) = W0 at *
    have z1 : (W0.alloc (.cells #[.int .i64 (-1)] 2)).heap.size = w.heap.size + 1 + 1 := by simp [z0]
    have RB := rowp2 (W0.alloc (.cells #[.int .i64 (-1)] 2)) 54 (.slice none 0 0) (.slice (some ⟨w.heap.size + 1, 0, none⟩) 1 1)
    rw [z1] at RB
    have OW : (W0.alloc (.cells #[.int .i64 (-1)] 2)).ownsRow (w.heap.size + 1) 2 1 (.slice (some ⟨w.heap.size + 1, 0, none⟩) 1 1) 1 (ics [-1]) := by
      have := World.ownsRow_lit (base := w.heap.size + 1) (e := 2) (size := 1) W0 #[.int .i64 (-1)] 1 (by omega) (by unfold maxLen; omega) rfl
      rw [z0] at this
      exact this
    refine ⟨RB, ⟨rfl, .inl ⟨rfl, rfl⟩⟩, OW.alloc _, Ap.nil_left _, by simp [Value.ownBlock], by simp [Value.ownBlock], ?_, ?_, by omega⟩
    · exact ((Below.refl _ _).alloc (by omega) _).alloc (by simp; omega) _
    · simp; omega
  obtain ⟨W0, hW0⟩ : ∃ W0, w.alloc (.cells #[.slice none 0 0, .slice none 0 0] 54) = W0 := ⟨_, rfl⟩
  have HTS : Hid (TT W0 (w.heap.size + 1) (w.heap.size + 1 + 1) l pa ca 0 (.slice none 0 0) (.slice (some ⟨w.heap.size + 1, 0, none⟩) 1 1) (((w.alloc (.cells #[.slice none 0 0, .slice none 0 0] 54)).alloc (.cells #[.int .i64 (-1)] 2)).alloc (.cells #[.slice none 0 0, .slice (some ⟨w.heap.size + 1, 0, none⟩) 1 1] 54))) := Hid.mk' (by have := TS; rw [hW0] at this; rw [hW0]; exact this)
  rw [hW0] at B0 R0 z0
  have HB0 := Hid.mk' B0
  have HR0 := Hid.mk' R0
  have Z0 := Hid.mk' z0
  clear B0 R0 z0 TS hW0
  go_enter Tryd.func24, Tryd.ntmps24
  go_wp2_with fail
  go_loopw [17] (fun i wr => ∃ k : Nat, k ≤ l.length ∧ i = .int .i64 k ∧ (∀ j, j < k → oneF l j = 0) ∧ ∃ vn vw, TT W0 (w.heap.size + 1) (w.heap.size + 1 + 1) l pa ca k vn vw wr) (fun i _ => l.length - (intOf i).toNat)
  case atStart =>
    exact ⟨0, Nat.zero_le _, rfl, fun j h => absurd h (Nat.not_lt_zero _), _, _, HTS.out⟩
  case round =>
    obtain ⟨k, hk, rfl, hz, vn, vw, hT⟩ := hrel
    have HT := Hid.mk' hT
    have HZ := Hid.mk' hz
    clear hT hz
    by_cases hlt : k < l.length
    · have ci : (k : Int) < (l.length : Int) := by omega
      obtain ⟨rfl, hbs⟩ := HA.out (by omega)
      obtain ⟨q0, q1, q2, q3, q4⟩ := HCl.out k hlt
      have bl0 : Below w.heap.size w wr := HB0.out.trans (HT.out.bl.mono (by omega))
      have c0 := (bl0.cell hbs).trans q0
      have c1 := (bl0.cell hbs).trans q1
      have c2 := (bl0.cell hbs).trans q2
      have c3 := (bl0.cell hbs).trans q4
      have G := (ways_of HZ.out).good
      have gle := G.le
      obtain ⟨bw, cw, ew, w1_, w2_, w3_, hIA⟩ := own_iat HT.out.ow (by have := G.ne; omega)
      subst ew
      have AA := Hid.mk' (q3.below bl0)
      have hsz := nssz_at hlt
      have N1 := below_new wr (.cells #[.int .i64 (ndK l k).up, .string (ndK l k).tg, .slice (pa k) (ndK l k).at_.length (ca k), .slice (pt k) (ndK l k).tx.length (ct k)] 49)
      have HN1 := Hid.mk' N1
      have RN := Hid.mk' (row4 wr 49 (.int .i64 (ndK l k).up) (.string (ndK l k).tg) (.slice (pa k) (ndK l k).at_.length (ca k)) (.slice (pt k) (ndK l k).tx.length (ct k)))
      have IA := Hid.mk' (hIA.below N1)
      have HT1 := Hid.mk' (HT.out.below N1)
      have AA1 := Hid.mk' (AA.out.below N1)
      obtain ⟨p9, n9, c9, hV⟩ := mkV_slice (ndK l k) l pa ca k
      have KM : Hid (∀ w', Calls Tryd.prog 46 #[.agg #[.int .i64 (ndK l k).up, .string (ndK l k).tg, .slice (pa k) (ndK l k).at_.length (ca k), .slice (pt k) (ndK l k).tx.length (ct k)]] w' fun e w'' => e = .returned (.agg #[.int .i64 (mkK (ndK l k)), .string (mkS (ndK l k)), .slice p9 n9 c9]) ∧ Below w'.heap.size w' w'') := fun w' => by
        have := markOf_any (ndK l k) (pa k) (pt k) (ca k) (ct k) w'
        rw [show mkV (ndK l k) (.slice (pa k) (ndK l k).at_.length (ca k)) = .slice p9 n9 c9 from hV] at this
        exact this
      have HV := Hid.mk' hV
      clear hsz N1 hIA G q0 q1 q2 q3 q4 hV AA w1_ w3_ HT
      generalize hW : wr.alloc (.cells #[.int .i64 (ndK l k).up, .string (ndK l k).tg, .slice (pa k) (ndK l k).at_.length (ca k), .slice (pt k) (ndK l k).tx.length (ct k)] 49) = W at *
      go_wp2_with fail
      clear hW c0 c1 c2 c3
      have KI : Hid (∀ w', Below W.drew.heap.size W.drew w' → Calls Tryd.prog 47 #[.slice (some ⟨bw, 0, none⟩) (wayU (upF l) k).length cw, .int .i64 (ndK l k).up] w' fun e w'' => e = .returned (.int .i64 (ixI (wayU (upF l) k) (ndK l k).up)) ∧ w'' = w') := fun w' hb => indexI_any _ _ _ _ _ (IA.out.below (undrew hb)) (by omega)
      obtain ⟨r0, r1, r2, r3_, r4_⟩ := cells4 RN.out
      obtain ⟨t0, t1, t2⟩ := cells2 HT1.out.box
      have HWD : Hid (Below W.heap.size W W.drew) := Hid.mk' ((Below.refl _ _).drew)
      refine Code.wp_mono (Q := fun ex a' w' => ex = .normal ∧ ∃ x, W.heap.size ≤ x ∧ a' = ({ tmps := ((.slice (some ⟨b, o, none⟩) l.length c : Value) :: undef :: .pointer (some ⟨w.heap.size, 0, none⟩) :: u3 :: .pointer (some ⟨w.heap.size + 1 + 1, 0, none⟩) :: undef :: .pointer (some ⟨wr.heap.size, 0, none⟩) :: .pointer (some ⟨x, 0, none⟩) :: u8 :: .slice (some ⟨b, o, none⟩) l.length c :: .int .i64 (l.length : Int) :: .bool false :: undef :: .slice (some ⟨w.heap.size + 1, 0, none⟩) 1 1 :: .agg #[.slice none 0 0, .slice (some ⟨w.heap.size + 1, 0, none⟩) 1 1] :: .slice (some ⟨b, o, none⟩) l.length c :: .int .i64 (l.length : Int) :: .int .i64 (k : Int) :: .bool true :: .pointer (some ⟨b, o + k * 4, none⟩) :: .agg #[.int .i64 (ndK l k).up, .string (ndK l k).tg, .slice (pa k) (ndK l k).at_.length (ca k), .slice (pt k) (ndK l k).tx.length (ct k)] :: .agg #[.int .i64 (ndK l k).up, .string (ndK l k).tg, .slice (pa k) (ndK l k).at_.length (ca k), .slice (pt k) (ndK l k).tx.length (ct k)] :: .agg #[.int .i64 (mkK (ndK l k)), .string (mkS (ndK l k)), .slice p9 n9 c9] :: .pointer (some ⟨wr.heap.size, 0, none⟩) :: .int .i64 (ndK l k).up :: .pointer (some ⟨w.heap.size + 1 + 1, 1, none⟩) :: .slice (some ⟨bw, 0, none⟩) (wayU (upF l) k).length cw :: .pointer (some ⟨wr.heap.size, 0, none⟩) :: .int .i64 (ndK l k).up :: .int .i64 (ixI (wayU (upF l) k) (ndK l k).up) :: .agg #[.int .i64 (mkK (ndK l k)), .string (mkS (ndK l k)), .slice p9 n9 c9, .int .i64 (ndK l k).up, .int .i64 (ixI (wayU (upF l) k) (ndK l k).up)] :: u31 :: u32 :: u33 :: u34 :: u35 :: u36 :: u37 :: u38 :: u39 :: undef :: []).toArray, defers := [] } : Act) ∧ Below W.heap.size W w' ∧ w'.rowIs x 80 5 (r5 (.int .i64 (mkK (ndK l k))) (.string (mkS (ndK l k))) (.slice p9 n9 c9) (.int .i64 (ndK l k).up) (.int .i64 (ixI (wayU (upF l) k) (ndK l k).up)))) ?_ ?_
      rotate_left
      · refine wp_region_held_drew (S := fun w' => Below W.drew.heap.size W.drew w') (by kernel_rfl) (Below.refl _ _) (fun hHeld => ?_)
        have f0 : ∀ w', Below W.drew.heap.size W.drew w' → w'.cell? ⟨wr.heap.size, 0, none⟩ = some (.int .i64 (ndK l k).up) ∧ w'.cell? ⟨wr.heap.size, 1, none⟩ = some (.string (ndK l k).tg) ∧ w'.cell? ⟨wr.heap.size, 2, none⟩ = some (.slice (pa k) (ndK l k).at_.length (ca k)) ∧ w'.cell? ⟨wr.heap.size, 3, none⟩ = some (.slice (pt k) (ndK l k).tx.length (ct k)) ∧ w'.cell? ⟨w.heap.size + 1 + 1, 1, none⟩ = some (.slice (some ⟨bw, 0, none⟩) (wayU (upF l) k).length cw) := fun w' hb => ⟨((undrew hb).cell r4_).trans r0, ((undrew hb).cell r4_).trans r1, ((undrew hb).cell r4_).trans r2, ((undrew hb).cell r4_).trans r3_, ((undrew hb).cell t2).trans t1⟩
        have BC := Hid.mk' (Below.refl W.drew.heap.size W.drew)
        have F0 := Hid.mk' f0
        have SZ : Hid (W.drew.heap.size = W.heap.size) := Hid.mk' rfl
        clear f0 r0 r1 r2 r3_ t0 t1
        generalize hVd : W.drew = V at *
        clear hVd
        refine wpAnyH_take (i := 0) (oi := ⟨_, _, _, _, _, _⟩) (v := ?_) rfl (by kernel_rfl) (by kernel_rfl) (by kernel_rfl) (fun _ _ _ h => absurd h.1 (by simp)) (Or.inl ⟨by rfl, ?_⟩) (by assumption) ?_
        rotate_left
        · (intro w' hSw; obtain ⟨u0, u1, u2, u3, u4⟩ := F0.out w' hSw; (try dsimp only at hSw); go_simp; (try with_reducible rfl))
        try simp only [Act.put, List.setIfInBounds_toArray, List.set_cons_zero, List.set_cons_succ]
        refine wpAnyH_take (i := 2) (oi := ⟨_, _, _, _, _, _⟩) (v := ?_) rfl (by kernel_rfl) (by kernel_rfl) (by kernel_rfl) (fun _ _ _ h => absurd h.1 (by simp)) (Or.inl ⟨by rfl, ?_⟩) (by assumption) ?_
        rotate_left
        · (intro w' hSw; obtain ⟨u0, u1, u2, u3, u4⟩ := F0.out w' hSw; (try dsimp only at hSw); go_simp; (try with_reducible rfl))
        try simp only [Act.put, List.setIfInBounds_toArray, List.set_cons_zero, List.set_cons_succ]
        refine wpAnyH_take (i := 3) (oi := ⟨_, _, _, _, _, _⟩) (v := ?_) rfl (by kernel_rfl) (by kernel_rfl) (by kernel_rfl) (fun _ _ _ h => absurd h.1 (by simp)) (Or.inl ⟨by rfl, ?_⟩) (by assumption) ?_
        rotate_left
        · (intro w' hSw; obtain ⟨u0, u1, u2, u3, u4⟩ := F0.out w' hSw; (try dsimp only at hSw); go_simp; (try with_reducible rfl))
        try simp only [Act.put, List.setIfInBounds_toArray, List.set_cons_zero, List.set_cons_succ]
        refine wpAnyH_take (i := 4) (oi := ⟨_, _, _, _, _, _⟩) (v := ?_) rfl (by kernel_rfl) (by kernel_rfl) (by kernel_rfl) (fun _ _ _ h => absurd h.1 (by simp)) (Or.inl ⟨by rfl, ?_⟩) (by assumption) ?_
        rotate_left
        · (intro w' hSw; obtain ⟨u0, u1, u2, u3, u4⟩ := F0.out w' hSw; (try dsimp only at hSw); go_simp; (try with_reducible rfl))
        try simp only [Act.put, List.setIfInBounds_toArray, List.set_cons_zero, List.set_cons_succ]
        refine wpAnyH_take (i := 5) (oi := ⟨_, _, _, _, _, _⟩) (v := ?_) rfl (by kernel_rfl) (by kernel_rfl) (by kernel_rfl) (fun _ _ _ h => absurd h.1 (by simp)) (Or.inl ⟨by rfl, ?_⟩) (by assumption) ?_
        rotate_left
        · (intro w' hSw; obtain ⟨u0, u1, u2, u3, u4⟩ := F0.out w' hSw; (try dsimp only at hSw); go_simp; (try with_reducible rfl))
        try simp only [Act.put, List.setIfInBounds_toArray, List.set_cons_zero, List.set_cons_succ]
        refine wpAnyH_take (i := 6) (oi := ⟨_, _, _, _, _, _⟩) (v := ?_) rfl (by kernel_rfl) (by kernel_rfl) (by kernel_rfl) (fun _ _ _ h => absurd h.1 (by simp)) (Or.inl ⟨by rfl, ?_⟩) (by assumption) ?_
        rotate_left
        · (intro w' hSw; obtain ⟨u0, u1, u2, u3, u4⟩ := F0.out w' hSw; (try dsimp only at hSw); go_simp; (try with_reducible rfl))
        try simp only [Act.put, List.setIfInBounds_toArray, List.set_cons_zero, List.set_cons_succ]
        refine wpAnyH_take (i := 7) (oi := ⟨_, _, _, _, _, _⟩) (v := ?_) rfl (by kernel_rfl) (by kernel_rfl) (by kernel_rfl) (fun _ _ _ h => absurd h.1 (by simp)) (Or.inl ⟨by rfl, ?_⟩) (by assumption) ?_
        rotate_left
        · (intro w' hSw; obtain ⟨u0, u1, u2, u3, u4⟩ := F0.out w' hSw; (try dsimp only at hSw); go_simp; (try with_reducible rfl))
        try simp only [Act.put, List.setIfInBounds_toArray, List.set_cons_zero, List.set_cons_succ]
        refine wpAnyH_ready (rs := [1, 10]) (by kernel_rfl) (by simp) ?_
        refine AllReadyH.cons (o := ⟨_, _, _, _, _, _⟩) rfl (fun K hK => ?_) (AllReadyH.cons (o := ⟨_, _, _, _, _, _⟩) rfl (fun K hK => ?_) AllReadyH.nil)
        · go_simp
          go_at_call 46; refine (KM.out _).mono ?_; rintro e wm ⟨rfl, hb⟩; have BC := Hid.mk' (BC.out.trans (hb.mono BC.out.size))
          clear hb
          refine hK.out _ _ BC.out (fun hHeld => ?_)
          clear hK K
          try simp only [Act.put, List.setIfInBounds_toArray, List.set_cons_zero, List.set_cons_succ]
          refine wpAnyH_ready (rs := [8, 10]) (by kernel_rfl) (by simp) ?_
          refine AllReadyH.cons (o := ⟨_, _, _, _, _, _⟩) rfl (fun K hK => ?_) (AllReadyH.cons (o := ⟨_, _, _, _, _, _⟩) rfl (fun K hK => ?_) AllReadyH.nil)
          · go_simp
            go_at_call 47; refine (KI.out _ BC.out).mono ?_; rintro e wi ⟨rfl, hw9⟩; obtain rfl := hw9.symm
            refine hK.out _ _ BC.out (fun hHeld => ?_)
            clear hK K
            try simp only [Act.put, List.setIfInBounds_toArray, List.set_cons_zero, List.set_cons_succ]
            refine wpAnyH_take (i := 9) (oi := ⟨_, _, _, _, _, _⟩) (v := ?_) rfl (by kernel_rfl) (by kernel_rfl) (by kernel_rfl) (fun _ _ _ h => absurd h.1 (by simp)) (Or.inl ⟨by rfl, ?_⟩) (by assumption) ?_
            rotate_left
            · (intro w hSw; (try dsimp only at hSw); go_simp; (try with_reducible rfl))
            try simp only [Act.put, List.setIfInBounds_toArray, List.set_cons_zero, List.set_cons_succ]
            refine wpAnyH_ready (rs := [10]) (by kernel_rfl) (by simp) ?_
            refine AllReadyH.cons (o := ⟨_, _, _, _, _, _⟩) rfl (fun K hK => ?_) AllReadyH.nil
            · go_simp
              have BC := Hid.mk' (BC.out.alloc BC.out.size (.cells #[.int .i64 0, .string ⟨#[]⟩, .slice none 0 0, .int .i64 0, .int .i64 0] 80))
              have RX := Hid.mk' (row5 wm 80 (.int .i64 0) (.string ⟨#[]⟩) (.slice none 0 0) (.int .i64 0) (.int .i64 0))
              have XL : Hid (W.heap.size ≤ wm.heap.size) := Hid.mk' (SZ.out ▸ hHeld.size)
              generalize hwa : wm.alloc (.cells #[.int .i64 0, .string ⟨#[]⟩, .slice none 0 0, .int .i64 0, .int .i64 0] 80) = wa at *
              refine hK.out _ _ BC.out (fun hHeld => ?_)
              clear hK K
              try simp only [Act.put, List.setIfInBounds_toArray, List.set_cons_zero, List.set_cons_succ]
              generalize hx : wm.heap.size = x at *
              obtain ⟨s0, s1, s2, s3, s4, s5⟩ := cells5 RX.out
              have g0 := RX.out.frozen 0
              have g1 := RX.out.frozen 1
              have g2 := RX.out.frozen 2
              have g3 := RX.out.frozen 3
              have g4 := RX.out.frozen 4
              have XG : V.heap.size ≤ x := by have := XL.out; have := SZ.out; omega
              refine wpAnyH_ready (rs := [11]) (by kernel_rfl) (by simp) ?_
              refine AllReadyH.cons (o := ⟨_, _, _, _, _, _⟩) rfl (fun K hK => ?_) AllReadyH.nil
              go_simp
              have B9 := (((((BC.out.setCell (p := ⟨x, 0, none⟩) XG (.int .i64 (mkK (ndK l k)))).setCell (p := ⟨x, 1, none⟩) XG (.string (mkS (ndK l k)))).setCell (p := ⟨x, 2, none⟩) XG (.slice p9 n9 c9)).setCell (p := ⟨x, 3, none⟩) XG (.int .i64 (ndK l k).up)).setCell (p := ⟨x, 4, none⟩) XG (.int .i64 (ixI (wayU (upF l) k) (ndK l k).up)))
              have R9 := (((((RX.out.set 0 (.int .i64 (mkK (ndK l k)))).set 1 (.string (mkS (ndK l k)))).set 2 (.slice p9 n9 c9)).set 3 (.int .i64 (ndK l k).up)).set 4 (.int .i64 (ixI (wayU (upF l) k) (ndK l k).up))).congr (g := r5 (.int .i64 (mkK (ndK l k))) (.string (mkS (ndK l k))) (.slice p9 n9 c9) (.int .i64 (ndK l k).up) (.int .i64 (ixI (wayU (upF l) k) (ndK l k).up))) (fun i hi => by have h5 : i = 0 ∨ i = 1 ∨ i = 2 ∨ i = 3 ∨ i = 4 := (by omega); rcases h5 with rfl | rfl | rfl | rfl | rfl <;> rfl)
              refine hK.out _ _ B9 (fun hHeld => ?_)
              clear hK K
              try simp only [Act.put, List.setIfInBounds_toArray, List.set_cons_zero, List.set_cons_succ]
              refine wpAnyH_done (by kernel_rfl) ?_ _
              exact ⟨rfl, x, XL.out, rfl, HWD.out.trans (B9.mono (by have := SZ.out; omega)), R9⟩
          · go_simp
            have BC := Hid.mk' (BC.out.alloc BC.out.size (.cells #[.int .i64 0, .string ⟨#[]⟩, .slice none 0 0, .int .i64 0, .int .i64 0] 80))
            have RX := Hid.mk' (row5 wm 80 (.int .i64 0) (.string ⟨#[]⟩) (.slice none 0 0) (.int .i64 0) (.int .i64 0))
            have XL : Hid (W.heap.size ≤ wm.heap.size) := Hid.mk' (SZ.out ▸ hHeld.size)
            generalize hwa : wm.alloc (.cells #[.int .i64 0, .string ⟨#[]⟩, .slice none 0 0, .int .i64 0, .int .i64 0] 80) = wa at *
            refine hK.out _ _ BC.out (fun hHeld => ?_)
            clear hK K
            try simp only [Act.put, List.setIfInBounds_toArray, List.set_cons_zero, List.set_cons_succ]
            refine wpAnyH_ready (rs := [8]) (by kernel_rfl) (by simp) ?_
            refine AllReadyH.cons (o := ⟨_, _, _, _, _, _⟩) rfl (fun K hK => ?_) AllReadyH.nil
            · go_simp
              go_at_call 47; refine (KI.out _ BC.out).mono ?_; rintro e wi ⟨rfl, hw9⟩; obtain rfl := hw9.symm
              refine hK.out _ _ BC.out (fun hHeld => ?_)
              clear hK K
              try simp only [Act.put, List.setIfInBounds_toArray, List.set_cons_zero, List.set_cons_succ]
              refine wpAnyH_take (i := 9) (oi := ⟨_, _, _, _, _, _⟩) (v := ?_) rfl (by kernel_rfl) (by kernel_rfl) (by kernel_rfl) (fun _ _ _ h => absurd h.1 (by simp)) (Or.inl ⟨by rfl, ?_⟩) (by assumption) ?_
              rotate_left
              · (intro w hSw; (try dsimp only at hSw); go_simp; (try with_reducible rfl))
              try simp only [Act.put, List.setIfInBounds_toArray, List.set_cons_zero, List.set_cons_succ]
              generalize hx : wm.heap.size = x at *
              obtain ⟨s0, s1, s2, s3, s4, s5⟩ := cells5 RX.out
              have g0 := RX.out.frozen 0
              have g1 := RX.out.frozen 1
              have g2 := RX.out.frozen 2
              have g3 := RX.out.frozen 3
              have g4 := RX.out.frozen 4
              have XG : V.heap.size ≤ x := by have := XL.out; have := SZ.out; omega
              refine wpAnyH_ready (rs := [11]) (by kernel_rfl) (by simp) ?_
              refine AllReadyH.cons (o := ⟨_, _, _, _, _, _⟩) rfl (fun K hK => ?_) AllReadyH.nil
              go_simp
              have B9 := (((((BC.out.setCell (p := ⟨x, 0, none⟩) XG (.int .i64 (mkK (ndK l k)))).setCell (p := ⟨x, 1, none⟩) XG (.string (mkS (ndK l k)))).setCell (p := ⟨x, 2, none⟩) XG (.slice p9 n9 c9)).setCell (p := ⟨x, 3, none⟩) XG (.int .i64 (ndK l k).up)).setCell (p := ⟨x, 4, none⟩) XG (.int .i64 (ixI (wayU (upF l) k) (ndK l k).up)))
              have R9 := (((((RX.out.set 0 (.int .i64 (mkK (ndK l k)))).set 1 (.string (mkS (ndK l k)))).set 2 (.slice p9 n9 c9)).set 3 (.int .i64 (ndK l k).up)).set 4 (.int .i64 (ixI (wayU (upF l) k) (ndK l k).up))).congr (g := r5 (.int .i64 (mkK (ndK l k))) (.string (mkS (ndK l k))) (.slice p9 n9 c9) (.int .i64 (ndK l k).up) (.int .i64 (ixI (wayU (upF l) k) (ndK l k).up))) (fun i hi => by have h5 : i = 0 ∨ i = 1 ∨ i = 2 ∨ i = 3 ∨ i = 4 := (by omega); rcases h5 with rfl | rfl | rfl | rfl | rfl <;> rfl)
              refine hK.out _ _ B9 (fun hHeld => ?_)
              clear hK K
              try simp only [Act.put, List.setIfInBounds_toArray, List.set_cons_zero, List.set_cons_succ]
              refine wpAnyH_done (by kernel_rfl) ?_ _
              exact ⟨rfl, x, XL.out, rfl, HWD.out.trans (B9.mono (by have := SZ.out; omega)), R9⟩
        · go_simp
          have BC := Hid.mk' (BC.out.alloc BC.out.size (.cells #[.int .i64 0, .string ⟨#[]⟩, .slice none 0 0, .int .i64 0, .int .i64 0] 80))
          have RX := Hid.mk' (row5 V 80 (.int .i64 0) (.string ⟨#[]⟩) (.slice none 0 0) (.int .i64 0) (.int .i64 0))
          have XL : Hid (W.heap.size ≤ V.heap.size) := Hid.mk' (SZ.out ▸ hHeld.size)
          generalize hwa : V.alloc (.cells #[.int .i64 0, .string ⟨#[]⟩, .slice none 0 0, .int .i64 0, .int .i64 0] 80) = wa at *
          refine hK.out _ _ BC.out (fun hHeld => ?_)
          clear hK K
          try simp only [Act.put, List.setIfInBounds_toArray, List.set_cons_zero, List.set_cons_succ]
          refine wpAnyH_ready (rs := [1]) (by kernel_rfl) (by simp) ?_
          refine AllReadyH.cons (o := ⟨_, _, _, _, _, _⟩) rfl (fun K hK => ?_) AllReadyH.nil
          · go_simp
            go_at_call 46; refine (KM.out _).mono ?_; rintro e wm ⟨rfl, hb⟩; have BC := Hid.mk' (BC.out.trans (hb.mono BC.out.size))
            have RX := Hid.mk' (rowB RX.out hb)
            clear hb
            refine hK.out _ _ BC.out (fun hHeld => ?_)
            clear hK K
            try simp only [Act.put, List.setIfInBounds_toArray, List.set_cons_zero, List.set_cons_succ]
            refine wpAnyH_ready (rs := [8]) (by kernel_rfl) (by simp) ?_
            refine AllReadyH.cons (o := ⟨_, _, _, _, _, _⟩) rfl (fun K hK => ?_) AllReadyH.nil
            · go_simp
              go_at_call 47; refine (KI.out _ BC.out).mono ?_; rintro e wi ⟨rfl, hw9⟩; obtain rfl := hw9.symm
              refine hK.out _ _ BC.out (fun hHeld => ?_)
              clear hK K
              try simp only [Act.put, List.setIfInBounds_toArray, List.set_cons_zero, List.set_cons_succ]
              refine wpAnyH_take (i := 9) (oi := ⟨_, _, _, _, _, _⟩) (v := ?_) rfl (by kernel_rfl) (by kernel_rfl) (by kernel_rfl) (fun _ _ _ h => absurd h.1 (by simp)) (Or.inl ⟨by rfl, ?_⟩) (by assumption) ?_
              rotate_left
              · (intro w hSw; (try dsimp only at hSw); go_simp; (try with_reducible rfl))
              try simp only [Act.put, List.setIfInBounds_toArray, List.set_cons_zero, List.set_cons_succ]
              obtain ⟨s0, s1, s2, s3, s4, s5⟩ := cells5 RX.out
              have g0 := RX.out.frozen 0
              have g1 := RX.out.frozen 1
              have g2 := RX.out.frozen 2
              have g3 := RX.out.frozen 3
              have g4 := RX.out.frozen 4
              have XG : V.heap.size ≤ V.heap.size := by have := XL.out; have := SZ.out; omega
              refine wpAnyH_ready (rs := [11]) (by kernel_rfl) (by simp) ?_
              refine AllReadyH.cons (o := ⟨_, _, _, _, _, _⟩) rfl (fun K hK => ?_) AllReadyH.nil
              go_simp
              have B9 := (((((BC.out.setCell (p := ⟨V.heap.size, 0, none⟩) XG (.int .i64 (mkK (ndK l k)))).setCell (p := ⟨V.heap.size, 1, none⟩) XG (.string (mkS (ndK l k)))).setCell (p := ⟨V.heap.size, 2, none⟩) XG (.slice p9 n9 c9)).setCell (p := ⟨V.heap.size, 3, none⟩) XG (.int .i64 (ndK l k).up)).setCell (p := ⟨V.heap.size, 4, none⟩) XG (.int .i64 (ixI (wayU (upF l) k) (ndK l k).up)))
              have R9 := (((((RX.out.set 0 (.int .i64 (mkK (ndK l k)))).set 1 (.string (mkS (ndK l k)))).set 2 (.slice p9 n9 c9)).set 3 (.int .i64 (ndK l k).up)).set 4 (.int .i64 (ixI (wayU (upF l) k) (ndK l k).up))).congr (g := r5 (.int .i64 (mkK (ndK l k))) (.string (mkS (ndK l k))) (.slice p9 n9 c9) (.int .i64 (ndK l k).up) (.int .i64 (ixI (wayU (upF l) k) (ndK l k).up))) (fun i hi => by have h5 : i = 0 ∨ i = 1 ∨ i = 2 ∨ i = 3 ∨ i = 4 := (by omega); rcases h5 with rfl | rfl | rfl | rfl | rfl <;> rfl)
              refine hK.out _ _ B9 (fun hHeld => ?_)
              clear hK K
              try simp only [Act.put, List.setIfInBounds_toArray, List.set_cons_zero, List.set_cons_succ]
              refine wpAnyH_done (by kernel_rfl) ?_ _
              exact ⟨rfl, V.heap.size, XL.out, rfl, HWD.out.trans (B9.mono (by have := SZ.out; omega)), R9⟩
      · intro ex a' w' hR
        obtain ⟨rfl, x, hx, rfl, hb, hrow⟩ := hR
        have HT2 := Hid.mk' (HT1.out.below hb)
        have HX := Hid.mk' hrow
        have HL : Hid ((l.length : Int) + nssz l ≤ 1048576) := Hid.mk' hl
        have KF := faultNext_any W0 (w.heap.size + 1) (w.heap.size + 1 + 1) l pa ca k vn (.slice (some ⟨bw, 0, none⟩) (wayU (upF l) k).length cw) (pa k) (ca k) w' HT2.out hlt hle HZ.out (AA1.out.below hb) hl
        rw [show mkV (ndK l k) (.slice (pa k) (ndK l k).at_.length (ca k)) = .slice p9 n9 c9 from HV.out] at KF
        have KF := Hid.mk' KF
        obtain ⟨s0, s1, s2, s3, s4, s5⟩ := cells5 hrow
        have RR := Hid.mk' (HR0.out.of_block (HT2.out.bl.block _ (by omega)))
        clear hb hrow KM KI IA RN HN1 r4_ t2 HWD HT1 AA1 bl0 hl
        by_cases h0 : oneF l k = 0
        · rw [h0] at KF
          have hd := oneF_dep h0
          have ei : ixI (wayU (upF l) k) (ndK l k).up = (depU (upF l) k : Int) := by unfold ixI; exact if_pos hd
          have H0 := Hid.mk' h0
          have KP : Hid (∀ w', TT W0 (w.heap.size + 1) (w.heap.size + 1 + 1) l pa ca k vn (.slice (some ⟨bw, 0, none⟩) (wayU (upF l) k).length cw) w' → Calls Tryd.prog 49 #[.pointer (some ⟨w.heap.size + 1 + 1, 0, none⟩), .agg #[.int .i64 (mkK (ndK l k)), .string (mkS (ndK l k)), .slice p9 n9 c9, .int .i64 (ndK l k).up, .int .i64 (ixI (wayU (upF l) k) (ndK l k).up)]] w' fun e w'' => (∃ v, e = .returned v) ∧ ∃ vn' vw', TT W0 (w.heap.size + 1) (w.heap.size + 1 + 1) l pa ca (k + 1) vn' vw' w'') := fun w' ht => by
            have := put_any W0 (w.heap.size + 1) (w.heap.size + 1 + 1) l pa ca k vn (.slice (some ⟨bw, 0, none⟩) (wayU (upF l) k).length cw) w' ht (by omega) hd gle
            rw [HV.out] at this
            rw [ei]
            exact this
          clear h0 ei hd
          generalize ixI (wayU (upF l) k) (ndK l k).up = dI at *
          go_wp2_with fail
          refine KF.out.mono ?_
          rintro e w2 ⟨rfl, hb2⟩
          have HT3 := Hid.mk' (HT2.out.below hb2)
          obtain ⟨v0, v1, v2, v3, v4, v5⟩ := cells5 (rowB HX.out hb2)
          clear hb2 KF HT2 s0 s1 s2 s3 s4 s5
          go_wp2_with fail
          refine (KP.out _ HT3.out).mono ?_
          rintro e w3 ⟨⟨vv, rfl⟩, vn', vw', hT'⟩
          have HT4 := Hid.mk' hT'
          clear hT' KP HT3
          go_wp2
          go_roundw
          case rel => exact ⟨k + 1, by omega, by go_num, fun j hj => by
            by_cases h : j = k
            · subst h; exact H0.out
            · exact HZ.out j (by omega), vn', vw', HT4.out⟩
          case measure => simp [intOf]; omega
        · have E : Hid (treeF l = oneF l k) := Hid.mk' (treeF_hit (by omega) hlt HZ.out rfl h0)
          generalize hf : oneF l k = f at *
          go_wp2_with fail
          refine KF.out.mono ?_
          rintro e w2 ⟨rfl, hb2⟩
          have HB2 : Hid (Below w.heap.size w w2) := Hid.mk' ((HB0.out.trans (HT2.out.bl.mono (by omega))).trans (hb2.mono (by have := HT2.out.sz; omega)))
          have RS := rowB RR.out hb2
          obtain ⟨v0, v1, v2⟩ := cells2 RS
          have g0 := RS.frozen 0
          have g1 := RS.frozen 1
          clear hb2 KF RS HT2
          go_wp2
          refine bodyPost_ret (v := .tuple #[.agg #[.slice none 0 0, .slice none 0 0], .int .i64 f]) (by simp [results, Tryd.results24, go_sem, *]) rfl ?_
          refine .inl ⟨by rw [E.out]; exact h0, by rw [E.out], ?_⟩
          exact (HB2.out.setCell (p := ⟨w.heap.size, 0, none⟩) (Nat.le_refl _) _).setCell (p := ⟨w.heap.size, 1, none⟩) (Nat.le_refl _) _
    · have ci : ¬ (k : Int) < (l.length : Int) := by omega
      have e : k = l.length := by omega
      subst e
      have E : Hid (treeF l = 0) := Hid.mk' (treeF_none (by omega) HZ.out)
      obtain ⟨an, cn, ev, _⟩ := own_len HT.out.on
      subst ev
      obtain ⟨aw, cw, ev, _⟩ := own_len HT.out.ow
      subst ev
      obtain ⟨b0, b1, b2⟩ := cells2 HT.out.box
      have RS := HR0.out.of_block (HT.out.bl.block _ (by omega))
      obtain ⟨v0, v1, v2⟩ := cells2 RS
      have g0 := RS.frozen 0
      have g1 := RS.frozen 1
      have F1 := Hid.mk' (HT.out.fin (u := .slice an l.length cn) (u' := .slice aw (wayU (upF l) l.length).length cw) HB0.out)
      clear RS
      go_wp2
      refine bodyPost_ret (v := .tuple #[.agg #[.slice an l.length cn, .slice aw (wayU (upF l) l.length).length cw], .int .i64 0]) (by simp [results, Tryd.results24, go_sem, *]) rfl ?_
      exact .inr ⟨E.out, pa, ca, _, _, _, rfl, F1.out⟩

end Go.Proofs.YtcjnfodkppcpoaaDoor
