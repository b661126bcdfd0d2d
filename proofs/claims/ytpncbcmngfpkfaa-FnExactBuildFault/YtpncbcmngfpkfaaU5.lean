/- The program's tree of nodes. -/
import Derived.Test.YtpncbcmngfpkfaaU4
import Derived.Test.YtpncbcmngfpkfaaU3
import Derived.Test.YtpncbcmngfpkfaaU2
namespace Go.Proofs.Ytpncbcmngfpkfaa
open Go.RowKit
set_option linter.unusedVariables false
set_option linter.unusedSimpArgs false

/-- Nodes lie at an address; where the attributes of each one lie is told by two functions. -/
theorem NsAt.fn {w : World} {b o : Nat} {l : List ND} (hc : ∀ k, k < l.length → w.cell? ⟨b, o + k * 4, none⟩ = some (.int .i64 (ndK l k).up) ∧ w.cell? ⟨b, o + k * 4 + 1, none⟩ = some (.string (ndK l k).tg) ∧ (∃ p c, w.cell? ⟨b, o + k * 4 + 2, none⟩ = some (.slice p (ndK l k).at_.length c) ∧ (ndK l k).at_.length ≤ c ∧ AAt w p (ndK l k).at_) ∧ (∃ p c, w.cell? ⟨b, o + k * 4 + 3, none⟩ = some (.slice p (ndK l k).tx.length c) ∧ BAt w p (ndK l k).tx)) :
    ∃ (pa : Nat → Option Addr) (ca : Nat → Nat) (pt : Nat → Option Addr) (ct : Nat → Nat), ∀ k, k < l.length → w.cell? ⟨b, o + k * 4, none⟩ = some (.int .i64 (ndK l k).up) ∧ w.cell? ⟨b, o + k * 4 + 1, none⟩ = some (.string (ndK l k).tg) ∧ w.cell? ⟨b, o + k * 4 + 2, none⟩ = some (.slice (pa k) (ndK l k).at_.length (ca k)) ∧ AAt w (pa k) (ndK l k).at_ ∧ w.cell? ⟨b, o + k * 4 + 3, none⟩ = some (.slice (pt k) (ndK l k).tx.length (ct k)) := by
  classical
  refine ⟨fun k => if h : k < l.length then (hc k h).2.2.1.choose else none, fun k => if h : k < l.length then (hc k h).2.2.1.choose_spec.choose else 0, fun k => if h : k < l.length then (hc k h).2.2.2.choose else none, fun k => if h : k < l.length then (hc k h).2.2.2.choose_spec.choose else 0, fun k hk => ?_⟩
  simp only [dif_pos hk]
  exact ⟨(hc k hk).1, (hc k hk).2.1, (hc k hk).2.2.1.choose_spec.choose_spec.1, (hc k hk).2.2.1.choose_spec.choose_spec.2.2, (hc k hk).2.2.2.choose_spec.choose_spec.1⟩

/-- What treeOf leaves: a code, or a tree in rows of its own. -/
def TreeP (l : List ND) (w : World) (e : Ending) (w' : World) : Prop :=
  (¬ treeF l = 0 ∧ e = .returned (.tuple #[.agg #[.slice none 0 0, .slice none 0 0], .int .i64 (treeF l)]) ∧ Below w.heap.size w w') ∨
  (treeF l = 0 ∧ ∃ pa ca g vn vw, e = .returned (.tuple #[.agg #[vn, vw], .int .i64 0]) ∧ TT w w.heap.size g l pa ca l.length vn vw w')

theorem own_base {w : World} {base base' : Nat} {e : TypeId} {size : Nat} {v : Value} {n : Nat} {xs : List Value} (h : w.ownsRow base e size v n xs) (hb : base' ≤ base) : w.ownsRow base' e size v n xs := by
  refine ⟨h.1, ?_⟩
  rcases h.2 with h | ⟨g, cap, cur, h1, h2, h3⟩
  · exact .inl h
  · exact .inr ⟨g, cap, cur, h1, Nat.le_trans hb h2, h3⟩

/-- The tree is handed back: the box of the answer is written. -/
theorem TT.fin {w W0 wr : World} {g : Nat} {l : List ND} {pa : Nat → Option Addr} {ca : Nat → Nat} {k : Nat} {vn vw u u' : Value} (h : TT W0 (w.heap.size + 1) g l pa ca k vn vw wr) (hB : Below w.heap.size w W0) : TT w w.heap.size g l pa ca k vn vw ((wr.setCell ⟨w.heap.size, 0, none⟩ u).setCell ⟨w.heap.size, 1, none⟩ u') := by
  have hg := h.bg
  have n1 : ¬ vn.ownBlock = some w.heap.size := fun e => by have := own_lo h.on _ e; omega
  have n2 : ¬ vw.ownBlock = some w.heap.size := fun e => by have := own_lo h.ow _ e; omega
  refine ⟨(h.box.setOther (a := ⟨w.heap.size, 0, none⟩) (by dsimp only; omega) u).setOther (a := ⟨w.heap.size, 1, none⟩) (by dsimp only; omega) u', own_base (own_set (own_set h.on n1) n1) (by omega), own_base (own_set (own_set h.ow n2) n2) (by omega), h.ap, h.an, h.aw, ?_, ?_, by omega⟩
  · exact ((hB.trans (h.bl.mono (by omega))).setCell (p := ⟨w.heap.size, 0, none⟩) (Nat.le_refl _) _).setCell (p := ⟨w.heap.size, 1, none⟩) (Nat.le_refl _) _
  · have := h.sz; simp [World.setCell]; omega

set_option maxRecDepth 100000 in
set_option maxHeartbeats 16000000 in
theorem treeOf_any (a : Option Addr) (c : Nat) (l : List ND) (w : World) (ha : NsAt w a l) (hl : (l.length : Int) + nssz l ≤ 1048576) :
    Calls Try.prog 17 #[.slice a l.length c] w fun e w' => TreeP l w e w' := by
  by_cases h60 : (l.length : Int) > 60
  · have E : Hid (treeF l = 2) := Hid.mk' (by unfold treeF; rw [if_pos (by omega)])
    go_enter Try.func17, Try.ntmps17
    go_wp2
    refine bodyPost_ret (v := .tuple #[.agg #[.slice none 0 0, .slice none 0 0], .int .i64 2]) (by simp [results, Try.results17, go_sem, *]) rfl ?_
    exact .inl ⟨by rw [E.out]; decide, by rw [E.out], below_new _ _⟩
  have hle : l.length ≤ 60 := by omega
  have HN : Hid (∃ (b o : Nat) (pa : Nat → Option Addr) (ca : Nat → Nat) (pt : Nat → Option Addr) (ct : Nat → Nat), (0 < l.length → a = some ⟨b, o, none⟩ ∧ b < w.heap.size) ∧ ∀ k, k < l.length → w.cell? ⟨b, o + k * 4, none⟩ = some (.int .i64 (ndK l k).up) ∧ w.cell? ⟨b, o + k * 4 + 1, none⟩ = some (.string (ndK l k).tg) ∧ w.cell? ⟨b, o + k * 4 + 2, none⟩ = some (.slice (pa k) (ndK l k).at_.length (ca k)) ∧ AAt w (pa k) (ndK l k).at_ ∧ w.cell? ⟨b, o + k * 4 + 3, none⟩ = some (.slice (pt k) (ndK l k).tx.length (ct k))) := by
    rcases ha with ha | ⟨b, o, rfl, hbs, hc⟩
    · exact ⟨0, 0, fun _ => none, fun _ => 0, fun _ => none, fun _ => 0, fun h => by rw [ha] at h; exact absurd h (Nat.not_lt_zero _), fun k h => by rw [ha] at h; exact absurd h (Nat.not_lt_zero _)⟩
    · obtain ⟨pa, ca, pt, ct, h⟩ := NsAt.fn hc
      exact ⟨b, o, pa, ca, pt, ct, fun _ => ⟨rfl, hbs⟩, h⟩
  obtain ⟨b, o, pa, ca, pt, ct, hab, hcell⟩ := HN.out
  have HA := Hid.mk' hab
  have HCl := Hid.mk' hcell
  clear HN ha hab hcell
  have B0 := below_new w (.cells #[.slice none 0 0, .slice none 0 0] 43)
  have R0 := (rowp2 w 43 (.slice none 0 0) (.slice none 0 0))
  have z0 : (w.alloc (.cells #[.slice none 0 0, .slice none 0 0] 43)).heap.size = w.heap.size + 1 := by simp
  have TS : TT (w.alloc (.cells #[.slice none 0 0, .slice none 0 0] 43)) (w.heap.size + 1) (w.heap.size + 1 + 1) l pa ca 0 (.slice none 0 0) (.slice (some ⟨w.heap.size + 1, 0, none⟩) 1 1) (((w.alloc (.cells #[.slice none 0 0, .slice none 0 0] 43)).alloc (.cells #[.int .i64 (-1)] 2)).alloc (.cells #[.slice none 0 0, .slice (some ⟨w.heap.size + 1, 0, none⟩) 1 1] 43)) := by
    generalize hW0 : w.alloc (.cells #[.slice none 0 0, .slice none 0 0] 43) = W0 at *
    have z1 : (W0.alloc (.cells #[.int .i64 (-1)] 2)).heap.size = w.heap.size + 1 + 1 := by simp [z0]
    have RB := rowp2 (W0.alloc (.cells #[.int .i64 (-1)] 2)) 43 (.slice none 0 0) (.slice (some ⟨w.heap.size + 1, 0, none⟩) 1 1)
    rw [z1] at RB
    have OW : (W0.alloc (.cells #[.int .i64 (-1)] 2)).ownsRow (w.heap.size + 1) 2 1 (.slice (some ⟨w.heap.size + 1, 0, none⟩) 1 1) 1 (ics [-1]) := by
      have := World.ownsRow_lit (base := w.heap.size + 1) (e := 2) (size := 1) W0 #[.int .i64 (-1)] 1 (by omega) (by unfold maxLen; omega) rfl
      rw [z0] at this
      exact this
    refine ⟨RB, ⟨rfl, .inl ⟨rfl, rfl⟩⟩, OW.alloc _, Ap.nil_left _, by simp [Value.ownBlock], by simp [Value.ownBlock], ?_, ?_, by omega⟩
    · exact ((Below.refl _ _).alloc (by omega) _).alloc (by simp; omega) _
    · simp; omega
  obtain ⟨W0, hW0⟩ : ∃ W0, w.alloc (.cells #[.slice none 0 0, .slice none 0 0] 43) = W0 := ⟨_, rfl⟩
  have HTS : Hid (TT W0 (w.heap.size + 1) (w.heap.size + 1 + 1) l pa ca 0 (.slice none 0 0) (.slice (some ⟨w.heap.size + 1, 0, none⟩) 1 1) (((w.alloc (.cells #[.slice none 0 0, .slice none 0 0] 43)).alloc (.cells #[.int .i64 (-1)] 2)).alloc (.cells #[.slice none 0 0, .slice (some ⟨w.heap.size + 1, 0, none⟩) 1 1] 43))) := Hid.mk' (by have := TS; rw [hW0] at this; rw [hW0]; exact this)
  rw [hW0] at B0 R0 z0
  have HB0 := Hid.mk' B0
  have HR0 := Hid.mk' R0
  have Z0 := Hid.mk' z0
  clear B0 R0 z0 TS hW0
  go_enter Try.func17, Try.ntmps17
  go_wp2_with fail
  go_loopw [17] (fun i wr => ∃ k : Nat, k ≤ l.length ∧ i = .int .i64 k ∧ (∀ j, j < k → oneF l j = 0) ∧ ∃ vn vw, TT W0 (w.heap.size + 1) (w.heap.size + 1 + 1) l pa ca k vn vw wr) (fun i _ => l.length - (intOf i).toNat)
  case atStart =>
    exact ⟨0, Nat.zero_le _, rfl, fun j h => absurd h (Nat.not_lt_zero _), _, _, HTS.out⟩
  case round =>
    obtain ⟨k, hk, rfl, hz, vn, vw, hT⟩ := hrel
    have HT := Hid.mk' hT
    have HZ := Hid.mk' hz
    clear hT hz
    by_cases hlt : k < l.length
    · have ci : (k : Int) < (l.length : Int) := by omega
      obtain ⟨rfl, hbs⟩ := HA.out (by omega)
      obtain ⟨q0, q1, q2, q3, q4⟩ := HCl.out k hlt
      have bl0 : Below w.heap.size w wr := HB0.out.trans (HT.out.bl.mono (by omega))
      have c0 := (bl0.cell hbs).trans q0
      have c1 := (bl0.cell hbs).trans q1
      have c2 := (bl0.cell hbs).trans q2
      have c3 := (bl0.cell hbs).trans q4
      have G := (ways_of HZ.out).good
      have gle := G.le
      obtain ⟨bw, cw, ew, w1_, w2_, w3_, hIA⟩ := own_iat HT.out.ow (by have := G.ne; omega)
      subst ew
      have AA := Hid.mk' (q3.below bl0)
      have hsz := nssz_at hlt
      have N1 := below_new wr (.cells #[.int .i64 (ndK l k).up, .string (ndK l k).tg, .slice (pa k) (ndK l k).at_.length (ca k), .slice (pt k) (ndK l k).tx.length (ct k)] 60)
      have HN1 := Hid.mk' N1
      have RN := Hid.mk' (row4 wr 60 (.int .i64 (ndK l k).up) (.string (ndK l k).tg) (.slice (pa k) (ndK l k).at_.length (ca k)) (.slice (pt k) (ndK l k).tx.length (ct k)))
      have IA := Hid.mk' (hIA.below N1)
      have HT1 := Hid.mk' (HT.out.below N1)
      have AA1 := Hid.mk' (AA.out.below N1)
      obtain ⟨p9, n9, c9, hV⟩ := mkV_slice (ndK l k) l pa ca k
      have KM : Hid (∀ w', Calls Try.prog 30 #[.agg #[.int .i64 (ndK l k).up, .string (ndK l k).tg, .slice (pa k) (ndK l k).at_.length (ca k), .slice (pt k) (ndK l k).tx.length (ct k)]] w' fun e w'' => e = .returned (.agg #[.int .i64 (mkK (ndK l k)), .string (mkS (ndK l k)), .slice p9 n9 c9]) ∧ Below w'.heap.size w' w'') := fun w' => by
        have := markOf_any (ndK l k) (pa k) (pt k) (ca k) (ct k) w'
        rw [show mkV (ndK l k) (.slice (pa k) (ndK l k).at_.length (ca k)) = .slice p9 n9 c9 from hV] at this
        exact this
      have HV := Hid.mk' hV
      clear hsz N1 hIA G q0 q1 q2 q3 q4 hV AA w1_ w3_ HT
      generalize hW : wr.alloc (.cells #[.int .i64 (ndK l k).up, .string (ndK l k).tg, .slice (pa k) (ndK l k).at_.length (ca k), .slice (pt k) (ndK l k).tx.length (ct k)] 60) = W at *
      go_wp2_with fail
      clear hW c0 c1 c2 c3
      have KI : Hid (∀ w', Below W.drew.heap.size W.drew w' → Calls Try.prog 31 #[.slice (some ⟨bw, 0, none⟩) (wayU (upF l) k).length cw, .int .i64 (ndK l k).up] w' fun e w'' => e = .returned (.int .i64 (ixI (wayU (upF l) k) (ndK l k).up)) ∧ w'' = w') := fun w' hb => indexI_any _ _ _ _ _ (IA.out.below (undrew hb)) (by omega)
      obtain ⟨r0, r1, r2, r3_, r4_⟩ := cells4 RN.out
      obtain ⟨t0, t1, t2⟩ := cells2 HT1.out.box
      have HWD : Hid (Below W.heap.size W W.drew) := Hid.mk' ((Below.refl _ _).drew)
      refine Code.wp_mono (Q := fun ex a' w' => ex = .normal ∧ ∃ x, W.heap.size ≤ x ∧ a' = ({ tmps := ((.slice (some ⟨b, o, none⟩) l.length c : Value) :: undef :: .pointer (some ⟨w.heap.size, 0, none⟩) :: u3 :: .pointer (some ⟨w.heap.size + 1 + 1, 0, none⟩) :: undef :: .pointer (some ⟨wr.heap.size, 0, none⟩) :: .pointer (some ⟨x, 0, none⟩) :: u8 :: .slice (some ⟨b, o, none⟩) l.length c :: .int .i64 (l.length : Int) :: .bool false :: undef :: .slice (some ⟨w.heap.size + 1, 0, none⟩) 1 1 :: .agg #[.slice none 0 0, .slice (some ⟨w.heap.size + 1, 0, none⟩) 1 1] :: .slice (some ⟨b, o, none⟩) l.length c :: .int .i64 (l.length : Int) :: .int .i64 (k : Int) :: .bool true :: .pointer (some ⟨b, o + k * 4, none⟩) :: .agg #[.int .i64 (ndK l k).up, .string (ndK l k).tg, .slice (pa k) (ndK l k).at_.length (ca k), .slice (pt k) (ndK l k).tx.length (ct k)] :: .agg #[.int .i64 (ndK l k).up, .string (ndK l k).tg, .slice (pa k) (ndK l k).at_.length (ca k), .slice (pt k) (ndK l k).tx.length (ct k)] :: .agg #[.int .i64 (mkK (ndK l k)), .string (mkS (ndK l k)), .slice p9 n9 c9] :: .pointer (some ⟨wr.heap.size, 0, none⟩) :: .int .i64 (ndK l k).up :: .pointer (some ⟨w.heap.size + 1 + 1, 1, none⟩) :: .slice (some ⟨bw, 0, none⟩) (wayU (upF l) k).length cw :: .pointer (some ⟨wr.heap.size, 0, none⟩) :: .int .i64 (ndK l k).up :: .int .i64 (ixI (wayU (upF l) k) (ndK l k).up) :: .agg #[.int .i64 (mkK (ndK l k)), .string (mkS (ndK l k)), .slice p9 n9 c9, .int .i64 (ndK l k).up, .int .i64 (ixI (wayU (upF l) k) (ndK l k).up)] :: u31 :: u32 :: u33 :: u34 :: u35 :: u36 :: u37 :: u38 :: u39 :: undef :: []).toArray, defers := [] } : Act) ∧ Below W.heap.size W w' ∧ w'.rowIs x 68 5 (r5 (.int .i64 (mkK (ndK l k))) (.string (mkS (ndK l k))) (.slice p9 n9 c9) (.int .i64 (ndK l k).up) (.int .i64 (ixI (wayU (upF l) k) (ndK l k).up)))) ?_ ?_
      rotate_left
      · refine wp_region_held_drew (S := fun w' => Below W.drew.heap.size W.drew w') (by kernel_rfl) (Below.refl _ _) (fun hHeld => ?_)
        have f0 : ∀ w', Below W.drew.heap.size W.drew w' → w'.cell? ⟨wr.heap.size, 0, none⟩ = some (.int .i64 (ndK l k).up) ∧ w'.cell? ⟨wr.heap.size, 1, none⟩ = some (.string (ndK l k).tg) ∧ w'.cell? ⟨wr.heap.size, 2, none⟩ = some (.slice (pa k) (ndK l k).at_.length (ca k)) ∧ w'.cell? ⟨wr.heap.size, 3, none⟩ = some (.slice (pt k) (ndK l k).tx.length (ct k)) ∧ w'.cell? ⟨w.heap.size + 1 + 1, 1, none⟩ = some (.slice (some ⟨bw, 0, none⟩) (wayU (upF l) k).length cw) := fun w' hb => ⟨((undrew hb).cell r4_).trans r0, ((undrew hb).cell r4_).trans r1, ((undrew hb).cell r4_).trans r2, ((undrew hb).cell r4_).trans r3_, ((undrew hb).cell t2).trans t1⟩
        have BC := Hid.mk' (Below.refl W.drew.heap.size W.drew)
        have F0 := Hid.mk' f0
        have SZ : Hid (W.drew.heap.size = W.heap.size) := Hid.mk' rfl
        clear f0 r0 r1 r2 r3_ t0 t1
        generalize hVd : W.drew = V at *
        clear hVd
        refine wpAnyH_take (i := 0) (oi := ⟨_, _, _, _, _, _⟩) (v := ?_) rfl (by kernel_rfl) (by kernel_rfl) (by kernel_rfl) (fun _ _ _ h => absurd h.1 (by simp)) (Or.inl ⟨by rfl, ?_⟩) (by assumption) ?_
        rotate_left
        · (intro w' hSw; obtain ⟨u0, u1, u2, u3, u4⟩ := F0.out w' hSw; (try dsimp only at hSw); go_simp; (try with_reducible rfl))
        try simp only [Act.put, List.setIfInBounds_toArray, List.set_cons_zero, List.set_cons_succ]
        refine wpAnyH_take (i := 2) (oi := ⟨_, _, _, _, _, _⟩) (v := ?_) rfl (by kernel_rfl) (by kernel_rfl) (by kernel_rfl) (fun _ _ _ h => absurd h.1 (by simp)) (Or.inl ⟨by rfl, ?_⟩) (by assumption) ?_
        rotate_left
        · (intro w' hSw; obtain ⟨u0, u1, u2, u3, u4⟩ := F0.out w' hSw; (try dsimp only at hSw); go_simp; (try with_reducible rfl))
        try simp only [Act.put, List.setIfInBounds_toArray, List.set_cons_zero, List.set_cons_succ]
        refine wpAnyH_take (i := 3) (oi := ⟨_, _, _, _, _, _⟩) (v := ?_) rfl (by kernel_rfl) (by kernel_rfl) (by kernel_rfl) (fun _ _ _ h => absurd h.1 (by simp)) (Or.inl ⟨by rfl, ?_⟩) (by assumption) ?_
        rotate_left
        · (intro w' hSw; obtain ⟨u0, u1, u2, u3, u4⟩ := F0.out w' hSw; (try dsimp only at hSw); go_simp; (try with_reducible rfl))
        try simp only [Act.put, List.setIfInBounds_toArray, List.set_cons_zero, List.set_cons_succ]
        refine wpAnyH_take (i := 4) (oi := ⟨_, _, _, _, _, _⟩) (v := ?_) rfl (by kernel_rfl) (by kernel_rfl) (by kernel_rfl) (fun _ _ _ h => absurd h.1 (by simp)) (Or.inl ⟨by rfl, ?_⟩) (by assumption) ?_
        rotate_left
        · (intro w' hSw; obtain ⟨u0, u1, u2, u3, u4⟩ := F0.out w' hSw; (try dsimp only at hSw); go_simp; (try with_reducible rfl))
        try simp only [Act.put, List.setIfInBounds_toArray, List.set_cons_zero, List.set_cons_succ]
        refine wpAnyH_take (i := 5) (oi := ⟨_, _, _, _, _, _⟩) (v := ?_) rfl (by kernel_rfl) (by kernel_rfl) (by kernel_rfl) (fun _ _ _ h => absurd h.1 (by simp)) (Or.inl ⟨by rfl, ?_⟩) (by assumption) ?_
        rotate_left
        · (intro w' hSw; obtain ⟨u0, u1, u2, u3, u4⟩ := F0.out w' hSw; (try dsimp only at hSw); go_simp; (try with_reducible rfl))
        try simp only [Act.put, List.setIfInBounds_toArray, List.set_cons_zero, List.set_cons_succ]
        refine wpAnyH_take (i := 6) (oi := ⟨_, _, _, _, _, _⟩) (v := ?_) rfl (by kernel_rfl) (by kernel_rfl) (by kernel_rfl) (fun _ _ _ h => absurd h.1 (by simp)) (Or.inl ⟨by rfl, ?_⟩) (by assumption) ?_
        rotate_left
        · (intro w' hSw; obtain ⟨u0, u1, u2, u3, u4⟩ := F0.out w' hSw; (try dsimp only at hSw); go_simp; (try with_reducible rfl))
        try simp only [Act.put, List.setIfInBounds_toArray, List.set_cons_zero, List.set_cons_succ]
        refine wpAnyH_take (i := 7) (oi := ⟨_, _, _, _, _, _⟩) (v := ?_) rfl (by kernel_rfl) (by kernel_rfl) (by kernel_rfl) (fun _ _ _ h => absurd h.1 (by simp)) (Or.inl ⟨by rfl, ?_⟩) (by assumption) ?_
        rotate_left
        · (intro w' hSw; obtain ⟨u0, u1, u2, u3, u4⟩ := F0.out w' hSw; (try dsimp only at hSw); go_simp; (try with_reducible rfl))
        try simp only [Act.put, List.setIfInBounds_toArray, List.set_cons_zero, List.set_cons_succ]
        refine wpAnyH_ready (rs := [1, 10]) (by kernel_rfl) (by simp) ?_
        refine AllReadyH.cons (o := ⟨_, _, _, _, _, _⟩) rfl (fun K hK => ?_) (AllReadyH.cons (o := ⟨_, _, _, _, _, _⟩) rfl (fun K hK => ?_) AllReadyH.nil)
        · go_simp
          go_at_call 30; refine (KM.out _).mono ?_; rintro e wm ⟨rfl, hb⟩; have BC := Hid.mk' (BC.out.trans (hb.mono BC.out.size))
          clear hb
          refine hK.out _ _ BC.out (fun hHeld => ?_)
          clear hK K
          try simp only [Act.put, List.setIfInBounds_toArray, List.set_cons_zero, List.set_cons_succ]
          refine wpAnyH_ready (rs := [8, 10]) (by kernel_rfl) (by simp) ?_
          refine AllReadyH.cons (o := ⟨_, _, _, _, _, _⟩) rfl (fun K hK => ?_) (AllReadyH.cons (o := ⟨_, _, _, _, _, _⟩) rfl (fun K hK => ?_) AllReadyH.nil)
          · go_simp
            go_at_call 31; refine (KI.out _ BC.out).mono ?_; rintro e wi ⟨rfl, hw9⟩; obtain rfl := hw9.symm
            refine hK.out _ _ BC.out (fun hHeld => ?_)
            clear hK K
            try simp only [Act.put, List.setIfInBounds_toArray, List.set_cons_zero, List.set_cons_succ]
            refine wpAnyH_take (i := 9) (oi := ⟨_, _, _, _, _, _⟩) (v := ?_) rfl (by kernel_rfl) (by kernel_rfl) (by kernel_rfl) (fun _ _ _ h => absurd h.1 (by simp)) (Or.inl ⟨by rfl, ?_⟩) (by assumption) ?_
            rotate_left
            · (intro w hSw; (try dsimp only at hSw); go_simp; (try with_reducible rfl))
            try simp only [Act.put, List.setIfInBounds_toArray, List.set_cons_zero, List.set_cons_succ]
            refine wpAnyH_ready (rs := [10]) (by kernel_rfl) (by simp) ?_
            refine AllReadyH.cons (o := ⟨_, _, _, _, _, _⟩) rfl (fun K hK => ?_) AllReadyH.nil
            · go_simp
              have BC := Hid.mk' (BC.out.alloc BC.out.size (.cells #[.int .i64 0, .string ⟨#[]⟩, .slice none 0 0, .int .i64 0, .int .i64 0] 68))
              have RX := Hid.mk' (row5 wm 68 (.int .i64 0) (.string ⟨#[]⟩) (.slice none 0 0) (.int .i64 0) (.int .i64 0))
              have XL : Hid (W.heap.size ≤ wm.heap.size) := Hid.mk' (SZ.out ▸ hHeld.size)
              generalize hwa : wm.alloc (.cells #[.int .i64 0, .string ⟨#[]⟩, .slice none 0 0, .int .i64 0, .int .i64 0] 68) = wa at *
              refine hK.out _ _ BC.out (fun hHeld => ?_)
              clear hK K
              try simp only [Act.put, List.setIfInBounds_toArray, List.set_cons_zero, List.set_cons_succ]
              generalize hx : wm.heap.size = x at *
              obtain ⟨s0, s1, s2, s3, s4, s5⟩ := cells5 RX.out
              have g0 := RX.out.frozen 0
              have g1 := RX.out.frozen 1
              have g2 := RX.out.frozen 2
              have g3 := RX.out.frozen 3
              have g4 := RX.out.frozen 4
              have XG : V.heap.size ≤ x := by have := XL.out; have := SZ.out; omega
              refine wpAnyH_ready (rs := [11]) (by kernel_rfl) (by simp) ?_
              refine AllReadyH.cons (o := ⟨_, _, _, _, _, _⟩) rfl (fun K hK => ?_) AllReadyH.nil
              go_simp
              have B9 := (((((BC.out.setCell (p := ⟨x, 0, none⟩) XG (.int .i64 (mkK (ndK l k)))).setCell (p := ⟨x, 1, none⟩) XG (.string (mkS (ndK l k)))).setCell (p := ⟨x, 2, none⟩) XG (.slice p9 n9 c9)).setCell (p := ⟨x, 3, none⟩) XG (.int .i64 (ndK l k).up)).setCell (p := ⟨x, 4, none⟩) XG (.int .i64 (ixI (wayU (upF l) k) (ndK l k).up)))
              have R9 := (((((RX.out.set 0 (.int .i64 (mkK (ndK l k)))).set 1 (.string (mkS (ndK l k)))).set 2 (.slice p9 n9 c9)).set 3 (.int .i64 (ndK l k).up)).set 4 (.int .i64 (ixI (wayU (upF l) k) (ndK l k).up))).congr (g := r5 (.int .i64 (mkK (ndK l k))) (.string (mkS (ndK l k))) (.slice p9 n9 c9) (.int .i64 (ndK l k).up) (.int .i64 (ixI (wayU (upF l) k) (ndK l k).up))) (fun i hi => by have h5 : i = 0 ∨ i = 1 ∨ i = 2 ∨ i = 3 ∨ i = 4 := (by omega); rcases h5 with rfl | rfl | rfl | rfl | rfl <;> rfl)
              refine hK.out _ _ B9 (fun hHeld => ?_)
              clear hK K
              try simp only [Act.put, List.setIfInBounds_toArray, List.set_cons_zero, List.set_cons_succ]
              refine wpAnyH_done (by kernel_rfl) ?_ _
              exact ⟨rfl, x, XL.out, rfl, HWD.out.trans (B9.mono (by have := SZ.out; omega)), R9⟩
          · go_simp
            have BC := Hid.mk' (BC.out.alloc BC.out.size (.cells #[.int .i64 0, .string ⟨#[]⟩, .slice none 0 0, .int .i64 0, .int .i64 0] 68))
            have RX := Hid.mk' (row5 wm 68 (.int .i64 0) (.string ⟨#[]⟩) (.slice none 0 0) (.int .i64 0) (.int .i64 0))
            have XL : Hid (W.heap.size ≤ wm.heap.size) := Hid.mk' (SZ.out ▸ hHeld.size)
            generalize hwa : wm.alloc (.cells #[.int .i64 0, .string ⟨#[]⟩, .slice none 0 0, .int .i64 0, .int .i64 0] 68) = wa at *
            refine hK.out _ _ BC.out (fun hHeld => ?_)
            clear hK K
            try simp only [Act.put, List.setIfInBounds_toArray, List.set_cons_zero, List.set_cons_succ]
            refine wpAnyH_ready (rs := [8]) (by kernel_rfl) (by simp) ?_
            refine AllReadyH.cons (o := ⟨_, _, _, _, _, _⟩) rfl (fun K hK => ?_) AllReadyH.nil
            · go_simp
              go_at_call 31; refine (KI.out _ BC.out).mono ?_; rintro e wi ⟨rfl, hw9⟩; obtain rfl := hw9.symm
              refine hK.out _ _ BC.out (fun hHeld => ?_)
              clear hK K
              try simp only [Act.put, List.setIfInBounds_toArray, List.set_cons_zero, List.set_cons_succ]
              refine wpAnyH_take (i := 9) (oi := ⟨_, _, _, _, _, _⟩) (v := ?_) rfl (by kernel_rfl) (by kernel_rfl) (by kernel_rfl) (fun _ _ _ h => absurd h.1 (by simp)) (Or.inl ⟨by rfl, ?_⟩) (by assumption) ?_
              rotate_left
              · (intro w hSw; (try dsimp only at hSw); go_simp; (try with_reducible rfl))
              try simp only [Act.put, List.setIfInBounds_toArray, List.set_cons_zero, List.set_cons_succ]
              generalize hx : wm.heap.size = x at *
              obtain ⟨s0, s1, s2, s3, s4, s5⟩ := cells5 RX.out
              have g0 := RX.out.frozen 0
              have g1 := RX.out.frozen 1
              have g2 := RX.out.frozen 2
              have g3 := RX.out.frozen 3
              have g4 := RX.out.frozen 4
              have XG : V.heap.size ≤ x := by have := XL.out; have := SZ.out; omega
              refine wpAnyH_ready (rs := [11]) (by kernel_rfl) (by simp) ?_
              refine AllReadyH.cons (o := ⟨_, _, _, _, _, _⟩) rfl (fun K hK => ?_) AllReadyH.nil
              go_simp
              have B9 := (((((BC.out.setCell (p := ⟨x, 0, none⟩) XG (.int .i64 (mkK (ndK l k)))).setCell (p := ⟨x, 1, none⟩) XG (.string (mkS (ndK l k)))).setCell (p := ⟨x, 2, none⟩) XG (.slice p9 n9 c9)).setCell (p := ⟨x, 3, none⟩) XG (.int .i64 (ndK l k).up)).setCell (p := ⟨x, 4, none⟩) XG (.int .i64 (ixI (wayU (upF l) k) (ndK l k).up)))
              have R9 := (((((RX.out.set 0 (.int .i64 (mkK (ndK l k)))).set 1 (.string (mkS (ndK l k)))).set 2 (.slice p9 n9 c9)).set 3 (.int .i64 (ndK l k).up)).set 4 (.int .i64 (ixI (wayU (upF l) k) (ndK l k).up))).congr (g := r5 (.int .i64 (mkK (ndK l k))) (.string (mkS (ndK l k))) (.slice p9 n9 c9) (.int .i64 (ndK l k).up) (.int .i64 (ixI (wayU (upF l) k) (ndK l k).up))) (fun i hi => by have h5 : i = 0 ∨ i = 1 ∨ i = 2 ∨ i = 3 ∨ i = 4 := (by omega); rcases h5 with rfl | rfl | rfl | rfl | rfl <;> rfl)
              refine hK.out _ _ B9 (fun hHeld => ?_)
              clear hK K
              try simp only [Act.put, List.setIfInBounds_toArray, List.set_cons_zero, List.set_cons_succ]
              refine wpAnyH_done (by kernel_rfl) ?_ _
              exact ⟨rfl, x, XL.out, rfl, HWD.out.trans (B9.mono (by have := SZ.out; omega)), R9⟩
        · go_simp
          have BC := Hid.mk' (BC.out.alloc BC.out.size (.cells #[.int .i64 0, .string ⟨#[]⟩, .slice none 0 0, .int .i64 0, .int .i64 0] 68))
          have RX := Hid.mk' (row5 V 68 (.int .i64 0) (.string ⟨#[]⟩) (.slice none 0 0) (.int .i64 0) (.int .i64 0))
          have XL : Hid (W.heap.size ≤ V.heap.size) := Hid.mk' (SZ.out ▸ hHeld.size)
          generalize hwa : V.alloc (.cells #[.int .i64 0, .string ⟨#[]⟩, .slice none 0 0, .int .i64 0, .int .i64 0] 68) = wa at *
          refine hK.out _ _ BC.out (fun hHeld => ?_)
          clear hK K
          try simp only [Act.put, List.setIfInBounds_toArray, List.set_cons_zero, List.set_cons_succ]
          refine wpAnyH_ready (rs := [1]) (by kernel_rfl) (by simp) ?_
          refine AllReadyH.cons (o := ⟨_, _, _, _, _, _⟩) rfl (fun K hK => ?_) AllReadyH.nil
          · go_simp
            go_at_call 30; refine (KM.out _).mono ?_; rintro e wm ⟨rfl, hb⟩; have BC := Hid.mk' (BC.out.trans (hb.mono BC.out.size))
            have RX := Hid.mk' (rowB RX.out hb)
            clear hb
            refine hK.out _ _ BC.out (fun hHeld => ?_)
            clear hK K
            try simp only [Act.put, List.setIfInBounds_toArray, List.set_cons_zero, List.set_cons_succ]
            refine wpAnyH_ready (rs := [8]) (by kernel_rfl) (by simp) ?_
            refine AllReadyH.cons (o := ⟨_, _, _, _, _, _⟩) rfl (fun K hK => ?_) AllReadyH.nil
            · go_simp
              go_at_call 31; refine (KI.out _ BC.out).mono ?_; rintro e wi ⟨rfl, hw9⟩; obtain rfl := hw9.symm
              refine hK.out _ _ BC.out (fun hHeld => ?_)
              clear hK K
              try simp only [Act.put, List.setIfInBounds_toArray, List.set_cons_zero, List.set_cons_succ]
              refine wpAnyH_take (i := 9) (oi := ⟨_, _, _, _, _, _⟩) (v := ?_) rfl (by kernel_rfl) (by kernel_rfl) (by kernel_rfl) (fun _ _ _ h => absurd h.1 (by simp)) (Or.inl ⟨by rfl, ?_⟩) (by assumption) ?_
              rotate_left
              · (intro w hSw; (try dsimp only at hSw); go_simp; (try with_reducible rfl))
              try simp only [Act.put, List.setIfInBounds_toArray, List.set_cons_zero, List.set_cons_succ]
              obtain ⟨s0, s1, s2, s3, s4, s5⟩ := cells5 RX.out
              have g0 := RX.out.frozen 0
              have g1 := RX.out.frozen 1
              have g2 := RX.out.frozen 2
              have g3 := RX.out.frozen 3
              have g4 := RX.out.frozen 4
              have XG : V.heap.size ≤ V.heap.size := by have := XL.out; have := SZ.out; omega
              refine wpAnyH_ready (rs := [11]) (by kernel_rfl) (by simp) ?_
              refine AllReadyH.cons (o := ⟨_, _, _, _, _, _⟩) rfl (fun K hK => ?_) AllReadyH.nil
              go_simp
              have B9 := (((((BC.out.setCell (p := ⟨V.heap.size, 0, none⟩) XG (.int .i64 (mkK (ndK l k)))).setCell (p := ⟨V.heap.size, 1, none⟩) XG (.string (mkS (ndK l k)))).setCell (p := ⟨V.heap.size, 2, none⟩) XG (.slice p9 n9 c9)).setCell (p := ⟨V.heap.size, 3, none⟩) XG (.int .i64 (ndK l k).up)).setCell (p := ⟨V.heap.size, 4, none⟩) XG (.int .i64 (ixI (wayU (upF l) k) (ndK l k).up)))
              have R9 := (((((RX.out.set 0 (.int .i64 (mkK (ndK l k)))).set 1 (.string (mkS (ndK l k)))).set 2 (.slice p9 n9 c9)).set 3 (.int .i64 (ndK l k).up)).set 4 (.int .i64 (ixI (wayU (upF l) k) (ndK l k).up))).congr (g := r5 (.int .i64 (mkK (ndK l k))) (.string (mkS (ndK l k))) (.slice p9 n9 c9) (.int .i64 (ndK l k).up) (.int .i64 (ixI (wayU (upF l) k) (ndK l k).up))) (fun i hi => by have h5 : i = 0 ∨ i = 1 ∨ i = 2 ∨ i = 3 ∨ i = 4 := (by omega); rcases h5 with rfl | rfl | rfl | rfl | rfl <;> rfl)
              refine hK.out _ _ B9 (fun hHeld => ?_)
              clear hK K
              try simp only [Act.put, List.setIfInBounds_toArray, List.set_cons_zero, List.set_cons_succ]
              refine wpAnyH_done (by kernel_rfl) ?_ _
              exact ⟨rfl, V.heap.size, XL.out, rfl, HWD.out.trans (B9.mono (by have := SZ.out; omega)), R9⟩
      · intro ex a' w' hR
        obtain ⟨rfl, x, hx, rfl, hb, hrow⟩ := hR
        have HT2 := Hid.mk' (HT1.out.below hb)
        have HX := Hid.mk' hrow
        have HL : Hid ((l.length : Int) + nssz l ≤ 1048576) := Hid.mk' hl
        have KF := faultNext_any W0 (w.heap.size + 1) (w.heap.size + 1 + 1) l pa ca k vn (.slice (some ⟨bw, 0, none⟩) (wayU (upF l) k).length cw) (pa k) (ca k) w' HT2.out hlt hle HZ.out (AA1.out.below hb) hl
        rw [show mkV (ndK l k) (.slice (pa k) (ndK l k).at_.length (ca k)) = .slice p9 n9 c9 from HV.out] at KF
        have KF := Hid.mk' KF
        obtain ⟨s0, s1, s2, s3, s4, s5⟩ := cells5 hrow
        have RR := Hid.mk' (HR0.out.of_block (HT2.out.bl.block _ (by omega)))
        clear hb hrow KM KI IA RN HN1 r4_ t2 HWD HT1 AA1 bl0 hl
        by_cases h0 : oneF l k = 0
        · rw [h0] at KF
          have hd := oneF_dep h0
          have ei : ixI (wayU (upF l) k) (ndK l k).up = (depU (upF l) k : Int) := by unfold ixI; exact if_pos hd
          have H0 := Hid.mk' h0
          have KP : Hid (∀ w', TT W0 (w.heap.size + 1) (w.heap.size + 1 + 1) l pa ca k vn (.slice (some ⟨bw, 0, none⟩) (wayU (upF l) k).length cw) w' → Calls Try.prog 33 #[.pointer (some ⟨w.heap.size + 1 + 1, 0, none⟩), .agg #[.int .i64 (mkK (ndK l k)), .string (mkS (ndK l k)), .slice p9 n9 c9, .int .i64 (ndK l k).up, .int .i64 (ixI (wayU (upF l) k) (ndK l k).up)]] w' fun e w'' => (∃ v, e = .returned v) ∧ ∃ vn' vw', TT W0 (w.heap.size + 1) (w.heap.size + 1 + 1) l pa ca (k + 1) vn' vw' w'') := fun w' ht => by
            have := put_any W0 (w.heap.size + 1) (w.heap.size + 1 + 1) l pa ca k vn (.slice (some ⟨bw, 0, none⟩) (wayU (upF l) k).length cw) w' ht (by omega) hd gle
            rw [HV.out] at this
            rw [ei]
            exact this
          clear h0 ei hd
          generalize ixI (wayU (upF l) k) (ndK l k).up = dI at *
          go_wp2_with fail
          refine KF.out.mono ?_
          rintro e w2 ⟨rfl, hb2⟩
          have HT3 := Hid.mk' (HT2.out.below hb2)
          obtain ⟨v0, v1, v2, v3, v4, v5⟩ := cells5 (rowB HX.out hb2)
          clear hb2 KF HT2 s0 s1 s2 s3 s4 s5
          go_wp2_with fail
          refine (KP.out _ HT3.out).mono ?_
          rintro e w3 ⟨⟨vv, rfl⟩, vn', vw', hT'⟩
          have HT4 := Hid.mk' hT'
          clear hT' KP HT3
          go_wp2
          go_roundw
          case rel => exact ⟨k + 1, by omega, by go_num, fun j hj => by
            by_cases h : j = k
            · subst h; exact H0.out
            · exact HZ.out j (by omega), vn', vw', HT4.out⟩
          case measure => simp [intOf]; omega
        · have E : Hid (treeF l = oneF l k) := Hid.mk' (treeF_hit (by omega) hlt HZ.out rfl h0)
          generalize hf : oneF l k = f at *
          go_wp2_with fail
          refine KF.out.mono ?_
          rintro e w2 ⟨rfl, hb2⟩
          have HB2 : Hid (Below w.heap.size w w2) := Hid.mk' ((HB0.out.trans (HT2.out.bl.mono (by omega))).trans (hb2.mono (by have := HT2.out.sz; omega)))
          have RS := rowB RR.out hb2
          obtain ⟨v0, v1, v2⟩ := cells2 RS
          have g0 := RS.frozen 0
          have g1 := RS.frozen 1
          clear hb2 KF RS HT2
          go_wp2
          refine bodyPost_ret (v := .tuple #[.agg #[.slice none 0 0, .slice none 0 0], .int .i64 f]) (by simp [results, Try.results17, go_sem, *]) rfl ?_
          refine .inl ⟨by rw [E.out]; exact h0, by rw [E.out], ?_⟩
          exact (HB2.out.setCell (p := ⟨w.heap.size, 0, none⟩) (Nat.le_refl _) _).setCell (p := ⟨w.heap.size, 1, none⟩) (Nat.le_refl _) _
    · have ci : ¬ (k : Int) < (l.length : Int) := by omega
      have e : k = l.length := by omega
      subst e
      have E : Hid (treeF l = 0) := Hid.mk' (treeF_none (by omega) HZ.out)
      obtain ⟨an, cn, ev, _⟩ := own_len HT.out.on
      subst ev
      obtain ⟨aw, cw, ev, _⟩ := own_len HT.out.ow
      subst ev
      obtain ⟨b0, b1, b2⟩ := cells2 HT.out.box
      have RS := HR0.out.of_block (HT.out.bl.block _ (by omega))
      obtain ⟨v0, v1, v2⟩ := cells2 RS
      have g0 := RS.frozen 0
      have g1 := RS.frozen 1
      have F1 := Hid.mk' (HT.out.fin (u := .slice an l.length cn) (u' := .slice aw (wayU (upF l) l.length).length cw) HB0.out)
      clear RS
      go_wp2
      refine bodyPost_ret (v := .tuple #[.agg #[.slice an l.length cn, .slice aw (wayU (upF l) l.length).length cw], .int .i64 0]) (by simp [results, Try.results17, go_sem, *]) rfl ?_
      exact .inr ⟨E.out, pa, ca, _, _, _, rfl, F1.out⟩

end Go.Proofs.Ytpncbcmngfpkfaa

/- Both sides' TreeFault, and the law on it. -/
namespace Go.Proofs.Ytpncbcmngfpkfaa
open Go.RowKit
set_option linter.unusedVariables false
set_option linter.unusedSimpArgs false

set_option maxHeartbeats 1600000 in
theorem l6Fault_any (a : Option Addr) (c : Nat) (l : List ND) (w : World) (ha : NsAt w a l) (hl : (l.length : Int) + nssz l ≤ 1048576) :
    Calls Try.prog 25 #[.slice a l.length c] w fun e w' => e = .returned (.int .i64 (treeF l)) ∧ Below w.heap.size w w' := by
  by_cases h60 : (l.length : Int) > 60
  · have E : Hid (treeF l = 2) := Hid.mk' (by unfold treeF; rw [if_pos (by omega)])
    go_enter Try.func25, Try.ntmps25
    go_wp2
    go_ret
    exact ⟨by rw [E.out]; rfl, Below.refl _ _⟩
  have HA := Hid.mk' ha
  clear ha
  go_enter Try.func25, Try.ntmps25
  go_wp2
  go_loopw [3] (fun i wr => ∃ k : Nat, k ≤ l.length ∧ i = .int .i64 k ∧ (∀ j, j < k → oneF l j = 0) ∧ Below w.heap.size w wr) (fun i _ => l.length - (intOf i).toNat)
  case atStart => exact ⟨0, Nat.zero_le _, rfl, fun j h => absurd h (Nat.not_lt_zero _), Below.refl _ _⟩
  case round =>
    obtain ⟨k, hk, rfl, hz, hbl⟩ := hrel
    have HZ := Hid.mk' hz
    have HB := Hid.mk' hbl
    by_cases hlt : k < l.length
    · have ci : (k : Int) < (l.length : Int) := by omega
      have KO := l6One_any a c l k wr (HA.out.below hbl) hlt (ways_of hz) hl
      clear hz hbl
      by_cases h0 : oneF l k = 0
      · have H0 := Hid.mk' h0
        rw [h0] at KO
        have KO := Hid.mk' KO
        clear h0
        go_wp2_with fail
        refine KO.out.mono ?_
        rintro e w1 ⟨rfl, hb⟩
        have HB := Hid.mk' (HB.out.trans (hb.mono HB.out.size))
        clear hb KO
        go_wp2
        go_roundw
        case rel => exact ⟨k + 1, by omega, by go_num, fun j hj => by
          by_cases h : j = k
          · subst h; exact H0.out
          · exact HZ.out j (by omega), HB.out⟩
        case measure => simp [intOf]; omega
      · have E : Hid (treeF l = oneF l k) := Hid.mk' (treeF_hit (by omega) hlt HZ.out rfl h0)
        have KO := Hid.mk' KO
        generalize hf : oneF l k = f at *
        go_wp2_with fail
        refine KO.out.mono ?_
        rintro e w1 ⟨rfl, hb⟩
        have HB := Hid.mk' (HB.out.trans (hb.mono HB.out.size))
        clear hb KO
        go_wp2
        go_ret
        exact ⟨by rw [E.out]; rfl, HB.out⟩
    · have ci : ¬ (k : Int) < (l.length : Int) := by omega
      have e : k = l.length := by omega
      subst e
      have E : Hid (treeF l = 0) := Hid.mk' (treeF_none (by omega) HZ.out)
      clear hz hbl
      go_wp2
      go_ret
      exact ⟨by rw [E.out]; rfl, HB.out⟩

end Go.Proofs.Ytpncbcmngfpkfaa

/- Places of a tree: both sides' DepthOf. -/
namespace Go.Proofs.Ytpncbcmngfpkfaa
open Go.RowKit
set_option linter.unusedVariables false
set_option linter.unusedSimpArgs false

/-- What DepthOf tells. -/
def depR (l : List ND) (x : Int) : Int := if askF l x = 0 then (depU (upF l) x.toNat : Int) else 0

/-- What EndOf tells. -/
def endR (l : List ND) (x : Int) : Int := if askF l x = 0 then (endN l x.toNat : Int) else 0

/-- A tree in another box. -/
theorem TT.rebox {w0 w w' : World} {base g h : Nat} {l : List ND} {pa : Nat → Option Addr} {ca : Nat → Nat} {k : Nat} {vn vw : Value} (t : TT w0 base g l pa ca k vn vw w) (hb : Below w.heap.size w w') (hh : w.heap.size ≤ h) (hr : w'.rowIs h 43 2 (p2 vn vw)) : TT w0 base h l pa ca k vn vw w' := by
  have h1 := t.below hb
  exact ⟨hr, h1.on, h1.ow, h1.ap, fun e => by have := (t.on.lt _ e).2; omega, fun e => by have := (t.ow.lt _ e).2; omega, h1.bl, h1.sz, by have := t.sz; omega⟩

theorem ask_cases (l : List ND) (x : Int) : (¬ treeF l = 0 ∧ askF l x = treeF l) ∨ (treeF l = 0 ∧ ¬ (0 ≤ x ∧ x < (l.length : Int)) ∧ askF l x = 3) ∨ (treeF l = 0 ∧ askF l x = 0 ∧ ∃ m : Nat, x = (m : Int) ∧ m < l.length) := by
  unfold askF
  by_cases h : treeF l = 0
  · by_cases h2 : 0 ≤ x ∧ x < (l.length : Int)
    · exact .inr (.inr ⟨h, by rw [if_pos h, if_pos h2], x.toNat, by omega, by omega⟩)
    · exact .inr (.inl ⟨h, h2, by rw [if_pos h, if_neg h2]⟩)
  · exact .inl ⟨h, by rw [if_neg h]⟩

set_option maxHeartbeats 1600000 in
theorem hasPlace_any (g : Nat) (an : Option Addr) (n cn : Nat) (x : Int) (w : World) (h : w.cell? ⟨g, 0, none⟩ = some (.slice an n cn)) :
    Calls Try.prog 34 #[.pointer (some ⟨g, 0, none⟩), .int .i64 x] w fun e w' => e = .returned (.bool (decide (x ≥ 0) && decide (x < (n : Int)))) ∧ w' = w := by
  by_cases h1 : x ≥ 0
  · by_cases h2 : x < (n : Int)
    all_goals
      go_enter Try.func34, Try.ntmps34
      go_wp2_with go_big_skip
      go_ret
      exact ⟨by simp [h1, h2], rfl⟩
  · go_enter Try.func34, Try.ntmps34
    go_wp2_with go_big_skip
    go_ret
    exact ⟨by simp; omega, rfl⟩

end Go.Proofs.Ytpncbcmngfpkfaa

/- Lists of numbers: compared, marked, held. -/
namespace Go.Proofs.Ytpncbcmngfpkfaa
open Go.RowKit
set_option linter.unusedVariables false
set_option linter.unusedSimpArgs false

/-- Numbers in a row of one's own (or none, in none). -/
def OI (w : World) (v : Value) (l : List Int) : Prop := (v = .slice none 0 0 ∧ l = []) ∨
  ∃ g cap cn f, v = .slice (some ⟨g, 0, none⟩) l.length cap ∧ w.rowIs g 2 cn f ∧ l.length ≤ cn ∧ ∀ i, i < l.length → f i = .int .i64 (wv l i)

theorem OI.keep {w w' : World} {v : Value} {l : List Int} (h : OI w v l) (hk : ∀ k, v.ownBlock = some k → k < w.heap.size → w'.heap[k]? = w.heap[k]?) : OI w' v l := by
  rcases h with h | ⟨g, cap, cn, f, rfl, hr, hl, hf⟩
  · exact .inl h
  · exact .inr ⟨g, cap, cn, f, rfl, hr.of_block (hk g rfl hr.lt), hl, hf⟩

theorem OI.below {w w' : World} {v : Value} {l : List Int} (h : OI w v l) (hb : Below w.heap.size w w') : OI w' v l := h.keep fun k _ hl => hb.block k hl

theorem OI.lt {w : World} {v : Value} {l : List Int} (h : OI w v l) : ∀ k, v.ownBlock = some k → k < w.heap.size := by
  rcases h with ⟨rfl, _⟩ | ⟨g, cap, cn, f, rfl, hr, _, _⟩
  · intro k e; simp [Value.ownBlock] at e
  · intro k e; simp [Value.ownBlock] at e; subst e; exact hr.lt

theorem OI.len {w : World} {v : Value} {l : List Int} (h : OI w v l) : ∃ a c, v = .slice a l.length c ∧ IAt w a l := by
  rcases h with ⟨rfl, rfl⟩ | ⟨g, cap, cn, f, rfl, hr, hl, hf⟩
  · exact ⟨none, 0, rfl, .inl rfl⟩
  · exact ⟨_, _, rfl, .inr ⟨g, 0, rfl, hr.lt, fun k hk => by rw [Nat.zero_add, hr.cell (by omega), hf k hk]⟩⟩

theorem OI.of_own {w : World} {base : Nat} {v : Value} {l : List Int} (h : w.ownsRow base 2 1 v l.length (ics l)) : OI w v l := by
  obtain ⟨_, h | ⟨g, cap, cur, rfl, hb, hg, hn, hm, hs, ht⟩⟩ := h
  · obtain ⟨rfl, h0⟩ := h
    exact .inl ⟨rfl, List.eq_nil_of_length_eq_zero h0⟩
  · refine .inr ⟨g, cap, cap, fun i => cur.toList.getD i undef, rfl, ⟨cur, hg, by omega, fun i hi => ?_⟩, hn, fun i hi => ?_⟩
    · have : i < cur.size := by omega
      simp [this]
    · have e := ics_get l i hi
      rw [← ht, List.getElem?_take, if_pos (by omega)] at e
      simp only [List.getD_eq_getElem?_getD, e, Option.getD_some]

set_option maxHeartbeats 1600000 in
theorem eqInt64S_any (a b : Option Addr) (c d : Nat) (l : List Int) (w : World) (ha : IAt w a l) (hb : IAt w b l) (hl : (l.length : Int) ≤ 1048576) :
    Calls Try.prog 20 #[.slice a l.length c, .slice b l.length d] w fun e w' => e = .returned (.bool true) ∧ Below w.heap.size w w' := by
  have HA := Hid.mk' ha
  have HB := Hid.mk' hb
  clear ha hb
  go_enter Try.func20, Try.ntmps20
  go_wp2
  go_loopw [5] (fun i wr => ∃ k : Nat, k ≤ l.length ∧ i = .int .i64 k ∧ Below w.heap.size w wr) (fun i _ => l.length - (intOf i).toNat)
  case atStart => exact ⟨0, Nat.zero_le _, rfl, Below.refl _ _⟩
  case round =>
    obtain ⟨k, hk, rfl, hbl⟩ := hrel
    by_cases hlt : k < l.length
    · have ci : (k : Int) < (l.length : Int) := by omega
      rcases HA.out.below hbl with ha | ⟨b1, o1, rfl, s1, hc1⟩
      · exact absurd hlt (by rw [ha]; exact Nat.not_lt_zero _)
      rcases HB.out.below hbl with hb | ⟨b2, o2, rfl, s2, hc2⟩
      · exact absurd hlt (by rw [hb]; exact Nat.not_lt_zero _)
      have h1 := hc1 k hlt
      have h2 := hc2 k hlt
      have R2 := Hid.mk' hbl
      clear hbl hc1 hc2
      go_wp2
      go_quiet (fail)
      go_wp2
      go_roundw
      case rel => exact ⟨k + 1, by omega, by go_num, below_drewN R2.out _⟩
      case measure => simp [intOf]; omega
    · have ci : ¬ (k : Int) < (l.length : Int) := by omega
      go_wp2
      go_ret
      exact ⟨rfl, hbl⟩

/-- The marks that n numbers get. -/
def mi (n : Nat) : List Int := (List.range n).map fun (i : Nat) => (1 : Int) + (i : Int)
theorem mi_len (n : Nat) : (mi n).length = n := by simp [mi]
theorem wv_mi {n i : Nat} (h : i < n) : wv (mi n) i = 1 + (i : Int) := by simp [wv, mi, h]

/-- The kids of x among the first n. -/
def kidsU (u : Nat → Int) (x : Int) : Nat → List Int
  | 0 => []
  | k + 1 => kidsU u x k ++ (if u k = x then [(k : Int)] else [])

theorem kidsU_len (u : Nat → Int) (x : Int) : ∀ k, (kidsU u x k).length ≤ k
  | 0 => Nat.le_refl _
  | k + 1 => by
    have := kidsU_len u x k
    unfold kidsU
    split <;> simp <;> omega

/-- What KidsOf tells: the code, and the list. -/
def kidC (l : List ND) (x : Int) : Int := if treeF l = 0 then (if -1 ≤ x ∧ x < (l.length : Int) then 0 else 3) else treeF l
def kidL (l : List ND) (x : Int) : List Int := if kidC l x = 0 then kidsU (upF l) x l.length else []

theorem kidL_len (l : List ND) (x : Int) (h : l.length ≤ 60 ∨ ¬ kidC l x = 0) : (kidL l x).length ≤ 60 := by
  unfold kidL
  split
  · have := kidsU_len (upF l) x l.length
    rcases h with h | h
    · omega
    · contradiction
  · simp

theorem kidC_len {l : List ND} {x : Int} (h : kidC l x = 0) : l.length ≤ 60 := by
  unfold kidC at h
  by_cases e : treeF l = 0
  · exact treeF_len e
  · rw [if_neg e] at h; exact absurd h e

theorem kidL_small (l : List ND) (x : Int) : (kidL l x).length ≤ 60 := by
  by_cases h : kidC l x = 0
  · exact kidL_len l x (.inl (kidC_len h))
  · exact kidL_len l x (.inr h)

end Go.Proofs.Ytpncbcmngfpkfaa

/- States of a builder in memory: measured, copied, told to be the same. -/
namespace Go.Proofs.Ytpncbcmngfpkfaa
open Go.RowKit
set_option linter.unusedVariables false
set_option linter.unusedSimpArgs false

/-- A state: nodes, what is open, whether it is too large. -/
structure BS where
  nd : List ND
  op : List Int
  lg : Bool

/-- Nodes of one's own at g, just as they are; hi: behind all their rows. -/
def NX (g hi : Nat) (l : List ND) (w : World) : Prop := ∃ (f : Nat → Value) (s : Nat → Nat), w.rowIs g 60 (l.length * 4) f ∧ g < s 0 ∧ s l.length = hi ∧ hi ≤ w.heap.size ∧ (∀ j, j < l.length → s j ≤ s (j + 1)) ∧ ∀ j, j < l.length → NO (s j) (s (j + 1)) (ndK l j) f j w

theorem NR.nx {w wr : World} {l : List ND} (h : NR w l l.length wr) : ∃ hi, NX w.heap.size hi l wr := by
  obtain ⟨f, s, hf, h0, h1, h2, hj⟩ := h.row
  exact ⟨s l.length, f, s, hf, h0, rfl, h1, h2, hj⟩

theorem NX.nm {g hi : Nat} {l : List ND} {w : World} (h : NX g hi l w) : NM g hi l w := by
  obtain ⟨f, s, hf, h0, h1, h2, h3, hj⟩ := h
  refine ⟨f, s, hf, h0, h1, h2, h3, fun j hl => ?_⟩
  obtain ⟨e1, e2, g', b, e3, e4, h5, h6, h7, h8⟩ := hj j hl
  exact ⟨⟨_, e1⟩, ⟨_, e2⟩, g', b, e3, e4, h5, h6, h7.mr, _, h8⟩

theorem NX.at {g hi : Nat} {l : List ND} {w : World} (h : NX g hi l w) : NsAt w (some ⟨g, 0, none⟩) l := by
  obtain ⟨f, s, hf, h0, h1, h2, h3, hj⟩ := h
  refine .inr ⟨_, _, rfl, hf.lt, fun k hk => ?_⟩
  obtain ⟨e1, e2, g', b, e3, e4, h5, h6, h7, h8⟩ := hj k hk
  have c := fun i (hi : i < 4) => hf.cell (show k * 4 + i < l.length * 4 by omega)
  refine ⟨by rw [Nat.zero_add]; exact (c 0 (by omega)).trans (by rw [Nat.add_zero, e1]), by rw [Nat.zero_add, c 1 (by omega), e2], ⟨_, _, by rw [Nat.zero_add, c 2 (by omega), e3], Nat.le_refl _, h7.ao.at⟩, ⟨_, _, by rw [Nat.zero_add, c 3 (by omega), e4], .of_row h8⟩⟩

theorem NX.lt {g hi : Nat} {l : List ND} {w : World} (h : NX g hi l w) : g < hi ∧ hi ≤ w.heap.size := by
  obtain ⟨f, s, hf, h0, h1, h2, h3, hj⟩ := h
  have := mono_s2 h3 (i := 0) l.length (by omega) (Nat.le_refl _)
  exact ⟨by omega, h2⟩

theorem NX.keep {g hi : Nat} {l : List ND} {w w' : World} (h : NX g hi l w) (hs : w.heap.size ≤ w'.heap.size) (hk : ∀ k, g ≤ k → k < hi → k < w.heap.size → w'.heap[k]? = w.heap[k]?) : NX g hi l w' := by
  obtain ⟨f, s, hf, h0, h1, h2, h3, hj⟩ := h
  have m0 := mono_s2 h3 (i := 0) l.length (by omega) (Nat.le_refl _)
  refine ⟨f, s, hf.of_block (hk g (Nat.le_refl _) (by omega) hf.lt), h0, h1, Nat.le_trans h2 hs, h3, fun j hl => (hj j hl).keep (fun _ _ => rfl) (fun i a c d => ?_)⟩
  have m1 := mono_s2 h3 (i := 0) j (by omega) (by omega)
  have m2 := mono_s2 h3 (i := j + 1) l.length (by omega) (Nat.le_refl _)
  exact hk i (by omega) (by omega) d

theorem NX.below {g hi : Nat} {l : List ND} {w w' : World} (h : NX g hi l w) (hb : Below w.heap.size w w') : NX g hi l w' := h.keep hb.size (fun q _ _ hq => hb.block q hq)

theorem NX.kept {g hi lo' hi' : Nat} {l : List ND} {w w' : World} (h : NX g hi l w) (hk : KeptIn lo' hi' w w') (hd : hi ≤ lo' ∨ hi' ≤ g) : NX g hi l w' := h.keep hk.size (fun q a c d => hk.block q d (by omega))

/-- The i-th of numbers, as a value. -/
def iv (l : List Int) (i : Nat) : Value := .int .i64 (wv l i)

theorem IAt.of_row {w : World} {b : Nat} {l : List Int} (h : w.rowIs b 2 l.length (iv l)) : IAt w (some ⟨b, 0, none⟩) l :=
  .inr ⟨b, 0, rfl, h.lt, fun k hk => by rw [Nat.zero_add]; exact h.cell hk⟩

theorem szInt64S_any (a : Option Addr) (n c : Nat) (l : Int) (w : World) (h0 : 0 ≤ l) (h1 : l ≤ 1048576) (hn : (n : Int) ≤ 9223372036854775807) :
    Calls Try.prog 13 #[.slice a n c, .int .i64 l] w fun e w' => e = .returned (.int .i64 (if l < n then -1 else l - n)) ∧ w' = w := by
  go_enter Try.func13, Try.ntmps13
  go_wp2
  all_goals go_ret
  all_goals exact ⟨rfl, rfl⟩

set_option maxHeartbeats 800000 in
theorem toInt64S_any (a : Option Addr) (c : Nat) (l : List Int) (w : World) (ha : IAt w a l) (hl : (l.length : Int) ≤ 1048576) :
    Calls Try.prog 16 #[.slice a l.length c] w fun e w' => ∃ b, e = .returned (.slice (some ⟨b, 0, none⟩) l.length l.length) ∧ w.heap.size ≤ b ∧ w'.rowIs b 2 l.length (iv l) ∧ Below w.heap.size w w' := by
  have hmk := run_make_row' (P := Try.prog) 23 2 (.int .i64 0) 8 Try.underlying23 Try.info2 rfl .i64 .i64 l.length (by omega) (by omega)
  go_enter Try.func16, Try.ntmps16
  go_wp2
  go_loopw [4] (fun i wr => ∃ k : Nat, k ≤ l.length ∧ i = .int .i64 k ∧ wr.rowIs w.heap.size 2 l.length (fun j => if j < k then iv l j else .int .i64 0) ∧ Below w.heap.size w wr) (fun i _ => l.length - (intOf i).toNat)
  case atStart => exact ⟨0, Nat.zero_le _, rfl, (World.rowIs_made w (.int .i64 0) _ 2).congr (fun j _ => by simp), (Below.refl _ _).alloc (Nat.le_refl _) _⟩
  case round =>
    obtain ⟨k, hk, rfl, hrow, hbl⟩ := hrel
    by_cases hlt : k < l.length
    · have ci : (k : Int) < (l.length : Int) := by omega
      rcases ha with ha | ⟨b, o, rfl, hbs, hc⟩
      · exact absurd hlt (by rw [ha]; exact Nat.not_lt_zero _)
      have h1 := (hbl.cell hbs).trans (hc k hlt)
      obtain ⟨v0, h2⟩ : ∃ v, wr.cell? ⟨w.heap.size, k, none⟩ = some v := ⟨_, hrow.cell hlt⟩
      have h3 := hrow.frozen k
      have R1 := Hid.mk' ((hrow.set k (.int .i64 (wv l k))).congr (g := fun j => if j < k + 1 then iv l j else .int .i64 0) (fun j _ => by
        by_cases e : j = k
        · subst e; simp [iv]
        · by_cases h : j < k
          · simp [e, h, show j < k + 1 by omega]
          · simp [e, h, show ¬ j < k + 1 by omega]))
      have R2 := Hid.mk' (hbl.setCell (p := ⟨w.heap.size, k, none⟩) (Nat.le_refl _) (.int .i64 (wv l k)))
      clear hrow hbl hmk hc
      go_wp2
      go_roundw
      case rel => exact ⟨k + 1, by omega, by go_num, R1.out, R2.out⟩
      case measure => simp [intOf]; omega
    · have ci : ¬ (k : Int) < (l.length : Int) := by omega
      have e : k = l.length := by omega
      subst e
      have R1 := Hid.mk' (hrow.congr (g := iv l) (fun j hj => by rw [if_pos hj]))
      have R2 := Hid.mk' hbl
      clear hrow hbl hmk
      go_wp2
      go_ret
      exact ⟨_, rfl, Nat.le_refl _, R1.out, R2.out⟩

set_option maxHeartbeats 1600000 in
theorem szBuild_any (t : BS) (a b : Option Addr) (c d : Nat) (z : Int) (w : World) (ha : NsAt w a t.nd) (hw : WideN t.nd) (hn : (t.nd.length : Int) ≤ 9223372036854775807) (ho : (t.op.length : Int) ≤ 9223372036854775807) (h0 : 0 ≤ z) (h1 : z ≤ 1048576) :
    Calls Try.prog 5 #[.agg #[.slice a t.nd.length c, .slice b t.op.length d, .bool t.lg], .int .i64 z] w fun e w' => e = .returned (.int .i64 (if z < (t.nd.length : Int) + nssz t.nd + t.op.length then -1 else z - t.nd.length - nssz t.nd - t.op.length)) ∧ Below w.heap.size w w' := by
  have N0 := below_new w (.cells #[.slice a t.nd.length c, .slice b t.op.length d, .bool t.lg] 25)
  have KA := Hid.mk' (szNodeS_any a c t.nd z _ (ha.below N0) hw h0 h1 hn)
  have HP := Hid.mk' (row3 w 25 (.slice a t.nd.length c) (.slice b t.op.length d) (.bool t.lg))
  have HB := Hid.mk' N0
  clear N0 ha hw
  by_cases g2 : z < (t.nd.length : Int) + nssz t.nd
  · rw [if_pos g2] at KA
    rw [if_pos (by omega)]
    go_enter Try.func5, Try.ntmps5
    go_wp2_with fail
    refine KA.out.mono ?_
    rintro e w1 ⟨rfl, hb⟩
    have HB := Hid.mk' (HB.out.trans (hb.mono HB.out.size))
    clear hb KA
    go_wp2
    go_ret
    exact ⟨rfl, HB.out⟩
  · rw [if_neg g2] at KA
    have gy : ¬ (z - (t.nd.length : Int) - nssz t.nd < 0) := by omega
    by_cases g3 : z - (t.nd.length : Int) - nssz t.nd < (t.op.length : Int)
    · rw [if_pos (by omega)]
      go_enter Try.func5, Try.ntmps5
      go_wp2_with fail
      refine KA.out.mono ?_
      rintro e w1 ⟨rfl, hb⟩
      have R1 := rowB HP.out hb
      have c0 : w1.cell? ⟨w.heap.size, 0, none⟩ = some (.slice a t.nd.length c) := R1.cell (by omega)
      have c1 : w1.cell? ⟨w.heap.size, 1, none⟩ = some (.slice b t.op.length d) := R1.cell (by omega)
      have HB := Hid.mk' (HB.out.trans (hb.mono HB.out.size))
      clear hb KA R1
      go_wp2_with (go_at_call 13; refine (szInt64S_any _ _ _ _ _ (by omega) (by omega) (by omega)).mono ?_; rintro e w' ⟨rfl, rfl⟩)
      go_ret
      exact ⟨rfl, HB.out⟩
    · rw [if_neg (by omega)]
      go_enter Try.func5, Try.ntmps5
      go_wp2_with fail
      refine KA.out.mono ?_
      rintro e w1 ⟨rfl, hb⟩
      have R1 := rowB HP.out hb
      have c0 : w1.cell? ⟨w.heap.size, 0, none⟩ = some (.slice a t.nd.length c) := R1.cell (by omega)
      have c1 : w1.cell? ⟨w.heap.size, 1, none⟩ = some (.slice b t.op.length d) := R1.cell (by omega)
      have HB := Hid.mk' (HB.out.trans (hb.mono HB.out.size))
      clear hb KA R1
      go_wp2_with (go_at_call 13; refine (szInt64S_any _ _ _ _ _ (by omega) (by omega) (by omega)).mono ?_; rintro e w' ⟨rfl, rfl⟩)
      go_ret
      exact ⟨by first | rfl | (congr 2; omega), HB.out⟩

set_option maxHeartbeats 3200000 in
theorem toBuild_any (t : BS) (a b : Option Addr) (c d : Nat) (w : World) (ha : NsAt w a t.nd) (hb : IAt w b t.op) (hl : (t.nd.length : Int) + nssz t.nd + t.op.length ≤ 1048576) :
    Calls Try.prog 7 #[.agg #[.slice a t.nd.length c, .slice b t.op.length d, .bool t.lg]] w fun e w' => ∃ gn hi go, e = .returned (.agg #[.slice (some ⟨gn, 0, none⟩) t.nd.length t.nd.length, .slice (some ⟨go, 0, none⟩) t.op.length t.op.length, .bool t.lg]) ∧ w.heap.size ≤ gn ∧ NX gn hi t.nd w' ∧ hi ≤ go ∧ w'.rowIs go 2 t.op.length (iv t.op) ∧ Below w.heap.size w w' := by
  have B0 := ((Below.refl w.heap.size w).alloc (Nat.le_refl _) (.cells #[.slice a t.nd.length c, .slice b t.op.length d, .bool t.lg] 25)).alloc (by simp) (.cells #[.slice none 0 0, .slice none 0 0, .bool false] 30)
  have B1 := B0.alloc (by simp; omega) (.cells #[.slice none 0 0, .slice none 0 0, .bool false] 30)
  have RP := ((row3 w 25 (.slice a t.nd.length c) (.slice b t.op.length d) (.bool t.lg)).alloc (.cells #[.slice none 0 0, .slice none 0 0, .bool false] 30)).alloc (.cells #[.slice none 0 0, .slice none 0 0, .bool false] 30)
  have RR := (row3 (w.alloc (.cells #[.slice a t.nd.length c, .slice b t.op.length d, .bool t.lg] 25)) 30 (.slice none 0 0) (.slice none 0 0) (.bool false)).alloc (.cells #[.slice none 0 0, .slice none 0 0, .bool false] 30)
  have RO := row3 ((w.alloc (.cells #[.slice a t.nd.length c, .slice b t.op.length d, .bool t.lg] 25)).alloc (.cells #[.slice none 0 0, .slice none 0 0, .bool false] 30)) 30 (.slice none 0 0) (.slice none 0 0) (.bool false)
  have KB := Hid.mk' (toNodeS_any a c t.nd _ (ha.below B1) (by omega))
  have HB := Hid.mk' B1
  have HT := Hid.mk' hb
  have z1 : (w.alloc (.cells #[.slice a t.nd.length c, .slice b t.op.length d, .bool t.lg] 25)).heap.size = w.heap.size + 1 := by simp
  have z2 : ((w.alloc (.cells #[.slice a t.nd.length c, .slice b t.op.length d, .bool t.lg] 25)).alloc (.cells #[.slice none 0 0, .slice none 0 0, .bool false] 30)).heap.size = w.heap.size + 1 + 1 := by simp
  have z3 : (((w.alloc (.cells #[.slice a t.nd.length c, .slice b t.op.length d, .bool t.lg] 25)).alloc (.cells #[.slice none 0 0, .slice none 0 0, .bool false] 30)).alloc (.cells #[.slice none 0 0, .slice none 0 0, .bool false] 30)).heap.size = w.heap.size + 1 + 1 + 1 := by simp
  rw [z1] at RR
  rw [z2] at RO
  have HR := Hid.mk' RR
  have HO := Hid.mk' RO
  have HP := Hid.mk' RP
  have Z3 := Hid.mk' z3
  clear ha hb B0 B1 RR RO RP z1 z2 z3
  generalize hW : ((w.alloc (.cells #[.slice a t.nd.length c, .slice b t.op.length d, .bool t.lg] 25)).alloc (.cells #[.slice none 0 0, .slice none 0 0, .bool false] 30)).alloc (.cells #[.slice none 0 0, .slice none 0 0, .bool false] 30) = W at *
  have p0 : W.cell? ⟨w.heap.size, 0, none⟩ = some (.slice a t.nd.length c) := HP.out.cell (by omega)
  go_enter Try.func7, Try.ntmps7
  go_wp2_with fail
  clear hW p0
  refine KB.out.mono ?_
  rintro e w1 ⟨rfl, har⟩
  have hbl := har.bl
  obtain ⟨hi, hnx⟩ := har.nx
  have Hp := rowB HP.out hbl
  have Ho := rowB HO.out hbl
  have Hr := rowB HR.out hbl
  have hz := Z3.out
  have hs1 := hbl.size
  have K1 := (KeptIn.refl (w.heap.size + 1 + 1) (w.heap.size + 1 + 1 + 1) w1).setCell (p := ⟨w.heap.size + 1 + 1, 0, none⟩) (by simp) (by simp) (.slice (some ⟨W.heap.size, 0, none⟩) t.nd.length t.nd.length)
  have B2 := (HB.out.trans (hbl.mono HB.out.size)).trans (K1.below (B := w.heap.size) (by omega) (by omega))
  have KT := Hid.mk' (toInt64S_any b d t.op _ (HT.out.below B2) (by omega))
  have HX := Hid.mk' (hnx.kept K1 (.inr (by omega)))
  have BB := Hid.mk' B2
  have Hp2 := Hid.mk' (rowK Hp K1 (.inl (by omega)))
  have Ho2 := Hid.mk' (Ho.set 0 (.slice (some ⟨W.heap.size, 0, none⟩) t.nd.length t.nd.length))
  have Hr2 := Hid.mk' (rowK Hr K1 (.inl (by omega)))
  have o0 : w1.cell? ⟨w.heap.size + 1 + 1, 0, none⟩ = some (.slice none 0 0) := Ho.cell (by omega)
  have fo0 := Ho.frozen 0
  have S2 : Hid ((w1.setCell ⟨w.heap.size + 1 + 1, 0, none⟩ (.slice (some ⟨W.heap.size, 0, none⟩) t.nd.length t.nd.length)).heap.size = w1.heap.size) := Hid.mk' (by simp [World.setCell])
  have p1 := Hp2.out.cell (i := 1) (by omega)
  have S1 := Hid.mk' hs1
  have ZZ := Hid.mk' hz
  clear Hp Ho Hr har hbl K1 B2 KB HO HR HP HB HT Z3 hz hs1 hnx
  generalize hV : w1.setCell ⟨w.heap.size + 1 + 1, 0, none⟩ (.slice (some ⟨W.heap.size, 0, none⟩) t.nd.length t.nd.length) = V at *
  have p1 : V.cell? ⟨w.heap.size, 1, none⟩ = some (.slice b t.op.length d) := p1
  go_wp2_with fail
  clear hV o0 fo0 p1
  refine KT.out.mono ?_
  rintro e w2 ⟨go, rfl, hgo, hrow, hbl⟩
  have Ho := rowB Ho2.out hbl
  have Hr := rowB Hr2.out hbl
  have Hp := rowB Hp2.out hbl
  have p2' : w2.cell? ⟨w.heap.size, 2, none⟩ = some (.bool t.lg) := Hp.cell (by omega)
  have o0 : w2.cell? ⟨w.heap.size + 1 + 1, 0, none⟩ = some (.slice (some ⟨W.heap.size, 0, none⟩) t.nd.length t.nd.length) := Ho.cell (by omega)
  have o1 : w2.cell? ⟨w.heap.size + 1 + 1, 1, none⟩ = some (.slice none 0 0) := Ho.cell (by omega)
  have o2 : w2.cell? ⟨w.heap.size + 1 + 1, 2, none⟩ = some (.bool false) := Ho.cell (by omega)
  have r0 : w2.cell? ⟨w.heap.size + 1, 0, none⟩ = some (.slice none 0 0) := Hr.cell (by omega)
  have r1 : w2.cell? ⟨w.heap.size + 1, 1, none⟩ = some (.slice none 0 0) := Hr.cell (by omega)
  have r2 : w2.cell? ⟨w.heap.size + 1, 2, none⟩ = some (.bool false) := Hr.cell (by omega)
  have fo1 := Ho.frozen 1
  have fo2 := Ho.frozen 2
  have fr0 := Hr.frozen 0
  have fr1 := Hr.frozen 1
  have fr2 := Hr.frozen 2
  have AH := Hid.mk' (HX.out.below hbl)
  have HI := Hid.mk' HX.out.lt
  have RW := Hid.mk' hrow
  have BL := Hid.mk' hbl
  have hb' := Hid.mk' hgo
  clear Ho Hr Hp hrow hbl KT Ho2 Hr2 Hp2 HX hgo
  go_wp2
  refine bodyPost_ret (v := .agg #[.slice (some ⟨W.heap.size, 0, none⟩) t.nd.length t.nd.length, .slice (some ⟨go, 0, none⟩) t.op.length t.op.length, .bool t.lg]) (by simp [results, Try.results7, go_sem, *]) rfl ?_
  have e1 := ZZ.out
  have e2 := S1.out
  have e3 := S2.out
  have e4 := hb'.out
  have e5 := HI.out
  have e6 := BL.out.size
  have KK := (((((KeptIn.refl (w.heap.size + 1) (w.heap.size + 1 + 1 + 1) w2).setCell (p := ⟨w.heap.size + 1 + 1, 1, none⟩) (by simp) (by simp) (.slice (some ⟨go, 0, none⟩) t.op.length t.op.length)).setCell (p := ⟨w.heap.size + 1 + 1, 2, none⟩) (by simp) (by simp) (.bool t.lg)).setCell (p := ⟨w.heap.size + 1, 0, none⟩) (by simp) (by simp) (.slice (some ⟨W.heap.size, 0, none⟩) t.nd.length t.nd.length)).setCell (p := ⟨w.heap.size + 1, 1, none⟩) (by simp) (by simp) (.slice (some ⟨go, 0, none⟩) t.op.length t.op.length)).setCell (p := ⟨w.heap.size + 1, 2, none⟩) (by simp) (by simp) (.bool t.lg)
  exact ⟨W.heap.size, hi, go, rfl, by omega, AH.out.kept KK (.inr (by omega)), by omega, rowK RW.out KK (.inr (by omega)), (BB.out.trans (BL.out.mono BB.out.size)).trans (KK.below (by omega) (by omega))⟩

set_option maxHeartbeats 1600000 in
theorem eqBuild_any (t : BS) (a b p q : Option Addr) (c d c' d' : Nat) (w : World) (ha : NsAt w a t.nd) (hb : NsAt w b t.nd) (hp : IAt w p t.op) (hq : IAt w q t.op) (hl : (t.nd.length : Int) + nssz t.nd + t.op.length ≤ 1048576) :
    Calls Try.prog 9 #[.agg #[.slice a t.nd.length c, .slice p t.op.length c', .bool t.lg], .agg #[.slice b t.nd.length d, .slice q t.op.length d', .bool t.lg]] w fun e w' => e = .returned (.bool true) ∧ Below w.heap.size w w' := by
  have B0 := ((Below.refl w.heap.size w).alloc (Nat.le_refl _) (.cells #[.slice a t.nd.length c, .slice p t.op.length c', .bool t.lg] 30)).alloc (by simp) (.cells #[.slice b t.nd.length d, .slice q t.op.length d', .bool t.lg] 30)
  have R1 := (row3 w 30 (.slice a t.nd.length c) (.slice p t.op.length c') (.bool t.lg)).alloc (.cells #[.slice b t.nd.length d, .slice q t.op.length d', .bool t.lg] 30)
  have R2 := row3 (w.alloc (.cells #[.slice a t.nd.length c, .slice p t.op.length c', .bool t.lg] 30)) 30 (.slice b t.nd.length d) (.slice q t.op.length d') (.bool t.lg)
  have z1 : (w.alloc (.cells #[.slice a t.nd.length c, .slice p t.op.length c', .bool t.lg] 30)).heap.size = w.heap.size + 1 := by simp
  rw [z1] at R2
  have H1 := Hid.mk' R1
  have H2 := Hid.mk' R2
  have KB := Hid.mk' (eqNodeS_any a b c d t.nd _ (ha.below B0) (hb.below B0) (by omega))
  have HX := Hid.mk' (hp.below B0)
  have HY := Hid.mk' (hq.below B0)
  have HB := Hid.mk' B0
  clear ha hb hp hq B0 R1 R2 z1
  generalize hW : (w.alloc (.cells #[.slice a t.nd.length c, .slice p t.op.length c', .bool t.lg] 30)).alloc (.cells #[.slice b t.nd.length d, .slice q t.op.length d', .bool t.lg] 30) = W at *
  have p0 : W.cell? ⟨w.heap.size, 0, none⟩ = some (.slice a t.nd.length c) := H1.out.cell (by omega)
  have q0 : W.cell? ⟨w.heap.size + 1, 0, none⟩ = some (.slice b t.nd.length d) := H2.out.cell (by omega)
  go_enter Try.func9, Try.ntmps9
  go_wp2_with fail
  clear hW p0 q0
  refine KB.out.mono ?_
  rintro e w1 ⟨rfl, hb⟩
  have R1 := rowB H1.out hb
  have R2 := rowB H2.out hb
  have p1 : w1.cell? ⟨w.heap.size, 1, none⟩ = some (.slice p t.op.length c') := R1.cell (by omega)
  have q1 : w1.cell? ⟨w.heap.size + 1, 1, none⟩ = some (.slice q t.op.length d') := R2.cell (by omega)
  have H1 := Hid.mk' R1
  have H2 := Hid.mk' R2
  have KT := Hid.mk' (eqInt64S_any p q c' d' t.op w1 (HX.out.below hb) (HY.out.below hb) (by omega))
  have HB := Hid.mk' (HB.out.trans (hb.mono HB.out.size))
  clear hb KB R1 R2
  go_wp2_with fail
  refine KT.out.mono ?_
  rintro e w2 ⟨rfl, hb⟩
  have p2' : w2.cell? ⟨w.heap.size, 2, none⟩ = some (.bool t.lg) := (rowB H1.out hb).cell (by omega)
  have q2' : w2.cell? ⟨w.heap.size + 1, 2, none⟩ = some (.bool t.lg) := (rowB H2.out hb).cell (by omega)
  have HB := Hid.mk' (HB.out.trans (hb.mono HB.out.size))
  clear hb KT
  go_wp2
  go_ret
  exact ⟨rfl, HB.out⟩

/-- A state lies in memory. -/
def SAt (w : World) (a p : Option Addr) (s : BS) : Prop := NsAt w a s.nd ∧ IAt w p s.op

theorem SAt.below {w w' : World} {a p : Option Addr} {s : BS} (h : SAt w a p s) (hb : Below w.heap.size w w') : SAt w' a p s := ⟨h.1.below hb, h.2.below hb⟩

theorem toBuild_at (t : BS) (a b : Option Addr) (c d : Nat) (w : World) (ha : SAt w a b t) (hl : (t.nd.length : Int) + nssz t.nd + t.op.length ≤ 1048576) :
    Calls Try.prog 7 #[.agg #[.slice a t.nd.length c, .slice b t.op.length d, .bool t.lg]] w fun e w' => ∃ gn go, e = .returned (.agg #[.slice (some ⟨gn, 0, none⟩) t.nd.length t.nd.length, .slice (some ⟨go, 0, none⟩) t.op.length t.op.length, .bool t.lg]) ∧ SAt w' (some ⟨gn, 0, none⟩) (some ⟨go, 0, none⟩) t ∧ Below w.heap.size w w' := by
  refine (toBuild_any t a b c d w ha.1 ha.2 hl).mono ?_
  rintro e w' ⟨gn, hi, go, rfl, _, h1, _, h2, h3⟩
  exact ⟨gn, go, rfl, ⟨h1.at, IAt.of_row h2⟩, h3⟩

end Go.Proofs.Ytpncbcmngfpkfaa

/- Both sides' BuildFault. -/
namespace Go.Proofs.Ytpncbcmngfpkfaa
open Go.RowKit
set_option linter.unusedVariables false
set_option linter.unusedSimpArgs false

/-- The one ahead of the k-th that is open; -1: none is. -/
def aheadI (op : List Int) (k : Nat) : Int := if k = 0 then -1 else wv op (k - 1)

theorem aheadI_succ (op : List Int) (k : Nat) : aheadI op (k + 1) = wv op k := by unfold aheadI; rw [if_neg (by omega)]; rfl

/-- What is wrong with the k-th that is open. -/
def openF (l : List ND) (op : List Int) (k : Nat) : Int :=
  if 0 ≤ wv op k ∧ wv op k < (l.length : Int) then (if (ndK l (wv op k).toNat).up = aheadI op k ∧ holdB (ndK l (wv op k).toNat) = true then 0 else 1) else 3

def opensF (l : List ND) (op : List Int) : Int := firstF (openF l op) op.length 0

/-- What is wrong with all that is open. -/
def restF (l : List ND) (op : List Int) : Int :=
  if opensF l op = 0 then (if 7 < op.length then 2 else if 0 < op.length ∧ inW (wayU (upF l) l.length) (aheadI op op.length) = false then 1 else 0) else opensF l op

/-- The code of a state. -/
def bldF (s : BS) : Int :=
  if treeF s.nd = 0 then (if s.lg = true ∧ (0 < s.nd.length ∨ 0 < s.op.length) then 1 else restF s.nd s.op) else treeF s.nd

theorem openF_out {l : List ND} {op : List Int} {k : Nat} (h : ¬ (0 ≤ wv op k ∧ wv op k < (l.length : Int))) : openF l op k = 3 := by unfold openF; rw [if_neg h]
theorem openF_no {l : List ND} {op : List Int} {k m : Nat} (hm : wv op k = (m : Int)) (hl : m < l.length) (h : ¬ ((ndK l m).up = aheadI op k ∧ holdB (ndK l m) = true)) : openF l op k = 1 := by
  unfold openF; rw [hm, if_pos ⟨by omega, by omega⟩, Int.toNat_natCast, if_neg h]
theorem openF_yes {l : List ND} {op : List Int} {k m : Nat} (hm : wv op k = (m : Int)) (hl : m < l.length) (h1 : (ndK l m).up = aheadI op k) (h2 : holdB (ndK l m) = true) : openF l op k = 0 := by
  unfold openF; rw [hm, if_pos ⟨by omega, by omega⟩, Int.toNat_natCast, if_pos ⟨h1, h2⟩]

theorem opensF_hit {l : List ND} {op : List Int} {k : Nat} {c : Int} (hk : k < op.length) (hz : ∀ j, j < k → openF l op j = 0) (hc : openF l op k = c) (h0 : ¬ c = 0) : opensF l op = c := by
  unfold opensF
  rw [firstF_hit (openF l op) op.length 0 k hk (fun j hj => by rw [Nat.zero_add]; exact hz j hj) (by rw [Nat.zero_add, hc]; exact h0), Nat.zero_add, hc]
theorem opensF_none {l : List ND} {op : List Int} (hz : ∀ j, j < op.length → openF l op j = 0) : opensF l op = 0 := by
  unfold opensF
  exact firstF_none _ _ _ (fun j hj => by rw [Nat.zero_add]; exact hz j hj)
theorem restF_hit {l : List ND} {op : List Int} {c : Int} (h : opensF l op = c) (h0 : ¬ c = 0) : restF l op = c := by unfold restF; rw [h, if_neg h0]
theorem restF_many {l : List ND} {op : List Int} (h : opensF l op = 0) (h7 : 7 < op.length) : restF l op = 2 := by unfold restF; rw [if_pos h, if_pos h7]

theorem inW_none {l : List ND} (h : treeF l = 0) : inW (wayU (upF l) l.length) (-1) = true := by
  have G := (treeF_ways h).good
  have := ixF_found (wayU (upF l) l.length) (-1) 0 G.ne (fun j hj => absurd hj (Nat.not_lt_zero _)) G.hd
  unfold inW; rw [this]; exact decide_eq_true G.ne

theorem restF_end {l : List ND} {op : List Int} (ht : treeF l = 0) (h : opensF l op = 0) (h7 : ¬ 7 < op.length) : restF l op = if inW (wayU (upF l) l.length) (aheadI op op.length) = true then 0 else 1 := by
  unfold restF
  rw [if_pos h, if_neg h7]
  by_cases h0 : 0 < op.length
  · by_cases e : inW (wayU (upF l) l.length) (aheadI op op.length) = true
    · rw [if_neg (by rw [e]; simp), if_pos e]
    · rw [if_pos ⟨h0, by simpa using e⟩, if_neg e]
  · have e : aheadI op op.length = -1 := by unfold aheadI; rw [if_pos (by omega)]
    rw [if_neg (by omega), e, inW_none ht, if_pos rfl]

set_option maxHeartbeats 800000 in
theorem containsI_any (a : Option Addr) (c : Nat) (l : List Int) (x : Int) (w : World) (ha : IAt w a l) (hl : (l.length : Int) ≤ 1048576) :
    Calls Try.prog 36 #[.slice a l.length c, .int .i64 x] w fun e w' => e = .returned (.bool (inW l x)) ∧ w' = w := by
  have K := Hid.mk' (indexI_any a c l x w ha hl)
  have E : Hid (decide (ixI l x ≥ 0) = inW l x) := Hid.mk' (by
    unfold ixI inW
    by_cases h : ixF l x < l.length
    · rw [if_pos h, decide_eq_true h]; exact decide_eq_true (by omega)
    · rw [if_neg h, decide_eq_false h]; rfl)
  clear ha
  generalize ixI l x = y at *
  go_enter Try.func36, Try.ntmps36
  go_wp2_with fail
  refine K.out.mono ?_
  rintro e w1 ⟨rfl, hw⟩
  obtain rfl := hw.symm
  clear K
  go_wp2
  go_ret
  exact ⟨by rw [← E.out]; rfl, rfl⟩

set_option maxHeartbeats 3200000 in
theorem openFault_any (w0 : World) (base g : Nat) (l : List ND) (pa : Nat → Option Addr) (ca : Nat → Nat) (vn vw : Value) (p : Option Addr) (d : Nat) (op : List Int) (w : World) (h : TT w0 base g l pa ca l.length vn vw w) (ht : treeF l = 0) (hp : IAt w p op) (ho : (op.length : Int) ≤ 1048576) :
    Calls Try.prog 18 #[.pointer (some ⟨g, 0, none⟩), .slice p op.length d] w fun e w' => e = .returned (.int .i64 (restF l op)) ∧ Below w.heap.size w w' := by
  have h60 := treeF_len ht
  have HT := Hid.mk' h
  have HP := Hid.mk' hp
  have H0 := Hid.mk' ht
  have G := (treeF_ways ht).good
  have gle := G.le
  have gne := G.ne
  obtain ⟨an, cn, ev, _⟩ := own_len h.on
  subst ev
  obtain ⟨aw, cw, ev, _⟩ := own_len h.ow
  subst ev
  clear h hp ht G
  go_enter Try.func18, Try.ntmps18
  go_wp2
  go_loopw [5, 10] (fun x i wr => ∃ k : Nat, k ≤ op.length ∧ i = .int .i64 k ∧ x = .int .i64 (aheadI op k) ∧ (∀ j, j < k → openF l op j = 0) ∧ Below w.heap.size w wr) (fun _ i _ => op.length - (intOf i).toNat)
  case atStart => exact ⟨0, Nat.zero_le _, rfl, rfl, fun j h => absurd h (Nat.not_lt_zero _), Below.refl _ _⟩
  case round =>
    obtain ⟨k, hk, rfl, rfl, hz, hbl⟩ := hrel
    have HZ := Hid.mk' hz
    have HB := Hid.mk' hbl
    have HT2 := Hid.mk' (HT.out.below hbl)
    obtain ⟨t0, t1, t2⟩ := cells2 HT2.out.box
    by_cases hlt : k < op.length
    · have ci : (k : Int) < (op.length : Int) := by omega
      rcases HP.out.below hbl with ha | ⟨b1, o1, rfl, s1, hc1⟩
      · exact absurd hlt (by rw [ha]; exact Nat.not_lt_zero _)
      have x0 := hc1 k hlt
      have KH := hasPlace_any g an l.length cn (wv op k) wr t0
      clear hbl hc1 hz
      by_cases hr : 0 ≤ wv op k ∧ wv op k < (l.length : Int)
      rotate_left
      · have E : Hid (restF l op = 3) := Hid.mk' (restF_hit (opensF_hit hlt HZ.out (openF_out hr) (by decide)) (by decide))
        rw [show (decide (wv op k ≥ 0) && decide (wv op k < (l.length : Int))) = false by simp; omega] at KH
        have KH := Hid.mk' KH
        generalize wv op k = x at *
        clear hr
        go_wp2_with fail
        refine KH.out.mono ?_
        rintro e w2 ⟨rfl, hw⟩
        obtain rfl := hw.symm
        go_wp2
        go_ret
        exact ⟨by rw [E.out]; rfl, HB.out⟩
      rw [show (decide (wv op k ≥ 0) && decide (wv op k < (l.length : Int))) = true by simp; omega] at KH
      obtain ⟨m, hm⟩ : ∃ m : Nat, wv op k = (m : Int) := ⟨(wv op k).toNat, by omega⟩
      have hml : m < l.length := by omega
      have mi_ : (m : Int) < (l.length : Int) := by omega
      obtain ⟨nb, cap, ev, _, nl, hnode⟩ := HT2.out.node (by omega)
      cases ev
      obtain ⟨d0, d1, d2, d3, d4⟩ := hnode m hml
      obtain ⟨p9, n9, c9, hV⟩ := mkV_slice (ndK l m) l pa ca m
      rw [hV] at d2
      have hkd : (decide (mkK (ndK l m) = 1) && !voidB (mkS (ndK l m))) = holdB (ndK l m) := hold_mk (mark_kind (one_mark (treeF_ones H0.out m hml)))
      have HM := Hid.mk' hm
      have F1 : Hid (¬ ((ndK l m).up = aheadI op k ∧ holdB (ndK l m) = true) → restF l op = 1) := Hid.mk' (fun hn => restF_hit (opensF_hit hlt HZ.out (openF_no HM.out hml hn) (by decide)) (by decide))
      have F2 : Hid ((ndK l m).up = aheadI op k → holdB (ndK l m) = true → openF l op k = 0) := Hid.mk' (fun a b => openF_yes HM.out hml a b)
      have AS : Hid (aheadI op (k + 1) = (m : Int)) := Hid.mk' (by rw [aheadI_succ]; exact HM.out)
      rw [hm] at KH x0
      have KH := Hid.mk' KH
      have KM : Hid (∀ w', Calls Try.prog 35 #[.agg #[.int .i64 (mkK (ndK l m)), .string (mkS (ndK l m)), .slice p9 n9 c9]] w' fun e w'' => e = .returned (.bool (holdB (ndK l m))) ∧ Below w'.heap.size w' w'') := fun w' => by
        have := mayHold_any (mkK (ndK l m)) (mkS (ndK l m)) (.slice p9 n9 c9) w'
        rw [hkd] at this
        exact this
      clear hr hm hnode hV hkd
      generalize hup : (ndK l m).up = up at *
      generalize hah : aheadI op k = ah at *
      generalize hhd : holdB (ndK l m) = hd at *
      by_cases e1 : up = ah
      rotate_left
      · have e2 : (up != ah) = true := by simp [e1]
        have E : Hid (restF l op = 1) := Hid.mk' (F1.out (fun h => e1 h.1))
        clear e1 F1 F2 hup hah hhd
        go_wp2_with fail
        refine KH.out.mono ?_
        rintro e w2 ⟨rfl, hw⟩
        obtain rfl := hw.symm
        go_wp2_with (first | go_big_skip)
        go_ret
        exact ⟨by rw [E.out]; rfl, HB.out⟩
      have e2 : (up != ah) = false := by simp [e1]
      cases hd with
      | false =>
        have E : Hid (restF l op = 1) := Hid.mk' (F1.out (fun h => absurd h.2 (by simp)))
        clear e1 F1 F2 hup hah hhd
        go_wp2_with fail
        refine KH.out.mono ?_
        rintro e w2 ⟨rfl, hw⟩
        obtain rfl := hw.symm
        go_wp2_with (first | go_big_skip | fail)
        refine (KM.out _).mono ?_
        rintro e w3 ⟨rfl, hb⟩
        have HB := Hid.mk' (HB.out.trans (hb.mono HB.out.size))
        clear hb
        go_wp2_with (first | go_big_skip)
        go_ret
        exact ⟨by rw [E.out]; rfl, HB.out⟩
      | true =>
        have E : Hid (openF l op k = 0) := Hid.mk' (F2.out e1 rfl)
        clear e1 F1 F2 hup hah hhd
        go_wp2_with fail
        refine KH.out.mono ?_
        rintro e w2 ⟨rfl, hw⟩
        obtain rfl := hw.symm
        go_wp2_with (first | go_big_skip | fail)
        refine (KM.out _).mono ?_
        rintro e w3 ⟨rfl, hb⟩
        have HB := Hid.mk' (HB.out.trans (hb.mono HB.out.size))
        clear hb
        go_wp2_with (first | go_big_skip)
        go_roundw
        case rel => exact ⟨k + 1, by omega, by go_num, by rw [AS.out], fun j hj => by
          by_cases h : j = k
          · subst h; exact E.out
          · exact HZ.out j (by omega), HB.out⟩
        case measure => simp [intOf]; omega
    · have ci : ¬ (k : Int) < (op.length : Int) := by omega
      have e : k = op.length := by omega
      subst e
      have OZ := opensF_none HZ.out
      clear hz
      by_cases h7 : 7 < op.length
      · have E : Hid (restF l op = 2) := Hid.mk' (restF_many OZ h7)
        have h7' : (op.length : Int) > 7 := by omega
        clear OZ hbl
        go_wp2
        go_ret
        exact ⟨by rw [E.out]; rfl, HB.out⟩
      · have h7' : ¬ (op.length : Int) > 7 := by omega
        have EE := Hid.mk' (restF_end H0.out OZ h7)
        obtain ⟨bw, cap, ev, w1_, w2_, w3_, hIA⟩ := own_iat HT2.out.ow gne
        cases ev
        have KC := Hid.mk' (containsI_any _ cw _ (aheadI op op.length) wr hIA (by omega))
        clear OZ hbl hIA w1_ w3_
        generalize hah : aheadI op op.length = ah at *
        generalize hin : inW (wayU (upF l) l.length) ah = iw at *
        go_wp2_with fail
        refine KC.out.mono ?_
        rintro e w2 ⟨rfl, hw⟩
        obtain rfl := hw.symm
        clear KC hin hah
        cases iw with
        | true =>
          go_wp2
          go_ret
          exact ⟨by rw [EE.out]; rfl, HB.out⟩
        | false =>
          go_wp2
          go_ret
          exact ⟨by rw [EE.out]; rfl, HB.out⟩

set_option maxHeartbeats 1600000 in
theorem implBF_any (s : BS) (a p : Option Addr) (c d : Nat) (w : World) (ha : SAt w a p s) (hl : (s.nd.length : Int) + nssz s.nd + s.op.length ≤ 1048576) :
    Calls Try.prog 8 #[.agg #[.slice a s.nd.length c, .slice p s.op.length d, .bool s.lg]] w fun e w' => e = .returned (.int .i64 (bldF s)) ∧ Below w.heap.size w w' := by
  have N0 := below_new w (.cells #[.slice a s.nd.length c, .slice p s.op.length d, .bool s.lg] 30)
  have KF := Hid.mk' (treeOf_any a c s.nd _ (ha.1.below N0) (by omega))
  have RB := Hid.mk' (row3 w 30 (.slice a s.nd.length c) (.slice p s.op.length d) (.bool s.lg))
  have HN := Hid.mk' N0
  have HP := Hid.mk' (ha.2.below N0)
  clear ha N0
  generalize hW : w.alloc (.cells #[.slice a s.nd.length c, .slice p s.op.length d, .bool s.lg] 30) = W at *
  obtain ⟨x0, x1, x2, x3⟩ := cells3 RB.out
  go_enter Try.func8, Try.ntmps8
  go_wp2_with fail
  clear hW
  refine KF.out.mono ?_
  rintro e w1 (⟨h0, rfl, hb⟩ | ⟨h0, pa, ca, g, vn, vw, rfl, hT⟩)
  · have E : Hid (bldF s = treeF s.nd) := Hid.mk' (by unfold bldF; rw [if_neg h0])
    have HB := Hid.mk' (HN.out.trans (hb.mono HN.out.size))
    clear hb KF x0 x1 x2 x3
    go_wp2
    go_ret
    exact ⟨by rw [E.out]; rfl, HB.out.alloc HB.out.size _⟩
  · obtain ⟨an, cn, ev, _⟩ := own_len hT.on
    subst ev
    obtain ⟨aw, cw, ev, _⟩ := own_len hT.ow
    subst ev
    have N2 := below_new w1 (.cells #[.slice an s.nd.length cn, .slice aw (wayU (upF s.nd) s.nd.length).length cw] 43)
    have HT2 := Hid.mk' (hT.rebox N2 (Nat.le_refl _) (rowp2 w1 43 (.slice an s.nd.length cn) (.slice aw (wayU (upF s.nd) s.nd.length).length cw)))
    have hb := hT.bl.trans (N2.mono hT.bl.size)
    have HB := Hid.mk' (HN.out.trans (hb.mono HN.out.size))
    have H1 := Hid.mk' (rowB RB.out hb)
    have HP := Hid.mk' (HP.out.below hb)
    have H0 := Hid.mk' h0
    clear hT N2 KF hb x0 x1 x2 x3 h0
    generalize hW2 : w1.alloc (.cells #[.slice an s.nd.length cn, .slice aw (wayU (upF s.nd) s.nd.length).length cw] 43) = W2 at *
    obtain ⟨x0, x1, x2, x3⟩ := cells3 H1.out
    have KO := Hid.mk' (openFault_any W W.heap.size w1.heap.size s.nd pa ca _ _ p d s.op W2 HT2.out H0.out HP.out (by omega))
    have E0 : Hid (bldF s = if s.lg = true ∧ (0 < s.nd.length ∨ 0 < s.op.length) then 1 else restF s.nd s.op) := Hid.mk' (by unfold bldF; rw [if_pos H0.out])
    by_cases hbad : s.lg = true ∧ (0 < s.nd.length ∨ 0 < s.op.length)
    · have E : Hid (bldF s = 1) := Hid.mk' (by rw [E0.out, if_pos hbad])
      obtain ⟨hlg, hor⟩ := hbad
      rw [hlg] at x2
      clear hlg
      by_cases hn : 0 < s.nd.length
      · have hn' : decide (0 < s.nd.length) = true := decide_eq_true hn
        clear hn hor
        go_wp2_with (first | go_big_skip)
        clear hW2
        go_ret
        exact ⟨by rw [E.out]; rfl, HB.out⟩
      · have ho' : decide (0 < s.op.length) = true := decide_eq_true (by omega)
        have hn' : decide (0 < s.nd.length) = false := decide_eq_false hn
        clear hn hor
        go_wp2_with (first | go_big_skip)
        clear hW2
        go_ret
        exact ⟨by rw [E.out]; rfl, HB.out⟩
    · have E : Hid (bldF s = restF s.nd s.op) := Hid.mk' (by rw [E0.out, if_neg hbad])
      cases hlg : s.lg with
      | false =>
        rw [hlg] at x2
        clear hlg hbad
        go_wp2_with (first | go_big_skip | fail)
        clear hW2
        refine KO.out.mono ?_
        rintro e w3 ⟨rfl, hb⟩
        have HB := Hid.mk' (HB.out.trans (hb.mono HB.out.size))
        clear hb KO
        go_wp2
        go_ret
        exact ⟨by rw [E.out]; rfl, HB.out⟩
      | true =>
        have hn' : decide (0 < s.nd.length) = false := decide_eq_false fun h => hbad ⟨hlg, .inl h⟩
        have ho' : decide (0 < s.op.length) = false := decide_eq_false fun h => hbad ⟨hlg, .inr h⟩
        rw [hlg] at x2
        clear hlg hbad
        go_wp2_with (first | go_big_skip | fail)
        clear hW2
        refine KO.out.mono ?_
        rintro e w3 ⟨rfl, hb⟩
        have HB := Hid.mk' (HB.out.trans (hb.mono HB.out.size))
        clear hb KO
        go_wp2
        go_ret
        exact ⟨by rw [E.out]; rfl, HB.out⟩

set_option maxHeartbeats 800000 in
theorem l7Top_any (p : Option Addr) (d : Nat) (op : List Int) (w : World) (hp : IAt w p op) (ho : (op.length : Int) ≤ 1048576) :
    Calls Try.prog 28 #[.slice p op.length d] w fun e w' => e = .returned (.int .i64 (aheadI op op.length)) ∧ w' = w := by
  by_cases h0 : op.length = 0
  · have E : Hid (aheadI op op.length = -1) := Hid.mk' (by unfold aheadI; rw [if_pos h0])
    have h0' : (op.length : Int) = 0 := by omega
    go_enter Try.func28, Try.ntmps28
    go_wp2
    go_ret
    exact ⟨by rw [E.out]; rfl, rfl⟩
  · rcases hp with ha | ⟨b1, o1, rfl, s1, hc1⟩
    · exact absurd (by rw [ha]; rfl) h0
    obtain ⟨m, hm⟩ : ∃ m, op.length = m + 1 := ⟨op.length - 1, by omega⟩
    have E : Hid (aheadI op op.length = wv op m) := Hid.mk' (by rw [hm, aheadI_succ])
    have x0 := hc1 m (by omega)
    have h0' : ((op.length : Int) == 0) = false := by simpa using (show ¬ (op.length : Int) = 0 by omega)
    have hm' : (op.length : Int) - 1 = (m : Int) := by omega
    have hlt : (m : Int) < (op.length : Int) := by omega
    clear hc1 hm h0
    go_enter Try.func28, Try.ntmps28
    go_wp2
    go_ret
    exact ⟨by rw [E.out]; rfl, rfl⟩

set_option maxHeartbeats 3200000 in
theorem l7Opened_any (s : BS) (g : Nat) (a p : Option Addr) (c d : Nat) (w : World) (hr : w.rowIs g 30 3 (r3 (.slice a s.nd.length c) (.slice p s.op.length d) (.bool s.lg))) (ha : SAt w a p s) (hl : (s.nd.length : Int) + nssz s.nd + s.op.length ≤ 1048576) :
    Calls Try.prog 26 #[.pointer (some ⟨g, 0, none⟩)] w fun e w' => e = .returned (.int .i64 (opensF s.nd s.op)) ∧ w' = w := by
  have HA := Hid.mk' ha
  obtain ⟨x0, x1, x2, x3⟩ := cells3 hr
  have KV : Hid (∀ (t : ByteArray) (w' : World), Calls Try.prog 45 #[.string t] w' fun e w'' => e = .returned (.bool (voidB t)) ∧ w'' = w') := fun t w' => l6Void_any t w'
  clear ha hr
  go_enter Try.func26, Try.ntmps26
  go_wp2
  go_loop [3, 4] (fun x i => ∃ k : Nat, k ≤ s.op.length ∧ i = .int .i64 k ∧ x = .int .i64 (aheadI s.op k) ∧ (∀ j, j < k → openF s.nd s.op j = 0)) (fun _ i => s.op.length - (intOf i).toNat)
  case atStart => exact ⟨0, Nat.zero_le _, rfl, rfl, fun j h => absurd h (Nat.not_lt_zero _)⟩
  case round =>
    obtain ⟨k, hk, rfl, rfl, hz⟩ := hrel
    have HZ := Hid.mk' hz
    by_cases hlt : k < s.op.length
    · have ci : (k : Int) < (s.op.length : Int) := by omega
      rcases HA.out.2 with hn | ⟨b1, o1, rfl, s1, hc1⟩
      · exact absurd hlt (by rw [hn]; exact Nat.not_lt_zero _)
      have u0 := hc1 k hlt
      have KI := l1In_any (wv s.op k) 0 ((s.nd.length : Int) - 1) w
      clear hc1 hz
      by_cases hr : 0 ≤ wv s.op k ∧ wv s.op k < (s.nd.length : Int)
      rotate_left
      · have E : Hid (opensF s.nd s.op = 3) := Hid.mk' (opensF_hit hlt HZ.out (openF_out hr) (by decide))
        rw [show (decide (0 ≤ wv s.op k) && decide (wv s.op k ≤ (s.nd.length : Int) - 1)) = false by simp; omega] at KI
        have KI := Hid.mk' KI
        generalize wv s.op k = x at *
        clear hr
        go_wp2_with fail
        refine KI.out.mono ?_
        rintro e w2 ⟨rfl, hw⟩
        obtain rfl := hw.symm
        go_wp2
        go_ret
        exact ⟨by rw [E.out]; rfl, rfl⟩
      rw [show (decide (0 ≤ wv s.op k) && decide (wv s.op k ≤ (s.nd.length : Int) - 1)) = true by simp; omega] at KI
      obtain ⟨m, hm⟩ : ∃ m : Nat, wv s.op k = (m : Int) := ⟨(wv s.op k).toNat, by omega⟩
      have hml : m < s.nd.length := by omega
      have mi_ : (m : Int) < (s.nd.length : Int) := by omega
      rcases HA.out.1 with hn | ⟨nb, o, rfl, nl, hnode⟩
      · exact absurd hml (by rw [hn]; exact Nat.not_lt_zero _)
      obtain ⟨d0, d1, _, _⟩ := hnode m hml
      have HM := Hid.mk' hm
      have F1 : Hid (¬ ((ndK s.nd m).up = aheadI s.op k ∧ holdB (ndK s.nd m) = true) → opensF s.nd s.op = 1) := Hid.mk' (fun hn => opensF_hit hlt HZ.out (openF_no HM.out hml hn) (by decide))
      have F2 : Hid ((ndK s.nd m).up = aheadI s.op k → holdB (ndK s.nd m) = true → openF s.nd s.op k = 0) := Hid.mk' (fun a b => openF_yes HM.out hml a b)
      have AS : Hid (aheadI s.op (k + 1) = (m : Int)) := Hid.mk' (by rw [aheadI_succ]; exact HM.out)
      have HD : Hid (holdB (ndK s.nd m) = (!((ndK s.nd m).tg.toList == []) && !voidB (ndK s.nd m).tg)) := Hid.mk' rfl
      have KT := Hid.mk' (KV.out (ndK s.nd m).tg w)
      rw [hm] at KI u0
      have KI := Hid.mk' KI
      clear hr hm hnode
      generalize hup : (ndK s.nd m).up = up at *
      generalize hah : aheadI s.op k = ah at *
      generalize htg : (ndK s.nd m).tg = tg at *
      by_cases e1 : up = ah
      rotate_left
      · have e2 : (up != ah) = true := by simp [e1]
        have E : Hid (opensF s.nd s.op = 1) := Hid.mk' (F1.out (fun h => e1 h.1))
        clear e1 F1 F2 hup hah htg
        go_wp2_with fail
        refine KI.out.mono ?_
        rintro e w2 ⟨rfl, hw⟩
        obtain rfl := hw.symm
        go_wp2_with (first | go_big_skip)
        go_ret
        exact ⟨by rw [E.out]; rfl, rfl⟩
      have e2 : (up != ah) = false := by simp [e1]
      cases h3 : (tg.toList == []) with
      | true =>
        have E : Hid (opensF s.nd s.op = 1) := Hid.mk' (F1.out (fun h => absurd h.2 (by rw [HD.out, h3]; simp)))
        clear e1 F1 F2 hup hah htg HD
        go_wp2_with fail
        refine KI.out.mono ?_
        rintro e w2 ⟨rfl, hw⟩
        obtain rfl := hw.symm
        go_wp2_with (first | go_big_skip)
        go_ret
        exact ⟨by rw [E.out]; rfl, rfl⟩
      | false =>
        cases h4 : voidB tg with
        | true =>
          rw [h4] at KT
          have E : Hid (opensF s.nd s.op = 1) := Hid.mk' (F1.out (fun h => absurd h.2 (by rw [HD.out, h4]; simp)))
          clear e1 F1 F2 hup hah htg HD h4
          go_wp2_with fail
          refine KI.out.mono ?_
          rintro e w2 ⟨rfl, hw⟩
          obtain rfl := hw.symm
          go_wp2_with (first | go_big_skip | (go_at_call 45; refine KT.out.mono ?_; rintro e w9 ⟨rfl, hw9⟩; obtain rfl := hw9.symm))
          go_ret
          exact ⟨by rw [E.out]; rfl, rfl⟩
        | false =>
          rw [h4] at KT
          have E : Hid (openF s.nd s.op k = 0) := Hid.mk' (F2.out e1 (by rw [HD.out, h3, h4]; rfl))
          clear e1 F1 F2 hup hah htg HD h4
          go_wp2_with fail
          refine KI.out.mono ?_
          rintro e w2 ⟨rfl, hw⟩
          obtain rfl := hw.symm
          go_wp2_with (first | go_big_skip | (go_at_call 45; refine KT.out.mono ?_; rintro e w9 ⟨rfl, hw9⟩; obtain rfl := hw9.symm))
          go_round
          case rel => exact ⟨k + 1, by omega, by go_num, by rw [AS.out], fun j hj => by
            by_cases h : j = k
            · subst h; exact E.out
            · exact HZ.out j (by omega)⟩
          case measure => simp [intOf]; omega
    · have ci : ¬ (k : Int) < (s.op.length : Int) := by omega
      have e : k = s.op.length := by omega
      subst e
      have E : Hid (opensF s.nd s.op = 0) := Hid.mk' (opensF_none HZ.out)
      clear hz
      go_wp2
      go_ret
      exact ⟨by rw [E.out]; rfl, rfl⟩

end Go.Proofs.Ytpncbcmngfpkfaa
