/- The program's tree of nodes. -/
import Derived.Test.YtpncbcmngfpkfaaGreatU5
import Derived.Test.YtpncbcmngfpkfaaGreatU4
import Derived.Test.YtpncbcmngfpkfaaGreatU2
import Derived.Test.YtpncbcmngfpkfaaGreatU3
namespace Go.Proofs.YtpncbcmngfpkfaaGreat
open Go.RowKit
set_option linter.unusedVariables false
set_option linter.unusedSimpArgs false

/-- Nodes lie at an address; where the attributes of each one lie is told by two functions. -/
theorem NsAt.fn {w : World} {b o : Nat} {l : List ND} (hc : ∀ k, k < l.length → w.cell? ⟨b, o + k * 4, none⟩ = some (.int .i64 (ndK l k).up) ∧ w.cell? ⟨b, o + k * 4 + 1, none⟩ = some (.string (ndK l k).tg) ∧ (∃ p c, w.cell? ⟨b, o + k * 4 + 2, none⟩ = some (.slice p (ndK l k).at_.length c) ∧ (ndK l k).at_.length ≤ c ∧ AAt w p (ndK l k).at_) ∧ (∃ p c, w.cell? ⟨b, o + k * 4 + 3, none⟩ = some (.slice p (ndK l k).tx.length c) ∧ BAt w p (ndK l k).tx)) :
    ∃ (pa : Nat → Option Addr) (ca : Nat → Nat) (pt : Nat → Option Addr) (ct : Nat → Nat), ∀ k, k < l.length → w.cell? ⟨b, o + k * 4, none⟩ = some (.int .i64 (ndK l k).up) ∧ w.cell? ⟨b, o + k * 4 + 1, none⟩ = some (.string (ndK l k).tg) ∧ w.cell? ⟨b, o + k * 4 + 2, none⟩ = some (.slice (pa k) (ndK l k).at_.length (ca k)) ∧ AAt w (pa k) (ndK l k).at_ ∧ w.cell? ⟨b, o + k * 4 + 3, none⟩ = some (.slice (pt k) (ndK l k).tx.length (ct k)) := by
  classical
  refine ⟨fun k => if h : k < l.length then (hc k h).2.2.1.choose else none, fun k => if h : k < l.length then (hc k h).2.2.1.choose_spec.choose else 0, fun k => if h : k < l.length then (hc k h).2.2.2.choose else none, fun k => if h : k < l.length then (hc k h).2.2.2.choose_spec.choose else 0, fun k hk => ?_⟩
  simp only [dif_pos hk]
  exact ⟨(hc k hk).1, (hc k hk).2.1, (hc k hk).2.2.1.choose_spec.choose_spec.1, (hc k hk).2.2.1.choose_spec.choose_spec.2.2, (hc k hk).2.2.2.choose_spec.choose_spec.1⟩

/-- What treeOf leaves: a code, or a tree in rows of its own. -/
def TreeP (l : List ND) (w : World) (e : Ending) (w' : World) : Prop :=
  (¬ treeF l = 0 ∧ e = .returned (.tuple #[.agg #[.slice none 0 0, .slice none 0 0], .int .i64 (treeF l)]) ∧ Below w.heap.size w w') ∨
  (treeF l = 0 ∧ ∃ pa ca g vn vw, e = .returned (.tuple #[.agg #[vn, vw], .int .i64 0]) ∧ TT w w.heap.size g l pa ca l.length vn vw w')

theorem own_base {w : World} {base base' : Nat} {e : TypeId} {size : Nat} {v : Value} {n : Nat} {xs : List Value} (h : w.ownsRow base e size v n xs) (hb : base' ≤ base) : w.ownsRow base' e size v n xs := by
  refine ⟨h.1, ?_⟩
  rcases h.2 with h | ⟨g, cap, cur, h1, h2, h3⟩
  · exact .inl h
  · exact .inr ⟨g, cap, cur, h1, Nat.le_trans hb h2, h3⟩

/-- The tree is handed back: the box of the answer is written. -/
theorem TT.fin {w W0 wr : World} {g : Nat} {l : List ND} {pa : Nat → Option Addr} {ca : Nat → Nat} {k : Nat} {vn vw u u' : Value} (h : TT W0 (w.heap.size + 1) g l pa ca k vn vw wr) (hB : Below w.heap.size w W0) : TT w w.heap.size g l pa ca k vn vw ((wr.setCell ⟨w.heap.size, 0, none⟩ u).setCell ⟨w.heap.size, 1, none⟩ u') := by
  have hg := h.bg
  have n1 : ¬ vn.ownBlock = some w.heap.size := fun e => by have := own_lo h.on _ e; omega
  have n2 : ¬ vw.ownBlock = some w.heap.size := fun e => by have := own_lo h.ow _ e; omega
  refine ⟨(h.box.setOther (a := ⟨w.heap.size, 0, none⟩) (by dsimp only; omega) u).setOther (a := ⟨w.heap.size, 1, none⟩) (by dsimp only; omega) u', own_base (own_set (own_set h.on n1) n1) (by omega), own_base (own_set (own_set h.ow n2) n2) (by omega), h.ap, h.an, h.aw, ?_, ?_, by omega⟩
  · exact ((hB.trans (h.bl.mono (by omega))).setCell (p := ⟨w.heap.size, 0, none⟩) (Nat.le_refl _) _).setCell (p := ⟨w.heap.size, 1, none⟩) (Nat.le_refl _) _
  · have := h.sz; simp [World.setCell]; omega

set_option maxRecDepth 100000 in
set_option maxHeartbeats 16000000 in
theorem treeOf_any (a : Option Addr) (c : Nat) (l : List ND) (w : World) (ha : NsAt w a l) (hl : (l.length : Int) + nssz l ≤ 1048576) :
    Calls Tryz.prog 69 #[.slice a l.length c] w fun e w' => TreeP l w e w' := by
  by_cases h60 : (l.length : Int) > 60
  · have E : Hid (treeF l = 2) := Hid.mk' (by unfold treeF; rw [if_pos (by omega)])
    go_enter Tryz.func69, Tryz.ntmps69
    go_wp2
    refine bodyPost_ret (v := .tuple #[.agg #[.slice none 0 0, .slice none 0 0], .int .i64 2]) (by simp [results, Tryz.results69, go_sem, *]) rfl ?_
    exact .inl ⟨by rw [E.out]; decide, by rw [E.out], below_new _ _⟩
  have hle : l.length ≤ 60 := by omega
  have HN : Hid (∃ (b o : Nat) (pa : Nat → Option Addr) (ca : Nat → Nat) (pt : Nat → Option Addr) (ct : Nat → Nat), (0 < l.length → a = some ⟨b, o, none⟩ ∧ b < w.heap.size) ∧ ∀ k, k < l.length → w.cell? ⟨b, o + k * 4, none⟩ = some (.int .i64 (ndK l k).up) ∧ w.cell? ⟨b, o + k * 4 + 1, none⟩ = some (.string (ndK l k).tg) ∧ w.cell? ⟨b, o + k * 4 + 2, none⟩ = some (.slice (pa k) (ndK l k).at_.length (ca k)) ∧ AAt w (pa k) (ndK l k).at_ ∧ w.cell? ⟨b, o + k * 4 + 3, none⟩ = some (.slice (pt k) (ndK l k).tx.length (ct k))) := by
    rcases ha with ha | ⟨b, o, rfl, hbs, hc⟩
    · exact ⟨0, 0, fun _ => none, fun _ => 0, fun _ => none, fun _ => 0, fun h => by rw [ha] at h; exact absurd h (Nat.not_lt_zero _), fun k h => by rw [ha] at h; exact absurd h (Nat.not_lt_zero _)⟩
    · obtain ⟨pa, ca, pt, ct, h⟩ := NsAt.fn hc
      exact ⟨b, o, pa, ca, pt, ct, fun _ => ⟨rfl, hbs⟩, h⟩
  obtain ⟨b, o, pa, ca, pt, ct, hab, hcell⟩ := HN.out
  have HA := Hid.mk' hab
  have HCl := Hid.mk' hcell
  clear HN ha hab hcell
  have B0 := below_new w (.cells #[.slice none 0 0, .slice none 0 0] 110)
  have R0 := (rowp2 w 110 (.slice none 0 0) (.slice none 0 0))
  have z0 : (w.alloc (.cells #[.slice none 0 0, .slice none 0 0] 110)).heap.size = w.heap.size + 1 := by simp
  have TS : TT (w.alloc (.cells #[.slice none 0 0, .slice none 0 0] 110)) (w.heap.size + 1) (w.heap.size + 1 + 1) l pa ca 0 (.slice none 0 0) (.slice (some ⟨w.heap.size + 1, 0, none⟩) 1 1) (((w.alloc (.cells #[.slice none 0 0, .slice none 0 0] 110)).alloc (.cells #[.int .i64 (-1)] 2)).alloc (.cells #[.slice none 0 0, .slice (some ⟨w.heap.size + 1, 0, none⟩) 1 1] 110)) := by
    generalize hW0 : w.alloc (.cells #[.slice none 0 0, .slice none 0 0] 110) = W0 at *
    have z1 : (W0.alloc (.cells #[.int .i64 (-1)] 2)).heap.size = w.heap.size + 1 + 1 := by simp [z0]
    have RB := rowp2 (W0.alloc (.cells #[.int .i64 (-1)] 2)) 110 (.slice none 0 0) (.slice (some ⟨w.heap.size + 1, 0, none⟩) 1 1)
    rw [z1] at RB
    have OW : (W0.alloc (.cells #[.int .i64 (-1)] 2)).ownsRow (w.heap.size + 1) 2 1 (.slice (some ⟨w.heap.size + 1, 0, none⟩) 1 1) 1 (ics [-1]) := by
      have := World.ownsRow_lit (base := w.heap.size + 1) (e := 2) (size := 1) W0 #[.int .i64 (-1)] 1 (by omega) (by unfold maxLen; omega) rfl
      rw [z0] at this
      exact this
    refine ⟨RB, ⟨rfl, .inl ⟨rfl, rfl⟩⟩, OW.alloc _, Ap.nil_left _, by simp [Value.ownBlock], by simp [Value.ownBlock], ?_, ?_, by omega⟩
    · exact ((Below.refl _ _).alloc (by omega) _).alloc (by simp; omega) _
    · simp; omega
  obtain ⟨W0, hW0⟩ : ∃ W0, w.alloc (.cells #[.slice none 0 0, .slice none 0 0] 110) = W0 := ⟨_, rfl⟩
  have HTS : Hid (TT W0 (w.heap.size + 1) (w.heap.size + 1 + 1) l pa ca 0 (.slice none 0 0) (.slice (some ⟨w.heap.size + 1, 0, none⟩) 1 1) (((w.alloc (.cells #[.slice none 0 0, .slice none 0 0] 110)).alloc (.cells #[.int .i64 (-1)] 2)).alloc (.cells #[.slice none 0 0, .slice (some ⟨w.heap.size + 1, 0, none⟩) 1 1] 110))) := Hid.mk' (by have := TS; rw [hW0] at this; rw [hW0]; exact this)
  rw [hW0] at B0 R0 z0
  have HB0 := Hid.mk' B0
  have HR0 := Hid.mk' R0
  have Z0 := Hid.mk' z0
  clear B0 R0 z0 TS hW0
  go_enter Tryz.func69, Tryz.ntmps69
  go_wp2_with fail
  go_loopw [17] (fun i wr => ∃ k : Nat, k ≤ l.length ∧ i = .int .i64 k ∧ (∀ j, j < k → oneF l j = 0) ∧ ∃ vn vw, TT W0 (w.heap.size + 1) (w.heap.size + 1 + 1) l pa ca k vn vw wr) (fun i _ => l.length - (intOf i).toNat)
  case atStart =>
    exact ⟨0, Nat.zero_le _, rfl, fun j h => absurd h (Nat.not_lt_zero _), _, _, HTS.out⟩
  case round =>
    obtain ⟨k, hk, rfl, hz, vn, vw, hT⟩ := hrel
    have HT := Hid.mk' hT
    have HZ := Hid.mk' hz
    clear hT hz
    by_cases hlt : k < l.length
    · have ci : (k : Int) < (l.length : Int) := by omega
      obtain ⟨rfl, hbs⟩ := HA.out (by omega)
      obtain ⟨q0, q1, q2, q3, q4⟩ := HCl.out k hlt
      have bl0 : Below w.heap.size w wr := HB0.out.trans (HT.out.bl.mono (by omega))
      have c0 := (bl0.cell hbs).trans q0
      have c1 := (bl0.cell hbs).trans q1
      have c2 := (bl0.cell hbs).trans q2
      have c3 := (bl0.cell hbs).trans q4
      have G := (ways_of HZ.out).good
      have gle := G.le
      obtain ⟨bw, cw, ew, w1_, w2_, w3_, hIA⟩ := own_iat HT.out.ow (by have := G.ne; omega)
      subst ew
      have AA := Hid.mk' (q3.below bl0)
      have hsz := nssz_at hlt
      have N1 := below_new wr (.cells #[.int .i64 (ndK l k).up, .string (ndK l k).tg, .slice (pa k) (ndK l k).at_.length (ca k), .slice (pt k) (ndK l k).tx.length (ct k)] 104)
      have HN1 := Hid.mk' N1
      have RN := Hid.mk' (row4 wr 104 (.int .i64 (ndK l k).up) (.string (ndK l k).tg) (.slice (pa k) (ndK l k).at_.length (ca k)) (.slice (pt k) (ndK l k).tx.length (ct k)))
      have IA := Hid.mk' (hIA.below N1)
      have HT1 := Hid.mk' (HT.out.below N1)
      have AA1 := Hid.mk' (AA.out.below N1)
      obtain ⟨p9, n9, c9, hV⟩ := mkV_slice (ndK l k) l pa ca k
      have KM : Hid (∀ w', Calls Tryz.prog 92 #[.agg #[.int .i64 (ndK l k).up, .string (ndK l k).tg, .slice (pa k) (ndK l k).at_.length (ca k), .slice (pt k) (ndK l k).tx.length (ct k)]] w' fun e w'' => e = .returned (.agg #[.int .i64 (mkK (ndK l k)), .string (mkS (ndK l k)), .slice p9 n9 c9]) ∧ Below w'.heap.size w' w'') := fun w' => by
        have := markOf_any (ndK l k) (pa k) (pt k) (ca k) (ct k) w'
        rw [show mkV (ndK l k) (.slice (pa k) (ndK l k).at_.length (ca k)) = .slice p9 n9 c9 from hV] at this
        exact this
      have HV := Hid.mk' hV
      clear hsz N1 hIA G q0 q1 q2 q3 q4 hV AA w1_ w3_ HT
      generalize hW : wr.alloc (.cells #[.int .i64 (ndK l k).up, .string (ndK l k).tg, .slice (pa k) (ndK l k).at_.length (ca k), .slice (pt k) (ndK l k).tx.length (ct k)] 104) = W at *
      go_wp2_with fail
      clear hW c0 c1 c2 c3
      have KI : Hid (∀ w', Below W.drew.heap.size W.drew w' → Calls Tryz.prog 93 #[.slice (some ⟨bw, 0, none⟩) (wayU (upF l) k).length cw, .int .i64 (ndK l k).up] w' fun e w'' => e = .returned (.int .i64 (ixI (wayU (upF l) k) (ndK l k).up)) ∧ w'' = w') := fun w' hb => indexI_any _ _ _ _ _ (IA.out.below (undrew hb)) (by omega)
      obtain ⟨r0, r1, r2, r3_, r4_⟩ := cells4 RN.out
      obtain ⟨t0, t1, t2⟩ := cells2 HT1.out.box
      have HWD : Hid (Below W.heap.size W W.drew) := Hid.mk' ((Below.refl _ _).drew)
      refine Code.wp_mono (Q := fun ex a' w' => ex = .normal ∧ ∃ x, W.heap.size ≤ x ∧ a' = ({ tmps := ((.slice (some ⟨b, o, none⟩) l.length c : Value) :: undef :: .pointer (some ⟨w.heap.size, 0, none⟩) :: u3 :: .pointer (some ⟨w.heap.size + 1 + 1, 0, none⟩) :: undef :: .pointer (some ⟨wr.heap.size, 0, none⟩) :: .pointer (some ⟨x, 0, none⟩) :: u8 :: .slice (some ⟨b, o, none⟩) l.length c :: .int .i64 (l.length : Int) :: .bool false :: undef :: .slice (some ⟨w.heap.size + 1, 0, none⟩) 1 1 :: .agg #[.slice none 0 0, .slice (some ⟨w.heap.size + 1, 0, none⟩) 1 1] :: .slice (some ⟨b, o, none⟩) l.length c :: .int .i64 (l.length : Int) :: .int .i64 (k : Int) :: .bool true :: .pointer (some ⟨b, o + k * 4, none⟩) :: .agg #[.int .i64 (ndK l k).up, .string (ndK l k).tg, .slice (pa k) (ndK l k).at_.length (ca k), .slice (pt k) (ndK l k).tx.length (ct k)] :: .agg #[.int .i64 (ndK l k).up, .string (ndK l k).tg, .slice (pa k) (ndK l k).at_.length (ca k), .slice (pt k) (ndK l k).tx.length (ct k)] :: .agg #[.int .i64 (mkK (ndK l k)), .string (mkS (ndK l k)), .slice p9 n9 c9] :: .pointer (some ⟨wr.heap.size, 0, none⟩) :: .int .i64 (ndK l k).up :: .pointer (some ⟨w.heap.size + 1 + 1, 1, none⟩) :: .slice (some ⟨bw, 0, none⟩) (wayU (upF l) k).length cw :: .pointer (some ⟨wr.heap.size, 0, none⟩) :: .int .i64 (ndK l k).up :: .int .i64 (ixI (wayU (upF l) k) (ndK l k).up) :: .agg #[.int .i64 (mkK (ndK l k)), .string (mkS (ndK l k)), .slice p9 n9 c9, .int .i64 (ndK l k).up, .int .i64 (ixI (wayU (upF l) k) (ndK l k).up)] :: u31 :: u32 :: u33 :: u34 :: u35 :: u36 :: u37 :: u38 :: u39 :: undef :: []).toArray, defers := [] } : Act) ∧ Below W.heap.size W w' ∧ w'.rowIs x 139 5 (r5 (.int .i64 (mkK (ndK l k))) (.string (mkS (ndK l k))) (.slice p9 n9 c9) (.int .i64 (ndK l k).up) (.int .i64 (ixI (wayU (upF l) k) (ndK l k).up)))) ?_ ?_
      rotate_left
      · refine wp_region_held_drew (S := fun w' => Below W.drew.heap.size W.drew w') (by kernel_rfl) (Below.refl _ _) (fun hHeld => ?_)
        have f0 : ∀ w', Below W.drew.heap.size W.drew w' → w'.cell? ⟨wr.heap.size, 0, none⟩ = some (.int .i64 (ndK l k).up) ∧ w'.cell? ⟨wr.heap.size, 1, none⟩ = some (.string (ndK l k).tg) ∧ w'.cell? ⟨wr.heap.size, 2, none⟩ = some (.slice (pa k) (ndK l k).at_.length (ca k)) ∧ w'.cell? ⟨wr.heap.size, 3, none⟩ = some (.slice (pt k) (ndK l k).tx.length (ct k)) ∧ w'.cell? ⟨w.heap.size + 1 + 1, 1, none⟩ = some (.slice (some ⟨bw, 0, none⟩) (wayU (upF l) k).length cw) := fun w' hb => ⟨((undrew hb).cell r4_).trans r0, ((undrew hb).cell r4_).trans r1, ((undrew hb).cell r4_).trans r2, ((undrew hb).cell r4_).trans r3_, ((undrew hb).cell t2).trans t1⟩
        have BC := Hid.mk' (Below.refl W.drew.heap.size W.drew)
        have F0 := Hid.mk' f0
        have SZ : Hid (W.drew.heap.size = W.heap.size) := Hid.mk' rfl
        clear f0 r0 r1 r2 r3_ t0 t1
        generalize hVd : W.drew = V at *
        clear hVd
        refine wpAnyH_take (i := 0) (oi := ⟨_, _, _, _, _, _⟩) (v := ?_) rfl (by kernel_rfl) (by kernel_rfl) (by kernel_rfl) (fun _ _ _ h => absurd h.1 (by simp)) (Or.inl ⟨by rfl, ?_⟩) (by assumption) ?_
        rotate_left
        · (intro w' hSw; obtain ⟨u0, u1, u2, u3, u4⟩ := F0.out w' hSw; (try dsimp only at hSw); go_simp; (try with_reducible rfl))
        try simp only [Act.put, List.setIfInBounds_toArray, List.set_cons_zero, List.set_cons_succ]
        refine wpAnyH_take (i := 2) (oi := ⟨_, _, _, _, _, _⟩) (v := ?_) rfl (by kernel_rfl) (by kernel_rfl) (by kernel_rfl) (fun _ _ _ h => absurd h.1 (by simp)) (Or.inl ⟨by rfl, ?_⟩) (by assumption) ?_
        rotate_left
        · (intro w' hSw; obtain ⟨u0, u1, u2, u3, u4⟩ := F0.out w' hSw; (try dsimp only at hSw); go_simp; (try with_reducible rfl))
        try simp only [Act.put, List.setIfInBounds_toArray, List.set_cons_zero, List.set_cons_succ]
        refine wpAnyH_take (i := 3) (oi := ⟨_, _, _, _, _, _⟩) (v := ?_) rfl (by kernel_rfl) (by kernel_rfl) (by kernel_rfl) (fun _ _ _ h => absurd h.1 (by simp)) (Or.inl ⟨by rfl, ?_⟩) (by assumption) ?_
        rotate_left
        · (intro w' hSw; obtain ⟨u0, u1, u2, u3, u4⟩ := F0.out w' hSw; (try dsimp only at hSw); go_simp; (try with_reducible rfl))
        try simp only [Act.put, List.setIfInBounds_toArray, List.set_cons_zero, List.set_cons_succ]
        refine wpAnyH_take (i := 4) (oi := ⟨_, _, _, _, _, _⟩) (v := ?_) rfl (by kernel_rfl) (by kernel_rfl) (by kernel_rfl) (fun _ _ _ h => absurd h.1 (by simp)) (Or.inl ⟨by rfl, ?_⟩) (by assumption) ?_
        rotate_left
        · (intro w' hSw; obtain ⟨u0, u1, u2, u3, u4⟩ := F0.out w' hSw; (try dsimp only at hSw); go_simp; (try with_reducible rfl))
        try simp only [Act.put, List.setIfInBounds_toArray, List.set_cons_zero, List.set_cons_succ]
        refine wpAnyH_take (i := 5) (oi := ⟨_, _, _, _, _, _⟩) (v := ?_) rfl (by kernel_rfl) (by kernel_rfl) (by kernel_rfl) (fun _ _ _ h => absurd h.1 (by simp)) (Or.inl ⟨by rfl, ?_⟩) (by assumption) ?_
        rotate_left
        · (intro w' hSw; obtain ⟨u0, u1, u2, u3, u4⟩ := F0.out w' hSw; (try dsimp only at hSw); go_simp; (try with_reducible rfl))
        try simp only [Act.put, List.setIfInBounds_toArray, List.set_cons_zero, List.set_cons_succ]
        refine wpAnyH_take (i := 6) (oi := ⟨_, _, _, _, _, _⟩) (v := ?_) rfl (by kernel_rfl) (by kernel_rfl) (by kernel_rfl) (fun _ _ _ h => absurd h.1 (by simp)) (Or.inl ⟨by rfl, ?_⟩) (by assumption) ?_
        rotate_left
        · (intro w' hSw; obtain ⟨u0, u1, u2, u3, u4⟩ := F0.out w' hSw; (try dsimp only at hSw); go_simp; (try with_reducible rfl))
        try simp only [Act.put, List.setIfInBounds_toArray, List.set_cons_zero, List.set_cons_succ]
        refine wpAnyH_take (i := 7) (oi := ⟨_, _, _, _, _, _⟩) (v := ?_) rfl (by kernel_rfl) (by kernel_rfl) (by kernel_rfl) (fun _ _ _ h => absurd h.1 (by simp)) (Or.inl ⟨by rfl, ?_⟩) (by assumption) ?_
        rotate_left
        · (intro w' hSw; obtain ⟨u0, u1, u2, u3, u4⟩ := F0.out w' hSw; (try dsimp only at hSw); go_simp; (try with_reducible rfl))
        try simp only [Act.put, List.setIfInBounds_toArray, List.set_cons_zero, List.set_cons_succ]
        refine wpAnyH_ready (rs := [1, 10]) (by kernel_rfl) (by simp) ?_
        refine AllReadyH.cons (o := ⟨_, _, _, _, _, _⟩) rfl (fun K hK => ?_) (AllReadyH.cons (o := ⟨_, _, _, _, _, _⟩) rfl (fun K hK => ?_) AllReadyH.nil)
        · go_simp
          go_at_call 92; refine (KM.out _).mono ?_; rintro e wm ⟨rfl, hb⟩; have BC := Hid.mk' (BC.out.trans (hb.mono BC.out.size))
          clear hb
          refine hK.out _ _ BC.out (fun hHeld => ?_)
          clear hK K
          try simp only [Act.put, List.setIfInBounds_toArray, List.set_cons_zero, List.set_cons_succ]
          refine wpAnyH_ready (rs := [8, 10]) (by kernel_rfl) (by simp) ?_
          refine AllReadyH.cons (o := ⟨_, _, _, _, _, _⟩) rfl (fun K hK => ?_) (AllReadyH.cons (o := ⟨_, _, _, _, _, _⟩) rfl (fun K hK => ?_) AllReadyH.nil)
          · go_simp
            go_at_call 93; refine (KI.out _ BC.out).mono ?_; rintro e wi ⟨rfl, hw9⟩; obtain rfl := hw9.symm
            refine hK.out _ _ BC.out (fun hHeld => ?_)
            clear hK K
            try simp only [Act.put, List.setIfInBounds_toArray, List.set_cons_zero, List.set_cons_succ]
            refine wpAnyH_take (i := 9) (oi := ⟨_, _, _, _, _, _⟩) (v := ?_) rfl (by kernel_rfl) (by kernel_rfl) (by kernel_rfl) (fun _ _ _ h => absurd h.1 (by simp)) (Or.inl ⟨by rfl, ?_⟩) (by assumption) ?_
            rotate_left
            · (intro w hSw; (try dsimp only at hSw); go_simp; (try with_reducible rfl))
            try simp only [Act.put, List.setIfInBounds_toArray, List.set_cons_zero, List.set_cons_succ]
            refine wpAnyH_ready (rs := [10]) (by kernel_rfl) (by simp) ?_
            refine AllReadyH.cons (o := ⟨_, _, _, _, _, _⟩) rfl (fun K hK => ?_) AllReadyH.nil
            · go_simp
              have BC := Hid.mk' (BC.out.alloc BC.out.size (.cells #[.int .i64 0, .string ⟨#[]⟩, .slice none 0 0, .int .i64 0, .int .i64 0] 139))
              have RX := Hid.mk' (row5 wm 139 (.int .i64 0) (.string ⟨#[]⟩) (.slice none 0 0) (.int .i64 0) (.int .i64 0))
              have XL : Hid (W.heap.size ≤ wm.heap.size) := Hid.mk' (SZ.out ▸ hHeld.size)
              generalize hwa : wm.alloc (.cells #[.int .i64 0, .string ⟨#[]⟩, .slice none 0 0, .int .i64 0, .int .i64 0] 139) = wa at *
              refine hK.out _ _ BC.out (fun hHeld => ?_)
              clear hK K
              try simp only [Act.put, List.setIfInBounds_toArray, List.set_cons_zero, List.set_cons_succ]
              generalize hx : wm.heap.size = x at *
              obtain ⟨s0, s1, s2, s3, s4, s5⟩ := cells5 RX.out
              have g0 := RX.out.frozen 0
              have g1 := RX.out.frozen 1
              have g2 := RX.out.frozen 2
              have g3 := RX.out.frozen 3
              have g4 := RX.out.frozen 4
              have XG : V.heap.size ≤ x := by have := XL.out; have := SZ.out; omega
              refine wpAnyH_ready (rs := [11]) (by kernel_rfl) (by simp) ?_
              refine AllReadyH.cons (o := ⟨_, _, _, _, _, _⟩) rfl (fun K hK => ?_) AllReadyH.nil
              go_simp
              have B9 := (((((BC.out.setCell (p := ⟨x, 0, none⟩) XG (.int .i64 (mkK (ndK l k)))).setCell (p := ⟨x, 1, none⟩) XG (.string (mkS (ndK l k)))).setCell (p := ⟨x, 2, none⟩) XG (.slice p9 n9 c9)).setCell (p := ⟨x, 3, none⟩) XG (.int .i64 (ndK l k).up)).setCell (p := ⟨x, 4, none⟩) XG (.int .i64 (ixI (wayU (upF l) k) (ndK l k).up)))
              have R9 := (((((RX.out.set 0 (.int .i64 (mkK (ndK l k)))).set 1 (.string (mkS (ndK l k)))).set 2 (.slice p9 n9 c9)).set 3 (.int .i64 (ndK l k).up)).set 4 (.int .i64 (ixI (wayU (upF l) k) (ndK l k).up))).congr (g := r5 (.int .i64 (mkK (ndK l k))) (.string (mkS (ndK l k))) (.slice p9 n9 c9) (.int .i64 (ndK l k).up) (.int .i64 (ixI (wayU (upF l) k) (ndK l k).up))) (fun i hi => by have h5 : i = 0 ∨ i = 1 ∨ i = 2 ∨ i = 3 ∨ i = 4 := (by omega); rcases h5 with rfl | rfl | rfl | rfl | rfl <;> rfl)
              refine hK.out _ _ B9 (fun hHeld => ?_)
              clear hK K
              try simp only [Act.put, List.setIfInBounds_toArray, List.set_cons_zero, List.set_cons_succ]
              refine wpAnyH_done (by kernel_rfl) ?_ _
              exact ⟨rfl, x, XL.out, rfl, HWD.out.trans (B9.mono (by have := SZ.out; omega)), R9⟩
          · go_simp
            have BC := Hid.mk' (BC.out.alloc BC.out.size (.cells #[.int .i64 0, .string ⟨#[]⟩, .slice none 0 0, .int .i64 0, .int .i64 0] 139))
            have RX := Hid.mk' (row5 wm 139 (.int .i64 0) (.string ⟨#[]⟩) (.slice none 0 0) (.int .i64 0) (.int .i64 0))
            have XL : Hid (W.heap.size ≤ wm.heap.size) := Hid.mk' (SZ.out ▸ hHeld.size)
            generalize hwa : wm.alloc (.cells #[.int .i64 0, .string ⟨#[]⟩, .slice none 0 0, .int .i64 0, .int .i64 0] 139) = wa at *
            refine hK.out _ _ BC.out (fun hHeld => ?_)
            clear hK K
            try simp only [Act.put, List.setIfInBounds_toArray, List.set_cons_zero, List.set_cons_succ]
            refine wpAnyH_ready (rs := [8]) (by kernel_rfl) (by simp) ?_
            refine AllReadyH.cons (o := ⟨_, _, _, _, _, _⟩) rfl (fun K hK => ?_) AllReadyH.nil
            · go_simp
              go_at_call 93; refine (KI.out _ BC.out).mono ?_; rintro e wi ⟨rfl, hw9⟩; obtain rfl := hw9.symm
              refine hK.out _ _ BC.out (fun hHeld => ?_)
              clear hK K
              try simp only [Act.put, List.setIfInBounds_toArray, List.set_cons_zero, List.set_cons_succ]
              refine wpAnyH_take (i := 9) (oi := ⟨_, _, _, _, _, _⟩) (v := ?_) rfl (by kernel_rfl) (by kernel_rfl) (by kernel_rfl) (fun _ _ _ h => absurd h.1 (by simp)) (Or.inl ⟨by rfl, ?_⟩) (by assumption) ?_
              rotate_left
              · (intro w hSw; (try dsimp only at hSw); go_simp; (try with_reducible rfl))
              try simp only [Act.put, List.setIfInBounds_toArray, List.set_cons_zero, List.set_cons_succ]
              generalize hx : wm.heap.size = x at *
              obtain ⟨s0, s1, s2, s3, s4, s5⟩ := cells5 RX.out
              have g0 := RX.out.frozen 0
              have g1 := RX.out.frozen 1
              have g2 := RX.out.frozen 2
              have g3 := RX.out.frozen 3
              have g4 := RX.out.frozen 4
              have XG : V.heap.size ≤ x := by have := XL.out; have := SZ.out; omega
              refine wpAnyH_ready (rs := [11]) (by kernel_rfl) (by simp) ?_
              refine AllReadyH.cons (o := ⟨_, _, _, _, _, _⟩) rfl (fun K hK => ?_) AllReadyH.nil
              go_simp
              have B9 := (((((BC.out.setCell (p := ⟨x, 0, none⟩) XG (.int .i64 (mkK (ndK l k)))).setCell (p := ⟨x, 1, none⟩) XG (.string (mkS (ndK l k)))).setCell (p := ⟨x, 2, none⟩) XG (.slice p9 n9 c9)).setCell (p := ⟨x, 3, none⟩) XG (.int .i64 (ndK l k).up)).setCell (p := ⟨x, 4, none⟩) XG (.int .i64 (ixI (wayU (upF l) k) (ndK l k).up)))
              have R9 := (((((RX.out.set 0 (.int .i64 (mkK (ndK l k)))).set 1 (.string (mkS (ndK l k)))).set 2 (.slice p9 n9 c9)).set 3 (.int .i64 (ndK l k).up)).set 4 (.int .i64 (ixI (wayU (upF l) k) (ndK l k).up))).congr (g := r5 (.int .i64 (mkK (ndK l k))) (.string (mkS (ndK l k))) (.slice p9 n9 c9) (.int .i64 (ndK l k).up) (.int .i64 (ixI (wayU (upF l) k) (ndK l k).up))) (fun i hi => by have h5 : i = 0 ∨ i = 1 ∨ i = 2 ∨ i = 3 ∨ i = 4 := (by omega); rcases h5 with rfl | rfl | rfl | rfl | rfl <;> rfl)
              refine hK.out _ _ B9 (fun hHeld => ?_)
              clear hK K
              try simp only [Act.put, List.setIfInBounds_toArray, List.set_cons_zero, List.set_cons_succ]
              refine wpAnyH_done (by kernel_rfl) ?_ _
              exact ⟨rfl, x, XL.out, rfl, HWD.out.trans (B9.mono (by have := SZ.out; omega)), R9⟩
        · go_simp
          have BC := Hid.mk' (BC.out.alloc BC.out.size (.cells #[.int .i64 0, .string ⟨#[]⟩, .slice none 0 0, .int .i64 0, .int .i64 0] 139))
          have RX := Hid.mk' (row5 V 139 (.int .i64 0) (.string ⟨#[]⟩) (.slice none 0 0) (.int .i64 0) (.int .i64 0))
          have XL : Hid (W.heap.size ≤ V.heap.size) := Hid.mk' (SZ.out ▸ hHeld.size)
          generalize hwa : V.alloc (.cells #[.int .i64 0, .string ⟨#[]⟩, .slice none 0 0, .int .i64 0, .int .i64 0] 139) = wa at *
          refine hK.out _ _ BC.out (fun hHeld => ?_)
          clear hK K
          try simp only [Act.put, List.setIfInBounds_toArray, List.set_cons_zero, List.set_cons_succ]
          refine wpAnyH_ready (rs := [1]) (by kernel_rfl) (by simp) ?_
          refine AllReadyH.cons (o := ⟨_, _, _, _, _, _⟩) rfl (fun K hK => ?_) AllReadyH.nil
          · go_simp
            go_at_call 92; refine (KM.out _).mono ?_; rintro e wm ⟨rfl, hb⟩; have BC := Hid.mk' (BC.out.trans (hb.mono BC.out.size))
            have RX := Hid.mk' (rowB RX.out hb)
            clear hb
            refine hK.out _ _ BC.out (fun hHeld => ?_)
            clear hK K
            try simp only [Act.put, List.setIfInBounds_toArray, List.set_cons_zero, List.set_cons_succ]
            refine wpAnyH_ready (rs := [8]) (by kernel_rfl) (by simp) ?_
            refine AllReadyH.cons (o := ⟨_, _, _, _, _, _⟩) rfl (fun K hK => ?_) AllReadyH.nil
            · go_simp
              go_at_call 93; refine (KI.out _ BC.out).mono ?_; rintro e wi ⟨rfl, hw9⟩; obtain rfl := hw9.symm
              refine hK.out _ _ BC.out (fun hHeld => ?_)
              clear hK K
              try simp only [Act.put, List.setIfInBounds_toArray, List.set_cons_zero, List.set_cons_succ]
              refine wpAnyH_take (i := 9) (oi := ⟨_, _, _, _, _, _⟩) (v := ?_) rfl (by kernel_rfl) (by kernel_rfl) (by kernel_rfl) (fun _ _ _ h => absurd h.1 (by simp)) (Or.inl ⟨by rfl, ?_⟩) (by assumption) ?_
              rotate_left
              · (intro w hSw; (try dsimp only at hSw); go_simp; (try with_reducible rfl))
              try simp only [Act.put, List.setIfInBounds_toArray, List.set_cons_zero, List.set_cons_succ]
              obtain ⟨s0, s1, s2, s3, s4, s5⟩ := cells5 RX.out
              have g0 := RX.out.frozen 0
              have g1 := RX.out.frozen 1
              have g2 := RX.out.frozen 2
              have g3 := RX.out.frozen 3
              have g4 := RX.out.frozen 4
              have XG : V.heap.size ≤ V.heap.size := by have := XL.out; have := SZ.out; omega
              refine wpAnyH_ready (rs := [11]) (by kernel_rfl) (by simp) ?_
              refine AllReadyH.cons (o := ⟨_, _, _, _, _, _⟩) rfl (fun K hK => ?_) AllReadyH.nil
              go_simp
              have B9 := (((((BC.out.setCell (p := ⟨V.heap.size, 0, none⟩) XG (.int .i64 (mkK (ndK l k)))).setCell (p := ⟨V.heap.size, 1, none⟩) XG (.string (mkS (ndK l k)))).setCell (p := ⟨V.heap.size, 2, none⟩) XG (.slice p9 n9 c9)).setCell (p := ⟨V.heap.size, 3, none⟩) XG (.int .i64 (ndK l k).up)).setCell (p := ⟨V.heap.size, 4, none⟩) XG (.int .i64 (ixI (wayU (upF l) k) (ndK l k).up)))
              have R9 := (((((RX.out.set 0 (.int .i64 (mkK (ndK l k)))).set 1 (.string (mkS (ndK l k)))).set 2 (.slice p9 n9 c9)).set 3 (.int .i64 (ndK l k).up)).set 4 (.int .i64 (ixI (wayU (upF l) k) (ndK l k).up))).congr (g := r5 (.int .i64 (mkK (ndK l k))) (.string (mkS (ndK l k))) (.slice p9 n9 c9) (.int .i64 (ndK l k).up) (.int .i64 (ixI (wayU (upF l) k) (ndK l k).up))) (fun i hi => by have h5 : i = 0 ∨ i = 1 ∨ i = 2 ∨ i = 3 ∨ i = 4 := (by omega); rcases h5 with rfl | rfl | rfl | rfl | rfl <;> rfl)
              refine hK.out _ _ B9 (fun hHeld => ?_)
              clear hK K
              try simp only [Act.put, List.setIfInBounds_toArray, List.set_cons_zero, List.set_cons_succ]
              refine wpAnyH_done (by kernel_rfl) ?_ _
              exact ⟨rfl, V.heap.size, XL.out, rfl, HWD.out.trans (B9.mono (by have := SZ.out; omega)), R9⟩
      · intro ex a' w' hR
        obtain ⟨rfl, x, hx, rfl, hb, hrow⟩ := hR
        have HT2 := Hid.mk' (HT1.out.below hb)
        have HX := Hid.mk' hrow
        have HL : Hid ((l.length : Int) + nssz l ≤ 1048576) := Hid.mk' hl
        have KF := faultNext_any W0 (w.heap.size + 1) (w.heap.size + 1 + 1) l pa ca k vn (.slice (some ⟨bw, 0, none⟩) (wayU (upF l) k).length cw) (pa k) (ca k) w' HT2.out hlt hle HZ.out (AA1.out.below hb) hl
        rw [show mkV (ndK l k) (.slice (pa k) (ndK l k).at_.length (ca k)) = .slice p9 n9 c9 from HV.out] at KF
        have KF := Hid.mk' KF
        obtain ⟨s0, s1, s2, s3, s4, s5⟩ := cells5 hrow
        have RR := Hid.mk' (HR0.out.of_block (HT2.out.bl.block _ (by omega)))
        clear hb hrow KM KI IA RN HN1 r4_ t2 HWD HT1 AA1 bl0 hl
        by_cases h0 : oneF l k = 0
        · rw [h0] at KF
          have hd := oneF_dep h0
          have ei : ixI (wayU (upF l) k) (ndK l k).up = (depU (upF l) k : Int) := by unfold ixI; exact if_pos hd
          have H0 := Hid.mk' h0
          have KP : Hid (∀ w', TT W0 (w.heap.size + 1) (w.heap.size + 1 + 1) l pa ca k vn (.slice (some ⟨bw, 0, none⟩) (wayU (upF l) k).length cw) w' → Calls Tryz.prog 95 #[.pointer (some ⟨w.heap.size + 1 + 1, 0, none⟩), .agg #[.int .i64 (mkK (ndK l k)), .string (mkS (ndK l k)), .slice p9 n9 c9, .int .i64 (ndK l k).up, .int .i64 (ixI (wayU (upF l) k) (ndK l k).up)]] w' fun e w'' => (∃ v, e = .returned v) ∧ ∃ vn' vw', TT W0 (w.heap.size + 1) (w.heap.size + 1 + 1) l pa ca (k + 1) vn' vw' w'') := fun w' ht => by
            have := put_any W0 (w.heap.size + 1) (w.heap.size + 1 + 1) l pa ca k vn (.slice (some ⟨bw, 0, none⟩) (wayU (upF l) k).length cw) w' ht (by omega) hd gle
            rw [HV.out] at this
            rw [ei]
            exact this
          clear h0 ei hd
          generalize ixI (wayU (upF l) k) (ndK l k).up = dI at *
          go_wp2_with fail
          refine KF.out.mono ?_
          rintro e w2 ⟨rfl, hb2⟩
          have HT3 := Hid.mk' (HT2.out.below hb2)
          obtain ⟨v0, v1, v2, v3, v4, v5⟩ := cells5 (rowB HX.out hb2)
          clear hb2 KF HT2 s0 s1 s2 s3 s4 s5
          go_wp2_with fail
          refine (KP.out _ HT3.out).mono ?_
          rintro e w3 ⟨⟨vv, rfl⟩, vn', vw', hT'⟩
          have HT4 := Hid.mk' hT'
          clear hT' KP HT3
          go_wp2
          go_roundw
          case rel => exact ⟨k + 1, by omega, by go_num, fun j hj => by
            by_cases h : j = k
            · subst h; exact H0.out
            · exact HZ.out j (by omega), vn', vw', HT4.out⟩
          case measure => simp [intOf]; omega
        · have E : Hid (treeF l = oneF l k) := Hid.mk' (treeF_hit (by omega) hlt HZ.out rfl h0)
          generalize hf : oneF l k = f at *
          go_wp2_with fail
          refine KF.out.mono ?_
          rintro e w2 ⟨rfl, hb2⟩
          have HB2 : Hid (Below w.heap.size w w2) := Hid.mk' ((HB0.out.trans (HT2.out.bl.mono (by omega))).trans (hb2.mono (by have := HT2.out.sz; omega)))
          have RS := rowB RR.out hb2
          obtain ⟨v0, v1, v2⟩ := cells2 RS
          have g0 := RS.frozen 0
          have g1 := RS.frozen 1
          clear hb2 KF RS HT2
          go_wp2
          refine bodyPost_ret (v := .tuple #[.agg #[.slice none 0 0, .slice none 0 0], .int .i64 f]) (by simp [results, Tryz.results69, go_sem, *]) rfl ?_
          refine .inl ⟨by rw [E.out]; exact h0, by rw [E.out], ?_⟩
          exact (HB2.out.setCell (p := ⟨w.heap.size, 0, none⟩) (Nat.le_refl _) _).setCell (p := ⟨w.heap.size, 1, none⟩) (Nat.le_refl _) _
    · have ci : ¬ (k : Int) < (l.length : Int) := by omega
      have e : k = l.length := by omega
      subst e
      have E : Hid (treeF l = 0) := Hid.mk' (treeF_none (by omega) HZ.out)
      obtain ⟨an, cn, ev, _⟩ := own_len HT.out.on
      subst ev
      obtain ⟨aw, cw, ev, _⟩ := own_len HT.out.ow
      subst ev
      obtain ⟨b0, b1, b2⟩ := cells2 HT.out.box
      have RS := HR0.out.of_block (HT.out.bl.block _ (by omega))
      obtain ⟨v0, v1, v2⟩ := cells2 RS
      have g0 := RS.frozen 0
      have g1 := RS.frozen 1
      have F1 := Hid.mk' (HT.out.fin (u := .slice an l.length cn) (u' := .slice aw (wayU (upF l) l.length).length cw) HB0.out)
      clear RS
      go_wp2
      refine bodyPost_ret (v := .tuple #[.agg #[.slice an l.length cn, .slice aw (wayU (upF l) l.length).length cw], .int .i64 0]) (by simp [results, Tryz.results69, go_sem, *]) rfl ?_
      exact .inr ⟨E.out, pa, ca, _, _, _, rfl, F1.out⟩

end Go.Proofs.YtpncbcmngfpkfaaGreat

/- Both sides' TreeFault, and the law on it. -/
namespace Go.Proofs.YtpncbcmngfpkfaaGreat
open Go.RowKit
set_option linter.unusedVariables false
set_option linter.unusedSimpArgs false

set_option maxHeartbeats 1600000 in
theorem l6Fault_any (a : Option Addr) (c : Nat) (l : List ND) (w : World) (ha : NsAt w a l) (hl : (l.length : Int) + nssz l ≤ 1048576) :
    Calls Tryz.prog 55 #[.slice a l.length c] w fun e w' => e = .returned (.int .i64 (treeF l)) ∧ Below w.heap.size w w' := by
  by_cases h60 : (l.length : Int) > 60
  · have E : Hid (treeF l = 2) := Hid.mk' (by unfold treeF; rw [if_pos (by omega)])
    go_enter Tryz.func55, Tryz.ntmps55
    go_wp2
    go_ret
    exact ⟨by rw [E.out]; rfl, Below.refl _ _⟩
  have HA := Hid.mk' ha
  clear ha
  go_enter Tryz.func55, Tryz.ntmps55
  go_wp2
  go_loopw [3] (fun i wr => ∃ k : Nat, k ≤ l.length ∧ i = .int .i64 k ∧ (∀ j, j < k → oneF l j = 0) ∧ Below w.heap.size w wr) (fun i _ => l.length - (intOf i).toNat)
  case atStart => exact ⟨0, Nat.zero_le _, rfl, fun j h => absurd h (Nat.not_lt_zero _), Below.refl _ _⟩
  case round =>
    obtain ⟨k, hk, rfl, hz, hbl⟩ := hrel
    have HZ := Hid.mk' hz
    have HB := Hid.mk' hbl
    by_cases hlt : k < l.length
    · have ci : (k : Int) < (l.length : Int) := by omega
      have KO := l6One_any a c l k wr (HA.out.below hbl) hlt (ways_of hz) hl
      clear hz hbl
      by_cases h0 : oneF l k = 0
      · have H0 := Hid.mk' h0
        rw [h0] at KO
        have KO := Hid.mk' KO
        clear h0
        go_wp2_with fail
        refine KO.out.mono ?_
        rintro e w1 ⟨rfl, hb⟩
        have HB := Hid.mk' (HB.out.trans (hb.mono HB.out.size))
        clear hb KO
        go_wp2
        go_roundw
        case rel => exact ⟨k + 1, by omega, by go_num, fun j hj => by
          by_cases h : j = k
          · subst h; exact H0.out
          · exact HZ.out j (by omega), HB.out⟩
        case measure => simp [intOf]; omega
      · have E : Hid (treeF l = oneF l k) := Hid.mk' (treeF_hit (by omega) hlt HZ.out rfl h0)
        have KO := Hid.mk' KO
        generalize hf : oneF l k = f at *
        go_wp2_with fail
        refine KO.out.mono ?_
        rintro e w1 ⟨rfl, hb⟩
        have HB := Hid.mk' (HB.out.trans (hb.mono HB.out.size))
        clear hb KO
        go_wp2
        go_ret
        exact ⟨by rw [E.out]; rfl, HB.out⟩
    · have ci : ¬ (k : Int) < (l.length : Int) := by omega
      have e : k = l.length := by omega
      subst e
      have E : Hid (treeF l = 0) := Hid.mk' (treeF_none (by omega) HZ.out)
      clear hz hbl
      go_wp2
      go_ret
      exact ⟨by rw [E.out]; rfl, HB.out⟩

end Go.Proofs.YtpncbcmngfpkfaaGreat

/- Places of a tree: both sides' DepthOf. -/
namespace Go.Proofs.YtpncbcmngfpkfaaGreat
open Go.RowKit
set_option linter.unusedVariables false
set_option linter.unusedSimpArgs false

/-- What DepthOf tells. -/
def depR (l : List ND) (x : Int) : Int := if askF l x = 0 then (depU (upF l) x.toNat : Int) else 0

/-- What EndOf tells. -/
def endR (l : List ND) (x : Int) : Int := if askF l x = 0 then (endN l x.toNat : Int) else 0

/-- A tree in another box. -/
theorem TT.rebox {w0 w w' : World} {base g h : Nat} {l : List ND} {pa : Nat → Option Addr} {ca : Nat → Nat} {k : Nat} {vn vw : Value} (t : TT w0 base g l pa ca k vn vw w) (hb : Below w.heap.size w w') (hh : w.heap.size ≤ h) (hr : w'.rowIs h 110 2 (p2 vn vw)) : TT w0 base h l pa ca k vn vw w' := by
  have h1 := t.below hb
  exact ⟨hr, h1.on, h1.ow, h1.ap, fun e => by have := (t.on.lt _ e).2; omega, fun e => by have := (t.ow.lt _ e).2; omega, h1.bl, h1.sz, by have := t.sz; omega⟩

theorem ask_cases (l : List ND) (x : Int) : (¬ treeF l = 0 ∧ askF l x = treeF l) ∨ (treeF l = 0 ∧ ¬ (0 ≤ x ∧ x < (l.length : Int)) ∧ askF l x = 3) ∨ (treeF l = 0 ∧ askF l x = 0 ∧ ∃ m : Nat, x = (m : Int) ∧ m < l.length) := by
  unfold askF
  by_cases h : treeF l = 0
  · by_cases h2 : 0 ≤ x ∧ x < (l.length : Int)
    · exact .inr (.inr ⟨h, by rw [if_pos h, if_pos h2], x.toNat, by omega, by omega⟩)
    · exact .inr (.inl ⟨h, h2, by rw [if_pos h, if_neg h2]⟩)
  · exact .inl ⟨h, by rw [if_neg h]⟩

set_option maxHeartbeats 1600000 in
theorem hasPlace_any (g : Nat) (an : Option Addr) (n cn : Nat) (x : Int) (w : World) (h : w.cell? ⟨g, 0, none⟩ = some (.slice an n cn)) :
    Calls Tryz.prog 96 #[.pointer (some ⟨g, 0, none⟩), .int .i64 x] w fun e w' => e = .returned (.bool (decide (x ≥ 0) && decide (x < (n : Int)))) ∧ w' = w := by
  by_cases h1 : x ≥ 0
  · by_cases h2 : x < (n : Int)
    all_goals
      go_enter Tryz.func96, Tryz.ntmps96
      go_wp2_with go_big_skip
      go_ret
      exact ⟨by simp [h1, h2], rfl⟩
  · go_enter Tryz.func96, Tryz.ntmps96
    go_wp2_with go_big_skip
    go_ret
    exact ⟨by simp; omega, rfl⟩

end Go.Proofs.YtpncbcmngfpkfaaGreat

/- Lists of numbers: compared, marked, held. -/
namespace Go.Proofs.YtpncbcmngfpkfaaGreat
open Go.RowKit
set_option linter.unusedVariables false
set_option linter.unusedSimpArgs false

/-- Numbers in a row of one's own (or none, in none). -/
def OI (w : World) (v : Value) (l : List Int) : Prop := (v = .slice none 0 0 ∧ l = []) ∨
  ∃ g cap cn f, v = .slice (some ⟨g, 0, none⟩) l.length cap ∧ w.rowIs g 2 cn f ∧ l.length ≤ cn ∧ ∀ i, i < l.length → f i = .int .i64 (wv l i)

theorem OI.keep {w w' : World} {v : Value} {l : List Int} (h : OI w v l) (hk : ∀ k, v.ownBlock = some k → k < w.heap.size → w'.heap[k]? = w.heap[k]?) : OI w' v l := by
  rcases h with h | ⟨g, cap, cn, f, rfl, hr, hl, hf⟩
  · exact .inl h
  · exact .inr ⟨g, cap, cn, f, rfl, hr.of_block (hk g rfl hr.lt), hl, hf⟩

theorem OI.below {w w' : World} {v : Value} {l : List Int} (h : OI w v l) (hb : Below w.heap.size w w') : OI w' v l := h.keep fun k _ hl => hb.block k hl

theorem OI.lt {w : World} {v : Value} {l : List Int} (h : OI w v l) : ∀ k, v.ownBlock = some k → k < w.heap.size := by
  rcases h with ⟨rfl, _⟩ | ⟨g, cap, cn, f, rfl, hr, _, _⟩
  · intro k e; simp [Value.ownBlock] at e
  · intro k e; simp [Value.ownBlock] at e; subst e; exact hr.lt

theorem OI.len {w : World} {v : Value} {l : List Int} (h : OI w v l) : ∃ a c, v = .slice a l.length c ∧ IAt w a l := by
  rcases h with ⟨rfl, rfl⟩ | ⟨g, cap, cn, f, rfl, hr, hl, hf⟩
  · exact ⟨none, 0, rfl, .inl rfl⟩
  · exact ⟨_, _, rfl, .inr ⟨g, 0, rfl, hr.lt, fun k hk => by rw [Nat.zero_add, hr.cell (by omega), hf k hk]⟩⟩

theorem OI.of_own {w : World} {base : Nat} {v : Value} {l : List Int} (h : w.ownsRow base 2 1 v l.length (ics l)) : OI w v l := by
  obtain ⟨_, h | ⟨g, cap, cur, rfl, hb, hg, hn, hm, hs, ht⟩⟩ := h
  · obtain ⟨rfl, h0⟩ := h
    exact .inl ⟨rfl, List.eq_nil_of_length_eq_zero h0⟩
  · refine .inr ⟨g, cap, cap, fun i => cur.toList.getD i undef, rfl, ⟨cur, hg, by omega, fun i hi => ?_⟩, hn, fun i hi => ?_⟩
    · have : i < cur.size := by omega
      simp [this]
    · have e := ics_get l i hi
      rw [← ht, List.getElem?_take, if_pos (by omega)] at e
      simp only [List.getD_eq_getElem?_getD, e, Option.getD_some]

set_option maxHeartbeats 1600000 in
theorem eqInt64S_any (a b : Option Addr) (c d : Nat) (l : List Int) (w : World) (ha : IAt w a l) (hb : IAt w b l) (hl : (l.length : Int) ≤ 1048576) :
    Calls Tryz.prog 45 #[.slice a l.length c, .slice b l.length d] w fun e w' => e = .returned (.bool true) ∧ Below w.heap.size w w' := by
  have HA := Hid.mk' ha
  have HB := Hid.mk' hb
  clear ha hb
  go_enter Tryz.func45, Tryz.ntmps45
  go_wp2
  go_loopw [5] (fun i wr => ∃ k : Nat, k ≤ l.length ∧ i = .int .i64 k ∧ Below w.heap.size w wr) (fun i _ => l.length - (intOf i).toNat)
  case atStart => exact ⟨0, Nat.zero_le _, rfl, Below.refl _ _⟩
  case round =>
    obtain ⟨k, hk, rfl, hbl⟩ := hrel
    by_cases hlt : k < l.length
    · have ci : (k : Int) < (l.length : Int) := by omega
      rcases HA.out.below hbl with ha | ⟨b1, o1, rfl, s1, hc1⟩
      · exact absurd hlt (by rw [ha]; exact Nat.not_lt_zero _)
      rcases HB.out.below hbl with hb | ⟨b2, o2, rfl, s2, hc2⟩
      · exact absurd hlt (by rw [hb]; exact Nat.not_lt_zero _)
      have h1 := hc1 k hlt
      have h2 := hc2 k hlt
      have R2 := Hid.mk' hbl
      clear hbl hc1 hc2
      go_wp2
      go_quiet (fail)
      go_wp2
      go_roundw
      case rel => exact ⟨k + 1, by omega, by go_num, below_drewN R2.out _⟩
      case measure => simp [intOf]; omega
    · have ci : ¬ (k : Int) < (l.length : Int) := by omega
      go_wp2
      go_ret
      exact ⟨rfl, hbl⟩

/-- The marks that n numbers get. -/
def mi (n : Nat) : List Int := (List.range n).map fun (i : Nat) => (1 : Int) + (i : Int)
theorem mi_len (n : Nat) : (mi n).length = n := by simp [mi]
theorem wv_mi {n i : Nat} (h : i < n) : wv (mi n) i = 1 + (i : Int) := by simp [wv, mi, h]

set_option maxHeartbeats 1600000 in
theorem markInt64S_own (v : Value) (l : List Int) (w : World) (h : OI w v l) (hl : (l.length : Int) ≤ 1048576) :
    Calls Tryz.prog 48 #[v, .int .i64 1] w fun e w' => e = .returned (.int .i64 (1 + (l.length : Int))) ∧ OI w' v (mi l.length) ∧ Turned v w w' := by
  rcases h with ⟨rfl, rfl⟩ | ⟨g, cap, cn, f, rfl, hr, hle, hf⟩
  · go_enter Tryz.func48, Tryz.ntmps48
    go_wp2
    go_loopw [1, 5] (fun x i wr => x = .int .i64 1 ∧ i = .int .i64 0 ∧ wr = w) (fun _ _ _ => 0)
    case atStart => exact ⟨rfl, rfl, rfl⟩
    case round =>
      obtain ⟨rfl, rfl, rfl⟩ := hrel
      go_wp2
      go_ret
      exact ⟨by simp, .inl ⟨rfl, by simp [mi]⟩, Turned.refl _ _⟩
  · have HF := Hid.mk' hf
    clear hf
    go_enter Tryz.func48, Tryz.ntmps48
    go_wp2
    go_loopw [1, 5] (fun x i wr => ∃ k : Nat, k ≤ l.length ∧ i = .int .i64 k ∧ x = .int .i64 (1 + (k : Int)) ∧ wr.rowIs g 2 cn (fun j => if j < k then .int .i64 (1 + (j : Int)) else f j) ∧ KeptIn g (g + 1) w wr) (fun _ i _ => l.length - (intOf i).toNat)
    case atStart => exact ⟨0, Nat.zero_le _, rfl, rfl, hr.congr (fun j _ => by simp), KeptIn.refl _ _ _⟩
    case round =>
      obtain ⟨k, hk, rfl, rfl, hrow, hkp⟩ := hrel
      by_cases hlt : k < l.length
      · have ci : (k : Int) < (l.length : Int) := by omega
        have f0 := hrow.frozen k
        obtain ⟨v0, g0⟩ : ∃ v, wr.cell? ⟨g, k, none⟩ = some v := ⟨_, hrow.cell (by omega)⟩
        have R1 := Hid.mk' ((hrow.set k (.int .i64 (1 + (k : Int)))).congr (g := fun j => if j < k + 1 then .int .i64 (1 + (j : Int)) else f j) (fun j _ => by
          by_cases e : j = k
          · subst e; simp
          · by_cases h : j < k
            · simp [e, h, show j < k + 1 by omega]
            · simp [e, h, show ¬ j < k + 1 by omega]))
        have K1 := Hid.mk' (hkp.setCell (p := ⟨g, k, none⟩) (Nat.le_refl _) (Nat.lt_succ_self _) (.int .i64 (1 + (k : Int))))
        clear hrow hkp
        go_wp2
        go_roundw
        case rel => exact ⟨k + 1, by omega, by go_num, by go_num, R1.out, K1.out⟩
        case measure => simp [intOf]; omega
      · have ci : ¬ (k : Int) < (l.length : Int) := by omega
        have e : k = l.length := by omega
        subst e
        have O1 : Hid (OI wr (.slice (some ⟨g, 0, none⟩) l.length cap) (mi l.length)) := Hid.mk' (.inr ⟨g, cap, cn, _, by rw [mi_len], hrow, by rw [mi_len]; exact hle, fun i hi => by rw [mi_len] at hi; rw [wv_mi hi, if_pos hi]⟩)
        have T1 := Hid.mk' (Turned.of_kept (n := l.length) (c := cap) hkp)
        clear hrow hkp
        go_wp2
        go_ret
        exact ⟨rfl, O1.out, T1.out⟩

set_option maxHeartbeats 1600000 in
theorem heldInt64S_own (v : Value) (n : Nat) (w : World) (h : OI w v (mi n)) (hl : (n : Int) ≤ 1048576) :
    Calls Tryz.prog 80 #[v, .int .i64 1] w fun e w' => e = .returned (.int .i64 (1 + (n : Int))) ∧ Below w.heap.size w w' := by
  obtain ⟨a, c, rfl, hi⟩ := h.len
  rw [mi_len]
  have HI := Hid.mk' hi
  clear h hi
  go_enter Tryz.func80, Tryz.ntmps80
  go_wp2
  go_loopw [1, 5] (fun x i wr => ∃ k : Nat, k ≤ n ∧ i = .int .i64 k ∧ x = .int .i64 (1 + (k : Int)) ∧ Below w.heap.size w wr) (fun _ i _ => n - (intOf i).toNat)
  case atStart => exact ⟨0, Nat.zero_le _, rfl, rfl, Below.refl _ _⟩
  case round =>
    obtain ⟨k, hk, rfl, rfl, hbl⟩ := hrel
    have HB := Hid.mk' hbl
    by_cases hlt : k < n
    · have ci : (k : Int) < (n : Int) := by omega
      rcases HI.out.below hbl with ha | ⟨b, o, rfl, hbs, hc⟩
      · have := congrArg List.length ha; rw [mi_len] at this; simp at this; omega
      have h1 := hc k (by rw [mi_len]; exact hlt)
      rw [wv_mi hlt] at h1
      clear hc hbl
      go_wp2
      go_roundw
      case rel => exact ⟨k + 1, by omega, by go_num, by go_num, HB.out⟩
      case measure => simp [intOf]; omega
    · have ci : ¬ (k : Int) < (n : Int) := by omega
      have e : k = n := by omega
      subst e
      clear hbl
      go_wp2
      go_ret
      exact ⟨rfl, HB.out⟩

/-- The kids of x among the first n. -/
def kidsU (u : Nat → Int) (x : Int) : Nat → List Int
  | 0 => []
  | k + 1 => kidsU u x k ++ (if u k = x then [(k : Int)] else [])

theorem kidsU_len (u : Nat → Int) (x : Int) : ∀ k, (kidsU u x k).length ≤ k
  | 0 => Nat.le_refl _
  | k + 1 => by
    have := kidsU_len u x k
    unfold kidsU
    split <;> simp <;> omega

/-- What KidsOf tells: the code, and the list. -/
def kidC (l : List ND) (x : Int) : Int := if treeF l = 0 then (if -1 ≤ x ∧ x < (l.length : Int) then 0 else 3) else treeF l
def kidL (l : List ND) (x : Int) : List Int := if kidC l x = 0 then kidsU (upF l) x l.length else []

theorem kidL_len (l : List ND) (x : Int) (h : l.length ≤ 60 ∨ ¬ kidC l x = 0) : (kidL l x).length ≤ 60 := by
  unfold kidL
  split
  · have := kidsU_len (upF l) x l.length
    rcases h with h | h
    · omega
    · contradiction
  · simp

theorem kidC_len {l : List ND} {x : Int} (h : kidC l x = 0) : l.length ≤ 60 := by
  unfold kidC at h
  by_cases e : treeF l = 0
  · exact treeF_len e
  · rw [if_neg e] at h; exact absurd h e

theorem kidL_small (l : List ND) (x : Int) : (kidL l x).length ≤ 60 := by
  by_cases h : kidC l x = 0
  · exact kidL_len l x (.inl (kidC_len h))
  · exact kidL_len l x (.inr h)

end Go.Proofs.YtpncbcmngfpkfaaGreat

/- States of a builder in memory: measured, copied, told to be the same. -/
namespace Go.Proofs.YtpncbcmngfpkfaaGreat
open Go.RowKit
set_option linter.unusedVariables false
set_option linter.unusedSimpArgs false

/-- A state: nodes, what is open, whether it is too large. -/
structure BS where
  nd : List ND
  op : List Int
  lg : Bool

/-- Nodes of one's own at g, just as they are; hi: behind all their rows. -/
def NX (g hi : Nat) (l : List ND) (w : World) : Prop := ∃ (f : Nat → Value) (s : Nat → Nat), w.rowIs g 104 (l.length * 4) f ∧ g < s 0 ∧ s l.length = hi ∧ hi ≤ w.heap.size ∧ (∀ j, j < l.length → s j ≤ s (j + 1)) ∧ ∀ j, j < l.length → NO (s j) (s (j + 1)) (ndK l j) f j w

theorem NR.nx {w wr : World} {l : List ND} (h : NR w l l.length wr) : ∃ hi, NX w.heap.size hi l wr := by
  obtain ⟨f, s, hf, h0, h1, h2, hj⟩ := h.row
  exact ⟨s l.length, f, s, hf, h0, rfl, h1, h2, hj⟩

theorem NX.nm {g hi : Nat} {l : List ND} {w : World} (h : NX g hi l w) : NM g hi l w := by
  obtain ⟨f, s, hf, h0, h1, h2, h3, hj⟩ := h
  refine ⟨f, s, hf, h0, h1, h2, h3, fun j hl => ?_⟩
  obtain ⟨e1, e2, g', b, e3, e4, h5, h6, h7, h8⟩ := hj j hl
  exact ⟨⟨_, e1⟩, ⟨_, e2⟩, g', b, e3, e4, h5, h6, h7.mr, _, h8⟩

theorem NX.at {g hi : Nat} {l : List ND} {w : World} (h : NX g hi l w) : NsAt w (some ⟨g, 0, none⟩) l := by
  obtain ⟨f, s, hf, h0, h1, h2, h3, hj⟩ := h
  refine .inr ⟨_, _, rfl, hf.lt, fun k hk => ?_⟩
  obtain ⟨e1, e2, g', b, e3, e4, h5, h6, h7, h8⟩ := hj k hk
  have c := fun i (hi : i < 4) => hf.cell (show k * 4 + i < l.length * 4 by omega)
  refine ⟨by rw [Nat.zero_add]; exact (c 0 (by omega)).trans (by rw [Nat.add_zero, e1]), by rw [Nat.zero_add, c 1 (by omega), e2], ⟨_, _, by rw [Nat.zero_add, c 2 (by omega), e3], Nat.le_refl _, h7.ao.at⟩, ⟨_, _, by rw [Nat.zero_add, c 3 (by omega), e4], .of_row h8⟩⟩

theorem NX.lt {g hi : Nat} {l : List ND} {w : World} (h : NX g hi l w) : g < hi ∧ hi ≤ w.heap.size := by
  obtain ⟨f, s, hf, h0, h1, h2, h3, hj⟩ := h
  have := mono_s2 h3 (i := 0) l.length (by omega) (Nat.le_refl _)
  exact ⟨by omega, h2⟩

theorem NX.keep {g hi : Nat} {l : List ND} {w w' : World} (h : NX g hi l w) (hs : w.heap.size ≤ w'.heap.size) (hk : ∀ k, g ≤ k → k < hi → k < w.heap.size → w'.heap[k]? = w.heap[k]?) : NX g hi l w' := by
  obtain ⟨f, s, hf, h0, h1, h2, h3, hj⟩ := h
  have m0 := mono_s2 h3 (i := 0) l.length (by omega) (Nat.le_refl _)
  refine ⟨f, s, hf.of_block (hk g (Nat.le_refl _) (by omega) hf.lt), h0, h1, Nat.le_trans h2 hs, h3, fun j hl => (hj j hl).keep (fun _ _ => rfl) (fun i a c d => ?_)⟩
  have m1 := mono_s2 h3 (i := 0) j (by omega) (by omega)
  have m2 := mono_s2 h3 (i := j + 1) l.length (by omega) (Nat.le_refl _)
  exact hk i (by omega) (by omega) d

theorem NX.below {g hi : Nat} {l : List ND} {w w' : World} (h : NX g hi l w) (hb : Below w.heap.size w w') : NX g hi l w' := h.keep hb.size (fun q _ _ hq => hb.block q hq)

theorem NX.kept {g hi lo' hi' : Nat} {l : List ND} {w w' : World} (h : NX g hi l w) (hk : KeptIn lo' hi' w w') (hd : hi ≤ lo' ∨ hi' ≤ g) : NX g hi l w' := h.keep hk.size (fun q a c d => hk.block q d (by omega))

/-- The i-th of numbers, as a value. -/
def iv (l : List Int) (i : Nat) : Value := .int .i64 (wv l i)

theorem IAt.of_row {w : World} {b : Nat} {l : List Int} (h : w.rowIs b 2 l.length (iv l)) : IAt w (some ⟨b, 0, none⟩) l :=
  .inr ⟨b, 0, rfl, h.lt, fun k hk => by rw [Nat.zero_add]; exact h.cell hk⟩

theorem szInt64S_any (a : Option Addr) (n c : Nat) (l : Int) (w : World) (h0 : 0 ≤ l) (h1 : l ≤ 1048576) (hn : (n : Int) ≤ 9223372036854775807) :
    Calls Tryz.prog 31 #[.slice a n c, .int .i64 l] w fun e w' => e = .returned (.int .i64 (if l < n then -1 else l - n)) ∧ w' = w := by
  go_enter Tryz.func31, Tryz.ntmps31
  go_wp2
  all_goals go_ret
  all_goals exact ⟨rfl, rfl⟩

set_option maxHeartbeats 800000 in
theorem toInt64S_any (a : Option Addr) (c : Nat) (l : List Int) (w : World) (ha : IAt w a l) (hl : (l.length : Int) ≤ 1048576) :
    Calls Tryz.prog 38 #[.slice a l.length c] w fun e w' => ∃ b, e = .returned (.slice (some ⟨b, 0, none⟩) l.length l.length) ∧ w.heap.size ≤ b ∧ w'.rowIs b 2 l.length (iv l) ∧ Below w.heap.size w w' := by
  have hmk := run_make_row' (P := Tryz.prog) 23 2 (.int .i64 0) 8 Tryz.underlying23 Tryz.info2 rfl .i64 .i64 l.length (by omega) (by omega)
  go_enter Tryz.func38, Tryz.ntmps38
  go_wp2
  go_loopw [4] (fun i wr => ∃ k : Nat, k ≤ l.length ∧ i = .int .i64 k ∧ wr.rowIs w.heap.size 2 l.length (fun j => if j < k then iv l j else .int .i64 0) ∧ Below w.heap.size w wr) (fun i _ => l.length - (intOf i).toNat)
  case atStart => exact ⟨0, Nat.zero_le _, rfl, (World.rowIs_made w (.int .i64 0) _ 2).congr (fun j _ => by simp), (Below.refl _ _).alloc (Nat.le_refl _) _⟩
  case round =>
    obtain ⟨k, hk, rfl, hrow, hbl⟩ := hrel
    by_cases hlt : k < l.length
    · have ci : (k : Int) < (l.length : Int) := by omega
      rcases ha with ha | ⟨b, o, rfl, hbs, hc⟩
      · exact absurd hlt (by rw [ha]; exact Nat.not_lt_zero _)
      have h1 := (hbl.cell hbs).trans (hc k hlt)
      obtain ⟨v0, h2⟩ : ∃ v, wr.cell? ⟨w.heap.size, k, none⟩ = some v := ⟨_, hrow.cell hlt⟩
      have h3 := hrow.frozen k
      have R1 := Hid.mk' ((hrow.set k (.int .i64 (wv l k))).congr (g := fun j => if j < k + 1 then iv l j else .int .i64 0) (fun j _ => by
        by_cases e : j = k
        · subst e; simp [iv]
        · by_cases h : j < k
          · simp [e, h, show j < k + 1 by omega]
          · simp [e, h, show ¬ j < k + 1 by omega]))
      have R2 := Hid.mk' (hbl.setCell (p := ⟨w.heap.size, k, none⟩) (Nat.le_refl _) (.int .i64 (wv l k)))
      clear hrow hbl hmk hc
      go_wp2
      go_roundw
      case rel => exact ⟨k + 1, by omega, by go_num, R1.out, R2.out⟩
      case measure => simp [intOf]; omega
    · have ci : ¬ (k : Int) < (l.length : Int) := by omega
      have e : k = l.length := by omega
      subst e
      have R1 := Hid.mk' (hrow.congr (g := iv l) (fun j hj => by rw [if_pos hj]))
      have R2 := Hid.mk' hbl
      clear hrow hbl hmk
      go_wp2
      go_ret
      exact ⟨_, rfl, Nat.le_refl _, R1.out, R2.out⟩

set_option maxHeartbeats 1600000 in
theorem szBuild_any (t : BS) (a b : Option Addr) (c d : Nat) (z : Int) (w : World) (ha : NsAt w a t.nd) (hw : WideN t.nd) (hn : (t.nd.length : Int) ≤ 9223372036854775807) (ho : (t.op.length : Int) ≤ 9223372036854775807) (h0 : 0 ≤ z) (h1 : z ≤ 1048576) :
    Calls Tryz.prog 6 #[.agg #[.slice a t.nd.length c, .slice b t.op.length d, .bool t.lg], .int .i64 z] w fun e w' => e = .returned (.int .i64 (if z < (t.nd.length : Int) + nssz t.nd + t.op.length then -1 else z - t.nd.length - nssz t.nd - t.op.length)) ∧ Below w.heap.size w w' := by
  have N0 := below_new w (.cells #[.slice a t.nd.length c, .slice b t.op.length d, .bool t.lg] 25)
  have KA := Hid.mk' (szNodeS_any a c t.nd z _ (ha.below N0) hw h0 h1 hn)
  have HP := Hid.mk' (row3 w 25 (.slice a t.nd.length c) (.slice b t.op.length d) (.bool t.lg))
  have HB := Hid.mk' N0
  clear N0 ha hw
  by_cases g2 : z < (t.nd.length : Int) + nssz t.nd
  · rw [if_pos g2] at KA
    rw [if_pos (by omega)]
    go_enter Tryz.func6, Tryz.ntmps6
    go_wp2_with fail
    refine KA.out.mono ?_
    rintro e w1 ⟨rfl, hb⟩
    have HB := Hid.mk' (HB.out.trans (hb.mono HB.out.size))
    clear hb KA
    go_wp2
    go_ret
    exact ⟨rfl, HB.out⟩
  · rw [if_neg g2] at KA
    have gy : ¬ (z - (t.nd.length : Int) - nssz t.nd < 0) := by omega
    by_cases g3 : z - (t.nd.length : Int) - nssz t.nd < (t.op.length : Int)
    · rw [if_pos (by omega)]
      go_enter Tryz.func6, Tryz.ntmps6
      go_wp2_with fail
      refine KA.out.mono ?_
      rintro e w1 ⟨rfl, hb⟩
      have R1 := rowB HP.out hb
      have c0 : w1.cell? ⟨w.heap.size, 0, none⟩ = some (.slice a t.nd.length c) := R1.cell (by omega)
      have c1 : w1.cell? ⟨w.heap.size, 1, none⟩ = some (.slice b t.op.length d) := R1.cell (by omega)
      have HB := Hid.mk' (HB.out.trans (hb.mono HB.out.size))
      clear hb KA R1
      go_wp2_with (go_at_call 31; refine (szInt64S_any _ _ _ _ _ (by omega) (by omega) (by omega)).mono ?_; rintro e w' ⟨rfl, rfl⟩)
      go_ret
      exact ⟨rfl, HB.out⟩
    · rw [if_neg (by omega)]
      go_enter Tryz.func6, Tryz.ntmps6
      go_wp2_with fail
      refine KA.out.mono ?_
      rintro e w1 ⟨rfl, hb⟩
      have R1 := rowB HP.out hb
      have c0 : w1.cell? ⟨w.heap.size, 0, none⟩ = some (.slice a t.nd.length c) := R1.cell (by omega)
      have c1 : w1.cell? ⟨w.heap.size, 1, none⟩ = some (.slice b t.op.length d) := R1.cell (by omega)
      have HB := Hid.mk' (HB.out.trans (hb.mono HB.out.size))
      clear hb KA R1
      go_wp2_with (go_at_call 31; refine (szInt64S_any _ _ _ _ _ (by omega) (by omega) (by omega)).mono ?_; rintro e w' ⟨rfl, rfl⟩)
      go_ret
      exact ⟨by first | rfl | (congr 2; omega), HB.out⟩

set_option maxHeartbeats 3200000 in
theorem toBuild_any (t : BS) (a b : Option Addr) (c d : Nat) (w : World) (ha : NsAt w a t.nd) (hb : IAt w b t.op) (hl : (t.nd.length : Int) + nssz t.nd + t.op.length ≤ 1048576) :
    Calls Tryz.prog 9 #[.agg #[.slice a t.nd.length c, .slice b t.op.length d, .bool t.lg]] w fun e w' => ∃ gn hi go, e = .returned (.agg #[.slice (some ⟨gn, 0, none⟩) t.nd.length t.nd.length, .slice (some ⟨go, 0, none⟩) t.op.length t.op.length, .bool t.lg]) ∧ w.heap.size ≤ gn ∧ NX gn hi t.nd w' ∧ hi ≤ go ∧ w'.rowIs go 2 t.op.length (iv t.op) ∧ Below w.heap.size w w' := by
  have B0 := ((Below.refl w.heap.size w).alloc (Nat.le_refl _) (.cells #[.slice a t.nd.length c, .slice b t.op.length d, .bool t.lg] 25)).alloc (by simp) (.cells #[.slice none 0 0, .slice none 0 0, .bool false] 33)
  have B1 := B0.alloc (by simp; omega) (.cells #[.slice none 0 0, .slice none 0 0, .bool false] 33)
  have RP := ((row3 w 25 (.slice a t.nd.length c) (.slice b t.op.length d) (.bool t.lg)).alloc (.cells #[.slice none 0 0, .slice none 0 0, .bool false] 33)).alloc (.cells #[.slice none 0 0, .slice none 0 0, .bool false] 33)
  have RR := (row3 (w.alloc (.cells #[.slice a t.nd.length c, .slice b t.op.length d, .bool t.lg] 25)) 33 (.slice none 0 0) (.slice none 0 0) (.bool false)).alloc (.cells #[.slice none 0 0, .slice none 0 0, .bool false] 33)
  have RO := row3 ((w.alloc (.cells #[.slice a t.nd.length c, .slice b t.op.length d, .bool t.lg] 25)).alloc (.cells #[.slice none 0 0, .slice none 0 0, .bool false] 33)) 33 (.slice none 0 0) (.slice none 0 0) (.bool false)
  have KB := Hid.mk' (toNodeS_any a c t.nd _ (ha.below B1) (by omega))
  have HB := Hid.mk' B1
  have HT := Hid.mk' hb
  have z1 : (w.alloc (.cells #[.slice a t.nd.length c, .slice b t.op.length d, .bool t.lg] 25)).heap.size = w.heap.size + 1 := by simp
  have z2 : ((w.alloc (.cells #[.slice a t.nd.length c, .slice b t.op.length d, .bool t.lg] 25)).alloc (.cells #[.slice none 0 0, .slice none 0 0, .bool false] 33)).heap.size = w.heap.size + 1 + 1 := by simp
  have z3 : (((w.alloc (.cells #[.slice a t.nd.length c, .slice b t.op.length d, .bool t.lg] 25)).alloc (.cells #[.slice none 0 0, .slice none 0 0, .bool false] 33)).alloc (.cells #[.slice none 0 0, .slice none 0 0, .bool false] 33)).heap.size = w.heap.size + 1 + 1 + 1 := by simp
  rw [z1] at RR
  rw [z2] at RO
  have HR := Hid.mk' RR
  have HO := Hid.mk' RO
  have HP := Hid.mk' RP
  have Z3 := Hid.mk' z3
  clear ha hb B0 B1 RR RO RP z1 z2 z3
  generalize hW : ((w.alloc (.cells #[.slice a t.nd.length c, .slice b t.op.length d, .bool t.lg] 25)).alloc (.cells #[.slice none 0 0, .slice none 0 0, .bool false] 33)).alloc (.cells #[.slice none 0 0, .slice none 0 0, .bool false] 33) = W at *
  have p0 : W.cell? ⟨w.heap.size, 0, none⟩ = some (.slice a t.nd.length c) := HP.out.cell (by omega)
  go_enter Tryz.func9, Tryz.ntmps9
  go_wp2_with fail
  clear hW p0
  refine KB.out.mono ?_
  rintro e w1 ⟨rfl, har⟩
  have hbl := har.bl
  obtain ⟨hi, hnx⟩ := har.nx
  have Hp := rowB HP.out hbl
  have Ho := rowB HO.out hbl
  have Hr := rowB HR.out hbl
  have hz := Z3.out
  have hs1 := hbl.size
  have K1 := (KeptIn.refl (w.heap.size + 1 + 1) (w.heap.size + 1 + 1 + 1) w1).setCell (p := ⟨w.heap.size + 1 + 1, 0, none⟩) (by simp) (by simp) (.slice (some ⟨W.heap.size, 0, none⟩) t.nd.length t.nd.length)
  have B2 := (HB.out.trans (hbl.mono HB.out.size)).trans (K1.below (B := w.heap.size) (by omega) (by omega))
  have KT := Hid.mk' (toInt64S_any b d t.op _ (HT.out.below B2) (by omega))
  have HX := Hid.mk' (hnx.kept K1 (.inr (by omega)))
  have BB := Hid.mk' B2
  have Hp2 := Hid.mk' (rowK Hp K1 (.inl (by omega)))
  have Ho2 := Hid.mk' (Ho.set 0 (.slice (some ⟨W.heap.size, 0, none⟩) t.nd.length t.nd.length))
  have Hr2 := Hid.mk' (rowK Hr K1 (.inl (by omega)))
  have o0 : w1.cell? ⟨w.heap.size + 1 + 1, 0, none⟩ = some (.slice none 0 0) := Ho.cell (by omega)
  have fo0 := Ho.frozen 0
  have S2 : Hid ((w1.setCell ⟨w.heap.size + 1 + 1, 0, none⟩ (.slice (some ⟨W.heap.size, 0, none⟩) t.nd.length t.nd.length)).heap.size = w1.heap.size) := Hid.mk' (by simp [World.setCell])
  have p1 := Hp2.out.cell (i := 1) (by omega)
  have S1 := Hid.mk' hs1
  have ZZ := Hid.mk' hz
  clear Hp Ho Hr har hbl K1 B2 KB HO HR HP HB HT Z3 hz hs1 hnx
  generalize hV : w1.setCell ⟨w.heap.size + 1 + 1, 0, none⟩ (.slice (some ⟨W.heap.size, 0, none⟩) t.nd.length t.nd.length) = V at *
  have p1 : V.cell? ⟨w.heap.size, 1, none⟩ = some (.slice b t.op.length d) := p1
  go_wp2_with fail
  clear hV o0 fo0 p1
  refine KT.out.mono ?_
  rintro e w2 ⟨go, rfl, hgo, hrow, hbl⟩
  have Ho := rowB Ho2.out hbl
  have Hr := rowB Hr2.out hbl
  have Hp := rowB Hp2.out hbl
  have p2' : w2.cell? ⟨w.heap.size, 2, none⟩ = some (.bool t.lg) := Hp.cell (by omega)
  have o0 : w2.cell? ⟨w.heap.size + 1 + 1, 0, none⟩ = some (.slice (some ⟨W.heap.size, 0, none⟩) t.nd.length t.nd.length) := Ho.cell (by omega)
  have o1 : w2.cell? ⟨w.heap.size + 1 + 1, 1, none⟩ = some (.slice none 0 0) := Ho.cell (by omega)
  have o2 : w2.cell? ⟨w.heap.size + 1 + 1, 2, none⟩ = some (.bool false) := Ho.cell (by omega)
  have r0 : w2.cell? ⟨w.heap.size + 1, 0, none⟩ = some (.slice none 0 0) := Hr.cell (by omega)
  have r1 : w2.cell? ⟨w.heap.size + 1, 1, none⟩ = some (.slice none 0 0) := Hr.cell (by omega)
  have r2 : w2.cell? ⟨w.heap.size + 1, 2, none⟩ = some (.bool false) := Hr.cell (by omega)
  have fo1 := Ho.frozen 1
  have fo2 := Ho.frozen 2
  have fr0 := Hr.frozen 0
  have fr1 := Hr.frozen 1
  have fr2 := Hr.frozen 2
  have AH := Hid.mk' (HX.out.below hbl)
  have HI := Hid.mk' HX.out.lt
  have RW := Hid.mk' hrow
  have BL := Hid.mk' hbl
  have hb' := Hid.mk' hgo
  clear Ho Hr Hp hrow hbl KT Ho2 Hr2 Hp2 HX hgo
  go_wp2
  refine bodyPost_ret (v := .agg #[.slice (some ⟨W.heap.size, 0, none⟩) t.nd.length t.nd.length, .slice (some ⟨go, 0, none⟩) t.op.length t.op.length, .bool t.lg]) (by simp [results, Tryz.results9, go_sem, *]) rfl ?_
  have e1 := ZZ.out
  have e2 := S1.out
  have e3 := S2.out
  have e4 := hb'.out
  have e5 := HI.out
  have e6 := BL.out.size
  have KK := (((((KeptIn.refl (w.heap.size + 1) (w.heap.size + 1 + 1 + 1) w2).setCell (p := ⟨w.heap.size + 1 + 1, 1, none⟩) (by simp) (by simp) (.slice (some ⟨go, 0, none⟩) t.op.length t.op.length)).setCell (p := ⟨w.heap.size + 1 + 1, 2, none⟩) (by simp) (by simp) (.bool t.lg)).setCell (p := ⟨w.heap.size + 1, 0, none⟩) (by simp) (by simp) (.slice (some ⟨W.heap.size, 0, none⟩) t.nd.length t.nd.length)).setCell (p := ⟨w.heap.size + 1, 1, none⟩) (by simp) (by simp) (.slice (some ⟨go, 0, none⟩) t.op.length t.op.length)).setCell (p := ⟨w.heap.size + 1, 2, none⟩) (by simp) (by simp) (.bool t.lg)
  exact ⟨W.heap.size, hi, go, rfl, by omega, AH.out.kept KK (.inr (by omega)), by omega, rowK RW.out KK (.inr (by omega)), (BB.out.trans (BL.out.mono BB.out.size)).trans (KK.below (by omega) (by omega))⟩

set_option maxHeartbeats 1600000 in
theorem eqBuild_any (t : BS) (a b p q : Option Addr) (c d c' d' : Nat) (w : World) (ha : NsAt w a t.nd) (hb : NsAt w b t.nd) (hp : IAt w p t.op) (hq : IAt w q t.op) (hl : (t.nd.length : Int) + nssz t.nd + t.op.length ≤ 1048576) :
    Calls Tryz.prog 13 #[.agg #[.slice a t.nd.length c, .slice p t.op.length c', .bool t.lg], .agg #[.slice b t.nd.length d, .slice q t.op.length d', .bool t.lg]] w fun e w' => e = .returned (.bool true) ∧ Below w.heap.size w w' := by
  have B0 := ((Below.refl w.heap.size w).alloc (Nat.le_refl _) (.cells #[.slice a t.nd.length c, .slice p t.op.length c', .bool t.lg] 33)).alloc (by simp) (.cells #[.slice b t.nd.length d, .slice q t.op.length d', .bool t.lg] 33)
  have R1 := (row3 w 33 (.slice a t.nd.length c) (.slice p t.op.length c') (.bool t.lg)).alloc (.cells #[.slice b t.nd.length d, .slice q t.op.length d', .bool t.lg] 33)
  have R2 := row3 (w.alloc (.cells #[.slice a t.nd.length c, .slice p t.op.length c', .bool t.lg] 33)) 33 (.slice b t.nd.length d) (.slice q t.op.length d') (.bool t.lg)
  have z1 : (w.alloc (.cells #[.slice a t.nd.length c, .slice p t.op.length c', .bool t.lg] 33)).heap.size = w.heap.size + 1 := by simp
  rw [z1] at R2
  have H1 := Hid.mk' R1
  have H2 := Hid.mk' R2
  have KB := Hid.mk' (eqNodeS_any a b c d t.nd _ (ha.below B0) (hb.below B0) (by omega))
  have HX := Hid.mk' (hp.below B0)
  have HY := Hid.mk' (hq.below B0)
  have HB := Hid.mk' B0
  clear ha hb hp hq B0 R1 R2 z1
  generalize hW : (w.alloc (.cells #[.slice a t.nd.length c, .slice p t.op.length c', .bool t.lg] 33)).alloc (.cells #[.slice b t.nd.length d, .slice q t.op.length d', .bool t.lg] 33) = W at *
  have p0 : W.cell? ⟨w.heap.size, 0, none⟩ = some (.slice a t.nd.length c) := H1.out.cell (by omega)
  have q0 : W.cell? ⟨w.heap.size + 1, 0, none⟩ = some (.slice b t.nd.length d) := H2.out.cell (by omega)
  go_enter Tryz.func13, Tryz.ntmps13
  go_wp2_with fail
  clear hW p0 q0
  refine KB.out.mono ?_
  rintro e w1 ⟨rfl, hb⟩
  have R1 := rowB H1.out hb
  have R2 := rowB H2.out hb
  have p1 : w1.cell? ⟨w.heap.size, 1, none⟩ = some (.slice p t.op.length c') := R1.cell (by omega)
  have q1 : w1.cell? ⟨w.heap.size + 1, 1, none⟩ = some (.slice q t.op.length d') := R2.cell (by omega)
  have H1 := Hid.mk' R1
  have H2 := Hid.mk' R2
  have KT := Hid.mk' (eqInt64S_any p q c' d' t.op w1 (HX.out.below hb) (HY.out.below hb) (by omega))
  have HB := Hid.mk' (HB.out.trans (hb.mono HB.out.size))
  clear hb KB R1 R2
  go_wp2_with fail
  refine KT.out.mono ?_
  rintro e w2 ⟨rfl, hb⟩
  have p2' : w2.cell? ⟨w.heap.size, 2, none⟩ = some (.bool t.lg) := (rowB H1.out hb).cell (by omega)
  have q2' : w2.cell? ⟨w.heap.size + 1, 2, none⟩ = some (.bool t.lg) := (rowB H2.out hb).cell (by omega)
  have HB := Hid.mk' (HB.out.trans (hb.mono HB.out.size))
  clear hb KT
  go_wp2
  go_ret
  exact ⟨rfl, HB.out⟩

/-- A state lies in memory. -/
def SAt (w : World) (a p : Option Addr) (s : BS) : Prop := NsAt w a s.nd ∧ IAt w p s.op

theorem SAt.below {w w' : World} {a p : Option Addr} {s : BS} (h : SAt w a p s) (hb : Below w.heap.size w w') : SAt w' a p s := ⟨h.1.below hb, h.2.below hb⟩

theorem toBuild_at (t : BS) (a b : Option Addr) (c d : Nat) (w : World) (ha : SAt w a b t) (hl : (t.nd.length : Int) + nssz t.nd + t.op.length ≤ 1048576) :
    Calls Tryz.prog 9 #[.agg #[.slice a t.nd.length c, .slice b t.op.length d, .bool t.lg]] w fun e w' => ∃ gn go, e = .returned (.agg #[.slice (some ⟨gn, 0, none⟩) t.nd.length t.nd.length, .slice (some ⟨go, 0, none⟩) t.op.length t.op.length, .bool t.lg]) ∧ SAt w' (some ⟨gn, 0, none⟩) (some ⟨go, 0, none⟩) t ∧ Below w.heap.size w w' := by
  refine (toBuild_any t a b c d w ha.1 ha.2 hl).mono ?_
  rintro e w' ⟨gn, hi, go, rfl, _, h1, _, h2, h3⟩
  exact ⟨gn, go, rfl, ⟨h1.at, IAt.of_row h2⟩, h3⟩

end Go.Proofs.YtpncbcmngfpkfaaGreat

/- From the reading of an argument to a state of a builder that lies in memory. -/
namespace Go.Proofs.YtpncbcmngfpkfaaGreat
open Go.ChangeShapes Go.WideShapes Go.ChangeAt Go.RowKit Go.Deep
set_option linter.unusedVariables false
set_option linter.constructorNameAsVariable false
set_option maxRecDepth 100000

theorem Tryz.cells25 : Tryz.prog.cellsOf 25 = 3 := by kernel_rfl

theorem Tryz.cells22 : Tryz.prog.cellsOf 22 = 1 := by kernel_rfl

theorem Tryz.cells23 : Tryz.prog.cellsOf 23 = 1 := by kernel_rfl

theorem open_i64s {H : Type} {enc : TypeId × Value → H} {W : World} {spare : Nat → Bool} {held : Bool} {fuel : Nat} {v : Value} {x : DataW H × List MemPlace} (h : DataW.trod enc Tryz.prog W 0 spare held fuel 23 [v] = some x) :
    ∃ a c l, v = .slice a l.length c ∧ IAt W a l ∧ (l.length : Int) ≤ 9223372036854775807 := by
  rcases open_ints Tryz.underlying23 Tryz.underlying2 Tryz.cells2 h with ⟨hcs, _⟩ | ⟨a, len, cap, zs, hcs, _, hl, hm, hz, _, hcell, hwz⟩
  · simp at hcs
    subst hcs
    exact ⟨none, 0, [], rfl, .inl rfl, by simp⟩
  · simp at hcs
    subst hcs
    have hlz : len ≤ zs.length := by rw [hz]; split <;> omega
    have hlen : (zs.take len).length = len := by rw [List.length_take]; omega
    unfold maxLen at hm
    refine ⟨some a, cap, zs.take len, by rw [hlen], ?_, by rw [hlen]; omega⟩
    by_cases h0 : len = 0
    · left; subst h0; simp
    · right
      have c0 := hcell 0 (by omega)
      have e0 : a.add 0 = a := by unfold Addr.add; split <;> simp_all
      rw [e0] at c0
      obtain ⟨b, o, rfl⟩ := plain_addr c0
      refine ⟨b, o, rfl, cell_lt c0, fun k hk => ?_⟩
      rw [hlen] at hk
      have ck := hcell k (by omega)
      rw [Addr.add_mid] at ck
      rw [ck]
      unfold wv
      congr 2
      simp [hk]

/-- What a law is told of a state that came in. -/
theorem open_build {H : Type} {enc : TypeId × Value → H} {W : World} {base : Nat} {spare : Nat → Bool} {held : Bool} {v : Value} {d : DataW H} {p : List MemPlace}
    (hv : Value.okWide Tryz.prog W .any base 25 v) (h : DataW.Trod enc Tryz.prog W 0 spare held 25 v d p) :
    ∃ s a q c c', v = .agg #[.slice a s.nd.length c, .slice q s.op.length c', .bool s.lg] ∧ SAt W a q s ∧ WideN s.nd ∧ (s.nd.length : Int) ≤ 9223372036854775807 ∧ (s.op.length : Int) ≤ 9223372036854775807 := by
  obtain ⟨cs, rfl, hsz⟩ := okWide_struct Tryz.underlying25 hv
  obtain ⟨fuel, hf⟩ := h
  obtain ⟨xs, n, _, _, hl, hlen, hall⟩ := DataW.trod_struct Tryz.underlying25 hf
  have h0 := hall 0 _ rfl
  have h1 := hall 1 _ rfl
  have h2 := hall 2 _ rfl
  rw [Tryz.cells25] at hsz
  obtain ⟨l⟩ := cs
  match l, hsz, xs, hlen with
  | [c0, c1, c2], _, [y0, y1, y2], _ =>
    simp [Tryz.cells22, Tryz.cells23, Tryz.cells4, Value.cells] at h0 h1 h2
    obtain ⟨a, c, l, rfl, hb, hw, hm⟩ := open_nodes h0
    obtain ⟨q, c', o, rfl, hq, hm2⟩ := open_i64s h1
    obtain ⟨b, hb2, _⟩ := DataW.trod_bool Tryz.underlying4 h2
    simp at hb2
    subst hb2
    exact ⟨⟨l, o, b⟩, a, q, c, c', rfl, ⟨hb, hq⟩, hw, hm, hm2⟩

end Go.Proofs.YtpncbcmngfpkfaaGreat
