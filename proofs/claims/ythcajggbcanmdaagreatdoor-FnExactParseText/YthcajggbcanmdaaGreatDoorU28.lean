/- The program's tree of nodes. -/
import Derived.Test.YthcajggbcanmdaaGreatDoorU27
import Derived.Test.YthcajggbcanmdaaGreatDoorU26
import Derived.Test.YthcajggbcanmdaaGreatDoorU25
import Derived.Test.YthcajggbcanmdaaGreatDoorU14
set_option linter.unusedVariables false
set_option linter.unusedSimpArgs false
namespace Go.Proofs.YthcajggbcanmdaaGreatDoor
open Go.RowKit

theorem NsAt.fn {w : World} {b o : Nat} {l : List ND} (hc : ∀ k, k < l.length → w.cell? ⟨b, o + k * 4, none⟩ = some (.int .i64 (ndK l k).up) ∧ w.cell? ⟨b, o + k * 4 + 1, none⟩ = some (.string (ndK l k).tg) ∧ (∃ p c, w.cell? ⟨b, o + k * 4 + 2, none⟩ = some (.slice p (ndK l k).at_.length c) ∧ (ndK l k).at_.length ≤ c ∧ AAt w p (ndK l k).at_) ∧ (∃ p c, w.cell? ⟨b, o + k * 4 + 3, none⟩ = some (.slice p (ndK l k).tx.length c) ∧ BAt w p (ndK l k).tx)) :
    ∃ (pa : Nat → Option Addr) (ca : Nat → Nat) (pt : Nat → Option Addr) (ct : Nat → Nat), ∀ k, k < l.length → w.cell? ⟨b, o + k * 4, none⟩ = some (.int .i64 (ndK l k).up) ∧ w.cell? ⟨b, o + k * 4 + 1, none⟩ = some (.string (ndK l k).tg) ∧ w.cell? ⟨b, o + k * 4 + 2, none⟩ = some (.slice (pa k) (ndK l k).at_.length (ca k)) ∧ AAt w (pa k) (ndK l k).at_ ∧ w.cell? ⟨b, o + k * 4 + 3, none⟩ = some (.slice (pt k) (ndK l k).tx.length (ct k)) := by
  classical
  refine ⟨fun k => if h : k < l.length then (hc k h).2.2.1.choose else none, fun k => if h : k < l.length then (hc k h).2.2.1.choose_spec.choose else 0, fun k => if h : k < l.length then (hc k h).2.2.2.choose else none, fun k => if h : k < l.length then (hc k h).2.2.2.choose_spec.choose else 0, fun k hk => ?_⟩
  simp only [dif_pos hk]
  exact ⟨(hc k hk).1, (hc k hk).2.1, (hc k hk).2.2.1.choose_spec.choose_spec.1, (hc k hk).2.2.1.choose_spec.choose_spec.2.2, (hc k hk).2.2.2.choose_spec.choose_spec.1⟩

def TreeP (l : List ND) (w : World) (e : Ending) (w' : World) : Prop :=
  (¬ treeF l = 0 ∧ e = .returned (.tuple #[.agg #[.slice none 0 0, .slice none 0 0], .int .i64 (treeF l)]) ∧ Below w.heap.size w w') ∨
  (treeF l = 0 ∧ ∃ pa ca g vn vw, e = .returned (.tuple #[.agg #[vn, vw], .int .i64 0]) ∧ TT w w.heap.size g l pa ca l.length vn vw w')

theorem own_base {w : World} {base base' : Nat} {e : TypeId} {size : Nat} {v : Value} {n : Nat} {xs : List Value} (h : w.ownsRow base e size v n xs) (hb : base' ≤ base) : w.ownsRow base' e size v n xs := by
  refine ⟨h.1, ?_⟩
  rcases h.2 with h | ⟨g, cap, cur, h1, h2, h3⟩
  · exact .inl h
  · exact .inr ⟨g, cap, cur, h1, Nat.le_trans hb h2, h3⟩

theorem TT.fin {w W0 wr : World} {g : Nat} {l : List ND} {pa : Nat → Option Addr} {ca : Nat → Nat} {k : Nat} {vn vw u u' : Value} (h : TT W0 (w.heap.size + 1) g l pa ca k vn vw wr) (hB : Below w.heap.size w W0) : TT w w.heap.size g l pa ca k vn vw ((wr.setCell ⟨w.heap.size, 0, none⟩ u).setCell ⟨w.heap.size, 1, none⟩ u') := by
  have hg := h.bg
  have n1 : ¬ vn.ownBlock = some w.heap.size := fun e => by have := own_lo h.on _ e; omega
  have n2 : ¬ vw.ownBlock = some w.heap.size := fun e => by have := own_lo h.ow _ e; omega
  refine ⟨(h.box.setOther (a := ⟨w.heap.size, 0, none⟩) (by dsimp only; omega) u).setOther (a := ⟨w.heap.size, 1, none⟩) (by dsimp only; omega) u', own_base (own_setG (own_setG h.on n1) n1) (by omega), own_base (own_setG (own_setG h.ow n2) n2) (by omega), h.ap, h.an, h.aw, ?_, ?_, by omega⟩
  · exact ((hB.trans (h.bl.mono (by omega))).setCell (p := ⟨w.heap.size, 0, none⟩) (Nat.le_refl _) _).setCell (p := ⟨w.heap.size, 1, none⟩) (Nat.le_refl _) _
  · have := h.sz; simp [World.setCell]; omega

set_option maxRecDepth 100000 in
set_option maxHeartbeats 16000000 in
theorem treeOf_any (a : Option Addr) (c : Nat) (l : List ND) (w : World) (ha : NsAt w a l) (hl : (l.length : Int) + nssz l ≤ 1048576) :
    Calls Tryz.prog 107 #[.slice a l.length c] w fun e w' => TreeP l w e w' := by
  by_cases h60 : (l.length : Int) > 60
  · have E : Hid (treeF l = 2) := Hid.mk' (by unfold treeF; rw [if_pos (by omega)])
    go_enter Tryz.func107, Tryz.ntmps107
    go_wp2
    refine bodyPost_ret (v := .tuple #[.agg #[.slice none 0 0, .slice none 0 0], .int .i64 2]) (by simp [results, Tryz.results107, go_sem, *]) rfl ?_
    exact .inl ⟨by rw [E.out]; decide, by rw [E.out], below_new _ _⟩
  have hle : l.length ≤ 60 := by omega
  have HN : Hid (∃ (b o : Nat) (pa : Nat → Option Addr) (ca : Nat → Nat) (pt : Nat → Option Addr) (ct : Nat → Nat), (0 < l.length → a = some ⟨b, o, none⟩ ∧ b < w.heap.size) ∧ ∀ k, k < l.length → w.cell? ⟨b, o + k * 4, none⟩ = some (.int .i64 (ndK l k).up) ∧ w.cell? ⟨b, o + k * 4 + 1, none⟩ = some (.string (ndK l k).tg) ∧ w.cell? ⟨b, o + k * 4 + 2, none⟩ = some (.slice (pa k) (ndK l k).at_.length (ca k)) ∧ AAt w (pa k) (ndK l k).at_ ∧ w.cell? ⟨b, o + k * 4 + 3, none⟩ = some (.slice (pt k) (ndK l k).tx.length (ct k))) := by
    rcases ha with ha | ⟨b, o, rfl, hbs, hc⟩
    · exact ⟨0, 0, fun _ => none, fun _ => 0, fun _ => none, fun _ => 0, fun h => by rw [ha] at h; exact absurd h (Nat.not_lt_zero _), fun k h => by rw [ha] at h; exact absurd h (Nat.not_lt_zero _)⟩
    · obtain ⟨pa, ca, pt, ct, h⟩ := NsAt.fn hc
      exact ⟨b, o, pa, ca, pt, ct, fun _ => ⟨rfl, hbs⟩, h⟩
  obtain ⟨b, o, pa, ca, pt, ct, hab, hcell⟩ := HN.out
  have HA := Hid.mk' hab
  have HCl := Hid.mk' hcell
  clear HN ha hab hcell
  have B0 := below_new w (.cells #[.slice none 0 0, .slice none 0 0] 131)
  have R0 := (rowp2 w 131 (.slice none 0 0) (.slice none 0 0))
  have z0 : (w.alloc (.cells #[.slice none 0 0, .slice none 0 0] 131)).heap.size = w.heap.size + 1 := by simp
  have TS : TT (w.alloc (.cells #[.slice none 0 0, .slice none 0 0] 131)) (w.heap.size + 1) (w.heap.size + 1 + 1) l pa ca 0 (.slice none 0 0) (.slice (some ⟨w.heap.size + 1, 0, none⟩) 1 1) (((w.alloc (.cells #[.slice none 0 0, .slice none 0 0] 131)).alloc (.cells #[.int .i64 (-1)] 2)).alloc (.cells #[.slice none 0 0, .slice (some ⟨w.heap.size + 1, 0, none⟩) 1 1] 131)) := by
    generalize hW0 : w.alloc (.cells #[.slice none 0 0, .slice none 0 0] 131) = W0 at *
    have z1 : (W0.alloc (.cells #[.int .i64 (-1)] 2)).heap.size = w.heap.size + 1 + 1 := by simp [z0]
    have RB := rowp2 (W0.alloc (.cells #[.int .i64 (-1)] 2)) 131 (.slice none 0 0) (.slice (some ⟨w.heap.size + 1, 0, none⟩) 1 1)
    rw [z1] at RB
    have OW : (W0.alloc (.cells #[.int .i64 (-1)] 2)).ownsRow (w.heap.size + 1) 2 1 (.slice (some ⟨w.heap.size + 1, 0, none⟩) 1 1) 1 (ics [-1]) := by
      have := World.ownsRow_lit (base := w.heap.size + 1) (e := 2) (size := 1) W0 #[.int .i64 (-1)] 1 (by omega) (by unfold maxLen; omega) rfl
      rw [z0] at this
      exact this
    refine ⟨RB, ⟨rfl, .inl ⟨rfl, rfl⟩⟩, OW.alloc _, Ap.nil_left _, by simp [Value.ownBlock], by simp [Value.ownBlock], ?_, ?_, by omega⟩
    · exact ((Below.refl _ _).alloc (by omega) _).alloc (by simp; omega) _
    · simp; omega
  obtain ⟨W0, hW0⟩ : ∃ W0, w.alloc (.cells #[.slice none 0 0, .slice none 0 0] 131) = W0 := ⟨_, rfl⟩
  have HTS : Hid (TT W0 (w.heap.size + 1) (w.heap.size + 1 + 1) l pa ca 0 (.slice none 0 0) (.slice (some ⟨w.heap.size + 1, 0, none⟩) 1 1) (((w.alloc (.cells #[.slice none 0 0, .slice none 0 0] 131)).alloc (.cells #[.int .i64 (-1)] 2)).alloc (.cells #[.slice none 0 0, .slice (some ⟨w.heap.size + 1, 0, none⟩) 1 1] 131))) := Hid.mk' (by have := TS; rw [hW0] at this; rw [hW0]; exact this)
  rw [hW0] at B0 R0 z0
  have HB0 := Hid.mk' B0
  have HR0 := Hid.mk' R0
  have Z0 := Hid.mk' z0
  clear B0 R0 z0 TS hW0
  go_enter Tryz.func107, Tryz.ntmps107
  go_wp2_with fail
  go_loopw [17] (fun i wr => ∃ k : Nat, k ≤ l.length ∧ i = .int .i64 k ∧ (∀ j, j < k → oneF l j = 0) ∧ ∃ vn vw, TT W0 (w.heap.size + 1) (w.heap.size + 1 + 1) l pa ca k vn vw wr) (fun i _ => l.length - (intOf i).toNat)
  case atStart =>
    exact ⟨0, Nat.zero_le _, rfl, fun j h => absurd h (Nat.not_lt_zero _), _, _, HTS.out⟩
  case round =>
    obtain ⟨k, hk, rfl, hz, vn, vw, hT⟩ := hrel
    have HT := Hid.mk' hT
    have HZ := Hid.mk' hz
    clear hT hz
    by_cases hlt : k < l.length
    · have ci : (k : Int) < (l.length : Int) := by omega
      obtain ⟨rfl, hbs⟩ := HA.out (by omega)
      obtain ⟨q0, q1, q2, q3, q4⟩ := HCl.out k hlt
      have bl0 : Below w.heap.size w wr := HB0.out.trans (HT.out.bl.mono (by omega))
      have c0 := (bl0.cell hbs).trans q0
      have c1 := (bl0.cell hbs).trans q1
      have c2 := (bl0.cell hbs).trans q2
      have c3 := (bl0.cell hbs).trans q4
      have G := (ways_of HZ.out).good
      have gle := G.le
      obtain ⟨bw, cw, ew, w1_, w2_, w3_, hIA⟩ := own_iat HT.out.ow (by have := G.ne; omega)
      subst ew
      have AA := Hid.mk' (q3.below bl0)
      have hsz := nssz_at hlt
      have N1 := below_new wr (.cells #[.int .i64 (ndK l k).up, .string (ndK l k).tg, .slice (pa k) (ndK l k).at_.length (ca k), .slice (pt k) (ndK l k).tx.length (ct k)] 91)
      have HN1 := Hid.mk' N1
      have RN := Hid.mk' (row4 wr 91 (.int .i64 (ndK l k).up) (.string (ndK l k).tg) (.slice (pa k) (ndK l k).at_.length (ca k)) (.slice (pt k) (ndK l k).tx.length (ct k)))
      have IA := Hid.mk' (hIA.below N1)
      have HT1 := Hid.mk' (HT.out.below N1)
      have AA1 := Hid.mk' (AA.out.below N1)
      obtain ⟨p9, n9, c9, hV⟩ := mkV_slice (ndK l k) l pa ca k
      have KM : Hid (∀ w', Calls Tryz.prog 133 #[.agg #[.int .i64 (ndK l k).up, .string (ndK l k).tg, .slice (pa k) (ndK l k).at_.length (ca k), .slice (pt k) (ndK l k).tx.length (ct k)]] w' fun e w'' => e = .returned (.agg #[.int .i64 (mkK (ndK l k)), .string (mkS (ndK l k)), .slice p9 n9 c9]) ∧ Below w'.heap.size w' w'') := fun w' => by
        have := markOf_any (ndK l k) (pa k) (pt k) (ca k) (ct k) w'
        rw [show mkV (ndK l k) (.slice (pa k) (ndK l k).at_.length (ca k)) = .slice p9 n9 c9 from hV] at this
        exact this
      have HV := Hid.mk' hV
      clear hsz N1 hIA G q0 q1 q2 q3 q4 hV AA w1_ w3_ HT
      generalize hW : wr.alloc (.cells #[.int .i64 (ndK l k).up, .string (ndK l k).tg, .slice (pa k) (ndK l k).at_.length (ca k), .slice (pt k) (ndK l k).tx.length (ct k)] 91) = W at *
      go_wp2_with fail
      clear hW c0 c1 c2 c3
      have KI : Hid (∀ w', Below W.drew.heap.size W.drew w' → Calls Tryz.prog 134 #[.slice (some ⟨bw, 0, none⟩) (wayU (upF l) k).length cw, .int .i64 (ndK l k).up] w' fun e w'' => e = .returned (.int .i64 (ixI (wayU (upF l) k) (ndK l k).up)) ∧ w'' = w') := fun w' hb => indexI_any _ _ _ _ _ (IA.out.below (undrew hb)) (by omega)
      obtain ⟨r0, r1, r2, r3_, r4_⟩ := cells4 RN.out
      obtain ⟨t0, t1, t2⟩ := cells2 HT1.out.box
      have HWD : Hid (Below W.heap.size W W.drew) := Hid.mk' ((Below.refl _ _).drew)
      refine Code.wp_mono (Q := fun ex a' w' => ex = .normal ∧ ∃ x, W.heap.size ≤ x ∧ a' = ({ tmps := ((.slice (some ⟨b, o, none⟩) l.length c : Value) :: undef :: .pointer (some ⟨w.heap.size, 0, none⟩) :: u3 :: .pointer (some ⟨w.heap.size + 1 + 1, 0, none⟩) :: undef :: .pointer (some ⟨wr.heap.size, 0, none⟩) :: .pointer (some ⟨x, 0, none⟩) :: u8 :: .slice (some ⟨b, o, none⟩) l.length c :: .int .i64 (l.length : Int) :: .bool false :: undef :: .slice (some ⟨w.heap.size + 1, 0, none⟩) 1 1 :: .agg #[.slice none 0 0, .slice (some ⟨w.heap.size + 1, 0, none⟩) 1 1] :: .slice (some ⟨b, o, none⟩) l.length c :: .int .i64 (l.length : Int) :: .int .i64 (k : Int) :: .bool true :: .pointer (some ⟨b, o + k * 4, none⟩) :: .agg #[.int .i64 (ndK l k).up, .string (ndK l k).tg, .slice (pa k) (ndK l k).at_.length (ca k), .slice (pt k) (ndK l k).tx.length (ct k)] :: .agg #[.int .i64 (ndK l k).up, .string (ndK l k).tg, .slice (pa k) (ndK l k).at_.length (ca k), .slice (pt k) (ndK l k).tx.length (ct k)] :: .agg #[.int .i64 (mkK (ndK l k)), .string (mkS (ndK l k)), .slice p9 n9 c9] :: .pointer (some ⟨wr.heap.size, 0, none⟩) :: .int .i64 (ndK l k).up :: .pointer (some ⟨w.heap.size + 1 + 1, 1, none⟩) :: .slice (some ⟨bw, 0, none⟩) (wayU (upF l) k).length cw :: .pointer (some ⟨wr.heap.size, 0, none⟩) :: .int .i64 (ndK l k).up :: .int .i64 (ixI (wayU (upF l) k) (ndK l k).up) :: .agg #[.int .i64 (mkK (ndK l k)), .string (mkS (ndK l k)), .slice p9 n9 c9, .int .i64 (ndK l k).up, .int .i64 (ixI (wayU (upF l) k) (ndK l k).up)] :: u31 :: u32 :: u33 :: u34 :: u35 :: u36 :: u37 :: u38 :: u39 :: undef :: []).toArray, defers := [] } : Act) ∧ Below W.heap.size W w' ∧ w'.rowIs x 167 5 (r5 (.int .i64 (mkK (ndK l k))) (.string (mkS (ndK l k))) (.slice p9 n9 c9) (.int .i64 (ndK l k).up) (.int .i64 (ixI (wayU (upF l) k) (ndK l k).up)))) ?_ ?_
      rotate_left
      · refine wp_region_held_drew (S := fun w' => Below W.drew.heap.size W.drew w') (by kernel_rfl) (Below.refl _ _) (fun hHeld => ?_)
        have f0 : ∀ w', Below W.drew.heap.size W.drew w' → w'.cell? ⟨wr.heap.size, 0, none⟩ = some (.int .i64 (ndK l k).up) ∧ w'.cell? ⟨wr.heap.size, 1, none⟩ = some (.string (ndK l k).tg) ∧ w'.cell? ⟨wr.heap.size, 2, none⟩ = some (.slice (pa k) (ndK l k).at_.length (ca k)) ∧ w'.cell? ⟨wr.heap.size, 3, none⟩ = some (.slice (pt k) (ndK l k).tx.length (ct k)) ∧ w'.cell? ⟨w.heap.size + 1 + 1, 1, none⟩ = some (.slice (some ⟨bw, 0, none⟩) (wayU (upF l) k).length cw) := fun w' hb => ⟨((undrew hb).cell r4_).trans r0, ((undrew hb).cell r4_).trans r1, ((undrew hb).cell r4_).trans r2, ((undrew hb).cell r4_).trans r3_, ((undrew hb).cell t2).trans t1⟩
        have BC := Hid.mk' (Below.refl W.drew.heap.size W.drew)
        have F0 := Hid.mk' f0
        have SZ : Hid (W.drew.heap.size = W.heap.size) := Hid.mk' rfl
        clear f0 r0 r1 r2 r3_ t0 t1
        generalize hVd : W.drew = V at *
        clear hVd
        refine wpAnyH_take (i := 0) (oi := ⟨_, _, _, _, _, _⟩) (v := ?_) rfl (by kernel_rfl) (by kernel_rfl) (by kernel_rfl) (fun _ _ _ h => absurd h.1 (by simp)) (Or.inl ⟨by rfl, ?_⟩) (by assumption) ?_
        rotate_left
        · (intro w' hSw; obtain ⟨u0, u1, u2, u3, u4⟩ := F0.out w' hSw; (try dsimp only at hSw); go_simp; (try with_reducible rfl))
        try simp only [Act.put, zA, zB, zC]
        refine wpAnyH_take (i := 2) (oi := ⟨_, _, _, _, _, _⟩) (v := ?_) rfl (by kernel_rfl) (by kernel_rfl) (by kernel_rfl) (fun _ _ _ h => absurd h.1 (by simp)) (Or.inl ⟨by rfl, ?_⟩) (by assumption) ?_
        rotate_left
        · (intro w' hSw; obtain ⟨u0, u1, u2, u3, u4⟩ := F0.out w' hSw; (try dsimp only at hSw); go_simp; (try with_reducible rfl))
        try simp only [Act.put, zA, zB, zC]
        refine wpAnyH_take (i := 3) (oi := ⟨_, _, _, _, _, _⟩) (v := ?_) rfl (by kernel_rfl) (by kernel_rfl) (by kernel_rfl) (fun _ _ _ h => absurd h.1 (by simp)) (Or.inl ⟨by rfl, ?_⟩) (by assumption) ?_
        rotate_left
        · (intro w' hSw; obtain ⟨u0, u1, u2, u3, u4⟩ := F0.out w' hSw; (try dsimp only at hSw); go_simp; (try with_reducible rfl))
        try simp only [Act.put, zA, zB, zC]
        refine wpAnyH_take (i := 4) (oi := ⟨_, _, _, _, _, _⟩) (v := ?_) rfl (by kernel_rfl) (by kernel_rfl) (by kernel_rfl) (fun _ _ _ h => absurd h.1 (by simp)) (Or.inl ⟨by rfl, ?_⟩) (by assumption) ?_
        rotate_left
        · (intro w' hSw; obtain ⟨u0, u1, u2, u3, u4⟩ := F0.out w' hSw; (try dsimp only at hSw); go_simp; (try with_reducible rfl))
        try simp only [Act.put, zA, zB, zC]
        refine wpAnyH_take (i := 5) (oi := ⟨_, _, _, _, _, _⟩) (v := ?_) rfl (by kernel_rfl) (by kernel_rfl) (by kernel_rfl) (fun _ _ _ h => absurd h.1 (by simp)) (Or.inl ⟨by rfl, ?_⟩) (by assumption) ?_
        rotate_left
        · (intro w' hSw; obtain ⟨u0, u1, u2, u3, u4⟩ := F0.out w' hSw; (try dsimp only at hSw); go_simp; (try with_reducible rfl))
        try simp only [Act.put, zA, zB, zC]
        refine wpAnyH_take (i := 6) (oi := ⟨_, _, _, _, _, _⟩) (v := ?_) rfl (by kernel_rfl) (by kernel_rfl) (by kernel_rfl) (fun _ _ _ h => absurd h.1 (by simp)) (Or.inl ⟨by rfl, ?_⟩) (by assumption) ?_
        rotate_left
        · (intro w' hSw; obtain ⟨u0, u1, u2, u3, u4⟩ := F0.out w' hSw; (try dsimp only at hSw); go_simp; (try with_reducible rfl))
        try simp only [Act.put, zA, zB, zC]
        refine wpAnyH_take (i := 7) (oi := ⟨_, _, _, _, _, _⟩) (v := ?_) rfl (by kernel_rfl) (by kernel_rfl) (by kernel_rfl) (fun _ _ _ h => absurd h.1 (by simp)) (Or.inl ⟨by rfl, ?_⟩) (by assumption) ?_
        rotate_left
        · (intro w' hSw; obtain ⟨u0, u1, u2, u3, u4⟩ := F0.out w' hSw; (try dsimp only at hSw); go_simp; (try with_reducible rfl))
        try simp only [Act.put, zA, zB, zC]
        refine wpAnyH_ready (rs := [1, 10]) (by kernel_rfl) (by simp) ?_
        refine AllReadyH.cons (o := ⟨_, _, _, _, _, _⟩) rfl (fun K hK => ?_) (AllReadyH.cons (o := ⟨_, _, _, _, _, _⟩) rfl (fun K hK => ?_) AllReadyH.nil)
        · go_simp
          go_at_call 133; refine (KM.out _).mono ?_; rintro e wm ⟨rfl, hb⟩; have BC := Hid.mk' (BC.out.trans (hb.mono BC.out.size))
          clear hb
          refine hK.out _ _ BC.out (fun hHeld => ?_)
          clear hK K
          try simp only [Act.put, zA, zB, zC]
          refine wpAnyH_ready (rs := [8, 10]) (by kernel_rfl) (by simp) ?_
          refine AllReadyH.cons (o := ⟨_, _, _, _, _, _⟩) rfl (fun K hK => ?_) (AllReadyH.cons (o := ⟨_, _, _, _, _, _⟩) rfl (fun K hK => ?_) AllReadyH.nil)
          · go_simp
            go_at_call 134; refine (KI.out _ BC.out).mono ?_; rintro e wi ⟨rfl, hw9⟩; obtain rfl := hw9.symm
            refine hK.out _ _ BC.out (fun hHeld => ?_)
            clear hK K
            try simp only [Act.put, zA, zB, zC]
            refine wpAnyH_take (i := 9) (oi := ⟨_, _, _, _, _, _⟩) (v := ?_) rfl (by kernel_rfl) (by kernel_rfl) (by kernel_rfl) (fun _ _ _ h => absurd h.1 (by simp)) (Or.inl ⟨by rfl, ?_⟩) (by assumption) ?_
            rotate_left
            · (intro w hSw; (try dsimp only at hSw); go_simp; (try with_reducible rfl))
            try simp only [Act.put, zA, zB, zC]
            refine wpAnyH_ready (rs := [10]) (by kernel_rfl) (by simp) ?_
            refine AllReadyH.cons (o := ⟨_, _, _, _, _, _⟩) rfl (fun K hK => ?_) AllReadyH.nil
            · go_simp
              have BC := Hid.mk' (BC.out.alloc BC.out.size (.cells #[.int .i64 0, .string ⟨#[]⟩, .slice none 0 0, .int .i64 0, .int .i64 0] 167))
              have RX := Hid.mk' (row5 wm 167 (.int .i64 0) (.string ⟨#[]⟩) (.slice none 0 0) (.int .i64 0) (.int .i64 0))
              have XL : Hid (W.heap.size ≤ wm.heap.size) := Hid.mk' (SZ.out ▸ hHeld.size)
              generalize hwa : wm.alloc (.cells #[.int .i64 0, .string ⟨#[]⟩, .slice none 0 0, .int .i64 0, .int .i64 0] 167) = wa at *
              refine hK.out _ _ BC.out (fun hHeld => ?_)
              clear hK K
              try simp only [Act.put, zA, zB, zC]
              generalize hx : wm.heap.size = x at *
              obtain ⟨s0, s1, s2, s3, s4, s5⟩ := cells5 RX.out
              have g0 := RX.out.frozen 0
              have g1 := RX.out.frozen 1
              have g2 := RX.out.frozen 2
              have g3 := RX.out.frozen 3
              have g4 := RX.out.frozen 4
              have XG : V.heap.size ≤ x := by have := XL.out; have := SZ.out; omega
              refine wpAnyH_ready (rs := [11]) (by kernel_rfl) (by simp) ?_
              refine AllReadyH.cons (o := ⟨_, _, _, _, _, _⟩) rfl (fun K hK => ?_) AllReadyH.nil
              go_simp
              have B9 := (((((BC.out.setCell (p := ⟨x, 0, none⟩) XG (.int .i64 (mkK (ndK l k)))).setCell (p := ⟨x, 1, none⟩) XG (.string (mkS (ndK l k)))).setCell (p := ⟨x, 2, none⟩) XG (.slice p9 n9 c9)).setCell (p := ⟨x, 3, none⟩) XG (.int .i64 (ndK l k).up)).setCell (p := ⟨x, 4, none⟩) XG (.int .i64 (ixI (wayU (upF l) k) (ndK l k).up)))
              have R9 := (((((RX.out.set 0 (.int .i64 (mkK (ndK l k)))).set 1 (.string (mkS (ndK l k)))).set 2 (.slice p9 n9 c9)).set 3 (.int .i64 (ndK l k).up)).set 4 (.int .i64 (ixI (wayU (upF l) k) (ndK l k).up))).congr (g := r5 (.int .i64 (mkK (ndK l k))) (.string (mkS (ndK l k))) (.slice p9 n9 c9) (.int .i64 (ndK l k).up) (.int .i64 (ixI (wayU (upF l) k) (ndK l k).up))) (fun i hi => by have h5 : i = 0 ∨ i = 1 ∨ i = 2 ∨ i = 3 ∨ i = 4 := (by omega); rcases h5 with rfl | rfl | rfl | rfl | rfl <;> rfl)
              refine hK.out _ _ B9 (fun hHeld => ?_)
              clear hK K
              try simp only [Act.put, zA, zB, zC]
              refine wpAnyH_done (by kernel_rfl) ?_ _
              exact ⟨rfl, x, XL.out, rfl, HWD.out.trans (B9.mono (by have := SZ.out; omega)), R9⟩
          · go_simp
            have BC := Hid.mk' (BC.out.alloc BC.out.size (.cells #[.int .i64 0, .string ⟨#[]⟩, .slice none 0 0, .int .i64 0, .int .i64 0] 167))
            have RX := Hid.mk' (row5 wm 167 (.int .i64 0) (.string ⟨#[]⟩) (.slice none 0 0) (.int .i64 0) (.int .i64 0))
            have XL : Hid (W.heap.size ≤ wm.heap.size) := Hid.mk' (SZ.out ▸ hHeld.size)
            generalize hwa : wm.alloc (.cells #[.int .i64 0, .string ⟨#[]⟩, .slice none 0 0, .int .i64 0, .int .i64 0] 167) = wa at *
            refine hK.out _ _ BC.out (fun hHeld => ?_)
            clear hK K
            try simp only [Act.put, zA, zB, zC]
            refine wpAnyH_ready (rs := [8]) (by kernel_rfl) (by simp) ?_
            refine AllReadyH.cons (o := ⟨_, _, _, _, _, _⟩) rfl (fun K hK => ?_) AllReadyH.nil
            · go_simp
              go_at_call 134; refine (KI.out _ BC.out).mono ?_; rintro e wi ⟨rfl, hw9⟩; obtain rfl := hw9.symm
              refine hK.out _ _ BC.out (fun hHeld => ?_)
              clear hK K
              try simp only [Act.put, zA, zB, zC]
              refine wpAnyH_take (i := 9) (oi := ⟨_, _, _, _, _, _⟩) (v := ?_) rfl (by kernel_rfl) (by kernel_rfl) (by kernel_rfl) (fun _ _ _ h => absurd h.1 (by simp)) (Or.inl ⟨by rfl, ?_⟩) (by assumption) ?_
              rotate_left
              · (intro w hSw; (try dsimp only at hSw); go_simp; (try with_reducible rfl))
              try simp only [Act.put, zA, zB, zC]
              generalize hx : wm.heap.size = x at *
              obtain ⟨s0, s1, s2, s3, s4, s5⟩ := cells5 RX.out
              have g0 := RX.out.frozen 0
              have g1 := RX.out.frozen 1
              have g2 := RX.out.frozen 2
              have g3 := RX.out.frozen 3
              have g4 := RX.out.frozen 4
              have XG : V.heap.size ≤ x := by have := XL.out; have := SZ.out; omega
              refine wpAnyH_ready (rs := [11]) (by kernel_rfl) (by simp) ?_
              refine AllReadyH.cons (o := ⟨_, _, _, _, _, _⟩) rfl (fun K hK => ?_) AllReadyH.nil
              go_simp
              have B9 := (((((BC.out.setCell (p := ⟨x, 0, none⟩) XG (.int .i64 (mkK (ndK l k)))).setCell (p := ⟨x, 1, none⟩) XG (.string (mkS (ndK l k)))).setCell (p := ⟨x, 2, none⟩) XG (.slice p9 n9 c9)).setCell (p := ⟨x, 3, none⟩) XG (.int .i64 (ndK l k).up)).setCell (p := ⟨x, 4, none⟩) XG (.int .i64 (ixI (wayU (upF l) k) (ndK l k).up)))
              have R9 := (((((RX.out.set 0 (.int .i64 (mkK (ndK l k)))).set 1 (.string (mkS (ndK l k)))).set 2 (.slice p9 n9 c9)).set 3 (.int .i64 (ndK l k).up)).set 4 (.int .i64 (ixI (wayU (upF l) k) (ndK l k).up))).congr (g := r5 (.int .i64 (mkK (ndK l k))) (.string (mkS (ndK l k))) (.slice p9 n9 c9) (.int .i64 (ndK l k).up) (.int .i64 (ixI (wayU (upF l) k) (ndK l k).up))) (fun i hi => by have h5 : i = 0 ∨ i = 1 ∨ i = 2 ∨ i = 3 ∨ i = 4 := (by omega); rcases h5 with rfl | rfl | rfl | rfl | rfl <;> rfl)
              refine hK.out _ _ B9 (fun hHeld => ?_)
              clear hK K
              try simp only [Act.put, zA, zB, zC]
              refine wpAnyH_done (by kernel_rfl) ?_ _
              exact ⟨rfl, x, XL.out, rfl, HWD.out.trans (B9.mono (by have := SZ.out; omega)), R9⟩
        · go_simp
          have BC := Hid.mk' (BC.out.alloc BC.out.size (.cells #[.int .i64 0, .string ⟨#[]⟩, .slice none 0 0, .int .i64 0, .int .i64 0] 167))
          have RX := Hid.mk' (row5 V 167 (.int .i64 0) (.string ⟨#[]⟩) (.slice none 0 0) (.int .i64 0) (.int .i64 0))
          have XL : Hid (W.heap.size ≤ V.heap.size) := Hid.mk' (SZ.out ▸ hHeld.size)
          generalize hwa : V.alloc (.cells #[.int .i64 0, .string ⟨#[]⟩, .slice none 0 0, .int .i64 0, .int .i64 0] 167) = wa at *
          refine hK.out _ _ BC.out (fun hHeld => ?_)
          clear hK K
          try simp only [Act.put, zA, zB, zC]
          refine wpAnyH_ready (rs := [1]) (by kernel_rfl) (by simp) ?_
          refine AllReadyH.cons (o := ⟨_, _, _, _, _, _⟩) rfl (fun K hK => ?_) AllReadyH.nil
          · go_simp
            go_at_call 133; refine (KM.out _).mono ?_; rintro e wm ⟨rfl, hb⟩; have BC := Hid.mk' (BC.out.trans (hb.mono BC.out.size))
            have RX := Hid.mk' (rowB RX.out hb)
            clear hb
            refine hK.out _ _ BC.out (fun hHeld => ?_)
            clear hK K
            try simp only [Act.put, zA, zB, zC]
            refine wpAnyH_ready (rs := [8]) (by kernel_rfl) (by simp) ?_
            refine AllReadyH.cons (o := ⟨_, _, _, _, _, _⟩) rfl (fun K hK => ?_) AllReadyH.nil
            · go_simp
              go_at_call 134; refine (KI.out _ BC.out).mono ?_; rintro e wi ⟨rfl, hw9⟩; obtain rfl := hw9.symm
              refine hK.out _ _ BC.out (fun hHeld => ?_)
              clear hK K
              try simp only [Act.put, zA, zB, zC]
              refine wpAnyH_take (i := 9) (oi := ⟨_, _, _, _, _, _⟩) (v := ?_) rfl (by kernel_rfl) (by kernel_rfl) (by kernel_rfl) (fun _ _ _ h => absurd h.1 (by simp)) (Or.inl ⟨by rfl, ?_⟩) (by assumption) ?_
              rotate_left
              · (intro w hSw; (try dsimp only at hSw); go_simp; (try with_reducible rfl))
              try simp only [Act.put, zA, zB, zC]
              obtain ⟨s0, s1, s2, s3, s4, s5⟩ := cells5 RX.out
              have g0 := RX.out.frozen 0
              have g1 := RX.out.frozen 1
              have g2 := RX.out.frozen 2
              have g3 := RX.out.frozen 3
              have g4 := RX.out.frozen 4
              have XG : V.heap.size ≤ V.heap.size := by have := XL.out; have := SZ.out; omega
              refine wpAnyH_ready (rs := [11]) (by kernel_rfl) (by simp) ?_
              refine AllReadyH.cons (o := ⟨_, _, _, _, _, _⟩) rfl (fun K hK => ?_) AllReadyH.nil
              go_simp
              have B9 := (((((BC.out.setCell (p := ⟨V.heap.size, 0, none⟩) XG (.int .i64 (mkK (ndK l k)))).setCell (p := ⟨V.heap.size, 1, none⟩) XG (.string (mkS (ndK l k)))).setCell (p := ⟨V.heap.size, 2, none⟩) XG (.slice p9 n9 c9)).setCell (p := ⟨V.heap.size, 3, none⟩) XG (.int .i64 (ndK l k).up)).setCell (p := ⟨V.heap.size, 4, none⟩) XG (.int .i64 (ixI (wayU (upF l) k) (ndK l k).up)))
              have R9 := (((((RX.out.set 0 (.int .i64 (mkK (ndK l k)))).set 1 (.string (mkS (ndK l k)))).set 2 (.slice p9 n9 c9)).set 3 (.int .i64 (ndK l k).up)).set 4 (.int .i64 (ixI (wayU (upF l) k) (ndK l k).up))).congr (g := r5 (.int .i64 (mkK (ndK l k))) (.string (mkS (ndK l k))) (.slice p9 n9 c9) (.int .i64 (ndK l k).up) (.int .i64 (ixI (wayU (upF l) k) (ndK l k).up))) (fun i hi => by have h5 : i = 0 ∨ i = 1 ∨ i = 2 ∨ i = 3 ∨ i = 4 := (by omega); rcases h5 with rfl | rfl | rfl | rfl | rfl <;> rfl)
              refine hK.out _ _ B9 (fun hHeld => ?_)
              clear hK K
              try simp only [Act.put, zA, zB, zC]
              refine wpAnyH_done (by kernel_rfl) ?_ _
              exact ⟨rfl, V.heap.size, XL.out, rfl, HWD.out.trans (B9.mono (by have := SZ.out; omega)), R9⟩
      · intro ex a' w' hR
        obtain ⟨rfl, x, hx, rfl, hb, hrow⟩ := hR
        have HT2 := Hid.mk' (HT1.out.below hb)
        have HX := Hid.mk' hrow
        have HL : Hid ((l.length : Int) + nssz l ≤ 1048576) := Hid.mk' hl
        have KF := faultNext_any W0 (w.heap.size + 1) (w.heap.size + 1 + 1) l pa ca k vn (.slice (some ⟨bw, 0, none⟩) (wayU (upF l) k).length cw) (pa k) (ca k) w' HT2.out hlt hle HZ.out (AA1.out.below hb) hl
        rw [show mkV (ndK l k) (.slice (pa k) (ndK l k).at_.length (ca k)) = .slice p9 n9 c9 from HV.out] at KF
        have KF := Hid.mk' KF
        obtain ⟨s0, s1, s2, s3, s4, s5⟩ := cells5 hrow
        have RR := Hid.mk' (HR0.out.of_block (HT2.out.bl.block _ (by omega)))
        clear hb hrow KM KI IA RN HN1 r4_ t2 HWD HT1 AA1 bl0 hl
        by_cases h0 : oneF l k = 0
        · rw [h0] at KF
          have hd := oneF_dep h0
          have ei : ixI (wayU (upF l) k) (ndK l k).up = (depU (upF l) k : Int) := by unfold ixI; exact if_pos hd
          have H0 := Hid.mk' h0
          have KP : Hid (∀ w', TT W0 (w.heap.size + 1) (w.heap.size + 1 + 1) l pa ca k vn (.slice (some ⟨bw, 0, none⟩) (wayU (upF l) k).length cw) w' → Calls Tryz.prog 136 #[.pointer (some ⟨w.heap.size + 1 + 1, 0, none⟩), .agg #[.int .i64 (mkK (ndK l k)), .string (mkS (ndK l k)), .slice p9 n9 c9, .int .i64 (ndK l k).up, .int .i64 (ixI (wayU (upF l) k) (ndK l k).up)]] w' fun e w'' => (∃ v, e = .returned v) ∧ ∃ vn' vw', TT W0 (w.heap.size + 1) (w.heap.size + 1 + 1) l pa ca (k + 1) vn' vw' w'') := fun w' ht => by
            have := put_any W0 (w.heap.size + 1) (w.heap.size + 1 + 1) l pa ca k vn (.slice (some ⟨bw, 0, none⟩) (wayU (upF l) k).length cw) w' ht (by omega) hd gle
            rw [HV.out] at this
            rw [ei]
            exact this
          clear h0 ei hd
          generalize ixI (wayU (upF l) k) (ndK l k).up = dI at *
          go_wp2_with fail
          refine KF.out.mono ?_
          rintro e w2 ⟨rfl, hb2⟩
          have HT3 := Hid.mk' (HT2.out.below hb2)
          obtain ⟨v0, v1, v2, v3, v4, v5⟩ := cells5 (rowB HX.out hb2)
          clear hb2 KF HT2 s0 s1 s2 s3 s4 s5
          go_wp2_with fail
          refine (KP.out _ HT3.out).mono ?_
          rintro e w3 ⟨⟨vv, rfl⟩, vn', vw', hT'⟩
          have HT4 := Hid.mk' hT'
          clear hT' KP HT3
          go_wp2
          go_roundw
          case rel => exact ⟨k + 1, by omega, by go_num, fun j hj => by
            by_cases h : j = k
            · subst h; exact H0.out
            · exact HZ.out j (by omega), vn', vw', HT4.out⟩
          case measure => simp [intOf]; omega
        · have E : Hid (treeF l = oneF l k) := Hid.mk' (treeF_hit (by omega) hlt HZ.out rfl h0)
          generalize hf : oneF l k = f at *
          go_wp2_with fail
          refine KF.out.mono ?_
          rintro e w2 ⟨rfl, hb2⟩
          have HB2 : Hid (Below w.heap.size w w2) := Hid.mk' ((HB0.out.trans (HT2.out.bl.mono (by omega))).trans (hb2.mono (by have := HT2.out.sz; omega)))
          have RS := rowB RR.out hb2
          obtain ⟨v0, v1, v2⟩ := cells2 RS
          have g0 := RS.frozen 0
          have g1 := RS.frozen 1
          clear hb2 KF RS HT2
          go_wp2
          refine bodyPost_ret (v := .tuple #[.agg #[.slice none 0 0, .slice none 0 0], .int .i64 f]) (by simp [results, Tryz.results107, go_sem, *]) rfl ?_
          refine .inl ⟨by rw [E.out]; exact h0, by rw [E.out], ?_⟩
          exact (HB2.out.setCell (p := ⟨w.heap.size, 0, none⟩) (Nat.le_refl _) _).setCell (p := ⟨w.heap.size, 1, none⟩) (Nat.le_refl _) _
    · have ci : ¬ (k : Int) < (l.length : Int) := by omega
      have e : k = l.length := by omega
      subst e
      have E : Hid (treeF l = 0) := Hid.mk' (treeF_none (by omega) HZ.out)
      obtain ⟨an, cn, ev, _⟩ := own_len HT.out.on
      subst ev
      obtain ⟨aw, cw, ev, _⟩ := own_len HT.out.ow
      subst ev
      obtain ⟨b0, b1, b2⟩ := cells2 HT.out.box
      have RS := HR0.out.of_block (HT.out.bl.block _ (by omega))
      obtain ⟨v0, v1, v2⟩ := cells2 RS
      have g0 := RS.frozen 0
      have g1 := RS.frozen 1
      have F1 := Hid.mk' (HT.out.fin (u := .slice an l.length cn) (u' := .slice aw (wayU (upF l) l.length).length cw) HB0.out)
      clear RS
      go_wp2
      refine bodyPost_ret (v := .tuple #[.agg #[.slice an l.length cn, .slice aw (wayU (upF l) l.length).length cw], .int .i64 0]) (by simp [results, Tryz.results107, go_sem, *]) rfl ?_
      exact .inr ⟨E.out, pa, ca, _, _, _, rfl, F1.out⟩

end Go.Proofs.YthcajggbcanmdaaGreatDoor

namespace Go.Proofs.YthcajggbcanmdaaGreatDoor
open Go.RowKit

set_option maxHeartbeats 1600000 in
theorem l6Fault_any (a : Option Addr) (c : Nat) (l : List ND) (w : World) (ha : NsAt w a l) (hl : (l.length : Int) + nssz l ≤ 1048576) :
    Calls Tryz.prog 95 #[.slice a l.length c] w fun e w' => e = .returned (.int .i64 (treeF l)) ∧ Below w.heap.size w w' := by
  by_cases h60 : (l.length : Int) > 60
  · have E : Hid (treeF l = 2) := Hid.mk' (by unfold treeF; rw [if_pos (by omega)])
    go_enter Tryz.func95, Tryz.ntmps95
    go_wp2
    go_ret
    exact ⟨by rw [E.out]; rfl, Below.refl _ _⟩
  have HA := Hid.mk' ha
  clear ha
  go_enter Tryz.func95, Tryz.ntmps95
  go_wp2
  go_loopw [3] (fun i wr => ∃ k : Nat, k ≤ l.length ∧ i = .int .i64 k ∧ (∀ j, j < k → oneF l j = 0) ∧ Below w.heap.size w wr) (fun i _ => l.length - (intOf i).toNat)
  case atStart => exact ⟨0, Nat.zero_le _, rfl, fun j h => absurd h (Nat.not_lt_zero _), Below.refl _ _⟩
  case round =>
    obtain ⟨k, hk, rfl, hz, hbl⟩ := hrel
    have HZ := Hid.mk' hz
    have HB := Hid.mk' hbl
    by_cases hlt : k < l.length
    · have ci : (k : Int) < (l.length : Int) := by omega
      have KO := l6One_any a c l k wr (HA.out.below hbl) hlt (ways_of hz) hl
      clear hz hbl
      by_cases h0 : oneF l k = 0
      · have H0 := Hid.mk' h0
        rw [h0] at KO
        have KO := Hid.mk' KO
        clear h0
        go_wp2_with fail
        refine KO.out.mono ?_
        rintro e w1 ⟨rfl, hb⟩
        have HB := Hid.mk' (HB.out.trans (hb.mono HB.out.size))
        clear hb KO
        go_wp2
        go_roundw
        case rel => exact ⟨k + 1, by omega, by go_num, fun j hj => by
          by_cases h : j = k
          · subst h; exact H0.out
          · exact HZ.out j (by omega), HB.out⟩
        case measure => simp [intOf]; omega
      · have E : Hid (treeF l = oneF l k) := Hid.mk' (treeF_hit (by omega) hlt HZ.out rfl h0)
        have KO := Hid.mk' KO
        generalize hf : oneF l k = f at *
        go_wp2_with fail
        refine KO.out.mono ?_
        rintro e w1 ⟨rfl, hb⟩
        have HB := Hid.mk' (HB.out.trans (hb.mono HB.out.size))
        clear hb KO
        go_wp2
        go_ret
        exact ⟨by rw [E.out]; rfl, HB.out⟩
    · have ci : ¬ (k : Int) < (l.length : Int) := by omega
      have e : k = l.length := by omega
      subst e
      have E : Hid (treeF l = 0) := Hid.mk' (treeF_none (by omega) HZ.out)
      clear hz hbl
      go_wp2
      go_ret
      exact ⟨by rw [E.out]; rfl, HB.out⟩

end Go.Proofs.YthcajggbcanmdaaGreatDoor

namespace Go.Proofs.YthcajggbcanmdaaGreatDoor
open Go.RowKit

theorem TT.rebox {w0 w w' : World} {base g h : Nat} {l : List ND} {pa : Nat → Option Addr} {ca : Nat → Nat} {k : Nat} {vn vw : Value} (t : TT w0 base g l pa ca k vn vw w) (hb : Below w.heap.size w w') (hh : w.heap.size ≤ h) (hr : w'.rowIs h 131 2 (p2 vn vw)) : TT w0 base h l pa ca k vn vw w' := by
  have h1 := t.below hb
  exact ⟨hr, h1.on, h1.ow, h1.ap, fun e => by have := (t.on.lt _ e).2; omega, fun e => by have := (t.ow.lt _ e).2; omega, h1.bl, h1.sz, by have := t.sz; omega⟩

set_option maxHeartbeats 1600000 in
theorem hasPlace_any (g : Nat) (an : Option Addr) (n cn : Nat) (x : Int) (w : World) (h : w.cell? ⟨g, 0, none⟩ = some (.slice an n cn)) :
    Calls Tryz.prog 137 #[.pointer (some ⟨g, 0, none⟩), .int .i64 x] w fun e w' => e = .returned (.bool (decide (x ≥ 0) && decide (x < (n : Int)))) ∧ w' = w := by
  by_cases h1 : x ≥ 0
  · by_cases h2 : x < (n : Int)
    all_goals
      go_enter Tryz.func137, Tryz.ntmps137
      go_wp2_with go_big_skip
      go_ret
      exact ⟨by simp [h1, h2], rfl⟩
  · go_enter Tryz.func137, Tryz.ntmps137
    go_wp2_with go_big_skip
    go_ret
    exact ⟨by simp; omega, rfl⟩

end Go.Proofs.YthcajggbcanmdaaGreatDoor

namespace Go.Proofs.YthcajggbcanmdaaGreatDoor
open Go.RowKit

def OI (w : World) (v : Value) (l : List Int) : Prop := (v = .slice none 0 0 ∧ l = []) ∨
  ∃ g cap cn f, v = .slice (some ⟨g, 0, none⟩) l.length cap ∧ w.rowIs g 2 cn f ∧ l.length ≤ cn ∧ ∀ i, i < l.length → f i = .int .i64 (wv l i)

theorem OI.keep {w w' : World} {v : Value} {l : List Int} (h : OI w v l) (hk : ∀ k, v.ownBlock = some k → k < w.heap.size → w'.heap[k]? = w.heap[k]?) : OI w' v l := by
  rcases h with h | ⟨g, cap, cn, f, rfl, hr, hl, hf⟩
  · exact .inl h
  · exact .inr ⟨g, cap, cn, f, rfl, hr.of_block (hk g rfl hr.lt), hl, hf⟩

theorem OI.lt {w : World} {v : Value} {l : List Int} (h : OI w v l) : ∀ k, v.ownBlock = some k → k < w.heap.size := by
  rcases h with ⟨rfl, _⟩ | ⟨g, cap, cn, f, rfl, hr, _, _⟩
  · intro k e; simp [Value.ownBlock] at e
  · intro k e; simp [Value.ownBlock] at e; subst e; exact hr.lt

theorem OI.len {w : World} {v : Value} {l : List Int} (h : OI w v l) : ∃ a c, v = .slice a l.length c ∧ IAt w a l := by
  rcases h with ⟨rfl, rfl⟩ | ⟨g, cap, cn, f, rfl, hr, hl, hf⟩
  · exact ⟨none, 0, rfl, .inl rfl⟩
  · exact ⟨_, _, rfl, .inr ⟨g, 0, rfl, hr.lt, fun k hk => by rw [Nat.zero_add, hr.cell (by omega), hf k hk]⟩⟩

theorem OI.of_own {w : World} {base : Nat} {v : Value} {l : List Int} (h : w.ownsRow base 2 1 v l.length (ics l)) : OI w v l := by
  obtain ⟨_, h | ⟨g, cap, cur, rfl, hb, hg, hn, hm, hs, ht⟩⟩ := h
  · obtain ⟨rfl, h0⟩ := h
    exact .inl ⟨rfl, List.eq_nil_of_length_eq_zero h0⟩
  · refine .inr ⟨g, cap, cap, fun i => cur.toList.getD i undef, rfl, ⟨cur, hg, by omega, fun i hi => ?_⟩, hn, fun i hi => ?_⟩
    · have : i < cur.size := by omega
      simp [this]
    · have e := ics_get l i hi
      rw [← ht, List.getElem?_take, if_pos (by omega)] at e
      simp only [List.getD_eq_getElem?_getD, e, Option.getD_some]

end Go.Proofs.YthcajggbcanmdaaGreatDoor

namespace Go.Proofs.YthcajggbcanmdaaGreatDoor
open Go.RowKit

structure BS where
  nd : List ND
  op : List Int
  lg : Bool

def SAt (w : World) (a p : Option Addr) (s : BS) : Prop := NsAt w a s.nd ∧ IAt w p s.op

theorem SAt.below {w w' : World} {a p : Option Addr} {s : BS} (h : SAt w a p s) (hb : Below w.heap.size w w') : SAt w' a p s := ⟨h.1.below hb, h.2.below hb⟩

end Go.Proofs.YthcajggbcanmdaaGreatDoor

namespace Go.Proofs.YthcajggbcanmdaaGreatDoor
open Go.RowKit

def aheadI (op : List Int) (k : Nat) : Int := if k = 0 then -1 else wv op (k - 1)

theorem aheadI_succ (op : List Int) (k : Nat) : aheadI op (k + 1) = wv op k := by unfold aheadI; rw [if_neg (by omega)]; rfl

def openF (l : List ND) (op : List Int) (k : Nat) : Int :=
  if 0 ≤ wv op k ∧ wv op k < (l.length : Int) then (if (ndK l (wv op k).toNat).up = aheadI op k ∧ holdB (ndK l (wv op k).toNat) = true then 0 else 1) else 3

def opensF (l : List ND) (op : List Int) : Int := firstF (openF l op) op.length 0

def restF (l : List ND) (op : List Int) : Int :=
  if opensF l op = 0 then (if 7 < op.length then 2 else if 0 < op.length ∧ inW (wayU (upF l) l.length) (aheadI op op.length) = false then 1 else 0) else opensF l op

def bldF (s : BS) : Int :=
  if treeF s.nd = 0 then (if s.lg = true ∧ (0 < s.nd.length ∨ 0 < s.op.length) then 1 else restF s.nd s.op) else treeF s.nd

theorem openF_out {l : List ND} {op : List Int} {k : Nat} (h : ¬ (0 ≤ wv op k ∧ wv op k < (l.length : Int))) : openF l op k = 3 := by unfold openF; rw [if_neg h]
theorem openF_no {l : List ND} {op : List Int} {k m : Nat} (hm : wv op k = (m : Int)) (hl : m < l.length) (h : ¬ ((ndK l m).up = aheadI op k ∧ holdB (ndK l m) = true)) : openF l op k = 1 := by
  unfold openF; rw [hm, if_pos ⟨by omega, by omega⟩, Int.toNat_natCast, if_neg h]
theorem openF_yes {l : List ND} {op : List Int} {k m : Nat} (hm : wv op k = (m : Int)) (hl : m < l.length) (h1 : (ndK l m).up = aheadI op k) (h2 : holdB (ndK l m) = true) : openF l op k = 0 := by
  unfold openF; rw [hm, if_pos ⟨by omega, by omega⟩, Int.toNat_natCast, if_pos ⟨h1, h2⟩]

theorem opensF_hit {l : List ND} {op : List Int} {k : Nat} {c : Int} (hk : k < op.length) (hz : ∀ j, j < k → openF l op j = 0) (hc : openF l op k = c) (h0 : ¬ c = 0) : opensF l op = c := by
  unfold opensF
  rw [firstF_hit (openF l op) op.length 0 k hk (fun j hj => by rw [Nat.zero_add]; exact hz j hj) (by rw [Nat.zero_add, hc]; exact h0), Nat.zero_add, hc]
theorem opensF_none {l : List ND} {op : List Int} (hz : ∀ j, j < op.length → openF l op j = 0) : opensF l op = 0 := by
  unfold opensF
  exact firstF_none _ _ _ (fun j hj => by rw [Nat.zero_add]; exact hz j hj)
theorem restF_hit {l : List ND} {op : List Int} {c : Int} (h : opensF l op = c) (h0 : ¬ c = 0) : restF l op = c := by unfold restF; rw [h, if_neg h0]
theorem restF_many {l : List ND} {op : List Int} (h : opensF l op = 0) (h7 : 7 < op.length) : restF l op = 2 := by unfold restF; rw [if_pos h, if_pos h7]

theorem inW_none {l : List ND} (h : treeF l = 0) : inW (wayU (upF l) l.length) (-1) = true := by
  have G := (treeF_ways h).good
  have := ixF_found (wayU (upF l) l.length) (-1) 0 G.ne (fun j hj => absurd hj (Nat.not_lt_zero _)) G.hd
  unfold inW; rw [this]; exact decide_eq_true G.ne

theorem restF_end {l : List ND} {op : List Int} (ht : treeF l = 0) (h : opensF l op = 0) (h7 : ¬ 7 < op.length) : restF l op = if inW (wayU (upF l) l.length) (aheadI op op.length) = true then 0 else 1 := by
  unfold restF
  rw [if_pos h, if_neg h7]
  by_cases h0 : 0 < op.length
  · by_cases e : inW (wayU (upF l) l.length) (aheadI op op.length) = true
    · rw [if_neg (by rw [e]; simp), if_pos e]
    · rw [if_pos ⟨h0, by simpa using e⟩, if_neg e]
  · have e : aheadI op op.length = -1 := by unfold aheadI; rw [if_pos (by omega)]
    rw [if_neg (by omega), e, inW_none ht, if_pos rfl]

set_option maxHeartbeats 800000 in
theorem containsI_any (a : Option Addr) (c : Nat) (l : List Int) (x : Int) (w : World) (ha : IAt w a l) (hl : (l.length : Int) ≤ 1048576) :
    Calls Tryz.prog 139 #[.slice a l.length c, .int .i64 x] w fun e w' => e = .returned (.bool (inW l x)) ∧ w' = w := by
  have K := Hid.mk' (indexI_any a c l x w ha hl)
  have E : Hid (decide (ixI l x ≥ 0) = inW l x) := Hid.mk' (by
    unfold ixI inW
    by_cases h : ixF l x < l.length
    · rw [if_pos h, decide_eq_true h]; exact decide_eq_true (by omega)
    · rw [if_neg h, decide_eq_false h]; rfl)
  clear ha
  generalize ixI l x = y at *
  go_enter Tryz.func139, Tryz.ntmps139
  go_wp2_with fail
  refine K.out.mono ?_
  rintro e w1 ⟨rfl, hw⟩
  obtain rfl := hw.symm
  clear K
  go_wp2
  go_ret
  exact ⟨by rw [← E.out]; rfl, rfl⟩

set_option maxHeartbeats 3200000 in
theorem openFault_any (w0 : World) (base g : Nat) (l : List ND) (pa : Nat → Option Addr) (ca : Nat → Nat) (vn vw : Value) (p : Option Addr) (d : Nat) (op : List Int) (w : World) (h : TT w0 base g l pa ca l.length vn vw w) (ht : treeF l = 0) (hp : IAt w p op) (ho : (op.length : Int) ≤ 1048576) :
    Calls Tryz.prog 108 #[.pointer (some ⟨g, 0, none⟩), .slice p op.length d] w fun e w' => e = .returned (.int .i64 (restF l op)) ∧ Below w.heap.size w w' := by
  have h60 := treeF_len ht
  have HT := Hid.mk' h
  have HP := Hid.mk' hp
  have H0 := Hid.mk' ht
  have G := (treeF_ways ht).good
  have gle := G.le
  have gne := G.ne
  obtain ⟨an, cn, ev, _⟩ := own_len h.on
  subst ev
  obtain ⟨aw, cw, ev, _⟩ := own_len h.ow
  subst ev
  clear h hp ht G
  go_enter Tryz.func108, Tryz.ntmps108
  go_wp2
  go_loopw [5, 10] (fun x i wr => ∃ k : Nat, k ≤ op.length ∧ i = .int .i64 k ∧ x = .int .i64 (aheadI op k) ∧ (∀ j, j < k → openF l op j = 0) ∧ Below w.heap.size w wr) (fun _ i _ => op.length - (intOf i).toNat)
  case atStart => exact ⟨0, Nat.zero_le _, rfl, rfl, fun j h => absurd h (Nat.not_lt_zero _), Below.refl _ _⟩
  case round =>
    obtain ⟨k, hk, rfl, rfl, hz, hbl⟩ := hrel
    have HZ := Hid.mk' hz
    have HB := Hid.mk' hbl
    have HT2 := Hid.mk' (HT.out.below hbl)
    obtain ⟨t0, t1, t2⟩ := cells2 HT2.out.box
    by_cases hlt : k < op.length
    · have ci : (k : Int) < (op.length : Int) := by omega
      rcases HP.out.below hbl with ha | ⟨b1, o1, rfl, s1, hc1⟩
      · exact absurd hlt (by rw [ha]; exact Nat.not_lt_zero _)
      have x0 := hc1 k hlt
      have KH := hasPlace_any g an l.length cn (wv op k) wr t0
      clear hbl hc1 hz
      by_cases hr : 0 ≤ wv op k ∧ wv op k < (l.length : Int)
      rotate_left
      · have E : Hid (restF l op = 3) := Hid.mk' (restF_hit (opensF_hit hlt HZ.out (openF_out hr) (by decide)) (by decide))
        rw [show (decide (wv op k ≥ 0) && decide (wv op k < (l.length : Int))) = false by simp; omega] at KH
        have KH := Hid.mk' KH
        generalize wv op k = x at *
        clear hr
        go_wp2_with fail
        refine KH.out.mono ?_
        rintro e w2 ⟨rfl, hw⟩
        obtain rfl := hw.symm
        go_wp2
        go_ret
        exact ⟨by rw [E.out]; rfl, HB.out⟩
      rw [show (decide (wv op k ≥ 0) && decide (wv op k < (l.length : Int))) = true by simp; omega] at KH
      obtain ⟨m, hm⟩ : ∃ m : Nat, wv op k = (m : Int) := ⟨(wv op k).toNat, by omega⟩
      have hml : m < l.length := by omega
      have mi_ : (m : Int) < (l.length : Int) := by omega
      obtain ⟨nb, cap, ev, _, nl, hnode⟩ := HT2.out.node (by omega)
      cases ev
      obtain ⟨d0, d1, d2, d3, d4⟩ := hnode m hml
      obtain ⟨p9, n9, c9, hV⟩ := mkV_slice (ndK l m) l pa ca m
      rw [hV] at d2
      have hkd : (decide (mkK (ndK l m) = 1) && !voidB (mkS (ndK l m))) = holdB (ndK l m) := hold_mk (mark_kind (one_mark (treeF_ones H0.out m hml)))
      have HM := Hid.mk' hm
      have F1 : Hid (¬ ((ndK l m).up = aheadI op k ∧ holdB (ndK l m) = true) → restF l op = 1) := Hid.mk' (fun hn => restF_hit (opensF_hit hlt HZ.out (openF_no HM.out hml hn) (by decide)) (by decide))
      have F2 : Hid ((ndK l m).up = aheadI op k → holdB (ndK l m) = true → openF l op k = 0) := Hid.mk' (fun a b => openF_yes HM.out hml a b)
      have AS : Hid (aheadI op (k + 1) = (m : Int)) := Hid.mk' (by rw [aheadI_succ]; exact HM.out)
      rw [hm] at KH x0
      have KH := Hid.mk' KH
      have KM : Hid (∀ w', Calls Tryz.prog 138 #[.agg #[.int .i64 (mkK (ndK l m)), .string (mkS (ndK l m)), .slice p9 n9 c9]] w' fun e w'' => e = .returned (.bool (holdB (ndK l m))) ∧ Below w'.heap.size w' w'') := fun w' => by
        have := mayHold_any (mkK (ndK l m)) (mkS (ndK l m)) (.slice p9 n9 c9) w'
        rw [hkd] at this
        exact this
      clear hr hm hnode hV hkd
      generalize hup : (ndK l m).up = up at *
      generalize hah : aheadI op k = ah at *
      generalize hhd : holdB (ndK l m) = hd at *
      by_cases e1 : up = ah
      rotate_left
      · have e2 : (up != ah) = true := by simp [e1]
        have E : Hid (restF l op = 1) := Hid.mk' (F1.out (fun h => e1 h.1))
        clear e1 F1 F2 hup hah hhd
        go_wp2_with fail
        refine KH.out.mono ?_
        rintro e w2 ⟨rfl, hw⟩
        obtain rfl := hw.symm
        go_wp2_with (first | go_big_skip)
        go_ret
        exact ⟨by rw [E.out]; rfl, HB.out⟩
      have e2 : (up != ah) = false := by simp [e1]
      cases hd with
      | false =>
        have E : Hid (restF l op = 1) := Hid.mk' (F1.out (fun h => absurd h.2 (by simp)))
        clear e1 F1 F2 hup hah hhd
        go_wp2_with fail
        refine KH.out.mono ?_
        rintro e w2 ⟨rfl, hw⟩
        obtain rfl := hw.symm
        go_wp2_with (first | go_big_skip | fail)
        refine (KM.out _).mono ?_
        rintro e w3 ⟨rfl, hb⟩
        have HB := Hid.mk' (HB.out.trans (hb.mono HB.out.size))
        clear hb
        go_wp2_with (first | go_big_skip)
        go_ret
        exact ⟨by rw [E.out]; rfl, HB.out⟩
      | true =>
        have E : Hid (openF l op k = 0) := Hid.mk' (F2.out e1 rfl)
        clear e1 F1 F2 hup hah hhd
        go_wp2_with fail
        refine KH.out.mono ?_
        rintro e w2 ⟨rfl, hw⟩
        obtain rfl := hw.symm
        go_wp2_with (first | go_big_skip | fail)
        refine (KM.out _).mono ?_
        rintro e w3 ⟨rfl, hb⟩
        have HB := Hid.mk' (HB.out.trans (hb.mono HB.out.size))
        clear hb
        go_wp2_with (first | go_big_skip)
        go_roundw
        case rel => exact ⟨k + 1, by omega, by go_num, by rw [AS.out], fun j hj => by
          by_cases h : j = k
          · subst h; exact E.out
          · exact HZ.out j (by omega), HB.out⟩
        case measure => simp [intOf]; omega
    · have ci : ¬ (k : Int) < (op.length : Int) := by omega
      have e : k = op.length := by omega
      subst e
      have OZ := opensF_none HZ.out
      clear hz
      by_cases h7 : 7 < op.length
      · have E : Hid (restF l op = 2) := Hid.mk' (restF_many OZ h7)
        have h7' : (op.length : Int) > 7 := by omega
        clear OZ hbl
        go_wp2
        go_ret
        exact ⟨by rw [E.out]; rfl, HB.out⟩
      · have h7' : ¬ (op.length : Int) > 7 := by omega
        have EE := Hid.mk' (restF_end H0.out OZ h7)
        obtain ⟨bw, cap, ev, w1_, w2_, w3_, hIA⟩ := own_iat HT2.out.ow gne
        cases ev
        have KC := Hid.mk' (containsI_any _ cw _ (aheadI op op.length) wr hIA (by omega))
        clear OZ hbl hIA w1_ w3_
        generalize hah : aheadI op op.length = ah at *
        generalize hin : inW (wayU (upF l) l.length) ah = iw at *
        go_wp2_with fail
        refine KC.out.mono ?_
        rintro e w2 ⟨rfl, hw⟩
        obtain rfl := hw.symm
        clear KC hin hah
        cases iw with
        | true =>
          go_wp2
          go_ret
          exact ⟨by rw [EE.out]; rfl, HB.out⟩
        | false =>
          go_wp2
          go_ret
          exact ⟨by rw [EE.out]; rfl, HB.out⟩

set_option maxHeartbeats 1600000 in
theorem implBF_any (s : BS) (a p : Option Addr) (c d : Nat) (w : World) (ha : SAt w a p s) (hl : (s.nd.length : Int) + nssz s.nd + s.op.length ≤ 1048576) :
    Calls Tryz.prog 82 #[.agg #[.slice a s.nd.length c, .slice p s.op.length d, .bool s.lg]] w fun e w' => e = .returned (.int .i64 (bldF s)) ∧ Below w.heap.size w w' := by
  have N0 := below_new w (.cells #[.slice a s.nd.length c, .slice p s.op.length d, .bool s.lg] 85)
  have KF := Hid.mk' (treeOf_any a c s.nd _ (ha.1.below N0) (by omega))
  have RB := Hid.mk' (row3 w 85 (.slice a s.nd.length c) (.slice p s.op.length d) (.bool s.lg))
  have HN := Hid.mk' N0
  have HP := Hid.mk' (ha.2.below N0)
  clear ha N0
  generalize hW : w.alloc (.cells #[.slice a s.nd.length c, .slice p s.op.length d, .bool s.lg] 85) = W at *
  obtain ⟨x0, x1, x2, x3⟩ := cells3 RB.out
  go_enter Tryz.func82, Tryz.ntmps82
  go_wp2_with fail
  clear hW
  refine KF.out.mono ?_
  rintro e w1 (⟨h0, rfl, hb⟩ | ⟨h0, pa, ca, g, vn, vw, rfl, hT⟩)
  · have E : Hid (bldF s = treeF s.nd) := Hid.mk' (by unfold bldF; rw [if_neg h0])
    have HB := Hid.mk' (HN.out.trans (hb.mono HN.out.size))
    clear hb KF x0 x1 x2 x3
    go_wp2
    go_ret
    exact ⟨by rw [E.out]; rfl, HB.out.alloc HB.out.size _⟩
  · obtain ⟨an, cn, ev, _⟩ := own_len hT.on
    subst ev
    obtain ⟨aw, cw, ev, _⟩ := own_len hT.ow
    subst ev
    have N2 := below_new w1 (.cells #[.slice an s.nd.length cn, .slice aw (wayU (upF s.nd) s.nd.length).length cw] 131)
    have HT2 := Hid.mk' (hT.rebox N2 (Nat.le_refl _) (rowp2 w1 131 (.slice an s.nd.length cn) (.slice aw (wayU (upF s.nd) s.nd.length).length cw)))
    have hb := hT.bl.trans (N2.mono hT.bl.size)
    have HB := Hid.mk' (HN.out.trans (hb.mono HN.out.size))
    have H1 := Hid.mk' (rowB RB.out hb)
    have HP := Hid.mk' (HP.out.below hb)
    have H0 := Hid.mk' h0
    clear hT N2 KF hb x0 x1 x2 x3 h0
    generalize hW2 : w1.alloc (.cells #[.slice an s.nd.length cn, .slice aw (wayU (upF s.nd) s.nd.length).length cw] 131) = W2 at *
    obtain ⟨x0, x1, x2, x3⟩ := cells3 H1.out
    have KO := Hid.mk' (openFault_any W W.heap.size w1.heap.size s.nd pa ca _ _ p d s.op W2 HT2.out H0.out HP.out (by omega))
    have E0 : Hid (bldF s = if s.lg = true ∧ (0 < s.nd.length ∨ 0 < s.op.length) then 1 else restF s.nd s.op) := Hid.mk' (by unfold bldF; rw [if_pos H0.out])
    by_cases hbad : s.lg = true ∧ (0 < s.nd.length ∨ 0 < s.op.length)
    · have E : Hid (bldF s = 1) := Hid.mk' (by rw [E0.out, if_pos hbad])
      obtain ⟨hlg, hor⟩ := hbad
      rw [hlg] at x2
      clear hlg
      by_cases hn : 0 < s.nd.length
      · have hn' : decide (0 < s.nd.length) = true := decide_eq_true hn
        clear hn hor
        go_wp2_with (first | go_big_skip)
        clear hW2
        go_ret
        exact ⟨by rw [E.out]; rfl, HB.out⟩
      · have ho' : decide (0 < s.op.length) = true := decide_eq_true (by omega)
        have hn' : decide (0 < s.nd.length) = false := decide_eq_false hn
        clear hn hor
        go_wp2_with (first | go_big_skip)
        clear hW2
        go_ret
        exact ⟨by rw [E.out]; rfl, HB.out⟩
    · have E : Hid (bldF s = restF s.nd s.op) := Hid.mk' (by rw [E0.out, if_neg hbad])
      cases hlg : s.lg with
      | false =>
        rw [hlg] at x2
        clear hlg hbad
        go_wp2_with (first | go_big_skip | fail)
        clear hW2
        refine KO.out.mono ?_
        rintro e w3 ⟨rfl, hb⟩
        have HB := Hid.mk' (HB.out.trans (hb.mono HB.out.size))
        clear hb KO
        go_wp2
        go_ret
        exact ⟨by rw [E.out]; rfl, HB.out⟩
      | true =>
        have hn' : decide (0 < s.nd.length) = false := decide_eq_false fun h => hbad ⟨hlg, .inl h⟩
        have ho' : decide (0 < s.op.length) = false := decide_eq_false fun h => hbad ⟨hlg, .inr h⟩
        rw [hlg] at x2
        clear hlg hbad
        go_wp2_with (first | go_big_skip | fail)
        clear hW2
        refine KO.out.mono ?_
        rintro e w3 ⟨rfl, hb⟩
        have HB := Hid.mk' (HB.out.trans (hb.mono HB.out.size))
        clear hb KO
        go_wp2
        go_ret
        exact ⟨by rw [E.out]; rfl, HB.out⟩

set_option maxHeartbeats 800000 in
theorem l7Top_any (p : Option Addr) (d : Nat) (op : List Int) (w : World) (hp : IAt w p op) (ho : (op.length : Int) ≤ 1048576) :
    Calls Tryz.prog 98 #[.slice p op.length d] w fun e w' => e = .returned (.int .i64 (aheadI op op.length)) ∧ w' = w := by
  by_cases h0 : op.length = 0
  · have E : Hid (aheadI op op.length = -1) := Hid.mk' (by unfold aheadI; rw [if_pos h0])
    have h0' : (op.length : Int) = 0 := by omega
    go_enter Tryz.func98, Tryz.ntmps98
    go_wp2
    go_ret
    exact ⟨by rw [E.out]; rfl, rfl⟩
  · rcases hp with ha | ⟨b1, o1, rfl, s1, hc1⟩
    · exact absurd (by rw [ha]; rfl) h0
    obtain ⟨m, hm⟩ : ∃ m, op.length = m + 1 := ⟨op.length - 1, by omega⟩
    have E : Hid (aheadI op op.length = wv op m) := Hid.mk' (by rw [hm, aheadI_succ])
    have x0 := hc1 m (by omega)
    have h0' : ((op.length : Int) == 0) = false := by simpa using (show ¬ (op.length : Int) = 0 by omega)
    have hm' : (op.length : Int) - 1 = (m : Int) := by omega
    have hlt : (m : Int) < (op.length : Int) := by omega
    clear hc1 hm h0
    go_enter Tryz.func98, Tryz.ntmps98
    go_wp2
    go_ret
    exact ⟨by rw [E.out]; rfl, rfl⟩

set_option maxHeartbeats 3200000 in
theorem l7Opened_any (s : BS) (g : Nat) (a p : Option Addr) (c d : Nat) (w : World) (hr : w.rowIs g 85 3 (r3 (.slice a s.nd.length c) (.slice p s.op.length d) (.bool s.lg))) (ha : SAt w a p s) (hl : (s.nd.length : Int) + nssz s.nd + s.op.length ≤ 1048576) :
    Calls Tryz.prog 96 #[.pointer (some ⟨g, 0, none⟩)] w fun e w' => e = .returned (.int .i64 (opensF s.nd s.op)) ∧ w' = w := by
  have HA := Hid.mk' ha
  obtain ⟨x0, x1, x2, x3⟩ := cells3 hr
  have KV : Hid (∀ (t : ByteArray) (w' : World), Calls Tryz.prog 129 #[.string t] w' fun e w'' => e = .returned (.bool (voidB t)) ∧ w'' = w') := fun t w' => l6Void_any t w'
  clear ha hr
  go_enter Tryz.func96, Tryz.ntmps96
  go_wp2
  go_loop [3, 4] (fun x i => ∃ k : Nat, k ≤ s.op.length ∧ i = .int .i64 k ∧ x = .int .i64 (aheadI s.op k) ∧ (∀ j, j < k → openF s.nd s.op j = 0)) (fun _ i => s.op.length - (intOf i).toNat)
  case atStart => exact ⟨0, Nat.zero_le _, rfl, rfl, fun j h => absurd h (Nat.not_lt_zero _)⟩
  case round =>
    obtain ⟨k, hk, rfl, rfl, hz⟩ := hrel
    have HZ := Hid.mk' hz
    by_cases hlt : k < s.op.length
    · have ci : (k : Int) < (s.op.length : Int) := by omega
      rcases HA.out.2 with hn | ⟨b1, o1, rfl, s1, hc1⟩
      · exact absurd hlt (by rw [hn]; exact Nat.not_lt_zero _)
      have u0 := hc1 k hlt
      have KI := l1In_any (wv s.op k) 0 ((s.nd.length : Int) - 1) w
      clear hc1 hz
      by_cases hr : 0 ≤ wv s.op k ∧ wv s.op k < (s.nd.length : Int)
      rotate_left
      · have E : Hid (opensF s.nd s.op = 3) := Hid.mk' (opensF_hit hlt HZ.out (openF_out hr) (by decide))
        rw [show (decide (0 ≤ wv s.op k) && decide (wv s.op k ≤ (s.nd.length : Int) - 1)) = false by simp; omega] at KI
        have KI := Hid.mk' KI
        generalize wv s.op k = x at *
        clear hr
        go_wp2_with fail
        refine KI.out.mono ?_
        rintro e w2 ⟨rfl, hw⟩
        obtain rfl := hw.symm
        go_wp2
        go_ret
        exact ⟨by rw [E.out]; rfl, rfl⟩
      rw [show (decide (0 ≤ wv s.op k) && decide (wv s.op k ≤ (s.nd.length : Int) - 1)) = true by simp; omega] at KI
      obtain ⟨m, hm⟩ : ∃ m : Nat, wv s.op k = (m : Int) := ⟨(wv s.op k).toNat, by omega⟩
      have hml : m < s.nd.length := by omega
      have mi_ : (m : Int) < (s.nd.length : Int) := by omega
      rcases HA.out.1 with hn | ⟨nb, o, rfl, nl, hnode⟩
      · exact absurd hml (by rw [hn]; exact Nat.not_lt_zero _)
      obtain ⟨d0, d1, _, _⟩ := hnode m hml
      have HM := Hid.mk' hm
      have F1 : Hid (¬ ((ndK s.nd m).up = aheadI s.op k ∧ holdB (ndK s.nd m) = true) → opensF s.nd s.op = 1) := Hid.mk' (fun hn => opensF_hit hlt HZ.out (openF_no HM.out hml hn) (by decide))
      have F2 : Hid ((ndK s.nd m).up = aheadI s.op k → holdB (ndK s.nd m) = true → openF s.nd s.op k = 0) := Hid.mk' (fun a b => openF_yes HM.out hml a b)
      have AS : Hid (aheadI s.op (k + 1) = (m : Int)) := Hid.mk' (by rw [aheadI_succ]; exact HM.out)
      have HD : Hid (holdB (ndK s.nd m) = (!((ndK s.nd m).tg.toList == []) && !voidB (ndK s.nd m).tg)) := Hid.mk' rfl
      have KT := Hid.mk' (KV.out (ndK s.nd m).tg w)
      rw [hm] at KI u0
      have KI := Hid.mk' KI
      clear hr hm hnode
      generalize hup : (ndK s.nd m).up = up at *
      generalize hah : aheadI s.op k = ah at *
      generalize htg : (ndK s.nd m).tg = tg at *
      by_cases e1 : up = ah
      rotate_left
      · have e2 : (up != ah) = true := by simp [e1]
        have E : Hid (opensF s.nd s.op = 1) := Hid.mk' (F1.out (fun h => e1 h.1))
        clear e1 F1 F2 hup hah htg
        go_wp2_with fail
        refine KI.out.mono ?_
        rintro e w2 ⟨rfl, hw⟩
        obtain rfl := hw.symm
        go_wp2_with (first | go_big_skip)
        go_ret
        exact ⟨by rw [E.out]; rfl, rfl⟩
      have e2 : (up != ah) = false := by simp [e1]
      cases h3 : (tg.toList == []) with
      | true =>
        have E : Hid (opensF s.nd s.op = 1) := Hid.mk' (F1.out (fun h => absurd h.2 (by rw [HD.out, h3]; simp)))
        clear e1 F1 F2 hup hah htg HD
        go_wp2_with fail
        refine KI.out.mono ?_
        rintro e w2 ⟨rfl, hw⟩
        obtain rfl := hw.symm
        go_wp2_with (first | go_big_skip)
        go_ret
        exact ⟨by rw [E.out]; rfl, rfl⟩
      | false =>
        cases h4 : voidB tg with
        | true =>
          rw [h4] at KT
          have E : Hid (opensF s.nd s.op = 1) := Hid.mk' (F1.out (fun h => absurd h.2 (by rw [HD.out, h4]; simp)))
          clear e1 F1 F2 hup hah htg HD h4
          go_wp2_with fail
          refine KI.out.mono ?_
          rintro e w2 ⟨rfl, hw⟩
          obtain rfl := hw.symm
          go_wp2_with (first | go_big_skip | (go_at_call 129; refine KT.out.mono ?_; rintro e w9 ⟨rfl, hw9⟩; obtain rfl := hw9.symm))
          go_ret
          exact ⟨by rw [E.out]; rfl, rfl⟩
        | false =>
          rw [h4] at KT
          have E : Hid (openF s.nd s.op k = 0) := Hid.mk' (F2.out e1 (by rw [HD.out, h3, h4]; rfl))
          clear e1 F1 F2 hup hah htg HD h4
          go_wp2_with fail
          refine KI.out.mono ?_
          rintro e w2 ⟨rfl, hw⟩
          obtain rfl := hw.symm
          go_wp2_with (first | go_big_skip | (go_at_call 129; refine KT.out.mono ?_; rintro e w9 ⟨rfl, hw9⟩; obtain rfl := hw9.symm))
          go_round
          case rel => exact ⟨k + 1, by omega, by go_num, by rw [AS.out], fun j hj => by
            by_cases h : j = k
            · subst h; exact E.out
            · exact HZ.out j (by omega)⟩
          case measure => simp [intOf]; omega
    · have ci : ¬ (k : Int) < (s.op.length : Int) := by omega
      have e : k = s.op.length := by omega
      subst e
      have E : Hid (opensF s.nd s.op = 0) := Hid.mk' (opensF_none HZ.out)
      clear hz
      go_wp2
      go_ret
      exact ⟨by rw [E.out]; rfl, rfl⟩

end Go.Proofs.YthcajggbcanmdaaGreatDoor

namespace Go.Proofs.YthcajggbcanmdaaGreatDoor
open Go.RowKit

set_option maxHeartbeats 3200000 in
theorem l7Fault_any (s : BS) (g : Nat) (a p : Option Addr) (c d : Nat) (w : World) (hr : w.rowIs g 85 3 (r3 (.slice a s.nd.length c) (.slice p s.op.length d) (.bool s.lg))) (ha : SAt w a p s) (hl : (s.nd.length : Int) + nssz s.nd + s.op.length ≤ 1048576) :
    Calls Tryz.prog 78 #[.pointer (some ⟨g, 0, none⟩)] w fun e w' => e = .returned (.int .i64 (bldF s)) ∧ Below w.heap.size w w' := by
  have KF := l6Fault_any a c s.nd w ha.1 (by omega)
  have HR := Hid.mk' hr
  have HA := Hid.mk' ha
  obtain ⟨x0, x1, x2, x3⟩ := cells3 hr
  clear ha hr
  by_cases h0 : treeF s.nd = 0
  rotate_left
  · have KF := Hid.mk' KF
    have E : Hid (bldF s = treeF s.nd) := Hid.mk' (by unfold bldF; rw [if_neg h0])
    generalize treeF s.nd = tf at *
    go_enter Tryz.func78, Tryz.ntmps78
    go_wp2_with fail
    refine KF.out.mono ?_
    rintro e w1 ⟨rfl, hb⟩
    have HB := Hid.mk' hb
    clear hb KF x0 x1 x2 x3
    go_wp2
    go_ret
    exact ⟨by rw [E.out]; rfl, HB.out⟩
  rw [h0] at KF
  have KF := Hid.mk' KF
  have H0 := Hid.mk' h0
  have E0 : Hid (bldF s = if s.lg = true ∧ (0 < s.nd.length ∨ 0 < s.op.length) then 1 else restF s.nd s.op) := Hid.mk' (by unfold bldF; rw [if_pos H0.out])
  clear h0
  go_enter Tryz.func78, Tryz.ntmps78
  go_wp2_with fail
  refine KF.out.mono ?_
  rintro e w1 ⟨rfl, hb⟩
  have HB := Hid.mk' hb
  have HR := Hid.mk' (rowB HR.out hb)
  have HA := Hid.mk' (HA.out.below hb)
  clear hb KF x0 x1 x2 x3
  obtain ⟨x0, x1, x2, x3⟩ := cells3 HR.out
  have KO := l7Opened_any s g a p c d w1 HR.out HA.out hl
  by_cases hbad : s.lg = true ∧ (0 < s.nd.length ∨ 0 < s.op.length)
  · have E : Hid (bldF s = 1) := Hid.mk' (by rw [E0.out, if_pos hbad])
    obtain ⟨hlg, hor⟩ := hbad
    rw [hlg] at x2
    clear hlg KO
    by_cases hn : 0 < s.nd.length
    · have hn' : decide (0 < s.nd.length) = true := decide_eq_true hn
      clear hn hor
      go_wp2_with (first | go_big_skip)
      go_ret
      exact ⟨by rw [E.out]; rfl, HB.out⟩
    · have ho' : decide (0 < s.op.length) = true := decide_eq_true (by omega)
      have hn' : decide (0 < s.nd.length) = false := decide_eq_false hn
      clear hn hor
      go_wp2_with (first | go_big_skip)
      go_ret
      exact ⟨by rw [E.out]; rfl, HB.out⟩
  have E1 : Hid (bldF s = restF s.nd s.op) := Hid.mk' (by rw [E0.out, if_neg hbad])
  have KT : Hid (∀ w', Below w1.heap.size w1 w' → Calls Tryz.prog 98 #[.slice p s.op.length d] w' fun e w'' => e = .returned (.int .i64 (aheadI s.op s.op.length)) ∧ w'' = w') := fun w' hb => l7Top_any p d s.op w' (HA.out.2.below hb) (by omega)
  have KI : Hid (∀ w', Below w1.heap.size w1 w' → Calls Tryz.prog 97 #[.slice a s.nd.length c, .int .i64 ((s.nd.length : Int) - 1), .int .i64 (aheadI s.op s.op.length)] w' fun e w'' => e = .returned (.bool (inW (wayU (upF s.nd) s.nd.length) (aheadI s.op s.op.length))) ∧ w'' = w') := fun w' hb => l6In_any a c s.nd s.nd.length (aheadI s.op s.op.length) w' (HA.out.1.below hb) (Nat.le_refl _) (treeF_ways H0.out) (by omega)
  have F9 : Hid (bldF s = restF s.nd s.op) := E1
  have lgc : (s.lg = false) ∨ (s.lg = true ∧ decide (0 < s.nd.length) = false ∧ decide (0 < s.op.length) = false) := by
    cases hlg : s.lg with
    | false => exact .inl rfl
    | true => exact .inr ⟨rfl, decide_eq_false fun h => hbad ⟨hlg, .inl h⟩, decide_eq_false fun h => hbad ⟨hlg, .inr h⟩⟩
  clear hbad E0 E1
  by_cases ho : opensF s.nd s.op = 0
  rotate_left
  · have E : Hid (bldF s = opensF s.nd s.op) := Hid.mk' (by rw [F9.out]; exact restF_hit rfl ho)
    have KO := Hid.mk' KO
    generalize opensF s.nd s.op = oc at *
    rcases lgc with hlg | ⟨hlg, hn', ho'⟩
    all_goals
      rw [hlg] at x2
      clear hlg
      go_wp2_with (first | go_big_skip | fail)
      refine KO.out.mono ?_
      rintro e w2 ⟨rfl, hw⟩
      obtain rfl := hw.symm
      go_wp2
      go_ret
      exact ⟨by rw [E.out]; rfl, HB.out⟩
  have HO := Hid.mk' ho
  rw [ho] at KO
  have KO := Hid.mk' KO
  clear ho
  by_cases h7 : 7 < s.op.length
  · have E : Hid (bldF s = 2) := Hid.mk' (by rw [F9.out]; exact restF_many HO.out h7)
    have h7' : (s.op.length : Int) > 7 := by omega
    clear h7
    rcases lgc with hlg | ⟨hlg, hn', ho'⟩
    all_goals
      rw [hlg] at x2
      clear hlg
      go_wp2_with (first | go_big_skip | fail)
      refine KO.out.mono ?_
      rintro e w2 ⟨rfl, hw⟩
      obtain rfl := hw.symm
      go_wp2
      go_ret
      exact ⟨by rw [E.out]; rfl, HB.out⟩
  have RE := Hid.mk' (restF_end H0.out HO.out h7)
  have h7' : ¬ (s.op.length : Int) > 7 := by omega
  clear h7
  by_cases hz : 0 < s.op.length
  · have hz' : decide (0 < s.op.length) = true := decide_eq_true hz
    have hlg : s.lg = false := by
      rcases lgc with hlg | ⟨_, _, ho'⟩
      · exact hlg
      · rw [ho'] at hz'; cases hz'
    rw [hlg] at x2
    clear hlg lgc hz
    cases hi : inW (wayU (upF s.nd) s.nd.length) (aheadI s.op s.op.length) with
    | true =>
      rw [hi] at KI RE
      have E : Hid (bldF s = 0) := Hid.mk' (by rw [F9.out, RE.out]; rfl)
      clear hi
      generalize aheadI s.op s.op.length = ah at *
      go_wp2_with (first | go_big_skip | fail)
      refine KO.out.mono ?_
      rintro e w2 ⟨rfl, hw⟩
      obtain rfl := hw.symm
      go_wp2_with fail
      go_quiet (first | (go_at_call 98; refine Calls.quiet_of_same (KT.out _ ?_); first | exact Below.refl _ _ | exact (Below.refl _ _).drew | exact below_drewN (Below.refl _ _) _) | (go_at_call 97; refine Calls.quiet_of_same (KI.out _ ?_); first | exact Below.refl _ _ | exact (Below.refl _ _).drew | exact below_drewN (Below.refl _ _) _))
      go_wp2
      go_ret
      exact ⟨by rw [E.out]; rfl, below_drewN HB.out _⟩
    | false =>
      rw [hi] at KI RE
      have E : Hid (bldF s = 1) := Hid.mk' (by rw [F9.out, RE.out]; rfl)
      clear hi
      generalize aheadI s.op s.op.length = ah at *
      go_wp2_with (first | go_big_skip | fail)
      refine KO.out.mono ?_
      rintro e w2 ⟨rfl, hw⟩
      obtain rfl := hw.symm
      go_wp2_with fail
      go_quiet (first | (go_at_call 98; refine Calls.quiet_of_same (KT.out _ ?_); first | exact Below.refl _ _ | exact (Below.refl _ _).drew | exact below_drewN (Below.refl _ _) _) | (go_at_call 97; refine Calls.quiet_of_same (KI.out _ ?_); first | exact Below.refl _ _ | exact (Below.refl _ _).drew | exact below_drewN (Below.refl _ _) _))
      go_wp2
      go_ret
      exact ⟨by rw [E.out]; rfl, below_drewN HB.out _⟩
  · have e9 : aheadI s.op s.op.length = -1 := by unfold aheadI; rw [if_pos (by omega)]
    have E : Hid (bldF s = 0) := Hid.mk' (by rw [F9.out, RE.out, e9, inW_none H0.out]; rfl)
    have hz' : decide (0 < s.op.length) = false := decide_eq_false hz
    clear hz KI KT e9
    rcases lgc with hlg | ⟨hlg, hn', ho'⟩
    all_goals
      rw [hlg] at x2
      clear hlg
      go_wp2_with (first | go_big_skip | fail)
      refine KO.out.mono ?_
      rintro e w2 ⟨rfl, hw⟩
      obtain rfl := hw.symm
      go_wp2_with fail
      go_quiet (fail)
      go_wp2
      go_ret
      exact ⟨by rw [E.out]; rfl, below_drewN HB.out _⟩

end Go.Proofs.YthcajggbcanmdaaGreatDoor

namespace Go.Proofs.YthcajggbcanmdaaGreatDoor
end Go.Proofs.YthcajggbcanmdaaGreatDoor
