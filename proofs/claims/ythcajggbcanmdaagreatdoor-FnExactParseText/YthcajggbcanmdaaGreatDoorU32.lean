/- One is opened (the program); one is closed (the model); a byte is put (both). -/
import Derived.Test.YthcajggbcanmdaaGreatDoorU31
set_option linter.unusedVariables false
set_option linter.unusedSimpArgs false
namespace Go.Proofs.YthcajggbcanmdaaGreatDoor
open Go.RowKit

theorem NS.spot {τ : Nat → Nat} {lo : Nat} {w : World} {v : Value} {l : List ND} {va vt : Nat → Value} {us : Nat → List Value} (h : NS τ lo w v l va vt us) (h0 : 0 < l.length) : ∃ g cap, v = .slice (some ⟨g, 0, none⟩) l.length cap ∧ lo ≤ g ∧ g < w.heap.size ∧ (∀ k i, k < l.length → i < 4 → w.cell? ⟨g, k * 4 + i, none⟩ = ([.int .i64 (ndK l k).up, .string (ndK l k).tg, va k, vt k] : List Value)[i]?) ∧ ∀ i, w.frozen? ⟨g, i, none⟩ = false := h.nq.spot h0

set_option maxRecDepth 100000 in
set_option maxHeartbeats 6400000 in
theorem openI_any (w0 : World) (lo g : Nat) (s : BS) (m : Nat) (w : World) (h : ZB true 138 w0 lo g s w) (hm : m < s.nd.length) (hs : GS s) :
    Calls Tryz.prog 110 #[.pointer (some ⟨g, 0, none⟩), .int .i64 (m : Int)] w fun e w' => (∃ v, e = .returned v) ∧ ZB true 138 w0 lo g ⟨s.nd, s.op ++ [(m : Int)], s.lg⟩ w' := by
  obtain ⟨τ, vn, vo, va, vt, us, hz⟩ := h
  have n60 := hs.n
  obtain ⟨gn, cn, en, n1, n2, hcell, hfr⟩ := hz.ns.spot (by omega)
  subst en
  obtain ⟨po, eo⟩ := OE.ptr hz.op
  subst eo
  have t1 : w.cell? ⟨gn, m * 4 + 1, none⟩ = some (.string (ndK s.nd m).tg) := hcell m 1 hm (by omega)
  have mi_ : (m : Int) < (s.nd.length : Int) := by omega
  obtain ⟨c0, c1, c2, c3⟩ := cells3 hz.box
  have f1 := hz.box.frozen 1
  have VB := below_new w (.cells #[.int .i64 (m : Int), .string (ndK s.nd m).tg, .pointer po] 174)
  have RB := row3 w 174 (.int .i64 (m : Int)) (.string (ndK s.nd m).tg) (.pointer po)
  have HQ := Hid.mk' (hz.pushI (b := w.heap.size) (m : Int) VB.drew (Nat.le_refl _) (by rw [Int.toNat_natCast]; exact (rowB RB (Below.refl _ _).drew)))
  rw [World.setCell_drew, World.setCell_alloc_past _ _ _ _ c3] at HQ
  have xn1 := World.new_ne w ⟨g, 1, none⟩ c1
  have xn2 := World.new_ne w ⟨gn, m * 4 + 1, none⟩ t1
  dsimp only at xn1 xn2
  have gne : ¬ gn = g := fun e => by have h1 := hz.ns.rl gn rfl; have h2 := hz.gl; rw [e] at h1; omega
  clear hz VB RB hcell hfr n1
  go_enter Tryz.func110, Tryz.ntmps110
  go_wp2_with fail
  refine wp_region_held_drew (S := fun w' => w'.cell? ⟨g, 0, none⟩ = some (.slice (some ⟨gn, 0, none⟩) s.nd.length cn) ∧ w'.cell? ⟨gn, m * 4 + 1, none⟩ = some (.string (ndK s.nd m).tg)) (by kernel_rfl) (by simp [*]) (fun hHeld => ?_)
  refine wpAnyH_take (i := 0) (oi := ⟨_, _, _, _, _, _⟩) (v := ?_) rfl (by kernel_rfl) (by kernel_rfl) (by kernel_rfl) (fun _ _ _ h => h) (Or.inl ⟨by rfl, ?_⟩) (by assumption) ?_
  rotate_left
  · (intro w hSw; (try dsimp only at hSw); go_simp; (try with_reducible rfl))
  try simp only [Act.put, zA, zB, zC]
  refine wpAnyH_take (i := 1) (oi := ⟨_, _, _, _, _, _⟩) (v := ?_) rfl (by kernel_rfl) (by kernel_rfl) (by kernel_rfl) (fun _ _ _ h => h) (Or.inl ⟨by rfl, ?_⟩) (by assumption) ?_
  rotate_left
  · (intro w hSw; (try dsimp only at hSw); go_simp; (try with_reducible rfl))
  try simp only [Act.put, zA, zB, zC]
  refine wpAnyH_take (i := 2) (oi := ⟨_, _, _, _, _, _⟩) (v := ?_) rfl (by kernel_rfl) (by kernel_rfl) (by kernel_rfl) (fun _ _ _ h => h) (Or.inl ⟨by rfl, ?_⟩) (by assumption) ?_
  rotate_left
  · (intro w hSw; (try dsimp only at hSw); go_simp; (try with_reducible rfl))
  try simp only [Act.put, zA, zB, zC]
  refine wpAnyH_take (i := 3) (oi := ⟨_, _, _, _, _, _⟩) (v := ?_) rfl (by kernel_rfl) (by kernel_rfl) (by kernel_rfl) (fun _ _ _ h => h) (Or.inl ⟨by rfl, ?_⟩) (by assumption) ?_
  rotate_left
  · (intro w hSw; (try dsimp only at hSw); go_simp; (try with_reducible rfl))
  try simp only [Act.put, zA, zB, zC]
  refine wpAnyH_take (i := 4) (oi := ⟨_, _, _, _, _, _⟩) (v := ?_) rfl (by kernel_rfl) (by kernel_rfl) (by kernel_rfl) (fun _ _ _ h => h) (Or.inl ⟨by rfl, ?_⟩) (by assumption) ?_
  rotate_left
  · (intro w hSw; (try dsimp only at hSw); go_simp; (try with_reducible rfl))
  try simp only [Act.put, zA, zB, zC]
  refine wpAnyH_take (i := 5) (oi := ⟨_, _, _, _, _, _⟩) (v := ?_) rfl (by kernel_rfl) (by kernel_rfl) (by kernel_rfl) (fun _ _ _ h => h) (Or.inl ⟨by rfl, ?_⟩) (by assumption) ?_
  rotate_left
  · (intro w hSw; (try dsimp only at hSw); go_simp; (try with_reducible rfl))
  try simp only [Act.put, zA, zB, zC]
  refine wpAnyH_take (i := 6) (oi := ⟨_, _, _, _, _, _⟩) (v := ?_) rfl (by kernel_rfl) (by kernel_rfl) (by kernel_rfl) (fun _ _ _ h => h) (Or.inl ⟨by rfl, ?_⟩) (by assumption) ?_
  rotate_left
  · (intro w hSw; (try dsimp only at hSw); go_simp; (try with_reducible rfl))
  try simp only [Act.put, zA, zB, zC]
  refine wpAnyH_take (i := 7) (oi := ⟨_, _, _, _, _, _⟩) (v := ?_) rfl (by kernel_rfl) (by kernel_rfl) (by kernel_rfl) (fun _ _ _ h => h) (Or.inl ⟨by rfl, ?_⟩) (by assumption) ?_
  rotate_left
  · (intro w hSw; (try dsimp only at hSw); go_simp; (try with_reducible rfl))
  try simp only [Act.put, zA, zB, zC]
  refine wpAnyH_take (i := 8) (oi := ⟨_, _, _, _, _, _⟩) (v := ?_) rfl (by kernel_rfl) (by kernel_rfl) (by kernel_rfl) (fun _ _ _ h => h) (Or.inl ⟨by rfl, ?_⟩) (by assumption) ?_
  rotate_left
  · (intro w hSw; (try dsimp only at hSw); go_simp; (try with_reducible rfl))
  try simp only [Act.put, zA, zB, zC]
  refine wpAnyH_take (i := 9) (oi := ⟨_, _, _, _, _, _⟩) (v := ?_) rfl (by kernel_rfl) (by kernel_rfl) (by kernel_rfl) (fun _ _ _ h => h) (Or.inl ⟨by rfl, ?_⟩) (by assumption) ?_
  rotate_left
  · (intro w hSw; (try dsimp only at hSw); go_simp; (try with_reducible rfl))
  try simp only [Act.put, zA, zB, zC]
  refine wpAnyH_take (i := 10) (oi := ⟨_, _, _, _, _, _⟩) (v := ?_) rfl (by kernel_rfl) (by kernel_rfl) (by kernel_rfl) (fun _ _ _ h => h) (Or.inl ⟨by rfl, ?_⟩) (by assumption) ?_
  rotate_left
  · (intro w hSw; (try dsimp only at hSw); go_simp; (try with_reducible rfl))
  try simp only [Act.put, zA, zB, zC]
  refine wpAnyH_take (i := 11) (oi := ⟨_, _, _, _, _, _⟩) (v := ?_) rfl (by kernel_rfl) (by kernel_rfl) (by kernel_rfl) (fun _ _ _ h => h) (Or.inl ⟨by rfl, ?_⟩) (by assumption) ?_
  rotate_left
  · (intro w hSw; (try dsimp only at hSw); go_simp; (try with_reducible rfl))
  try simp only [Act.put, zA, zB, zC]
  refine wpAnyH_take (i := 12) (oi := ⟨_, _, _, _, _, _⟩) (v := ?_) rfl (by kernel_rfl) (by kernel_rfl) (by kernel_rfl) (fun _ _ _ h => h) (Or.inl ⟨by rfl, ?_⟩) (by assumption) ?_
  rotate_left
  · (intro w hSw; (try dsimp only at hSw); go_simp; (try with_reducible rfl))
  try simp only [Act.put, zA, zB, zC]
  refine wpAnyH_ready (rs := [13]) (by kernel_rfl) (by simp) ?_
  refine AllReadyH.cons (o := ⟨_, _, _, _, _, _⟩) rfl (fun K hK => ?_) AllReadyH.nil
  go_simp
  refine hK.out _ _ (by (try dsimp only); go_keep) (fun hHeld => ?_)
  clear hK K
  try simp only [Act.put, zA, zB, zC]
  refine wpAnyH_take (i := 14) (oi := ⟨_, _, _, _, _, _⟩) (v := ?_) rfl (by kernel_rfl) (by kernel_rfl) (by kernel_rfl) (fun _ _ _ h => h) (Or.inl ⟨by rfl, ?_⟩) (by assumption) ?_
  rotate_left
  · (intro w hSw; (try dsimp only at hSw); go_simp; (try with_reducible rfl))
  try simp only [Act.put, zA, zB, zC]
  refine wpAnyH_ready (rs := [15]) (by kernel_rfl) (by simp) ?_
  refine AllReadyH.cons (o := ⟨_, _, _, _, _, _⟩) rfl (fun K hK => ?_) AllReadyH.nil
  go_simp
  refine hK.out _ _ (by (try dsimp only); go_keep) (fun hHeld => ?_)
  clear hK K
  try simp only [Act.put, zA, zB, zC]
  refine wpAnyH_take (i := 16) (oi := ⟨_, _, _, _, _, _⟩) (v := ?_) rfl (by kernel_rfl) (by kernel_rfl) (by kernel_rfl) (fun _ _ _ h => h) (Or.inl ⟨by rfl, ?_⟩) (by assumption) ?_
  rotate_left
  · (intro w hSw; (try dsimp only at hSw); go_simp; (try with_reducible rfl))
  try simp only [Act.put, zA, zB, zC]
  refine wpAnyH_take (i := 17) (oi := ⟨_, _, _, _, _, _⟩) (v := ?_) rfl (by kernel_rfl) (by kernel_rfl) (by kernel_rfl) (fun _ _ _ h => h) (Or.inl ⟨by rfl, ?_⟩) (by assumption) ?_
  rotate_left
  · (intro w hSw; (try dsimp only at hSw); go_simp; (try with_reducible rfl))
  try simp only [Act.put, zA, zB, zC]
  refine wpAnyH_ready (rs := [18]) (by kernel_rfl) (by simp) ?_
  refine AllReadyH.cons (o := ⟨_, _, _, _, _, _⟩) rfl (fun K hK => ?_) AllReadyH.nil
  go_simp
  have gne' : g ≠ gn := fun e => gne e.symm
  refine hK.out _ _ ⟨((below_new _ _).cell (p := ⟨g, 0, none⟩) (by rw [World.heap_size_setCell']; exact c3)).trans ((World.cell?_setCell_other _ _ _ _ (by simp)).trans c0), ((below_new _ _).cell (p := ⟨gn, m * 4 + 1, none⟩) (by rw [World.heap_size_setCell']; exact n2)).trans ((World.cell?_setCell_other _ _ _ _ (by simp [gne, gne'])).trans t1)⟩ (fun hHeld => ?_)
  clear hK K
  try simp only [Act.put, zA, zB, zC]
  refine wpAnyH_done (by kernel_rfl) ?_ _
  go_end0
  exact ⟨⟨_, rfl⟩, HQ.out⟩

theorem clK_congr {nd : List ND} {op : List Int} {a b : ByteArray} (h : a.toList = b.toList) : ∀ k, clK nd op a k = clK nd op b k
  | 0 => rfl
  | k + 1 => by unfold clK; rw [h, clK_congr h k]

theorem closeX_congr {s : BS} {a b : ByteArray} (h : a.toList = b.toList) : closeX s a = closeX s b := by unfold closeX; rw [clK_congr h]

set_option maxRecDepth 100000 in
set_option maxHeartbeats 6400000 in
theorem closeS_any (w0 : World) (lo g : Nat) (s : BS) (nm : ByteArray) (w : World) (h : ZB false 85 w0 lo g s w) (hs : GS s) :
    Calls Tryz.prog 106 #[.pointer (some ⟨g, 0, none⟩), .string nm] w fun e w' => (∃ v, e = .returned v) ∧ ZB false 85 w0 lo g (closeX s nm) w' := by
  obtain ⟨τ, vn, vo, va, vt, us, hz⟩ := h
  have HZ := Hid.mk' hz
  have HS := Hid.mk' hs
  have o7 := hs.o
  have n60 := hs.n
  obtain ⟨po, co, eo, _⟩ := hz.op.row
  subst eo
  obtain ⟨pn, cn, en, _⟩ := own_len hz.ns.row
  subst en
  obtain ⟨c0, c1, c2, c3⟩ := cells3 hz.box
  clear hz hs
  go_enter Tryz.func106, Tryz.ntmps106
  go_wp2
  go_loopw [4] (fun i wr => ∃ k : Nat, k ≤ s.op.length ∧ i = .int .i64 ((k : Int) - 1) ∧ clK s.nd s.op nm s.op.length = clK s.nd s.op nm k ∧ Below w.heap.size w wr) (fun i _ => (intOf i + 1).toNat)
  case atStart => exact ⟨s.op.length, Nat.le_refl _, rfl, rfl, Below.refl _ _⟩
  case round =>
    obtain ⟨k, hk, rfl, hc, hbl⟩ := hrel
    have HC := Hid.mk' hc
    have HB := Hid.mk' hbl
    have HZ1 := Hid.mk' (HZ.out.below hbl)
    clear c0 c1 c2 c3 hc
    obtain ⟨c0, c1, c2, c3⟩ := cells3 HZ1.out.box
    cases k with
    | zero =>
      have E : Hid (closeX s nm = s) := Hid.mk' (by unfold closeX; rw [HC.out]; rfl)
      have k0 : ¬ ((0 : Nat) : Int) - 1 ≥ 0 := by omega
      go_wp2
      go_end0
      exact ⟨⟨_, rfl⟩, by rw [E.out]; exact HZ1.out.zb⟩
    | succ k =>
      have k0 : ((k + 1 : Nat) : Int) - 1 = (k : Int) := by omega
      rw [k0]
      obtain ⟨p', d', e', hia⟩ := HZ1.out.op.row
      cases e'
      rcases hia with h0 | ⟨b1, o1, rfl, s1, hc1⟩
      · exact absurd hk (by rw [h0]; simp)
      have x0 := hc1 k (by omega)
      obtain ⟨hp1, hp2⟩ := HS.out.pl k (by omega)
      obtain ⟨m, hm⟩ : ∃ m : Nat, wv s.op k = (m : Int) := ⟨(wv s.op k).toNat, by omega⟩
      rw [hm] at x0 hp2
      have hml : m < s.nd.length := by omega
      have mi_ : (m : Int) < (s.nd.length : Int) := by omega
      have ki_ : (k : Int) < (s.op.length : Int) := by omega
      obtain ⟨gn, cn', en, n1, n2, hcell, hfr⟩ := HZ1.out.ns.spot (by omega)
      cases en
      have t1 : wr.cell? ⟨gn, m * 4 + 1, none⟩ = some (.string (ndK s.nd m).tg) := hcell m 1 hml (by omega)
      have HM := Hid.mk' hm
      clear hm hcell hfr n1 hbl hp1
      generalize ht : (ndK s.nd m).tg = tg at *
      have HT : Hid ((ndK s.nd (wv s.op k).toNat).tg = tg) := Hid.mk' (by rw [HM.out, Int.toNat_natCast]; exact ht)
      clear ht
      cases e1 : (tg.toList == nm.toList) with
      | false =>
        have E : Hid (clK s.nd s.op nm (k + 1) = clK s.nd s.op nm k) := Hid.mk' (by
          show (if _ then _ else _) = _
          rw [HT.out, if_neg (by rw [e1]; decide)])
        clear hc1
        go_wp2
        go_quiet (fail)
        go_wp2
        go_roundw
        case rel => exact ⟨k, by omega, rfl, by rw [HC.out, E.out], below_drewN HB.out _⟩
        case measure => first | (simp [intOf]; done) | (simp [intOf]; omega)
      | true =>
        have E : Hid (clK s.nd s.op nm (k + 1) = some k) := Hid.mk' (by unfold clK; rw [HT.out, if_pos e1])
        have EX : Hid (closeX s nm = ⟨s.nd, s.op.take k, s.lg⟩) := Hid.mk' (by unfold closeX; rw [HC.out, E.out])
        have lc := HZ1.out.op.1.lt
        obtain ⟨a9, c9, e9, hcap⟩ := own_len HZ1.out.op.1
        cases e9
        have d0 : (0 : Int) ≤ (k : Int) := by omega
        have d1 : (k : Int) ≤ (co : Int) := by omega
        have ln : (s.op.take k).length = k := by rw [List.length_take]; omega
        have src : ∀ n j q, (ics (s.op.take k))[j]? = some q → ((wr.drewN n).alloc (.cells #[] 2)).cell? ((⟨b1, o1, none⟩ : Addr).add j) = some q := fun n j q hj => by
          have hjl : j < k := by
            rcases Nat.lt_or_ge j k with h | h
            · exact h
            · rw [List.getElem?_eq_none (by simp [ics, ln]; omega)] at hj; cases hj
          rw [ics_get _ _ (by omega), wv_take hjl] at hj
          have hb9 : Below wr.heap.size wr ((wr.drewN n).alloc (.cells #[] 2)) := (below_drewN (Below.refl _ _) _).alloc (by simp) _
          rw [Addr.add_mid]
          rw [hb9.cell (p := ⟨b1, o1 + j, none⟩) s1, hc1 j (by omega)]
          exact hj
        have SRC := Hid.mk' src
        clear src hc1 lc
        have xn1 := World.new_ne wr ⟨g, 1, none⟩ c1
        dsimp only at xn1
        go_wp2
        go_quiet (fail)
        rename_i nq
        have SR := Hid.mk' (SRC.out nq)
        have HZ2 := Hid.mk' (HZ1.out.below (below_drewN (Below.refl _ _) nq))
        have V0 : Hid (Below w.heap.size w (wr.drewN nq)) := Hid.mk' (below_drewN HB.out _)
        clear SRC HZ1 c0 c1 c2 c3 x0 t1 xn1
        generalize hY : wr.drewN nq = Y at *
        clear hY
        obtain ⟨c0, c1, c2, c3⟩ := cells3 HZ2.out.box
        have f1 := HZ2.out.box.frozen 1
        have V1 := below_new Y (.cells #[] 2)
        have HV := Hid.mk' (V0.out.trans (V1.mono V0.out.size))
        have HL := Hid.mk' (World.ownsRow_lit (base := Y.heap.size) (e := 2) (size := 1) Y #[] 0 (Nat.le_refl _) (by decide) rfl)
        have HB1 := Hid.mk' V1
        have xn1 := World.new_ne Y ⟨g, 1, none⟩ c1
        dsimp only at xn1
        clear V1
        go_wp2_with (at_builtin; refine wpList_append_any _ rfl (.tmp 32) (.tmp 38) 74 rfl Y.heap.size 2 (.int .i64 0) 1 8 Tryz.underlying74 Tryz.info2 rfl (by decide) _ 0 [] rfl HL.out _ k _ (ics (s.op.take k)) rfl (by rw [ics_len, ln]) (.inr ⟨_, rfl, SR.out⟩) (ics_one _) (by unfold maxLen; omega) (by omega) (by simp) ?_; intro v' w3 ho hgr; rw [Nat.zero_add, List.nil_append] at ho; obtain ⟨av3, cv3, ev3, _⟩ := own_len ho; subst ev3; have z1 := hgr.cell (a := ⟨g, 1, none⟩) ((HB1.out.cell c3).trans c1) (fun e => by simp [Act.eval, Value.ownBlock] at e; omega); have z2 : w3.frozen? ⟨g, 1, none⟩ = false := ((rowB HZ2.out.box HB1.out).of_block (hgr.block g (rowB HZ2.out.box HB1.out).lt (fun e => by simp [Act.eval, Value.ownBlock] at e; omega))).frozen 1; have BG := HB1.out.grown hgr (by simp) (fun j e => by simp [Act.eval, Value.ownBlock] at e; omega); have HQ := Hid.mk' (HZ2.out.takeS (s.op.take k) (by rw [ln]; exact ho) BG); clear ho hgr BG)
        (try simp only [Exit.inBlock, Exit.then])
        refine bodyPost_ret (results_none rfl _ _ _) rfl ?_
        exact ⟨⟨_, rfl⟩, by rw [EX.out]; exact HQ.out⟩

end Go.Proofs.YthcajggbcanmdaaGreatDoor
