/- The program's tree: a node is put behind the others. -/
import Derived.Test.YtcjnfodkppcpoaaDoorXGj
namespace Go.Proofs.YtcjnfodkppcpoaaDoor
open Go.RowKit
set_option linter.unusedVariables false
set_option linter.unusedSimpArgs false

theorem Tryd.info80 : (Tryd.prog.info? 80).map (fun i => (i.zero, i.size, i.bytes)) = some (some (.agg #[.int .i64 0, .string ⟨#[]⟩, .slice none 0 0, .int .i64 0, .int .i64 0]), 5, 64) := by kernel_rfl

theorem Tryd.info2 : (Tryd.prog.info? 2).map (fun i => (i.zero, i.size, i.bytes)) = some (some (.int .i64 0), 1, 8) := by kernel_rfl

/-- A tree with its way already gone on, and the node not yet put. -/
structure TH (w0 : World) (base g : Nat) (l : List ND) (pa : Nat → Option Addr) (ca : Nat → Nat) (k : Nat) (vn vw : Value) (w : World) : Prop where
  box : w.rowIs g 54 2 (p2 vn vw)
  on : w.ownsRow base 80 5 vn k (pcs5 l (sv l pa ca) k)
  ow : w.ownsRow base 2 1 vw (wayU (upF l) (k + 1)).length (ics (wayU (upF l) (k + 1)))
  ap : Ap vn vw
  an : ¬ vn.ownBlock = some g
  aw : ¬ vw.ownBlock = some g
  bl : Below base w0 w
  sz : base ≤ w.heap.size
  bg : base ≤ g

theorem TH.below {w0 w w' : World} {base g : Nat} {l : List ND} {pa : Nat → Option Addr} {ca : Nat → Nat} {k : Nat} {vn vw : Value} (h : TH w0 base g l pa ca k vn vw w) (hb : Below w.heap.size w w') : TH w0 base g l pa ca k vn vw w' :=
  ⟨rowB h.box hb, own_keep h.on hb, own_keep h.ow hb, h.ap, h.an, h.aw, h.bl.trans (hb.mono h.sz), Nat.le_trans h.sz hb.size, h.bg⟩

/-- A row of one's own, when a cell of another block is turned. -/
theorem own_setG {w : World} {base g j : Nat} {e : TypeId} {size : Nat} {v u : Value} {n : Nat} {xs : List Value} (h : w.ownsRow base e size v n xs) (hg : ¬ v.ownBlock = some g) : (w.setCell ⟨g, j, none⟩ u).ownsRow base e size v n xs :=
  h.kept (row := some g) ⟨rfl, rfl, rfl, by simp [World.setCell], fun k hk hne => Below.heap_setCell _ _ _ _ (fun e => hne (by rw [e]))⟩ (by
    cases hv : v.ownBlock with
    | none => exact .inl rfl
    | some k => exact .inr (fun e => hg (by rw [hv]; exact e)))

theorem ap_grown {w w1 : World} {va vb v' : Value} {base : Nat} {e : TypeId} {size n : Nat} {xs : List Value} (hb : w.ownsRow base e size vb n xs) (ha : Ap vb va) (hat : v'.ownBlock = va.ownBlock ∨ v'.ownBlock = some w.heap.size) : Ap vb v' := by
  intro k e1 e2
  rcases hat with h | h
  · exact ha k e1 (h ▸ e2)
  · rw [h] at e2
    have := (hb.lt k e1).2
    cases e2
    omega

theorem kept_of {w w1 : World} {v : Value} {base : Nat} {e : TypeId} {size n : Nat} {xs : List Value} {u : Value} (h : w.ownsRow base e size v n xs) (hg : w.grownBy w1 u.ownBlock) (ha : Ap v u) : w1.ownsRow base e size v n xs :=
  h.kept hg (by
    cases hv : v.ownBlock with
    | none => exact .inl rfl
    | some k => exact .inr (fun e' => ha k hv e'.symm))

theorem grown_box {w w1 : World} {g n : Nat} {t : TypeId} {f : Nat → Value} {u : Value} (h : w.rowIs g t n f) (hg : w.grownBy w1 u.ownBlock) (hu : ¬ u.ownBlock = some g) : w1.rowIs g t n f :=
  h.of_block (hg.block g h.lt (fun e => hu e.symm))

/-- The way is gone on. -/
theorem TT.goOn {w0 w w1 : World} {base g bw cw d : Nat} {l : List ND} {pa : Nat → Option Addr} {ca : Nat → Nat} {k : Nat} {vn v' : Value} (h : TT w0 base g l pa ca k vn (.slice (some ⟨bw, 0, none⟩) (wayU (upF l) k).length cw) w) (hd : depU (upF l) k = d) (hl : d < (wayU (upF l) k).length)
    (ho : w1.ownsRow base 2 1 v' (d + 1 + 1) ((ics (wayU (upF l) k)).take ((d + 1) * 1) ++ ics [(k : Int)])) (hg : w.grownBy w1 (some bw)) (hat : v'.ownBlock = some bw ∨ v'.ownBlock = some w.heap.size) :
    TH w0 base g l pa ca k vn v' (w1.setCell ⟨g, 1, none⟩ v') := by
  have hbw : (Value.slice (some ⟨bw, 0, none⟩) (wayU (upF l) k).length cw).ownBlock = some bw := rfl
  have hglt := h.box.lt
  have hg' : w.grownBy w1 (Value.slice (some ⟨bw, 0, none⟩) (wayU (upF l) k).length cw).ownBlock := hg
  have hne : ¬ v'.ownBlock = some g := fun e => by
    rcases hat with h1 | h1
    · rw [h1] at e; exact h.aw (by rw [hbw]; exact e)
    · rw [h1] at e; cases e; omega
  have L := (way_succ (upF l) k (by rw [hd]; exact hl)).1
  rw [hd] at L
  have EW : ics (wayU (upF l) (k + 1)) = (ics (wayU (upF l) k)).take ((d + 1) * 1) ++ ics [(k : Int)] := by
    rw [Nat.mul_one, ← hd]
    show ics ((wayU (upF l) k).take (ixF (wayU (upF l) k) (upF l k) + 1) ++ [(k : Int)]) = _
    simp [ics, List.map_take, depU]
  refine ⟨?_, own_setG (kept_of h.on hg' h.ap) h.an, ?_, ap_grown (w1 := w1) h.on h.ap hat, h.an, hne, ?_, ?_, h.bg⟩
  · refine ((grown_box h.box hg' h.aw).set 1 v').congr (fun i hi => ?_)
    have : i = 0 ∨ i = 1 := by omega
    rcases this with rfl | rfl <;> rfl
  · rw [L, EW]; exact own_setG ho hne
  · exact (h.bl.grown hg' h.sz (own_lo h.ow)).setCell (p := ⟨g, 1, none⟩) h.bg _
  · have := h.sz; have := hg.size; simp [World.setCell]; omega

/-- A node is put behind the others. -/
theorem TH.put {w0 w w1 : World} {base g : Nat} {l : List ND} {pa : Nat → Option Addr} {ca : Nat → Nat} {k : Nat} {vn vw v' : Value} (h : TH w0 base g l pa ca k vn vw w)
    (ho : w1.ownsRow base 80 5 v' (k + 1) (pcs5 l (sv l pa ca) k ++ pcell l (sv l pa ca) k)) (hg : w.grownBy w1 vn.ownBlock) (hat : v'.ownBlock = vn.ownBlock ∨ v'.ownBlock = some w.heap.size) :
    TT w0 base g l pa ca (k + 1) v' vw (w1.setCell ⟨g, 0, none⟩ v') := by
  have hglt := h.box.lt
  have hne : ¬ v'.ownBlock = some g := fun e => by
    rcases hat with h1 | h1
    · rw [h1] at e; exact h.an e
    · rw [h1] at e; cases e; omega
  refine ⟨?_, own_setG ho hne, own_setG (kept_of h.ow hg h.ap.symm) h.aw, (ap_grown (w1 := w1) h.ow h.ap.symm hat).symm, hne, h.aw, ?_, ?_, h.bg⟩
  · refine ((grown_box h.box hg h.an).set 0 v').congr (fun i hi => ?_)
    have : i = 0 ∨ i = 1 := by omega
    rcases this with rfl | rfl <;> rfl
  · exact (h.bl.grown hg h.sz (own_lo h.on)).setCell (p := ⟨g, 0, none⟩) h.bg _
  · have := h.sz; have := hg.size; simp [World.setCell]; omega

theorem rowIs_frozen {w : World} {b n : Nat} {t : TypeId} {f : Nat → Value} (h : w.rowIs b t n f) (i : Nat) : w.frozen? ⟨b, i, none⟩ = false := h.frozen i

theorem own_len {w : World} {base : Nat} {e : TypeId} {size : Nat} {v : Value} {n : Nat} {xs : List Value} (h : w.ownsRow base e size v n xs) : ∃ a c, v = .slice a n c ∧ n ≤ c := by
  rcases h.2 with ⟨rfl, rfl⟩ | ⟨g, cap, cur, rfl, hg, hh, hc, hm, hs, ht⟩
  · exact ⟨_, _, rfl, Nat.le_refl _⟩
  · exact ⟨_, _, rfl, hc⟩

/-- The cells that a literal lays in a new block. -/
theorem new_cells (w : World) (t : TypeId) (xs : List Value) (g : Nat) (hg : w.heap.size = g) : ∀ j u, xs[j]? = some u → (w.alloc (.cells xs.toArray t)).cell? ((⟨g, 0, none⟩ : Addr).add j) = some u := by
  intro j u h
  subst hg
  rw [Addr.add_mid, Nat.zero_add]
  have := Lib.cell_of_heap (w := w.alloc (.cells xs.toArray t)) (Deep.blk_alloc_new w (.cells xs.toArray t)) j
  rw [this]
  simpa using h


set_option maxRecDepth 100000 in
set_option maxHeartbeats 8000000 in
theorem put_any (w0 : World) (base g : Nat) (l : List ND) (pa : Nat → Option Addr) (ca : Nat → Nat) (k : Nat) (vn vw : Value) (w : World) (h : TT w0 base g l pa ca k vn vw w) (h60 : k < 60) (hd : depU (upF l) k < (wayU (upF l) k).length) (hlen : (wayU (upF l) k).length ≤ k + 1) :
    Calls Tryd.prog 49 #[.pointer (some ⟨g, 0, none⟩), .agg #[.int .i64 (mkK (ndK l k)), .string (mkS (ndK l k)), mkV (ndK l k) (sv l pa ca k), .int .i64 (ndK l k).up, .int .i64 (depU (upF l) k : Int)]] w fun e w' => (∃ v, e = .returned v) ∧ ∃ vn' vw', TT w0 base g l pa ca (k + 1) vn' vw' w' := by
  obtain ⟨p9, n9, c9, hV⟩ := mkV_slice (ndK l k) l pa ca k
  have hP : pcell l (sv l pa ca) k = [.int .i64 (mkK (ndK l k)), .string (mkS (ndK l k)), .slice p9 n9 c9, .int .i64 (ndK l k).up, .int .i64 (depU (upF l) k : Int)] := by unfold pcell; rw [hV]
  have HPc := Hid.mk' hP
  have P1 := Hid.mk' (pcell_one l pa ca k)
  rw [hV]
  obtain ⟨d, hdd⟩ : ∃ d, depU (upF l) k = d := ⟨_, rfl⟩
  obtain ⟨K, hK⟩ : ∃ K, mkK (ndK l k) = K := ⟨_, rfl⟩
  obtain ⟨S, hS⟩ : ∃ S, mkS (ndK l k) = S := ⟨_, rfl⟩
  obtain ⟨U, hU⟩ : ∃ U, (ndK l k).up = U := ⟨_, rfl⟩
  rw [hdd, hK, hS, hU] at HPc
  rw [hdd] at hd
  rw [hdd, hK, hS, hU]
  have N0 := below_new w (.cells #[.int .i64 K, .string S, .slice p9 n9 c9, .int .i64 U, .int .i64 (d : Int)] 80)
  have h1 := h.below N0
  have R0 := row5 w 80 (.int .i64 K) (.string S) (.slice p9 n9 c9) (.int .i64 U) (.int .i64 (d : Int))
  have gx : ¬ g = w.heap.size := by have := h.box.lt; omega
  have HX := Hid.mk' (fun k' e => (h.ow.lt k' e).2)
  have HY := Hid.mk' (fun k' e => (h.on.lt k' e).2)
  clear h hP hV hK hS hU N0
  generalize hW : w.alloc (.cells #[.int .i64 K, .string S, .slice p9 n9 c9, .int .i64 U, .int .i64 (d : Int)] 80) = W at *
  obtain ⟨bw, cw, ew, e1, e2, e3, e4⟩ := own_iat h1.ow (by omega)
  subst ew
  obtain ⟨an, cn, ev, ec⟩ := own_len h1.on
  subst ev
  obtain ⟨c0, c1, c2⟩ := cells2 h1.box
  obtain ⟨r0, r1, r2, r3_, r4_, r5_⟩ := cells5 R0
  have fz := h1.box.frozen 1
  have HT := Hid.mk' h1
  have HR := Hid.mk' R0
  generalize hn : w.heap.size = x at *
  have dw : IntKind.i64.wrap ((d : Int) + 1) = (d : Int) + 1 := by rw [IntKind.wrap_i64]; omega
  have d0 : (0 : Int) ≤ (d : Int) + 1 := by omega
  have d1 : (d : Int) + 1 ≤ (cw : Int) := by omega
  have d2 : ((d : Int) + 1).toNat = d + 1 := by omega
  have d9 : d < 61 := by omega
  have D0 := Hid.mk' hd
  have DD := Hid.mk' hdd
  clear h1 R0 e4 hlen hdd
  go_enter Tryd.func49, Tryd.ntmps49
  go_wp2_with fail
  clear hW
  refine wp_region_held_drew (S := fun w' => w'.cell? ⟨g, 0, none⟩ = some (.slice an k cn) ∧ w'.cell? ⟨x, 4, none⟩ = some (.int .i64 (d : Int))) (by kernel_rfl) (by simp [*]) (fun hHeld => ?_)
  refine wpAnyH_take (i := 0) (oi := ⟨_, _, _, _, _, _⟩) (v := ?_) rfl (by kernel_rfl) (by kernel_rfl) (by kernel_rfl) (fun _ _ _ h => h) (Or.inl ⟨by rfl, ?_⟩) (by assumption) ?_
  rotate_left
  · (intro w hSw; (try dsimp only at hSw); go_simp; (try with_reducible rfl))
  try simp only [Act.put, List.setIfInBounds_toArray, List.set_cons_zero, List.set_cons_succ]
  refine wpAnyH_take (i := 1) (oi := ⟨_, _, _, _, _, _⟩) (v := ?_) rfl (by kernel_rfl) (by kernel_rfl) (by kernel_rfl) (fun _ _ _ h => h) (Or.inl ⟨by rfl, ?_⟩) (by assumption) ?_
  rotate_left
  · (intro w hSw; (try dsimp only at hSw); go_simp; (try with_reducible rfl))
  try simp only [Act.put, List.setIfInBounds_toArray, List.set_cons_zero, List.set_cons_succ]
  refine wpAnyH_take (i := 2) (oi := ⟨_, _, _, _, _, _⟩) (v := ?_) rfl (by kernel_rfl) (by kernel_rfl) (by kernel_rfl) (fun _ _ _ h => h) (Or.inl ⟨by rfl, ?_⟩) (by assumption) ?_
  rotate_left
  · (intro w hSw; (try dsimp only at hSw); go_simp; (try with_reducible rfl))
  try simp only [Act.put, List.setIfInBounds_toArray, List.set_cons_zero, List.set_cons_succ]
  refine wpAnyH_take (i := 3) (oi := ⟨_, _, _, _, _, _⟩) (v := ?_) rfl (by kernel_rfl) (by kernel_rfl) (by kernel_rfl) (fun _ _ _ h => h) (Or.inl ⟨by rfl, ?_⟩) (by assumption) ?_
  rotate_left
  · (intro w hSw; (try dsimp only at hSw); go_simp; (try with_reducible rfl))
  try simp only [Act.put, List.setIfInBounds_toArray, List.set_cons_zero, List.set_cons_succ]
  refine wpAnyH_take (i := 5) (oi := ⟨_, _, _, _, _, _⟩) (v := ?_) rfl (by kernel_rfl) (by kernel_rfl) (by kernel_rfl) (fun _ _ _ h => h) (Or.inl ⟨by rfl, ?_⟩) (by assumption) ?_
  rotate_left
  · (intro w hSw; (try dsimp only at hSw); go_simp; (try with_reducible rfl))
  try simp only [Act.put, List.setIfInBounds_toArray, List.set_cons_zero, List.set_cons_succ]
  refine wpAnyH_take (i := 6) (oi := ⟨_, _, _, _, _, _⟩) (v := ?_) rfl (by kernel_rfl) (by kernel_rfl) (by kernel_rfl) (fun _ _ _ h => h) (Or.inl ⟨by rfl, ?_⟩) (by assumption) ?_
  rotate_left
  · (intro w hSw; (try dsimp only at hSw); go_simp; (try with_reducible rfl))
  try simp only [Act.put, List.setIfInBounds_toArray, List.set_cons_zero, List.set_cons_succ]
  refine wpAnyH_take (i := 7) (oi := ⟨_, _, _, _, _, _⟩) (v := ?_) rfl (by kernel_rfl) (by kernel_rfl) (by kernel_rfl) (fun _ _ _ h => h) (Or.inl ⟨by rfl, ?_⟩) (by assumption) ?_
  rotate_left
  · (intro w hSw; (try dsimp only at hSw); go_simp; (try with_reducible rfl))
  try simp only [Act.put, List.setIfInBounds_toArray, List.set_cons_zero, List.set_cons_succ]
  refine wpAnyH_take (i := 9) (oi := ⟨_, _, _, _, _, _⟩) (v := ?_) rfl (by kernel_rfl) (by kernel_rfl) (by kernel_rfl) (fun _ _ _ h => h) (Or.inl ⟨by rfl, ?_⟩) (by assumption) ?_
  rotate_left
  · (intro w hSw; (try dsimp only at hSw); go_simp; (try with_reducible rfl))
  try simp only [Act.put, List.setIfInBounds_toArray, List.set_cons_zero, List.set_cons_succ]
  refine wpAnyH_take (i := 10) (oi := ⟨_, _, _, _, _, _⟩) (v := ?_) rfl (by kernel_rfl) (by kernel_rfl) (by kernel_rfl) (fun _ _ _ h => h) (Or.inl ⟨by rfl, ?_⟩) (by assumption) ?_
  rotate_left
  · (intro w hSw; (try dsimp only at hSw); go_simp; (try with_reducible rfl))
  try simp only [Act.put, List.setIfInBounds_toArray, List.set_cons_zero, List.set_cons_succ]
  refine wpAnyH_take (i := 11) (oi := ⟨_, _, _, _, _, _⟩) (v := ?_) rfl (by kernel_rfl) (by kernel_rfl) (by kernel_rfl) (fun _ _ _ h => h) (Or.inl ⟨by rfl, ?_⟩) (by assumption) ?_
  rotate_left
  · (intro w hSw; (try dsimp only at hSw); go_simp; (try with_reducible rfl))
  try simp only [Act.put, List.setIfInBounds_toArray, List.set_cons_zero, List.set_cons_succ]
  refine wpAnyH_take (i := 12) (oi := ⟨_, _, _, _, _, _⟩) (v := ?_) rfl (by kernel_rfl) (by kernel_rfl) (by kernel_rfl) (fun _ _ _ h => h) (Or.inl ⟨by rfl, ?_⟩) (by assumption) ?_
  rotate_left
  · (intro w hSw; (try dsimp only at hSw); go_simp; (try with_reducible rfl))
  try simp only [Act.put, List.setIfInBounds_toArray, List.set_cons_zero, List.set_cons_succ]
  refine wpAnyH_take (i := 13) (oi := ⟨_, _, _, _, _, _⟩) (v := ?_) rfl (by kernel_rfl) (by kernel_rfl) (by kernel_rfl) (fun _ _ _ h => h) (Or.inl ⟨by rfl, ?_⟩) (by assumption) ?_
  rotate_left
  · (intro w hSw; (try dsimp only at hSw); go_simp; (try with_reducible rfl))
  try simp only [Act.put, List.setIfInBounds_toArray, List.set_cons_zero, List.set_cons_succ]
  have VB := below_new W (.cells #[.int .i64 (k : Int)] 2)
  have V1 := Hid.mk' (HT.out.below VB.drew)
  have O1 := Hid.mk' (own_take V1.out.ow (m := d + 1) (by omega))
  have RV := Hid.mk' (rowB HR.out VB.drew)
  have NC := Hid.mk' (new_cells W 2 [.int .i64 (k : Int)] W.heap.size rfl)
  clear VB
  have xn0 := World.new_ne W ⟨g, 0, none⟩ c0
  have xn1 := World.new_ne W ⟨x, 4, none⟩ r4_
  dsimp only at xn0 xn1
  refine wpAnyH_ready (rs := [4, 14]) (by kernel_rfl) (by simp) ?_
  refine AllReadyH.cons (o := ⟨_, _, _, _, _, _⟩) rfl (fun K hK => ?_) (AllReadyH.cons (o := ⟨_, _, _, _, _, _⟩) rfl (fun K hK => ?_) AllReadyH.nil)
  · go_simp
    refine hK.out _ _ (by (try dsimp only); go_keep) (fun hHeld => ?_)
    clear hK K
    try simp only [Act.put, List.setIfInBounds_toArray, List.set_cons_zero, List.set_cons_succ]
    refine wpAnyH_take (i := 8) (oi := ⟨_, _, _, _, _, _⟩) (v := ?_) rfl (by kernel_rfl) (by kernel_rfl) (by kernel_rfl) (fun _ _ _ h => h) (Or.inl ⟨by rfl, ?_⟩) (by assumption) ?_
    rotate_left
    · (intro w hSw; (try dsimp only at hSw); go_simp; (try with_reducible rfl))
    try simp only [Act.put, List.setIfInBounds_toArray, List.set_cons_zero, List.set_cons_succ]
    refine wpAnyH_ready (rs := [14]) (by kernel_rfl) (by simp) ?_
    refine AllReadyH.cons (o := ⟨_, _, _, _, _, _⟩) rfl (fun K hK => ?_) AllReadyH.nil
    go_simp
    refine hK.out _ _ (by (try dsimp only); go_keep) (fun hHeld => ?_)
    clear hK K
    try simp only [Act.put, List.setIfInBounds_toArray, List.set_cons_zero, List.set_cons_succ]
    refine wpAnyH_ready (rs := [15]) (by kernel_rfl) (by simp) ?_
    refine AllReadyH.cons (o := ⟨_, _, _, _, _, _⟩) rfl (fun K hK => ?_) AllReadyH.nil
    refine step_append_at rfl (.tmp 12) (.tmp 18) 52 rfl base 2 (.int .i64 0) 1 8 Tryd.underlying52 Tryd.info2 rfl (by decide) _ _ _ rfl O1.out _ 1 _ (ics [(k : Int)]) rfl (by simp [ics]) (.inr ⟨_, rfl, NC.out⟩) (ics_one _) (by unfold maxLen; omega) (by omega) V1.out.sz ?_
    intro v' w1 ho hgr hat
    have T1 := V1.out.goOn DD.out D0.out ho hgr hat
    obtain ⟨av, cv, ev', _⟩ := own_len ho
    subst ev'
    have gbw : ¬ (some g : Option Nat) = some bw := fun e => HT.out.aw e.symm
    have xbw : ¬ (some x : Option Nat) = some bw := fun e => by have := HX.out bw rfl; cases e; omega
    have y0 := hgr.cell (a := ⟨g, 0, none⟩) (cells2 V1.out.box).1 gbw
    have y1 := hgr.cell (a := ⟨g, 1, none⟩) (cells2 V1.out.box).2.1 gbw
    have y2 := hgr.cell (a := ⟨x, 4, none⟩) (cells5 RV.out).2.2.2.2.1 xbw
    have y3 := (rowIs_frozen (grown_box (u := .slice (some ⟨bw, 0, none⟩) 0 0) V1.out.box hgr HT.out.aw) 1)
    have RX := Hid.mk' (grown_box (u := .slice (some ⟨bw, 0, none⟩) 0 0) RV.out hgr (fun e => xbw e.symm))
    have HT1 := Hid.mk' T1
    have sz1 := hgr.size
    clear ho hgr hat T1
    refine hK.out _ _ (by (try dsimp only); go_keep) (fun hHeld => ?_)
    clear hK K
    try simp only [Act.put, List.setIfInBounds_toArray, List.set_cons_zero, List.set_cons_succ]
    refine wpAnyH_take (i := 16) (oi := ⟨_, _, _, _, _, _⟩) (v := ?_) rfl (by kernel_rfl) (by kernel_rfl) (by kernel_rfl) (fun _ _ _ h => h) (Or.inl ⟨by rfl, ?_⟩) (by assumption) ?_
    rotate_left
    · (intro w hSw; (try dsimp only at hSw); go_simp; (try with_reducible rfl))
    try simp only [Act.put, List.setIfInBounds_toArray, List.set_cons_zero, List.set_cons_succ]
    refine wpAnyH_take (i := 17) (oi := ⟨_, _, _, _, _, _⟩) (v := ?_) rfl (by kernel_rfl) (by kernel_rfl) (by kernel_rfl) (fun _ _ _ h => h) (Or.inl ⟨by rfl, ?_⟩) (by assumption) ?_
    rotate_left
    · (intro w hSw; (try dsimp only at hSw); go_simp; (try with_reducible rfl))
    try simp only [Act.put, List.setIfInBounds_toArray, List.set_cons_zero, List.set_cons_succ]
    refine wpAnyH_ready (rs := [18]) (by kernel_rfl) (by simp) ?_
    refine AllReadyH.cons (o := ⟨_, _, _, _, _, _⟩) rfl (fun K hK => ?_) AllReadyH.nil
    go_simp
    refine hK.out _ _ ⟨by rw [World.cell?_setCell_other _ _ _ _ (by simp)]; exact y0, by rw [World.cell?_setCell_other _ _ _ _ (by simp)]; exact y2⟩ (fun hHeld => ?_)
    clear hK K
    try simp only [Act.put, List.setIfInBounds_toArray, List.set_cons_zero, List.set_cons_succ]
    refine wpAnyH_done (by kernel_rfl) ?_ _
    have RY := Hid.mk' (RX.out.setOther (a := ⟨g, 1, none⟩) (fun e => gx e.symm) (.slice av (d + 1 + 1) cv))
    clear RX y0 y1 y2 y3 hHeld
    generalize hZ : w1.setCell ⟨g, 1, none⟩ (.slice av (d + 1 + 1) cv) = Z at *
    go_wp2_with fail
    clear hZ
    obtain ⟨q0, q1, q2, q3, q4, q5⟩ := cells5 RY.out
    obtain ⟨b0, b1, b2⟩ := cells2 HT1.out.box
    have VB := below_new Z (.cells #[.int .i64 K, .string S, .slice p9 n9 c9, .int .i64 U, .int .i64 (d : Int)] 80)
    have V2 := Hid.mk' (HT1.out.below VB.drew)
    have RZ := Hid.mk' (rowB RY.out VB.drew)
    have NC := Hid.mk' (new_cells Z 80 [.int .i64 K, .string S, .slice p9 n9 c9, .int .i64 U, .int .i64 (d : Int)] Z.heap.size rfl)
    clear VB
    have xn0 := World.new_ne Z ⟨g, 0, none⟩ b0
    have xn1 := World.new_ne Z ⟨x, 4, none⟩ q4
    dsimp only at xn0 xn1
    refine wp_region_held_drew (S := fun w' => w'.cell? ⟨x, 0, none⟩ = some (.int .i64 K) ∧ w'.cell? ⟨x, 1, none⟩ = some (.string S) ∧ w'.cell? ⟨x, 2, none⟩ = some (.slice p9 n9 c9) ∧ w'.cell? ⟨x, 3, none⟩ = some (.int .i64 U) ∧ w'.cell? ⟨x, 4, none⟩ = some (.int .i64 (d : Int))) (by kernel_rfl) (by simp [*]) (fun hHeld => ?_)
    refine wpAnyH_take (i := 0) (oi := ⟨_, _, _, _, _, _⟩) (v := ?_) rfl (by kernel_rfl) (by kernel_rfl) (by kernel_rfl) (fun _ _ _ h => h) (Or.inl ⟨by rfl, ?_⟩) (by assumption) ?_
    rotate_left
    · (intro w hSw; (try dsimp only at hSw); go_simp; (try with_reducible rfl))
    try simp only [Act.put, List.setIfInBounds_toArray, List.set_cons_zero, List.set_cons_succ]
    refine wpAnyH_take (i := 1) (oi := ⟨_, _, _, _, _, _⟩) (v := ?_) rfl (by kernel_rfl) (by kernel_rfl) (by kernel_rfl) (fun _ _ _ h => h) (Or.inl ⟨by rfl, ?_⟩) (by assumption) ?_
    rotate_left
    · (intro w hSw; (try dsimp only at hSw); go_simp; (try with_reducible rfl))
    try simp only [Act.put, List.setIfInBounds_toArray, List.set_cons_zero, List.set_cons_succ]
    refine wpAnyH_take (i := 2) (oi := ⟨_, _, _, _, _, _⟩) (v := ?_) rfl (by kernel_rfl) (by kernel_rfl) (by kernel_rfl) (fun _ _ _ h => h) (Or.inl ⟨by rfl, ?_⟩) (by assumption) ?_
    rotate_left
    · (intro w hSw; (try dsimp only at hSw); go_simp; (try with_reducible rfl))
    try simp only [Act.put, List.setIfInBounds_toArray, List.set_cons_zero, List.set_cons_succ]
    refine wpAnyH_take (i := 3) (oi := ⟨_, _, _, _, _, _⟩) (v := ?_) rfl (by kernel_rfl) (by kernel_rfl) (by kernel_rfl) (fun _ _ _ h => h) (Or.inl ⟨by rfl, ?_⟩) (by assumption) ?_
    rotate_left
    · (intro w hSw; (try dsimp only at hSw); go_simp; (try with_reducible rfl))
    try simp only [Act.put, List.setIfInBounds_toArray, List.set_cons_zero, List.set_cons_succ]
    refine wpAnyH_take (i := 5) (oi := ⟨_, _, _, _, _, _⟩) (v := ?_) rfl (by kernel_rfl) (by kernel_rfl) (by kernel_rfl) (fun _ _ _ h => h) (Or.inl ⟨by rfl, ?_⟩) (by assumption) ?_
    rotate_left
    · (intro w hSw; (try dsimp only at hSw); go_simp; (try with_reducible rfl))
    try simp only [Act.put, List.setIfInBounds_toArray, List.set_cons_zero, List.set_cons_succ]
    refine wpAnyH_ready (rs := [4, 6]) (by kernel_rfl) (by simp) ?_
    refine AllReadyH.cons (o := ⟨_, _, _, _, _, _⟩) rfl (fun K' hK => ?_) (AllReadyH.cons (o := ⟨_, _, _, _, _, _⟩) rfl (fun K' hK => ?_) AllReadyH.nil)
    · go_simp
      refine hK.out _ _ (by (try dsimp only); go_keep) (fun hHeld => ?_)
      clear hK K'
      try simp only [Act.put, List.setIfInBounds_toArray, List.set_cons_zero, List.set_cons_succ]
      refine wpAnyH_ready (rs := [6]) (by kernel_rfl) (by simp) ?_
      refine AllReadyH.cons (o := ⟨_, _, _, _, _, _⟩) rfl (fun K' hK => ?_) AllReadyH.nil
      go_simp
      refine hK.out _ _ (by (try dsimp only); go_keep) (fun hHeld => ?_)
      clear hK K'
      try simp only [Act.put, List.setIfInBounds_toArray, List.set_cons_zero, List.set_cons_succ]
      refine wpAnyH_ready (rs := [7]) (by kernel_rfl) (by simp) ?_
      refine AllReadyH.cons (o := ⟨_, _, _, _, _, _⟩) rfl (fun K' hK => ?_) AllReadyH.nil
      refine step_append_at rfl (.tmp 26) (.tmp 28) 51 rfl base 80 (.agg #[.int .i64 0, .string ⟨#[]⟩, .slice none 0 0, .int .i64 0, .int .i64 0]) 5 64 Tryd.underlying51 Tryd.info80 rfl (by decide) _ _ _ rfl V2.out.on _ 1 _ (pcell l (sv l pa ca) k) rfl (by rw [HPc.out]; rfl) (.inr ⟨_, rfl, by rw [HPc.out]; exact NC.out⟩) P1.out (by unfold maxLen; omega) (by omega) V2.out.sz ?_
      intro v2 w2 ho hgr hat
      have T2 := V2.out.put ho hgr hat
      obtain ⟨av2, cv2, ev', _⟩ := own_len ho
      subst ev'
      have gan : ¬ (some g : Option Nat) = (Value.slice an k cn).ownBlock := fun e => HT1.out.an e.symm
      have xan : ¬ (some x : Option Nat) = (Value.slice an k cn).ownBlock := fun e => by have := HY.out x e.symm; omega
      have z0 := hgr.cell (a := ⟨g, 0, none⟩) (cells2 V2.out.box).1 gan
      have z1 := rowIs_frozen (grown_box V2.out.box hgr HT1.out.an) 0
      obtain ⟨t0, t1, t2, t3, t4, t5⟩ := cells5 (grown_box RZ.out hgr (fun e => xan e.symm))
      have HT2 := Hid.mk' T2
      clear ho hgr hat T2
      refine hK.out _ _ (by (try dsimp only); go_keep) (fun hHeld => ?_)
      clear hK K'
      try simp only [Act.put, List.setIfInBounds_toArray, List.set_cons_zero, List.set_cons_succ]
      refine wpAnyH_take (i := 8) (oi := ⟨_, _, _, _, _, _⟩) (v := ?_) rfl (by kernel_rfl) (by kernel_rfl) (by kernel_rfl) (fun _ _ _ h => h) (Or.inl ⟨by rfl, ?_⟩) (by assumption) ?_
      rotate_left
      · (intro w hSw; (try dsimp only at hSw); go_simp; (try with_reducible rfl))
      try simp only [Act.put, List.setIfInBounds_toArray, List.set_cons_zero, List.set_cons_succ]
      refine wpAnyH_take (i := 9) (oi := ⟨_, _, _, _, _, _⟩) (v := ?_) rfl (by kernel_rfl) (by kernel_rfl) (by kernel_rfl) (fun _ _ _ h => h) (Or.inl ⟨by rfl, ?_⟩) (by assumption) ?_
      rotate_left
      · (intro w hSw; (try dsimp only at hSw); go_simp; (try with_reducible rfl))
      try simp only [Act.put, List.setIfInBounds_toArray, List.set_cons_zero, List.set_cons_succ]
      refine wpAnyH_ready (rs := [10]) (by kernel_rfl) (by simp) ?_
      refine AllReadyH.cons (o := ⟨_, _, _, _, _, _⟩) rfl (fun K' hK => ?_) AllReadyH.nil
      go_simp
      have gx' : g ≠ x := gx
      refine hK.out _ _ (by (try dsimp only); go_keep) (fun hHeld => ?_)
      clear hK K'
      try simp only [Act.put, List.setIfInBounds_toArray, List.set_cons_zero, List.set_cons_succ]
      refine wpAnyH_done (by kernel_rfl) ?_ _
      go_end0
      exact ⟨⟨_, rfl⟩, _, _, HT2.out⟩
    · go_simp
      refine hK.out _ _ (by (try dsimp only); go_keep) (fun hHeld => ?_)
      clear hK K'
      try simp only [Act.put, List.setIfInBounds_toArray, List.set_cons_zero, List.set_cons_succ]
      refine wpAnyH_ready (rs := [4]) (by kernel_rfl) (by simp) ?_
      refine AllReadyH.cons (o := ⟨_, _, _, _, _, _⟩) rfl (fun K' hK => ?_) AllReadyH.nil
      go_simp
      refine hK.out _ _ (by (try dsimp only); go_keep) (fun hHeld => ?_)
      clear hK K'
      try simp only [Act.put, List.setIfInBounds_toArray, List.set_cons_zero, List.set_cons_succ]
      refine wpAnyH_ready (rs := [7]) (by kernel_rfl) (by simp) ?_
      refine AllReadyH.cons (o := ⟨_, _, _, _, _, _⟩) rfl (fun K' hK => ?_) AllReadyH.nil
      refine step_append_at rfl (.tmp 26) (.tmp 28) 51 rfl base 80 (.agg #[.int .i64 0, .string ⟨#[]⟩, .slice none 0 0, .int .i64 0, .int .i64 0]) 5 64 Tryd.underlying51 Tryd.info80 rfl (by decide) _ _ _ rfl V2.out.on _ 1 _ (pcell l (sv l pa ca) k) rfl (by rw [HPc.out]; rfl) (.inr ⟨_, rfl, by rw [HPc.out]; exact NC.out⟩) P1.out (by unfold maxLen; omega) (by omega) V2.out.sz ?_
      intro v2 w2 ho hgr hat
      have T2 := V2.out.put ho hgr hat
      obtain ⟨av2, cv2, ev', _⟩ := own_len ho
      subst ev'
      have gan : ¬ (some g : Option Nat) = (Value.slice an k cn).ownBlock := fun e => HT1.out.an e.symm
      have xan : ¬ (some x : Option Nat) = (Value.slice an k cn).ownBlock := fun e => by have := HY.out x e.symm; omega
      have z0 := hgr.cell (a := ⟨g, 0, none⟩) (cells2 V2.out.box).1 gan
      have z1 := rowIs_frozen (grown_box V2.out.box hgr HT1.out.an) 0
      obtain ⟨t0, t1, t2, t3, t4, t5⟩ := cells5 (grown_box RZ.out hgr (fun e => xan e.symm))
      have HT2 := Hid.mk' T2
      clear ho hgr hat T2
      refine hK.out _ _ (by (try dsimp only); go_keep) (fun hHeld => ?_)
      clear hK K'
      try simp only [Act.put, List.setIfInBounds_toArray, List.set_cons_zero, List.set_cons_succ]
      refine wpAnyH_take (i := 8) (oi := ⟨_, _, _, _, _, _⟩) (v := ?_) rfl (by kernel_rfl) (by kernel_rfl) (by kernel_rfl) (fun _ _ _ h => h) (Or.inl ⟨by rfl, ?_⟩) (by assumption) ?_
      rotate_left
      · (intro w hSw; (try dsimp only at hSw); go_simp; (try with_reducible rfl))
      try simp only [Act.put, List.setIfInBounds_toArray, List.set_cons_zero, List.set_cons_succ]
      refine wpAnyH_take (i := 9) (oi := ⟨_, _, _, _, _, _⟩) (v := ?_) rfl (by kernel_rfl) (by kernel_rfl) (by kernel_rfl) (fun _ _ _ h => h) (Or.inl ⟨by rfl, ?_⟩) (by assumption) ?_
      rotate_left
      · (intro w hSw; (try dsimp only at hSw); go_simp; (try with_reducible rfl))
      try simp only [Act.put, List.setIfInBounds_toArray, List.set_cons_zero, List.set_cons_succ]
      refine wpAnyH_ready (rs := [10]) (by kernel_rfl) (by simp) ?_
      refine AllReadyH.cons (o := ⟨_, _, _, _, _, _⟩) rfl (fun K' hK => ?_) AllReadyH.nil
      go_simp
      have gx' : g ≠ x := gx
      refine hK.out _ _ (by (try dsimp only); go_keep) (fun hHeld => ?_)
      clear hK K'
      try simp only [Act.put, List.setIfInBounds_toArray, List.set_cons_zero, List.set_cons_succ]
      refine wpAnyH_done (by kernel_rfl) ?_ _
      go_end0
      exact ⟨⟨_, rfl⟩, _, _, HT2.out⟩
  · go_simp
    refine hK.out _ _ (by (try dsimp only); go_keep) (fun hHeld => ?_)
    clear hK K
    try simp only [Act.put, List.setIfInBounds_toArray, List.set_cons_zero, List.set_cons_succ]
    refine wpAnyH_ready (rs := [4]) (by kernel_rfl) (by simp) ?_
    refine AllReadyH.cons (o := ⟨_, _, _, _, _, _⟩) rfl (fun K hK => ?_) AllReadyH.nil
    go_simp
    refine hK.out _ _ (by (try dsimp only); go_keep) (fun hHeld => ?_)
    clear hK K
    try simp only [Act.put, List.setIfInBounds_toArray, List.set_cons_zero, List.set_cons_succ]
    refine wpAnyH_take (i := 8) (oi := ⟨_, _, _, _, _, _⟩) (v := ?_) rfl (by kernel_rfl) (by kernel_rfl) (by kernel_rfl) (fun _ _ _ h => h) (Or.inl ⟨by rfl, ?_⟩) (by assumption) ?_
    rotate_left
    · (intro w hSw; (try dsimp only at hSw); go_simp; (try with_reducible rfl))
    try simp only [Act.put, List.setIfInBounds_toArray, List.set_cons_zero, List.set_cons_succ]
    refine wpAnyH_ready (rs := [15]) (by kernel_rfl) (by simp) ?_
    refine AllReadyH.cons (o := ⟨_, _, _, _, _, _⟩) rfl (fun K hK => ?_) AllReadyH.nil
    refine step_append_at rfl (.tmp 12) (.tmp 18) 52 rfl base 2 (.int .i64 0) 1 8 Tryd.underlying52 Tryd.info2 rfl (by decide) _ _ _ rfl O1.out _ 1 _ (ics [(k : Int)]) rfl (by simp [ics]) (.inr ⟨_, rfl, NC.out⟩) (ics_one _) (by unfold maxLen; omega) (by omega) V1.out.sz ?_
    intro v' w1 ho hgr hat
    have T1 := V1.out.goOn DD.out D0.out ho hgr hat
    obtain ⟨av, cv, ev', _⟩ := own_len ho
    subst ev'
    have gbw : ¬ (some g : Option Nat) = some bw := fun e => HT.out.aw e.symm
    have xbw : ¬ (some x : Option Nat) = some bw := fun e => by have := HX.out bw rfl; cases e; omega
    have y0 := hgr.cell (a := ⟨g, 0, none⟩) (cells2 V1.out.box).1 gbw
    have y1 := hgr.cell (a := ⟨g, 1, none⟩) (cells2 V1.out.box).2.1 gbw
    have y2 := hgr.cell (a := ⟨x, 4, none⟩) (cells5 RV.out).2.2.2.2.1 xbw
    have y3 := (rowIs_frozen (grown_box (u := .slice (some ⟨bw, 0, none⟩) 0 0) V1.out.box hgr HT.out.aw) 1)
    have RX := Hid.mk' (grown_box (u := .slice (some ⟨bw, 0, none⟩) 0 0) RV.out hgr (fun e => xbw e.symm))
    have HT1 := Hid.mk' T1
    have sz1 := hgr.size
    clear ho hgr hat T1
    refine hK.out _ _ (by (try dsimp only); go_keep) (fun hHeld => ?_)
    clear hK K
    try simp only [Act.put, List.setIfInBounds_toArray, List.set_cons_zero, List.set_cons_succ]
    refine wpAnyH_take (i := 16) (oi := ⟨_, _, _, _, _, _⟩) (v := ?_) rfl (by kernel_rfl) (by kernel_rfl) (by kernel_rfl) (fun _ _ _ h => h) (Or.inl ⟨by rfl, ?_⟩) (by assumption) ?_
    rotate_left
    · (intro w hSw; (try dsimp only at hSw); go_simp; (try with_reducible rfl))
    try simp only [Act.put, List.setIfInBounds_toArray, List.set_cons_zero, List.set_cons_succ]
    refine wpAnyH_take (i := 17) (oi := ⟨_, _, _, _, _, _⟩) (v := ?_) rfl (by kernel_rfl) (by kernel_rfl) (by kernel_rfl) (fun _ _ _ h => h) (Or.inl ⟨by rfl, ?_⟩) (by assumption) ?_
    rotate_left
    · (intro w hSw; (try dsimp only at hSw); go_simp; (try with_reducible rfl))
    try simp only [Act.put, List.setIfInBounds_toArray, List.set_cons_zero, List.set_cons_succ]
    refine wpAnyH_ready (rs := [18]) (by kernel_rfl) (by simp) ?_
    refine AllReadyH.cons (o := ⟨_, _, _, _, _, _⟩) rfl (fun K hK => ?_) AllReadyH.nil
    go_simp
    refine hK.out _ _ ⟨by rw [World.cell?_setCell_other _ _ _ _ (by simp)]; exact y0, by rw [World.cell?_setCell_other _ _ _ _ (by simp)]; exact y2⟩ (fun hHeld => ?_)
    clear hK K
    try simp only [Act.put, List.setIfInBounds_toArray, List.set_cons_zero, List.set_cons_succ]
    refine wpAnyH_done (by kernel_rfl) ?_ _
    have RY := Hid.mk' (RX.out.setOther (a := ⟨g, 1, none⟩) (fun e => gx e.symm) (.slice av (d + 1 + 1) cv))
    clear RX y0 y1 y2 y3 hHeld
    generalize hZ : w1.setCell ⟨g, 1, none⟩ (.slice av (d + 1 + 1) cv) = Z at *
    go_wp2_with fail
    clear hZ
    obtain ⟨q0, q1, q2, q3, q4, q5⟩ := cells5 RY.out
    obtain ⟨b0, b1, b2⟩ := cells2 HT1.out.box
    have VB := below_new Z (.cells #[.int .i64 K, .string S, .slice p9 n9 c9, .int .i64 U, .int .i64 (d : Int)] 80)
    have V2 := Hid.mk' (HT1.out.below VB.drew)
    have RZ := Hid.mk' (rowB RY.out VB.drew)
    have NC := Hid.mk' (new_cells Z 80 [.int .i64 K, .string S, .slice p9 n9 c9, .int .i64 U, .int .i64 (d : Int)] Z.heap.size rfl)
    clear VB
    have xn0 := World.new_ne Z ⟨g, 0, none⟩ b0
    have xn1 := World.new_ne Z ⟨x, 4, none⟩ q4
    dsimp only at xn0 xn1
    refine wp_region_held_drew (S := fun w' => w'.cell? ⟨x, 0, none⟩ = some (.int .i64 K) ∧ w'.cell? ⟨x, 1, none⟩ = some (.string S) ∧ w'.cell? ⟨x, 2, none⟩ = some (.slice p9 n9 c9) ∧ w'.cell? ⟨x, 3, none⟩ = some (.int .i64 U) ∧ w'.cell? ⟨x, 4, none⟩ = some (.int .i64 (d : Int))) (by kernel_rfl) (by simp [*]) (fun hHeld => ?_)
    refine wpAnyH_take (i := 0) (oi := ⟨_, _, _, _, _, _⟩) (v := ?_) rfl (by kernel_rfl) (by kernel_rfl) (by kernel_rfl) (fun _ _ _ h => h) (Or.inl ⟨by rfl, ?_⟩) (by assumption) ?_
    rotate_left
    · (intro w hSw; (try dsimp only at hSw); go_simp; (try with_reducible rfl))
    try simp only [Act.put, List.setIfInBounds_toArray, List.set_cons_zero, List.set_cons_succ]
    refine wpAnyH_take (i := 1) (oi := ⟨_, _, _, _, _, _⟩) (v := ?_) rfl (by kernel_rfl) (by kernel_rfl) (by kernel_rfl) (fun _ _ _ h => h) (Or.inl ⟨by rfl, ?_⟩) (by assumption) ?_
    rotate_left
    · (intro w hSw; (try dsimp only at hSw); go_simp; (try with_reducible rfl))
    try simp only [Act.put, List.setIfInBounds_toArray, List.set_cons_zero, List.set_cons_succ]
    refine wpAnyH_take (i := 2) (oi := ⟨_, _, _, _, _, _⟩) (v := ?_) rfl (by kernel_rfl) (by kernel_rfl) (by kernel_rfl) (fun _ _ _ h => h) (Or.inl ⟨by rfl, ?_⟩) (by assumption) ?_
    rotate_left
    · (intro w hSw; (try dsimp only at hSw); go_simp; (try with_reducible rfl))
    try simp only [Act.put, List.setIfInBounds_toArray, List.set_cons_zero, List.set_cons_succ]
    refine wpAnyH_take (i := 3) (oi := ⟨_, _, _, _, _, _⟩) (v := ?_) rfl (by kernel_rfl) (by kernel_rfl) (by kernel_rfl) (fun _ _ _ h => h) (Or.inl ⟨by rfl, ?_⟩) (by assumption) ?_
    rotate_left
    · (intro w hSw; (try dsimp only at hSw); go_simp; (try with_reducible rfl))
    try simp only [Act.put, List.setIfInBounds_toArray, List.set_cons_zero, List.set_cons_succ]
    refine wpAnyH_take (i := 5) (oi := ⟨_, _, _, _, _, _⟩) (v := ?_) rfl (by kernel_rfl) (by kernel_rfl) (by kernel_rfl) (fun _ _ _ h => h) (Or.inl ⟨by rfl, ?_⟩) (by assumption) ?_
    rotate_left
    · (intro w hSw; (try dsimp only at hSw); go_simp; (try with_reducible rfl))
    try simp only [Act.put, List.setIfInBounds_toArray, List.set_cons_zero, List.set_cons_succ]
    refine wpAnyH_ready (rs := [4, 6]) (by kernel_rfl) (by simp) ?_
    refine AllReadyH.cons (o := ⟨_, _, _, _, _, _⟩) rfl (fun K' hK => ?_) (AllReadyH.cons (o := ⟨_, _, _, _, _, _⟩) rfl (fun K' hK => ?_) AllReadyH.nil)
    · go_simp
      refine hK.out _ _ (by (try dsimp only); go_keep) (fun hHeld => ?_)
      clear hK K'
      try simp only [Act.put, List.setIfInBounds_toArray, List.set_cons_zero, List.set_cons_succ]
      refine wpAnyH_ready (rs := [6]) (by kernel_rfl) (by simp) ?_
      refine AllReadyH.cons (o := ⟨_, _, _, _, _, _⟩) rfl (fun K' hK => ?_) AllReadyH.nil
      go_simp
      refine hK.out _ _ (by (try dsimp only); go_keep) (fun hHeld => ?_)
      clear hK K'
      try simp only [Act.put, List.setIfInBounds_toArray, List.set_cons_zero, List.set_cons_succ]
      refine wpAnyH_ready (rs := [7]) (by kernel_rfl) (by simp) ?_
      refine AllReadyH.cons (o := ⟨_, _, _, _, _, _⟩) rfl (fun K' hK => ?_) AllReadyH.nil
      refine step_append_at rfl (.tmp 26) (.tmp 28) 51 rfl base 80 (.agg #[.int .i64 0, .string ⟨#[]⟩, .slice none 0 0, .int .i64 0, .int .i64 0]) 5 64 Tryd.underlying51 Tryd.info80 rfl (by decide) _ _ _ rfl V2.out.on _ 1 _ (pcell l (sv l pa ca) k) rfl (by rw [HPc.out]; rfl) (.inr ⟨_, rfl, by rw [HPc.out]; exact NC.out⟩) P1.out (by unfold maxLen; omega) (by omega) V2.out.sz ?_
      intro v2 w2 ho hgr hat
      have T2 := V2.out.put ho hgr hat
      obtain ⟨av2, cv2, ev', _⟩ := own_len ho
      subst ev'
      have gan : ¬ (some g : Option Nat) = (Value.slice an k cn).ownBlock := fun e => HT1.out.an e.symm
      have xan : ¬ (some x : Option Nat) = (Value.slice an k cn).ownBlock := fun e => by have := HY.out x e.symm; omega
      have z0 := hgr.cell (a := ⟨g, 0, none⟩) (cells2 V2.out.box).1 gan
      have z1 := rowIs_frozen (grown_box V2.out.box hgr HT1.out.an) 0
      obtain ⟨t0, t1, t2, t3, t4, t5⟩ := cells5 (grown_box RZ.out hgr (fun e => xan e.symm))
      have HT2 := Hid.mk' T2
      clear ho hgr hat T2
      refine hK.out _ _ (by (try dsimp only); go_keep) (fun hHeld => ?_)
      clear hK K'
      try simp only [Act.put, List.setIfInBounds_toArray, List.set_cons_zero, List.set_cons_succ]
      refine wpAnyH_take (i := 8) (oi := ⟨_, _, _, _, _, _⟩) (v := ?_) rfl (by kernel_rfl) (by kernel_rfl) (by kernel_rfl) (fun _ _ _ h => h) (Or.inl ⟨by rfl, ?_⟩) (by assumption) ?_
      rotate_left
      · (intro w hSw; (try dsimp only at hSw); go_simp; (try with_reducible rfl))
      try simp only [Act.put, List.setIfInBounds_toArray, List.set_cons_zero, List.set_cons_succ]
      refine wpAnyH_take (i := 9) (oi := ⟨_, _, _, _, _, _⟩) (v := ?_) rfl (by kernel_rfl) (by kernel_rfl) (by kernel_rfl) (fun _ _ _ h => h) (Or.inl ⟨by rfl, ?_⟩) (by assumption) ?_
      rotate_left
      · (intro w hSw; (try dsimp only at hSw); go_simp; (try with_reducible rfl))
      try simp only [Act.put, List.setIfInBounds_toArray, List.set_cons_zero, List.set_cons_succ]
      refine wpAnyH_ready (rs := [10]) (by kernel_rfl) (by simp) ?_
      refine AllReadyH.cons (o := ⟨_, _, _, _, _, _⟩) rfl (fun K' hK => ?_) AllReadyH.nil
      go_simp
      have gx' : g ≠ x := gx
      refine hK.out _ _ (by (try dsimp only); go_keep) (fun hHeld => ?_)
      clear hK K'
      try simp only [Act.put, List.setIfInBounds_toArray, List.set_cons_zero, List.set_cons_succ]
      refine wpAnyH_done (by kernel_rfl) ?_ _
      go_end0
      exact ⟨⟨_, rfl⟩, _, _, HT2.out⟩
    · go_simp
      refine hK.out _ _ (by (try dsimp only); go_keep) (fun hHeld => ?_)
      clear hK K'
      try simp only [Act.put, List.setIfInBounds_toArray, List.set_cons_zero, List.set_cons_succ]
      refine wpAnyH_ready (rs := [4]) (by kernel_rfl) (by simp) ?_
      refine AllReadyH.cons (o := ⟨_, _, _, _, _, _⟩) rfl (fun K' hK => ?_) AllReadyH.nil
      go_simp
      refine hK.out _ _ (by (try dsimp only); go_keep) (fun hHeld => ?_)
      clear hK K'
      try simp only [Act.put, List.setIfInBounds_toArray, List.set_cons_zero, List.set_cons_succ]
      refine wpAnyH_ready (rs := [7]) (by kernel_rfl) (by simp) ?_
      refine AllReadyH.cons (o := ⟨_, _, _, _, _, _⟩) rfl (fun K' hK => ?_) AllReadyH.nil
      refine step_append_at rfl (.tmp 26) (.tmp 28) 51 rfl base 80 (.agg #[.int .i64 0, .string ⟨#[]⟩, .slice none 0 0, .int .i64 0, .int .i64 0]) 5 64 Tryd.underlying51 Tryd.info80 rfl (by decide) _ _ _ rfl V2.out.on _ 1 _ (pcell l (sv l pa ca) k) rfl (by rw [HPc.out]; rfl) (.inr ⟨_, rfl, by rw [HPc.out]; exact NC.out⟩) P1.out (by unfold maxLen; omega) (by omega) V2.out.sz ?_
      intro v2 w2 ho hgr hat
      have T2 := V2.out.put ho hgr hat
      obtain ⟨av2, cv2, ev', _⟩ := own_len ho
      subst ev'
      have gan : ¬ (some g : Option Nat) = (Value.slice an k cn).ownBlock := fun e => HT1.out.an e.symm
      have xan : ¬ (some x : Option Nat) = (Value.slice an k cn).ownBlock := fun e => by have := HY.out x e.symm; omega
      have z0 := hgr.cell (a := ⟨g, 0, none⟩) (cells2 V2.out.box).1 gan
      have z1 := rowIs_frozen (grown_box V2.out.box hgr HT1.out.an) 0
      obtain ⟨t0, t1, t2, t3, t4, t5⟩ := cells5 (grown_box RZ.out hgr (fun e => xan e.symm))
      have HT2 := Hid.mk' T2
      clear ho hgr hat T2
      refine hK.out _ _ (by (try dsimp only); go_keep) (fun hHeld => ?_)
      clear hK K'
      try simp only [Act.put, List.setIfInBounds_toArray, List.set_cons_zero, List.set_cons_succ]
      refine wpAnyH_take (i := 8) (oi := ⟨_, _, _, _, _, _⟩) (v := ?_) rfl (by kernel_rfl) (by kernel_rfl) (by kernel_rfl) (fun _ _ _ h => h) (Or.inl ⟨by rfl, ?_⟩) (by assumption) ?_
      rotate_left
      · (intro w hSw; (try dsimp only at hSw); go_simp; (try with_reducible rfl))
      try simp only [Act.put, List.setIfInBounds_toArray, List.set_cons_zero, List.set_cons_succ]
      refine wpAnyH_take (i := 9) (oi := ⟨_, _, _, _, _, _⟩) (v := ?_) rfl (by kernel_rfl) (by kernel_rfl) (by kernel_rfl) (fun _ _ _ h => h) (Or.inl ⟨by rfl, ?_⟩) (by assumption) ?_
      rotate_left
      · (intro w hSw; (try dsimp only at hSw); go_simp; (try with_reducible rfl))
      try simp only [Act.put, List.setIfInBounds_toArray, List.set_cons_zero, List.set_cons_succ]
      refine wpAnyH_ready (rs := [10]) (by kernel_rfl) (by simp) ?_
      refine AllReadyH.cons (o := ⟨_, _, _, _, _, _⟩) rfl (fun K' hK => ?_) AllReadyH.nil
      go_simp
      have gx' : g ≠ x := gx
      refine hK.out _ _ (by (try dsimp only); go_keep) (fun hHeld => ?_)
      clear hK K'
      try simp only [Act.put, List.setIfInBounds_toArray, List.set_cons_zero, List.set_cons_succ]
      refine wpAnyH_done (by kernel_rfl) ?_ _
      go_end0
      exact ⟨⟨_, rfl⟩, _, _, HT2.out⟩

end Go.Proofs.YtcjnfodkppcpoaaDoor
