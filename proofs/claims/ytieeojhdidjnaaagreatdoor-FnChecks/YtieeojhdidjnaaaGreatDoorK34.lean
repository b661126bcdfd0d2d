/- A memo copied. -/
import Derived.Test.YtieeojhdidjnaaaGreatDoorK33
set_option linter.unusedVariables false
set_option linter.unusedSimpArgs false
namespace Go.Proofs.YtieeojhdidjnaaaGreatDoor
open Go.RowKit

def IV (lo hi : Nat) (w : World) (F : World → Prop) : Prop := hi ≤ w.heap.size ∧ ∀ z : World, w.heap.size ≤ z.heap.size → (∀ q, lo ≤ q → q < hi → z.heap[q]? = w.heap[q]?) → F z

theorem IV.below {lo hi : Nat} {w w' : World} {F : World → Prop} (h : IV lo hi w F) (hb : Below w.heap.size w w') : IV lo hi w' F :=
  ⟨Nat.le_trans h.1 hb.size, fun z hz hk => h.2 z (Nat.le_trans hb.size hz) (fun q a b => (hk q a b).trans (hb.block q (Nat.lt_of_lt_of_le b h.1)))⟩

theorem IV.row {lo hi g : Nat} {w : World} {F : World → Prop} (h : IV lo hi w F) (hg : g < lo ∨ hi ≤ g) (cs : Array Value) : IV lo hi (w.setRow g cs) F :=
  ⟨by rw [setRow_size]; exact h.1, fun z hz hk => h.2 z (by rw [setRow_size] at hz; exact hz) (fun q a b => (hk q a b).trans (setRow_other w g q cs (by omega)))⟩

theorem IV.bytes {lo : Nat} {w : World} {p : Option Addr} {l : List Int} {n : Nat} (h : w.ownsRow lo 5 1 (.slice p l.length n) l.length (bcs l)) : IV lo w.heap.size w (fun z => BAt z p l) :=
  ⟨Nat.le_refl _, fun z hz hk => own_batp (own_of h (Nat.le_refl _) (fun q e _ => hk q (h.lt q e).1 (h.lt q e).2))⟩

theorem IV.toks {lo : Nat} {w : World} {p : Option Addr} {l : List TK} {n : Nat} {us : List Value} (h : TokS lo w (.slice p l.length n) l us) : IV lo w.heap.size w (fun z => TsAt z p l) :=
  ⟨Nat.le_refl _, fun z hz hk => by
    obtain ⟨a, c, e, ht⟩ := (h.keep hz hk).tsAt
    injection e with e1 _ _
    rw [e1]; exact ht⟩

def kV (cs : List CK) (hs : Nat → Value) (i : Nat) : Value := if i % 3 = 0 then .int .i64 (ckK cs (i / 3)).pl else if i % 3 = 1 then .int .i64 (ckK cs (i / 3)).ct else hs (i / 3)
def kvs (cs : List CK) (hs : Nat → Value) (c : Nat) : List Value := (List.range (c * 3)).map (kV cs hs)
theorem kvs_len (cs : List CK) (hs : Nat → Value) (c : Nat) : (kvs cs hs c).length = c * 3 := by simp [kvs]
theorem kvs_at (cs : List CK) (hs : Nat → Value) (c i : Nat) (h : i < c * 3) : (kvs cs hs c)[i]? = some (kV cs hs i) := by simp [kvs, h]
theorem kvs_succ (cs : List CK) (hs : Nat → Value) (c : Nat) (v : Value) : kvs cs hs c ++ [.int .i64 (ckK cs c).pl, .int .i64 (ckK cs c).ct, v] = kvs cs (fun i => if i = c then v else hs i) (c + 1) := by
  apply List.ext_getElem?
  intro i
  by_cases h : i < c * 3
  · rw [List.getElem?_append_left (by rw [kvs_len]; exact h), kvs_at _ _ _ _ h, kvs_at _ _ _ _ (by omega)]
    unfold kV
    dsimp only
    rw [if_neg (show ¬ i / 3 = c by omega)]
  · rw [List.getElem?_append_right (by rw [kvs_len]; omega), kvs_len]
    by_cases h2 : i < (c + 1) * 3
    · rw [kvs_at _ _ _ _ h2]
      have e : i = c * 3 ∨ i = c * 3 + 1 ∨ i = c * 3 + 2 := by omega
      unfold kV
      rcases e with rfl | rfl | rfl
      · rw [show c * 3 - c * 3 = 0 by omega, show c * 3 / 3 = c by omega, show c * 3 % 3 = 0 by omega]; rfl
      · rw [show c * 3 + 1 - c * 3 = 1 by omega, show (c * 3 + 1) / 3 = c by omega, show (c * 3 + 1) % 3 = 1 by omega]; rfl
      · rw [show c * 3 + 2 - c * 3 = 2 by omega, show (c * 3 + 2) / 3 = c by omega, show (c * 3 + 2) % 3 = 2 by omega]
        dsimp only
        rw [if_pos rfl]; rfl
    · rw [List.getElem?_eq_none (by simp; omega), List.getElem?_eq_none (by rw [kvs_len]; omega)]

structure KS (cs : List CK) (k U : Nat) (vc : Value) (hs : Nat → Value) (w : World) : Prop where
  row : w.ownsRow U 31 3 vc k (kvs cs hs k)
  hel : ∀ i, i < k → w.ownsRow U 5 1 (hs i) (ckK cs i).hd.length (bcs (ckK cs i).hd) ∧ ∀ q, (hs i).ownBlock = some q → vc.ownBlock ≠ some q

theorem KS.keep {cs : List CK} {k U : Nat} {vc : Value} {hs : Nat → Value} {w w' : World} (h : KS cs k U vc hs w) (hk : ∀ q, U ≤ q → q < w.heap.size → w'.heap[q]? = w.heap[q]?) : KS cs k U vc hs w' :=
  ⟨own_of h.row (Nat.le_refl _) (fun q e _ => hk q (h.row.lt q e).1 (h.row.lt q e).2), fun i hi => ⟨own_of (h.hel i hi).1 (Nat.le_refl _) (fun q e _ => hk q ((h.hel i hi).1.lt q e).1 ((h.hel i hi).1.lt q e).2), (h.hel i hi).2⟩⟩

theorem KS.app {cs : List CK} {k U : Nat} {vc v vc' : Value} {hs : Nat → Value} {w w2 w3 : World} (h : KS cs k U vc hs w) (hb : Below w.heap.size w w2) (hU : U ≤ w.heap.size) (hv : w2.ownsRow w.heap.size 5 1 v (ckK cs k).hd.length (bcs (ckK cs k).hd))
    (ho : w3.ownsRow U 31 3 vc' (k + 1) (kvs cs hs k ++ [.int .i64 (ckK cs k).pl, .int .i64 (ckK cs k).ct, v])) (hg : w2.grownBy w3 vc.ownBlock) (hat : vc'.ownBlock = vc.ownBlock ∨ vc'.ownBlock = some w2.heap.size) : KS cs (k + 1) U vc' (fun i => if i = k then v else hs i) w3 := by
  refine ⟨by rw [← kvs_succ]; exact ho, fun i hi => ?_⟩
  by_cases e : i = k
  · subst e
    (try dsimp only)
    rw [if_pos rfl]
    refine ⟨own_of hv hU (fun q e _ => hg.block q (hv.lt q e).2 (fun e2 => ?_)), fun q e e2 => ?_⟩
    · have := (h.row.lt q e2.symm).2; have := (hv.lt q e).1; omega
    · have := hv.lt q e
      rcases hat with ha | ha
      · rw [ha] at e2; have := (h.row.lt q e2).2; omega
      · rw [ha] at e2; injection e2 with e2; omega
  · (try dsimp only)
    rw [if_neg e]
    obtain ⟨h1, h2⟩ := h.hel i (by omega)
    refine ⟨own_of h1 (Nat.le_refl _) (fun q e _ => (hg.block q (Nat.lt_of_lt_of_le (h1.lt q e).2 hb.size) (fun e2 => h2 q e e2.symm)).trans (hb.block q (h1.lt q e).2)), fun q e e2 => ?_⟩
    rcases hat with ha | ha
    · rw [ha] at e2; exact h2 q e e2
    · rw [ha] at e2; injection e2 with e2; have := (h1.lt q e).2; have := hb.size; omega

theorem KS.csAt {cs : List CK} {U : Nat} {p : Option Addr} {n : Nat} {hs : Nat → Value} {w : World} (h : KS cs cs.length U (.slice p cs.length n) hs w) : CsAt w p cs := by
  rcases h.row.2 with ⟨e0, h0⟩ | ⟨g, cap, cur, e0, hg, hh0, hc, hm, hs', ht⟩
  · exact .inl (List.eq_nil_of_length_eq_zero h0)
  · injection e0 with e0 _ _
    have glt : g < w.heap.size := (Array.getElem?_eq_some_iff.1 hh0).1
    have cell : ∀ i, i < cs.length * 3 → w.cell? ⟨g, i, none⟩ = some (kV cs hs i) := fun i hi => by
      rw [Lib.cell_of_heap hh0]
      have := kvs_at cs hs cs.length i hi
      rw [← ht, List.getElem?_take_of_lt hi] at this
      simpa using this
    refine .inr ⟨g, 0, e0, glt, fun k hk => ?_⟩
    have v0 := cell (k * 3) (by omega)
    have v1 := cell (k * 3 + 1) (by omega)
    have v2 := cell (k * 3 + 2) (by omega)
    unfold kV at v0 v1 v2
    rw [show k * 3 / 3 = k by omega, show k * 3 % 3 = 0 by omega] at v0
    rw [show (k * 3 + 1) / 3 = k by omega, show (k * 3 + 1) % 3 = 1 by omega] at v1
    rw [show (k * 3 + 2) / 3 = k by omega, show (k * 3 + 2) % 3 = 2 by omega] at v2
    obtain ⟨p1, q1, e1⟩ := own_form (h.hel k hk).1
    have h1 := (h.hel k hk).1
    rw [e1] at h1
    refine ⟨by rw [Nat.zero_add]; exact v0, by rw [Nat.zero_add]; exact v1, p1, q1, ?_, own_batp h1⟩
    rw [Nat.zero_add, v2, ← e1]
    rfl

structure CP (lo : Nat) (m : ME) (a t u c : Option Addr) (cu : Nat) (w : World) : Prop where
  hd : w.ownsRow lo 5 1 (.slice u m.hd.length cu) m.hd.length (bcs m.hd)
  rest : ∀ z : World, w.heap.size ≤ z.heap.size → (∀ q, lo ≤ q → q < w.heap.size → (Value.slice u m.hd.length cu).ownBlock ≠ some q → z.heap[q]? = w.heap[q]?) → BAt z a m.dt ∧ TsAt z t m.tk ∧ CsAt z c m.cs

theorem cp_end {lo d0 d1 t0 t1 h0 h1 ob g : Nat} {m : ME} {U wr : World} {pd pt ph pc : Option Addr} {qh qc : Nat} {hs : Nat → Value} (hD : IV d0 d1 U (fun z => BAt z pd m.dt)) (hT : IV t0 t1 U (fun z => TsAt z pt m.tk)) (hH : U.ownsRow h0 5 1 (.slice ph m.hd.length qh) m.hd.length (bcs m.hd))
    (hh : ∀ q, (Value.slice ph m.hd.length qh).ownBlock = some q → q < h1) (o0 : d0 ≤ d1) (o1 : d1 ≤ t0) (o2 : t0 ≤ t1) (o3 : t1 ≤ h0) (o4 : h0 ≤ h1) (o5 : h1 ≤ U.heap.size) (od : ob < d0 ∨ d1 ≤ ob) (ot : ob < t0 ∨ t1 ≤ ob) (oh : ob < h0 ∨ h1 ≤ ob) (ou : ob < U.heap.size) (hg : g < d0) (hl : lo ≤ g)
    (hK : KeptIn ob (ob + 1) U wr) (hS : KS m.cs m.cs.length U.heap.size (.slice pc m.cs.length qc) hs wr) (cells : Array Value) : CP lo m pd pt ph pc qh (wr.setRow g cells) := by
  have us := hK.size
  have kk : ∀ q, q < U.heap.size → q ≠ g → q ≠ ob → (wr.setRow g cells).heap[q]? = U.heap[q]? := fun q h1 h2 h3 => (setRow_other wr g q cells h2).trans (hK.block q h1 (by omega))
  refine ⟨own_of hH (by omega) (fun q e hq => kk q (hH.lt q e).2 (by omega) (by have := hh q e; omega)), fun z hz hzk => ?_⟩
  rw [setRow_size] at hz hzk
  refine ⟨hD.2 z (Nat.le_trans us hz) (fun q a b => (hzk q (by omega) (by omega) (fun e => by have := (hH.lt q e).1; omega)).trans (kk q (by omega) (by omega) (by omega))), hT.2 z (Nat.le_trans us hz) (fun q a b => (hzk q (by omega) (by omega) (fun e => by have := (hH.lt q e).1; omega)).trans (kk q (by omega) (by omega) (by omega))), ?_⟩
  exact (hS.keep (w' := z) (fun q a b => (hzk q (by omega) b (fun e => by have := hh q e; omega)).trans (setRow_other wr g q cells (by omega)))).csAt

theorem csz_ck (l : List CK) (k : Nat) (hk : k < l.length) : (ckK l k).hd.length ≤ csz l := by
  have h1 := csz_take l k hk
  have h2 := csz_le l (k + 1)
  omega

theorem twoM (w : World) (c1 c2 : Array Value) :
    Below w.heap.size w ((w.alloc (.cells c1 27)).alloc (.cells c2 27)) ∧
    RowA ((w.alloc (.cells c1 27)).alloc (.cells c2 27)) w.heap.size 27 c1 ∧
    RowA ((w.alloc (.cells c1 27)).alloc (.cells c2 27)) (w.heap.size + 1) 27 c2 := by
  have a1 := RowA.new w 27 c1
  have a2 := RowA.new (w.alloc (.cells c1 27)) 27 c2
  have b1 := below_new (w.alloc (.cells c1 27)) (.cells c2 27)
  have e1 : (w.alloc (.cells c1 27)).heap.size = w.heap.size + 1 := by simp
  rw [e1] at a2
  have b0 := below_new w (.cells c1 27)
  exact ⟨b0.trans (b1.mono b0.size), a1.below b1, a2⟩

def CpP (m : ME) (w : World) (e : Ending) (w' : World) : Prop :=
  ∃ (pd pt ph pc : Option Addr) (qd qt qh qc : Nat), e = .returned (.agg #[.slice pd m.dt.length qd, .int .i64 m.st, .slice pt m.tk.length qt, .slice ph m.hd.length qh, .slice pc m.cs.length qc]) ∧ CP w.heap.size m pd pt ph pc qh w' ∧ Below w.heap.size w w'

set_option maxRecDepth 100000 in
set_option maxHeartbeats 6400000 in
theorem l12Copy_any (m : ME) (a t u c : Option Addr) (ca ct cu cc : Nat) (w : World) (hm : MAt w a t u c m) (hz : (msz m : Int) ≤ 400000) :
    Calls Tryz.prog 44 #[.agg #[.slice a m.dt.length ca, .int .i64 m.st, .slice t m.tk.length ct, .slice u m.hd.length cu, .slice c m.cs.length cc]] w fun e w' => CpP m w e w' := by
  obtain ⟨B0, R0, Z0⟩ := twoM w #[.slice a m.dt.length ca, .int .i64 m.st, .slice t m.tk.length ct, .slice u m.hd.length cu, .slice c m.cs.length cc] #[.slice none 0 0, .int .i64 0, .slice none 0 0, .slice none 0 0, .slice none 0 0]
  have HM := Hid.mk' hm
  have HB := Hid.mk' B0
  have HR := Hid.mk' R0
  have HZ := Hid.mk' Z0
  have hz1 : (m.dt.length : Int) ≤ 1048576 := by unfold msz at hz; omega
  have hz2 : (m.tk.length : Int) + tssz m.tk ≤ 1048576 := by unfold msz at hz; omega
  have hz3 : (m.hd.length : Int) ≤ 1048576 := by unfold msz at hz; omega
  have hz4 : m.cs.length ≤ 1000000 := by unfold msz at hz; omega
  have hz5 : Hid (∀ k, k < m.cs.length → ((ckK m.cs k).hd.length : Int) ≤ 1048576) := Hid.mk' (fun k hk => by have := csz_ck m.cs k hk; unfold msz at hz; omega)
  clear B0 R0 Z0 hm hz
  generalize hW : (w.alloc (.cells #[.slice a m.dt.length ca, .int .i64 m.st, .slice t m.tk.length ct, .slice u m.hd.length cu, .slice c m.cs.length cc] 27)).alloc (.cells #[.slice none 0 0, .int .i64 0, .slice none 0 0, .slice none 0 0, .slice none 0 0] 27) = W at *
  have SE : Hid (Below w.heap.size w W.drew ∧ RowA W.drew w.heap.size 27 #[.slice a m.dt.length ca, .int .i64 m.st, .slice t m.tk.length ct, .slice u m.hd.length cu, .slice c m.cs.length cc] ∧ RowA W.drew (w.heap.size + 1) 27 #[.slice none 0 0, .int .i64 0, .slice none 0 0, .slice none 0 0, .slice none 0 0]) := Hid.mk' ⟨HB.out.drew, HR.out, HZ.out⟩
  go_enter Tryz.func44, Tryz.ntmps44
  go_wp2_with fail
  clear hW HB HR HZ
  generalize hVd : W.drew = V at *
  have HB := Hid.mk' SE.out.1
  have HR := Hid.mk' SE.out.2.1
  have HZ := Hid.mk' SE.out.2.2
  have MX : Hid (∀ v, Below V.heap.size V v → MAt v a t u c m) := Hid.mk' (fun v hb => HM.out.below (HB.out.trans (hb.mono HB.out.size)))
  have RX : Hid (∀ v, Below V.heap.size V v → RowA v w.heap.size 27 #[.slice a m.dt.length ca, .int .i64 m.st, .slice t m.tk.length ct, .slice u m.hd.length cu, .slice c m.cs.length cc]) := Hid.mk' (fun v hb => HR.out.below hb)
  have VW : Hid (w.heap.size + 1 < V.heap.size) := Hid.mk' HZ.out.lt
  have HCE : Hid (∀ v, Below V.heap.size V v → (fun v => v.cell? ⟨w.heap.size, 0, none⟩ = some (.slice a m.dt.length ca) ∧ v.cell? ⟨w.heap.size, 1, none⟩ = some (.int .i64 m.st) ∧ v.cell? ⟨w.heap.size, 2, none⟩ = some (.slice t m.tk.length ct) ∧ v.cell? ⟨w.heap.size, 3, none⟩ = some (.slice u m.hd.length cu)) v) := Hid.mk' (fun v hb => ⟨(RX.out v hb).cell 0 _ rfl, (RX.out v hb).cell 1 _ rfl, (RX.out v hb).cell 2 _ rfl, (RX.out v hb).cell 3 _ rfl⟩)
  clear SE HM
  refine wp_region_held_drew (S := (fun v => v.cell? ⟨w.heap.size, 0, none⟩ = some (.slice a m.dt.length ca) ∧ v.cell? ⟨w.heap.size, 1, none⟩ = some (.int .i64 m.st) ∧ v.cell? ⟨w.heap.size, 2, none⟩ = some (.slice t m.tk.length ct) ∧ v.cell? ⟨w.heap.size, 3, none⟩ = some (.slice u m.hd.length cu))) (by kernel_rfl) (by rw [hVd]; exact HCE.out _ (Below.refl _ _)) (fun hHeld => ?_)
  rw [hVd] at hHeld ⊢
  clear hVd
  have BB := Hid.mk' (Below.refl V.heap.size V)
  refine tkY 0 ?_
  refine tkY 1 ?_
  refine tkY 3 ?_
  refine tkY 4 ?_
  refine tkY 5 ?_
  refine tkY 6 ?_
  refine tkY 8 ?_
  refine tkY 9 ?_
  refine wpAnyH_ready (rs := [2, 12]) (by kernel_rfl) (by simp) ?_
  refine AllReadyH.cons (o := ⟨_, _, _, _, _, _⟩) rfl (fun K9 hK => ?_) (AllReadyH.cons (o := ⟨_, _, _, _, _, _⟩) rfl (fun K9 hK => ?_) AllReadyH.nil)
  · go_simp
    refine (l1Copy_own a ca m.dt _ (MX.out _ BB.out).1 hz1).mono ?_
    rintro e1 v1 ⟨vd, rfl, hu, hb⟩
    obtain ⟨pd, qd, rfl⟩ := own_form hu
    have ID := Hid.mk' (IV.bytes hu)
    have OD : Hid (V.heap.size ≤ V.heap.size ∧ V.heap.size ≤ v1.heap.size) := Hid.mk' ⟨BB.out.size, hb.size⟩
    have ED : Hid (v1.heap.size ≤ v1.heap.size) := Hid.mk' (Nat.le_refl _)
    have BB := Hid.mk' (BB.out.trans (hb.mono BB.out.size))
    clear hu hb
    refine hK.out _ _ (HCE.out _ BB.out) (fun hHeld => ?_)
    clear hK K9
    try simp only [Act.put, zA, zB, zC]
    refine wpAnyH_ready (rs := [7, 12]) (by kernel_rfl) (by simp) ?_
    refine AllReadyH.cons (o := ⟨_, _, _, _, _, _⟩) rfl (fun K9 hK => ?_) (AllReadyH.cons (o := ⟨_, _, _, _, _, _⟩) rfl (fun K9 hK => ?_) AllReadyH.nil)
    · go_simp
      refine (l4Copy_any t ct m.tk _ (MX.out _ BB.out).2.1 hz2).mono ?_
      rintro e1 v2 ⟨vt, us, rfl, hu, hb⟩
      obtain ⟨pt, qt, rfl⟩ := own_form hu.row
      have ID := Hid.mk' (ID.out.below hb)
      have IT := Hid.mk' (IV.toks hu)
      have OT : Hid (v1.heap.size ≤ v1.heap.size ∧ v1.heap.size ≤ v2.heap.size) := Hid.mk' ⟨ED.out, hb.size⟩
      have ED := Hid.mk' (Nat.le_trans ED.out hb.size)
      have ET : Hid (v2.heap.size ≤ v2.heap.size) := Hid.mk' (Nat.le_refl _)
      have BB := Hid.mk' (BB.out.trans (hb.mono BB.out.size))
      clear hu hb
      refine hK.out _ _ (HCE.out _ BB.out) (fun hHeld => ?_)
      clear hK K9
      try simp only [Act.put, zA, zB, zC]
      refine wpAnyH_ready (rs := [10, 12]) (by kernel_rfl) (by simp) ?_
      refine AllReadyH.cons (o := ⟨_, _, _, _, _, _⟩) rfl (fun K9 hK => ?_) (AllReadyH.cons (o := ⟨_, _, _, _, _, _⟩) rfl (fun K9 hK => ?_) AllReadyH.nil)
      · go_simp
        refine (l1Copy_own u cu m.hd _ (MX.out _ BB.out).2.2.1 hz3).mono ?_
        rintro e1 v3 ⟨vh, rfl, hu, hb⟩
        obtain ⟨ph, qh, rfl⟩ := own_form hu
        have ID := Hid.mk' (ID.out.below hb)
        have IT := Hid.mk' (IT.out.below hb)
        have IH := Hid.mk' hu
        have LH : Hid (∀ q, (Value.slice ph m.hd.length qh).ownBlock = some q → q < v3.heap.size) := Hid.mk' (fun q e => (hu.lt q e).2)
        have OH : Hid (v2.heap.size ≤ v2.heap.size ∧ v2.heap.size ≤ v3.heap.size) := Hid.mk' ⟨ET.out, hb.size⟩
        have ED := Hid.mk' (Nat.le_trans ED.out hb.size)
        have ET := Hid.mk' (Nat.le_trans ET.out hb.size)
        have EH : Hid (v3.heap.size ≤ v3.heap.size) := Hid.mk' (Nat.le_refl _)
        have BB := Hid.mk' (BB.out.trans (hb.mono BB.out.size))
        clear hu hb
        refine hK.out _ _ (HCE.out _ BB.out) (fun hHeld => ?_)
        clear hK K9
        try simp only [Act.put, zA, zB, zC]
        refine tkY 11 ?_
        refine wpAnyH_ready (rs := [12]) (by kernel_rfl) (by simp) ?_
        refine AllReadyH.cons (o := ⟨_, _, _, _, _, _⟩) rfl (fun K9 hK => ?_) AllReadyH.nil
        go_simp
        have hb := below_new v3 (.cells #[.slice none 0 0, .int .i64 0, .slice none 0 0, .slice none 0 0, .slice none 0 0] 27)
        have BX : Hid (V.heap.size ≤ v3.heap.size) := Hid.mk' BB.out.size
        have FX := Hid.mk' (RowA.new v3 27 #[.slice none 0 0, .int .i64 0, .slice none 0 0, .slice none 0 0, .slice none 0 0])
        have SF : Hid (v3.heap.size < (v3.alloc (.cells #[.slice none 0 0, .int .i64 0, .slice none 0 0, .slice none 0 0, .slice none 0 0] 27)).heap.size) := Hid.mk' (by simp)
        have ID := Hid.mk' (ID.out.below hb)
        have IT := Hid.mk' (IT.out.below hb)
        have IH := Hid.mk' (own_keep IH.out hb)
        have PD : Hid (v3.heap.size < V.heap.size ∨ v1.heap.size ≤ v3.heap.size) := Hid.mk' (.inr ED.out)
        have ED := Hid.mk' (Nat.le_trans ED.out hb.size)
        have PT : Hid (v3.heap.size < v1.heap.size ∨ v2.heap.size ≤ v3.heap.size) := Hid.mk' (.inr ET.out)
        have ET := Hid.mk' (Nat.le_trans ET.out hb.size)
        have PH : Hid (v3.heap.size < v2.heap.size ∨ v3.heap.size ≤ v3.heap.size) := Hid.mk' (.inr EH.out)
        have EH := Hid.mk' (Nat.le_trans EH.out hb.size)
        have BB := Hid.mk' (BB.out.trans (hb.mono BB.out.size))
        clear hb
        refine hK.out _ _ (HCE.out _ BB.out) (fun hHeld => ?_)
        clear hK K9
        try simp only [Act.put, zA, zB, zC]
        generalize hvv : (v3.alloc (.cells #[.slice none 0 0, .int .i64 0, .slice none 0 0, .slice none 0 0, .slice none 0 0] 27)) = v4 at *
        clear hvv
        refine wpAnyH_ready (rs := [13]) (by kernel_rfl) (by simp) ?_
        refine AllReadyH.cons (o := ⟨_, _, _, _, _, _⟩) rfl (fun K9 hK => ?_) AllReadyH.nil
        refine step_store_row rfl 27 (.tmp 3) (.tmp 17) rfl (v3.heap.size) #[.slice pd m.dt.length qd, .int .i64 m.st, .slice pt m.tk.length qt, .slice ph m.hd.length qh, .slice none 0 0] rfl rfl 27 #[.slice none 0 0, .int .i64 0, .slice none 0 0, .slice none 0 0, .slice none 0 0] FX.out (by kernel_rfl) rfl (by kernel_rfl) ?_
        have BS := RowA.putBelow BB.out BX.out #[.slice pd m.dt.length qd, .int .i64 m.st, .slice pt m.tk.length qt, .slice ph m.hd.length qh, .slice none 0 0]
        refine hK.out _ _ (HCE.out _ BS) (fun hHeld => ?_)
        clear hK K9
        try simp only [Act.put, zA, zB, zC]
        refine wpAnyH_done (by kernel_rfl) ?_ _
        clear hHeld
        have BU := Hid.mk' BS
        have RO := Hid.mk' (FX.out.put #[.slice pd m.dt.length qd, .int .i64 m.st, .slice pt m.tk.length qt, .slice ph m.hd.length qh, .slice none 0 0])
        have ID := Hid.mk' (ID.out.row PD.out #[.slice pd m.dt.length qd, .int .i64 m.st, .slice pt m.tk.length qt, .slice ph m.hd.length qh, .slice none 0 0])
        have IT := Hid.mk' (IT.out.row PT.out #[.slice pd m.dt.length qd, .int .i64 m.st, .slice pt m.tk.length qt, .slice ph m.hd.length qh, .slice none 0 0])
        have IHU := Hid.mk' (own_of IH.out (Nat.le_refl _) (fun q e hq => setRow_other v4 (v3.heap.size) q #[.slice pd m.dt.length qd, .int .i64 m.st, .slice pt m.tk.length qt, .slice ph m.hd.length qh, .slice none 0 0] (by have := PH.out; have := LH.out q e; omega)))
        have EH : Hid (v3.heap.size ≤ (v4.setRow (v3.heap.size) #[.slice pd m.dt.length qd, .int .i64 m.st, .slice pt m.tk.length qt, .slice ph m.hd.length qh, .slice none 0 0]).heap.size) := Hid.mk' (by rw [setRow_size]; exact EH.out)
        have SU : Hid (v3.heap.size < (v4.setRow (v3.heap.size) #[.slice pd m.dt.length qd, .int .i64 m.st, .slice pt m.tk.length qt, .slice ph m.hd.length qh, .slice none 0 0]).heap.size) := Hid.mk' (by rw [setRow_size]; exact SF.out)
        clear BS IH FX SF BB ED ET
        generalize hU : (v4.setRow (v3.heap.size) #[.slice pd m.dt.length qd, .int .i64 m.st, .slice pt m.tk.length qt, .slice ph m.hd.length qh, .slice none 0 0]) = U at *
        clear hU
        go_wp2
        go_loopw [4] (fun i wr => ∃ (k : Nat) (vc : Value) (hs : Nat → Value), k ≤ m.cs.length ∧ i = .int .i64 k ∧ RowA wr (v3.heap.size) 27 #[.slice pd m.dt.length qd, .int .i64 m.st, .slice pt m.tk.length qt, .slice ph m.hd.length qh, vc] ∧ KS m.cs k U.heap.size vc hs wr ∧ KeptIn (v3.heap.size) (v3.heap.size + 1) U wr) (fun i _ => m.cs.length - (intOf i).toNat)
        case atStart => exact ⟨0, .slice none 0 0, fun _ => .slice none 0 0, Nat.zero_le _, rfl, RO.out, ⟨World.ownsRow_nil _ _ _ _, fun i hi => absurd hi (Nat.not_lt_zero _)⟩, KeptIn.refl _ _ _⟩
        case round =>
          obtain ⟨k, vc, hs, hk, rfl, hr, hks, hkp⟩ := hrel
          obtain ⟨pc, qc, rfl⟩ := own_form hks.row
          have BR := Hid.mk' (KeptIn.up hkp BX.out BU.out)
          have OR := Hid.mk' hr
          have KK := Hid.mk' hks
          have KP := Hid.mk' hkp
          have US := Hid.mk' hkp.size
          have x4 := (RX.out _ BR.out).cell 4 _ rfl
          clear hr hks hkp
          by_cases hlt : k < m.cs.length
          · have ci : (k : Int) < (m.cs.length : Int) := by omega
            rcases (MX.out _ BR.out).2.2.2 with hc | ⟨b, o, rfl, hbs, hc⟩
            · exact absurd hlt (by rw [hc]; exact Nat.not_lt_zero _)
            obtain ⟨q1, q2, p, d, q3, q4⟩ := hc k hlt
            have N1 := below_new wr (.cells #[.int .i64 (ckK m.cs k).pl, .int .i64 (ckK m.cs k).ct, .slice p (ckK m.cs k).hd.length d] 31)
            have KA := Hid.mk' (l1Copy_own p d (ckK m.cs k).hd _ (q4.below N1) (hz5.out k hlt))
            have RT := Hid.mk' (RowA.new wr 31 #[.int .i64 (ckK m.cs k).pl, .int .i64 (ckK m.cs k).ct, .slice p (ckK m.cs k).hd.length d])
            have HN := Hid.mk' N1
            clear q4 hc N1
            generalize hW : wr.alloc (.cells #[.int .i64 (ckK m.cs k).pl, .int .i64 (ckK m.cs k).ct, .slice p (ckK m.cs k).hd.length d] 31) = W at *
            have x5 := RT.out.cell 0 _ rfl
            have x6 := RT.out.cell 1 _ rfl
            have x7 := RT.out.cell 2 _ rfl
            go_wp2_with fail
            clear hW x4 x5 x6 x7 q1 q2 q3
            refine KA.out.mono ?_
            rintro e w2 ⟨va, rfl, oa, hb2⟩
            obtain ⟨pa, qa, rfl⟩ := own_form oa
            have R2 := Hid.mk' (RT.out.below hb2)
            have M2 := HN.out.trans (hb2.mono HN.out.size)
            have SW := RT.out.lt
            have B3 : Below wr.heap.size wr (w2.setCell ⟨wr.heap.size, 2, none⟩ (.slice pa (ckK m.cs k).hd.length qa)) := RowA.setBelow M2 (Nat.le_refl _) 2 _
            have O3 := Hid.mk' (OR.out.below B3)
            have oa3 : World.ownsRow (w2.setCell ⟨wr.heap.size, 2, none⟩ (.slice pa (ckK m.cs k).hd.length qa)) wr.heap.size 5 1 (.slice pa (ckK m.cs k).hd.length qa) (ckK m.cs k).hd.length (bcs (ckK m.cs k).hd) := own_of oa (Nat.le_of_lt SW) (fun q e hq => Deep.blk_setCell_other _ _ _ _ (by show q ≠ wr.heap.size; omega))
            have OA := Hid.mk' oa3
            have R3 := Hid.mk' (R2.out.set 2 (.slice pa (ckK m.cs k).hd.length qa))
            have LO : ¬ v3.heap.size = wr.heap.size := by have := OR.out.lt; omega
            have LO2 : ¬ wr.heap.size = v3.heap.size := fun e => LO e.symm
            have y4 := (OR.out.below M2).cell 4 _ rfl
            have z0 := R2.out.cell 0 _ rfl
            have z1 := R2.out.cell 1 _ rfl
            have z2 := R2.out.cell 2 _ rfl
            have f2 := R2.out.frozen 2
            have HB3 := Hid.mk' B3
            have y4' := O3.out.cell 4 _ rfl
            have z0' := R3.out.cell 0 _ rfl
            have z1' := R3.out.cell 1 _ rfl
            have z2' := R3.out.cell 2 _ rfl
            clear M2 B3 oa oa3 hb2 KA RT HN
            generalize hw3 : w2.setCell ⟨wr.heap.size, 2, none⟩ (.slice pa (ckK m.cs k).hd.length qa) = w3 at *
            have N4 := below_new w3 (.cells #[.int .i64 (ckK m.cs k).pl, .int .i64 (ckK m.cs k).ct, .slice pa (ckK m.cs k).hd.length qa] 31)
            have B4 := Hid.mk' (HB3.out.trans (N4.mono HB3.out.size))
            have NC := Hid.mk' (new_cells' w3 31 [.int .i64 (ckK m.cs k).pl, .int .i64 (ckK m.cs k).ct, .slice pa (ckK m.cs k).hd.length qa] w3.heap.size rfl)
            have OV := Hid.mk' (own_keep KK.out.row B4.out)
            have OA4 := Hid.mk' (own_keep OA.out N4)
            have P1 : Hid (∀ u ∈ ([.int .i64 (ckK m.cs k).pl, .int .i64 (ckK m.cs k).ct, .slice pa (ckK m.cs k).hd.length qa] : List Value), u.oneCell' = true) := Hid.mk' (by
              intro u hu'
              simp only [List.mem_cons, List.not_mem_nil, or_false] at hu'
              rcases hu' with rfl | rfl | rfl <;> rfl)
            have SZ : Hid (U.heap.size ≤ (w3.alloc (.cells #[.int .i64 (ckK m.cs k).pl, .int .i64 (ckK m.cs k).ct, .slice pa (ckK m.cs k).hd.length qa] 31)).heap.size) := Hid.mk' (Nat.le_trans US.out B4.out.size)
            have O4 := Hid.mk' (OR.out.below B4.out)
            clear N4
            go_wp2_with (at_builtin; refine wpList_append_at _ rfl (.tmp 35) (.tmp 37) 25 rfl U.heap.size 31 (.agg #[.int .i64 0, .int .i64 0, .slice none 0 0]) 3 40 Tryz.underlying25 infoCheck rfl (by decide) _ _ _ rfl OV.out _ 1 _ [.int .i64 (ckK m.cs k).pl, .int .i64 (ckK m.cs k).ct, .slice pa (ckK m.cs k).hd.length qa] rfl rfl (.inr ⟨_, rfl, NC.out⟩) P1.out (by unfold maxLen; omega) (by omega) SZ.out ?_; intro v' w5 ho hgr hat; obtain ⟨pv, qv, rfl⟩ := own_form ho; have R5 : Hid (RowA w5 (v3.heap.size) 27 #[.slice pd m.dt.length qd, .int .i64 m.st, .slice pt m.tk.length qt, .slice ph m.hd.length qh, .slice pc k qc]) := Hid.mk' ((hgr.block _ O4.out.lt (fun e => by have := own_lo OV.out _ e.symm; have := SU.out; omega)).trans O4.out); have y5 := R5.out.cell 4 _ rfl; have f5 := R5.out.frozen 4)
            have K5 := KK.out.app B4.out US.out OA4.out ho hgr hat
            have RF := Hid.mk' (R5.out.set 4 (.slice pv (k + 1) qv))
            have KF := Hid.mk' (K5.keep (w' := w5.setCell ⟨v3.heap.size, 4, none⟩ (.slice pv (k + 1) qv)) (fun q a b => Deep.blk_setCell_other _ _ _ _ (by show q ≠ v3.heap.size; have := SU.out; omega)))
            have PF := Hid.mk' (((KP.out.trans (KeptIn.of_below B4.out)).grown hgr (own_lo OV.out)).setCell (p := ⟨v3.heap.size, 4, none⟩) (Nat.le_refl _) (Nat.lt_succ_self _) (.slice pv (k + 1) qv))
            clear K5 ho hgr hat
            go_roundw
            case rel => exact ⟨k + 1, .slice pv (k + 1) qv, _, by omega, by go_num, RF.out, KF.out, PF.out⟩
            case measure => simp [intOf]; omega
          · have ci : ¬ (k : Int) < (m.cs.length : Int) := by omega
            have e : k = m.cs.length := by omega
            subst e
            have BZ := Hid.mk' (HZ.out.below BR.out)
            have CE := Hid.mk' (cp_end (lo := w.heap.size) (g := w.heap.size + 1) ID.out IT.out IHU.out LH.out OD.out.2 OT.out.1 OT.out.2 OH.out.1 OH.out.2 EH.out PD.out PT.out PH.out SU.out (Nat.lt_of_lt_of_le VW.out OD.out.1) (Nat.le_succ _) KP.out KK.out #[.slice pd m.dt.length qd, .int .i64 m.st, .slice pt m.tk.length qt, .slice ph m.hd.length qh, .slice pc m.cs.length qc])
            have BW := Hid.mk' (RowA.putBelow (HB.out.trans (BR.out.mono HB.out.size)) (Nat.le_succ w.heap.size) #[.slice pd m.dt.length qd, .int .i64 m.st, .slice pt m.tk.length qt, .slice ph m.hd.length qh, .slice pc m.cs.length qc])
            have HF := Hid.mk' (BZ.out.put #[.slice pd m.dt.length qd, .int .i64 m.st, .slice pt m.tk.length qt, .slice ph m.hd.length qh, .slice pc m.cs.length qc])
            go_wp2_with (first | ((with_reducible refine wpList_load_row ?_ 27 (.tmp 3) ?_ (v3.heap.size) ?_ 27 #[.slice pd m.dt.length qd, .int .i64 m.st, .slice pt m.tk.length qt, .slice ph m.hd.length qh, .slice pc m.cs.length qc] (0, 0) _ ?_ Tryz.underlying27 ?_ ?_ ?_); rfl; rfl; rfl; exact OR.out; rfl; kernel_rfl) | ((with_reducible refine wpList_store_row ?_ 27 (.tmp 2) (.tmp 40) ?_ (w.heap.size + 1) #[.slice pd m.dt.length qd, .int .i64 m.st, .slice pt m.tk.length qt, .slice ph m.hd.length qh, .slice pc m.cs.length qc] ?_ ?_ 27 #[.slice none 0 0, .int .i64 0, .slice none 0 0, .slice none 0 0, .slice none 0 0] ?_ ?_ ?_ ?_ ?_); rfl; rfl; rfl; rfl; exact BZ.out; kernel_rfl; rfl; kernel_rfl) | fail)
            refine bodyPost_ret (v := .agg #[.slice pd m.dt.length qd, .int .i64 m.st, .slice pt m.tk.length qt, .slice ph m.hd.length qh, .slice pc m.cs.length qc]) ?_ ?_ ?_
            · exact results_cell1 Tryz.results44 _ _ _ ⟨w.heap.size + 1, 0, none⟩ _ rfl (HF.out.load _ Tryz.underlying27 rfl (by kernel_rfl))
            · rfl
            exact ⟨pd, pt, ph, pc, qd, qt, qh, qc, rfl, CE.out, BW.out⟩
      · go_simp
        have hb := below_new v2 (.cells #[.slice none 0 0, .int .i64 0, .slice none 0 0, .slice none 0 0, .slice none 0 0] 27)
        have BX : Hid (V.heap.size ≤ v2.heap.size) := Hid.mk' BB.out.size
        have FX := Hid.mk' (RowA.new v2 27 #[.slice none 0 0, .int .i64 0, .slice none 0 0, .slice none 0 0, .slice none 0 0])
        have SF : Hid (v2.heap.size < (v2.alloc (.cells #[.slice none 0 0, .int .i64 0, .slice none 0 0, .slice none 0 0, .slice none 0 0] 27)).heap.size) := Hid.mk' (by simp)
        have ID := Hid.mk' (ID.out.below hb)
        have IT := Hid.mk' (IT.out.below hb)
        have PD : Hid (v2.heap.size < V.heap.size ∨ v1.heap.size ≤ v2.heap.size) := Hid.mk' (.inr ED.out)
        have ED := Hid.mk' (Nat.le_trans ED.out hb.size)
        have PT : Hid (v2.heap.size < v1.heap.size ∨ v2.heap.size ≤ v2.heap.size) := Hid.mk' (.inr ET.out)
        have ET := Hid.mk' (Nat.le_trans ET.out hb.size)
        have BB := Hid.mk' (BB.out.trans (hb.mono BB.out.size))
        clear hb
        refine hK.out _ _ (HCE.out _ BB.out) (fun hHeld => ?_)
        clear hK K9
        try simp only [Act.put, zA, zB, zC]
        generalize hvv : (v2.alloc (.cells #[.slice none 0 0, .int .i64 0, .slice none 0 0, .slice none 0 0, .slice none 0 0] 27)) = v5 at *
        clear hvv
        refine wpAnyH_ready (rs := [10]) (by kernel_rfl) (by simp) ?_
        refine AllReadyH.cons (o := ⟨_, _, _, _, _, _⟩) rfl (fun K9 hK => ?_) AllReadyH.nil
        go_simp
        refine (l1Copy_own u cu m.hd _ (MX.out _ BB.out).2.2.1 hz3).mono ?_
        rintro e1 v6 ⟨vh, rfl, hu, hb⟩
        obtain ⟨ph, qh, rfl⟩ := own_form hu
        have ID := Hid.mk' (ID.out.below hb)
        have IT := Hid.mk' (IT.out.below hb)
        have IH := Hid.mk' hu
        have LH : Hid (∀ q, (Value.slice ph m.hd.length qh).ownBlock = some q → q < v6.heap.size) := Hid.mk' (fun q e => (hu.lt q e).2)
        have OH : Hid (v2.heap.size ≤ v5.heap.size ∧ v5.heap.size ≤ v6.heap.size) := Hid.mk' ⟨ET.out, hb.size⟩
        have FX := Hid.mk' (FX.out.below hb)
        have PH : Hid (v2.heap.size < v5.heap.size ∨ v6.heap.size ≤ v2.heap.size) := Hid.mk' (.inl SF.out)
        have SF : Hid (v2.heap.size < v6.heap.size) := Hid.mk' (Nat.lt_of_lt_of_le SF.out hb.size)
        have ED := Hid.mk' (Nat.le_trans ED.out hb.size)
        have ET := Hid.mk' (Nat.le_trans ET.out hb.size)
        have EH : Hid (v6.heap.size ≤ v6.heap.size) := Hid.mk' (Nat.le_refl _)
        have BB := Hid.mk' (BB.out.trans (hb.mono BB.out.size))
        clear hu hb
        refine hK.out _ _ (HCE.out _ BB.out) (fun hHeld => ?_)
        clear hK K9
        try simp only [Act.put, zA, zB, zC]
        refine tkY 11 ?_
        refine wpAnyH_ready (rs := [13]) (by kernel_rfl) (by simp) ?_
        refine AllReadyH.cons (o := ⟨_, _, _, _, _, _⟩) rfl (fun K9 hK => ?_) AllReadyH.nil
        refine step_store_row rfl 27 (.tmp 3) (.tmp 17) rfl (v2.heap.size) #[.slice pd m.dt.length qd, .int .i64 m.st, .slice pt m.tk.length qt, .slice ph m.hd.length qh, .slice none 0 0] rfl rfl 27 #[.slice none 0 0, .int .i64 0, .slice none 0 0, .slice none 0 0, .slice none 0 0] FX.out (by kernel_rfl) rfl (by kernel_rfl) ?_
        have BS := RowA.putBelow BB.out BX.out #[.slice pd m.dt.length qd, .int .i64 m.st, .slice pt m.tk.length qt, .slice ph m.hd.length qh, .slice none 0 0]
        refine hK.out _ _ (HCE.out _ BS) (fun hHeld => ?_)
        clear hK K9
        try simp only [Act.put, zA, zB, zC]
        refine wpAnyH_done (by kernel_rfl) ?_ _
        clear hHeld
        have BU := Hid.mk' BS
        have RO := Hid.mk' (FX.out.put #[.slice pd m.dt.length qd, .int .i64 m.st, .slice pt m.tk.length qt, .slice ph m.hd.length qh, .slice none 0 0])
        have ID := Hid.mk' (ID.out.row PD.out #[.slice pd m.dt.length qd, .int .i64 m.st, .slice pt m.tk.length qt, .slice ph m.hd.length qh, .slice none 0 0])
        have IT := Hid.mk' (IT.out.row PT.out #[.slice pd m.dt.length qd, .int .i64 m.st, .slice pt m.tk.length qt, .slice ph m.hd.length qh, .slice none 0 0])
        have IHU := Hid.mk' (own_of IH.out (Nat.le_refl _) (fun q e hq => setRow_other v6 (v2.heap.size) q #[.slice pd m.dt.length qd, .int .i64 m.st, .slice pt m.tk.length qt, .slice ph m.hd.length qh, .slice none 0 0] (by have := PH.out; have := LH.out q e; omega)))
        have EH : Hid (v6.heap.size ≤ (v6.setRow (v2.heap.size) #[.slice pd m.dt.length qd, .int .i64 m.st, .slice pt m.tk.length qt, .slice ph m.hd.length qh, .slice none 0 0]).heap.size) := Hid.mk' (by rw [setRow_size]; exact EH.out)
        have SU : Hid (v2.heap.size < (v6.setRow (v2.heap.size) #[.slice pd m.dt.length qd, .int .i64 m.st, .slice pt m.tk.length qt, .slice ph m.hd.length qh, .slice none 0 0]).heap.size) := Hid.mk' (by rw [setRow_size]; exact SF.out)
        clear BS IH FX SF BB ED ET
        generalize hU : (v6.setRow (v2.heap.size) #[.slice pd m.dt.length qd, .int .i64 m.st, .slice pt m.tk.length qt, .slice ph m.hd.length qh, .slice none 0 0]) = U at *
        clear hU
        go_wp2
        go_loopw [4] (fun i wr => ∃ (k : Nat) (vc : Value) (hs : Nat → Value), k ≤ m.cs.length ∧ i = .int .i64 k ∧ RowA wr (v2.heap.size) 27 #[.slice pd m.dt.length qd, .int .i64 m.st, .slice pt m.tk.length qt, .slice ph m.hd.length qh, vc] ∧ KS m.cs k U.heap.size vc hs wr ∧ KeptIn (v2.heap.size) (v2.heap.size + 1) U wr) (fun i _ => m.cs.length - (intOf i).toNat)
        case atStart => exact ⟨0, .slice none 0 0, fun _ => .slice none 0 0, Nat.zero_le _, rfl, RO.out, ⟨World.ownsRow_nil _ _ _ _, fun i hi => absurd hi (Nat.not_lt_zero _)⟩, KeptIn.refl _ _ _⟩
        case round =>
          obtain ⟨k, vc, hs, hk, rfl, hr, hks, hkp⟩ := hrel
          obtain ⟨pc, qc, rfl⟩ := own_form hks.row
          have BR := Hid.mk' (KeptIn.up hkp BX.out BU.out)
          have OR := Hid.mk' hr
          have KK := Hid.mk' hks
          have KP := Hid.mk' hkp
          have US := Hid.mk' hkp.size
          have x4 := (RX.out _ BR.out).cell 4 _ rfl
          clear hr hks hkp
          by_cases hlt : k < m.cs.length
          · have ci : (k : Int) < (m.cs.length : Int) := by omega
            rcases (MX.out _ BR.out).2.2.2 with hc | ⟨b, o, rfl, hbs, hc⟩
            · exact absurd hlt (by rw [hc]; exact Nat.not_lt_zero _)
            obtain ⟨q1, q2, p, d, q3, q4⟩ := hc k hlt
            have N1 := below_new wr (.cells #[.int .i64 (ckK m.cs k).pl, .int .i64 (ckK m.cs k).ct, .slice p (ckK m.cs k).hd.length d] 31)
            have KA := Hid.mk' (l1Copy_own p d (ckK m.cs k).hd _ (q4.below N1) (hz5.out k hlt))
            have RT := Hid.mk' (RowA.new wr 31 #[.int .i64 (ckK m.cs k).pl, .int .i64 (ckK m.cs k).ct, .slice p (ckK m.cs k).hd.length d])
            have HN := Hid.mk' N1
            clear q4 hc N1
            generalize hW : wr.alloc (.cells #[.int .i64 (ckK m.cs k).pl, .int .i64 (ckK m.cs k).ct, .slice p (ckK m.cs k).hd.length d] 31) = W at *
            have x5 := RT.out.cell 0 _ rfl
            have x6 := RT.out.cell 1 _ rfl
            have x7 := RT.out.cell 2 _ rfl
            go_wp2_with fail
            clear hW x4 x5 x6 x7 q1 q2 q3
            refine KA.out.mono ?_
            rintro e w2 ⟨va, rfl, oa, hb2⟩
            obtain ⟨pa, qa, rfl⟩ := own_form oa
            have R2 := Hid.mk' (RT.out.below hb2)
            have M2 := HN.out.trans (hb2.mono HN.out.size)
            have SW := RT.out.lt
            have B3 : Below wr.heap.size wr (w2.setCell ⟨wr.heap.size, 2, none⟩ (.slice pa (ckK m.cs k).hd.length qa)) := RowA.setBelow M2 (Nat.le_refl _) 2 _
            have O3 := Hid.mk' (OR.out.below B3)
            have oa3 : World.ownsRow (w2.setCell ⟨wr.heap.size, 2, none⟩ (.slice pa (ckK m.cs k).hd.length qa)) wr.heap.size 5 1 (.slice pa (ckK m.cs k).hd.length qa) (ckK m.cs k).hd.length (bcs (ckK m.cs k).hd) := own_of oa (Nat.le_of_lt SW) (fun q e hq => Deep.blk_setCell_other _ _ _ _ (by show q ≠ wr.heap.size; omega))
            have OA := Hid.mk' oa3
            have R3 := Hid.mk' (R2.out.set 2 (.slice pa (ckK m.cs k).hd.length qa))
            have LO : ¬ v2.heap.size = wr.heap.size := by have := OR.out.lt; omega
            have LO2 : ¬ wr.heap.size = v2.heap.size := fun e => LO e.symm
            have y4 := (OR.out.below M2).cell 4 _ rfl
            have z0 := R2.out.cell 0 _ rfl
            have z1 := R2.out.cell 1 _ rfl
            have z2 := R2.out.cell 2 _ rfl
            have f2 := R2.out.frozen 2
            have HB3 := Hid.mk' B3
            have y4' := O3.out.cell 4 _ rfl
            have z0' := R3.out.cell 0 _ rfl
            have z1' := R3.out.cell 1 _ rfl
            have z2' := R3.out.cell 2 _ rfl
            clear M2 B3 oa oa3 hb2 KA RT HN
            generalize hw3 : w2.setCell ⟨wr.heap.size, 2, none⟩ (.slice pa (ckK m.cs k).hd.length qa) = w3 at *
            have N4 := below_new w3 (.cells #[.int .i64 (ckK m.cs k).pl, .int .i64 (ckK m.cs k).ct, .slice pa (ckK m.cs k).hd.length qa] 31)
            have B4 := Hid.mk' (HB3.out.trans (N4.mono HB3.out.size))
            have NC := Hid.mk' (new_cells' w3 31 [.int .i64 (ckK m.cs k).pl, .int .i64 (ckK m.cs k).ct, .slice pa (ckK m.cs k).hd.length qa] w3.heap.size rfl)
            have OV := Hid.mk' (own_keep KK.out.row B4.out)
            have OA4 := Hid.mk' (own_keep OA.out N4)
            have P1 : Hid (∀ u ∈ ([.int .i64 (ckK m.cs k).pl, .int .i64 (ckK m.cs k).ct, .slice pa (ckK m.cs k).hd.length qa] : List Value), u.oneCell' = true) := Hid.mk' (by
              intro u hu'
              simp only [List.mem_cons, List.not_mem_nil, or_false] at hu'
              rcases hu' with rfl | rfl | rfl <;> rfl)
            have SZ : Hid (U.heap.size ≤ (w3.alloc (.cells #[.int .i64 (ckK m.cs k).pl, .int .i64 (ckK m.cs k).ct, .slice pa (ckK m.cs k).hd.length qa] 31)).heap.size) := Hid.mk' (Nat.le_trans US.out B4.out.size)
            have O4 := Hid.mk' (OR.out.below B4.out)
            clear N4
            go_wp2_with (at_builtin; refine wpList_append_at _ rfl (.tmp 35) (.tmp 37) 25 rfl U.heap.size 31 (.agg #[.int .i64 0, .int .i64 0, .slice none 0 0]) 3 40 Tryz.underlying25 infoCheck rfl (by decide) _ _ _ rfl OV.out _ 1 _ [.int .i64 (ckK m.cs k).pl, .int .i64 (ckK m.cs k).ct, .slice pa (ckK m.cs k).hd.length qa] rfl rfl (.inr ⟨_, rfl, NC.out⟩) P1.out (by unfold maxLen; omega) (by omega) SZ.out ?_; intro v' w5 ho hgr hat; obtain ⟨pv, qv, rfl⟩ := own_form ho; have R5 : Hid (RowA w5 (v2.heap.size) 27 #[.slice pd m.dt.length qd, .int .i64 m.st, .slice pt m.tk.length qt, .slice ph m.hd.length qh, .slice pc k qc]) := Hid.mk' ((hgr.block _ O4.out.lt (fun e => by have := own_lo OV.out _ e.symm; have := SU.out; omega)).trans O4.out); have y5 := R5.out.cell 4 _ rfl; have f5 := R5.out.frozen 4)
            have K5 := KK.out.app B4.out US.out OA4.out ho hgr hat
            have RF := Hid.mk' (R5.out.set 4 (.slice pv (k + 1) qv))
            have KF := Hid.mk' (K5.keep (w' := w5.setCell ⟨v2.heap.size, 4, none⟩ (.slice pv (k + 1) qv)) (fun q a b => Deep.blk_setCell_other _ _ _ _ (by show q ≠ v2.heap.size; have := SU.out; omega)))
            have PF := Hid.mk' (((KP.out.trans (KeptIn.of_below B4.out)).grown hgr (own_lo OV.out)).setCell (p := ⟨v2.heap.size, 4, none⟩) (Nat.le_refl _) (Nat.lt_succ_self _) (.slice pv (k + 1) qv))
            clear K5 ho hgr hat
            go_roundw
            case rel => exact ⟨k + 1, .slice pv (k + 1) qv, _, by omega, by go_num, RF.out, KF.out, PF.out⟩
            case measure => simp [intOf]; omega
          · have ci : ¬ (k : Int) < (m.cs.length : Int) := by omega
            have e : k = m.cs.length := by omega
            subst e
            have BZ := Hid.mk' (HZ.out.below BR.out)
            have CE := Hid.mk' (cp_end (lo := w.heap.size) (g := w.heap.size + 1) ID.out IT.out IHU.out LH.out OD.out.2 OT.out.1 OT.out.2 OH.out.1 OH.out.2 EH.out PD.out PT.out PH.out SU.out (Nat.lt_of_lt_of_le VW.out OD.out.1) (Nat.le_succ _) KP.out KK.out #[.slice pd m.dt.length qd, .int .i64 m.st, .slice pt m.tk.length qt, .slice ph m.hd.length qh, .slice pc m.cs.length qc])
            have BW := Hid.mk' (RowA.putBelow (HB.out.trans (BR.out.mono HB.out.size)) (Nat.le_succ w.heap.size) #[.slice pd m.dt.length qd, .int .i64 m.st, .slice pt m.tk.length qt, .slice ph m.hd.length qh, .slice pc m.cs.length qc])
            have HF := Hid.mk' (BZ.out.put #[.slice pd m.dt.length qd, .int .i64 m.st, .slice pt m.tk.length qt, .slice ph m.hd.length qh, .slice pc m.cs.length qc])
            go_wp2_with (first | ((with_reducible refine wpList_load_row ?_ 27 (.tmp 3) ?_ (v2.heap.size) ?_ 27 #[.slice pd m.dt.length qd, .int .i64 m.st, .slice pt m.tk.length qt, .slice ph m.hd.length qh, .slice pc m.cs.length qc] (0, 0) _ ?_ Tryz.underlying27 ?_ ?_ ?_); rfl; rfl; rfl; exact OR.out; rfl; kernel_rfl) | ((with_reducible refine wpList_store_row ?_ 27 (.tmp 2) (.tmp 40) ?_ (w.heap.size + 1) #[.slice pd m.dt.length qd, .int .i64 m.st, .slice pt m.tk.length qt, .slice ph m.hd.length qh, .slice pc m.cs.length qc] ?_ ?_ 27 #[.slice none 0 0, .int .i64 0, .slice none 0 0, .slice none 0 0, .slice none 0 0] ?_ ?_ ?_ ?_ ?_); rfl; rfl; rfl; rfl; exact BZ.out; kernel_rfl; rfl; kernel_rfl) | fail)
            refine bodyPost_ret (v := .agg #[.slice pd m.dt.length qd, .int .i64 m.st, .slice pt m.tk.length qt, .slice ph m.hd.length qh, .slice pc m.cs.length qc]) ?_ ?_ ?_
            · exact results_cell1 Tryz.results44 _ _ _ ⟨w.heap.size + 1, 0, none⟩ _ rfl (HF.out.load _ Tryz.underlying27 rfl (by kernel_rfl))
            · rfl
            exact ⟨pd, pt, ph, pc, qd, qt, qh, qc, rfl, CE.out, BW.out⟩
    · go_simp
      have hb := below_new v1 (.cells #[.slice none 0 0, .int .i64 0, .slice none 0 0, .slice none 0 0, .slice none 0 0] 27)
      have BX : Hid (V.heap.size ≤ v1.heap.size) := Hid.mk' BB.out.size
      have FX := Hid.mk' (RowA.new v1 27 #[.slice none 0 0, .int .i64 0, .slice none 0 0, .slice none 0 0, .slice none 0 0])
      have SF : Hid (v1.heap.size < (v1.alloc (.cells #[.slice none 0 0, .int .i64 0, .slice none 0 0, .slice none 0 0, .slice none 0 0] 27)).heap.size) := Hid.mk' (by simp)
      have ID := Hid.mk' (ID.out.below hb)
      have PD : Hid (v1.heap.size < V.heap.size ∨ v1.heap.size ≤ v1.heap.size) := Hid.mk' (.inr ED.out)
      have ED := Hid.mk' (Nat.le_trans ED.out hb.size)
      have BB := Hid.mk' (BB.out.trans (hb.mono BB.out.size))
      clear hb
      refine hK.out _ _ (HCE.out _ BB.out) (fun hHeld => ?_)
      clear hK K9
      try simp only [Act.put, zA, zB, zC]
      generalize hvv : (v1.alloc (.cells #[.slice none 0 0, .int .i64 0, .slice none 0 0, .slice none 0 0, .slice none 0 0] 27)) = v7 at *
      clear hvv
      refine wpAnyH_ready (rs := [7]) (by kernel_rfl) (by simp) ?_
      refine AllReadyH.cons (o := ⟨_, _, _, _, _, _⟩) rfl (fun K9 hK => ?_) AllReadyH.nil
      go_simp
      refine (l4Copy_any t ct m.tk _ (MX.out _ BB.out).2.1 hz2).mono ?_
      rintro e1 v8 ⟨vt, us, rfl, hu, hb⟩
      obtain ⟨pt, qt, rfl⟩ := own_form hu.row
      have ID := Hid.mk' (ID.out.below hb)
      have IT := Hid.mk' (IV.toks hu)
      have OT : Hid (v1.heap.size ≤ v7.heap.size ∧ v7.heap.size ≤ v8.heap.size) := Hid.mk' ⟨ED.out, hb.size⟩
      have FX := Hid.mk' (FX.out.below hb)
      have PT : Hid (v1.heap.size < v7.heap.size ∨ v8.heap.size ≤ v1.heap.size) := Hid.mk' (.inl SF.out)
      have SF : Hid (v1.heap.size < v8.heap.size) := Hid.mk' (Nat.lt_of_lt_of_le SF.out hb.size)
      have ED := Hid.mk' (Nat.le_trans ED.out hb.size)
      have ET : Hid (v8.heap.size ≤ v8.heap.size) := Hid.mk' (Nat.le_refl _)
      have BB := Hid.mk' (BB.out.trans (hb.mono BB.out.size))
      clear hu hb
      refine hK.out _ _ (HCE.out _ BB.out) (fun hHeld => ?_)
      clear hK K9
      try simp only [Act.put, zA, zB, zC]
      refine wpAnyH_ready (rs := [10]) (by kernel_rfl) (by simp) ?_
      refine AllReadyH.cons (o := ⟨_, _, _, _, _, _⟩) rfl (fun K9 hK => ?_) AllReadyH.nil
      go_simp
      refine (l1Copy_own u cu m.hd _ (MX.out _ BB.out).2.2.1 hz3).mono ?_
      rintro e1 v9 ⟨vh, rfl, hu, hb⟩
      obtain ⟨ph, qh, rfl⟩ := own_form hu
      have ID := Hid.mk' (ID.out.below hb)
      have IT := Hid.mk' (IT.out.below hb)
      have IH := Hid.mk' hu
      have LH : Hid (∀ q, (Value.slice ph m.hd.length qh).ownBlock = some q → q < v9.heap.size) := Hid.mk' (fun q e => (hu.lt q e).2)
      have OH : Hid (v8.heap.size ≤ v8.heap.size ∧ v8.heap.size ≤ v9.heap.size) := Hid.mk' ⟨ET.out, hb.size⟩
      have FX := Hid.mk' (FX.out.below hb)
      have PH : Hid (v1.heap.size < v8.heap.size ∨ v9.heap.size ≤ v1.heap.size) := Hid.mk' (.inl SF.out)
      have SF : Hid (v1.heap.size < v9.heap.size) := Hid.mk' (Nat.lt_of_lt_of_le SF.out hb.size)
      have ED := Hid.mk' (Nat.le_trans ED.out hb.size)
      have ET := Hid.mk' (Nat.le_trans ET.out hb.size)
      have EH : Hid (v9.heap.size ≤ v9.heap.size) := Hid.mk' (Nat.le_refl _)
      have BB := Hid.mk' (BB.out.trans (hb.mono BB.out.size))
      clear hu hb
      refine hK.out _ _ (HCE.out _ BB.out) (fun hHeld => ?_)
      clear hK K9
      try simp only [Act.put, zA, zB, zC]
      refine tkY 11 ?_
      refine wpAnyH_ready (rs := [13]) (by kernel_rfl) (by simp) ?_
      refine AllReadyH.cons (o := ⟨_, _, _, _, _, _⟩) rfl (fun K9 hK => ?_) AllReadyH.nil
      refine step_store_row rfl 27 (.tmp 3) (.tmp 17) rfl (v1.heap.size) #[.slice pd m.dt.length qd, .int .i64 m.st, .slice pt m.tk.length qt, .slice ph m.hd.length qh, .slice none 0 0] rfl rfl 27 #[.slice none 0 0, .int .i64 0, .slice none 0 0, .slice none 0 0, .slice none 0 0] FX.out (by kernel_rfl) rfl (by kernel_rfl) ?_
      have BS := RowA.putBelow BB.out BX.out #[.slice pd m.dt.length qd, .int .i64 m.st, .slice pt m.tk.length qt, .slice ph m.hd.length qh, .slice none 0 0]
      refine hK.out _ _ (HCE.out _ BS) (fun hHeld => ?_)
      clear hK K9
      try simp only [Act.put, zA, zB, zC]
      refine wpAnyH_done (by kernel_rfl) ?_ _
      clear hHeld
      have BU := Hid.mk' BS
      have RO := Hid.mk' (FX.out.put #[.slice pd m.dt.length qd, .int .i64 m.st, .slice pt m.tk.length qt, .slice ph m.hd.length qh, .slice none 0 0])
      have ID := Hid.mk' (ID.out.row PD.out #[.slice pd m.dt.length qd, .int .i64 m.st, .slice pt m.tk.length qt, .slice ph m.hd.length qh, .slice none 0 0])
      have IT := Hid.mk' (IT.out.row PT.out #[.slice pd m.dt.length qd, .int .i64 m.st, .slice pt m.tk.length qt, .slice ph m.hd.length qh, .slice none 0 0])
      have IHU := Hid.mk' (own_of IH.out (Nat.le_refl _) (fun q e hq => setRow_other v9 (v1.heap.size) q #[.slice pd m.dt.length qd, .int .i64 m.st, .slice pt m.tk.length qt, .slice ph m.hd.length qh, .slice none 0 0] (by have := PH.out; have := LH.out q e; omega)))
      have EH : Hid (v9.heap.size ≤ (v9.setRow (v1.heap.size) #[.slice pd m.dt.length qd, .int .i64 m.st, .slice pt m.tk.length qt, .slice ph m.hd.length qh, .slice none 0 0]).heap.size) := Hid.mk' (by rw [setRow_size]; exact EH.out)
      have SU : Hid (v1.heap.size < (v9.setRow (v1.heap.size) #[.slice pd m.dt.length qd, .int .i64 m.st, .slice pt m.tk.length qt, .slice ph m.hd.length qh, .slice none 0 0]).heap.size) := Hid.mk' (by rw [setRow_size]; exact SF.out)
      clear BS IH FX SF BB ED ET
      generalize hU : (v9.setRow (v1.heap.size) #[.slice pd m.dt.length qd, .int .i64 m.st, .slice pt m.tk.length qt, .slice ph m.hd.length qh, .slice none 0 0]) = U at *
      clear hU
      go_wp2
      go_loopw [4] (fun i wr => ∃ (k : Nat) (vc : Value) (hs : Nat → Value), k ≤ m.cs.length ∧ i = .int .i64 k ∧ RowA wr (v1.heap.size) 27 #[.slice pd m.dt.length qd, .int .i64 m.st, .slice pt m.tk.length qt, .slice ph m.hd.length qh, vc] ∧ KS m.cs k U.heap.size vc hs wr ∧ KeptIn (v1.heap.size) (v1.heap.size + 1) U wr) (fun i _ => m.cs.length - (intOf i).toNat)
      case atStart => exact ⟨0, .slice none 0 0, fun _ => .slice none 0 0, Nat.zero_le _, rfl, RO.out, ⟨World.ownsRow_nil _ _ _ _, fun i hi => absurd hi (Nat.not_lt_zero _)⟩, KeptIn.refl _ _ _⟩
      case round =>
        obtain ⟨k, vc, hs, hk, rfl, hr, hks, hkp⟩ := hrel
        obtain ⟨pc, qc, rfl⟩ := own_form hks.row
        have BR := Hid.mk' (KeptIn.up hkp BX.out BU.out)
        have OR := Hid.mk' hr
        have KK := Hid.mk' hks
        have KP := Hid.mk' hkp
        have US := Hid.mk' hkp.size
        have x4 := (RX.out _ BR.out).cell 4 _ rfl
        clear hr hks hkp
        by_cases hlt : k < m.cs.length
        · have ci : (k : Int) < (m.cs.length : Int) := by omega
          rcases (MX.out _ BR.out).2.2.2 with hc | ⟨b, o, rfl, hbs, hc⟩
          · exact absurd hlt (by rw [hc]; exact Nat.not_lt_zero _)
          obtain ⟨q1, q2, p, d, q3, q4⟩ := hc k hlt
          have N1 := below_new wr (.cells #[.int .i64 (ckK m.cs k).pl, .int .i64 (ckK m.cs k).ct, .slice p (ckK m.cs k).hd.length d] 31)
          have KA := Hid.mk' (l1Copy_own p d (ckK m.cs k).hd _ (q4.below N1) (hz5.out k hlt))
          have RT := Hid.mk' (RowA.new wr 31 #[.int .i64 (ckK m.cs k).pl, .int .i64 (ckK m.cs k).ct, .slice p (ckK m.cs k).hd.length d])
          have HN := Hid.mk' N1
          clear q4 hc N1
          generalize hW : wr.alloc (.cells #[.int .i64 (ckK m.cs k).pl, .int .i64 (ckK m.cs k).ct, .slice p (ckK m.cs k).hd.length d] 31) = W at *
          have x5 := RT.out.cell 0 _ rfl
          have x6 := RT.out.cell 1 _ rfl
          have x7 := RT.out.cell 2 _ rfl
          go_wp2_with fail
          clear hW x4 x5 x6 x7 q1 q2 q3
          refine KA.out.mono ?_
          rintro e w2 ⟨va, rfl, oa, hb2⟩
          obtain ⟨pa, qa, rfl⟩ := own_form oa
          have R2 := Hid.mk' (RT.out.below hb2)
          have M2 := HN.out.trans (hb2.mono HN.out.size)
          have SW := RT.out.lt
          have B3 : Below wr.heap.size wr (w2.setCell ⟨wr.heap.size, 2, none⟩ (.slice pa (ckK m.cs k).hd.length qa)) := RowA.setBelow M2 (Nat.le_refl _) 2 _
          have O3 := Hid.mk' (OR.out.below B3)
          have oa3 : World.ownsRow (w2.setCell ⟨wr.heap.size, 2, none⟩ (.slice pa (ckK m.cs k).hd.length qa)) wr.heap.size 5 1 (.slice pa (ckK m.cs k).hd.length qa) (ckK m.cs k).hd.length (bcs (ckK m.cs k).hd) := own_of oa (Nat.le_of_lt SW) (fun q e hq => Deep.blk_setCell_other _ _ _ _ (by show q ≠ wr.heap.size; omega))
          have OA := Hid.mk' oa3
          have R3 := Hid.mk' (R2.out.set 2 (.slice pa (ckK m.cs k).hd.length qa))
          have LO : ¬ v1.heap.size = wr.heap.size := by have := OR.out.lt; omega
          have LO2 : ¬ wr.heap.size = v1.heap.size := fun e => LO e.symm
          have y4 := (OR.out.below M2).cell 4 _ rfl
          have z0 := R2.out.cell 0 _ rfl
          have z1 := R2.out.cell 1 _ rfl
          have z2 := R2.out.cell 2 _ rfl
          have f2 := R2.out.frozen 2
          have HB3 := Hid.mk' B3
          have y4' := O3.out.cell 4 _ rfl
          have z0' := R3.out.cell 0 _ rfl
          have z1' := R3.out.cell 1 _ rfl
          have z2' := R3.out.cell 2 _ rfl
          clear M2 B3 oa oa3 hb2 KA RT HN
          generalize hw3 : w2.setCell ⟨wr.heap.size, 2, none⟩ (.slice pa (ckK m.cs k).hd.length qa) = w3 at *
          have N4 := below_new w3 (.cells #[.int .i64 (ckK m.cs k).pl, .int .i64 (ckK m.cs k).ct, .slice pa (ckK m.cs k).hd.length qa] 31)
          have B4 := Hid.mk' (HB3.out.trans (N4.mono HB3.out.size))
          have NC := Hid.mk' (new_cells' w3 31 [.int .i64 (ckK m.cs k).pl, .int .i64 (ckK m.cs k).ct, .slice pa (ckK m.cs k).hd.length qa] w3.heap.size rfl)
          have OV := Hid.mk' (own_keep KK.out.row B4.out)
          have OA4 := Hid.mk' (own_keep OA.out N4)
          have P1 : Hid (∀ u ∈ ([.int .i64 (ckK m.cs k).pl, .int .i64 (ckK m.cs k).ct, .slice pa (ckK m.cs k).hd.length qa] : List Value), u.oneCell' = true) := Hid.mk' (by
            intro u hu'
            simp only [List.mem_cons, List.not_mem_nil, or_false] at hu'
            rcases hu' with rfl | rfl | rfl <;> rfl)
          have SZ : Hid (U.heap.size ≤ (w3.alloc (.cells #[.int .i64 (ckK m.cs k).pl, .int .i64 (ckK m.cs k).ct, .slice pa (ckK m.cs k).hd.length qa] 31)).heap.size) := Hid.mk' (Nat.le_trans US.out B4.out.size)
          have O4 := Hid.mk' (OR.out.below B4.out)
          clear N4
          go_wp2_with (at_builtin; refine wpList_append_at _ rfl (.tmp 35) (.tmp 37) 25 rfl U.heap.size 31 (.agg #[.int .i64 0, .int .i64 0, .slice none 0 0]) 3 40 Tryz.underlying25 infoCheck rfl (by decide) _ _ _ rfl OV.out _ 1 _ [.int .i64 (ckK m.cs k).pl, .int .i64 (ckK m.cs k).ct, .slice pa (ckK m.cs k).hd.length qa] rfl rfl (.inr ⟨_, rfl, NC.out⟩) P1.out (by unfold maxLen; omega) (by omega) SZ.out ?_; intro v' w5 ho hgr hat; obtain ⟨pv, qv, rfl⟩ := own_form ho; have R5 : Hid (RowA w5 (v1.heap.size) 27 #[.slice pd m.dt.length qd, .int .i64 m.st, .slice pt m.tk.length qt, .slice ph m.hd.length qh, .slice pc k qc]) := Hid.mk' ((hgr.block _ O4.out.lt (fun e => by have := own_lo OV.out _ e.symm; have := SU.out; omega)).trans O4.out); have y5 := R5.out.cell 4 _ rfl; have f5 := R5.out.frozen 4)
          have K5 := KK.out.app B4.out US.out OA4.out ho hgr hat
          have RF := Hid.mk' (R5.out.set 4 (.slice pv (k + 1) qv))
          have KF := Hid.mk' (K5.keep (w' := w5.setCell ⟨v1.heap.size, 4, none⟩ (.slice pv (k + 1) qv)) (fun q a b => Deep.blk_setCell_other _ _ _ _ (by show q ≠ v1.heap.size; have := SU.out; omega)))
          have PF := Hid.mk' (((KP.out.trans (KeptIn.of_below B4.out)).grown hgr (own_lo OV.out)).setCell (p := ⟨v1.heap.size, 4, none⟩) (Nat.le_refl _) (Nat.lt_succ_self _) (.slice pv (k + 1) qv))
          clear K5 ho hgr hat
          go_roundw
          case rel => exact ⟨k + 1, .slice pv (k + 1) qv, _, by omega, by go_num, RF.out, KF.out, PF.out⟩
          case measure => simp [intOf]; omega
        · have ci : ¬ (k : Int) < (m.cs.length : Int) := by omega
          have e : k = m.cs.length := by omega
          subst e
          have BZ := Hid.mk' (HZ.out.below BR.out)
          have CE := Hid.mk' (cp_end (lo := w.heap.size) (g := w.heap.size + 1) ID.out IT.out IHU.out LH.out OD.out.2 OT.out.1 OT.out.2 OH.out.1 OH.out.2 EH.out PD.out PT.out PH.out SU.out (Nat.lt_of_lt_of_le VW.out OD.out.1) (Nat.le_succ _) KP.out KK.out #[.slice pd m.dt.length qd, .int .i64 m.st, .slice pt m.tk.length qt, .slice ph m.hd.length qh, .slice pc m.cs.length qc])
          have BW := Hid.mk' (RowA.putBelow (HB.out.trans (BR.out.mono HB.out.size)) (Nat.le_succ w.heap.size) #[.slice pd m.dt.length qd, .int .i64 m.st, .slice pt m.tk.length qt, .slice ph m.hd.length qh, .slice pc m.cs.length qc])
          have HF := Hid.mk' (BZ.out.put #[.slice pd m.dt.length qd, .int .i64 m.st, .slice pt m.tk.length qt, .slice ph m.hd.length qh, .slice pc m.cs.length qc])
          go_wp2_with (first | ((with_reducible refine wpList_load_row ?_ 27 (.tmp 3) ?_ (v1.heap.size) ?_ 27 #[.slice pd m.dt.length qd, .int .i64 m.st, .slice pt m.tk.length qt, .slice ph m.hd.length qh, .slice pc m.cs.length qc] (0, 0) _ ?_ Tryz.underlying27 ?_ ?_ ?_); rfl; rfl; rfl; exact OR.out; rfl; kernel_rfl) | ((with_reducible refine wpList_store_row ?_ 27 (.tmp 2) (.tmp 40) ?_ (w.heap.size + 1) #[.slice pd m.dt.length qd, .int .i64 m.st, .slice pt m.tk.length qt, .slice ph m.hd.length qh, .slice pc m.cs.length qc] ?_ ?_ 27 #[.slice none 0 0, .int .i64 0, .slice none 0 0, .slice none 0 0, .slice none 0 0] ?_ ?_ ?_ ?_ ?_); rfl; rfl; rfl; rfl; exact BZ.out; kernel_rfl; rfl; kernel_rfl) | fail)
          refine bodyPost_ret (v := .agg #[.slice pd m.dt.length qd, .int .i64 m.st, .slice pt m.tk.length qt, .slice ph m.hd.length qh, .slice pc m.cs.length qc]) ?_ ?_ ?_
          · exact results_cell1 Tryz.results44 _ _ _ ⟨w.heap.size + 1, 0, none⟩ _ rfl (HF.out.load _ Tryz.underlying27 rfl (by kernel_rfl))
          · rfl
          exact ⟨pd, pt, ph, pc, qd, qt, qh, qc, rfl, CE.out, BW.out⟩
  · go_simp
    have hb := below_new V (.cells #[.slice none 0 0, .int .i64 0, .slice none 0 0, .slice none 0 0, .slice none 0 0] 27)
    have BX : Hid (V.heap.size ≤ V.heap.size) := Hid.mk' BB.out.size
    have FX := Hid.mk' (RowA.new V 27 #[.slice none 0 0, .int .i64 0, .slice none 0 0, .slice none 0 0, .slice none 0 0])
    have SF : Hid (V.heap.size < (V.alloc (.cells #[.slice none 0 0, .int .i64 0, .slice none 0 0, .slice none 0 0, .slice none 0 0] 27)).heap.size) := Hid.mk' (by simp)
    have BB := Hid.mk' (BB.out.trans (hb.mono BB.out.size))
    clear hb
    refine hK.out _ _ (HCE.out _ BB.out) (fun hHeld => ?_)
    clear hK K9
    try simp only [Act.put, zA, zB, zC]
    generalize hvv : (V.alloc (.cells #[.slice none 0 0, .int .i64 0, .slice none 0 0, .slice none 0 0, .slice none 0 0] 27)) = v10 at *
    clear hvv
    refine wpAnyH_ready (rs := [2]) (by kernel_rfl) (by simp) ?_
    refine AllReadyH.cons (o := ⟨_, _, _, _, _, _⟩) rfl (fun K9 hK => ?_) AllReadyH.nil
    go_simp
    refine (l1Copy_own a ca m.dt _ (MX.out _ BB.out).1 hz1).mono ?_
    rintro e1 v11 ⟨vd, rfl, hu, hb⟩
    obtain ⟨pd, qd, rfl⟩ := own_form hu
    have ID := Hid.mk' (IV.bytes hu)
    have OD : Hid (V.heap.size ≤ v10.heap.size ∧ v10.heap.size ≤ v11.heap.size) := Hid.mk' ⟨BB.out.size, hb.size⟩
    have FX := Hid.mk' (FX.out.below hb)
    have PD : Hid (V.heap.size < v10.heap.size ∨ v11.heap.size ≤ V.heap.size) := Hid.mk' (.inl SF.out)
    have SF : Hid (V.heap.size < v11.heap.size) := Hid.mk' (Nat.lt_of_lt_of_le SF.out hb.size)
    have ED : Hid (v11.heap.size ≤ v11.heap.size) := Hid.mk' (Nat.le_refl _)
    have BB := Hid.mk' (BB.out.trans (hb.mono BB.out.size))
    clear hu hb
    refine hK.out _ _ (HCE.out _ BB.out) (fun hHeld => ?_)
    clear hK K9
    try simp only [Act.put, zA, zB, zC]
    refine wpAnyH_ready (rs := [7]) (by kernel_rfl) (by simp) ?_
    refine AllReadyH.cons (o := ⟨_, _, _, _, _, _⟩) rfl (fun K9 hK => ?_) AllReadyH.nil
    go_simp
    refine (l4Copy_any t ct m.tk _ (MX.out _ BB.out).2.1 hz2).mono ?_
    rintro e1 v12 ⟨vt, us, rfl, hu, hb⟩
    obtain ⟨pt, qt, rfl⟩ := own_form hu.row
    have ID := Hid.mk' (ID.out.below hb)
    have IT := Hid.mk' (IV.toks hu)
    have OT : Hid (v11.heap.size ≤ v11.heap.size ∧ v11.heap.size ≤ v12.heap.size) := Hid.mk' ⟨ED.out, hb.size⟩
    have FX := Hid.mk' (FX.out.below hb)
    have PT : Hid (V.heap.size < v11.heap.size ∨ v12.heap.size ≤ V.heap.size) := Hid.mk' (.inl SF.out)
    have SF : Hid (V.heap.size < v12.heap.size) := Hid.mk' (Nat.lt_of_lt_of_le SF.out hb.size)
    have ED := Hid.mk' (Nat.le_trans ED.out hb.size)
    have ET : Hid (v12.heap.size ≤ v12.heap.size) := Hid.mk' (Nat.le_refl _)
    have BB := Hid.mk' (BB.out.trans (hb.mono BB.out.size))
    clear hu hb
    refine hK.out _ _ (HCE.out _ BB.out) (fun hHeld => ?_)
    clear hK K9
    try simp only [Act.put, zA, zB, zC]
    refine wpAnyH_ready (rs := [10]) (by kernel_rfl) (by simp) ?_
    refine AllReadyH.cons (o := ⟨_, _, _, _, _, _⟩) rfl (fun K9 hK => ?_) AllReadyH.nil
    go_simp
    refine (l1Copy_own u cu m.hd _ (MX.out _ BB.out).2.2.1 hz3).mono ?_
    rintro e1 v13 ⟨vh, rfl, hu, hb⟩
    obtain ⟨ph, qh, rfl⟩ := own_form hu
    have ID := Hid.mk' (ID.out.below hb)
    have IT := Hid.mk' (IT.out.below hb)
    have IH := Hid.mk' hu
    have LH : Hid (∀ q, (Value.slice ph m.hd.length qh).ownBlock = some q → q < v13.heap.size) := Hid.mk' (fun q e => (hu.lt q e).2)
    have OH : Hid (v12.heap.size ≤ v12.heap.size ∧ v12.heap.size ≤ v13.heap.size) := Hid.mk' ⟨ET.out, hb.size⟩
    have FX := Hid.mk' (FX.out.below hb)
    have PH : Hid (V.heap.size < v12.heap.size ∨ v13.heap.size ≤ V.heap.size) := Hid.mk' (.inl SF.out)
    have SF : Hid (V.heap.size < v13.heap.size) := Hid.mk' (Nat.lt_of_lt_of_le SF.out hb.size)
    have ED := Hid.mk' (Nat.le_trans ED.out hb.size)
    have ET := Hid.mk' (Nat.le_trans ET.out hb.size)
    have EH : Hid (v13.heap.size ≤ v13.heap.size) := Hid.mk' (Nat.le_refl _)
    have BB := Hid.mk' (BB.out.trans (hb.mono BB.out.size))
    clear hu hb
    refine hK.out _ _ (HCE.out _ BB.out) (fun hHeld => ?_)
    clear hK K9
    try simp only [Act.put, zA, zB, zC]
    refine tkY 11 ?_
    refine wpAnyH_ready (rs := [13]) (by kernel_rfl) (by simp) ?_
    refine AllReadyH.cons (o := ⟨_, _, _, _, _, _⟩) rfl (fun K9 hK => ?_) AllReadyH.nil
    refine step_store_row rfl 27 (.tmp 3) (.tmp 17) rfl (V.heap.size) #[.slice pd m.dt.length qd, .int .i64 m.st, .slice pt m.tk.length qt, .slice ph m.hd.length qh, .slice none 0 0] rfl rfl 27 #[.slice none 0 0, .int .i64 0, .slice none 0 0, .slice none 0 0, .slice none 0 0] FX.out (by kernel_rfl) rfl (by kernel_rfl) ?_
    have BS := RowA.putBelow BB.out BX.out #[.slice pd m.dt.length qd, .int .i64 m.st, .slice pt m.tk.length qt, .slice ph m.hd.length qh, .slice none 0 0]
    refine hK.out _ _ (HCE.out _ BS) (fun hHeld => ?_)
    clear hK K9
    try simp only [Act.put, zA, zB, zC]
    refine wpAnyH_done (by kernel_rfl) ?_ _
    clear hHeld
    have BU := Hid.mk' BS
    have RO := Hid.mk' (FX.out.put #[.slice pd m.dt.length qd, .int .i64 m.st, .slice pt m.tk.length qt, .slice ph m.hd.length qh, .slice none 0 0])
    have ID := Hid.mk' (ID.out.row PD.out #[.slice pd m.dt.length qd, .int .i64 m.st, .slice pt m.tk.length qt, .slice ph m.hd.length qh, .slice none 0 0])
    have IT := Hid.mk' (IT.out.row PT.out #[.slice pd m.dt.length qd, .int .i64 m.st, .slice pt m.tk.length qt, .slice ph m.hd.length qh, .slice none 0 0])
    have IHU := Hid.mk' (own_of IH.out (Nat.le_refl _) (fun q e hq => setRow_other v13 (V.heap.size) q #[.slice pd m.dt.length qd, .int .i64 m.st, .slice pt m.tk.length qt, .slice ph m.hd.length qh, .slice none 0 0] (by have := PH.out; have := LH.out q e; omega)))
    have EH : Hid (v13.heap.size ≤ (v13.setRow (V.heap.size) #[.slice pd m.dt.length qd, .int .i64 m.st, .slice pt m.tk.length qt, .slice ph m.hd.length qh, .slice none 0 0]).heap.size) := Hid.mk' (by rw [setRow_size]; exact EH.out)
    have SU : Hid (V.heap.size < (v13.setRow (V.heap.size) #[.slice pd m.dt.length qd, .int .i64 m.st, .slice pt m.tk.length qt, .slice ph m.hd.length qh, .slice none 0 0]).heap.size) := Hid.mk' (by rw [setRow_size]; exact SF.out)
    clear BS IH FX SF BB ED ET
    generalize hU : (v13.setRow (V.heap.size) #[.slice pd m.dt.length qd, .int .i64 m.st, .slice pt m.tk.length qt, .slice ph m.hd.length qh, .slice none 0 0]) = U at *
    clear hU
    go_wp2
    go_loopw [4] (fun i wr => ∃ (k : Nat) (vc : Value) (hs : Nat → Value), k ≤ m.cs.length ∧ i = .int .i64 k ∧ RowA wr (V.heap.size) 27 #[.slice pd m.dt.length qd, .int .i64 m.st, .slice pt m.tk.length qt, .slice ph m.hd.length qh, vc] ∧ KS m.cs k U.heap.size vc hs wr ∧ KeptIn (V.heap.size) (V.heap.size + 1) U wr) (fun i _ => m.cs.length - (intOf i).toNat)
    case atStart => exact ⟨0, .slice none 0 0, fun _ => .slice none 0 0, Nat.zero_le _, rfl, RO.out, ⟨World.ownsRow_nil _ _ _ _, fun i hi => absurd hi (Nat.not_lt_zero _)⟩, KeptIn.refl _ _ _⟩
    case round =>
      obtain ⟨k, vc, hs, hk, rfl, hr, hks, hkp⟩ := hrel
      obtain ⟨pc, qc, rfl⟩ := own_form hks.row
      have BR := Hid.mk' (KeptIn.up hkp BX.out BU.out)
      have OR := Hid.mk' hr
      have KK := Hid.mk' hks
      have KP := Hid.mk' hkp
      have US := Hid.mk' hkp.size
      have x4 := (RX.out _ BR.out).cell 4 _ rfl
      clear hr hks hkp
      by_cases hlt : k < m.cs.length
      · have ci : (k : Int) < (m.cs.length : Int) := by omega
        rcases (MX.out _ BR.out).2.2.2 with hc | ⟨b, o, rfl, hbs, hc⟩
        · exact absurd hlt (by rw [hc]; exact Nat.not_lt_zero _)
        obtain ⟨q1, q2, p, d, q3, q4⟩ := hc k hlt
        have N1 := below_new wr (.cells #[.int .i64 (ckK m.cs k).pl, .int .i64 (ckK m.cs k).ct, .slice p (ckK m.cs k).hd.length d] 31)
        have KA := Hid.mk' (l1Copy_own p d (ckK m.cs k).hd _ (q4.below N1) (hz5.out k hlt))
        have RT := Hid.mk' (RowA.new wr 31 #[.int .i64 (ckK m.cs k).pl, .int .i64 (ckK m.cs k).ct, .slice p (ckK m.cs k).hd.length d])
        have HN := Hid.mk' N1
        clear q4 hc N1
        generalize hW : wr.alloc (.cells #[.int .i64 (ckK m.cs k).pl, .int .i64 (ckK m.cs k).ct, .slice p (ckK m.cs k).hd.length d] 31) = W at *
        have x5 := RT.out.cell 0 _ rfl
        have x6 := RT.out.cell 1 _ rfl
        have x7 := RT.out.cell 2 _ rfl
        go_wp2_with fail
        clear hW x4 x5 x6 x7 q1 q2 q3
        refine KA.out.mono ?_
        rintro e w2 ⟨va, rfl, oa, hb2⟩
        obtain ⟨pa, qa, rfl⟩ := own_form oa
        have R2 := Hid.mk' (RT.out.below hb2)
        have M2 := HN.out.trans (hb2.mono HN.out.size)
        have SW := RT.out.lt
        have B3 : Below wr.heap.size wr (w2.setCell ⟨wr.heap.size, 2, none⟩ (.slice pa (ckK m.cs k).hd.length qa)) := RowA.setBelow M2 (Nat.le_refl _) 2 _
        have O3 := Hid.mk' (OR.out.below B3)
        have oa3 : World.ownsRow (w2.setCell ⟨wr.heap.size, 2, none⟩ (.slice pa (ckK m.cs k).hd.length qa)) wr.heap.size 5 1 (.slice pa (ckK m.cs k).hd.length qa) (ckK m.cs k).hd.length (bcs (ckK m.cs k).hd) := own_of oa (Nat.le_of_lt SW) (fun q e hq => Deep.blk_setCell_other _ _ _ _ (by show q ≠ wr.heap.size; omega))
        have OA := Hid.mk' oa3
        have R3 := Hid.mk' (R2.out.set 2 (.slice pa (ckK m.cs k).hd.length qa))
        have LO : ¬ V.heap.size = wr.heap.size := by have := OR.out.lt; omega
        have LO2 : ¬ wr.heap.size = V.heap.size := fun e => LO e.symm
        have y4 := (OR.out.below M2).cell 4 _ rfl
        have z0 := R2.out.cell 0 _ rfl
        have z1 := R2.out.cell 1 _ rfl
        have z2 := R2.out.cell 2 _ rfl
        have f2 := R2.out.frozen 2
        have HB3 := Hid.mk' B3
        have y4' := O3.out.cell 4 _ rfl
        have z0' := R3.out.cell 0 _ rfl
        have z1' := R3.out.cell 1 _ rfl
        have z2' := R3.out.cell 2 _ rfl
        clear M2 B3 oa oa3 hb2 KA RT HN
        generalize hw3 : w2.setCell ⟨wr.heap.size, 2, none⟩ (.slice pa (ckK m.cs k).hd.length qa) = w3 at *
        have N4 := below_new w3 (.cells #[.int .i64 (ckK m.cs k).pl, .int .i64 (ckK m.cs k).ct, .slice pa (ckK m.cs k).hd.length qa] 31)
        have B4 := Hid.mk' (HB3.out.trans (N4.mono HB3.out.size))
        have NC := Hid.mk' (new_cells' w3 31 [.int .i64 (ckK m.cs k).pl, .int .i64 (ckK m.cs k).ct, .slice pa (ckK m.cs k).hd.length qa] w3.heap.size rfl)
        have OV := Hid.mk' (own_keep KK.out.row B4.out)
        have OA4 := Hid.mk' (own_keep OA.out N4)
        have P1 : Hid (∀ u ∈ ([.int .i64 (ckK m.cs k).pl, .int .i64 (ckK m.cs k).ct, .slice pa (ckK m.cs k).hd.length qa] : List Value), u.oneCell' = true) := Hid.mk' (by
          intro u hu'
          simp only [List.mem_cons, List.not_mem_nil, or_false] at hu'
          rcases hu' with rfl | rfl | rfl <;> rfl)
        have SZ : Hid (U.heap.size ≤ (w3.alloc (.cells #[.int .i64 (ckK m.cs k).pl, .int .i64 (ckK m.cs k).ct, .slice pa (ckK m.cs k).hd.length qa] 31)).heap.size) := Hid.mk' (Nat.le_trans US.out B4.out.size)
        have O4 := Hid.mk' (OR.out.below B4.out)
        clear N4
        go_wp2_with (at_builtin; refine wpList_append_at _ rfl (.tmp 35) (.tmp 37) 25 rfl U.heap.size 31 (.agg #[.int .i64 0, .int .i64 0, .slice none 0 0]) 3 40 Tryz.underlying25 infoCheck rfl (by decide) _ _ _ rfl OV.out _ 1 _ [.int .i64 (ckK m.cs k).pl, .int .i64 (ckK m.cs k).ct, .slice pa (ckK m.cs k).hd.length qa] rfl rfl (.inr ⟨_, rfl, NC.out⟩) P1.out (by unfold maxLen; omega) (by omega) SZ.out ?_; intro v' w5 ho hgr hat; obtain ⟨pv, qv, rfl⟩ := own_form ho; have R5 : Hid (RowA w5 (V.heap.size) 27 #[.slice pd m.dt.length qd, .int .i64 m.st, .slice pt m.tk.length qt, .slice ph m.hd.length qh, .slice pc k qc]) := Hid.mk' ((hgr.block _ O4.out.lt (fun e => by have := own_lo OV.out _ e.symm; have := SU.out; omega)).trans O4.out); have y5 := R5.out.cell 4 _ rfl; have f5 := R5.out.frozen 4)
        have K5 := KK.out.app B4.out US.out OA4.out ho hgr hat
        have RF := Hid.mk' (R5.out.set 4 (.slice pv (k + 1) qv))
        have KF := Hid.mk' (K5.keep (w' := w5.setCell ⟨V.heap.size, 4, none⟩ (.slice pv (k + 1) qv)) (fun q a b => Deep.blk_setCell_other _ _ _ _ (by show q ≠ V.heap.size; have := SU.out; omega)))
        have PF := Hid.mk' (((KP.out.trans (KeptIn.of_below B4.out)).grown hgr (own_lo OV.out)).setCell (p := ⟨V.heap.size, 4, none⟩) (Nat.le_refl _) (Nat.lt_succ_self _) (.slice pv (k + 1) qv))
        clear K5 ho hgr hat
        go_roundw
        case rel => exact ⟨k + 1, .slice pv (k + 1) qv, _, by omega, by go_num, RF.out, KF.out, PF.out⟩
        case measure => simp [intOf]; omega
      · have ci : ¬ (k : Int) < (m.cs.length : Int) := by omega
        have e : k = m.cs.length := by omega
        subst e
        have BZ := Hid.mk' (HZ.out.below BR.out)
        have CE := Hid.mk' (cp_end (lo := w.heap.size) (g := w.heap.size + 1) ID.out IT.out IHU.out LH.out OD.out.2 OT.out.1 OT.out.2 OH.out.1 OH.out.2 EH.out PD.out PT.out PH.out SU.out (Nat.lt_of_lt_of_le VW.out OD.out.1) (Nat.le_succ _) KP.out KK.out #[.slice pd m.dt.length qd, .int .i64 m.st, .slice pt m.tk.length qt, .slice ph m.hd.length qh, .slice pc m.cs.length qc])
        have BW := Hid.mk' (RowA.putBelow (HB.out.trans (BR.out.mono HB.out.size)) (Nat.le_succ w.heap.size) #[.slice pd m.dt.length qd, .int .i64 m.st, .slice pt m.tk.length qt, .slice ph m.hd.length qh, .slice pc m.cs.length qc])
        have HF := Hid.mk' (BZ.out.put #[.slice pd m.dt.length qd, .int .i64 m.st, .slice pt m.tk.length qt, .slice ph m.hd.length qh, .slice pc m.cs.length qc])
        go_wp2_with (first | ((with_reducible refine wpList_load_row ?_ 27 (.tmp 3) ?_ (V.heap.size) ?_ 27 #[.slice pd m.dt.length qd, .int .i64 m.st, .slice pt m.tk.length qt, .slice ph m.hd.length qh, .slice pc m.cs.length qc] (0, 0) _ ?_ Tryz.underlying27 ?_ ?_ ?_); rfl; rfl; rfl; exact OR.out; rfl; kernel_rfl) | ((with_reducible refine wpList_store_row ?_ 27 (.tmp 2) (.tmp 40) ?_ (w.heap.size + 1) #[.slice pd m.dt.length qd, .int .i64 m.st, .slice pt m.tk.length qt, .slice ph m.hd.length qh, .slice pc m.cs.length qc] ?_ ?_ 27 #[.slice none 0 0, .int .i64 0, .slice none 0 0, .slice none 0 0, .slice none 0 0] ?_ ?_ ?_ ?_ ?_); rfl; rfl; rfl; rfl; exact BZ.out; kernel_rfl; rfl; kernel_rfl) | fail)
        refine bodyPost_ret (v := .agg #[.slice pd m.dt.length qd, .int .i64 m.st, .slice pt m.tk.length qt, .slice ph m.hd.length qh, .slice pc m.cs.length qc]) ?_ ?_ ?_
        · exact results_cell1 Tryz.results44 _ _ _ ⟨w.heap.size + 1, 0, none⟩ _ rfl (HF.out.load _ Tryz.underlying27 rfl (by kernel_rfl))
        · rfl
        exact ⟨pd, pt, ph, pc, qd, qt, qh, qc, rfl, CE.out, BW.out⟩

end Go.Proofs.YtieeojhdidjnaaaGreatDoor
