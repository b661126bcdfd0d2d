/- The text of a tree, the model's side. -/
import Derived.Test.YtcjnfodkppcpoaaDoorXUd
import Derived.Test.YtcjnfodkppcpoaaDoorXRm
namespace Go.Proofs.YtcjnfodkppcpoaaDoor
open Go.RowKit
set_option linter.unusedVariables false
set_option linter.unusedSimpArgs false

/-- A right tree whose elements have starts. -/
structure Good (l : List ND) : Prop where
  tree : treeF l = 0
  opens : opensF l = 0

theorem Good.op {l : List ND} (h : Good l) {k : Nat} (hk : k < l.length) : opF (ndK l k) = 0 := by
  have := firstF_zero _ _ _ h.opens k hk
  rwa [Nat.zero_add] at this

theorem Good.kind {l : List ND} (h : Good l) {k : Nat} (hk : k < l.length) : kindB (ndK l k) = true ∧ placeF l k = 0 := by
  have h1 := treeF_ones h.tree k hk
  unfold oneF at h1
  split at h1
  · rename_i h2
    refine ⟨?_, h1⟩
    unfold markF at h2
    split at h2
    · assumption
    · exact absurd h2 (by decide)
  · contradiction

theorem Good.text {l : List ND} (h : Good l) {k : Nat} (hk : k < l.length) (ht : ((ndK l k).tg.toList == []) = true) : (ndK l k).tx.length ≤ 240 := by
  have h1 := (h.kind hk).1
  unfold kindB at h1
  rw [if_pos ht] at h1
  simp only [Bool.and_eq_true, decide_eq_true_eq] at h1
  omega

theorem Good.el {l : List ND} (h : Good l) {k : Nat} (hk : k < l.length) (ht : ((ndK l k).tg.toList == []) = false) :
    (ndK l k).tg.size ≤ 8 ∧ (openT (ndK l k).tg (ndK l k).at_ false).length ≤ 160 ∧ (∀ i, i < (ndK l k).at_.length → (atK (ndK l k).at_ i).vl.length ≤ 160) ∧ tfault (startT (ndK l k).tg (ndK l k).at_) = 0 := by
  have h1 := h.op hk
  rw [opF_el ht] at h1
  unfold wtCode at h1
  split at h1
  · rename_i h2
    rw [if_pos (show (startT (ndK l k).tg (ndK l k).at_).kd = 2 from rfl)] at h1
    have h3 := (fine h2).2.2.2 (.inl rfl)
    have h4 : ¬ 160 < (openT (ndK l k).tg (ndK l k).at_ false).length := by
      unfold wsCode at h1
      split at h1
      · exact absurd h1 (by decide)
      · assumption
    exact ⟨h3, by omega, fun i hi => Nat.le_of_not_lt fun hc => h4 (openT_big hi hc), h2⟩
  · contradiction

theorem Good.nokids {l : List ND} (h : Good l) {m : Nat} (hm : m < l.length) (hh : holdB (ndK l m) = false) : endN l m = m + 1 := by
  have hw := treeF_ways h.tree
  obtain ⟨q1, q2, q3, q4⟩ := end_spec l hm
  by_cases c : m + 1 < endN l m
  · have h1 : m + 1 < l.length := by omega
    have h2 := q3 (m + 1) (by omega) c
    have h3 := dp_step hw h1
    have hu : upF l (m + 1) = (m : Int) := (kid_iff hw hm h1).2 ⟨by omega, c, by omega⟩
    have hp := (h.kind h1).2
    unfold placeF at hp
    rw [if_pos (hw (m + 1) h1), if_pos (show 0 ≤ (ndK l (m + 1)).up ∧ holdB (ndK l (ndK l (m + 1)).up.toNat) = false from by
      have : (ndK l (m + 1)).up = (m : Int) := hu
      rw [this]
      exact ⟨by omega, by rw [Int.toNat_natCast]; exact hh⟩)] at hp
    exact absurd hp (by decide)
  · omega

theorem Good.edge {l : List ND} (h : Good l) {k : Nat} (hk : k < l.length) (b : Bool) : (egE l (k, b)).length ≤ 1440 := by
  unfold egE egN
  cases b with
  | false =>
    dsimp only
    by_cases ht : ((ndK l k).tg.toList == []) = true
    · rw [if_pos ht]
      have := escAll_len (ndK l k).tx
      have := h.text hk ht
      omega
    · rw [if_neg ht]
      have := (h.el hk (by simpa using ht)).2.1
      omega
  | true =>
    dsimp only
    by_cases hh : holdB (ndK l k) = true
    · rw [if_pos hh]
      have ht : ((ndK l k).tg.toList == []) = false := by
        unfold holdB at hh
        simp only [Bool.and_eq_true, Bool.not_eq_true'] at hh
        exact hh.1
      have := (h.el hk ht).1
      simp only [List.length_append, List.length_cons, List.length_nil, Array.length_toList]
      have e : (ndK l k).tg.data.size = (ndK l k).tg.size := rfl
      omega
    · rw [if_neg hh]; simp

theorem evs_len (E : Nat → Nat) : ∀ (m i j : Nat), j - i ≤ m → (evs E i j).length ≤ 2 * (j - i)
  | 0, i, j, h => by rw [evs_nil (by omega)]; simp
  | m + 1, i, j, h => by
    by_cases c : i < j ∧ i < E i ∧ E i ≤ j
    · rw [evs_cons c.1 c.2.1 c.2.2]
      have h1 := evs_len E m (i + 1) (E i) (by omega)
      have h2 := evs_len E m (E i) j (by omega)
      simp only [List.length_cons, List.length_append]
      omega
    · rw [evs, dif_neg c]; simp

theorem evs_mem {l : List ND} : ∀ (m c i j : Nat) (x : Nat × Bool), j - i ≤ m → Seg l c i j → Ways l l.length → x ∈ evs (endN l) i j → x.1 < j
  | 0, c, i, j, x, h, hs, hw, hx => by rw [evs_nil (by omega)] at hx; cases hx
  | m + 1, c, i, j, x, h, hs, hw, hx => by
    by_cases hij : i < j
    · obtain ⟨f1, f2⟩ := hs.fst hij
      rw [evs_cons hij f1 f2] at hx
      rcases List.mem_cons.1 hx with e | hx
      · rw [e]; exact hij
      · rcases List.mem_append.1 hx with hx | hx
        · have := evs_mem m (c + 1) (i + 1) (endN l i) x (by omega) (hs.sub hw hij) hw hx
          omega
        · rcases List.mem_cons.1 hx with e | hx
          · rw [e]; exact hij
          · exact evs_mem m c (endN l i) j x (by omega) (hs.next hij) hw hx
    · rw [evs_nil hij] at hx; cases hx

theorem flat_len {α β : Type} (f : α → List β) (K : Nat) : ∀ (xs : List α), (∀ x ∈ xs, (f x).length ≤ K) → (xs.flatMap f).length ≤ K * xs.length
  | [], _ => by simp
  | x :: xs, h => by
    rw [List.flatMap_cons, List.length_append, List.length_cons]
    have h1 := h x (List.mem_cons_self ..)
    have h2 := flat_len f K xs (fun y hy => h y (List.mem_cons_of_mem _ hy))
    rw [Nat.mul_add, Nat.mul_one]
    omega

theorem Good.len {l : List ND} (h : Good l) {c i j : Nat} (hs : Seg l c i j) : (tx (egE l) (endN l) i j).length ≤ 172800 := by
  have hw := treeF_ways h.tree
  have hl := treeF_len h.tree
  have h1 := evs_len (endN l) (j - i) i j (Nat.le_refl _)
  have h2 : (tx (egE l) (endN l) i j).length ≤ 1440 * (evs (endN l) i j).length := flat_len _ _ _ (fun x hx => by
    have := evs_mem (j - i) c i j x (Nat.le_refl _) hs hw hx
    exact h.edge (by have := hs.lt; omega) x.2)
  have := hs.lt
  omega

/-- The kids of a node, as places. -/
abbrev ksOf (l : List ND) (m : Nat) : List Nat := pick (fun k => decide (dp l k = dp l m + 1)) (m + 1) (endN l m - (m + 1))

end Go.Proofs.YtcjnfodkppcpoaaDoor

/- The text of a node and of a tree, the model's side. -/
namespace Go.Proofs.YtcjnfodkppcpoaaDoor
open Go.RowKit
set_option linter.unusedVariables false
set_option linter.unusedSimpArgs false

/-- The text of a node. -/
abbrev nT (l : List ND) (k : Nat) : List UInt8 := tx (egE l) (endN l) k (endN l k)

theorem flat_take (f : Nat → List UInt8) : ∀ (ks : List Nat) (i : Nat), i < ks.length → (ks.take (i + 1)).flatMap f = (ks.take i).flatMap f ++ f (ks.getD i 0)
  | [], _, h => absurd h (Nat.not_lt_zero _)
  | x :: ks, 0, _ => by simp
  | x :: ks, i + 1, h => by
    have := flat_take f ks i (by simpa using h)
    simp only [List.take_succ_cons, List.flatMap_cons, this, List.append_assoc, List.getD_cons_succ]

theorem kid_wv (ks : List Nat) (i : Nat) (h : i < ks.length) : wv (ks.map (fun (j : Nat) => (j : Int))) i = ((ks.getD i 0 : Nat) : Int) := by
  unfold wv
  simp [List.getD_eq_getElem?_getD, h]

theorem getD_mem (ks : List Nat) (i : Nat) (h : i < ks.length) : ks.getD i 0 ∈ ks := by
  rw [List.getD_eq_getElem?_getD, List.getElem?_eq_getElem h]; exact List.getElem_mem _

theorem flat_le (f : Nat → List UInt8) : ∀ (ks : List Nat) (i : Nat), ((ks.take i).flatMap f).length ≤ (ks.flatMap f).length
  | [], i => by simp
  | x :: ks, 0 => by simp
  | x :: ks, i + 1 => by
    have := flat_le f ks i
    simp only [List.take_succ_cons, List.flatMap_cons, List.length_append]
    omega

set_option maxRecDepth 100000 in
set_option maxHeartbeats 6400000 in
theorem l10Write_any (a : Option Addr) (c : Nat) (l : List ND) (G : Good l) (hB : NB l) (hl : (l.length : Int) + nssz l ≤ 1048576) :
    ∀ (N m : Nat) (w : World), l.length - m = N → m < l.length → NsAt w a l →
    Calls Tryd.prog 36 #[.slice a l.length c, .int .i64 (m : Int)] w fun e w' => e = .returned (.string ⟨(nT l m).toArray⟩) ∧ Below w.heap.size w w' := by
  intro N
  induction N using Nat.strongRecOn with
  | _ N ih =>
    intro m w hN hm ha
    have hw := treeF_ways G.tree
    have h60 := treeF_len G.tree
    obtain ⟨q1, q2, q3, q4⟩ := end_spec l hm
    have HA := Hid.mk' ha
    rcases ha with h0 | ⟨b, o, rfl, hbs, hc⟩
    · exact absurd hm (by rw [h0]; exact Nat.not_lt_zero _)
    obtain ⟨d0, d1, ⟨p, pc, d2, hpc, hat⟩, ⟨p', pc', d3, htx⟩⟩ := hc m hm
    have hsz := nsz_k l m hm
    unfold nsz at hsz
    have KK := Hid.mk' (fun (w' : World) (hb : Below w.heap.size w w') => l6Kids_any (some ⟨b, o, none⟩) c l (m : Int) w' (HA.out.below hb) h60)
    have ks : kidsU (upF l) (m : Int) l.length = (ksOf l m).map (fun (j : Nat) => (j : Int)) := kids_of hw hm
    have FL := Hid.mk' (Seg.flat (egE l) (endN l m - (m + 1)) (dp l m + 1) (m + 1) (endN l m) (Nat.le_refl _) (Seg.kids hw hm))
    have ONE := Hid.mk' (tx_one (eg := egE l) (E := endN l) q1)
    have LEN := G.len (Seg.kids hw hm)
    have NK := Hid.mk' (fun hh => G.nokids hm hh)
    have ci : (m : Int) < (l.length : Int) := by omega
    by_cases ht : ((ndK l m).tg.toList == []) = true
    · have E1 : Hid (nT l m = escAll (ndK l m).tx) := Hid.mk' (by
        have hh : holdB (ndK l m) = false := by unfold holdB; rw [ht]; rfl
        show tx (egE l) (endN l) m (endN l m) = _
        rw [ONE.out]
        have e2 : tx (egE l) (endN l) (m + 1) (endN l m) = [] := by unfold tx; rw [evs_nil (by rw [NK.out hh]; omega)]; rfl
        rw [e2]
        show egN (ndK l m) false ++ ([] ++ egN (ndK l m) true) = _
        unfold egN
        dsimp only
        rw [if_pos ht, hh]
        simp)
      have KE := Hid.mk' (l2Escape_any p' pc' (ndK l m).tx w htx (hB m hm).2 (by have := G.text hm ht; omega))
      clear ih KK ks FL ONE LEN NK hc hat htx hB
      generalize ndK l m = t at *
      obtain ⟨up, tg, at_, tx_⟩ := t
      dsimp only at *
      go_enter Tryd.func36, Tryd.ntmps36
      go_wp2_with fail
      refine KE.out.mono ?_
      rintro e w1 ⟨rfl, hb1⟩
      clear KE
      go_wp2
      go_ret
      exact ⟨by rw [E1.out]; rfl, hb1⟩
    · have hf : ((ndK l m).tg.toList == []) = false := by simpa using ht
      obtain ⟨g1, g2, g3, g4⟩ := G.el hm hf
      have KO := Hid.mk' (fun (w' : World) (hb : Below w.heap.size w w') => l4Open_any (ndK l m).tg p pc (ndK l m).at_ false w' (hat.below hb) (hB m hm).1 g3 (by omega) (by omega))
      have IH : Hid (∀ (k : Nat) (w' : World), m < k → k < l.length → Below w.heap.size w w' → Calls Tryd.prog 36 #[.slice (some ⟨b, o, none⟩) l.length c, .int .i64 (k : Int)] w' fun e w'' => e = .returned (.string ⟨(nT l k).toArray⟩) ∧ Below w'.heap.size w' w'') :=
        Hid.mk' (fun k w' h1 h2 hb => ih (l.length - k) (by omega) k w' rfl h2 (HA.out.below hb))
      clear ih
      by_cases hv : voidB (ndK l m).tg = true
      · have E1 : Hid (nT l m = openT (ndK l m).tg (ndK l m).at_ false) := Hid.mk' (by
          have hh : holdB (ndK l m) = false := by unfold holdB; rw [hf, hv]; rfl
          show tx (egE l) (endN l) m (endN l m) = _
          rw [ONE.out]
          have e2 : tx (egE l) (endN l) (m + 1) (endN l m) = [] := by unfold tx; rw [evs_nil (by rw [NK.out hh]; omega)]; rfl
          rw [e2]
          show egN (ndK l m) false ++ ([] ++ egN (ndK l m) true) = _
          unfold egN
          dsimp only
          rw [hh, hf]
          simp)
        have KV := Hid.mk' (fun w' => l6Void_any (ndK l m).tg w')
        clear KK ks FL ONE LEN NK hc hat htx hB IH ht g3 g4
        generalize ndK l m = t at *
        obtain ⟨up, tg, at_, tx_⟩ := t
        dsimp only at *
        go_enter Tryd.func36, Tryd.ntmps36
        go_wp2_with fail
        go_region_held3 (fun w' => w'.cell? ⟨b, o + m * 4 + 1, none⟩ = some (.string tg) ∧ w'.cell? ⟨b, o + m * 4 + 2, none⟩ = some (.slice p at_.length pc)) (simp [*])
          ((go_at_call 58; refine (KO.out _ ((Below.refl _ _).drew)).mono ?_; rintro e w1 ⟨rfl, hb1⟩; replace hb1 := undrew hb1; obtain ⟨hx1, hx2⟩ := bcell hb1; have zz1 := hb1.size))
        rename_i hHl
        clear hHl hx1 hx2 zz1
        obtain ⟨x1, x2⟩ := bcell hb1
        have e1 : w1.cell? ⟨b, o + m * 4 + 1, none⟩ = some (.string tg) := by rw [x1 _ _ hbs]; exact d1
        have KV1 := Hid.mk' (KV.out w1)
        rw [hv] at KV1
        clear KO KV x1 x2 d0 d1 d2 d3
        go_wp2_with fail
        refine KV1.out.mono ?_
        rintro e w2 ⟨rfl, hw2⟩
        obtain rfl := hw2.symm
        clear KV1
        go_wp2
        go_ret
        exact ⟨by rw [E1.out]; rfl, hb1⟩
      · have hvf : voidB (ndK l m).tg = false := by simpa using hv
        have E1 : Hid (nT l m = openT (ndK l m).tg (ndK l m).at_ false ++ ((ksOf l m).flatMap (fun k => nT l k) ++ ([60, 47] ++ ((ndK l m).tg.data.toList ++ [62])))) := Hid.mk' (by
          have hh : holdB (ndK l m) = true := by unfold holdB; rw [hf, hvf]; rfl
          show tx (egE l) (endN l) m (endN l m) = _
          rw [ONE.out, FL.out]
          show egN (ndK l m) false ++ (_ ++ egN (ndK l m) true) = _
          unfold egN
          dsimp only
          rw [hh, hf]
          rfl)
        have LK : ((ksOf l m).flatMap (fun k => nT l k)).length ≤ 172800 := by rw [← FL.out]; exact LEN
        have MEM : Hid (∀ i, i < (ksOf l m).length → m < (ksOf l m).getD i 0 ∧ (ksOf l m).getD i 0 < l.length) := Hid.mk' (fun i hi => by
          have h := getD_mem (ksOf l m) i hi
          generalize (ksOf l m).getD i 0 = y at h ⊢
          have := pick_mem _ _ h
          omega)
        have KV := Hid.mk' (fun w' => l6Void_any (ndK l m).tg w')
        have TK := Hid.mk' (fun i hi => flat_take (fun k => nT l k) (ksOf l m) i hi)
        have LE := Hid.mk' (fun i => flat_le (fun k => nT l k) (ksOf l m) i)
        have WV := Hid.mk' (fun i hi => kid_wv (ksOf l m) i hi)
        have KL60 : (ksOf l m).length ≤ 60 := by
          have := kidsU_len (upF l) (m : Int) l.length
          rw [ks, List.length_map] at this
          omega
        rw [ks] at KK
        have KLEN : Hid (((ksOf l m).map (fun (j : Nat) => (j : Int))).length = (ksOf l m).length) := Hid.mk' (by simp)
        clear ks FL ONE LEN NK hc hat htx hB ht g3 g4
        generalize ksOf l m = K at *
        generalize hnd : ndK l m = t at *
        obtain ⟨up, tg, at_, tx_⟩ := t
        dsimp only at *
        generalize openT tg at_ false = OP at *
        go_enter Tryd.func36, Tryd.ntmps36
        go_wp2_with fail
        go_region_held3 (fun w' => w'.cell? ⟨b, o + m * 4 + 1, none⟩ = some (.string tg) ∧ w'.cell? ⟨b, o + m * 4 + 2, none⟩ = some (.slice p at_.length pc)) (simp [*])
          ((go_at_call 58; refine (KO.out _ ((Below.refl _ _).drew)).mono ?_; rintro e w1 ⟨rfl, hb1⟩; replace hb1 := undrew hb1; obtain ⟨hx1, hx2⟩ := bcell hb1; have zz1 := hb1.size))
        rename_i hHl
        clear hHl hx1 hx2 zz1
        obtain ⟨x1, x2⟩ := bcell hb1
        have e1 : w1.cell? ⟨b, o + m * 4 + 1, none⟩ = some (.string tg) := by rw [x1 _ _ hbs]; exact d1
        have KV1 := Hid.mk' (KV.out w1)
        rw [hvf] at KV1
        have KK1 := Hid.mk' (KK.out w1 hb1)
        have HB1 := Hid.mk' hb1
        have z1 := hb1.size
        clear KO KV KK x1 x2 d0 d1 d2 d3 hb1
        go_wp2_with fail
        refine KV1.out.mono ?_
        rintro e w2 ⟨rfl, hw2⟩
        obtain rfl := hw2.symm
        clear KV1
        go_wp2_with fail
        refine KK1.out.mono ?_
        rintro e w3 ⟨v, rfl, hown, hb3⟩
        have HB3 := Hid.mk' (HB1.out.trans (hb3.mono HB1.out.size))
        have e3 : w3.cell? ⟨b, o + m * 4 + 1, none⟩ = some (.string tg) := by rw [(bcell hb3).1 _ _ (by omega)]; exact e1
        have z3 := hb3.size
        obtain ⟨av, cv, ev, _⟩ := own_len hown
        subst ev
        rw [KLEN.out] at hown ⊢
        have IAT : Hid (∀ i, i < K.length → ∃ g, av = some ⟨g, 0, none⟩ ∧ g < w3.heap.size ∧ w3.cell? ⟨g, i, none⟩ = some (.int .i64 ((K.getD i 0 : Nat) : Int))) := Hid.mk' (fun i hi => by
          have hown' : w3.ownsRow w1.heap.size 2 1 (.slice av K.length cv) K.length (ics (K.map (fun (j : Nat) => (j : Int)))) := hown
          obtain ⟨g, cap, e, _, hg, _, hcells⟩ := own_spot hown' (by omega)
          cases e
          refine ⟨g, rfl, hg, ?_⟩
          have := hcells i (by omega)
          rw [this, ics_get _ i (by rw [KLEN.out]; exact hi), WV.out i hi])
        clear hb3 hown KK1 e1 KLEN WV
        go_wp2_with fail
        go_loopw [6, 8] (fun out x wr => ∃ i : Nat, i ≤ K.length ∧ x = .int .i64 i ∧ out = .string ⟨(OP ++ (K.take i).flatMap (fun k => nT l k)).toArray⟩ ∧ Below w3.heap.size w3 wr) (fun _ x _ => K.length - (intOf x).toNat)
        case atStart => exact ⟨0, Nat.zero_le _, rfl, by simp, Below.refl _ _⟩
        case round =>
          obtain ⟨i, hi, rfl, rfl, hb⟩ := hrel
          by_cases hlt : i < K.length
          · have ci2 : (i : Int) < (K.length : Int) := by omega
            obtain ⟨g, rfl, hg, hcell⟩ := IAT.out i hlt
            have hc2 : wr.cell? ⟨g, i, none⟩ = some (.int .i64 ((K.getD i 0 : Nat) : Int)) := by rw [(bcell hb).1 _ _ hg]; exact hcell
            have T1 := TK.out i hlt
            have L1 := LE.out i
            have L2 := LE.out (i + 1)
            rw [T1, List.length_append] at L2
            have KW := Hid.mk' (IH.out (K.getD i 0) wr (MEM.out i hlt).1 (MEM.out i hlt).2 (HB3.out.trans (hb.mono HB3.out.size)))
            have HBW := Hid.mk' hb
            have TT1 := Hid.mk' T1
            clear T1 hcell hb
            generalize K.getD i 0 = kd at *
            generalize (K.take i).flatMap (fun k => nT l k) = PRE at *
            generalize nT l kd = TXK at *
            go_wp2_with fail
            refine KW.out.mono ?_
            rintro e wk ⟨rfl, hbk⟩
            have HBK := Hid.mk' (HBW.out.trans (hbk.mono HBW.out.size))
            clear KW hbk hc2
            have sz1 : (⟨(OP ++ PRE).toArray⟩ : ByteArray).size ≤ 172960 := by rw [ba_size, List.length_append]; omega
            have sz2 : (⟨TXK.toArray⟩ : ByteArray).size ≤ 172800 := by rw [ba_size]; omega
            go_wp2
            go_roundw
            case rel => exact ⟨i + 1, by omega, by go_num, by rw [cat_list, TT1.out, List.append_assoc], HBK.out⟩
            case measure => simp [intOf]; omega
          · have ci2 : ¬ (i : Int) < (K.length : Int) := by omega
            have hik : i = K.length := by omega
            have HBW := Hid.mk' hb
            have e4 : wr.cell? ⟨b, o + m * 4 + 1, none⟩ = some (.string tg) := by rw [(bcell hb).1 _ _ (by omega)]; exact e3
            rw [hik, List.take_length]
            have LF : ((K.flatMap (fun k => nT l k))).length ≤ 172800 := LK
            generalize hFM : K.flatMap (fun k => nT l k) = FM at *
            have sz1 : (⟨(OP ++ FM).toArray⟩ : ByteArray).size ≤ 172960 := by rw [ba_size, List.length_append]; omega
            clear hb e3 IAT MEM TK LE IH
            go_wp2
            go_ret
            refine ⟨?_, HB3.out.trans (HBW.out.mono HB3.out.size)⟩
            rw [E1.out]
            exact congrArg (fun x => Ending.returned (Value.string x)) (by rw [cat_ba, cat_ba, cat_ba]; simp)
end Go.Proofs.YtcjnfodkppcpoaaDoor

/- WriteTree and WriteNode, the model's side. -/
namespace Go.Proofs.YtcjnfodkppcpoaaDoor
open Go.RowKit Go.Maps
set_option linter.unusedVariables false
set_option linter.unusedSimpArgs false

/-- The text of a tree. -/
abbrev aT (l : List ND) : List UInt8 := tx (egE l) (endN l) 0 l.length

set_option maxRecDepth 100000 in
set_option maxHeartbeats 6400000 in
theorem l10All_any (a : Option Addr) (c : Nat) (l : List ND) (G : Good l) (hB : NB l) (hl : (l.length : Int) + nssz l ≤ 1048576) (w : World) (ha : NsAt w a l) :
    Calls Tryd.prog 22 #[.slice a l.length c] w fun e w' => e = .returned (.string ⟨(aT l).toArray⟩) ∧ Below w.heap.size w w' := by
  have hw := treeF_ways G.tree
  have h60 := treeF_len G.tree
  have ks := kids_top hw
  have FL : aT l = (pick (fun k => decide (dp l k = 0)) 0 (l.length - 0)).flatMap (fun k => nT l k) := Seg.flat (egE l) (l.length - 0) 0 0 l.length (Nat.le_refl _) (Seg.top hw)
  have LK := G.len (Seg.top hw)
  have MEM0 : ∀ i, i < (pick (fun k => decide (dp l k = 0)) 0 (l.length - 0)).length → (pick (fun k => decide (dp l k = 0)) 0 (l.length - 0)).getD i 0 < l.length := fun i hi => by
    have h := getD_mem _ i hi
    generalize (pick (fun k => decide (dp l k = 0)) 0 (l.length - 0)).getD i 0 = y at h ⊢
    have := pick_mem _ _ h
    omega
  have KL60 : (pick (fun k => decide (dp l k = 0)) 0 (l.length - 0)).length ≤ 60 := by
    have := kidsU_len (upF l) (-1) l.length
    rw [ks, List.length_map] at this
    omega
  have KK := Hid.mk' (l6Kids_any a c l (-1) w ha h60)
  rw [ks] at KK
  have IH : Hid (∀ (k : Nat) (w' : World), k < l.length → Below w.heap.size w w' → Calls Tryd.prog 36 #[.slice a l.length c, .int .i64 (k : Int)] w' fun e w'' => e = .returned (.string ⟨(nT l k).toArray⟩) ∧ Below w'.heap.size w' w'') :=
    Hid.mk' (fun k w' h2 hb => l10Write_any a c l G hB hl (l.length - k) k w' rfl h2 (ha.below hb))
  have E1 := Hid.mk' FL
  have LK : ((pick (fun k => decide (dp l k = 0)) 0 (l.length - 0)).flatMap (fun k => nT l k)).length ≤ 172800 := by rw [← FL]; exact LK
  clear FL ks ha hB
  generalize pick (fun k => decide (dp l k = 0)) 0 (l.length - 0) = K at *
  have MEM := Hid.mk' MEM0
  have TK := Hid.mk' (fun i hi => flat_take (fun k => nT l k) K i hi)
  have LE := Hid.mk' (fun i => flat_le (fun k => nT l k) K i)
  have WV := Hid.mk' (fun i hi => kid_wv K i hi)
  have KLEN : Hid ((K.map (fun (j : Nat) => (j : Int))).length = K.length) := Hid.mk' (by simp)
  obtain ⟨OP, hOP⟩ : ∃ OP : List UInt8, OP = [] := ⟨_, rfl⟩
  have OPL : OP.length ≤ 160 := by rw [hOP]; simp
  have HOP := Hid.mk' hOP
  clear MEM0 hOP
  go_enter Tryd.func22, Tryd.ntmps22
  go_wp2_with fail
  refine KK.out.mono ?_
  rintro e w3 ⟨v, rfl, hown, hb3⟩
  have HB3 := Hid.mk' hb3
  obtain ⟨av, cv, ev, _⟩ := own_len hown
  subst ev
  rw [KLEN.out] at hown ⊢
  have IAT : Hid (∀ i, i < K.length → ∃ g, av = some ⟨g, 0, none⟩ ∧ g < w3.heap.size ∧ w3.cell? ⟨g, i, none⟩ = some (.int .i64 ((K.getD i 0 : Nat) : Int))) := Hid.mk' (fun i hi => by
    have hown' : w3.ownsRow w.heap.size 2 1 (.slice av K.length cv) K.length (ics (K.map (fun (j : Nat) => (j : Int)))) := hown
    obtain ⟨g, cap, e, _, hg, _, hcells⟩ := own_spot hown' (by omega)
    cases e
    refine ⟨g, rfl, hg, ?_⟩
    have := hcells i (by omega)
    rw [this, ics_get _ i (by rw [KLEN.out]; exact hi), WV.out i hi])
  clear hb3 hown KK KLEN WV
  go_wp2_with fail
  go_loopw [3, 5] (fun out x wr => ∃ i : Nat, i ≤ K.length ∧ x = .int .i64 i ∧ out = .string ⟨(OP ++ (K.take i).flatMap (fun k => nT l k)).toArray⟩ ∧ Below w3.heap.size w3 wr) (fun _ x _ => K.length - (intOf x).toNat)
  case atStart => exact ⟨0, Nat.zero_le _, rfl, by rw [HOP.out]; rfl, Below.refl _ _⟩
  case round =>
    obtain ⟨i, hi, rfl, rfl, hb⟩ := hrel
    by_cases hlt : i < K.length
    · have ci2 : (i : Int) < (K.length : Int) := by omega
      obtain ⟨g, rfl, hg, hcell⟩ := IAT.out i hlt
      have hc2 : wr.cell? ⟨g, i, none⟩ = some (.int .i64 ((K.getD i 0 : Nat) : Int)) := by rw [(bcell hb).1 _ _ hg]; exact hcell
      have T1 := TK.out i hlt
      have L1 := LE.out i
      have L2 := LE.out (i + 1)
      rw [T1, List.length_append] at L2
      have KW := Hid.mk' (IH.out (K.getD i 0) wr (MEM.out i hlt) (HB3.out.trans (hb.mono HB3.out.size)))
      have HBW := Hid.mk' hb
      have TT1 := Hid.mk' T1
      clear T1 hcell hb
      generalize K.getD i 0 = kd at *
      generalize (K.take i).flatMap (fun k => nT l k) = PRE at *
      generalize nT l kd = TXK at *
      go_wp2_with fail
      refine KW.out.mono ?_
      rintro e wk ⟨rfl, hbk⟩
      have HBK := Hid.mk' (HBW.out.trans (hbk.mono HBW.out.size))
      clear KW hbk hc2
      have sz1 : (⟨(OP ++ PRE).toArray⟩ : ByteArray).size ≤ 172960 := by rw [ba_size, List.length_append]; omega
      have sz2 : (⟨TXK.toArray⟩ : ByteArray).size ≤ 172800 := by rw [ba_size]; omega
      go_wp2
      go_roundw
      case rel => exact ⟨i + 1, by omega, by go_num, by rw [cat_list, TT1.out, List.append_assoc], HBK.out⟩
      case measure => simp [intOf]; omega
    · have ci2 : ¬ (i : Int) < (K.length : Int) := by omega
      have hik : i = K.length := by omega
      have HBW := Hid.mk' hb
      rw [hik, List.take_length]
      generalize hFM : K.flatMap (fun k => nT l k) = FM at *
      clear hb IAT MEM TK LE IH
      go_wp2
      go_ret
      refine ⟨?_, HB3.out.trans (HBW.out.mono HB3.out.size)⟩
      rw [E1.out, HOP.out]
      rfl
end Go.Proofs.YtcjnfodkppcpoaaDoor

/- WriteTree and WriteNode, the model's side. -/
namespace Go.Proofs.YtcjnfodkppcpoaaDoor
open Go.RowKit Go.Maps
set_option linter.unusedVariables false
set_option linter.unusedSimpArgs false

/-- A text as an answer. -/
def ansT (T : List UInt8) : Int × List Int := if 240 < T.length then (6, []) else (0, bytesL ⟨T.toArray⟩)
theorem ansT_big {T : List UInt8} (h : 240 < T.length) : ansT T = (6, []) := if_pos h
theorem ansT_fit {T : List UInt8} (h : ¬ 240 < T.length) : ansT T = (0, bytesL ⟨T.toArray⟩) := if_neg h

/-- What WriteTree answers. -/
def wtF (l : List ND) : Int × List Int := if treeF l = 0 then (if opensF l = 0 then ansT (aT l) else (opensF l, [])) else (treeF l, [])

/-- What WriteNode answers. -/
def wnF (l : List ND) (x : Int) : Int × List Int := if treeF l = 0 then (if 0 ≤ x ∧ x < (l.length : Int) then (if opensF l = 0 then ansT (nT l x.toNat) else (opensF l, [])) else (3, [])) else (treeF l, [])

theorem ansT_len (T : List UInt8) : ((ansT T).2.length : Int) ≤ 1048576 := by
  unfold ansT
  split
  · simp
  · rw [bytesL_len]
    have : (⟨T.toArray⟩ : ByteArray).size = T.length := by simp [ByteArray.size]
    omega

theorem wtF_len (l : List ND) : ((wtF l).2.length : Int) ≤ 1048576 := by
  unfold wtF
  split
  · split
    · exact ansT_len _
    · simp
  · simp

theorem wnF_len (l : List ND) (x : Int) : ((wnF l x).2.length : Int) ≤ 1048576 := by
  unfold wnF
  split
  · split
    · split
      · exact ansT_len _
      · simp
    · simp
  · simp

/-- The code that is asked first. -/
def askW (l : List ND) : Int := if treeF l = 0 then opensF l else treeF l

set_option maxHeartbeats 800000 in
theorem l10Asked_any (a : Option Addr) (c : Nat) (l : List ND) (w : World) (ha : NsAt w a l) (hB : NB l) (hl : (l.length : Int) + nssz l ≤ 1048576) :
    Calls Tryd.prog 21 #[.slice a l.length c] w fun e w' => e = .returned (.int .i64 (askW l)) ∧ Below w.heap.size w w' := by
  have KF := Hid.mk' (l6Fault_any a c l w ha hl)
  have KO : Hid (∀ w', Below w.heap.size w w' → Calls Tryd.prog 35 #[.slice a l.length c] w' fun e w'' => e = .returned (.int .i64 (opensF l)) ∧ Below w'.heap.size w' w'') := Hid.mk' (fun w' hb => l10Opens_any a c l w' (ha.below hb) hB hl)
  clear ha hB
  unfold askW
  by_cases h0 : treeF l = 0
  · rw [if_pos h0]
    rw [h0] at KF
    go_enter Tryd.func21, Tryd.ntmps21
    go_wp2_with fail
    refine KF.out.mono ?_
    rintro e w1 ⟨rfl, hb1⟩
    clear KF
    have KO1 := Hid.mk' (KO.out w1 hb1)
    have HB1 := Hid.mk' hb1
    clear KO hb1
    go_wp2_with fail
    refine KO1.out.mono ?_
    rintro e w2 ⟨rfl, hb2⟩
    have HB2 := Hid.mk' (HB1.out.trans (hb2.mono HB1.out.size))
    clear KO1 hb2
    go_wp2
    go_ret
    exact ⟨rfl, HB2.out⟩
  · rw [if_neg h0]
    have h0b : (treeF l != 0) = true := by simp [h0]
    generalize treeF l = C at *
    go_enter Tryd.func21, Tryd.ntmps21
    go_wp2_with fail
    refine KF.out.mono ?_
    rintro e w1 ⟨rfl, hb1⟩
    have HB1 := Hid.mk' hb1
    clear KF KO hb1
    go_wp2
    go_ret
    exact ⟨rfl, HB1.out⟩

theorem wtF_cases (l : List ND) : (¬ askW l = 0 → wtF l = (askW l, [])) ∧ (askW l = 0 → Good l ∧ wtF l = ansT (aT l)) := by
  unfold askW wtF
  by_cases h0 : treeF l = 0
  · rw [if_pos h0, if_pos h0]
    exact ⟨fun h => by rw [if_neg h], fun h => ⟨⟨h0, h⟩, by rw [if_pos h]⟩⟩
  · rw [if_neg h0, if_neg h0]
    exact ⟨fun _ => rfl, fun h => absurd h h0⟩

set_option maxRecDepth 100000 in
set_option maxHeartbeats 3200000 in
theorem specWR_any (a : Option Addr) (c : Nat) (l : List ND) (w : World) (ha : NsAt w a l) (hB : NB l) (hl : (l.length : Int) + nssz l ≤ 1048576) :
    Calls Tryd.prog 7 #[.slice a l.length c] w fun e w' => KqP (wtF l) w e w' := by
  have N0 := below_new w (.cells #[.int .i64 0, .slice none 0 0] 26)
  have HB0 := Hid.mk' N0
  have HR := Hid.mk' (rowQ2 w 26 (.int .i64 0) (.slice none 0 0))
  have KA := Hid.mk' (l10Asked_any a c l _ (ha.below N0) hB hl)
  have HA := Hid.mk' ha
  have CS := Hid.mk' (wtF_cases l)
  have KT : Hid (askW l = 0 → ∀ w', Below w.heap.size w w' → Calls Tryd.prog 22 #[.slice a l.length c] w' fun e w'' => e = .returned (.string ⟨(aT l).toArray⟩) ∧ Below w'.heap.size w' w'') := Hid.mk' (fun h w' hb => l10All_any a c l ((wtF_cases l).2 h).1 hB hl w' (ha.below hb))
  clear ha hB N0
  generalize wtF l = R at *
  generalize hW : w.alloc (.cells #[.int .i64 0, .slice none 0 0] 26) = W at *
  go_enter Tryd.func7, Tryd.ntmps7
  go_wp2_with fail
  clear hW
  refine KA.out.mono ?_
  rintro e w2 ⟨rfl, hb2⟩
  have HB := Hid.mk' (HB0.out.trans (hb2.mono HB0.out.size))
  have HR := Hid.mk' (rowB HR.out hb2)
  clear hb2 KA HB0
  by_cases h0 : askW l = 0
  · have KT1 := Hid.mk' (KT.out h0 w2 HB.out)
    have E0 := Hid.mk' (CS.out.2 h0).2
    rw [h0]
    clear KT CS
    generalize aT l = T at *
    go_wp2_with fail
    refine KT1.out.mono ?_
    rintro e W2 ⟨rfl, hb3⟩
    have HB := Hid.mk' (HB.out.trans (hb3.mono HB.out.size))
    have HR2 := Hid.mk' (rowB HR.out hb3)
    obtain ⟨y0, y1, y2⟩ := cellsQ2 (rowB HR.out hb3)
    obtain ⟨f0, f1⟩ := frzQ2 (rowB HR.out hb3)
    have hts : (⟨T.toArray⟩ : ByteArray).size = T.length := by simp [ByteArray.size]
    clear hb3 KT1 h0
    by_cases h1 : 240 < T.length
    · have E := Hid.mk' (E0.out.trans (ansT_big h1))
      have h1' : (240 : Int) < ((⟨T.toArray⟩ : ByteArray).size : Int) := by rw [hts]; omega
      clear hts
      generalize (⟨T.toArray⟩ : ByteArray) = TB at *
      go_wp2_with fail
      refine bodyPost_ret (v := .agg #[.int .i64 6, .slice none 0 0]) (by simp [results, Tryd.results7, go_sem, *]) rfl ?_
      exact kqP_nil E.out ((HB.out.setCell (p := ⟨w.heap.size, 0, none⟩) (by simp) _).setCell (p := ⟨w.heap.size, 1, none⟩) (by simp) _)
    · have E := Hid.mk' (E0.out.trans (ansT_fit h1))
      have h1' : ¬ (240 : Int) < ((⟨T.toArray⟩ : ByteArray).size : Int) := by rw [hts]; omega
      clear hts
      generalize (⟨T.toArray⟩ : ByteArray) = TB at *
      have hcv : ∀ X : World, (convert 9 24 (.string TB)).run Tryd.prog X = .ok (.slice (some ⟨X.heap.size, 0, none⟩) TB.size (grownCap X TB.size 0 5)) (Lib.bytesWorld X 5 TB) := fun X => Lib.run_convert_string_bytes (P := Tryd.prog) X 9 24 5 TB Tryd.underlying9 Tryd.underlying24 Tryd.underlying5
      have HBW := Hid.mk' (show Below W2.heap.size W2 (Lib.bytesWorld W2 5 TB) from Lib.bytesWorld_below W2 5 TB)
      have HAT := Hid.mk' (show BAt (Lib.bytesWorld W2 5 TB) (some ⟨W2.heap.size, 0, none⟩) (bytesL TB) from bytes_at W2 TB)
      have HL := Hid.mk' (bytesL_len TB)
      have HFA := Hid.mk' (bytes_free W2 TB)
      have HSZ := Hid.mk' y2
      have HSW := Hid.mk' HB.out.size
      obtain ⟨z0, z1, z2⟩ := cellsQ2 (rowB HR2.out HBW.out)
      obtain ⟨g0, g1⟩ := frzQ2 (rowB HR2.out HBW.out)
      go_wp2_with fail
      have HB3 := Hid.mk' (HB.out.trans (HBW.out.mono HB.out.size))
      generalize Lib.bytesWorld W2 5 TB = W3 at *
      generalize grownCap W2 TB.size 0 5 = cp at *
      refine bodyPost_ret (v := .agg #[.int .i64 0, .slice (some ⟨W2.heap.size, 0, none⟩) TB.size cp]) (by simp [results, Tryd.results7, go_sem, *]) rfl ?_
      refine ⟨some ⟨W2.heap.size, 0, none⟩, cp, ?_, ?_, ?_, (fun b o e => by cases e; exact HSW.out), (HB3.out.setCell (p := ⟨w.heap.size, 0, none⟩) (by simp) _).setCell (p := ⟨w.heap.size, 1, none⟩) (by simp) _⟩
      · rw [E.out]
        show _ = Ending.returned (.agg #[.int .i64 0, .slice _ (bytesL TB).length _])
        rw [HL.out]
      · rw [E.out]
        exact HAT.out.setTwo (fun b o e _ => by cases e; have := HSZ.out; omega)
      · rw [E.out]
        show FrA _ _ (bytesL TB).length
        rw [HL.out]
        exact HFA.out.setTwo
  · have E := Hid.mk' (CS.out.1 h0)
    have h0b : (askW l != 0) = true := by simp [h0]
    clear KT CS
    generalize askW l = C at *
    obtain ⟨y0, y1, y2⟩ := cellsQ2 HR.out
    obtain ⟨f0, f1⟩ := frzQ2 HR.out
    go_wp2_with fail
    refine bodyPost_ret (v := .agg #[.int .i64 C, .slice none 0 0]) (by simp [results, Tryd.results7, go_sem, *]) rfl ?_
    exact kqP_nil E.out ((HB.out.setCell (p := ⟨w.heap.size, 0, none⟩) (by simp) _).setCell (p := ⟨w.heap.size, 1, none⟩) (by simp) _)

theorem wnF_cases (l : List ND) (x : Int) : (¬ treeF l = 0 → wnF l x = (treeF l, [])) ∧ (treeF l = 0 → ¬ (0 ≤ x ∧ x < (l.length : Int)) → wnF l x = (3, [])) ∧ (treeF l = 0 → (0 ≤ x ∧ x < (l.length : Int)) → ¬ opensF l = 0 → wnF l x = (opensF l, [])) ∧ (treeF l = 0 → (0 ≤ x ∧ x < (l.length : Int)) → opensF l = 0 → Good l ∧ wnF l x = ansT (nT l x.toNat)) := by
  unfold wnF
  exact ⟨fun h => by rw [if_neg h], fun h k => by rw [if_pos h, if_neg k], fun h k j => by rw [if_pos h, if_pos k, if_neg j], fun h k j => ⟨⟨h, j⟩, by rw [if_pos h, if_pos k, if_pos j]⟩⟩

set_option maxRecDepth 100000 in
set_option maxHeartbeats 3200000 in
theorem specWN_any (a : Option Addr) (c : Nat) (l : List ND) (x : Int) (w : World) (ha : NsAt w a l) (hB : NB l) (hl : (l.length : Int) + nssz l ≤ 1048576) :
    Calls Tryd.prog 15 #[.slice a l.length c, .int .i64 x] w fun e w' => KqP (wnF l x) w e w' := by
  have N0 := below_new w (.cells #[.int .i64 0, .slice none 0 0] 26)
  have HB0 := Hid.mk' N0
  have HR := Hid.mk' (rowQ2 w 26 (.int .i64 0) (.slice none 0 0))
  have KA := Hid.mk' (l6Fault_any a c l _ (ha.below N0) hl)
  have CS := Hid.mk' (wnF_cases l x)
  have KO : Hid (∀ w', Below w.heap.size w w' → Calls Tryd.prog 35 #[.slice a l.length c] w' fun e w'' => e = .returned (.int .i64 (opensF l)) ∧ Below w'.heap.size w' w'') := Hid.mk' (fun w' hb => l10Opens_any a c l w' (ha.below hb) hB hl)
  have KT : Hid (Good l → ∀ (m : Nat) w', m < l.length → Below w.heap.size w w' → Calls Tryd.prog 36 #[.slice a l.length c, .int .i64 (m : Int)] w' fun e w'' => e = .returned (.string ⟨(nT l m).toArray⟩) ∧ Below w'.heap.size w' w'') := Hid.mk' (fun G m w' hm hb => l10Write_any a c l G hB hl (l.length - m) m w' rfl hm (ha.below hb))
  clear ha hB N0
  generalize wnF l x = R at *
  generalize hW : w.alloc (.cells #[.int .i64 0, .slice none 0 0] 26) = W at *
  go_enter Tryd.func15, Tryd.ntmps15
  go_wp2_with fail
  clear hW
  refine KA.out.mono ?_
  rintro e w2 ⟨rfl, hb2⟩
  have HB := Hid.mk' (HB0.out.trans (hb2.mono HB0.out.size))
  have HR := Hid.mk' (rowB HR.out hb2)
  clear hb2 KA HB0
  by_cases h0 : treeF l = 0
  rotate_left
  · have E := Hid.mk' (CS.out.1 h0)
    have h0b : (treeF l != 0) = true := by simp [h0]
    clear KT CS KO
    generalize treeF l = C at *
    obtain ⟨y0, y1, y2⟩ := cellsQ2 HR.out
    obtain ⟨f0, f1⟩ := frzQ2 HR.out
    go_wp2_with fail
    refine bodyPost_ret (v := .agg #[.int .i64 C, .slice none 0 0]) (by simp [results, Tryd.results15, go_sem, *]) rfl ?_
    exact kqP_nil E.out ((HB.out.setCell (p := ⟨w.heap.size, 0, none⟩) (by simp) _).setCell (p := ⟨w.heap.size, 1, none⟩) (by simp) _)
  have h60 := treeF_len h0
  have CR := Hid.mk' (CS.out.2.1 h0)
  have CO := Hid.mk' (CS.out.2.2.1 h0)
  have CT := Hid.mk' (CS.out.2.2.2 h0)
  rw [h0]
  clear CS
  have KI := Hid.mk' (l1In_any x 0 ((l.length : Int) - 1) w2)
  have ew : wrap64 ((l.length : Int) - 1) = (l.length : Int) - 1 := by unfold wrap64; omega
  go_wp2_with fail
  refine KI.out.mono ?_
  rintro e w3 ⟨rfl, hw3⟩
  obtain rfl := hw3.symm
  clear KI
  by_cases hin : 0 ≤ x ∧ x < (l.length : Int)
  rotate_left
  · have E := Hid.mk' (CR.out hin)
    have hd : (decide (0 ≤ x) && decide (x ≤ (l.length : Int) - 1)) = false := by
      cases hq : (decide (0 ≤ x) && decide (x ≤ (l.length : Int) - 1)) with
      | false => rfl
      | true =>
        simp only [Bool.and_eq_true, decide_eq_true_eq] at hq
        exact absurd ⟨hq.1, by omega⟩ hin
    rw [hd]
    clear KT KO CR CO CT hin hd
    obtain ⟨y0, y1, y2⟩ := cellsQ2 HR.out
    obtain ⟨f0, f1⟩ := frzQ2 HR.out
    go_wp2_with fail
    refine bodyPost_ret (v := .agg #[.int .i64 3, .slice none 0 0]) (by simp [results, Tryd.results15, go_sem, *]) rfl ?_
    exact kqP_nil E.out ((HB.out.setCell (p := ⟨w.heap.size, 0, none⟩) (by simp) _).setCell (p := ⟨w.heap.size, 1, none⟩) (by simp) _)
  have hd : (decide (0 ≤ x) && decide (x ≤ (l.length : Int) - 1)) = true := by
    simp only [Bool.and_eq_true, decide_eq_true_eq]
    exact ⟨hin.1, by omega⟩
  rw [hd]
  have KO1 := Hid.mk' (KO.out w2 HB.out)
  clear hd KO CR
  go_wp2_with fail
  refine KO1.out.mono ?_
  rintro e w4 ⟨rfl, hb4⟩
  have HB := Hid.mk' (HB.out.trans (hb4.mono HB.out.size))
  have HR := Hid.mk' (rowB HR.out hb4)
  clear hb4 KO1
  by_cases h2 : opensF l = 0
  rotate_left
  · have E := Hid.mk' (CO.out hin h2)
    have h0b : (opensF l != 0) = true := by simp [h2]
    clear KT CO CT hin h0
    generalize opensF l = C at *
    obtain ⟨y0, y1, y2⟩ := cellsQ2 HR.out
    obtain ⟨f0, f1⟩ := frzQ2 HR.out
    go_wp2_with fail
    refine bodyPost_ret (v := .agg #[.int .i64 C, .slice none 0 0]) (by simp [results, Tryd.results15, go_sem, *]) rfl ?_
    exact kqP_nil E.out ((HB.out.setCell (p := ⟨w.heap.size, 0, none⟩) (by simp) _).setCell (p := ⟨w.heap.size, 1, none⟩) (by simp) _)
  · obtain ⟨G, E0'⟩ := CT.out hin h2
    have E0 := Hid.mk' E0'
    obtain ⟨m, rfl⟩ : ∃ m : Nat, x = (m : Int) := ⟨x.toNat, by omega⟩
    rw [Int.toNat_natCast] at E0
    have KT1 := Hid.mk' (KT.out G m w4 (by omega) HB.out)
    rw [h2]
    clear KT CO CT E0' G h0
    generalize nT l m = T at *
    go_wp2_with fail
    refine KT1.out.mono ?_
    rintro e W2 ⟨rfl, hb3⟩
    have HB := Hid.mk' (HB.out.trans (hb3.mono HB.out.size))
    have HR2 := Hid.mk' (rowB HR.out hb3)
    obtain ⟨y0, y1, y2⟩ := cellsQ2 (rowB HR.out hb3)
    obtain ⟨f0, f1⟩ := frzQ2 (rowB HR.out hb3)
    have hts : (⟨T.toArray⟩ : ByteArray).size = T.length := by simp [ByteArray.size]
    clear hb3 KT1 h2
    by_cases h1 : 240 < T.length
    · have E := Hid.mk' (E0.out.trans (ansT_big h1))
      have h1' : (240 : Int) < ((⟨T.toArray⟩ : ByteArray).size : Int) := by rw [hts]; omega
      clear hts
      generalize (⟨T.toArray⟩ : ByteArray) = TB at *
      go_wp2_with fail
      refine bodyPost_ret (v := .agg #[.int .i64 6, .slice none 0 0]) (by simp [results, Tryd.results15, go_sem, *]) rfl ?_
      exact kqP_nil E.out ((HB.out.setCell (p := ⟨w.heap.size, 0, none⟩) (by simp) _).setCell (p := ⟨w.heap.size, 1, none⟩) (by simp) _)
    · have E := Hid.mk' (E0.out.trans (ansT_fit h1))
      have h1' : ¬ (240 : Int) < ((⟨T.toArray⟩ : ByteArray).size : Int) := by rw [hts]; omega
      clear hts
      generalize (⟨T.toArray⟩ : ByteArray) = TB at *
      have hcv : ∀ X : World, (convert 9 24 (.string TB)).run Tryd.prog X = .ok (.slice (some ⟨X.heap.size, 0, none⟩) TB.size (grownCap X TB.size 0 5)) (Lib.bytesWorld X 5 TB) := fun X => Lib.run_convert_string_bytes (P := Tryd.prog) X 9 24 5 TB Tryd.underlying9 Tryd.underlying24 Tryd.underlying5
      have HBW := Hid.mk' (show Below W2.heap.size W2 (Lib.bytesWorld W2 5 TB) from Lib.bytesWorld_below W2 5 TB)
      have HAT := Hid.mk' (show BAt (Lib.bytesWorld W2 5 TB) (some ⟨W2.heap.size, 0, none⟩) (bytesL TB) from bytes_at W2 TB)
      have HL := Hid.mk' (bytesL_len TB)
      have HFA := Hid.mk' (bytes_free W2 TB)
      have HSZ := Hid.mk' y2
      have HSW := Hid.mk' HB.out.size
      obtain ⟨z0, z1, z2⟩ := cellsQ2 (rowB HR2.out HBW.out)
      obtain ⟨g0, g1⟩ := frzQ2 (rowB HR2.out HBW.out)
      go_wp2_with fail
      have HB3 := Hid.mk' (HB.out.trans (HBW.out.mono HB.out.size))
      generalize Lib.bytesWorld W2 5 TB = W3 at *
      generalize grownCap W2 TB.size 0 5 = cp at *
      refine bodyPost_ret (v := .agg #[.int .i64 0, .slice (some ⟨W2.heap.size, 0, none⟩) TB.size cp]) (by simp [results, Tryd.results15, go_sem, *]) rfl ?_
      refine ⟨some ⟨W2.heap.size, 0, none⟩, cp, ?_, ?_, ?_, (fun b o e => by cases e; exact HSW.out), (HB3.out.setCell (p := ⟨w.heap.size, 0, none⟩) (by simp) _).setCell (p := ⟨w.heap.size, 1, none⟩) (by simp) _⟩
      · rw [E.out]
        show _ = Ending.returned (.agg #[.int .i64 0, .slice _ (bytesL TB).length _])
        rw [HL.out]
      · rw [E.out]
        exact HAT.out.setTwo (fun b o e _ => by cases e; have := HSZ.out; omega)
      · rw [E.out]
        show FrA _ _ (bytesL TB).length
        rw [HL.out]
        exact HFA.out.setTwo
end Go.Proofs.YtcjnfodkppcpoaaDoor
