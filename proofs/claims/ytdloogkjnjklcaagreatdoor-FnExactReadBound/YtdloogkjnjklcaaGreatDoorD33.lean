/- Faults of memos: the model's side. -/
import Derived.Test.YtdloogkjnjklcaaGreatDoorD32
set_option linter.unusedVariables false
set_option linter.unusedSimpArgs false
namespace Go.Proofs.YtdloogkjnjklcaaGreatDoor
open Go.RowKit

theorem csz_mul (b : Nat) : ∀ (l : List CK), (∀ x ∈ l, x.hd.length ≤ b) → csz l ≤ l.length * b
  | [], _ => by simp [csz]
  | x :: l, h => by
    have h1 := csz_mul b l (fun y hy => h y (List.mem_cons_of_mem _ hy))
    have h2 := h x (List.mem_cons_self ..)
    simp only [csz, List.length_cons, Nat.add_mul]
    omega

theorem mem_small (d : List Int) (s : Nat) (hl : d.length ≤ 240) : msz (memX d s) ≤ 100000 := by
  have h1 := all_fits d [] []
  have h2 : csz (cksN d s (d.length / s + 1)) ≤ (cksN d s (d.length / s + 1)).length * 240 := csz_mul 240 _ (fun x hx => by
    unfold cksN at hx
    obtain ⟨j, _, rfl⟩ := List.mem_map.1 hx
    have h3 := all_fits (d.take (j * s)) [] []
    have h4 : (d.take (j * s)).length ≤ 240 := by rw [List.length_take]; omega
    simp only [wei, tssz, List.length_nil] at h3
    show (allX [] [] (d.take (j * s))).2.length ≤ 240
    omega)
  have h5 : d.length / s ≤ d.length := Nat.div_le_self _ _
  rw [cksN_len] at h2
  have h6 : (d.length / s + 1) * 240 ≤ 241 * 240 := Nat.mul_le_mul_right _ (by omega)
  simp only [wei, tssz, List.length_nil] at h1
  unfold msz memX
  dsimp only
  rw [cksN_len]
  omega

theorem beqB_refl (l : List Int) : beqB l l = true := by unfold beqB; simp

def askC (d : List Int) (st : Int) : Int := if 240 < d.length then 6 else if st < 1 ∨ 60 < st then 3 else 0

def memF (m : ME) : Int := if askC m.dt m.st ≠ 0 then askC m.dt m.st else if sameR (memX m.dt m.st.toNat) m then 0 else 1

theorem askC_ok {d : List Int} {st : Int} (h : askC d st = 0) : d.length ≤ 240 ∧ ∃ s : Nat, st = (s : Int) ∧ 1 ≤ s ∧ s ≤ 60 := by
  unfold askC at h
  by_cases h1 : 240 < d.length
  · rw [if_pos h1] at h; cases h
  · rw [if_neg h1] at h
    by_cases h2 : st < 1 ∨ 60 < st
    · rw [if_pos h2] at h; cases h
    · exact ⟨by omega, st.toNat, by omega, by omega, by omega⟩

set_option maxHeartbeats 1600000 in
theorem l12Asked_any (a : Option Addr) (c : Nat) (d : List Int) (st : Int) (w : World) (hl : (d.length : Int) ≤ 9223372036854775807) :
    Calls Tryz.prog 26 #[.slice a d.length c, .int .i64 st] w fun e w' => e = .returned (.int .i64 (askC d st)) ∧ w' = w := by
  by_cases h1 : 240 < d.length
  · have c1 : (240 : Int) < d.length := by omega
    have E : Hid (askC d st = 6) := Hid.mk' (by unfold askC; rw [if_pos h1])
    go_enter Tryz.func26, Tryz.ntmps26
    go_wp2
    go_ret
    exact ⟨by rw [E.out]; rfl, rfl⟩
  have c1 : ¬ (240 : Int) < d.length := by omega
  have KI := l1In_any st 1 60 w
  by_cases h2 : st < 1 ∨ 60 < st
  · have E : Hid (askC d st = 3) := Hid.mk' (by unfold askC; rw [if_neg h1, if_pos h2])
    have e1 : (decide ((1 : Int) ≤ st) && decide (st ≤ 60)) = false := by
      rcases h2 with h | h
      · rw [decide_eq_false (by omega)]; rfl
      · rw [decide_eq_false (p := st ≤ 60) (by omega)]; simp
    rw [e1] at KI
    have KI := Hid.mk' KI
    clear h2 e1
    go_enter Tryz.func26, Tryz.ntmps26
    go_wp2_with fail
    refine KI.out.mono ?_
    rintro e w1 ⟨rfl, rfl⟩
    go_wp2
    go_ret
    exact ⟨by rw [E.out]; rfl, rfl⟩
  · have E : Hid (askC d st = 0) := Hid.mk' (by unfold askC; rw [if_neg h1, if_neg h2])
    have e1 : (decide ((1 : Int) ≤ st) && decide (st ≤ 60)) = true := by
      rw [decide_eq_true (by omega), decide_eq_true (by omega)]; rfl
    rw [e1] at KI
    have KI := Hid.mk' KI
    clear h2 e1
    go_enter Tryz.func26, Tryz.ntmps26
    go_wp2_with fail
    refine KI.out.mono ?_
    rintro e w1 ⟨rfl, rfl⟩
    go_wp2
    go_ret
    exact ⟨by rw [E.out]; rfl, rfl⟩

structure P1 (g : Nat) (m : ME) (a t u c : Option Addr) (ca ct cu cc : Nat) (wi : World) : Prop where
  r : wi.rowIs g 26 5 (r5 (.slice a m.dt.length ca) (.int .i64 m.st) (.slice t m.tk.length ct) (.slice u m.hd.length cu) (.slice c m.cs.length cc))
  m1 : MAt wi a t u c m

theorem P1.below {g : Nat} {m : ME} {a t u c : Option Addr} {ca ct cu cc : Nat} {wi wj : World} (x : P1 g m a t u c ca ct cu cc wi) (hb : Below wi.heap.size wi wj) : P1 g m a t u c ca ct cu cc wj := ⟨rowB x.r hb, x.m1.below hb⟩

set_option maxRecDepth 100000 in
set_option maxHeartbeats 3200000 in
theorem l12Fault_any (g : Nat) (m : ME) (a t u c : Option Addr) (ca ct cu cc : Nat) (w : World) (hp : P1 g m a t u c ca ct cu cc w) (hub : Byt m.dt) (hm : (msz m : Int) ≤ 1048576) :
    Calls Tryz.prog 57 #[.pointer (some ⟨g, 0, none⟩)] w fun e w' => e = .returned (.int .i64 (memF m)) ∧ Below w.heap.size w w' := by
  have MS_ : (msz m : Int) = m.dt.length + m.tk.length + tssz m.tk + m.hd.length + m.cs.length + csz m.cs := by unfold msz; omega
  have hl : (m.dt.length : Int) ≤ 9223372036854775807 := by omega
  have HP := Hid.mk' hp
  have HM := Hid.mk' hm
  obtain ⟨x0, x1, x2, x3, x4, x5⟩ := cells5 hp.r
  clear MS_ hp hm
  by_cases h1 : askC m.dt m.st = 0
  rotate_left
  · have E : Hid (memF m = askC m.dt m.st) := Hid.mk' (by unfold memF; rw [if_pos h1])
    have KA : Hid (∀ v, Calls Tryz.prog 26 #[.slice a m.dt.length ca, .int .i64 m.st] v fun e w' => e = .returned (.int .i64 (askC m.dt m.st)) ∧ w' = v) := Hid.mk' (fun v => l12Asked_any a ca m.dt m.st v hl)
    generalize askC m.dt m.st = K at *
    have h1' : (K != 0) = true := by simp [h1]
    have h1'' : ¬ K = 0 := h1
    clear h1
    go_enter Tryz.func57, Tryz.ntmps57
    go_wp2
    go_region_held3 (fun w' => w'.cell? ⟨g, 0, none⟩ = some (.slice a m.dt.length ca) ∧ w'.cell? ⟨g, 1, none⟩ = some (.int .i64 m.st)) (simp [*])
      ((go_at_call 26; refine (KA.out _).mono ?_; rintro e w1 ⟨rfl, hw1⟩; subst hw1))
    go_wp2
    go_ret
    exact ⟨by rw [E.out]; rfl, (Below.refl _ _).drew⟩
  obtain ⟨h240, s, hst, hs, hs2⟩ := askC_ok h1
  have E : Hid (memF m = if sameR (memX m.dt s) m then 0 else 1) := Hid.mk' (by
    unfold memF
    rw [if_neg (by rw [h1]; simp), hst]; rfl)
  have KA : Hid (∀ v, Calls Tryz.prog 26 #[.slice a m.dt.length ca, .int .i64 (s : Int)] v fun e w' => e = .returned (.int .i64 0) ∧ w' = v) := Hid.mk' (fun v => by rw [← h1, ← hst]; exact l12Asked_any a ca m.dt m.st v hl)
  rw [hst] at x1
  have KN : Hid (∀ v, Below w.heap.size w v → Calls Tryz.prog 27 #[.slice a m.dt.length ca, .int .i64 (s : Int)] v fun e w' => LnP m.dt s v e w') := Hid.mk' (fun v hb => l12New_any m.dt a ca s v (HP.out.m1.1.below hb) hub h240 hs hs2)
  have ES : Hid (sameM (memX m.dt s) m = sameR (memX m.dt s) m) := Hid.mk' (by
    unfold sameM
    show (beqB m.dt m.dt && (((s : Int) == m.st) && sameR (memX m.dt s) m)) = _
    rw [beqB_refl, hst]; simp)
  have HST := Hid.mk' hst
  have HX := Hid.mk' (mem_small m.dt s h240)
  clear h1 hst hs hs2 h240 hub
  go_enter Tryz.func57, Tryz.ntmps57
  go_wp2
  go_region_held3 (fun w' => w'.cell? ⟨g, 0, none⟩ = some (.slice a m.dt.length ca) ∧ w'.cell? ⟨g, 1, none⟩ = some (.int .i64 (s : Int))) (simp [*])
    ((go_at_call 26; refine (KA.out _).mono ?_; rintro e w1 ⟨rfl, hw1⟩; subst hw1))
  clear KA
  obtain ⟨T, hT⟩ : ∃ T, (allX [] [] m.dt).1 = T := ⟨_, rfl⟩
  obtain ⟨H, hH⟩ : ∃ H, (allX [] [] m.dt).2 = H := ⟨_, rfl⟩
  obtain ⟨J, hJ⟩ : ∃ J, m.dt.length / s + 1 = J := ⟨_, rfl⟩
  have KN : Hid (∀ v, Below w.heap.size w v → Calls Tryz.prog 27 #[.slice a m.dt.length ca, .int .i64 (s : Int)] v fun e w' => ∃ pa pt pu pc qa qt qu qc, e = .returned (.agg #[.slice pa m.dt.length qa, .int .i64 (s : Int), .slice pt T.length qt, .slice pu H.length qu, .slice pc J qc]) ∧ (∀ z : World, w'.heap.size ≤ z.heap.size → (∀ q, v.heap.size < q → q < w'.heap.size → z.heap[q]? = w'.heap[q]?) → MAt z pa pt pu pc (memX m.dt s)) ∧ Below v.heap.size v w') := Hid.mk' (fun v hb => by
    have := KN.out v hb
    unfold LnP at this
    rw [hT, hH, hJ] at this
    exact this)
  have KS : Hid (∀ (x : Nat) (v : World) (pa pt pu pc : Option Addr) (qa qt qu qc : Nat), v.rowIs x 26 5 (r5 (.slice pa m.dt.length qa) (.int .i64 (s : Int)) (.slice pt T.length qt) (.slice pu H.length qu) (.slice pc J qc)) → MAt v pa pt pu pc (memX m.dt s) → Below w.heap.size w v → Calls Tryz.prog 83 #[.pointer (some ⟨x, 0, none⟩), .pointer (some ⟨g, 0, none⟩)] v fun e w' => e = .returned (.bool (sameR (memX m.dt s) m)) ∧ Below v.heap.size v w') := Hid.mk' (fun x v pa pt pu pc qa qt qu qc hr hm hb => by
    have px := HP.out.below hb
    have := l12Same_any x g (memX m.dt s) m pa pt pu pc a t u c qa qt qu qc ca ct cu cc v ⟨by
      show World.rowIs _ _ _ _ (r5 (.slice pa m.dt.length qa) (.int .i64 (s : Int)) (.slice pt (allX [] [] m.dt).1.length qt) (.slice pu (allX [] [] m.dt).2.length qu) (.slice pc (cksN m.dt s (m.dt.length / s + 1)).length qc))
      rw [cksN_len, hT, hH, hJ]; exact hr, px.r, hm, px.m1⟩ (by have := HX.out; omega) HM.out
    rw [ES.out] at this
    exact this)
  clear hT hH hJ HX
  generalize hR : sameR (memX m.dt s) m = R at *
  clear hR
  have HCE : Hid (∀ v, Below w.heap.size w v → (fun w' => w'.cell? ⟨g, 0, none⟩ = some (.slice a m.dt.length ca) ∧ w'.cell? ⟨g, 1, none⟩ = some (.int .i64 (s : Int))) v) := Hid.mk' (fun v hb => ⟨(hb.cell x5).trans x0, (hb.cell x5).trans x1⟩)
  clear x0 x1 x2 x3 x4 x5
  have DD : Hid (Below w.heap.size w w.drew.drew) := Hid.mk' ((Below.refl _ _).drew.drew)
  go_wp2
  refine wp_region_held_drew (S := (fun w' => w'.cell? ⟨g, 0, none⟩ = some (.slice a m.dt.length ca) ∧ w'.cell? ⟨g, 1, none⟩ = some (.int .i64 (s : Int)))) (by kernel_rfl) (HCE.out _ DD.out) (fun hHeld => ?_)
  refine wpAnyH_take (i := 0) (oi := ⟨_, _, _, _, _, _⟩) (v := ?_) rfl (by kernel_rfl) (by kernel_rfl) (by kernel_rfl) (fun _ _ _ h => h) (Or.inl ⟨by rfl, ?_⟩) (by assumption) ?_
  rotate_left
  · (intro w hSw; (try dsimp only at hSw); go_simp; (try with_reducible rfl))
  try simp only [Act.put, zA, zB, zC]
  refine wpAnyH_take (i := 1) (oi := ⟨_, _, _, _, _, _⟩) (v := ?_) rfl (by kernel_rfl) (by kernel_rfl) (by kernel_rfl) (fun _ _ _ h => h) (Or.inl ⟨by rfl, ?_⟩) (by assumption) ?_
  rotate_left
  · (intro w hSw; (try dsimp only at hSw); go_simp; (try with_reducible rfl))
  try simp only [Act.put, zA, zB, zC]
  refine wpAnyH_take (i := 2) (oi := ⟨_, _, _, _, _, _⟩) (v := ?_) rfl (by kernel_rfl) (by kernel_rfl) (by kernel_rfl) (fun _ _ _ h => h) (Or.inl ⟨by rfl, ?_⟩) (by assumption) ?_
  rotate_left
  · (intro w hSw; (try dsimp only at hSw); go_simp; (try with_reducible rfl))
  try simp only [Act.put, zA, zB, zC]
  refine wpAnyH_take (i := 3) (oi := ⟨_, _, _, _, _, _⟩) (v := ?_) rfl (by kernel_rfl) (by kernel_rfl) (by kernel_rfl) (fun _ _ _ h => h) (Or.inl ⟨by rfl, ?_⟩) (by assumption) ?_
  rotate_left
  · (intro w hSw; (try dsimp only at hSw); go_simp; (try with_reducible rfl))
  try simp only [Act.put, zA, zB, zC]
  refine wpAnyH_take (i := 4) (oi := ⟨_, _, _, _, _, _⟩) (v := ?_) rfl (by kernel_rfl) (by kernel_rfl) (by kernel_rfl) (fun _ _ _ h => h) (Or.inl ⟨by rfl, ?_⟩) (by assumption) ?_
  rotate_left
  · (intro w hSw; (try dsimp only at hSw); go_simp; (try with_reducible rfl))
  try simp only [Act.put, zA, zB, zC]
  refine wpAnyH_take (i := 5) (oi := ⟨_, _, _, _, _, _⟩) (v := ?_) rfl (by kernel_rfl) (by kernel_rfl) (by kernel_rfl) (fun _ _ _ h => h) (Or.inl ⟨by rfl, ?_⟩) (by assumption) ?_
  rotate_left
  · (intro w hSw; (try dsimp only at hSw); go_simp; (try with_reducible rfl))
  try simp only [Act.put, zA, zB, zC]
  refine wpAnyH_take (i := 6) (oi := ⟨_, _, _, _, _, _⟩) (v := ?_) rfl (by kernel_rfl) (by kernel_rfl) (by kernel_rfl) (fun _ _ _ h => h) (Or.inl ⟨by rfl, ?_⟩) (by assumption) ?_
  rotate_left
  · (intro w hSw; (try dsimp only at hSw); go_simp; (try with_reducible rfl))
  try simp only [Act.put, zA, zB, zC]
  refine wpAnyH_take (i := 7) (oi := ⟨_, _, _, _, _, _⟩) (v := ?_) rfl (by kernel_rfl) (by kernel_rfl) (by kernel_rfl) (fun _ _ _ h => h) (Or.inl ⟨by rfl, ?_⟩) (by assumption) ?_
  rotate_left
  · (intro w hSw; (try dsimp only at hSw); go_simp; (try with_reducible rfl))
  try simp only [Act.put, zA, zB, zC]
  refine wpAnyH_ready (rs := [8, 9]) (by kernel_rfl) (by simp) ?_
  refine AllReadyH.cons (o := ⟨_, _, _, _, _, _⟩) rfl (fun K hK => ?_) (AllReadyH.cons (o := ⟨_, _, _, _, _, _⟩) rfl (fun K hK => ?_) AllReadyH.nil)
  · go_simp
    refine (KN.out _ DD.out).mono ?_
    rintro e w1 ⟨pa, pt, pu, pc, qa, qt, qu, qc, rfl, hmx, hb1⟩
    have B1 := DD.out.trans (hb1.mono DD.out.size)
    refine hK.out _ _ (HCE.out _ B1) (fun hHeld => ?_)
    clear hK K
    try simp only [Act.put, zA, zB, zC]
    refine wpAnyH_ready (rs := [9]) (by kernel_rfl) (by simp) ?_
    refine AllReadyH.cons (o := ⟨_, _, _, _, _, _⟩) rfl (fun K hK => ?_) AllReadyH.nil
    go_simp
    refine hK.out _ _ (HCE.out _ (B1.trans ((below_new w1 _).mono B1.size))) (fun hHeld => ?_)
    clear hK K
    try simp only [Act.put, zA, zB, zC]
    have Z := row5 w1 26 (.slice none 0 0) (.int .i64 0) (.slice none 0 0) (.slice none 0 0) (.slice none 0 0)
    obtain ⟨z0, z1, z2, z3, z4, z5⟩ := cells5 Z
    have y0 := Z.frozen 0
    have y1 := Z.frozen 1
    have y2 := Z.frozen 2
    have y3 := Z.frozen 3
    have y4 := Z.frozen 4
    refine wpAnyH_ready (rs := [10]) (by kernel_rfl) (by simp) ?_
    refine AllReadyH.cons (o := ⟨_, _, _, _, _, _⟩) rfl (fun K hK => ?_) AllReadyH.nil
    go_simp
    refine hK.out _ _ (HCE.out _ (B1.trans ((below_new w1 _).mono B1.size))) (fun hHeld => ?_)
    clear hK K
    try simp only [Act.put, zA, zB, zC]
    have N1 := below_new w1 (.cells #[.slice pa m.dt.length qa, .int .i64 (s : Int), .slice pt T.length qt, .slice pu H.length qu, .slice pc J qc] 26)
    have BX := Hid.mk' (B1.trans (N1.mono B1.size))
    have RX := Hid.mk' (row5 w1 26 (.slice pa m.dt.length qa) (.int .i64 (s : Int)) (.slice pt T.length qt) (.slice pu H.length qu) (.slice pc J qc))
    have MX := Hid.mk' (hmx _ N1.size (fun q _ h => N1.block q h))
    clear N1 B1 hb1 hmx Z z0 z1 z2 z3 z4 z5 y0 y1 y2 y3 y4
    generalize hV : w1.alloc (.cells #[.slice pa m.dt.length qa, .int .i64 (s : Int), .slice pt T.length qt, .slice pu H.length qu, .slice pc J qc] 26) = V at *
    clear hV
    refine wpAnyH_done (by kernel_rfl) ?_ _
    clear hHeld
    cases R with
    | true =>
      go_wp2_with fail
      refine (KS.out _ _ _ _ _ _ _ _ _ _ RX.out MX.out BX.out).mono ?_
      rintro e w2 ⟨rfl, hb2⟩
      have HB2 := Hid.mk' (BX.out.trans (hb2.mono BX.out.size))
      clear hb2 KS
      go_wp2
      go_ret
      exact ⟨by rw [E.out]; rfl, HB2.out⟩
    | false =>
      go_wp2_with fail
      refine (KS.out _ _ _ _ _ _ _ _ _ _ RX.out MX.out BX.out).mono ?_
      rintro e w2 ⟨rfl, hb2⟩
      have HB2 := Hid.mk' (BX.out.trans (hb2.mono BX.out.size))
      clear hb2 KS
      go_wp2
      go_ret
      exact ⟨by rw [E.out]; rfl, HB2.out⟩
  · go_simp
    have NB := below_new w (.cells #[.slice none 0 0, .int .i64 0, .slice none 0 0, .slice none 0 0, .slice none 0 0] 26)
    have DB : Below w.heap.size w (w.alloc (.cells #[.slice none 0 0, .int .i64 0, .slice none 0 0, .slice none 0 0, .slice none 0 0] 26)).drew.drew := NB.drew.drew
    refine hK.out _ _ (HCE.out _ DB) (fun hHeld => ?_)
    clear hK K
    try simp only [Act.put, zA, zB, zC]
    refine wpAnyH_ready (rs := [8]) (by kernel_rfl) (by simp) ?_
    refine AllReadyH.cons (o := ⟨_, _, _, _, _, _⟩) rfl (fun K hK => ?_) AllReadyH.nil
    go_simp
    refine (KN.out _ DB).mono ?_
    rintro e w1 ⟨pa, pt, pu, pc, qa, qt, qu, qc, rfl, hmx, hb1⟩
    replace hb1 : Below (w.alloc (.cells #[.slice none 0 0, .int .i64 0, .slice none 0 0, .slice none 0 0, .slice none 0 0] 26)).heap.size (w.alloc (.cells #[.slice none 0 0, .int .i64 0, .slice none 0 0, .slice none 0 0, .slice none 0 0] 26)) w1 := undrew (undrew hb1)
    have B1 := NB.trans (hb1.mono NB.size)
    refine hK.out _ _ (HCE.out _ B1) (fun hHeld => ?_)
    clear hK K
    try simp only [Act.put, zA, zB, zC]
    have Z := rowB (row5 w 26 (.slice none 0 0) (.int .i64 0) (.slice none 0 0) (.slice none 0 0) (.slice none 0 0)) hb1
    obtain ⟨z0, z1, z2, z3, z4, z5⟩ := cells5 Z
    have y0 := Z.frozen 0
    have y1 := Z.frozen 1
    have y2 := Z.frozen 2
    have y3 := Z.frozen 3
    have y4 := Z.frozen 4
    have K1 := ((((KeptIn.refl w.heap.size (w.heap.size + 1) w1).setCell (p := ⟨w.heap.size, 0, none⟩) (by simp) (by simp) (.slice pa m.dt.length qa)).setCell (p := ⟨w.heap.size, 1, none⟩) (by simp) (by simp) (.int .i64 (s : Int))).setCell (p := ⟨w.heap.size, 2, none⟩) (by simp) (by simp) (.slice pt T.length qt)).setCell (p := ⟨w.heap.size, 3, none⟩) (by simp) (by simp) (.slice pu H.length qu) |>.setCell (p := ⟨w.heap.size, 4, none⟩) (by simp) (by simp) (.slice pc J qc)
    have B2 := B1.trans (K1.below (Nat.le_refl _) B1.size)
    refine wpAnyH_ready (rs := [10]) (by kernel_rfl) (by simp) ?_
    refine AllReadyH.cons (o := ⟨_, _, _, _, _, _⟩) rfl (fun K hK => ?_) AllReadyH.nil
    go_simp
    refine hK.out _ _ (HCE.out _ B2) (fun hHeld => ?_)
    clear hK K
    try simp only [Act.put, zA, zB, zC]
    have BX := Hid.mk' B2
    have RX := Hid.mk' ((((((Z.set 0 (.slice pa m.dt.length qa)).set 1 (.int .i64 (s : Int))).set 2 (.slice pt T.length qt)).set 3 (.slice pu H.length qu)).set 4 (.slice pc J qc)).congr (g := r5 (.slice pa m.dt.length qa) (.int .i64 (s : Int)) (.slice pt T.length qt) (.slice pu H.length qu) (.slice pc J qc)) (fun i hi => by
      have h : i = 0 ∨ i = 1 ∨ i = 2 ∨ i = 3 ∨ i = 4 := by omega
      rcases h with rfl | rfl | rfl | rfl | rfl <;> simp [r5]))
    have MX := Hid.mk' (hmx _ K1.size (fun q h1 h2 => K1.block q h2 (.inr (by simp at h1; omega))))
    clear NB DB B1 B2 hb1 hmx Z K1 z0 z1 z2 z3 z4 z5 y0 y1 y2 y3 y4
    generalize hV : ((((w1.setCell ⟨w.heap.size, 0, none⟩ (.slice pa m.dt.length qa)).setCell ⟨w.heap.size, 1, none⟩ (.int .i64 (s : Int))).setCell ⟨w.heap.size, 2, none⟩ (.slice pt T.length qt)).setCell ⟨w.heap.size, 3, none⟩ (.slice pu H.length qu)).setCell ⟨w.heap.size, 4, none⟩ (.slice pc J qc) = V at *
    clear hV
    refine wpAnyH_done (by kernel_rfl) ?_ _
    clear hHeld
    cases R with
    | true =>
      go_wp2_with fail
      refine (KS.out _ _ _ _ _ _ _ _ _ _ RX.out MX.out BX.out).mono ?_
      rintro e w2 ⟨rfl, hb2⟩
      have HB2 := Hid.mk' (BX.out.trans (hb2.mono BX.out.size))
      clear hb2 KS
      go_wp2
      go_ret
      exact ⟨by rw [E.out]; rfl, HB2.out⟩
    | false =>
      go_wp2_with fail
      refine (KS.out _ _ _ _ _ _ _ _ _ _ RX.out MX.out BX.out).mono ?_
      rintro e w2 ⟨rfl, hb2⟩
      have HB2 := Hid.mk' (BX.out.trans (hb2.mono BX.out.size))
      clear hb2 KS
      go_wp2
      go_ret
      exact ⟨by rw [E.out]; rfl, HB2.out⟩

end Go.Proofs.YtdloogkjnjklcaaGreatDoor

namespace Go.Proofs.YtdloogkjnjklcaaGreatDoor
open Go.RowKit

theorem takeM_all (d : List Int) (s : Nat) (hs : 1 ≤ s) : d.take ((d.length / s + 1) * s) = d := List.take_of_length_le (by
  have h1 := Nat.div_add_mod d.length s
  have h2 := Nat.mod_lt d.length (show 0 < s by omega)
  rw [Nat.add_mul, Nat.mul_comm (d.length / s)]; omega)

theorem NM.at {base : Nat} {d : List Int} {s : Nat} {gd gc : Nat} {tv : Value} {hvs : Nat → Value} {us : List Value} {rs : Nat → List Value} {bl bh : Nat → Nat} {w : World} (x : NM base d s gd gc tv hvs us rs bl bh w) (hs : 1 ≤ s) : ∃ ta tc ha hc, tv = .slice ta (allX [] [] d).1.length tc ∧ hvs (d.length / s + 1) = .slice ha (allX [] [] d).2.length hc ∧ MAt w (some ⟨gd, 0, none⟩) ta ha (some ⟨gc, 0, none⟩) (memX d s) := by
  obtain ⟨ta, tc, e1, b1⟩ := x.rx.tp.tsAtN
  obtain ⟨ha, hc, e2, b2⟩ := own_bat (x.rx.own (d.length / s + 1) (Nat.le_refl _))
  have et1 : tkN d s (d.length / s + 1) = (allX [] [] d).1 := by show (allX [] [] (d.take _)).1 = _; rw [takeM_all d s hs]
  have et2 : hdN d s (d.length / s + 1) = (allX [] [] d).2 := by show (allX [] [] (d.take _)).2 = _; rw [takeM_all d s hs]
  rw [et1] at e1 b1
  rw [et2] at e2 b2
  refine ⟨ta, tc, ha, hc, e1, e2, .of_row x.dt, b1, b2, ?_⟩
  show CsAt w (some ⟨gc, 0, none⟩) (cksN d s (d.length / s + 1))
  refine .inr ⟨gc, 0, rfl, x.ck.lt, fun k hk => ?_⟩
  rw [cksN_len] at hk
  rw [cksN_at d s _ k hk]
  have v0 := x.ck.cell (i := k * 3) (by omega)
  have v1 := x.ck.cell (i := k * 3 + 1) (by omega)
  have v2 := x.ck.cell (i := k * 3 + 2) (by omega)
  unfold ckV at v0 v1 v2
  rw [show k * 3 / 3 = k by omega, show k * 3 % 3 = 0 by omega, if_pos hk] at v0
  rw [show (k * 3 + 1) / 3 = k by omega, show (k * 3 + 1) % 3 = 1 by omega, if_pos hk] at v1
  rw [show (k * 3 + 2) / 3 = k by omega, show (k * 3 + 2) % 3 = 2 by omega, if_pos hk] at v2
  obtain ⟨p, q, e, b⟩ := own_bat (x.rx.own k (by omega))
  refine ⟨by rw [Nat.zero_add]; exact v0, by rw [Nat.zero_add]; exact v1, p, q, ?_, b⟩
  rw [Nat.zero_add, v2]
  show some (hvs k) = _
  rw [e]; rfl

theorem NM.down {base base' : Nat} {d : List Int} {s : Nat} {gd gc : Nat} {tv : Value} {hvs : Nat → Value} {us : List Value} {rs : Nat → List Value} {bl bh : Nat → Nat} {w : World} (x : NM base d s gd gc tv hvs us rs bl bh w) (h : base' ≤ base) : NM base' d s gd gc tv hvs us rs bl bh w :=
  ⟨by obtain ⟨v, h1, h2⟩ := x.v1; exact ⟨v, h1, h2.down h⟩, x.rx.down h, x.dt, x.ck, by have := x.o1; omega, x.o2⟩

def RmP (m : ME) (w : World) (e : Ending) (w' : World) : Prop :=
  (¬ memF m = 0 ∧ e = .returned (.tuple #[.agg #[.slice none 0 0, .int .i64 0, .slice none 0 0, .slice none 0 0, .slice none 0 0], .int .i64 (memF m)]) ∧ Below w.heap.size w w') ∨
  (memF m = 0 ∧ m.dt.length ≤ 240 ∧ ∃ s : Nat, m.st = (s : Int) ∧ 1 ≤ s ∧ s ≤ 60 ∧ sameR (memX m.dt s) m = true ∧ ∃ gd gc tv hvs us rs bl bh, e = .returned (.tuple #[.agg #[.slice (some ⟨gd, 0, none⟩) m.dt.length m.dt.length, .int .i64 (s : Int), tv, hvs (m.dt.length / s + 1), .slice (some ⟨gc, 0, none⟩) (m.dt.length / s + 1) (m.dt.length / s + 1)], .int .i64 0]) ∧ NM (w.heap.size + 1) m.dt s gd gc tv hvs us rs bl bh w' ∧ Below w.heap.size w w')

theorem askC_large {d : List Int} {st : Int} (h : 240 < d.length) : askC d st = 6 := by unfold askC; rw [if_pos h]
theorem askC_range {d : List Int} {st : Int} (h : d.length ≤ 240) (h2 : st < 1 ∨ 60 < st) : askC d st = 3 := by unfold askC; rw [if_neg (by omega), if_pos h2]
theorem askC_good {d : List Int} {s : Nat} (h : d.length ≤ 240) (h1 : 1 ≤ s) (h2 : s ≤ 60) : askC d (s : Int) = 0 := by unfold askC; rw [if_neg (by omega), if_neg (by omega)]

theorem boxesR (w : World) (x0 x1 x2 x3 x4 : Value) :
    let W := (w.alloc (.cells #[x0, x1, x2, x3, x4] 26)).alloc (.cells #[.slice none 0 0, .int .i64 0, .slice none 0 0, .slice none 0 0, .slice none 0 0] 26)
    Below w.heap.size w W ∧ W.rowIs w.heap.size 26 5 (r5 x0 x1 x2 x3 x4) ∧ W.rowIs (w.heap.size + 1) 26 5 (r5 (.slice none 0 0) (.int .i64 0) (.slice none 0 0) (.slice none 0 0) (.slice none 0 0)) := by
  obtain ⟨B0, R1, R2⟩ := two5 w 26 x0 x1 x2 x3 x4 (.slice none 0 0) (.int .i64 0) (.slice none 0 0) (.slice none 0 0) (.slice none 0 0)
  exact ⟨B0, R1, R2⟩

theorem fiveM {B : Nat} {w w' : World} (h : Below B w w') {c : Nat} {v0 v1 v2 v3 v4 : Value} (hc : B ≤ c) : Below B w (((((w'.setCell ⟨c, 0, none⟩ v0).setCell ⟨c, 1, none⟩ v1).setCell ⟨c, 2, none⟩ v2).setCell ⟨c, 3, none⟩ v3).setCell ⟨c, 4, none⟩ v4) :=
  ((((h.setCell (p := ⟨c, 0, none⟩) hc v0).setCell (p := ⟨c, 1, none⟩) hc v1).setCell (p := ⟨c, 2, none⟩) hc v2).setCell (p := ⟨c, 3, none⟩) hc v3).setCell (p := ⟨c, 4, none⟩) hc v4

theorem kept5 (w' : World) (c : Nat) (v0 v1 v2 v3 v4 : Value) : KeptIn c (c + 1) w' (((((w'.setCell ⟨c, 0, none⟩ v0).setCell ⟨c, 1, none⟩ v1).setCell ⟨c, 2, none⟩ v2).setCell ⟨c, 3, none⟩ v3).setCell ⟨c, 4, none⟩ v4) :=
  (((((KeptIn.refl c (c + 1) w').setCell (p := ⟨c, 0, none⟩) (by simp) (by simp) v0).setCell (p := ⟨c, 1, none⟩) (by simp) (by simp) v1).setCell (p := ⟨c, 2, none⟩) (by simp) (by simp) v2).setCell (p := ⟨c, 3, none⟩) (by simp) (by simp) v3).setCell (p := ⟨c, 4, none⟩) (by simp) (by simp) v4

set_option maxRecDepth 100000 in
set_option maxHeartbeats 6400000 in
theorem rightMemo_any (tp : TypeId) (pv : Value) (m : ME) (a t u c : Option Addr) (ca ct cu cc : Nat) (w : World) (hE : Env w.heap.size tp pv w) (h1 : MAt w a t u c m) (hca : m.dt.length ≤ ca) (hub : Byt m.dt) (hm : (msz m : Int) ≤ 1048576) :
    Calls Tryz.prog 64 #[.agg #[.slice a m.dt.length ca, .int .i64 m.st, .slice t m.tk.length ct, .slice u m.hd.length cu, .slice c m.cs.length cc]] w fun e w' => RmP m w e w' := by
  have MS_ : (msz m : Int) = m.dt.length + m.tk.length + tssz m.tk + m.hd.length + m.cs.length + csz m.cs := by unfold msz; omega
  obtain ⟨B0, R1, R2⟩ := boxesR w (.slice a m.dt.length ca) (.int .i64 m.st) (.slice t m.tk.length ct) (.slice u m.hd.length cu) (.slice c m.cs.length cc)
  have KN := Hid.mk' (implNM_any tp pv m.dt m.st a ca _ ((hE.keep B0).up B0.size (Nat.le_refl _)) (h1.1.below B0) hca hub (by omega))
  have HA := Hid.mk' (h1.below B0)
  have HB := Hid.mk' B0
  have H1 := Hid.mk' R1
  have H2 := Hid.mk' R2
  have HM := Hid.mk' hm
  clear MS_ B0 R1 R2 hE h1 hub hm
  generalize hW : (w.alloc (.cells #[.slice a m.dt.length ca, .int .i64 m.st, .slice t m.tk.length ct, .slice u m.hd.length cu, .slice c m.cs.length cc] 26)).alloc (.cells #[.slice none 0 0, .int .i64 0, .slice none 0 0, .slice none 0 0, .slice none 0 0] 26) = W at *
  obtain ⟨x0, x1, x2, x3, x4, x5⟩ := cells5 H1.out
  go_enter Tryz.func64, Tryz.ntmps64
  go_wp2_with fail
  clear hW x0 x1 x2 x3 x4 x5
  refine KN.out.mono ?_
  rintro e w1 (⟨h6, rfl, hb1⟩ | ⟨h6, h3, rfl, hb1⟩ | ⟨h6, s, hst, hs, hs2, gd, gc, tv, hvs, us, rs, bl, bh, rfl, hx, hb1⟩)
  · have K6 : Hid (askC m.dt m.st = 6) := Hid.mk' (askC_large h6)
    clear h6
    have N1 := below_new w1 (.cells #[.int .i64 6, .int .i64 0, .slice none 0 0, .int .i64 0, .slice none 0 0, .slice none 0 0, .slice none 0 0] 28)
    have M1 := hb1.trans (N1.mono hb1.size)
    have RZ := rowB H2.out M1
    obtain ⟨y0, y1, y2, y3, y4, y5⟩ := cells5 RZ
    have f0 := RZ.frozen 0
    have f1 := RZ.frozen 1
    have f2 := RZ.frozen 2
    have f3 := RZ.frozen 3
    have f4 := RZ.frozen 4
    have Q7 := row7 w1 28 (.int .i64 6) (.int .i64 0) (.slice none 0 0) (.int .i64 0) (.slice none 0 0) (.slice none 0 0) (.slice none 0 0)
    obtain ⟨z0, z1, z2, z3, z4, z5, z6, z7⟩ := cells7 Q7
    have B1 := Hid.mk' (HB.out.trans (M1.mono HB.out.size))
    have hne : w.heap.size + 1 ≠ w1.heap.size := by have := H2.out.lt; have := hb1.size; omega
    have HNE := Hid.mk' hne
    clear N1 M1 RZ Q7 hb1
    go_wp2
    generalize hV : w1.alloc (.cells #[.int .i64 6, .int .i64 0, .slice none 0 0, .int .i64 0, .slice none 0 0, .slice none 0 0, .slice none 0 0] 28) = V at *
    go_region_held3 (fun w' => w'.cell? ⟨w1.heap.size, 0, none⟩ = some (.int .i64 6)) (first | (simp [*]; done) | go_keep) (fail)
    go_wp2
    refine bodyPost_ret (v := .tuple #[.agg #[.slice none 0 0, .int .i64 0, .slice none 0 0, .slice none 0 0, .slice none 0 0], .int .i64 6]) (by simp [results, Tryz.results64, go_sem, *]) rfl ?_
    have e6 : memF m = 6 := by unfold memF; rw [K6.out, if_pos (by simp)]
    exact .inl ⟨by rw [e6]; simp, by rw [e6], (fiveM B1.out (Nat.le_succ _)).drew⟩
  · have K3 : Hid (askC m.dt m.st = 3) := Hid.mk' (askC_range h6 h3)
    clear h6 h3
    have N1 := below_new w1 (.cells #[.int .i64 3, .int .i64 0, .slice none 0 0, .int .i64 0, .slice none 0 0, .slice none 0 0, .slice none 0 0] 28)
    have M1 := hb1.trans (N1.mono hb1.size)
    have RZ := rowB H2.out M1
    obtain ⟨y0, y1, y2, y3, y4, y5⟩ := cells5 RZ
    have f0 := RZ.frozen 0
    have f1 := RZ.frozen 1
    have f2 := RZ.frozen 2
    have f3 := RZ.frozen 3
    have f4 := RZ.frozen 4
    have Q7 := row7 w1 28 (.int .i64 3) (.int .i64 0) (.slice none 0 0) (.int .i64 0) (.slice none 0 0) (.slice none 0 0) (.slice none 0 0)
    obtain ⟨z0, z1, z2, z3, z4, z5, z6, z7⟩ := cells7 Q7
    have B1 := Hid.mk' (HB.out.trans (M1.mono HB.out.size))
    have hne : w.heap.size + 1 ≠ w1.heap.size := by have := H2.out.lt; have := hb1.size; omega
    have HNE := Hid.mk' hne
    clear N1 M1 RZ Q7 hb1
    go_wp2
    generalize hV : w1.alloc (.cells #[.int .i64 3, .int .i64 0, .slice none 0 0, .int .i64 0, .slice none 0 0, .slice none 0 0, .slice none 0 0] 28) = V at *
    go_region_held3 (fun w' => w'.cell? ⟨w1.heap.size, 0, none⟩ = some (.int .i64 3)) (first | (simp [*]; done) | go_keep) (fail)
    go_wp2
    refine bodyPost_ret (v := .tuple #[.agg #[.slice none 0 0, .int .i64 0, .slice none 0 0, .slice none 0 0, .slice none 0 0], .int .i64 3]) (by simp [results, Tryz.results64, go_sem, *]) rfl ?_
    have e6 : memF m = 3 := by unfold memF; rw [K3.out, if_pos (by simp)]
    exact .inl ⟨by rw [e6]; simp, by rw [e6], (fiveM B1.out (Nat.le_succ _)).drew⟩

  · obtain ⟨ta, tc, ha, hc, rfl, eh, mx⟩ := hx.at hs
    rw [eh]
    have N1 := below_new w1 (.cells #[.int .i64 0, .int .i64 (m.dt.length : Int), .slice (some ⟨gd, 0, none⟩) m.dt.length m.dt.length, .int .i64 (s : Int), .slice ta (allX [] [] m.dt).1.length tc, .slice ha (allX [] [] m.dt).2.length hc, .slice (some ⟨gc, 0, none⟩) (m.dt.length / s + 1) (m.dt.length / s + 1)] 28)
    have M1 := hb1.trans (N1.mono hb1.size)
    have KS := sameReading_any (memX m.dt s) m (some ⟨gd, 0, none⟩) ta ha (some ⟨gc, 0, none⟩) a t u c m.dt.length tc hc (m.dt.length / s + 1) ca ct cu cc _ (mx.below N1) (HA.out.below M1) (by have := mem_small m.dt s h6; omega) HM.out
    have ecl : (memX m.dt s).cs.length = m.dt.length / s + 1 := cksN_len _ _ _
    rw [ecl] at KS
    have KS : Calls Tryz.prog 86 #[.agg #[.slice (some ⟨gd, 0, none⟩) m.dt.length m.dt.length, .int .i64 (s : Int), .slice ta (allX [] [] m.dt).1.length tc, .slice ha (allX [] [] m.dt).2.length hc, .slice (some ⟨gc, 0, none⟩) (m.dt.length / s + 1) (m.dt.length / s + 1)], .agg #[.slice a m.dt.length ca, .int .i64 m.st, .slice t m.tk.length ct, .slice u m.hd.length cu, .slice c m.cs.length cc]] _ fun e w' => e = .returned (.bool (sameR (memX m.dt s) m)) ∧ Below _ _ w' := KS
    rw [hst] at KS
    have R1 := rowB H1.out M1
    rw [hst] at R1
    obtain ⟨x0, x1, x2, x3, x4, x5⟩ := cells5 R1
    have K0 : Hid (askC m.dt m.st = 0) := Hid.mk' (by rw [hst]; exact askC_good h6 hs hs2)
    have EF : Hid (memF m = if sameR (memX m.dt s) m then 0 else 1) := Hid.mk' (by
      unfold memF
      rw [if_neg (by rw [K0.out]; simp), hst]; rfl)
    have Q7 := row7 w1 28 (.int .i64 0) (.int .i64 (m.dt.length : Int)) (.slice (some ⟨gd, 0, none⟩) m.dt.length m.dt.length) (.int .i64 (s : Int)) (.slice ta (allX [] [] m.dt).1.length tc) (.slice ha (allX [] [] m.dt).2.length hc) (.slice (some ⟨gc, 0, none⟩) (m.dt.length / s + 1) (m.dt.length / s + 1))
    obtain ⟨z0, z1, z2, z3, z4, z5, z6, z7⟩ := cells7 Q7
    have HQ := Hid.mk' Q7
    have HX := Hid.mk' (hx.below N1)
    have HR1 := Hid.mk' R1
    have RZ := Hid.mk' (rowB H2.out M1)
    have KS := Hid.mk' KS
    have B1 := Hid.mk' (HB.out.trans (M1.mono HB.out.size))
    have hne : w.heap.size + 1 < w1.heap.size := by have := H2.out.lt; have := hb1.size; omega
    have HNE := Hid.mk' hne
    have HS := Hid.mk' (And.intro h6 (And.intro hst (And.intro hs hs2)))
    have EH := Hid.mk' eh
    have L1 := H2.out.lt
    have LW : Hid (w.heap.size + 1 ≤ W.heap.size) := Hid.mk' (by have := H2.out.lt; omega)
    clear N1 M1 hb1 mx hx R1 Q7 ecl hst hs hs2 h6 eh hne L1
    generalize hT : (allX [] [] m.dt).1 = T at *
    generalize hH : (allX [] [] m.dt).2 = H at *
    generalize hJ : m.dt.length / s + 1 = J at *
    have HT := Hid.mk' hT
    have HH := Hid.mk' hH
    have HJ := Hid.mk' hJ
    clear hT hH hJ
    obtain ⟨R, hR⟩ : ∃ R, sameR (memX m.dt s) m = R := ⟨_, rfl⟩
    have HR := Hid.mk' hR
    rw [hR] at KS EF
    clear hR
    generalize hV : w1.alloc (.cells #[.int .i64 0, .int .i64 (m.dt.length : Int), .slice (some ⟨gd, 0, none⟩) m.dt.length m.dt.length, .int .i64 (s : Int), .slice ta T.length tc, .slice ha H.length hc, .slice (some ⟨gc, 0, none⟩) J J] 28) = V at *
    cases R with
    | false =>
      go_wp2_with fail
      clear hV
      refine KS.out.mono ?_
      rintro e w2 ⟨rfl, hb2⟩
      have RZ2 := rowB RZ.out hb2
      obtain ⟨y0, y1, y2, y3, y4, y5⟩ := cells5 RZ2
      have f0 := RZ2.frozen 0
      have f1 := RZ2.frozen 1
      have f2 := RZ2.frozen 2
      have f3 := RZ2.frozen 3
      have f4 := RZ2.frozen 4
      have B2 := Hid.mk' (B1.out.trans (hb2.mono B1.out.size))
      clear RZ2 hb2 x0 x1 x2 x3 x4 x5 z0 z1 z2 z3 z4 z5 z6 z7
      go_wp2
      refine bodyPost_ret (v := .tuple #[.agg #[.slice none 0 0, .int .i64 0, .slice none 0 0, .slice none 0 0, .slice none 0 0], .int .i64 1]) (by simp [results, Tryz.results64, go_sem, *]) rfl ?_
      have e1 : memF m = 1 := by rw [EF.out]; rfl
      exact .inl ⟨by rw [e1]; simp, by rw [e1], fiveM B2.out (Nat.le_succ _)⟩
    | true =>
      go_wp2_with fail
      clear hV
      refine KS.out.mono ?_
      rintro e w2 ⟨rfl, hb2⟩
      have RZ2 := rowB RZ.out hb2
      obtain ⟨y0, y1, y2, y3, y4, y5⟩ := cells5 RZ2
      have f0 := RZ2.frozen 0
      have f1 := RZ2.frozen 1
      have f2 := RZ2.frozen 2
      have f3 := RZ2.frozen 3
      have f4 := RZ2.frozen 4
      have Q2 := rowB HQ.out hb2
      clear x0 x1 x2 x3 x4 x5 z0 z1 z2 z3 z4 z5 z6 z7
      obtain ⟨z0, z1, z2, z3, z4, z5, z6, z7⟩ := cells7 Q2
      have B2 := Hid.mk' (B1.out.trans (hb2.mono B1.out.size))
      have HX2 := Hid.mk' (HX.out.below hb2)
      clear RZ2 Q2 hb2
      go_wp2
      refine bodyPost_ret (v := .tuple #[.agg #[.slice (some ⟨gd, 0, none⟩) m.dt.length m.dt.length, .int .i64 (s : Int), .slice ta T.length tc, .slice ha H.length hc, .slice (some ⟨gc, 0, none⟩) J J], .int .i64 0]) (by simp [results, Tryz.results64, go_sem, *]) rfl ?_
      have e0 : memF m = 0 := by rw [EF.out]; rfl
      obtain ⟨h6, hst, hs, hs2⟩ := HS.out
      have k := kept5 w2 (w.heap.size + 1) (.slice (some ⟨gd, 0, none⟩) m.dt.length m.dt.length) (.int .i64 (s : Int)) (.slice ta T.length tc) (.slice ha H.length hc) (.slice (some ⟨gc, 0, none⟩) J J)
      refine .inr ⟨e0, h6, s, hst, hs, hs2, HR.out, gd, gc, .slice ta T.length tc, hvs, us, rs, bl, bh, ?_, ?_, fiveM B2.out (Nat.le_succ _)⟩
      · rw [HJ.out, EH.out]
      · have lw := LW.out
        exact (HX2.out.keep k.size (fun q h1 h2 => k.block q h2 (by omega))).down (by omega)

end Go.Proofs.YtdloogkjnjklcaaGreatDoor

namespace Go.Proofs.YtdloogkjnjklcaaGreatDoor
open Go.RowKit

theorem strI_data : ∀ (l : List Int) (r : ByteArray), (l.foldl (fun r n => r.push (UInt8.ofNat n.toNat)) r).data.toList = r.data.toList ++ l.map (fun n => UInt8.ofNat n.toNat)
  | [], r => by simp
  | x :: l, r => by
    rw [List.foldl_cons, strI_data l]
    simp [ByteArray.push]

theorem strI_list (l : List Int) : (strI l).toList = l.map (fun n => UInt8.ofNat n.toNat) := by
  rw [toList_data]
  unfold strI
  rw [strI_data]
  have e : ByteArray.empty.data.toList = [] := rfl
  rw [e, List.nil_append]

theorem byte_inj {x y : Int} (hx : 0 ≤ x ∧ x ≤ 255) (hy : 0 ≤ y ∧ y ≤ 255) (h : UInt8.ofNat x.toNat = UInt8.ofNat y.toNat) : x = y := by
  have := congrArg UInt8.toNat h
  simp only [UInt8.toNat_ofNat'] at this
  omega

theorem map_inj : ∀ (l m : List Int), (∀ x ∈ l, 0 ≤ x ∧ x ≤ 255) → (∀ x ∈ m, 0 ≤ x ∧ x ≤ 255) → l.map (fun n => UInt8.ofNat n.toNat) = m.map (fun n => UInt8.ofNat n.toNat) → l = m
  | [], [], _, _, _ => rfl
  | [], y :: m, _, _, h => by simp at h
  | x :: l, [], _, _, h => by simp at h
  | x :: l, y :: m, hl, hm, h => by
    simp only [List.map_cons, List.cons.injEq] at h
    rw [byte_inj (hl x (List.mem_cons_self ..)) (hm y (List.mem_cons_self ..)) h.1, map_inj l m (fun z hz => hl z (List.mem_cons_of_mem _ hz)) (fun z hz => hm z (List.mem_cons_of_mem _ hz)) h.2]

theorem beqB_eq {l m : List Int} (hl : Byt l) (hm : Byt m) (h : beqB l m = true) : l = m := by
  unfold beqB at h
  rw [strI_list, strI_list] at h
  exact map_inj l m hl.mem hm.mem (by simpa using h)

theorem right_checks {d : List Int} {s : Nat} {m : ME} (hd : Byt d) (hc : ∀ k, k < m.cs.length → Byt (ckK m.cs k).hd) (h : sameR (memX d s) m = true) : m.cs.length = d.length / s + 1 ∧ ∀ k, k < d.length / s + 1 → ckK m.cs k = ckAt d s k := by
  unfold sameR at h
  rw [Bool.and_eq_true, Bool.and_eq_true] at h
  have h3 := h.2.2
  unfold sameCs at h3
  rw [Bool.and_eq_true] at h3
  have e1 : (memX d s).cs.length = d.length / s + 1 := cksN_len _ _ _
  have e2 : (memX d s).cs.length = m.cs.length := of_decide_eq_true h3.1
  refine ⟨by omega, fun k hk => ?_⟩
  have h4 := h3.2
  unfold allK at h4
  rw [List.all_eq_true] at h4
  have h5 := h4 k (List.mem_range.2 (by omega))
  have e3 : ckK (memX d s).cs k = ckAt d s k := cksN_at d s _ k hk
  rw [e3] at h5
  unfold ceq at h5
  rw [Bool.and_eq_true, Bool.and_eq_true] at h5
  have p1 : (ckAt d s k).pl = (ckK m.cs k).pl := by simpa using h5.1
  have p2_ : (ckAt d s k).ct = (ckK m.cs k).ct := by simpa using h5.2.1
  have p3 : (ckAt d s k).hd = (ckK m.cs k).hd := beqB_eq (allX_byt _ _ _ (fun x hx => hd.mem x (List.mem_of_mem_take hx)) Byt.nil) (hc k (by omega)) h5.2.2
  cases hq : ckK m.cs k with
  | mk a b c =>
    rw [hq] at p1 p2_ p3
    cases hz : ckAt d s k with
    | mk a' b' c' =>
      rw [hz] at p1 p2_ p3
      simp only at p1 p2_ p3
      rw [p1, p2_, p3]

theorem memF_ok {m : ME} (h : memF m = 0) : m.dt.length ≤ 240 ∧ ∃ s : Nat, m.st = (s : Int) ∧ 1 ≤ s ∧ s ≤ 60 ∧ sameR (memX m.dt s) m = true := by
  unfold memF at h
  by_cases h1 : askC m.dt m.st = 0
  · rw [if_neg (by rw [h1]; simp)] at h
    obtain ⟨h240, s, hst, hs, hs2⟩ := askC_ok h1
    refine ⟨h240, s, hst, hs, hs2, ?_⟩
    rw [hst] at h
    cases hq : sameR (memX m.dt s) m with
    | true => rfl
    | false =>
      have e : sameR (memX m.dt ((s : Int).toNat)) m = false := hq
      rw [e] at h
      simp at h
  · rw [if_pos h1] at h
    exact absurd h h1

end Go.Proofs.YtdloogkjnjklcaaGreatDoor

namespace Go.Proofs.YtdloogkjnjklcaaGreatDoor
open Go.RowKit

theorem keptIn_drew {lo hi : Nat} {w w' : World} (h : KeptIn lo hi w w') : KeptIn lo hi w w'.drew := ⟨h.os, h.tape, h.output, h.size, h.block⟩
theorem keptIn_cell {lo hi : Nat} {w w' : World} (h : KeptIn lo hi w w') (b o : Nat) (hb : b < w.heap.size) (hn : b < lo ∨ hi ≤ b) : w'.cell? ⟨b, o, none⟩ = w.cell? ⟨b, o, none⟩ :=
  World.cell?_of_block (a := ⟨b, o, none⟩) (h.block b hb hn)

end Go.Proofs.YtdloogkjnjklcaaGreatDoor
