/- One byte appended to the text, in whatever order its operands come. -/
import Derived.Test.YtcjnfodkppcpoaaDoorXUj
namespace Go.Proofs.YtcjnfodkppcpoaaDoor
open Go.RowKit Go.Maps Go.Shelf
set_option linter.unusedVariables false
set_option linter.unusedSimpArgs false
attribute [local go_sem] Oper.semAt_some

theorem Tryd.info5u : (Tryd.prog.info? 5).map (fun i => (i.zero, i.size, i.bytes)) = some (some (.int .u8 0), 1, 1) := by kernel_rfl

/-- append onto a row of one's own, as one step of a region that draws its order, within a fence. -/
theorem step_append_in {F : Fence} {n0 : Nat} {P : Program} {ops : Array Oper} {o : Oper} {a : Act} {w : World} {K : Act → World → Prop} {Q : Exit → Act → World → Prop} {E : Prop} (hgd : o.guard = none) (s x : Operand) (t : TypeId)
    (hop : o.op = .call { callee := .builtin .append, args := #[s, x], argTypes := #[t, t] })
    (base : Nat) (e : TypeId) (z : Value) (size bytes : Nat) (ht : P.underlying t = some (.slice e)) (hinfo : (P.info? e).map (fun i => (i.zero, i.size, i.bytes)) = some (some z, size, bytes))
    (hzs : z.cells.size = size) (hsz : 0 < size)
    (v : Value) (n : Nat) (xs : List Value) (hs : a.eval s = v) (hown : w.ownsRow base e size v n xs)
    (ad : Addr) (m c : Nat) (news : List Value) (hx : a.eval x = .slice (some ad) m c) (hl : news.length = m * size)
    (hsrc : ∀ j u, news[j]? = some u → w.cell? (ad.add j) = some u) (h1 : ∀ u ∈ news, u.oneCell' = true)
    (h63 : n + m ≤ maxLen) (hbytes : (n + m) * bytes ≤ 140737488355328) (hbase : base ≤ w.heap.size)
    (h : ∀ v' w', w'.ownsRow base e size v' (n + m) (xs ++ news) → w.grownBy w' v.ownBlock → (v'.ownBlock = v.ownBlock ∨ v'.ownBlock = some w.heap.size) → K (a.put o.dst v') w') :
    if Region.wanted o (yielded ops a.tmps) = true then Oper.wpIn F n0 P o a w K Q else E := by
  have hw : Region.wanted o (yielded ops a.tmps) = true := by simp [Region.wanted, hgd]
  rw [if_pos hw]
  obtain ⟨i, hi, hz0, hz1, hz2⟩ := info_parts hinfo
  obtain ⟨v', w', hrun, r1, r2, _, r4⟩ := run_append_own_at (P := P) w base t o.type e i z size bytes ht hi hz0 hz1 hz2 hzs hsz v n xs hown ad m c news hl hsrc h1 h63 hbytes hbase
  unfold Oper.wpIn
  refine ⟨?_, ?_⟩
  · simp [Oper.about, hop, resolve, Target.leads, Sem.run_pure]
  · rw [Oper.semAt_plain F _ _ (by rw [hop]; intro c hc'; cases hc')]
    simp [execOp, hop, resolve, invoke, builtin, hs, hx, hrun, Result.andThen]
    exact h v' w' r1 r2 r4

set_option maxRecDepth 100000 in
set_option maxHeartbeats 12800000 in
theorem region12 (w : World) (nv : Value) (Pr : Nat → Prop) (Lq : List Int) (E : List UInt8) (ii ze : Nat) (av : Option Addr) (cv : Nat) (wr : World) (l' m' : Nat) (ds : List Deferred) (hii : ii < E.length) (hE : E.length ≤ 1440) (h240 : Lq.length + ii < 240)
    (hWV : WV w nv false Pr (Lq ++ (E.take ii).map (fun (b : UInt8) => (b.toNat : Int))) (.slice av (Lq.length + ii) cv) wr) (hRT : wr.rowIs ze 85 2 (q2 (.int .i64 0) (.string ⟨E.toArray⟩))) (hze : ze ≠ w.heap.size + 1 + 1) (xb : UInt8) (hxb : E[ii]'hii = xb)
    (x0 x1 x2 x3 x4 x5 x6 x7 x8 x10 x11 x12 x15 x16 x17 x18 x19 x20 x21 x22 x23 x24 x25 x26 x27 x28 x29 x30 x31 x32 x33 x34 x35 x36 x37 x38 x39 x40 x41 x42 x43 x44 x45 x46 x47 : Value) :
    (Code.region 12 #[{ dst := some 36, op := Op.load 24 (Operand.tmp 9), type := 24, pos := "l10_write.go:82", after := #[], guard := none },
  { dst := some 37, op := Op.fieldAddr 85 (Operand.tmp 13) 1, type := 0, pos := "l10_write.go:82", after := #[], guard := none },
  { dst := some 38, op := Op.load 9 (Operand.tmp 37), type := 9, pos := "l10_write.go:82", after := #[{ on := 1, ground := Ground.data }], guard := none },
  { dst := some 39, op := Op.move (Operand.tmp 14), type := 3, pos := "l10_write.go:82", after := #[], guard := none },
  { dst := some 40, op := Op.index 9 (Operand.tmp 38) (Operand.tmp 39), type := 5, pos := "l10_write.go:82", after := #[{ on := 2, ground := Ground.data }, { on := 3, ground := Ground.data }], guard := none },
  { dst := some 41, op := Op.buildSlice 24 1 #[(0, Operand.tmp 40)], type := 24, pos := "l10_write.go:82", after := #[{ on := 4, ground := Ground.data }], guard := none },
  { dst := some 42, op := Op.call { callee := Callee.builtin Builtin.append, args := #[Operand.tmp 36, Operand.tmp 41], argTypes := #[24, 24] }, type := 24, pos := "l10_write.go:82", after := #[{ on := 0, ground := Ground.data }, { on := 5, ground := Ground.data }], guard := none },
  { dst := none, op := Op.store 24 (Operand.tmp 9) (Operand.tmp 42), type := 0, pos := "l10_write.go:82", after := #[{ on := 6, ground := Ground.data }, { on := 6, ground := Ground.chain }, { on := 0, ground := Ground.phase }, { on := 1, ground := Ground.phase }, { on := 2, ground := Ground.phase }, { on := 3, ground := Ground.phase }, { on := 4, ground := Ground.phase }, { on := 5, ground := Ground.phase }, { on := 6, ground := Ground.phase }], guard := none }] true).wpIn (Fence.wide.inRound l') m' Tryd.prog (fun e a' X => e = .normal ∧ ∃ v', a' = { tmps := (x0 :: x1 :: x2 :: x3 :: x4 :: x5 :: x6 :: x7 :: x8 :: (Value.pointer (some ⟨w.heap.size + 1 + 1, 0, none⟩)) :: x10 :: x11 :: x12 :: Value.pointer (some ⟨ze, 0, none⟩) :: Value.int .i64 (ii : Int) :: x15 :: x16 :: x17 :: x18 :: x19 :: x20 :: x21 :: x22 :: x23 :: x24 :: x25 :: x26 :: x27 :: x28 :: x29 :: x30 :: x31 :: x32 :: x33 :: x34 :: x35 :: Value.slice av (Lq.length + ii) cv :: Value.pointer (some ⟨ze, 1, none⟩) :: Value.string ⟨E.toArray⟩ :: Value.int .i64 (ii : Int) :: Value.int .u8 (xb.toNat : Int) :: Value.slice (some ⟨wr.heap.size, 0, none⟩) 1 1 :: v' :: x43 :: x44 :: x45 :: x46 :: x47 :: []).toArray, defers := ds } ∧ WV w nv false Pr (Lq ++ (E.take (ii + 1)).map (fun (b : UInt8) => (b.toNat : Int))) v' X ∧ KpS Pr wr X ∧ X.rowIs ze 85 2 (q2 (.int .i64 0) (.string ⟨E.toArray⟩))) { tmps := (x0 :: x1 :: x2 :: x3 :: x4 :: x5 :: x6 :: x7 :: x8 :: (Value.pointer (some ⟨w.heap.size + 1 + 1, 0, none⟩)) :: x10 :: x11 :: x12 :: Value.pointer (some ⟨ze, 0, none⟩) :: Value.int .i64 (ii : Int) :: x15 :: x16 :: x17 :: x18 :: x19 :: x20 :: x21 :: x22 :: x23 :: x24 :: x25 :: x26 :: x27 :: x28 :: x29 :: x30 :: x31 :: x32 :: x33 :: x34 :: x35 :: x36 :: x37 :: x38 :: x39 :: x40 :: x41 :: x42 :: x43 :: x44 :: x45 :: x46 :: x47 :: []).toArray, defers := ds } wr := by
  have hmo : Tryd.prog.follows .mixedOrders = true := by kernel_rfl
  have t0 : wr.drew.cell? ⟨w.heap.size + 1 + 1, 0, none⟩ = some (.slice av (Lq.length + ii) cv) := hWV.tb.cell (i := 0) (by omega)
  obtain ⟨r0, r1', r2⟩ := cellsQ2 hRT
  have r1 : wr.drew.cell? ⟨ze, 1, none⟩ = some (.string ⟨E.toArray⟩) := r1'
  have LL : (Lq ++ (E.take ii).map (fun (b : UInt8) => (b.toNat : Int))).length = Lq.length + ii := by simp; omega
  have HX : wr.grownBy ((wr.alloc (.cells #[.int .u8 (xb.toNat : Int)] 5)).drew) none := grown_of_below (((Below.refl _ wr).alloc (Nat.le_refl _) _).drew)
  have OW : Hid (((wr.alloc (.cells #[.int .u8 (xb.toNat : Int)] 5)).drew).ownsRow (w.heap.size + 1 + 1 + 1 + 1) 5 1 (.slice av (Lq.length + ii) cv) (Lq.length + ii) (bcs (Lq ++ (E.take ii).map (fun (b : UInt8) => (b.toNat : Int))))) := Hid.mk' (by
    have := (hWV.grow HX).own
    rwa [LL] at this)
  have SRC : Hid (∀ j u, ([.int .u8 (xb.toNat : Int)] : List Value)[j]? = some u → ((wr.alloc (.cells #[.int .u8 (xb.toNat : Int)] 5)).drew).cell? ((⟨wr.heap.size, 0, none⟩ : Addr).add j) = some u) := Hid.mk' (fun j u hj => by
    obtain rfl : j = 0 := by
      rcases j with _ | j
      · rfl
      · simp at hj
    simp at hj
    subst hj
    simp [Addr.add])
  have ONE : Hid (∀ u ∈ ([.int .u8 (xb.toNat : Int)] : List Value), u.oneCell' = true) := Hid.mk' (fun u hu => by simp at hu; subst hu; rfl)
  have BS : Hid (w.heap.size + 1 + 1 + 1 + 1 ≤ ((wr.alloc (.cells #[.int .u8 (xb.toNat : Int)] 5)).drew).heap.size) := Hid.mk' (by have := hWV.lb.lt; have := HX.size; simp; omega)
  have AP := Hid.mk' (fun v' X' ho hg hv => hWV.app (v' := v') (X' := X') (x := (xb.toNat : Int)) HX (by rw [LL]; exact ho) hg hv)
  have CB : Hid (∀ v' X', X'.ownsRow (w.heap.size + 1 + 1 + 1 + 1) 5 1 v' (Lq.length + ii + 1) (bcs (Lq ++ (E.take ii).map (fun (b : UInt8) => (b.toNat : Int))) ++ [.int .u8 (xb.toNat : Int)]) → ((wr.alloc (.cells #[.int .u8 (xb.toNat : Int)] 5)).drew).grownBy X' (Value.slice av (Lq.length + ii) cv).ownBlock → (v'.ownBlock = (Value.slice av (Lq.length + ii) cv).ownBlock ∨ v'.ownBlock = some ((wr.alloc (.cells #[.int .u8 (xb.toNat : Int)] 5)).drew).heap.size) → X'.cell? ⟨w.heap.size + 1 + 1, 0, none⟩ = some (.slice av (Lq.length + ii) cv) ∧ X'.frozen? ⟨w.heap.size + 1 + 1, 0, none⟩ = false) := Hid.mk' (fun v' X' ho hg hv => by
    have hK := hWV.grow HX
    have h1 : X'.rowIs (w.heap.size + 1 + 1) 24 1 (fun _ => .slice av (Lq.length + ii) cv) := hK.tb.of_block (hg.block _ hK.tb.lt (own_ne hK.own hK.tb (by decide)))
    exact ⟨h1.cell (i := 0) (by omega), h1.frozen 0⟩)
  have TKE : (E.take (ii + 1)).map (fun (b : UInt8) => (b.toNat : Int)) = (E.take ii).map (fun (b : UInt8) => (b.toNat : Int)) ++ [(xb.toNat : Int)] := by
    rw [List.take_add_one, List.map_append]
    simp [hii, hxb]
  have hgb : ∀ h, (⟨E.toArray⟩ : ByteArray)[ii]'h = xb := fun h => by rw [← hxb]; rfl
  have hsz : (⟨E.toArray⟩ : ByteArray).size = E.length := by simp [ByteArray.size]
  have RTK := Hid.mk' hRT
  have t0' : (wr.alloc (.cells #[.int .u8 (xb.toNat : Int)] 5)).cell? ⟨w.heap.size + 1 + 1, 0, none⟩ = some (.slice av (Lq.length + ii) cv) := (hWV.grow HX).tb.cell (i := 0) (by omega)
  clear hWV hRT HX
  refine wpIn_region_any hmo ?_
  change wpAnyIn _ _ _ _ _ _ _ _ _ (World.drew _)
  refine wpAnyIn_ready (rs := [0, 1, 3]) (by kernel_rfl) (by simp) ?_
  refine AllReadyIn.cons (o := ⟨_, _, _, _, _, _⟩) rfl (fun K hK => ?_) (AllReadyIn.cons (o := ⟨_, _, _, _, _, _⟩) rfl (fun K hK => ?_) (AllReadyIn.cons (o := ⟨_, _, _, _, _, _⟩) rfl (fun K hK => ?_) AllReadyIn.nil))
  · go_simp
    refine hK _ _ ?_
    clear hK K
    try simp only [Act.put, List.setIfInBounds_toArray, List.set_cons_zero, List.set_cons_succ]
    refine wpAnyIn_ready (rs := [1, 3]) (by kernel_rfl) (by simp) ?_
    refine AllReadyIn.cons (o := ⟨_, _, _, _, _, _⟩) rfl (fun K hK => ?_) (AllReadyIn.cons (o := ⟨_, _, _, _, _, _⟩) rfl (fun K hK => ?_) AllReadyIn.nil)
    · go_simp
      refine hK _ _ ?_
      clear hK K
      try simp only [Act.put, List.setIfInBounds_toArray, List.set_cons_zero, List.set_cons_succ]
      refine wpAnyIn_ready (rs := [2, 3]) (by kernel_rfl) (by simp) ?_
      refine AllReadyIn.cons (o := ⟨_, _, _, _, _, _⟩) rfl (fun K hK => ?_) (AllReadyIn.cons (o := ⟨_, _, _, _, _, _⟩) rfl (fun K hK => ?_) AllReadyIn.nil)
      · go_simp
        refine hK _ _ ?_
        clear hK K
        try simp only [Act.put, List.setIfInBounds_toArray, List.set_cons_zero, List.set_cons_succ]
        refine wpAnyIn_ready (rs := [3]) (by kernel_rfl) (by simp) ?_
        refine AllReadyIn.cons (o := ⟨_, _, _, _, _, _⟩) rfl (fun K hK => ?_) AllReadyIn.nil
        · go_simp
          refine hK _ _ ?_
          clear hK K
          try simp only [Act.put, List.setIfInBounds_toArray, List.set_cons_zero, List.set_cons_succ]
          refine wpAnyIn_ready (rs := [4]) (by kernel_rfl) (by simp) ?_
          refine AllReadyIn.cons (o := ⟨_, _, _, _, _, _⟩) rfl (fun K hK => ?_) AllReadyIn.nil
          · go_simp
            refine hK _ _ ?_
            clear hK K
            try simp only [Act.put, List.setIfInBounds_toArray, List.set_cons_zero, List.set_cons_succ]
            refine wpAnyIn_ready (rs := [5]) (by kernel_rfl) (by simp) ?_
            refine AllReadyIn.cons (o := ⟨_, _, _, _, _, _⟩) rfl (fun K hK => ?_) AllReadyIn.nil
            · go_simp
              refine hK _ _ ?_
              clear hK K
              try simp only [Act.put, List.setIfInBounds_toArray, List.set_cons_zero, List.set_cons_succ]
              refine wpAnyIn_ready (rs := [6]) (by kernel_rfl) (by simp) ?_
              refine AllReadyIn.cons (o := ⟨_, _, _, _, _, _⟩) rfl (fun K hK => ?_) AllReadyIn.nil
              · refine step_append_in (n0 := m') rfl (Operand.tmp 36) (Operand.tmp 41) 24 rfl (w.heap.size + 1 + 1 + 1 + 1) 5 (.int .u8 0) 1 1 Tryd.underlying24 Tryd.info5u rfl (by decide) (.slice av (Lq.length + ii) cv) (Lq.length + ii) (bcs (Lq ++ (E.take ii).map (fun (b : UInt8) => (b.toNat : Int)))) rfl OW.out ⟨wr.heap.size, 0, none⟩ 1 1 [.int .u8 (xb.toNat : Int)] rfl rfl SRC.out ONE.out (by unfold maxLen; omega) (by omega) BS.out ?_
                intro v' X' ho hg hv
                have HO := Hid.mk' ho
                obtain ⟨c0, c1⟩ := CB.out v' X' ho hg hv
                obtain ⟨g', cap', rfl⟩ := ownsRow_succ ho
                refine hK _ _ ?_
                clear hK K
                try simp only [Act.put, List.setIfInBounds_toArray, List.set_cons_zero, List.set_cons_succ]
                refine wpAnyIn_ready (rs := [7]) (by kernel_rfl) (by simp) ?_
                refine AllReadyIn.cons (o := ⟨_, _, _, _, _, _⟩) rfl (fun K hK => ?_) AllReadyIn.nil
                · go_simp
                  refine hK _ _ ?_
                  clear hK K
                  try simp only [Act.put, List.setIfInBounds_toArray, List.set_cons_zero, List.set_cons_succ]
                  refine wpAnyIn_done (by kernel_rfl) ?_ _
                  exact ⟨rfl, _, rfl, by rw [TKE, ← List.append_assoc]; exact (AP.out _ _ ho hg hv).1, (AP.out _ _ ho hg hv).2.1, (AP.out _ _ ho hg hv).2.2 _ _ _ _ (by decide) hze RTK.out⟩
      · go_simp
        refine hK _ _ ?_
        clear hK K
        try simp only [Act.put, List.setIfInBounds_toArray, List.set_cons_zero, List.set_cons_succ]
        refine wpAnyIn_ready (rs := [2]) (by kernel_rfl) (by simp) ?_
        refine AllReadyIn.cons (o := ⟨_, _, _, _, _, _⟩) rfl (fun K hK => ?_) AllReadyIn.nil
        · go_simp
          refine hK _ _ ?_
          clear hK K
          try simp only [Act.put, List.setIfInBounds_toArray, List.set_cons_zero, List.set_cons_succ]
          refine wpAnyIn_ready (rs := [4]) (by kernel_rfl) (by simp) ?_
          refine AllReadyIn.cons (o := ⟨_, _, _, _, _, _⟩) rfl (fun K hK => ?_) AllReadyIn.nil
          · go_simp
            refine hK _ _ ?_
            clear hK K
            try simp only [Act.put, List.setIfInBounds_toArray, List.set_cons_zero, List.set_cons_succ]
            refine wpAnyIn_ready (rs := [5]) (by kernel_rfl) (by simp) ?_
            refine AllReadyIn.cons (o := ⟨_, _, _, _, _, _⟩) rfl (fun K hK => ?_) AllReadyIn.nil
            · go_simp
              refine hK _ _ ?_
              clear hK K
              try simp only [Act.put, List.setIfInBounds_toArray, List.set_cons_zero, List.set_cons_succ]
              refine wpAnyIn_ready (rs := [6]) (by kernel_rfl) (by simp) ?_
              refine AllReadyIn.cons (o := ⟨_, _, _, _, _, _⟩) rfl (fun K hK => ?_) AllReadyIn.nil
              · refine step_append_in (n0 := m') rfl (Operand.tmp 36) (Operand.tmp 41) 24 rfl (w.heap.size + 1 + 1 + 1 + 1) 5 (.int .u8 0) 1 1 Tryd.underlying24 Tryd.info5u rfl (by decide) (.slice av (Lq.length + ii) cv) (Lq.length + ii) (bcs (Lq ++ (E.take ii).map (fun (b : UInt8) => (b.toNat : Int)))) rfl OW.out ⟨wr.heap.size, 0, none⟩ 1 1 [.int .u8 (xb.toNat : Int)] rfl rfl SRC.out ONE.out (by unfold maxLen; omega) (by omega) BS.out ?_
                intro v' X' ho hg hv
                have HO := Hid.mk' ho
                obtain ⟨c0, c1⟩ := CB.out v' X' ho hg hv
                obtain ⟨g', cap', rfl⟩ := ownsRow_succ ho
                refine hK _ _ ?_
                clear hK K
                try simp only [Act.put, List.setIfInBounds_toArray, List.set_cons_zero, List.set_cons_succ]
                refine wpAnyIn_ready (rs := [7]) (by kernel_rfl) (by simp) ?_
                refine AllReadyIn.cons (o := ⟨_, _, _, _, _, _⟩) rfl (fun K hK => ?_) AllReadyIn.nil
                · go_simp
                  refine hK _ _ ?_
                  clear hK K
                  try simp only [Act.put, List.setIfInBounds_toArray, List.set_cons_zero, List.set_cons_succ]
                  refine wpAnyIn_done (by kernel_rfl) ?_ _
                  exact ⟨rfl, _, rfl, by rw [TKE, ← List.append_assoc]; exact (AP.out _ _ ho hg hv).1, (AP.out _ _ ho hg hv).2.1, (AP.out _ _ ho hg hv).2.2 _ _ _ _ (by decide) hze RTK.out⟩
    · go_simp
      refine hK _ _ ?_
      clear hK K
      try simp only [Act.put, List.setIfInBounds_toArray, List.set_cons_zero, List.set_cons_succ]
      refine wpAnyIn_ready (rs := [1]) (by kernel_rfl) (by simp) ?_
      refine AllReadyIn.cons (o := ⟨_, _, _, _, _, _⟩) rfl (fun K hK => ?_) AllReadyIn.nil
      · go_simp
        refine hK _ _ ?_
        clear hK K
        try simp only [Act.put, List.setIfInBounds_toArray, List.set_cons_zero, List.set_cons_succ]
        refine wpAnyIn_ready (rs := [2]) (by kernel_rfl) (by simp) ?_
        refine AllReadyIn.cons (o := ⟨_, _, _, _, _, _⟩) rfl (fun K hK => ?_) AllReadyIn.nil
        · go_simp
          refine hK _ _ ?_
          clear hK K
          try simp only [Act.put, List.setIfInBounds_toArray, List.set_cons_zero, List.set_cons_succ]
          refine wpAnyIn_ready (rs := [4]) (by kernel_rfl) (by simp) ?_
          refine AllReadyIn.cons (o := ⟨_, _, _, _, _, _⟩) rfl (fun K hK => ?_) AllReadyIn.nil
          · go_simp
            refine hK _ _ ?_
            clear hK K
            try simp only [Act.put, List.setIfInBounds_toArray, List.set_cons_zero, List.set_cons_succ]
            refine wpAnyIn_ready (rs := [5]) (by kernel_rfl) (by simp) ?_
            refine AllReadyIn.cons (o := ⟨_, _, _, _, _, _⟩) rfl (fun K hK => ?_) AllReadyIn.nil
            · go_simp
              refine hK _ _ ?_
              clear hK K
              try simp only [Act.put, List.setIfInBounds_toArray, List.set_cons_zero, List.set_cons_succ]
              refine wpAnyIn_ready (rs := [6]) (by kernel_rfl) (by simp) ?_
              refine AllReadyIn.cons (o := ⟨_, _, _, _, _, _⟩) rfl (fun K hK => ?_) AllReadyIn.nil
              · refine step_append_in (n0 := m') rfl (Operand.tmp 36) (Operand.tmp 41) 24 rfl (w.heap.size + 1 + 1 + 1 + 1) 5 (.int .u8 0) 1 1 Tryd.underlying24 Tryd.info5u rfl (by decide) (.slice av (Lq.length + ii) cv) (Lq.length + ii) (bcs (Lq ++ (E.take ii).map (fun (b : UInt8) => (b.toNat : Int)))) rfl OW.out ⟨wr.heap.size, 0, none⟩ 1 1 [.int .u8 (xb.toNat : Int)] rfl rfl SRC.out ONE.out (by unfold maxLen; omega) (by omega) BS.out ?_
                intro v' X' ho hg hv
                have HO := Hid.mk' ho
                obtain ⟨c0, c1⟩ := CB.out v' X' ho hg hv
                obtain ⟨g', cap', rfl⟩ := ownsRow_succ ho
                refine hK _ _ ?_
                clear hK K
                try simp only [Act.put, List.setIfInBounds_toArray, List.set_cons_zero, List.set_cons_succ]
                refine wpAnyIn_ready (rs := [7]) (by kernel_rfl) (by simp) ?_
                refine AllReadyIn.cons (o := ⟨_, _, _, _, _, _⟩) rfl (fun K hK => ?_) AllReadyIn.nil
                · go_simp
                  refine hK _ _ ?_
                  clear hK K
                  try simp only [Act.put, List.setIfInBounds_toArray, List.set_cons_zero, List.set_cons_succ]
                  refine wpAnyIn_done (by kernel_rfl) ?_ _
                  exact ⟨rfl, _, rfl, by rw [TKE, ← List.append_assoc]; exact (AP.out _ _ ho hg hv).1, (AP.out _ _ ho hg hv).2.1, (AP.out _ _ ho hg hv).2.2 _ _ _ _ (by decide) hze RTK.out⟩
  · go_simp
    refine hK _ _ ?_
    clear hK K
    try simp only [Act.put, List.setIfInBounds_toArray, List.set_cons_zero, List.set_cons_succ]
    refine wpAnyIn_ready (rs := [0, 2, 3]) (by kernel_rfl) (by simp) ?_
    refine AllReadyIn.cons (o := ⟨_, _, _, _, _, _⟩) rfl (fun K hK => ?_) (AllReadyIn.cons (o := ⟨_, _, _, _, _, _⟩) rfl (fun K hK => ?_) (AllReadyIn.cons (o := ⟨_, _, _, _, _, _⟩) rfl (fun K hK => ?_) AllReadyIn.nil))
    · go_simp
      refine hK _ _ ?_
      clear hK K
      try simp only [Act.put, List.setIfInBounds_toArray, List.set_cons_zero, List.set_cons_succ]
      refine wpAnyIn_ready (rs := [2, 3]) (by kernel_rfl) (by simp) ?_
      refine AllReadyIn.cons (o := ⟨_, _, _, _, _, _⟩) rfl (fun K hK => ?_) (AllReadyIn.cons (o := ⟨_, _, _, _, _, _⟩) rfl (fun K hK => ?_) AllReadyIn.nil)
      · go_simp
        refine hK _ _ ?_
        clear hK K
        try simp only [Act.put, List.setIfInBounds_toArray, List.set_cons_zero, List.set_cons_succ]
        refine wpAnyIn_ready (rs := [3]) (by kernel_rfl) (by simp) ?_
        refine AllReadyIn.cons (o := ⟨_, _, _, _, _, _⟩) rfl (fun K hK => ?_) AllReadyIn.nil
        · go_simp
          refine hK _ _ ?_
          clear hK K
          try simp only [Act.put, List.setIfInBounds_toArray, List.set_cons_zero, List.set_cons_succ]
          refine wpAnyIn_ready (rs := [4]) (by kernel_rfl) (by simp) ?_
          refine AllReadyIn.cons (o := ⟨_, _, _, _, _, _⟩) rfl (fun K hK => ?_) AllReadyIn.nil
          · go_simp
            refine hK _ _ ?_
            clear hK K
            try simp only [Act.put, List.setIfInBounds_toArray, List.set_cons_zero, List.set_cons_succ]
            refine wpAnyIn_ready (rs := [5]) (by kernel_rfl) (by simp) ?_
            refine AllReadyIn.cons (o := ⟨_, _, _, _, _, _⟩) rfl (fun K hK => ?_) AllReadyIn.nil
            · go_simp
              refine hK _ _ ?_
              clear hK K
              try simp only [Act.put, List.setIfInBounds_toArray, List.set_cons_zero, List.set_cons_succ]
              refine wpAnyIn_ready (rs := [6]) (by kernel_rfl) (by simp) ?_
              refine AllReadyIn.cons (o := ⟨_, _, _, _, _, _⟩) rfl (fun K hK => ?_) AllReadyIn.nil
              · refine step_append_in (n0 := m') rfl (Operand.tmp 36) (Operand.tmp 41) 24 rfl (w.heap.size + 1 + 1 + 1 + 1) 5 (.int .u8 0) 1 1 Tryd.underlying24 Tryd.info5u rfl (by decide) (.slice av (Lq.length + ii) cv) (Lq.length + ii) (bcs (Lq ++ (E.take ii).map (fun (b : UInt8) => (b.toNat : Int)))) rfl OW.out ⟨wr.heap.size, 0, none⟩ 1 1 [.int .u8 (xb.toNat : Int)] rfl rfl SRC.out ONE.out (by unfold maxLen; omega) (by omega) BS.out ?_
                intro v' X' ho hg hv
                have HO := Hid.mk' ho
                obtain ⟨c0, c1⟩ := CB.out v' X' ho hg hv
                obtain ⟨g', cap', rfl⟩ := ownsRow_succ ho
                refine hK _ _ ?_
                clear hK K
                try simp only [Act.put, List.setIfInBounds_toArray, List.set_cons_zero, List.set_cons_succ]
                refine wpAnyIn_ready (rs := [7]) (by kernel_rfl) (by simp) ?_
                refine AllReadyIn.cons (o := ⟨_, _, _, _, _, _⟩) rfl (fun K hK => ?_) AllReadyIn.nil
                · go_simp
                  refine hK _ _ ?_
                  clear hK K
                  try simp only [Act.put, List.setIfInBounds_toArray, List.set_cons_zero, List.set_cons_succ]
                  refine wpAnyIn_done (by kernel_rfl) ?_ _
                  exact ⟨rfl, _, rfl, by rw [TKE, ← List.append_assoc]; exact (AP.out _ _ ho hg hv).1, (AP.out _ _ ho hg hv).2.1, (AP.out _ _ ho hg hv).2.2 _ _ _ _ (by decide) hze RTK.out⟩
      · go_simp
        refine hK _ _ ?_
        clear hK K
        try simp only [Act.put, List.setIfInBounds_toArray, List.set_cons_zero, List.set_cons_succ]
        refine wpAnyIn_ready (rs := [2]) (by kernel_rfl) (by simp) ?_
        refine AllReadyIn.cons (o := ⟨_, _, _, _, _, _⟩) rfl (fun K hK => ?_) AllReadyIn.nil
        · go_simp
          refine hK _ _ ?_
          clear hK K
          try simp only [Act.put, List.setIfInBounds_toArray, List.set_cons_zero, List.set_cons_succ]
          refine wpAnyIn_ready (rs := [4]) (by kernel_rfl) (by simp) ?_
          refine AllReadyIn.cons (o := ⟨_, _, _, _, _, _⟩) rfl (fun K hK => ?_) AllReadyIn.nil
          · go_simp
            refine hK _ _ ?_
            clear hK K
            try simp only [Act.put, List.setIfInBounds_toArray, List.set_cons_zero, List.set_cons_succ]
            refine wpAnyIn_ready (rs := [5]) (by kernel_rfl) (by simp) ?_
            refine AllReadyIn.cons (o := ⟨_, _, _, _, _, _⟩) rfl (fun K hK => ?_) AllReadyIn.nil
            · go_simp
              refine hK _ _ ?_
              clear hK K
              try simp only [Act.put, List.setIfInBounds_toArray, List.set_cons_zero, List.set_cons_succ]
              refine wpAnyIn_ready (rs := [6]) (by kernel_rfl) (by simp) ?_
              refine AllReadyIn.cons (o := ⟨_, _, _, _, _, _⟩) rfl (fun K hK => ?_) AllReadyIn.nil
              · refine step_append_in (n0 := m') rfl (Operand.tmp 36) (Operand.tmp 41) 24 rfl (w.heap.size + 1 + 1 + 1 + 1) 5 (.int .u8 0) 1 1 Tryd.underlying24 Tryd.info5u rfl (by decide) (.slice av (Lq.length + ii) cv) (Lq.length + ii) (bcs (Lq ++ (E.take ii).map (fun (b : UInt8) => (b.toNat : Int)))) rfl OW.out ⟨wr.heap.size, 0, none⟩ 1 1 [.int .u8 (xb.toNat : Int)] rfl rfl SRC.out ONE.out (by unfold maxLen; omega) (by omega) BS.out ?_
                intro v' X' ho hg hv
                have HO := Hid.mk' ho
                obtain ⟨c0, c1⟩ := CB.out v' X' ho hg hv
                obtain ⟨g', cap', rfl⟩ := ownsRow_succ ho
                refine hK _ _ ?_
                clear hK K
                try simp only [Act.put, List.setIfInBounds_toArray, List.set_cons_zero, List.set_cons_succ]
                refine wpAnyIn_ready (rs := [7]) (by kernel_rfl) (by simp) ?_
                refine AllReadyIn.cons (o := ⟨_, _, _, _, _, _⟩) rfl (fun K hK => ?_) AllReadyIn.nil
                · go_simp
                  refine hK _ _ ?_
                  clear hK K
                  try simp only [Act.put, List.setIfInBounds_toArray, List.set_cons_zero, List.set_cons_succ]
                  refine wpAnyIn_done (by kernel_rfl) ?_ _
                  exact ⟨rfl, _, rfl, by rw [TKE, ← List.append_assoc]; exact (AP.out _ _ ho hg hv).1, (AP.out _ _ ho hg hv).2.1, (AP.out _ _ ho hg hv).2.2 _ _ _ _ (by decide) hze RTK.out⟩
    · go_simp
      refine hK _ _ ?_
      clear hK K
      try simp only [Act.put, List.setIfInBounds_toArray, List.set_cons_zero, List.set_cons_succ]
      refine wpAnyIn_ready (rs := [0, 3]) (by kernel_rfl) (by simp) ?_
      refine AllReadyIn.cons (o := ⟨_, _, _, _, _, _⟩) rfl (fun K hK => ?_) (AllReadyIn.cons (o := ⟨_, _, _, _, _, _⟩) rfl (fun K hK => ?_) AllReadyIn.nil)
      · go_simp
        refine hK _ _ ?_
        clear hK K
        try simp only [Act.put, List.setIfInBounds_toArray, List.set_cons_zero, List.set_cons_succ]
        refine wpAnyIn_ready (rs := [3]) (by kernel_rfl) (by simp) ?_
        refine AllReadyIn.cons (o := ⟨_, _, _, _, _, _⟩) rfl (fun K hK => ?_) AllReadyIn.nil
        · go_simp
          refine hK _ _ ?_
          clear hK K
          try simp only [Act.put, List.setIfInBounds_toArray, List.set_cons_zero, List.set_cons_succ]
          refine wpAnyIn_ready (rs := [4]) (by kernel_rfl) (by simp) ?_
          refine AllReadyIn.cons (o := ⟨_, _, _, _, _, _⟩) rfl (fun K hK => ?_) AllReadyIn.nil
          · go_simp
            refine hK _ _ ?_
            clear hK K
            try simp only [Act.put, List.setIfInBounds_toArray, List.set_cons_zero, List.set_cons_succ]
            refine wpAnyIn_ready (rs := [5]) (by kernel_rfl) (by simp) ?_
            refine AllReadyIn.cons (o := ⟨_, _, _, _, _, _⟩) rfl (fun K hK => ?_) AllReadyIn.nil
            · go_simp
              refine hK _ _ ?_
              clear hK K
              try simp only [Act.put, List.setIfInBounds_toArray, List.set_cons_zero, List.set_cons_succ]
              refine wpAnyIn_ready (rs := [6]) (by kernel_rfl) (by simp) ?_
              refine AllReadyIn.cons (o := ⟨_, _, _, _, _, _⟩) rfl (fun K hK => ?_) AllReadyIn.nil
              · refine step_append_in (n0 := m') rfl (Operand.tmp 36) (Operand.tmp 41) 24 rfl (w.heap.size + 1 + 1 + 1 + 1) 5 (.int .u8 0) 1 1 Tryd.underlying24 Tryd.info5u rfl (by decide) (.slice av (Lq.length + ii) cv) (Lq.length + ii) (bcs (Lq ++ (E.take ii).map (fun (b : UInt8) => (b.toNat : Int)))) rfl OW.out ⟨wr.heap.size, 0, none⟩ 1 1 [.int .u8 (xb.toNat : Int)] rfl rfl SRC.out ONE.out (by unfold maxLen; omega) (by omega) BS.out ?_
                intro v' X' ho hg hv
                have HO := Hid.mk' ho
                obtain ⟨c0, c1⟩ := CB.out v' X' ho hg hv
                obtain ⟨g', cap', rfl⟩ := ownsRow_succ ho
                refine hK _ _ ?_
                clear hK K
                try simp only [Act.put, List.setIfInBounds_toArray, List.set_cons_zero, List.set_cons_succ]
                refine wpAnyIn_ready (rs := [7]) (by kernel_rfl) (by simp) ?_
                refine AllReadyIn.cons (o := ⟨_, _, _, _, _, _⟩) rfl (fun K hK => ?_) AllReadyIn.nil
                · go_simp
                  refine hK _ _ ?_
                  clear hK K
                  try simp only [Act.put, List.setIfInBounds_toArray, List.set_cons_zero, List.set_cons_succ]
                  refine wpAnyIn_done (by kernel_rfl) ?_ _
                  exact ⟨rfl, _, rfl, by rw [TKE, ← List.append_assoc]; exact (AP.out _ _ ho hg hv).1, (AP.out _ _ ho hg hv).2.1, (AP.out _ _ ho hg hv).2.2 _ _ _ _ (by decide) hze RTK.out⟩
      · go_simp
        refine hK _ _ ?_
        clear hK K
        try simp only [Act.put, List.setIfInBounds_toArray, List.set_cons_zero, List.set_cons_succ]
        refine wpAnyIn_ready (rs := [0, 4]) (by kernel_rfl) (by simp) ?_
        refine AllReadyIn.cons (o := ⟨_, _, _, _, _, _⟩) rfl (fun K hK => ?_) (AllReadyIn.cons (o := ⟨_, _, _, _, _, _⟩) rfl (fun K hK => ?_) AllReadyIn.nil)
        · go_simp
          refine hK _ _ ?_
          clear hK K
          try simp only [Act.put, List.setIfInBounds_toArray, List.set_cons_zero, List.set_cons_succ]
          refine wpAnyIn_ready (rs := [4]) (by kernel_rfl) (by simp) ?_
          refine AllReadyIn.cons (o := ⟨_, _, _, _, _, _⟩) rfl (fun K hK => ?_) AllReadyIn.nil
          · go_simp
            refine hK _ _ ?_
            clear hK K
            try simp only [Act.put, List.setIfInBounds_toArray, List.set_cons_zero, List.set_cons_succ]
            refine wpAnyIn_ready (rs := [5]) (by kernel_rfl) (by simp) ?_
            refine AllReadyIn.cons (o := ⟨_, _, _, _, _, _⟩) rfl (fun K hK => ?_) AllReadyIn.nil
            · go_simp
              refine hK _ _ ?_
              clear hK K
              try simp only [Act.put, List.setIfInBounds_toArray, List.set_cons_zero, List.set_cons_succ]
              refine wpAnyIn_ready (rs := [6]) (by kernel_rfl) (by simp) ?_
              refine AllReadyIn.cons (o := ⟨_, _, _, _, _, _⟩) rfl (fun K hK => ?_) AllReadyIn.nil
              · refine step_append_in (n0 := m') rfl (Operand.tmp 36) (Operand.tmp 41) 24 rfl (w.heap.size + 1 + 1 + 1 + 1) 5 (.int .u8 0) 1 1 Tryd.underlying24 Tryd.info5u rfl (by decide) (.slice av (Lq.length + ii) cv) (Lq.length + ii) (bcs (Lq ++ (E.take ii).map (fun (b : UInt8) => (b.toNat : Int)))) rfl OW.out ⟨wr.heap.size, 0, none⟩ 1 1 [.int .u8 (xb.toNat : Int)] rfl rfl SRC.out ONE.out (by unfold maxLen; omega) (by omega) BS.out ?_
                intro v' X' ho hg hv
                have HO := Hid.mk' ho
                obtain ⟨c0, c1⟩ := CB.out v' X' ho hg hv
                obtain ⟨g', cap', rfl⟩ := ownsRow_succ ho
                refine hK _ _ ?_
                clear hK K
                try simp only [Act.put, List.setIfInBounds_toArray, List.set_cons_zero, List.set_cons_succ]
                refine wpAnyIn_ready (rs := [7]) (by kernel_rfl) (by simp) ?_
                refine AllReadyIn.cons (o := ⟨_, _, _, _, _, _⟩) rfl (fun K hK => ?_) AllReadyIn.nil
                · go_simp
                  refine hK _ _ ?_
                  clear hK K
                  try simp only [Act.put, List.setIfInBounds_toArray, List.set_cons_zero, List.set_cons_succ]
                  refine wpAnyIn_done (by kernel_rfl) ?_ _
                  exact ⟨rfl, _, rfl, by rw [TKE, ← List.append_assoc]; exact (AP.out _ _ ho hg hv).1, (AP.out _ _ ho hg hv).2.1, (AP.out _ _ ho hg hv).2.2 _ _ _ _ (by decide) hze RTK.out⟩
        · go_simp
          refine hK _ _ ?_
          clear hK K
          try simp only [Act.put, List.setIfInBounds_toArray, List.set_cons_zero, List.set_cons_succ]
          refine wpAnyIn_ready (rs := [0, 5]) (by kernel_rfl) (by simp) ?_
          refine AllReadyIn.cons (o := ⟨_, _, _, _, _, _⟩) rfl (fun K hK => ?_) (AllReadyIn.cons (o := ⟨_, _, _, _, _, _⟩) rfl (fun K hK => ?_) AllReadyIn.nil)
          · go_simp
            refine hK _ _ ?_
            clear hK K
            try simp only [Act.put, List.setIfInBounds_toArray, List.set_cons_zero, List.set_cons_succ]
            refine wpAnyIn_ready (rs := [5]) (by kernel_rfl) (by simp) ?_
            refine AllReadyIn.cons (o := ⟨_, _, _, _, _, _⟩) rfl (fun K hK => ?_) AllReadyIn.nil
            · go_simp
              refine hK _ _ ?_
              clear hK K
              try simp only [Act.put, List.setIfInBounds_toArray, List.set_cons_zero, List.set_cons_succ]
              refine wpAnyIn_ready (rs := [6]) (by kernel_rfl) (by simp) ?_
              refine AllReadyIn.cons (o := ⟨_, _, _, _, _, _⟩) rfl (fun K hK => ?_) AllReadyIn.nil
              · refine step_append_in (n0 := m') rfl (Operand.tmp 36) (Operand.tmp 41) 24 rfl (w.heap.size + 1 + 1 + 1 + 1) 5 (.int .u8 0) 1 1 Tryd.underlying24 Tryd.info5u rfl (by decide) (.slice av (Lq.length + ii) cv) (Lq.length + ii) (bcs (Lq ++ (E.take ii).map (fun (b : UInt8) => (b.toNat : Int)))) rfl OW.out ⟨wr.heap.size, 0, none⟩ 1 1 [.int .u8 (xb.toNat : Int)] rfl rfl SRC.out ONE.out (by unfold maxLen; omega) (by omega) BS.out ?_
                intro v' X' ho hg hv
                have HO := Hid.mk' ho
                obtain ⟨c0, c1⟩ := CB.out v' X' ho hg hv
                obtain ⟨g', cap', rfl⟩ := ownsRow_succ ho
                refine hK _ _ ?_
                clear hK K
                try simp only [Act.put, List.setIfInBounds_toArray, List.set_cons_zero, List.set_cons_succ]
                refine wpAnyIn_ready (rs := [7]) (by kernel_rfl) (by simp) ?_
                refine AllReadyIn.cons (o := ⟨_, _, _, _, _, _⟩) rfl (fun K hK => ?_) AllReadyIn.nil
                · go_simp
                  refine hK _ _ ?_
                  clear hK K
                  try simp only [Act.put, List.setIfInBounds_toArray, List.set_cons_zero, List.set_cons_succ]
                  refine wpAnyIn_done (by kernel_rfl) ?_ _
                  exact ⟨rfl, _, rfl, by rw [TKE, ← List.append_assoc]; exact (AP.out _ _ ho hg hv).1, (AP.out _ _ ho hg hv).2.1, (AP.out _ _ ho hg hv).2.2 _ _ _ _ (by decide) hze RTK.out⟩
          · go_simp
            refine hK _ _ ?_
            clear hK K
            try simp only [Act.put, List.setIfInBounds_toArray, List.set_cons_zero, List.set_cons_succ]
            refine wpAnyIn_ready (rs := [0]) (by kernel_rfl) (by simp) ?_
            refine AllReadyIn.cons (o := ⟨_, _, _, _, _, _⟩) rfl (fun K hK => ?_) AllReadyIn.nil
            · go_simp
              refine hK _ _ ?_
              clear hK K
              try simp only [Act.put, List.setIfInBounds_toArray, List.set_cons_zero, List.set_cons_succ]
              refine wpAnyIn_ready (rs := [6]) (by kernel_rfl) (by simp) ?_
              refine AllReadyIn.cons (o := ⟨_, _, _, _, _, _⟩) rfl (fun K hK => ?_) AllReadyIn.nil
              · refine step_append_in (n0 := m') rfl (Operand.tmp 36) (Operand.tmp 41) 24 rfl (w.heap.size + 1 + 1 + 1 + 1) 5 (.int .u8 0) 1 1 Tryd.underlying24 Tryd.info5u rfl (by decide) (.slice av (Lq.length + ii) cv) (Lq.length + ii) (bcs (Lq ++ (E.take ii).map (fun (b : UInt8) => (b.toNat : Int)))) rfl OW.out ⟨wr.heap.size, 0, none⟩ 1 1 [.int .u8 (xb.toNat : Int)] rfl rfl SRC.out ONE.out (by unfold maxLen; omega) (by omega) BS.out ?_
                intro v' X' ho hg hv
                have HO := Hid.mk' ho
                obtain ⟨c0, c1⟩ := CB.out v' X' ho hg hv
                obtain ⟨g', cap', rfl⟩ := ownsRow_succ ho
                refine hK _ _ ?_
                clear hK K
                try simp only [Act.put, List.setIfInBounds_toArray, List.set_cons_zero, List.set_cons_succ]
                refine wpAnyIn_ready (rs := [7]) (by kernel_rfl) (by simp) ?_
                refine AllReadyIn.cons (o := ⟨_, _, _, _, _, _⟩) rfl (fun K hK => ?_) AllReadyIn.nil
                · go_simp
                  refine hK _ _ ?_
                  clear hK K
                  try simp only [Act.put, List.setIfInBounds_toArray, List.set_cons_zero, List.set_cons_succ]
                  refine wpAnyIn_done (by kernel_rfl) ?_ _
                  exact ⟨rfl, _, rfl, by rw [TKE, ← List.append_assoc]; exact (AP.out _ _ ho hg hv).1, (AP.out _ _ ho hg hv).2.1, (AP.out _ _ ho hg hv).2.2 _ _ _ _ (by decide) hze RTK.out⟩
    · go_simp
      refine hK _ _ ?_
      clear hK K
      try simp only [Act.put, List.setIfInBounds_toArray, List.set_cons_zero, List.set_cons_succ]
      refine wpAnyIn_ready (rs := [0, 2]) (by kernel_rfl) (by simp) ?_
      refine AllReadyIn.cons (o := ⟨_, _, _, _, _, _⟩) rfl (fun K hK => ?_) (AllReadyIn.cons (o := ⟨_, _, _, _, _, _⟩) rfl (fun K hK => ?_) AllReadyIn.nil)
      · go_simp
        refine hK _ _ ?_
        clear hK K
        try simp only [Act.put, List.setIfInBounds_toArray, List.set_cons_zero, List.set_cons_succ]
        refine wpAnyIn_ready (rs := [2]) (by kernel_rfl) (by simp) ?_
        refine AllReadyIn.cons (o := ⟨_, _, _, _, _, _⟩) rfl (fun K hK => ?_) AllReadyIn.nil
        · go_simp
          refine hK _ _ ?_
          clear hK K
          try simp only [Act.put, List.setIfInBounds_toArray, List.set_cons_zero, List.set_cons_succ]
          refine wpAnyIn_ready (rs := [4]) (by kernel_rfl) (by simp) ?_
          refine AllReadyIn.cons (o := ⟨_, _, _, _, _, _⟩) rfl (fun K hK => ?_) AllReadyIn.nil
          · go_simp
            refine hK _ _ ?_
            clear hK K
            try simp only [Act.put, List.setIfInBounds_toArray, List.set_cons_zero, List.set_cons_succ]
            refine wpAnyIn_ready (rs := [5]) (by kernel_rfl) (by simp) ?_
            refine AllReadyIn.cons (o := ⟨_, _, _, _, _, _⟩) rfl (fun K hK => ?_) AllReadyIn.nil
            · go_simp
              refine hK _ _ ?_
              clear hK K
              try simp only [Act.put, List.setIfInBounds_toArray, List.set_cons_zero, List.set_cons_succ]
              refine wpAnyIn_ready (rs := [6]) (by kernel_rfl) (by simp) ?_
              refine AllReadyIn.cons (o := ⟨_, _, _, _, _, _⟩) rfl (fun K hK => ?_) AllReadyIn.nil
              · refine step_append_in (n0 := m') rfl (Operand.tmp 36) (Operand.tmp 41) 24 rfl (w.heap.size + 1 + 1 + 1 + 1) 5 (.int .u8 0) 1 1 Tryd.underlying24 Tryd.info5u rfl (by decide) (.slice av (Lq.length + ii) cv) (Lq.length + ii) (bcs (Lq ++ (E.take ii).map (fun (b : UInt8) => (b.toNat : Int)))) rfl OW.out ⟨wr.heap.size, 0, none⟩ 1 1 [.int .u8 (xb.toNat : Int)] rfl rfl SRC.out ONE.out (by unfold maxLen; omega) (by omega) BS.out ?_
                intro v' X' ho hg hv
                have HO := Hid.mk' ho
                obtain ⟨c0, c1⟩ := CB.out v' X' ho hg hv
                obtain ⟨g', cap', rfl⟩ := ownsRow_succ ho
                refine hK _ _ ?_
                clear hK K
                try simp only [Act.put, List.setIfInBounds_toArray, List.set_cons_zero, List.set_cons_succ]
                refine wpAnyIn_ready (rs := [7]) (by kernel_rfl) (by simp) ?_
                refine AllReadyIn.cons (o := ⟨_, _, _, _, _, _⟩) rfl (fun K hK => ?_) AllReadyIn.nil
                · go_simp
                  refine hK _ _ ?_
                  clear hK K
                  try simp only [Act.put, List.setIfInBounds_toArray, List.set_cons_zero, List.set_cons_succ]
                  refine wpAnyIn_done (by kernel_rfl) ?_ _
                  exact ⟨rfl, _, rfl, by rw [TKE, ← List.append_assoc]; exact (AP.out _ _ ho hg hv).1, (AP.out _ _ ho hg hv).2.1, (AP.out _ _ ho hg hv).2.2 _ _ _ _ (by decide) hze RTK.out⟩
      · go_simp
        refine hK _ _ ?_
        clear hK K
        try simp only [Act.put, List.setIfInBounds_toArray, List.set_cons_zero, List.set_cons_succ]
        refine wpAnyIn_ready (rs := [0, 4]) (by kernel_rfl) (by simp) ?_
        refine AllReadyIn.cons (o := ⟨_, _, _, _, _, _⟩) rfl (fun K hK => ?_) (AllReadyIn.cons (o := ⟨_, _, _, _, _, _⟩) rfl (fun K hK => ?_) AllReadyIn.nil)
        · go_simp
          refine hK _ _ ?_
          clear hK K
          try simp only [Act.put, List.setIfInBounds_toArray, List.set_cons_zero, List.set_cons_succ]
          refine wpAnyIn_ready (rs := [4]) (by kernel_rfl) (by simp) ?_
          refine AllReadyIn.cons (o := ⟨_, _, _, _, _, _⟩) rfl (fun K hK => ?_) AllReadyIn.nil
          · go_simp
            refine hK _ _ ?_
            clear hK K
            try simp only [Act.put, List.setIfInBounds_toArray, List.set_cons_zero, List.set_cons_succ]
            refine wpAnyIn_ready (rs := [5]) (by kernel_rfl) (by simp) ?_
            refine AllReadyIn.cons (o := ⟨_, _, _, _, _, _⟩) rfl (fun K hK => ?_) AllReadyIn.nil
            · go_simp
              refine hK _ _ ?_
              clear hK K
              try simp only [Act.put, List.setIfInBounds_toArray, List.set_cons_zero, List.set_cons_succ]
              refine wpAnyIn_ready (rs := [6]) (by kernel_rfl) (by simp) ?_
              refine AllReadyIn.cons (o := ⟨_, _, _, _, _, _⟩) rfl (fun K hK => ?_) AllReadyIn.nil
              · refine step_append_in (n0 := m') rfl (Operand.tmp 36) (Operand.tmp 41) 24 rfl (w.heap.size + 1 + 1 + 1 + 1) 5 (.int .u8 0) 1 1 Tryd.underlying24 Tryd.info5u rfl (by decide) (.slice av (Lq.length + ii) cv) (Lq.length + ii) (bcs (Lq ++ (E.take ii).map (fun (b : UInt8) => (b.toNat : Int)))) rfl OW.out ⟨wr.heap.size, 0, none⟩ 1 1 [.int .u8 (xb.toNat : Int)] rfl rfl SRC.out ONE.out (by unfold maxLen; omega) (by omega) BS.out ?_
                intro v' X' ho hg hv
                have HO := Hid.mk' ho
                obtain ⟨c0, c1⟩ := CB.out v' X' ho hg hv
                obtain ⟨g', cap', rfl⟩ := ownsRow_succ ho
                refine hK _ _ ?_
                clear hK K
                try simp only [Act.put, List.setIfInBounds_toArray, List.set_cons_zero, List.set_cons_succ]
                refine wpAnyIn_ready (rs := [7]) (by kernel_rfl) (by simp) ?_
                refine AllReadyIn.cons (o := ⟨_, _, _, _, _, _⟩) rfl (fun K hK => ?_) AllReadyIn.nil
                · go_simp
                  refine hK _ _ ?_
                  clear hK K
                  try simp only [Act.put, List.setIfInBounds_toArray, List.set_cons_zero, List.set_cons_succ]
                  refine wpAnyIn_done (by kernel_rfl) ?_ _
                  exact ⟨rfl, _, rfl, by rw [TKE, ← List.append_assoc]; exact (AP.out _ _ ho hg hv).1, (AP.out _ _ ho hg hv).2.1, (AP.out _ _ ho hg hv).2.2 _ _ _ _ (by decide) hze RTK.out⟩
        · go_simp
          refine hK _ _ ?_
          clear hK K
          try simp only [Act.put, List.setIfInBounds_toArray, List.set_cons_zero, List.set_cons_succ]
          refine wpAnyIn_ready (rs := [0, 5]) (by kernel_rfl) (by simp) ?_
          refine AllReadyIn.cons (o := ⟨_, _, _, _, _, _⟩) rfl (fun K hK => ?_) (AllReadyIn.cons (o := ⟨_, _, _, _, _, _⟩) rfl (fun K hK => ?_) AllReadyIn.nil)
          · go_simp
            refine hK _ _ ?_
            clear hK K
            try simp only [Act.put, List.setIfInBounds_toArray, List.set_cons_zero, List.set_cons_succ]
            refine wpAnyIn_ready (rs := [5]) (by kernel_rfl) (by simp) ?_
            refine AllReadyIn.cons (o := ⟨_, _, _, _, _, _⟩) rfl (fun K hK => ?_) AllReadyIn.nil
            · go_simp
              refine hK _ _ ?_
              clear hK K
              try simp only [Act.put, List.setIfInBounds_toArray, List.set_cons_zero, List.set_cons_succ]
              refine wpAnyIn_ready (rs := [6]) (by kernel_rfl) (by simp) ?_
              refine AllReadyIn.cons (o := ⟨_, _, _, _, _, _⟩) rfl (fun K hK => ?_) AllReadyIn.nil
              · refine step_append_in (n0 := m') rfl (Operand.tmp 36) (Operand.tmp 41) 24 rfl (w.heap.size + 1 + 1 + 1 + 1) 5 (.int .u8 0) 1 1 Tryd.underlying24 Tryd.info5u rfl (by decide) (.slice av (Lq.length + ii) cv) (Lq.length + ii) (bcs (Lq ++ (E.take ii).map (fun (b : UInt8) => (b.toNat : Int)))) rfl OW.out ⟨wr.heap.size, 0, none⟩ 1 1 [.int .u8 (xb.toNat : Int)] rfl rfl SRC.out ONE.out (by unfold maxLen; omega) (by omega) BS.out ?_
                intro v' X' ho hg hv
                have HO := Hid.mk' ho
                obtain ⟨c0, c1⟩ := CB.out v' X' ho hg hv
                obtain ⟨g', cap', rfl⟩ := ownsRow_succ ho
                refine hK _ _ ?_
                clear hK K
                try simp only [Act.put, List.setIfInBounds_toArray, List.set_cons_zero, List.set_cons_succ]
                refine wpAnyIn_ready (rs := [7]) (by kernel_rfl) (by simp) ?_
                refine AllReadyIn.cons (o := ⟨_, _, _, _, _, _⟩) rfl (fun K hK => ?_) AllReadyIn.nil
                · go_simp
                  refine hK _ _ ?_
                  clear hK K
                  try simp only [Act.put, List.setIfInBounds_toArray, List.set_cons_zero, List.set_cons_succ]
                  refine wpAnyIn_done (by kernel_rfl) ?_ _
                  exact ⟨rfl, _, rfl, by rw [TKE, ← List.append_assoc]; exact (AP.out _ _ ho hg hv).1, (AP.out _ _ ho hg hv).2.1, (AP.out _ _ ho hg hv).2.2 _ _ _ _ (by decide) hze RTK.out⟩
          · go_simp
            refine hK _ _ ?_
            clear hK K
            try simp only [Act.put, List.setIfInBounds_toArray, List.set_cons_zero, List.set_cons_succ]
            refine wpAnyIn_ready (rs := [0]) (by kernel_rfl) (by simp) ?_
            refine AllReadyIn.cons (o := ⟨_, _, _, _, _, _⟩) rfl (fun K hK => ?_) AllReadyIn.nil
            · go_simp
              refine hK _ _ ?_
              clear hK K
              try simp only [Act.put, List.setIfInBounds_toArray, List.set_cons_zero, List.set_cons_succ]
              refine wpAnyIn_ready (rs := [6]) (by kernel_rfl) (by simp) ?_
              refine AllReadyIn.cons (o := ⟨_, _, _, _, _, _⟩) rfl (fun K hK => ?_) AllReadyIn.nil
              · refine step_append_in (n0 := m') rfl (Operand.tmp 36) (Operand.tmp 41) 24 rfl (w.heap.size + 1 + 1 + 1 + 1) 5 (.int .u8 0) 1 1 Tryd.underlying24 Tryd.info5u rfl (by decide) (.slice av (Lq.length + ii) cv) (Lq.length + ii) (bcs (Lq ++ (E.take ii).map (fun (b : UInt8) => (b.toNat : Int)))) rfl OW.out ⟨wr.heap.size, 0, none⟩ 1 1 [.int .u8 (xb.toNat : Int)] rfl rfl SRC.out ONE.out (by unfold maxLen; omega) (by omega) BS.out ?_
                intro v' X' ho hg hv
                have HO := Hid.mk' ho
                obtain ⟨c0, c1⟩ := CB.out v' X' ho hg hv
                obtain ⟨g', cap', rfl⟩ := ownsRow_succ ho
                refine hK _ _ ?_
                clear hK K
                try simp only [Act.put, List.setIfInBounds_toArray, List.set_cons_zero, List.set_cons_succ]
                refine wpAnyIn_ready (rs := [7]) (by kernel_rfl) (by simp) ?_
                refine AllReadyIn.cons (o := ⟨_, _, _, _, _, _⟩) rfl (fun K hK => ?_) AllReadyIn.nil
                · go_simp
                  refine hK _ _ ?_
                  clear hK K
                  try simp only [Act.put, List.setIfInBounds_toArray, List.set_cons_zero, List.set_cons_succ]
                  refine wpAnyIn_done (by kernel_rfl) ?_ _
                  exact ⟨rfl, _, rfl, by rw [TKE, ← List.append_assoc]; exact (AP.out _ _ ho hg hv).1, (AP.out _ _ ho hg hv).2.1, (AP.out _ _ ho hg hv).2.2 _ _ _ _ (by decide) hze RTK.out⟩
  · go_simp
    refine hK _ _ ?_
    clear hK K
    try simp only [Act.put, List.setIfInBounds_toArray, List.set_cons_zero, List.set_cons_succ]
    refine wpAnyIn_ready (rs := [0, 1]) (by kernel_rfl) (by simp) ?_
    refine AllReadyIn.cons (o := ⟨_, _, _, _, _, _⟩) rfl (fun K hK => ?_) (AllReadyIn.cons (o := ⟨_, _, _, _, _, _⟩) rfl (fun K hK => ?_) AllReadyIn.nil)
    · go_simp
      refine hK _ _ ?_
      clear hK K
      try simp only [Act.put, List.setIfInBounds_toArray, List.set_cons_zero, List.set_cons_succ]
      refine wpAnyIn_ready (rs := [1]) (by kernel_rfl) (by simp) ?_
      refine AllReadyIn.cons (o := ⟨_, _, _, _, _, _⟩) rfl (fun K hK => ?_) AllReadyIn.nil
      · go_simp
        refine hK _ _ ?_
        clear hK K
        try simp only [Act.put, List.setIfInBounds_toArray, List.set_cons_zero, List.set_cons_succ]
        refine wpAnyIn_ready (rs := [2]) (by kernel_rfl) (by simp) ?_
        refine AllReadyIn.cons (o := ⟨_, _, _, _, _, _⟩) rfl (fun K hK => ?_) AllReadyIn.nil
        · go_simp
          refine hK _ _ ?_
          clear hK K
          try simp only [Act.put, List.setIfInBounds_toArray, List.set_cons_zero, List.set_cons_succ]
          refine wpAnyIn_ready (rs := [4]) (by kernel_rfl) (by simp) ?_
          refine AllReadyIn.cons (o := ⟨_, _, _, _, _, _⟩) rfl (fun K hK => ?_) AllReadyIn.nil
          · go_simp
            refine hK _ _ ?_
            clear hK K
            try simp only [Act.put, List.setIfInBounds_toArray, List.set_cons_zero, List.set_cons_succ]
            refine wpAnyIn_ready (rs := [5]) (by kernel_rfl) (by simp) ?_
            refine AllReadyIn.cons (o := ⟨_, _, _, _, _, _⟩) rfl (fun K hK => ?_) AllReadyIn.nil
            · go_simp
              refine hK _ _ ?_
              clear hK K
              try simp only [Act.put, List.setIfInBounds_toArray, List.set_cons_zero, List.set_cons_succ]
              refine wpAnyIn_ready (rs := [6]) (by kernel_rfl) (by simp) ?_
              refine AllReadyIn.cons (o := ⟨_, _, _, _, _, _⟩) rfl (fun K hK => ?_) AllReadyIn.nil
              · refine step_append_in (n0 := m') rfl (Operand.tmp 36) (Operand.tmp 41) 24 rfl (w.heap.size + 1 + 1 + 1 + 1) 5 (.int .u8 0) 1 1 Tryd.underlying24 Tryd.info5u rfl (by decide) (.slice av (Lq.length + ii) cv) (Lq.length + ii) (bcs (Lq ++ (E.take ii).map (fun (b : UInt8) => (b.toNat : Int)))) rfl OW.out ⟨wr.heap.size, 0, none⟩ 1 1 [.int .u8 (xb.toNat : Int)] rfl rfl SRC.out ONE.out (by unfold maxLen; omega) (by omega) BS.out ?_
                intro v' X' ho hg hv
                have HO := Hid.mk' ho
                obtain ⟨c0, c1⟩ := CB.out v' X' ho hg hv
                obtain ⟨g', cap', rfl⟩ := ownsRow_succ ho
                refine hK _ _ ?_
                clear hK K
                try simp only [Act.put, List.setIfInBounds_toArray, List.set_cons_zero, List.set_cons_succ]
                refine wpAnyIn_ready (rs := [7]) (by kernel_rfl) (by simp) ?_
                refine AllReadyIn.cons (o := ⟨_, _, _, _, _, _⟩) rfl (fun K hK => ?_) AllReadyIn.nil
                · go_simp
                  refine hK _ _ ?_
                  clear hK K
                  try simp only [Act.put, List.setIfInBounds_toArray, List.set_cons_zero, List.set_cons_succ]
                  refine wpAnyIn_done (by kernel_rfl) ?_ _
                  exact ⟨rfl, _, rfl, by rw [TKE, ← List.append_assoc]; exact (AP.out _ _ ho hg hv).1, (AP.out _ _ ho hg hv).2.1, (AP.out _ _ ho hg hv).2.2 _ _ _ _ (by decide) hze RTK.out⟩
    · go_simp
      refine hK _ _ ?_
      clear hK K
      try simp only [Act.put, List.setIfInBounds_toArray, List.set_cons_zero, List.set_cons_succ]
      refine wpAnyIn_ready (rs := [0, 2]) (by kernel_rfl) (by simp) ?_
      refine AllReadyIn.cons (o := ⟨_, _, _, _, _, _⟩) rfl (fun K hK => ?_) (AllReadyIn.cons (o := ⟨_, _, _, _, _, _⟩) rfl (fun K hK => ?_) AllReadyIn.nil)
      · go_simp
        refine hK _ _ ?_
        clear hK K
        try simp only [Act.put, List.setIfInBounds_toArray, List.set_cons_zero, List.set_cons_succ]
        refine wpAnyIn_ready (rs := [2]) (by kernel_rfl) (by simp) ?_
        refine AllReadyIn.cons (o := ⟨_, _, _, _, _, _⟩) rfl (fun K hK => ?_) AllReadyIn.nil
        · go_simp
          refine hK _ _ ?_
          clear hK K
          try simp only [Act.put, List.setIfInBounds_toArray, List.set_cons_zero, List.set_cons_succ]
          refine wpAnyIn_ready (rs := [4]) (by kernel_rfl) (by simp) ?_
          refine AllReadyIn.cons (o := ⟨_, _, _, _, _, _⟩) rfl (fun K hK => ?_) AllReadyIn.nil
          · go_simp
            refine hK _ _ ?_
            clear hK K
            try simp only [Act.put, List.setIfInBounds_toArray, List.set_cons_zero, List.set_cons_succ]
            refine wpAnyIn_ready (rs := [5]) (by kernel_rfl) (by simp) ?_
            refine AllReadyIn.cons (o := ⟨_, _, _, _, _, _⟩) rfl (fun K hK => ?_) AllReadyIn.nil
            · go_simp
              refine hK _ _ ?_
              clear hK K
              try simp only [Act.put, List.setIfInBounds_toArray, List.set_cons_zero, List.set_cons_succ]
              refine wpAnyIn_ready (rs := [6]) (by kernel_rfl) (by simp) ?_
              refine AllReadyIn.cons (o := ⟨_, _, _, _, _, _⟩) rfl (fun K hK => ?_) AllReadyIn.nil
              · refine step_append_in (n0 := m') rfl (Operand.tmp 36) (Operand.tmp 41) 24 rfl (w.heap.size + 1 + 1 + 1 + 1) 5 (.int .u8 0) 1 1 Tryd.underlying24 Tryd.info5u rfl (by decide) (.slice av (Lq.length + ii) cv) (Lq.length + ii) (bcs (Lq ++ (E.take ii).map (fun (b : UInt8) => (b.toNat : Int)))) rfl OW.out ⟨wr.heap.size, 0, none⟩ 1 1 [.int .u8 (xb.toNat : Int)] rfl rfl SRC.out ONE.out (by unfold maxLen; omega) (by omega) BS.out ?_
                intro v' X' ho hg hv
                have HO := Hid.mk' ho
                obtain ⟨c0, c1⟩ := CB.out v' X' ho hg hv
                obtain ⟨g', cap', rfl⟩ := ownsRow_succ ho
                refine hK _ _ ?_
                clear hK K
                try simp only [Act.put, List.setIfInBounds_toArray, List.set_cons_zero, List.set_cons_succ]
                refine wpAnyIn_ready (rs := [7]) (by kernel_rfl) (by simp) ?_
                refine AllReadyIn.cons (o := ⟨_, _, _, _, _, _⟩) rfl (fun K hK => ?_) AllReadyIn.nil
                · go_simp
                  refine hK _ _ ?_
                  clear hK K
                  try simp only [Act.put, List.setIfInBounds_toArray, List.set_cons_zero, List.set_cons_succ]
                  refine wpAnyIn_done (by kernel_rfl) ?_ _
                  exact ⟨rfl, _, rfl, by rw [TKE, ← List.append_assoc]; exact (AP.out _ _ ho hg hv).1, (AP.out _ _ ho hg hv).2.1, (AP.out _ _ ho hg hv).2.2 _ _ _ _ (by decide) hze RTK.out⟩
      · go_simp
        refine hK _ _ ?_
        clear hK K
        try simp only [Act.put, List.setIfInBounds_toArray, List.set_cons_zero, List.set_cons_succ]
        refine wpAnyIn_ready (rs := [0, 4]) (by kernel_rfl) (by simp) ?_
        refine AllReadyIn.cons (o := ⟨_, _, _, _, _, _⟩) rfl (fun K hK => ?_) (AllReadyIn.cons (o := ⟨_, _, _, _, _, _⟩) rfl (fun K hK => ?_) AllReadyIn.nil)
        · go_simp
          refine hK _ _ ?_
          clear hK K
          try simp only [Act.put, List.setIfInBounds_toArray, List.set_cons_zero, List.set_cons_succ]
          refine wpAnyIn_ready (rs := [4]) (by kernel_rfl) (by simp) ?_
          refine AllReadyIn.cons (o := ⟨_, _, _, _, _, _⟩) rfl (fun K hK => ?_) AllReadyIn.nil
          · go_simp
            refine hK _ _ ?_
            clear hK K
            try simp only [Act.put, List.setIfInBounds_toArray, List.set_cons_zero, List.set_cons_succ]
            refine wpAnyIn_ready (rs := [5]) (by kernel_rfl) (by simp) ?_
            refine AllReadyIn.cons (o := ⟨_, _, _, _, _, _⟩) rfl (fun K hK => ?_) AllReadyIn.nil
            · go_simp
              refine hK _ _ ?_
              clear hK K
              try simp only [Act.put, List.setIfInBounds_toArray, List.set_cons_zero, List.set_cons_succ]
              refine wpAnyIn_ready (rs := [6]) (by kernel_rfl) (by simp) ?_
              refine AllReadyIn.cons (o := ⟨_, _, _, _, _, _⟩) rfl (fun K hK => ?_) AllReadyIn.nil
              · refine step_append_in (n0 := m') rfl (Operand.tmp 36) (Operand.tmp 41) 24 rfl (w.heap.size + 1 + 1 + 1 + 1) 5 (.int .u8 0) 1 1 Tryd.underlying24 Tryd.info5u rfl (by decide) (.slice av (Lq.length + ii) cv) (Lq.length + ii) (bcs (Lq ++ (E.take ii).map (fun (b : UInt8) => (b.toNat : Int)))) rfl OW.out ⟨wr.heap.size, 0, none⟩ 1 1 [.int .u8 (xb.toNat : Int)] rfl rfl SRC.out ONE.out (by unfold maxLen; omega) (by omega) BS.out ?_
                intro v' X' ho hg hv
                have HO := Hid.mk' ho
                obtain ⟨c0, c1⟩ := CB.out v' X' ho hg hv
                obtain ⟨g', cap', rfl⟩ := ownsRow_succ ho
                refine hK _ _ ?_
                clear hK K
                try simp only [Act.put, List.setIfInBounds_toArray, List.set_cons_zero, List.set_cons_succ]
                refine wpAnyIn_ready (rs := [7]) (by kernel_rfl) (by simp) ?_
                refine AllReadyIn.cons (o := ⟨_, _, _, _, _, _⟩) rfl (fun K hK => ?_) AllReadyIn.nil
                · go_simp
                  refine hK _ _ ?_
                  clear hK K
                  try simp only [Act.put, List.setIfInBounds_toArray, List.set_cons_zero, List.set_cons_succ]
                  refine wpAnyIn_done (by kernel_rfl) ?_ _
                  exact ⟨rfl, _, rfl, by rw [TKE, ← List.append_assoc]; exact (AP.out _ _ ho hg hv).1, (AP.out _ _ ho hg hv).2.1, (AP.out _ _ ho hg hv).2.2 _ _ _ _ (by decide) hze RTK.out⟩
        · go_simp
          refine hK _ _ ?_
          clear hK K
          try simp only [Act.put, List.setIfInBounds_toArray, List.set_cons_zero, List.set_cons_succ]
          refine wpAnyIn_ready (rs := [0, 5]) (by kernel_rfl) (by simp) ?_
          refine AllReadyIn.cons (o := ⟨_, _, _, _, _, _⟩) rfl (fun K hK => ?_) (AllReadyIn.cons (o := ⟨_, _, _, _, _, _⟩) rfl (fun K hK => ?_) AllReadyIn.nil)
          · go_simp
            refine hK _ _ ?_
            clear hK K
            try simp only [Act.put, List.setIfInBounds_toArray, List.set_cons_zero, List.set_cons_succ]
            refine wpAnyIn_ready (rs := [5]) (by kernel_rfl) (by simp) ?_
            refine AllReadyIn.cons (o := ⟨_, _, _, _, _, _⟩) rfl (fun K hK => ?_) AllReadyIn.nil
            · go_simp
              refine hK _ _ ?_
              clear hK K
              try simp only [Act.put, List.setIfInBounds_toArray, List.set_cons_zero, List.set_cons_succ]
              refine wpAnyIn_ready (rs := [6]) (by kernel_rfl) (by simp) ?_
              refine AllReadyIn.cons (o := ⟨_, _, _, _, _, _⟩) rfl (fun K hK => ?_) AllReadyIn.nil
              · refine step_append_in (n0 := m') rfl (Operand.tmp 36) (Operand.tmp 41) 24 rfl (w.heap.size + 1 + 1 + 1 + 1) 5 (.int .u8 0) 1 1 Tryd.underlying24 Tryd.info5u rfl (by decide) (.slice av (Lq.length + ii) cv) (Lq.length + ii) (bcs (Lq ++ (E.take ii).map (fun (b : UInt8) => (b.toNat : Int)))) rfl OW.out ⟨wr.heap.size, 0, none⟩ 1 1 [.int .u8 (xb.toNat : Int)] rfl rfl SRC.out ONE.out (by unfold maxLen; omega) (by omega) BS.out ?_
                intro v' X' ho hg hv
                have HO := Hid.mk' ho
                obtain ⟨c0, c1⟩ := CB.out v' X' ho hg hv
                obtain ⟨g', cap', rfl⟩ := ownsRow_succ ho
                refine hK _ _ ?_
                clear hK K
                try simp only [Act.put, List.setIfInBounds_toArray, List.set_cons_zero, List.set_cons_succ]
                refine wpAnyIn_ready (rs := [7]) (by kernel_rfl) (by simp) ?_
                refine AllReadyIn.cons (o := ⟨_, _, _, _, _, _⟩) rfl (fun K hK => ?_) AllReadyIn.nil
                · go_simp
                  refine hK _ _ ?_
                  clear hK K
                  try simp only [Act.put, List.setIfInBounds_toArray, List.set_cons_zero, List.set_cons_succ]
                  refine wpAnyIn_done (by kernel_rfl) ?_ _
                  exact ⟨rfl, _, rfl, by rw [TKE, ← List.append_assoc]; exact (AP.out _ _ ho hg hv).1, (AP.out _ _ ho hg hv).2.1, (AP.out _ _ ho hg hv).2.2 _ _ _ _ (by decide) hze RTK.out⟩
          · go_simp
            refine hK _ _ ?_
            clear hK K
            try simp only [Act.put, List.setIfInBounds_toArray, List.set_cons_zero, List.set_cons_succ]
            refine wpAnyIn_ready (rs := [0]) (by kernel_rfl) (by simp) ?_
            refine AllReadyIn.cons (o := ⟨_, _, _, _, _, _⟩) rfl (fun K hK => ?_) AllReadyIn.nil
            · go_simp
              refine hK _ _ ?_
              clear hK K
              try simp only [Act.put, List.setIfInBounds_toArray, List.set_cons_zero, List.set_cons_succ]
              refine wpAnyIn_ready (rs := [6]) (by kernel_rfl) (by simp) ?_
              refine AllReadyIn.cons (o := ⟨_, _, _, _, _, _⟩) rfl (fun K hK => ?_) AllReadyIn.nil
              · refine step_append_in (n0 := m') rfl (Operand.tmp 36) (Operand.tmp 41) 24 rfl (w.heap.size + 1 + 1 + 1 + 1) 5 (.int .u8 0) 1 1 Tryd.underlying24 Tryd.info5u rfl (by decide) (.slice av (Lq.length + ii) cv) (Lq.length + ii) (bcs (Lq ++ (E.take ii).map (fun (b : UInt8) => (b.toNat : Int)))) rfl OW.out ⟨wr.heap.size, 0, none⟩ 1 1 [.int .u8 (xb.toNat : Int)] rfl rfl SRC.out ONE.out (by unfold maxLen; omega) (by omega) BS.out ?_
                intro v' X' ho hg hv
                have HO := Hid.mk' ho
                obtain ⟨c0, c1⟩ := CB.out v' X' ho hg hv
                obtain ⟨g', cap', rfl⟩ := ownsRow_succ ho
                refine hK _ _ ?_
                clear hK K
                try simp only [Act.put, List.setIfInBounds_toArray, List.set_cons_zero, List.set_cons_succ]
                refine wpAnyIn_ready (rs := [7]) (by kernel_rfl) (by simp) ?_
                refine AllReadyIn.cons (o := ⟨_, _, _, _, _, _⟩) rfl (fun K hK => ?_) AllReadyIn.nil
                · go_simp
                  refine hK _ _ ?_
                  clear hK K
                  try simp only [Act.put, List.setIfInBounds_toArray, List.set_cons_zero, List.set_cons_succ]
                  refine wpAnyIn_done (by kernel_rfl) ?_ _
                  exact ⟨rfl, _, rfl, by rw [TKE, ← List.append_assoc]; exact (AP.out _ _ ho hg hv).1, (AP.out _ _ ho hg hv).2.1, (AP.out _ _ ho hg hv).2.2 _ _ _ _ (by decide) hze RTK.out⟩
end Go.Proofs.YtcjnfodkppcpoaaDoor
