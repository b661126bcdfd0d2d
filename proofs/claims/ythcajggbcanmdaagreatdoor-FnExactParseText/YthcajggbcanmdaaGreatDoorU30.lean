/- A builder in its box: the model's (its open ones in a row) and the program's (its open ones pointed at), told as one. -/
import Derived.Test.YthcajggbcanmdaaGreatDoorU29
set_option linter.unusedVariables false
set_option linter.unusedSimpArgs false
namespace Go.Proofs.YthcajggbcanmdaaGreatDoor
open Go.RowKit

def ptB : Value → Nat
  | .pointer (some a) => a.block + 1
  | _ => 0

def OE (τ : Nat → Nat) (lo : Nat) (w : World) (nd : List ND) (op : List Int) : Nat → Value → Prop
  | 0, v => v = .pointer none
  | k + 1, v => ∃ b u, v = .pointer (some ⟨b, 0, none⟩) ∧ lo ≤ b ∧ τ b = 1 ∧ w.rowIs b 174 3 (r3 (.int .i64 (wv op k)) (.string (ndK nd (wv op k).toNat).tg) u) ∧ ptB u ≤ b ∧ OE τ lo w nd op k u

theorem OE.keep {τ : Nat → Nat} {lo : Nat} {w w' : World} {nd : List ND} {op : List Int} (hk : Kp (fun k => τ k = 1) w w') : ∀ {k : Nat} {v : Value}, OE τ lo w nd op k v → OE τ lo w' nd op k v
  | 0, _, h => h
  | k + 1, _, ⟨b, u, e, h1, h2, h3, hp, h4⟩ => ⟨b, u, e, h1, h2, h3.of_block (hk.block b h3.lt h2), hp, OE.keep hk h4⟩

theorem OE.relabel {τ τ' : Nat → Nat} {lo : Nat} {w : World} {nd : List ND} {op : List Int} (ht : ∀ k, lo ≤ k → k < w.heap.size → τ' k = τ k) : ∀ {k : Nat} {v : Value}, OE τ lo w nd op k v → OE τ' lo w nd op k v
  | 0, _, h => h
  | k + 1, _, ⟨b, u, e, h1, h2, h3, hp, h4⟩ => ⟨b, u, e, h1, (ht b h1 h3.lt).trans h2, h3, hp, OE.relabel ht h4⟩

theorem OE.congr {τ : Nat → Nat} {lo : Nat} {w : World} {nd nd' : List ND} {op op' : List Int} : ∀ {k : Nat} {v : Value}, (∀ j, j < k → wv op' j = wv op j ∧ (ndK nd' (wv op j).toNat).tg = (ndK nd (wv op j).toNat).tg) → OE τ lo w nd op k v → OE τ lo w nd' op' k v
  | 0, _, _, h => h
  | k + 1, _, hc, ⟨b, u, e, h1, h2, h3, hp, h4⟩ => by
    obtain ⟨c1, c2⟩ := hc k (by omega)
    exact ⟨b, u, e, h1, h2, by rw [c1, c2]; exact h3, hp, OE.congr (fun j hj => hc j (by omega)) h4⟩

theorem OE.ptr {τ : Nat → Nat} {lo : Nat} {w : World} {nd : List ND} {op : List Int} : ∀ {k : Nat} {v : Value}, OE τ lo w nd op k v → ∃ p, v = .pointer p
  | 0, _, h => ⟨none, h⟩
  | k + 1, _, ⟨b, u, e, _⟩ => ⟨_, e⟩

theorem OE.move {τ τ' : Nat → Nat} {lo : Nat} {w w' : World} {nd : List ND} {op : List Int} (hk : ∀ k, k < w.heap.size → τ k = 1 → w'.heap[k]? = w.heap[k]?) (ht : ∀ k, k < w.heap.size → τ' k = τ k) : ∀ {k : Nat} {v : Value}, OE τ lo w nd op k v → OE τ' lo w' nd op k v
  | 0, _, h => h
  | k + 1, _, ⟨b, u, e, h1, h2, h3, hp, h4⟩ => ⟨b, u, e, h1, (ht b h3.lt).trans h2, h3.of_block (hk b h3.lt h2), hp, OE.move hk ht h4⟩

theorem OE.pt_le {τ : Nat → Nat} {lo : Nat} {w : World} {nd : List ND} {op : List Int} : ∀ {k : Nat} {v : Value}, OE τ lo w nd op k v → ptB v ≤ w.heap.size
  | 0, _, h => by have e : _ = Value.pointer none := h; rw [e]; exact Nat.zero_le _
  | k + 1, _, ⟨b, u, e, _, _, h3, _⟩ => by rw [e]; exact h3.lt

def OpP (im : Bool) (τ : Nat → Nat) (lo : Nat) (w : World) (nd : List ND) (op : List Int) (v : Value) : Prop :=
  match im with
  | false => w.ownsRow lo 2 1 v op.length (ics op) ∧ ∀ k, v.ownBlock = some k → τ k = 1
  | true => OE τ lo w nd op op.length v

theorem OpP.keep {im : Bool} {τ : Nat → Nat} {lo : Nat} {w w' : World} {nd : List ND} {op : List Int} {v : Value} (h : OpP im τ lo w nd op v) (hk : Kp (fun k => τ k = 1) w w') : OpP im τ lo w' nd op v := by
  cases im with
  | false => exact ⟨own_of h.1 (Nat.le_refl _) (fun k e _ => hk.block k (h.1.lt k e).2 (h.2 k e)), h.2⟩
  | true => exact OE.keep hk h

theorem OpP.relabel {im : Bool} {τ τ' : Nat → Nat} {lo : Nat} {w : World} {nd : List ND} {op : List Int} {v : Value} (h : OpP im τ lo w nd op v) (ht : ∀ k, lo ≤ k → k < w.heap.size → τ' k = τ k) : OpP im τ' lo w nd op v := by
  cases im with
  | false => exact ⟨h.1, fun k e => by have := h.1.lt k e; rw [ht k this.1 this.2]; exact h.2 k e⟩
  | true => exact OE.relabel ht h

theorem OpP.nodes {im : Bool} {τ : Nat → Nat} {lo : Nat} {w : World} {nd nd' : List ND} {op : List Int} {v : Value} (h : OpP im τ lo w nd op v) (ht : ∀ j, j < op.length → (ndK nd' (wv op j).toNat).tg = (ndK nd (wv op j).toNat).tg) : OpP im τ lo w nd' op v := by
  cases im with
  | false => exact h
  | true => exact OE.congr (fun j hj => ⟨rfl, ht j hj⟩) h

theorem OpP.move {im : Bool} {τ τ' : Nat → Nat} {lo : Nat} {w w' : World} {nd : List ND} {op : List Int} {v : Value} (h : OpP im τ lo w nd op v) (hk : ∀ k, k < w.heap.size → τ k = 1 → w'.heap[k]? = w.heap[k]?) (ht : ∀ k, k < w.heap.size → τ' k = τ k) : OpP im τ' lo w' nd op v := by
  cases im with
  | false => exact ⟨own_of h.1 (Nat.le_refl _) (fun k e _ => hk k (h.1.lt k e).2 (h.2 k e)), fun k e => (ht k (h.1.lt k e).2).trans (h.2 k e)⟩
  | true => exact OE.move hk ht h

def noneV (im : Bool) : Value := match im with
  | false => .slice none 0 0
  | true => .pointer none
theorem OpP.nil (im : Bool) (τ : Nat → Nat) (lo : Nat) (w : World) (nd : List ND) : OpP im τ lo w nd [] (noneV im) := by
  cases im with
  | false => exact ⟨⟨rfl, .inl ⟨rfl, rfl⟩⟩, fun k e => by simp [noneV, Value.ownBlock] at e⟩
  | true => rfl

structure ZS (im : Bool) (Tb : TypeId) (w0 : World) (lo g : Nat) (s : BS) (w : World) (τ : Nat → Nat) (vn vo : Value) (va vt : Nat → Value) (us : Nat → List Value) : Prop where
  box : w.rowIs g Tb 3 (r3 vn vo (.bool s.lg))
  ns : NS τ lo w vn s.nd va vt us
  op : OpP im τ lo w s.nd s.op vo
  gl : τ g = 2
  bl : Below lo w0 w
  sz : lo ≤ w.heap.size
  glo : lo ≤ g

def ZB (im : Bool) (Tb : TypeId) (w0 : World) (lo g : Nat) (s : BS) (w : World) : Prop := ∃ τ vn vo va vt us, ZS im Tb w0 lo g s w τ vn vo va vt us

theorem ZS.zb {im : Bool} {Tb : TypeId} {w0 : World} {lo g : Nat} {s : BS} {w : World} {τ : Nat → Nat} {vn vo : Value} {va vt : Nat → Value} {us : Nat → List Value} (h : ZS im Tb w0 lo g s w τ vn vo va vt us) : ZB im Tb w0 lo g s w := ⟨τ, vn, vo, va, vt, us, h⟩

theorem ZS.below {im : Bool} {Tb : TypeId} {w0 : World} {lo g : Nat} {s : BS} {w w' : World} {τ : Nat → Nat} {vn vo : Value} {va vt : Nat → Value} {us : Nat → List Value} (h : ZS im Tb w0 lo g s w τ vn vo va vt us) (hb : Below w.heap.size w w') : ZS im Tb w0 lo g s w' τ vn vo va vt us :=
  ⟨rowB h.box hb, h.ns.below hb, h.op.keep (Kp.of_below hb), h.gl, h.bl.trans (hb.mono h.sz), Nat.le_trans h.sz hb.size, h.glo⟩

theorem ZB.below {im : Bool} {Tb : TypeId} {w0 : World} {lo g : Nat} {s : BS} {w w' : World} (h : ZB im Tb w0 lo g s w) (hb : Below w.heap.size w w') : ZB im Tb w0 lo g s w' := by
  obtain ⟨τ, vn, vo, va, vt, us, h⟩ := h
  exact (h.below hb).zb

theorem r3_set0 {w : World} {g : Nat} {T : TypeId} {x y z u : Value} (h : w.rowIs g T 3 (r3 x y z)) : (w.setCell ⟨g, 0, none⟩ u).rowIs g T 3 (r3 u y z) :=
  (h.set 0 u).congr (fun i hi => by have : i = 0 ∨ i = 1 ∨ i = 2 := by omega
                                    rcases this with rfl | rfl | rfl <;> rfl)
theorem r3_set1 {w : World} {g : Nat} {T : TypeId} {x y z u : Value} (h : w.rowIs g T 3 (r3 x y z)) : (w.setCell ⟨g, 1, none⟩ u).rowIs g T 3 (r3 x u z) :=
  (h.set 1 u).congr (fun i hi => by have : i = 0 ∨ i = 1 ∨ i = 2 := by omega
                                    rcases this with rfl | rfl | rfl <;> rfl)
theorem r3_set2 {w : World} {g : Nat} {T : TypeId} {x y z u : Value} (h : w.rowIs g T 3 (r3 x y z)) : (w.setCell ⟨g, 2, none⟩ u).rowIs g T 3 (r3 x y u) :=
  (h.set 2 u).congr (fun i hi => by have : i = 0 ∨ i = 1 ∨ i = 2 := by omega
                                    rcases this with rfl | rfl | rfl <;> rfl)

theorem ZS.add {im : Bool} {Tb : TypeId} {w0 : World} {lo g : Nat} {s : BS} {wa w1 w2 : World} {τ : Nat → Nat} {vn vo : Value} {va vt : Nat → Value} {us : Nat → List Value} (h : ZS im Tb w0 lo g s wa τ vn vo va vt us) (hs : GS s) (h6 : s.nd.length < 60) {lo1 : Nat} {tg : ByteArray} {at_ : List AT} {tx : List Int} {a x v' : Value} {u : List Value}
    (hw : Below wa.heap.size wa w1) (ha : OA lo1 w1 a at_ u) (h1 : wa.heap.size ≤ lo1) (hx : w1.ownsRow lo1 5 1 x tx.length (bcs tx)) (hap : ∀ k, x.ownBlock = some k → a.ownBlock ≠ some k ∧ ∀ i, i < at_.length → (u.getD i undef).ownBlock ≠ some k)
    (ho : w2.ownsRow lo 91 4 v' (s.nd.length + 1) (ncs s.nd va vt s.nd.length ++ [.int .i64 (aheadI s.op s.op.length), .string tg, a, x])) (hgr : w1.grownBy w2 vn.ownBlock) (hv : v'.ownBlock = vn.ownBlock ∨ v'.ownBlock = some w1.heap.size) :
    ZB im Tb w0 lo g (addX s tg at_ tx) (w2.setCell ⟨g, 0, none⟩ v') := by
  have ea : addX s tg at_ tx = ⟨s.nd ++ [⟨aheadI s.op s.op.length, tg, at_, tx⟩], s.op, s.lg⟩ := by unfold addX; rw [if_neg (by omega)]
  obtain ⟨τ', va', vt', us', hns, ht⟩ := h.ns.app hw (t := ⟨aheadI s.op s.op.length, tg, at_, tx⟩) ha h1 hx hap h.sz ho hgr hv
  have hgl := h.box.lt
  have vl : ∀ k, vn.ownBlock = some k → τ k = 0 := h.ns.rl
  have KG : Kp (fun k => ¬ τ k = 0 ∧ k < wa.heap.size) wa w2 := (Kp.of_below hw).trans (Kp.of_grown hgr (fun k e e2 => e.1 (vl k e2.symm)))
  have g2 : τ' g = 2 := (ht g hgl).trans h.gl
  have szz : wa.heap.size ≤ w2.heap.size := KG.size
  rw [ea]
  refine ⟨τ', v', vo, va', vt', us', ?_, ?_, ?_, g2, ?_, ?_, h.glo⟩
  · exact r3_set0 (h.box.of_block (KG.block g hgl ⟨by have := h.gl; omega, hgl⟩))
  · exact hns.keep ((Kp.refl _ _).setCell (q := ⟨g, 0, none⟩) (by show ¬ (τ' g = 0 ∨ 3 ≤ τ' g); omega) _)
  · have o2 : OpP im τ' lo w2 s.nd s.op vo := h.op.move (fun k hk e => KG.block k hk ⟨by omega, hk⟩) ht
    exact (o2.keep ((Kp.refl _ _).setCell (q := ⟨g, 0, none⟩) (by show ¬ τ' g = 1; omega) _)).nodes (fun j hj => by
      have := hs.pl j hj
      dsimp only
      rw [ndK_left (by omega)])
  · exact ((h.bl.trans (hw.mono h.sz)).grown hgr (Nat.le_trans h.sz hw.size) (own_lo h.ns.row)).setCell (p := ⟨g, 0, none⟩) h.glo _
  · have := h.sz; simp [World.setCell]; omega

theorem ZS.big {im : Bool} {Tb : TypeId} {w0 : World} {lo g : Nat} {s : BS} {w : World} {τ : Nat → Nat} {vn vo : Value} {va vt : Nat → Value} {us : Nat → List Value} (h : ZS im Tb w0 lo g s w τ vn vo va vt us) :
    ZB im Tb w0 lo g bigS (((w.setCell ⟨g, 0, none⟩ (.slice none 0 0)).setCell ⟨g, 1, none⟩ (noneV im)).setCell ⟨g, 2, none⟩ (.bool true)) := by
  refine ⟨τ, .slice none 0 0, noneV im, va, vt, us, r3_set2 (r3_set1 (r3_set0 h.box)), NS.nil _ _ _ _ _ _, OpP.nil _ _ _ _ _, h.gl, ?_, ?_, h.glo⟩
  · exact ((h.bl.setCell (p := ⟨g, 0, none⟩) h.glo _).setCell (p := ⟨g, 1, none⟩) h.glo _).setCell (p := ⟨g, 2, none⟩) h.glo _
  · have := h.sz; simp [World.setCell]; omega

theorem ZS.grow {im : Bool} {Tb : TypeId} {w0 : World} {lo g gn cap n : Nat} {s : BS} {w w1 : World} {τ : Nat → Nat} {vo x' : Value} {va vt : Nat → Value} {us : Nat → List Value} (h : ZS im Tb w0 lo g s w τ (.slice (some ⟨gn, 0, none⟩) s.nd.length cap) vo va vt us) (hs : GS s) (hn : n < s.nd.length) (b : Int)
    (ho : w1.ownsRow lo 5 1 x' ((ndK s.nd n).tx.length + 1) (bcs ((ndK s.nd n).tx ++ [b]))) (hg : w.grownBy w1 (vt n).ownBlock) (hx : x'.ownBlock = (vt n).ownBlock ∨ x'.ownBlock = some w.heap.size) :
    ZB im Tb w0 lo g ⟨setTx s.nd n b, s.op, s.lg⟩ (w1.setCell ⟨gn, n * 4 + 3, none⟩ x') := by
  obtain ⟨τ', vt', hns, ht⟩ := h.ns.grow hn b h.sz ho hg hx
  have hgl := h.box.lt
  have gn0 : τ gn = 0 := h.ns.rl gn rfl
  have gnl := h.ns.row.lt gn rfl
  have KG : Kp (fun k => τ k = 1 ∨ τ k = 2) w (w1.setCell ⟨gn, n * 4 + 3, none⟩ x') := (Kp.of_grown hg (fun k e e2 => by have := h.ns.tl n hn k e2.symm; omega)).setCell (q := ⟨gn, n * 4 + 3, none⟩) (by show ¬ (τ gn = 1 ∨ τ gn = 2); omega) _
  have hlen : (setTx s.nd n b).length = s.nd.length := setTx_len _ _ _
  refine ⟨τ', .slice (some ⟨gn, 0, none⟩) s.nd.length cap, vo, va, vt', us, h.box.of_block (KG.block g hgl (.inr h.gl)), ?_, ?_, (ht g hgl).trans h.gl, ?_, ?_, h.glo⟩
  · exact hns
  · have o2 : OpP im τ' lo (w1.setCell ⟨gn, n * 4 + 3, none⟩ x') s.nd s.op vo := h.op.move (fun k hk e => KG.block k hk (.inl e)) ht
    refine o2.nodes (fun j hj => ?_)
    dsimp only
    unfold setTx
    rw [ndK_set hn]
    by_cases e : (wv s.op j).toNat = n
    · rw [if_pos e, e]
    · rw [if_neg e]
  · exact ((h.bl.grown hg h.sz (own_lo (h.ns.txt n hn))).setCell (p := ⟨gn, n * 4 + 3, none⟩) gnl.1 _)
  · have := h.sz; have := hg.size; simp [World.setCell]; omega

theorem ZS.pushS {Tb : TypeId} {w0 : World} {lo g : Nat} {s : BS} {wa w w1 : World} {τ : Nat → Nat} {vn vo v' : Value} {va vt : Nat → Value} {us : Nat → List Value} (h : ZS false Tb w0 lo g s w τ vn vo va vt us) (x : Int)
    (ho : w1.ownsRow lo 2 1 v' (s.op.length + 1) (ics s.op ++ ics [x])) (hg : w.grownBy w1 vo.ownBlock) (hv : v'.ownBlock = vo.ownBlock ∨ v'.ownBlock = some w.heap.size) :
    ZB false Tb w0 lo g ⟨s.nd, s.op ++ [x], s.lg⟩ (w1.setCell ⟨g, 1, none⟩ v') := by
  have hgl := h.box.lt
  have KG : Kp (fun k => ¬ τ k = 1) w w1 := Kp.of_grown hg (fun k e e2 => e (h.op.2 k e2.symm))
  have g2 := h.gl
  have vne : ∀ k, v'.ownBlock = some k → ¬ k = g := fun k e eg => by
    subst eg
    rcases hv with hv | hv
    · rw [hv] at e; have := h.op.2 _ e; omega
    · rw [hv] at e; cases e; omega
  have ht : ∀ k, k < w.heap.size → (fun k => if k < w.heap.size then τ k else 1) k = τ k := fun k hk => if_pos hk
  have n1 : NS (fun k => if k < w.heap.size then τ k else 1) lo w vn s.nd va vt us := h.ns.relabel (fun k _ hk => ht k hk)
  refine ⟨fun k => if k < w.heap.size then τ k else 1, vn, v', va, vt, us, ?_, ?_, ⟨?_, fun k e => ?_⟩, ?_, ?_, ?_, h.glo⟩
  · exact r3_set1 (h.box.of_block (KG.block g hgl (by omega)))
  · refine n1.keep ((Kp.mono (p := fun k => ¬ τ k = 1 ∧ k < w.heap.size) (q := fun k => (if k < w.heap.size then τ k else 1) = 0 ∨ 3 ≤ (if k < w.heap.size then τ k else 1)) (KG.mono (fun k e => e.1)) (fun k e => ?_)).setCell (q := ⟨g, 1, none⟩) ?_ _)
    · by_cases hk : k < w.heap.size
      · rw [if_pos hk] at e; exact ⟨by omega, hk⟩
      · rw [if_neg hk] at e; omega
    · show ¬ ((if g < w.heap.size then τ g else 1) = 0 ∨ 3 ≤ (if g < w.heap.size then τ g else 1))
      rw [if_pos hgl]; omega
  · have e1 : (s.op ++ [x]).length = s.op.length + 1 := by simp
    have e2 : ics (s.op ++ [x]) = ics s.op ++ ics [x] := by simp [ics]
    dsimp only
    rw [e1, e2]
    exact own_of ho (Nat.le_refl _) (fun k e _ => Below.heap_setCell _ _ _ _ (fun e' => vne k e e'))
  · show (if k < w.heap.size then τ k else 1) = 1
    rcases hv with hv | hv
    · rw [hv] at e; rw [if_pos (h.op.1.lt k e).2]; exact h.op.2 k e
    · rw [hv] at e; cases e; rw [if_neg (by omega)]
  · show (if g < w.heap.size then τ g else 1) = 2
    rw [if_pos hgl]; exact g2
  · exact (h.bl.grown hg h.sz (own_lo h.op.1)).setCell (p := ⟨g, 1, none⟩) h.glo _
  · have := h.sz; have := hg.size; simp [World.setCell]; omega

theorem ZS.takeS {Tb : TypeId} {w0 : World} {lo g : Nat} {s : BS} {w w1 : World} {τ : Nat → Nat} {vn vo v' : Value} {va vt : Nat → Value} {us : Nat → List Value} (h : ZS false Tb w0 lo g s w τ vn vo va vt us) (op' : List Int)
    (ho : w1.ownsRow w.heap.size 2 1 v' op'.length (ics op')) (hb : Below w.heap.size w w1) :
    ZB false Tb w0 lo g ⟨s.nd, op', s.lg⟩ (w1.setCell ⟨g, 1, none⟩ v') := by
  have hgl := h.box.lt
  have g2 := h.gl
  have vne : ∀ k, v'.ownBlock = some k → ¬ k = g := fun k e eg => by have := (ho.lt k e).1; omega
  have ht : ∀ k, k < w.heap.size → (fun k => if k < w.heap.size then τ k else 1) k = τ k := fun k hk => if_pos hk
  have n1 : NS (fun k => if k < w.heap.size then τ k else 1) lo w1 vn s.nd va vt us := (h.ns.relabel (fun k _ hk => ht k hk)).below hb
  refine ⟨fun k => if k < w.heap.size then τ k else 1, vn, v', va, vt, us, ?_, ?_, ⟨?_, fun k e => ?_⟩, ?_, ?_, ?_, h.glo⟩
  · exact r3_set1 (rowB h.box hb)
  · refine n1.keep ((Kp.refl _ _).setCell (q := ⟨g, 1, none⟩) ?_ _)
    show ¬ ((if g < w.heap.size then τ g else 1) = 0 ∨ 3 ≤ (if g < w.heap.size then τ g else 1))
    rw [if_pos hgl]; omega
  · exact own_of ho h.sz (fun k e _ => Below.heap_setCell _ _ _ _ (fun e' => vne k e e'))
  · show (if k < w.heap.size then τ k else 1) = 1
    rw [if_neg (by have := (ho.lt k e).1; omega)]
  · show (if g < w.heap.size then τ g else 1) = 2
    rw [if_pos hgl]; exact g2
  · exact (h.bl.trans (hb.mono h.sz)).setCell (p := ⟨g, 1, none⟩) h.glo _
  · have := h.sz; have := hb.size; simp [World.setCell]; omega

theorem ZS.pushI {Tb : TypeId} {w0 : World} {lo g b : Nat} {s : BS} {w w1 : World} {τ : Nat → Nat} {vn vo : Value} {va vt : Nat → Value} {us : Nat → List Value} (h : ZS true Tb w0 lo g s w τ vn vo va vt us) (x : Int) (hb : Below w.heap.size w w1) (hbw : w.heap.size ≤ b)
    (hr : w1.rowIs b 174 3 (r3 (.int .i64 x) (.string (ndK s.nd x.toNat).tg) vo)) :
    ZB true Tb w0 lo g ⟨s.nd, s.op ++ [x], s.lg⟩ (w1.setCell ⟨g, 1, none⟩ (.pointer (some ⟨b, 0, none⟩))) := by
  have hgl := h.box.lt
  have g2 := h.gl
  have ht : ∀ k, k < w.heap.size → (fun k => if k < w.heap.size then τ k else 1) k = τ k := fun k hk => if_pos hk
  have n1 : NS (fun k => if k < w.heap.size then τ k else 1) lo w1 vn s.nd va vt us := (h.ns.relabel (fun k _ hk => ht k hk)).below hb
  have o1 : OE (fun k => if k < w.heap.size then τ k else 1) lo w s.nd s.op s.op.length vo := OE.relabel (fun k _ hk => ht k hk) h.op
  have o2 : OE (fun k => if k < w.heap.size then τ k else 1) lo (w1.setCell ⟨g, 1, none⟩ (.pointer (some ⟨b, 0, none⟩))) s.nd s.op s.op.length vo := OE.keep (((Kp.of_below hb).setCell (q := ⟨g, 1, none⟩) (by show ¬ (if g < w.heap.size then τ g else 1) = 1; rw [if_pos hgl]; omega) _)) o1
  refine ⟨fun k => if k < w.heap.size then τ k else 1, vn, .pointer (some ⟨b, 0, none⟩), va, vt, us, r3_set1 (rowB h.box hb), ?_, ?_, ?_, ?_, ?_, h.glo⟩
  · refine n1.keep ((Kp.refl _ _).setCell (q := ⟨g, 1, none⟩) ?_ _)
    show ¬ ((if g < w.heap.size then τ g else 1) = 0 ∨ 3 ≤ (if g < w.heap.size then τ g else 1))
    rw [if_pos hgl]; omega
  · show OE _ lo _ s.nd (s.op ++ [x]) (s.op ++ [x]).length _
    rw [show (s.op ++ [x]).length = s.op.length + 1 by simp]
    refine ⟨b, vo, rfl, Nat.le_trans h.sz hbw, if_neg (by omega), ?_, Nat.le_trans (OE.pt_le h.op) hbw, OE.congr (fun j hj => ⟨wv_left hj, rfl⟩) o2⟩
    rw [wv_end]
    exact hr.of_block (Below.heap_setCell _ _ _ _ (by dsimp only; omega))
  · show (if g < w.heap.size then τ g else 1) = 2
    rw [if_pos hgl]; exact g2
  · exact (h.bl.trans (hb.mono h.sz)).setCell (p := ⟨g, 1, none⟩) h.glo _
  · have := h.sz; have := hb.size; simp [World.setCell]; omega

end Go.Proofs.YthcajggbcanmdaaGreatDoor
