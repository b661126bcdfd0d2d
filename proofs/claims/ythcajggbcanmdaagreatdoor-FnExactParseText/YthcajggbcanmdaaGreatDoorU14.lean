/- A builder in its box: the model's (its open ones in a row) and the program's (its open ones pointed at), told as one. -/
import Derived.Test.YthcajggbcanmdaaGreatDoorU13
import Derived.Test.YthcajggbcanmdaaGreatDoorU2
import Derived.Lib.LazyBuf
set_option linter.unusedVariables false
set_option linter.unusedSimpArgs false
namespace Go.Proofs.YthcajggbcanmdaaGreatDoor
open Go.RowKit

def ptB : Value → Nat
  | .pointer (some a) => a.block + 1
  | _ => 0

def OE (τ : Nat → Nat) (lo : Nat) (w : World) (nd : List ND) (op : List Int) : Nat → Value → Prop
  | 0, v => v = .pointer none
  | k + 1, v => ∃ b u, v = .pointer (some ⟨b, 0, none⟩) ∧ lo ≤ b ∧ τ b = 1 ∧ w.rowIs b 174 3 (r3 (.int .i64 (wv op k)) (.string (ndK nd (wv op k).toNat).tg) u) ∧ ptB u ≤ b ∧ OE τ lo w nd op k u

theorem OE.keep {τ : Nat → Nat} {lo : Nat} {w w' : World} {nd : List ND} {op : List Int} (hk : Kp (fun k => τ k = 1) w w') : ∀ {k : Nat} {v : Value}, OE τ lo w nd op k v → OE τ lo w' nd op k v
  | 0, _, h => h
  | k + 1, _, ⟨b, u, e, h1, h2, h3, hp, h4⟩ => ⟨b, u, e, h1, h2, h3.of_block (hk.block b h3.lt h2), hp, OE.keep hk h4⟩

theorem OE.relabel {τ τ' : Nat → Nat} {lo : Nat} {w : World} {nd : List ND} {op : List Int} (ht : ∀ k, lo ≤ k → k < w.heap.size → τ' k = τ k) : ∀ {k : Nat} {v : Value}, OE τ lo w nd op k v → OE τ' lo w nd op k v
  | 0, _, h => h
  | k + 1, _, ⟨b, u, e, h1, h2, h3, hp, h4⟩ => ⟨b, u, e, h1, (ht b h1 h3.lt).trans h2, h3, hp, OE.relabel ht h4⟩

theorem OE.congr {τ : Nat → Nat} {lo : Nat} {w : World} {nd nd' : List ND} {op op' : List Int} : ∀ {k : Nat} {v : Value}, (∀ j, j < k → wv op' j = wv op j ∧ (ndK nd' (wv op j).toNat).tg = (ndK nd (wv op j).toNat).tg) → OE τ lo w nd op k v → OE τ lo w nd' op' k v
  | 0, _, _, h => h
  | k + 1, _, hc, ⟨b, u, e, h1, h2, h3, hp, h4⟩ => by
    obtain ⟨c1, c2⟩ := hc k (by omega)
    exact ⟨b, u, e, h1, h2, by rw [c1, c2]; exact h3, hp, OE.congr (fun j hj => hc j (by omega)) h4⟩

theorem OE.ptr {τ : Nat → Nat} {lo : Nat} {w : World} {nd : List ND} {op : List Int} : ∀ {k : Nat} {v : Value}, OE τ lo w nd op k v → ∃ p, v = .pointer p
  | 0, _, h => ⟨none, h⟩
  | k + 1, _, ⟨b, u, e, _⟩ => ⟨_, e⟩

theorem OE.move {τ τ' : Nat → Nat} {lo : Nat} {w w' : World} {nd : List ND} {op : List Int} (hk : ∀ k, k < w.heap.size → τ k = 1 → w'.heap[k]? = w.heap[k]?) (ht : ∀ k, k < w.heap.size → τ' k = τ k) : ∀ {k : Nat} {v : Value}, OE τ lo w nd op k v → OE τ' lo w' nd op k v
  | 0, _, h => h
  | k + 1, _, ⟨b, u, e, h1, h2, h3, hp, h4⟩ => ⟨b, u, e, h1, (ht b h3.lt).trans h2, h3.of_block (hk b h3.lt h2), hp, OE.move hk ht h4⟩

theorem OE.pt_le {τ : Nat → Nat} {lo : Nat} {w : World} {nd : List ND} {op : List Int} : ∀ {k : Nat} {v : Value}, OE τ lo w nd op k v → ptB v ≤ w.heap.size
  | 0, _, h => by have e : _ = Value.pointer none := h; rw [e]; exact Nat.zero_le _
  | k + 1, _, ⟨b, u, e, _, _, h3, _⟩ => by rw [e]; exact h3.lt

def OpP (im : Bool) (τ : Nat → Nat) (lo : Nat) (w : World) (nd : List ND) (op : List Int) (v : Value) : Prop :=
  match im with
  | false => w.ownsRow lo 2 1 v op.length (ics op) ∧ ∀ k, v.ownBlock = some k → τ k = 1
  | true => OE τ lo w nd op op.length v

theorem OpP.keep {im : Bool} {τ : Nat → Nat} {lo : Nat} {w w' : World} {nd : List ND} {op : List Int} {v : Value} (h : OpP im τ lo w nd op v) (hk : Kp (fun k => τ k = 1) w w') : OpP im τ lo w' nd op v := by
  cases im with
  | false => exact ⟨own_of h.1 (Nat.le_refl _) (fun k e _ => hk.block k (h.1.lt k e).2 (h.2 k e)), h.2⟩
  | true => exact OE.keep hk h

theorem OpP.relabel {im : Bool} {τ τ' : Nat → Nat} {lo : Nat} {w : World} {nd : List ND} {op : List Int} {v : Value} (h : OpP im τ lo w nd op v) (ht : ∀ k, lo ≤ k → k < w.heap.size → τ' k = τ k) : OpP im τ' lo w nd op v := by
  cases im with
  | false => exact ⟨h.1, fun k e => by have := h.1.lt k e; rw [ht k this.1 this.2]; exact h.2 k e⟩
  | true => exact OE.relabel ht h

theorem OpP.nodes {im : Bool} {τ : Nat → Nat} {lo : Nat} {w : World} {nd nd' : List ND} {op : List Int} {v : Value} (h : OpP im τ lo w nd op v) (ht : ∀ j, j < op.length → (ndK nd' (wv op j).toNat).tg = (ndK nd (wv op j).toNat).tg) : OpP im τ lo w nd' op v := by
  cases im with
  | false => exact h
  | true => exact OE.congr (fun j hj => ⟨rfl, ht j hj⟩) h

theorem OpP.move {im : Bool} {τ τ' : Nat → Nat} {lo : Nat} {w w' : World} {nd : List ND} {op : List Int} {v : Value} (h : OpP im τ lo w nd op v) (hk : ∀ k, k < w.heap.size → τ k = 1 → w'.heap[k]? = w.heap[k]?) (ht : ∀ k, k < w.heap.size → τ' k = τ k) : OpP im τ' lo w' nd op v := by
  cases im with
  | false => exact ⟨own_of h.1 (Nat.le_refl _) (fun k e _ => hk k (h.1.lt k e).2 (h.2 k e)), fun k e => (ht k (h.1.lt k e).2).trans (h.2 k e)⟩
  | true => exact OE.move hk ht h

def noneV (im : Bool) : Value := match im with
  | false => .slice none 0 0
  | true => .pointer none
theorem OpP.nil (im : Bool) (τ : Nat → Nat) (lo : Nat) (w : World) (nd : List ND) : OpP im τ lo w nd [] (noneV im) := by
  cases im with
  | false => exact ⟨⟨rfl, .inl ⟨rfl, rfl⟩⟩, fun k e => by simp [noneV, Value.ownBlock] at e⟩
  | true => rfl

structure ZS (im : Bool) (Tb : TypeId) (w0 : World) (lo g : Nat) (s : BS) (w : World) (τ : Nat → Nat) (vn vo : Value) (va vt : Nat → Value) (us : Nat → List Value) : Prop where
  box : w.rowIs g Tb 3 (r3 vn vo (.bool s.lg))
  ns : NS τ lo w vn s.nd va vt us
  op : OpP im τ lo w s.nd s.op vo
  gl : τ g = 2
  bl : Below lo w0 w
  sz : lo ≤ w.heap.size
  glo : lo ≤ g

def ZB (im : Bool) (Tb : TypeId) (w0 : World) (lo g : Nat) (s : BS) (w : World) : Prop := ∃ τ vn vo va vt us, ZS im Tb w0 lo g s w τ vn vo va vt us

theorem ZS.zb {im : Bool} {Tb : TypeId} {w0 : World} {lo g : Nat} {s : BS} {w : World} {τ : Nat → Nat} {vn vo : Value} {va vt : Nat → Value} {us : Nat → List Value} (h : ZS im Tb w0 lo g s w τ vn vo va vt us) : ZB im Tb w0 lo g s w := ⟨τ, vn, vo, va, vt, us, h⟩

theorem ZS.below {im : Bool} {Tb : TypeId} {w0 : World} {lo g : Nat} {s : BS} {w w' : World} {τ : Nat → Nat} {vn vo : Value} {va vt : Nat → Value} {us : Nat → List Value} (h : ZS im Tb w0 lo g s w τ vn vo va vt us) (hb : Below w.heap.size w w') : ZS im Tb w0 lo g s w' τ vn vo va vt us :=
  ⟨rowB h.box hb, h.ns.below hb, h.op.keep (Kp.of_below hb), h.gl, h.bl.trans (hb.mono h.sz), Nat.le_trans h.sz hb.size, h.glo⟩

theorem ZB.below {im : Bool} {Tb : TypeId} {w0 : World} {lo g : Nat} {s : BS} {w w' : World} (h : ZB im Tb w0 lo g s w) (hb : Below w.heap.size w w') : ZB im Tb w0 lo g s w' := by
  obtain ⟨τ, vn, vo, va, vt, us, h⟩ := h
  exact (h.below hb).zb

theorem r3_set0 {w : World} {g : Nat} {T : TypeId} {x y z u : Value} (h : w.rowIs g T 3 (r3 x y z)) : (w.setCell ⟨g, 0, none⟩ u).rowIs g T 3 (r3 u y z) :=
  (h.set 0 u).congr (fun i hi => by have : i = 0 ∨ i = 1 ∨ i = 2 := by omega
                                    rcases this with rfl | rfl | rfl <;> rfl)
theorem r3_set1 {w : World} {g : Nat} {T : TypeId} {x y z u : Value} (h : w.rowIs g T 3 (r3 x y z)) : (w.setCell ⟨g, 1, none⟩ u).rowIs g T 3 (r3 x u z) :=
  (h.set 1 u).congr (fun i hi => by have : i = 0 ∨ i = 1 ∨ i = 2 := by omega
                                    rcases this with rfl | rfl | rfl <;> rfl)
theorem r3_set2 {w : World} {g : Nat} {T : TypeId} {x y z u : Value} (h : w.rowIs g T 3 (r3 x y z)) : (w.setCell ⟨g, 2, none⟩ u).rowIs g T 3 (r3 x y u) :=
  (h.set 2 u).congr (fun i hi => by have : i = 0 ∨ i = 1 ∨ i = 2 := by omega
                                    rcases this with rfl | rfl | rfl <;> rfl)

theorem ZS.add {im : Bool} {Tb : TypeId} {w0 : World} {lo g : Nat} {s : BS} {wa w1 w2 : World} {τ : Nat → Nat} {vn vo : Value} {va vt : Nat → Value} {us : Nat → List Value} (h : ZS im Tb w0 lo g s wa τ vn vo va vt us) (hs : GS s) (h6 : s.nd.length < 60) {lo1 : Nat} {tg : ByteArray} {at_ : List AT} {tx : List Int} {a x v' : Value} {u : List Value}
    (hw : Below wa.heap.size wa w1) (ha : OA lo1 w1 a at_ u) (h1 : wa.heap.size ≤ lo1) (hx : w1.ownsRow lo1 5 1 x tx.length (bcs tx)) (hap : ∀ k, x.ownBlock = some k → a.ownBlock ≠ some k ∧ ∀ i, i < at_.length → (u.getD i undef).ownBlock ≠ some k)
    (ho : w2.ownsRow lo 91 4 v' (s.nd.length + 1) (ncs s.nd va vt s.nd.length ++ [.int .i64 (aheadI s.op s.op.length), .string tg, a, x])) (hgr : w1.grownBy w2 vn.ownBlock) (hv : v'.ownBlock = vn.ownBlock ∨ v'.ownBlock = some w1.heap.size) :
    ZB im Tb w0 lo g (addX s tg at_ tx) (w2.setCell ⟨g, 0, none⟩ v') := by
  have ea : addX s tg at_ tx = ⟨s.nd ++ [⟨aheadI s.op s.op.length, tg, at_, tx⟩], s.op, s.lg⟩ := by unfold addX; rw [if_neg (by omega)]
  obtain ⟨τ', va', vt', us', hns, ht⟩ := h.ns.app hw (t := ⟨aheadI s.op s.op.length, tg, at_, tx⟩) ha h1 hx hap h.sz ho hgr hv
  have hgl := h.box.lt
  have vl : ∀ k, vn.ownBlock = some k → τ k = 0 := h.ns.rl
  have KG : Kp (fun k => ¬ τ k = 0 ∧ k < wa.heap.size) wa w2 := (Kp.of_below hw).trans (Kp.of_grown hgr (fun k e e2 => e.1 (vl k e2.symm)))
  have g2 : τ' g = 2 := (ht g hgl).trans h.gl
  have szz : wa.heap.size ≤ w2.heap.size := KG.size
  rw [ea]
  refine ⟨τ', v', vo, va', vt', us', ?_, ?_, ?_, g2, ?_, ?_, h.glo⟩
  · exact r3_set0 (h.box.of_block (KG.block g hgl ⟨by have := h.gl; omega, hgl⟩))
  · exact hns.keep ((Kp.refl _ _).setCell (q := ⟨g, 0, none⟩) (by show ¬ (τ' g = 0 ∨ 3 ≤ τ' g); omega) _)
  · have o2 : OpP im τ' lo w2 s.nd s.op vo := h.op.move (fun k hk e => KG.block k hk ⟨by omega, hk⟩) ht
    exact (o2.keep ((Kp.refl _ _).setCell (q := ⟨g, 0, none⟩) (by show ¬ τ' g = 1; omega) _)).nodes (fun j hj => by
      have := hs.pl j hj
      dsimp only
      rw [ndK_left (by omega)])
  · exact ((h.bl.trans (hw.mono h.sz)).grown hgr (Nat.le_trans h.sz hw.size) (own_lo h.ns.row)).setCell (p := ⟨g, 0, none⟩) h.glo _
  · have := h.sz; simp [World.setCell]; omega

theorem ZS.big {im : Bool} {Tb : TypeId} {w0 : World} {lo g : Nat} {s : BS} {w : World} {τ : Nat → Nat} {vn vo : Value} {va vt : Nat → Value} {us : Nat → List Value} (h : ZS im Tb w0 lo g s w τ vn vo va vt us) :
    ZB im Tb w0 lo g bigS (((w.setCell ⟨g, 0, none⟩ (.slice none 0 0)).setCell ⟨g, 1, none⟩ (noneV im)).setCell ⟨g, 2, none⟩ (.bool true)) := by
  refine ⟨τ, .slice none 0 0, noneV im, va, vt, us, r3_set2 (r3_set1 (r3_set0 h.box)), NS.nil _ _ _ _ _ _, OpP.nil _ _ _ _ _, h.gl, ?_, ?_, h.glo⟩
  · exact ((h.bl.setCell (p := ⟨g, 0, none⟩) h.glo _).setCell (p := ⟨g, 1, none⟩) h.glo _).setCell (p := ⟨g, 2, none⟩) h.glo _
  · have := h.sz; simp [World.setCell]; omega

theorem ZS.grow {im : Bool} {Tb : TypeId} {w0 : World} {lo g gn cap n : Nat} {s : BS} {w w1 : World} {τ : Nat → Nat} {vo x' : Value} {va vt : Nat → Value} {us : Nat → List Value} (h : ZS im Tb w0 lo g s w τ (.slice (some ⟨gn, 0, none⟩) s.nd.length cap) vo va vt us) (hs : GS s) (hn : n < s.nd.length) (b : Int)
    (ho : w1.ownsRow lo 5 1 x' ((ndK s.nd n).tx.length + 1) (bcs ((ndK s.nd n).tx ++ [b]))) (hg : w.grownBy w1 (vt n).ownBlock) (hx : x'.ownBlock = (vt n).ownBlock ∨ x'.ownBlock = some w.heap.size) :
    ZB im Tb w0 lo g ⟨setTx s.nd n b, s.op, s.lg⟩ (w1.setCell ⟨gn, n * 4 + 3, none⟩ x') := by
  obtain ⟨τ', vt', hns, ht⟩ := h.ns.grow hn b h.sz ho hg hx
  have hgl := h.box.lt
  have gn0 : τ gn = 0 := h.ns.rl gn rfl
  have gnl := h.ns.row.lt gn rfl
  have KG : Kp (fun k => τ k = 1 ∨ τ k = 2) w (w1.setCell ⟨gn, n * 4 + 3, none⟩ x') := (Kp.of_grown hg (fun k e e2 => by have := h.ns.tl n hn k e2.symm; omega)).setCell (q := ⟨gn, n * 4 + 3, none⟩) (by show ¬ (τ gn = 1 ∨ τ gn = 2); omega) _
  have hlen : (setTx s.nd n b).length = s.nd.length := setTx_len _ _ _
  refine ⟨τ', .slice (some ⟨gn, 0, none⟩) s.nd.length cap, vo, va, vt', us, h.box.of_block (KG.block g hgl (.inr h.gl)), ?_, ?_, (ht g hgl).trans h.gl, ?_, ?_, h.glo⟩
  · exact hns
  · have o2 : OpP im τ' lo (w1.setCell ⟨gn, n * 4 + 3, none⟩ x') s.nd s.op vo := h.op.move (fun k hk e => KG.block k hk (.inl e)) ht
    refine o2.nodes (fun j hj => ?_)
    dsimp only
    unfold setTx
    rw [ndK_set hn]
    by_cases e : (wv s.op j).toNat = n
    · rw [if_pos e, e]
    · rw [if_neg e]
  · exact ((h.bl.grown hg h.sz (own_lo (h.ns.txt n hn))).setCell (p := ⟨gn, n * 4 + 3, none⟩) gnl.1 _)
  · have := h.sz; have := hg.size; simp [World.setCell]; omega

theorem ZS.pushS {Tb : TypeId} {w0 : World} {lo g : Nat} {s : BS} {wa w w1 : World} {τ : Nat → Nat} {vn vo v' : Value} {va vt : Nat → Value} {us : Nat → List Value} (h : ZS false Tb w0 lo g s w τ vn vo va vt us) (x : Int)
    (ho : w1.ownsRow lo 2 1 v' (s.op.length + 1) (ics s.op ++ ics [x])) (hg : w.grownBy w1 vo.ownBlock) (hv : v'.ownBlock = vo.ownBlock ∨ v'.ownBlock = some w.heap.size) :
    ZB false Tb w0 lo g ⟨s.nd, s.op ++ [x], s.lg⟩ (w1.setCell ⟨g, 1, none⟩ v') := by
  have hgl := h.box.lt
  have KG : Kp (fun k => ¬ τ k = 1) w w1 := Kp.of_grown hg (fun k e e2 => e (h.op.2 k e2.symm))
  have g2 := h.gl
  have vne : ∀ k, v'.ownBlock = some k → ¬ k = g := fun k e eg => by
    subst eg
    rcases hv with hv | hv
    · rw [hv] at e; have := h.op.2 _ e; omega
    · rw [hv] at e; cases e; omega
  have ht : ∀ k, k < w.heap.size → (fun k => if k < w.heap.size then τ k else 1) k = τ k := fun k hk => if_pos hk
  have n1 : NS (fun k => if k < w.heap.size then τ k else 1) lo w vn s.nd va vt us := h.ns.relabel (fun k _ hk => ht k hk)
  refine ⟨fun k => if k < w.heap.size then τ k else 1, vn, v', va, vt, us, ?_, ?_, ⟨?_, fun k e => ?_⟩, ?_, ?_, ?_, h.glo⟩
  · exact r3_set1 (h.box.of_block (KG.block g hgl (by omega)))
  · refine n1.keep ((Kp.mono (p := fun k => ¬ τ k = 1 ∧ k < w.heap.size) (q := fun k => (if k < w.heap.size then τ k else 1) = 0 ∨ 3 ≤ (if k < w.heap.size then τ k else 1)) (KG.mono (fun k e => e.1)) (fun k e => ?_)).setCell (q := ⟨g, 1, none⟩) ?_ _)
    · by_cases hk : k < w.heap.size
      · rw [if_pos hk] at e; exact ⟨by omega, hk⟩
      · rw [if_neg hk] at e; omega
    · show ¬ ((if g < w.heap.size then τ g else 1) = 0 ∨ 3 ≤ (if g < w.heap.size then τ g else 1))
      rw [if_pos hgl]; omega
  · have e1 : (s.op ++ [x]).length = s.op.length + 1 := by simp
    have e2 : ics (s.op ++ [x]) = ics s.op ++ ics [x] := by simp [ics]
    dsimp only
    rw [e1, e2]
    exact own_of ho (Nat.le_refl _) (fun k e _ => Below.heap_setCell _ _ _ _ (fun e' => vne k e e'))
  · show (if k < w.heap.size then τ k else 1) = 1
    rcases hv with hv | hv
    · rw [hv] at e; rw [if_pos (h.op.1.lt k e).2]; exact h.op.2 k e
    · rw [hv] at e; cases e; rw [if_neg (by omega)]
  · show (if g < w.heap.size then τ g else 1) = 2
    rw [if_pos hgl]; exact g2
  · exact (h.bl.grown hg h.sz (own_lo h.op.1)).setCell (p := ⟨g, 1, none⟩) h.glo _
  · have := h.sz; have := hg.size; simp [World.setCell]; omega

theorem ZS.takeS {Tb : TypeId} {w0 : World} {lo g : Nat} {s : BS} {w w1 : World} {τ : Nat → Nat} {vn vo v' : Value} {va vt : Nat → Value} {us : Nat → List Value} (h : ZS false Tb w0 lo g s w τ vn vo va vt us) (op' : List Int)
    (ho : w1.ownsRow w.heap.size 2 1 v' op'.length (ics op')) (hb : Below w.heap.size w w1) :
    ZB false Tb w0 lo g ⟨s.nd, op', s.lg⟩ (w1.setCell ⟨g, 1, none⟩ v') := by
  have hgl := h.box.lt
  have g2 := h.gl
  have vne : ∀ k, v'.ownBlock = some k → ¬ k = g := fun k e eg => by have := (ho.lt k e).1; omega
  have ht : ∀ k, k < w.heap.size → (fun k => if k < w.heap.size then τ k else 1) k = τ k := fun k hk => if_pos hk
  have n1 : NS (fun k => if k < w.heap.size then τ k else 1) lo w1 vn s.nd va vt us := (h.ns.relabel (fun k _ hk => ht k hk)).below hb
  refine ⟨fun k => if k < w.heap.size then τ k else 1, vn, v', va, vt, us, ?_, ?_, ⟨?_, fun k e => ?_⟩, ?_, ?_, ?_, h.glo⟩
  · exact r3_set1 (rowB h.box hb)
  · refine n1.keep ((Kp.refl _ _).setCell (q := ⟨g, 1, none⟩) ?_ _)
    show ¬ ((if g < w.heap.size then τ g else 1) = 0 ∨ 3 ≤ (if g < w.heap.size then τ g else 1))
    rw [if_pos hgl]; omega
  · exact own_of ho h.sz (fun k e _ => Below.heap_setCell _ _ _ _ (fun e' => vne k e e'))
  · show (if k < w.heap.size then τ k else 1) = 1
    rw [if_neg (by have := (ho.lt k e).1; omega)]
  · show (if g < w.heap.size then τ g else 1) = 2
    rw [if_pos hgl]; exact g2
  · exact (h.bl.trans (hb.mono h.sz)).setCell (p := ⟨g, 1, none⟩) h.glo _
  · have := h.sz; have := hb.size; simp [World.setCell]; omega

theorem ZS.pushI {Tb : TypeId} {w0 : World} {lo g b : Nat} {s : BS} {w w1 : World} {τ : Nat → Nat} {vn vo : Value} {va vt : Nat → Value} {us : Nat → List Value} (h : ZS true Tb w0 lo g s w τ vn vo va vt us) (x : Int) (hb : Below w.heap.size w w1) (hbw : w.heap.size ≤ b)
    (hr : w1.rowIs b 174 3 (r3 (.int .i64 x) (.string (ndK s.nd x.toNat).tg) vo)) :
    ZB true Tb w0 lo g ⟨s.nd, s.op ++ [x], s.lg⟩ (w1.setCell ⟨g, 1, none⟩ (.pointer (some ⟨b, 0, none⟩))) := by
  have hgl := h.box.lt
  have g2 := h.gl
  have ht : ∀ k, k < w.heap.size → (fun k => if k < w.heap.size then τ k else 1) k = τ k := fun k hk => if_pos hk
  have n1 : NS (fun k => if k < w.heap.size then τ k else 1) lo w1 vn s.nd va vt us := (h.ns.relabel (fun k _ hk => ht k hk)).below hb
  have o1 : OE (fun k => if k < w.heap.size then τ k else 1) lo w s.nd s.op s.op.length vo := OE.relabel (fun k _ hk => ht k hk) h.op
  have o2 : OE (fun k => if k < w.heap.size then τ k else 1) lo (w1.setCell ⟨g, 1, none⟩ (.pointer (some ⟨b, 0, none⟩))) s.nd s.op s.op.length vo := OE.keep (((Kp.of_below hb).setCell (q := ⟨g, 1, none⟩) (by show ¬ (if g < w.heap.size then τ g else 1) = 1; rw [if_pos hgl]; omega) _)) o1
  refine ⟨fun k => if k < w.heap.size then τ k else 1, vn, .pointer (some ⟨b, 0, none⟩), va, vt, us, r3_set1 (rowB h.box hb), ?_, ?_, ?_, ?_, ?_, h.glo⟩
  · refine n1.keep ((Kp.refl _ _).setCell (q := ⟨g, 1, none⟩) ?_ _)
    show ¬ ((if g < w.heap.size then τ g else 1) = 0 ∨ 3 ≤ (if g < w.heap.size then τ g else 1))
    rw [if_pos hgl]; omega
  · show OE _ lo _ s.nd (s.op ++ [x]) (s.op ++ [x]).length _
    rw [show (s.op ++ [x]).length = s.op.length + 1 by simp]
    refine ⟨b, vo, rfl, Nat.le_trans h.sz hbw, if_neg (by omega), ?_, Nat.le_trans (OE.pt_le h.op) hbw, OE.congr (fun j hj => ⟨wv_left hj, rfl⟩) o2⟩
    rw [wv_end]
    exact hr.of_block (Below.heap_setCell _ _ _ _ (by dsimp only; omega))
  · show (if g < w.heap.size then τ g else 1) = 2
    rw [if_pos hgl]; exact g2
  · exact (h.bl.trans (hb.mono h.sz)).setCell (p := ⟨g, 1, none⟩) h.glo _
  · have := h.sz; have := hb.size; simp [World.setCell]; omega

end Go.Proofs.YthcajggbcanmdaaGreatDoor

namespace Go.Proofs.YthcajggbcanmdaaGreatDoor
open Go.RowKit

theorem cloneS_any (s : ByteArray) (w : World) (hs : s.size ≤ 1048576) :
    Calls Tryz.prog 140 #[.string s] w fun e w' => e = .returned (.string s) ∧ Below w.heap.size w w' := by
  go_enter Tryz.func140, Tryz.ntmps140
  go_wp2_with fail
  refine (Tryz.stringslite_Clone s w (by omega)).mono ?_
  rintro e w1 ⟨rfl, hb⟩
  have HB := Hid.mk' hb
  clear hb
  go_wp2
  go_ret
  exact ⟨rfl, HB.out⟩

set_option maxRecDepth 100000 in
theorem bytesClone_own (a : Option Addr) (c : Nat) (l : List Int) (w : World) (ha : BAt w a l) (hl : (l.length : Int) ≤ 1048576) :
    Calls Tryz.prog 142 #[.slice a l.length c] w fun e w' => ∃ v, e = .returned v ∧ w'.ownsRow w.heap.size 5 1 v l.length (bcs l) ∧ Below w.heap.size w w' := by
  cases a with
  | none =>
    have e : l = [] := by
      rcases ha with h | ⟨_, _, h, _⟩
      · exact h
      · cases h
    subst e
    have hnil : ∀ W, (binOp .eql 22 (.slice none 0 c) (.slice none 0 0)).run Tryz.prog W = .ok (.bool true) W := fun W => Go.run_eql_slice_nil W _ _ none 0 c Tryz.underlying22
    go_enter Tryz.func142, Tryz.ntmps142
    go_wp2
    go_ret
    exact ⟨_, rfl, ⟨rfl, .inl ⟨rfl, rfl⟩⟩, Below.refl _ _⟩
  | some ad =>
    have B0 := below_new w (.cells #[] 5)
    have hnil : ∀ W, (binOp .eql 22 (.slice (some ad) l.length c) (.slice none 0 0)).run Tryz.prog W = .ok (.bool false) W := fun W => Go.run_eql_slice_nil W _ _ (some ad) l.length c Tryz.underlying22
    go_enter Tryz.func142, Tryz.ntmps142
    go_wp2_with (at_builtin; refine wpList_append_any _ rfl (.tmp 5) (.tmp 6) 22 rfl w.heap.size 5 (.int .u8 0) 1 1 Tryz.underlying22 Tryz.info5 rfl (by decide) _ 0 [] rfl (World.ownsRow_lit w #[] 0 (Nat.le_refl _) (by decide) rfl) (some ad) l.length c (bcs l) rfl (bcs_len l) (ha.below B0).src (bcs_one l) (by unfold maxLen; omega) (by omega) (by simp) ?_; intro v' w1 hown hgr)
    go_ret
    rw [Nat.zero_add, List.nil_append] at hown
    refine ⟨_, rfl, hown, B0.grown hgr (by simp) (fun k hk => ?_)⟩
    simp [Act.eval, Value.ownBlock] at hk
    omega

def CpA (l : List AT) (w : World) (e : Ending) (w' : World) : Prop := ∃ v us, e = .returned v ∧ OA w.heap.size w' v l us ∧ Below w.heap.size w w'

theorem asz_at {l : List AT} {k : Nat} (h : k < l.length) : (atK l k).vl.length + (atK l k).nm.size ≤ asz l := by
  have := asz_take l k h
  have := asz_le l (k + 1)
  omega

theorem at_take {l : List AT} {k : Nat} (h : k < l.length) : l.take (k + 1) = l.take k ++ [atK l k] := by
  rw [List.take_add_one, List.getElem?_eq_getElem h]
  simp [atK, List.getD_eq_getElem?_getD, List.getElem?_eq_getElem h]

set_option maxRecDepth 100000 in
set_option maxHeartbeats 6400000 in
theorem copyAttrs_own (a : Option Addr) (c : Nat) (l : List AT) (w : World) (ha : AAt w a l) (hl : (l.length : Int) + asz l ≤ 1048576) :
    Calls Tryz.prog 141 #[.slice a l.length c] w fun e w' => CpA l w e w' := by
  have HA := Hid.mk' ha
  clear ha
  go_enter Tryz.func141, Tryz.ntmps141
  go_wp2
  go_loopw [3, 8] (fun v i wr => ∃ (k : Nat) (us : List Value), k ≤ l.length ∧ i = .int .i64 k ∧ OA w.heap.size wr v (l.take k) us ∧ Below w.heap.size w wr) (fun _ i _ => l.length - (intOf i).toNat)
  case atStart => exact ⟨0, [], Nat.zero_le _, rfl, by simpa using OA.nil w.heap.size w, Below.refl _ _⟩
  case round =>
    obtain ⟨k, us, hk, rfl, hoa, hbl⟩ := hrel
    have HB := Hid.mk' hbl
    obtain ⟨av, cv, ev, _⟩ := own_len hoa.row
    have lt_ : (l.take k).length = k := by rw [List.length_take]; omega
    rw [lt_] at ev
    subst ev
    by_cases hlt : k < l.length
    · have ci : (k : Int) < (l.length : Int) := by omega
      rcases HA.out with h0 | ⟨b1, o1, rfl, s0, hc1⟩
      · exact absurd hlt (by rw [h0]; exact Nat.not_lt_zero _)
      obtain ⟨h1, p1, d1, h2, h3⟩ := hc1 k hlt
      replace h1 := (hbl.cell s0).trans h1
      replace h2 := (hbl.cell s0).trans h2
      replace h3 := h3.below hbl
      have s1 := Nat.lt_of_lt_of_le s0 hbl.size
      have sz1 : (atK l k).vl.length + (atK l k).nm.size ≤ asz l := asz_at hlt
      have AT1 := Hid.mk' (at_take hlt)
      have HO := Hid.mk' hoa
      have H3 := Hid.mk' h3
      clear hc1 h3 hoa
      have N1 := below_new wr (.cells #[.string (atK l k).nm, .slice p1 (atK l k).vl.length d1] 82)
      have RB := Hid.mk' (rowp2 wr 82 (.string (atK l k).nm) (.slice p1 (atK l k).vl.length d1))
      have HN1 := Hid.mk' N1
      clear N1
      generalize hW : wr.alloc (.cells #[.string (atK l k).nm, .slice p1 (atK l k).vl.length d1] 82) = W at *
      obtain ⟨x0, x1, x2⟩ := cells2 RB.out
      go_wp2_with fail
      clear hW h1 h2
      refine wp_region_held_drew (S := fun w' => w'.cell? ⟨wr.heap.size, 0, none⟩ = some (.string (atK l k).nm) ∧ w'.cell? ⟨wr.heap.size, 1, none⟩ = some (.slice p1 (atK l k).vl.length d1)) (by kernel_rfl) (by simp [*]) (fun hHeld => ?_)
      refine wpAnyH_take (i := 0) (oi := ⟨_, _, _, _, _, _⟩) (v := ?_) rfl (by kernel_rfl) (by kernel_rfl) (by kernel_rfl) (fun _ _ _ h => h) (Or.inl ⟨by rfl, ?_⟩) (by assumption) ?_
      rotate_left
      · (intro w hSw; (try dsimp only at hSw); go_simp; (try with_reducible rfl))
      try simp only [Act.put, zA, zB, zC]
      refine wpAnyH_take (i := 1) (oi := ⟨_, _, _, _, _, _⟩) (v := ?_) rfl (by kernel_rfl) (by kernel_rfl) (by kernel_rfl) (fun _ _ _ h => h) (Or.inl ⟨by rfl, ?_⟩) (by assumption) ?_
      rotate_left
      · (intro w hSw; (try dsimp only at hSw); go_simp; (try with_reducible rfl))
      try simp only [Act.put, zA, zB, zC]
      refine wpAnyH_take (i := 2) (oi := ⟨_, _, _, _, _, _⟩) (v := ?_) rfl (by kernel_rfl) (by kernel_rfl) (by kernel_rfl) (fun _ _ _ h => h) (Or.inl ⟨by rfl, ?_⟩) (by assumption) ?_
      rotate_left
      · (intro w hSw; (try dsimp only at hSw); go_simp; (try with_reducible rfl))
      try simp only [Act.put, zA, zB, zC]
      refine wpAnyH_take (i := 4) (oi := ⟨_, _, _, _, _, _⟩) (v := ?_) rfl (by kernel_rfl) (by kernel_rfl) (by kernel_rfl) (fun _ _ _ h => h) (Or.inl ⟨by rfl, ?_⟩) (by assumption) ?_
      rotate_left
      · (intro w hSw; (try dsimp only at hSw); go_simp; (try with_reducible rfl))
      try simp only [Act.put, zA, zB, zC]
      refine wpAnyH_take (i := 5) (oi := ⟨_, _, _, _, _, _⟩) (v := ?_) rfl (by kernel_rfl) (by kernel_rfl) (by kernel_rfl) (fun _ _ _ h => h) (Or.inl ⟨by rfl, ?_⟩) (by assumption) ?_
      rotate_left
      · (intro w hSw; (try dsimp only at hSw); go_simp; (try with_reducible rfl))
      try simp only [Act.put, zA, zB, zC]
      refine wpAnyH_ready (rs := [3]) (by kernel_rfl) (by simp) ?_
      refine AllReadyH.cons (o := ⟨_, _, _, _, _, _⟩) rfl (fun K hK => ?_) AllReadyH.nil
      go_simp
      go_at_call 140
      refine (cloneS_any (atK l k).nm W.drew (by omega)).mono ?_
      rintro e w1 ⟨rfl, hb1⟩
      replace hb1 := undrew hb1
      have y0 := (hb1.cell x2).trans x0
      have y1 := (hb1.cell x2).trans x1
      have y2 := Nat.lt_of_lt_of_le x2 hb1.size
      have B1 : Hid (Below wr.heap.size wr w1) := Hid.mk' (HN1.out.trans (hb1.mono HN1.out.size))
      clear hb1
      refine hK.out _ _ ⟨y0, y1⟩ (fun hHeld => ?_)
      clear hK K
      try simp only [Act.put, zA, zB, zC]
      refine wpAnyH_ready (rs := [6]) (by kernel_rfl) (by simp) ?_
      refine AllReadyH.cons (o := ⟨_, _, _, _, _, _⟩) rfl (fun K hK => ?_) AllReadyH.nil
      go_simp
      go_at_call 142
      refine (bytesClone_own p1 d1 (atK l k).vl w1 (H3.out.below B1.out) (by omega)).mono ?_
      rintro e w2 ⟨u, rfl, hu, hb2⟩
      obtain ⟨pu, cu, eu, _⟩ := own_len hu
      subst eu
      have z0 := (hb2.cell y2).trans y0
      have z1 := (hb2.cell y2).trans y1
      have z2 := Nat.lt_of_lt_of_le y2 hb2.size
      have LO1 : Hid (wr.heap.size ≤ w1.heap.size) := Hid.mk' B1.out.size
      have B2 : Hid (Below wr.heap.size wr w2) := Hid.mk' (B1.out.trans (hb2.mono B1.out.size))
      have HU := Hid.mk' hu
      clear hb2 hu
      refine hK.out _ _ ⟨z0, z1⟩ (fun hHeld => ?_)
      clear hK K
      try simp only [Act.put, zA, zB, zC]
      refine wpAnyH_take (i := 7) (oi := ⟨_, _, _, _, _, _⟩) (v := ?_) rfl (by kernel_rfl) (by kernel_rfl) (by kernel_rfl) (fun _ _ _ h => h) (Or.inl ⟨by rfl, ?_⟩) (by assumption) ?_
      rotate_left
      · (intro w hSw; (try dsimp only at hSw); go_simp; (try with_reducible rfl))
      try simp only [Act.put, zA, zB, zC]
      refine wpAnyH_ready (rs := [8]) (by kernel_rfl) (by simp) ?_
      refine AllReadyH.cons (o := ⟨_, _, _, _, _, _⟩) rfl (fun K hK => ?_) AllReadyH.nil
      go_simp
      have NN := below_new w2 (.cells #[.string (atK l k).nm, .slice pu (atK l k).vl.length cu] 82)
      have q0 := (NN.cell z2).trans z0
      have q1 := (NN.cell z2).trans z1
      have q2 := Nat.lt_of_lt_of_le z2 NN.size
      have B3 : Hid (Below wr.heap.size wr _) := Hid.mk' (B2.out.trans (NN.mono B2.out.size))
      have OW := Hid.mk' (HO.out.below B3.out)
      have HU2 := Hid.mk' (own_keep HU.out NN)
      clear NN
      refine hK.out _ _ ⟨q0, q1⟩ (fun hHeld => ?_)
      clear hK K
      try simp only [Act.put, zA, zB, zC]
      refine wpAnyH_ready (rs := [9]) (by kernel_rfl) (by simp) ?_
      refine AllReadyH.cons (o := ⟨_, _, _, _, _, _⟩) rfl (fun K hK => ?_) AllReadyH.nil
      refine step_append_at rfl (.tmp 12) (.tmp 20) 35 rfl w.heap.size 82 (.agg #[.string ⟨#[]⟩, .slice none 0 0]) 2 40 Tryz.underlying35 Tryz.info82 rfl (by decide) _ k _ rfl (by have := OW.out.row; rw [lt_] at this; exact this) _ 1 _ [.string (atK l k).nm, .slice pu (atK l k).vl.length cu] rfl rfl (.inr ⟨_, rfl, one_attr w2 _ _ _ _ rfl⟩) (by simp [Value.oneCell']) (by unfold maxLen; omega) (by omega) (Nat.le_trans HB.out.size B3.out.size) ?_
      intro v' w4 ho hgr hat
      have ho' : w4.ownsRow w.heap.size 82 2 v' ((l.take k).length + 1) (acs (l.take k) us ++ [.string (atK l k).nm, .slice pu (atK l k).vl.length cu]) := by rw [lt_]; exact ho
      have A4 := HO.out.app (w1 := w2.alloc (.cells #[.string (atK l k).nm, .slice pu (atK l k).vl.length cu] 82)) (w2 := w4) (a := atK l k) (u := .slice pu (atK l k).vl.length cu) B3.out (OB.of_own HU2.out).1 HB.out.size (fun j e => Nat.le_trans LO1.out ((OB.of_own HU2.out).2 j e)) ho' hgr hat
      rw [← AT1.out] at A4
      have HA4 := Hid.mk' A4
      have HB4 := Hid.mk' ((HB.out.trans (B3.out.mono HB.out.size)).grown hgr (Nat.le_trans HB.out.size B3.out.size) (own_lo OW.out.row))
      have gne : ∀ j, (Value.slice av k cv).ownBlock = some j → ¬ j = wr.heap.size := fun j e => by have := (HO.out.row.lt j e).2; omega
      have r0 := hgr.cell q0 (fun e => gne _ e.symm rfl)
      have r1 := hgr.cell q1 (fun e => gne _ e.symm rfl)
      clear ho ho' hgr hat A4
      refine hK.out _ _ ⟨r0, r1⟩ (fun hHeld => ?_)
      clear hK K
      try simp only [Act.put, zA, zB, zC]
      refine wpAnyH_take (i := 10) (oi := ⟨_, _, _, _, _, _⟩) (v := ?_) rfl (by kernel_rfl) (by kernel_rfl) (by kernel_rfl) (fun _ _ _ h => h) (Or.inl ⟨by rfl, ?_⟩) (by assumption) ?_
      rotate_left
      · (intro w hSw; (try dsimp only at hSw); go_simp; (try with_reducible rfl))
      try simp only [Act.put, zA, zB, zC]
      refine wpAnyH_done (by kernel_rfl) ?_ _
      obtain ⟨aw, cw, ew, _⟩ := own_len HA4.out.row
      subst ew
      go_wp2
      go_roundw
      case rel => exact ⟨k + 1, _, by omega, by go_num, HA4.out, HB4.out⟩
      case measure => simp [intOf]; omega
    · have ci : ¬ (k : Int) < (l.length : Int) := by omega
      have e : k = l.length := by omega
      subst e
      rw [List.take_length] at hoa
      have HO := Hid.mk' hoa
      clear hoa hbl
      go_wp2
      go_ret
      exact ⟨_, us, rfl, HO.out, HB.out⟩

set_option maxRecDepth 100000 in
set_option maxHeartbeats 6400000 in
theorem l4CopyAttrs_own (a : Option Addr) (c : Nat) (l : List AT) (w : World) (ha : AAt w a l) (hl : (l.length : Int) + asz l ≤ 1048576) :
    Calls Tryz.prog 130 #[.slice a l.length c] w fun e w' => CpA l w e w' := by
  have HA := Hid.mk' ha
  clear ha
  go_enter Tryz.func130, Tryz.ntmps130
  go_wp2
  go_loopw [3, 4] (fun v i wr => ∃ (k : Nat) (us : List Value), k ≤ l.length ∧ i = .int .i64 k ∧ OA w.heap.size wr v (l.take k) us ∧ Below w.heap.size w wr) (fun _ i _ => l.length - (intOf i).toNat)
  case atStart => exact ⟨0, [], Nat.zero_le _, rfl, ⟨rfl, by simpa [acs] using World.ownsRow_lit (base := w.heap.size) (e := 82) (size := 2) w #[] 0 (Nat.le_refl _) (by decide) rfl, fun j h => absurd h (by simp), fun j h => absurd h (by simp), fun i j _ h => absurd h (by simp), fun j h => absurd h (by simp)⟩, below_new _ _⟩
  case round =>
    obtain ⟨k, us, hk, rfl, hoa, hbl⟩ := hrel
    have HB := Hid.mk' hbl
    obtain ⟨av, cv, ev, _⟩ := own_len hoa.row
    have lt_ : (l.take k).length = k := by rw [List.length_take]; omega
    rw [lt_] at ev
    subst ev
    by_cases hlt : k < l.length
    · have ci : (k : Int) < (l.length : Int) := by omega
      rcases HA.out with h0 | ⟨b1, o1, rfl, s0, hc1⟩
      · exact absurd hlt (by rw [h0]; exact Nat.not_lt_zero _)
      obtain ⟨h1, p1, d1, h2, h3⟩ := hc1 k hlt
      replace h1 := (hbl.cell s0).trans h1
      replace h2 := (hbl.cell s0).trans h2
      replace h3 := h3.below hbl
      have s1 := Nat.lt_of_lt_of_le s0 hbl.size
      have sz1 : (atK l k).vl.length + (atK l k).nm.size ≤ asz l := asz_at hlt
      have AT1 := Hid.mk' (at_take hlt)
      have HO := Hid.mk' hoa
      have H3 := Hid.mk' h3
      clear hc1 h3 hoa
      go_wp2_with fail
      have GNE : Hid (∀ j, (Value.slice av k cv).ownBlock = some j → ¬ j = b1) := Hid.mk' (fun j e ej => by subst ej; have := (HO.out.row.lt j e).1; omega)
      refine wp_region_held_drew (S := fun w' => w'.cell? ⟨b1, o1 + k * 2, none⟩ = some (.string (atK l k).nm) ∧ w'.cell? ⟨b1, o1 + k * 2 + 1, none⟩ = some (.slice p1 (atK l k).vl.length d1)) (by kernel_rfl) (by simp [*]) (fun hHeld => ?_)
      refine wpAnyH_take (i := 0) (oi := ⟨_, _, _, _, _, _⟩) (v := ?_) rfl (by kernel_rfl) (by kernel_rfl) (by kernel_rfl) (fun _ _ _ h => h) (Or.inl ⟨by rfl, ?_⟩) (by assumption) ?_
      rotate_left
      · (intro w hSw; (try dsimp only at hSw); go_simp; (try with_reducible rfl))
      try simp only [Act.put, zA, zB, zC]
      refine wpAnyH_take (i := 1) (oi := ⟨_, _, _, _, _, _⟩) (v := ?_) rfl (by kernel_rfl) (by kernel_rfl) (by kernel_rfl) (fun _ _ _ h => h) (Or.inl ⟨by rfl, ?_⟩) (by assumption) ?_
      rotate_left
      · (intro w hSw; (try dsimp only at hSw); go_simp; (try with_reducible rfl))
      try simp only [Act.put, zA, zB, zC]
      refine wpAnyH_take (i := 2) (oi := ⟨_, _, _, _, _, _⟩) (v := ?_) rfl (by kernel_rfl) (by kernel_rfl) (by kernel_rfl) (fun _ _ _ h => h) (Or.inl ⟨by rfl, ?_⟩) (by assumption) ?_
      rotate_left
      · (intro w hSw; (try dsimp only at hSw); go_simp; (try with_reducible rfl))
      try simp only [Act.put, zA, zB, zC]
      refine wpAnyH_take (i := 3) (oi := ⟨_, _, _, _, _, _⟩) (v := ?_) rfl (by kernel_rfl) (by kernel_rfl) (by kernel_rfl) (fun _ _ _ h => h) (Or.inl ⟨by rfl, ?_⟩) (by assumption) ?_
      rotate_left
      · (intro w hSw; (try dsimp only at hSw); go_simp; (try with_reducible rfl))
      try simp only [Act.put, zA, zB, zC]
      refine wpAnyH_take (i := 4) (oi := ⟨_, _, _, _, _, _⟩) (v := ?_) rfl (by kernel_rfl) (by kernel_rfl) (by kernel_rfl) (fun _ _ _ h => h) (Or.inl ⟨by rfl, ?_⟩) (by assumption) ?_
      rotate_left
      · (intro w hSw; (try dsimp only at hSw); go_simp; (try with_reducible rfl))
      try simp only [Act.put, zA, zB, zC]
      refine wpAnyH_take (i := 5) (oi := ⟨_, _, _, _, _, _⟩) (v := ?_) rfl (by kernel_rfl) (by kernel_rfl) (by kernel_rfl) (fun _ _ _ h => h) (Or.inl ⟨by rfl, ?_⟩) (by assumption) ?_
      rotate_left
      · (intro w hSw; (try dsimp only at hSw); go_simp; (try with_reducible rfl))
      try simp only [Act.put, zA, zB, zC]
      refine wpAnyH_take (i := 6) (oi := ⟨_, _, _, _, _, _⟩) (v := ?_) rfl (by kernel_rfl) (by kernel_rfl) (by kernel_rfl) (fun _ _ _ h => h) (Or.inl ⟨by rfl, ?_⟩) (by assumption) ?_
      rotate_left
      · (intro w hSw; (try dsimp only at hSw); go_simp; (try with_reducible rfl))
      try simp only [Act.put, zA, zB, zC]
      refine wpAnyH_take (i := 7) (oi := ⟨_, _, _, _, _, _⟩) (v := ?_) rfl (by kernel_rfl) (by kernel_rfl) (by kernel_rfl) (fun _ _ _ h => h) (Or.inl ⟨by rfl, ?_⟩) (by assumption) ?_
      rotate_left
      · (intro w hSw; (try dsimp only at hSw); go_simp; (try with_reducible rfl))
      try simp only [Act.put, zA, zB, zC]
      refine wpAnyH_take (i := 8) (oi := ⟨_, _, _, _, _, _⟩) (v := ?_) rfl (by kernel_rfl) (by kernel_rfl) (by kernel_rfl) (fun _ _ _ h => h) (Or.inl ⟨by rfl, ?_⟩) (by assumption) ?_
      rotate_left
      · (intro w hSw; (try dsimp only at hSw); go_simp; (try with_reducible rfl))
      try simp only [Act.put, zA, zB, zC]
      refine wpAnyH_take (i := 9) (oi := ⟨_, _, _, _, _, _⟩) (v := ?_) rfl (by kernel_rfl) (by kernel_rfl) (by kernel_rfl) (fun _ _ _ h => h) (Or.inl ⟨by rfl, ?_⟩) (by assumption) ?_
      rotate_left
      · (intro w hSw; (try dsimp only at hSw); go_simp; (try with_reducible rfl))
      try simp only [Act.put, zA, zB, zC]
      refine wpAnyH_take (i := 10) (oi := ⟨_, _, _, _, _, _⟩) (v := ?_) rfl (by kernel_rfl) (by kernel_rfl) (by kernel_rfl) (fun _ _ _ h => h) (Or.inl ⟨by rfl, ?_⟩) (by assumption) ?_
      rotate_left
      · (intro w hSw; (try dsimp only at hSw); go_simp; (try with_reducible rfl))
      try simp only [Act.put, zA, zB, zC]
      refine wpAnyH_ready (rs := [11]) (by kernel_rfl) (by simp) ?_
      refine AllReadyH.cons (o := ⟨_, _, _, _, _, _⟩) rfl (fun K hK => ?_) AllReadyH.nil
      go_simp
      go_at_call 68
      refine (l1Copy_own p1 d1 (atK l k).vl wr.drew (H3.out.below (Below.refl _ _).drew) (by omega)).mono ?_
      rintro e w2 ⟨u, rfl, hu, hb2⟩
      replace hb2 := undrew hb2
      obtain ⟨pu, cu, eu, _⟩ := own_len hu
      subst eu
      have z0 := (hb2.cell s1).trans h1
      have z1 := (hb2.cell s1).trans h2
      have z2 := Nat.lt_of_lt_of_le s1 hb2.size
      have B2 : Hid (Below wr.heap.size wr w2) := Hid.mk' hb2
      have LO1 : Hid (wr.heap.size ≤ wr.heap.size) := Hid.mk' (Nat.le_refl _)
      have HU := Hid.mk' hu
      clear hb2 hu
      refine hK.out _ _ ⟨z0, z1⟩ (fun hHeld => ?_)
      clear hK K
      try simp only [Act.put, zA, zB, zC]
      refine wpAnyH_take (i := 12) (oi := ⟨_, _, _, _, _, _⟩) (v := ?_) rfl (by kernel_rfl) (by kernel_rfl) (by kernel_rfl) (fun _ _ _ h => h) (Or.inl ⟨by rfl, ?_⟩) (by assumption) ?_
      rotate_left
      · (intro w hSw; (try dsimp only at hSw); go_simp; (try with_reducible rfl))
      try simp only [Act.put, zA, zB, zC]
      refine wpAnyH_ready (rs := [13]) (by kernel_rfl) (by simp) ?_
      refine AllReadyH.cons (o := ⟨_, _, _, _, _, _⟩) rfl (fun K hK => ?_) AllReadyH.nil
      go_simp
      have NN := below_new w2 (.cells #[.string (atK l k).nm, .slice pu (atK l k).vl.length cu] 82)
      have q0 := (NN.cell z2).trans z0
      have q1 := (NN.cell z2).trans z1
      have q2 := Nat.lt_of_lt_of_le z2 NN.size
      have B3 : Hid (Below wr.heap.size wr _) := Hid.mk' (B2.out.trans (NN.mono B2.out.size))
      have OW := Hid.mk' (HO.out.below B3.out)
      have HU2 := Hid.mk' (own_keep HU.out NN)
      clear NN
      refine hK.out _ _ ⟨q0, q1⟩ (fun hHeld => ?_)
      clear hK K
      try simp only [Act.put, zA, zB, zC]
      refine wpAnyH_ready (rs := [14]) (by kernel_rfl) (by simp) ?_
      refine AllReadyH.cons (o := ⟨_, _, _, _, _, _⟩) rfl (fun K hK => ?_) AllReadyH.nil
      refine step_append_at rfl (.tmp 12) (.tmp 25) 35 rfl w.heap.size 82 (.agg #[.string ⟨#[]⟩, .slice none 0 0]) 2 40 Tryz.underlying35 Tryz.info82 rfl (by decide) _ k _ rfl (by have := OW.out.row; rw [lt_] at this; exact this) _ 1 _ [.string (atK l k).nm, .slice pu (atK l k).vl.length cu] rfl rfl (.inr ⟨_, rfl, one_attr w2 _ _ _ _ rfl⟩) (by simp [Value.oneCell']) (by unfold maxLen; omega) (by omega) (Nat.le_trans HB.out.size B3.out.size) ?_
      intro v' w4 ho hgr hat
      have ho' : w4.ownsRow w.heap.size 82 2 v' ((l.take k).length + 1) (acs (l.take k) us ++ [.string (atK l k).nm, .slice pu (atK l k).vl.length cu]) := by rw [lt_]; exact ho
      have A4 := HO.out.app (w1 := w2.alloc (.cells #[.string (atK l k).nm, .slice pu (atK l k).vl.length cu] 82)) (w2 := w4) (a := atK l k) (u := .slice pu (atK l k).vl.length cu) B3.out (OB.of_own HU2.out).1 HB.out.size (fun j e => Nat.le_trans LO1.out ((OB.of_own HU2.out).2 j e)) ho' hgr hat
      rw [← AT1.out] at A4
      have HA4 := Hid.mk' A4
      have HB4 := Hid.mk' ((HB.out.trans (B3.out.mono HB.out.size)).grown hgr (Nat.le_trans HB.out.size B3.out.size) (own_lo OW.out.row))
      have gne : ∀ j, (Value.slice av k cv).ownBlock = some j → ¬ j = b1 := fun j e => GNE.out j e
      have r0 := hgr.cell q0 (fun e => gne _ e.symm rfl)
      have r1 := hgr.cell q1 (fun e => gne _ e.symm rfl)
      clear ho ho' hgr hat A4
      refine hK.out _ _ ⟨r0, r1⟩ (fun hHeld => ?_)
      clear hK K
      try simp only [Act.put, zA, zB, zC]
      refine wpAnyH_take (i := 15) (oi := ⟨_, _, _, _, _, _⟩) (v := ?_) rfl (by kernel_rfl) (by kernel_rfl) (by kernel_rfl) (fun _ _ _ h => h) (Or.inl ⟨by rfl, ?_⟩) (by assumption) ?_
      rotate_left
      · (intro w hSw; (try dsimp only at hSw); go_simp; (try with_reducible rfl))
      try simp only [Act.put, zA, zB, zC]
      refine wpAnyH_done (by kernel_rfl) ?_ _
      obtain ⟨aw, cw, ew, _⟩ := own_len HA4.out.row
      subst ew
      go_wp2
      go_roundw
      case rel => exact ⟨k + 1, _, by omega, by go_num, HA4.out, HB4.out⟩
      case measure => simp [intOf]; omega
    · have ci : ¬ (k : Int) < (l.length : Int) := by omega
      have e : k = l.length := by omega
      subst e
      rw [List.take_length] at hoa
      have HO := Hid.mk' hoa
      clear hoa hbl
      go_wp2
      go_ret
      exact ⟨_, us, rfl, HO.out, HB.out⟩

end Go.Proofs.YthcajggbcanmdaaGreatDoor

namespace Go.Proofs.YthcajggbcanmdaaGreatDoor
open Go.RowKit

def CpN (l : List ND) (w : World) (e : Ending) (w' : World) : Prop := ∃ v τ va vt us, e = .returned v ∧ NS τ w.heap.size w' v l va vt us ∧ Below w.heap.size w w'

theorem nd_take {l : List ND} {k : Nat} (h : k < l.length) : l.take (k + 1) = l.take k ++ [ndK l k] := by
  rw [List.take_add_one, List.getElem?_eq_getElem h]
  simp [ndK, List.getD_eq_getElem?_getD, List.getElem?_eq_getElem h]

theorem NS.more {τ : Nat → Nat} {lo lo1 k : Nat} {w w2 w3 w4 w5 : World} {v v' : Value} {l : List ND} {va vt : Nat → Value} {us : Nat → List Value} (h : NS τ lo w v (l.take k) va vt us) (hk : k < l.length) (hlo : lo ≤ w.heap.size) {a x : Value} {u : List Value}
    (ha : OA lo1 w2 a (ndK l k).at_ u) (h1 : w.heap.size ≤ lo1) (h12 : lo1 ≤ w2.heap.size) (hx : w3.ownsRow w2.heap.size 5 1 x (ndK l k).tx.length (bcs (ndK l k).tx)) (b2 : Below w.heap.size w w2) (k3 : Kp (fun j => lo1 ≤ j) w2 w3) (k4 : Kp (fun j => lo1 ≤ j) w3 w4) (b4 : Below w.heap.size w w4)
    (ho : w5.ownsRow lo 91 4 v' (k + 1) (ncs (l.take k) va vt k ++ [.int .i64 (ndK l k).up, .string (ndK l k).tg, a, x])) (hg : w4.grownBy w5 v.ownBlock) (hv : v'.ownBlock = v.ownBlock ∨ v'.ownBlock = some w4.heap.size) :
    ∃ τ' va' vt' us', NS τ' lo w5 v' (l.take (k + 1)) va' vt' us' := by
  have lt_ : (l.take k).length = k := by rw [List.length_take]; omega
  have A3 : OA lo1 w4 a (ndK l k).at_ u := (ha.keepOf (fun j e hl => k3.block j hl (ha.row.lt j e).1) (fun i hi j e hl => k3.block j hl (ha.vlo i hi j e))).keepOf (fun j e hl => k4.block j hl (ha.row.lt j e).1) (fun i hi j e hl => k4.block j hl (ha.vlo i hi j e))
  have X4 : w4.ownsRow lo1 5 1 x (ndK l k).tx.length (bcs (ndK l k).tx) := own_of hx h12 (fun j e hl => k4.block j (hx.lt j e).2 (by omega))
  obtain ⟨τ', va', vt', us', hn, _⟩ := h.app (w1 := w4) (w2 := w5) b4 (t := ndK l k) A3 h1 X4 (fun j e => ⟨fun e2 => by have := (ha.row.lt j e2).2; have := (hx.lt j e).1; omega, fun i hi e2 => by have := (ha.val i hi).lt j e2; have := (hx.lt j e).1; omega⟩) hlo (by rw [lt_]; exact ho) hg hv
  rw [← nd_take hk] at hn
  exact ⟨τ', va', vt', us', hn⟩

theorem one_node (w : World) (t : TypeId) (x y z u : Value) (g : Nat) (hg : w.heap.size = g) : ∀ j q, ([x, y, z, u] : List Value)[j]? = some q → (w.alloc (.cells #[x, y, z, u] t)).cell? ((⟨g, 0, none⟩ : Addr).add j) = some q := by
  intro j q h
  subst hg
  match j, h with
  | 0, h => cases h; simp [Addr.add]
  | 1, h => cases h; simp [Addr.add]
  | 2, h => cases h; simp [Addr.add]
  | 3, h => cases h; simp [Addr.add]
  | j + 4, h => simp at h

set_option maxRecDepth 100000 in
set_option maxHeartbeats 12800000 in
theorem copyNodes_own (a : Option Addr) (c : Nat) (l : List ND) (w : World) (ha : NsAt w a l) (hl : (l.length : Int) + nssz l ≤ 1048576) :
    Calls Tryz.prog 109 #[.slice a l.length c] w fun e w' => CpN l w e w' := by
  have HA := Hid.mk' ha
  clear ha
  go_enter Tryz.func109, Tryz.ntmps109
  go_wp2
  go_loopw [3, 8] (fun v i wr => ∃ (k : Nat) (τ : Nat → Nat) (va vt : Nat → Value) (us : Nat → List Value), k ≤ l.length ∧ i = .int .i64 k ∧ NS τ w.heap.size wr v (l.take k) va vt us ∧ Below w.heap.size w wr) (fun _ i _ => l.length - (intOf i).toNat)
  case atStart => exact ⟨0, fun _ => 0, fun _ => undef, fun _ => undef, fun _ => [], Nat.zero_le _, rfl, by simpa using NS.nil (fun _ => 0) w.heap.size w _ _ _, Below.refl _ _⟩
  case round =>
    obtain ⟨k, τ, va, vt, us, hk, rfl, hns, hbl⟩ := hrel
    have HB := Hid.mk' hbl
    obtain ⟨av, cv, ev, _⟩ := own_len hns.row
    have lt_ : (l.take k).length = k := by rw [List.length_take]; omega
    rw [lt_] at ev
    subst ev
    by_cases hlt : k < l.length
    · have ci : (k : Int) < (l.length : Int) := by omega
      rcases HA.out with h0 | ⟨b1, o1, rfl, s0, hc1⟩
      · exact absurd hlt (by rw [h0]; exact Nat.not_lt_zero _)
      obtain ⟨h1, h2, ⟨p1, d1, h3, _, h4⟩, ⟨p2_, d2, h5, h6⟩⟩ := hc1 k hlt
      replace h1 := (hbl.cell s0).trans h1
      replace h2 := (hbl.cell s0).trans h2
      replace h3 := (hbl.cell s0).trans h3
      replace h5 := (hbl.cell s0).trans h5
      have H4 := Hid.mk' (h4.below hbl)
      have H6 := Hid.mk' (h6.below hbl)
      have s1 := Nat.lt_of_lt_of_le s0 hbl.size
      have sz1 := nssz_at hlt
      unfold nsz at sz1
      have HO := Hid.mk' hns
      clear hc1 h4 h6 hns
      have N1 := below_new wr (.cells #[.int .i64 (ndK l k).up, .string (ndK l k).tg, .slice p1 (ndK l k).at_.length d1, .slice p2_ (ndK l k).tx.length d2] 91)
      have RB := Hid.mk' (row4 wr 91 (.int .i64 (ndK l k).up) (.string (ndK l k).tg) (.slice p1 (ndK l k).at_.length d1) (.slice p2_ (ndK l k).tx.length d2))
      have HN1 := Hid.mk' N1
      clear N1
      generalize hW : wr.alloc (.cells #[.int .i64 (ndK l k).up, .string (ndK l k).tg, .slice p1 (ndK l k).at_.length d1, .slice p2_ (ndK l k).tx.length d2] 91) = W at *
      obtain ⟨x0, x1, x2, x3, x4⟩ := cells4 RB.out
      go_wp2_with fail
      clear hW h1 h2 h3 h5
      refine wp_region_held_drew (S := fun w' => w'.cell? ⟨wr.heap.size, 0, none⟩ = some (.int .i64 (ndK l k).up) ∧ w'.cell? ⟨wr.heap.size, 1, none⟩ = some (.string (ndK l k).tg) ∧ w'.cell? ⟨wr.heap.size, 2, none⟩ = some (.slice p1 (ndK l k).at_.length d1) ∧ w'.cell? ⟨wr.heap.size, 3, none⟩ = some (.slice p2_ (ndK l k).tx.length d2)) (by kernel_rfl) (by simp [*]) (fun hHeld => ?_)
      refine wpAnyH_take (i := 0) (oi := ⟨_, _, _, _, _, _⟩) (v := ?_) rfl (by kernel_rfl) (by kernel_rfl) (by kernel_rfl) (fun _ _ _ h => h) (Or.inl ⟨by rfl, ?_⟩) (by assumption) ?_
      rotate_left
      · (intro w hSw; (try dsimp only at hSw); go_simp; (try with_reducible rfl))
      try simp only [Act.put, zA, zB, zC]
      refine wpAnyH_take (i := 1) (oi := ⟨_, _, _, _, _, _⟩) (v := ?_) rfl (by kernel_rfl) (by kernel_rfl) (by kernel_rfl) (fun _ _ _ h => h) (Or.inl ⟨by rfl, ?_⟩) (by assumption) ?_
      rotate_left
      · (intro w hSw; (try dsimp only at hSw); go_simp; (try with_reducible rfl))
      try simp only [Act.put, zA, zB, zC]
      refine wpAnyH_take (i := 2) (oi := ⟨_, _, _, _, _, _⟩) (v := ?_) rfl (by kernel_rfl) (by kernel_rfl) (by kernel_rfl) (fun _ _ _ h => h) (Or.inl ⟨by rfl, ?_⟩) (by assumption) ?_
      rotate_left
      · (intro w hSw; (try dsimp only at hSw); go_simp; (try with_reducible rfl))
      try simp only [Act.put, zA, zB, zC]
      refine wpAnyH_take (i := 3) (oi := ⟨_, _, _, _, _, _⟩) (v := ?_) rfl (by kernel_rfl) (by kernel_rfl) (by kernel_rfl) (fun _ _ _ h => h) (Or.inl ⟨by rfl, ?_⟩) (by assumption) ?_
      rotate_left
      · (intro w hSw; (try dsimp only at hSw); go_simp; (try with_reducible rfl))
      try simp only [Act.put, zA, zB, zC]
      refine wpAnyH_take (i := 4) (oi := ⟨_, _, _, _, _, _⟩) (v := ?_) rfl (by kernel_rfl) (by kernel_rfl) (by kernel_rfl) (fun _ _ _ h => h) (Or.inl ⟨by rfl, ?_⟩) (by assumption) ?_
      rotate_left
      · (intro w hSw; (try dsimp only at hSw); go_simp; (try with_reducible rfl))
      try simp only [Act.put, zA, zB, zC]
      refine wpAnyH_take (i := 6) (oi := ⟨_, _, _, _, _, _⟩) (v := ?_) rfl (by kernel_rfl) (by kernel_rfl) (by kernel_rfl) (fun _ _ _ h => h) (Or.inl ⟨by rfl, ?_⟩) (by assumption) ?_
      rotate_left
      · (intro w hSw; (try dsimp only at hSw); go_simp; (try with_reducible rfl))
      try simp only [Act.put, zA, zB, zC]
      refine wpAnyH_take (i := 7) (oi := ⟨_, _, _, _, _, _⟩) (v := ?_) rfl (by kernel_rfl) (by kernel_rfl) (by kernel_rfl) (fun _ _ _ h => h) (Or.inl ⟨by rfl, ?_⟩) (by assumption) ?_
      rotate_left
      · (intro w hSw; (try dsimp only at hSw); go_simp; (try with_reducible rfl))
      try simp only [Act.put, zA, zB, zC]
      refine wpAnyH_take (i := 9) (oi := ⟨_, _, _, _, _, _⟩) (v := ?_) rfl (by kernel_rfl) (by kernel_rfl) (by kernel_rfl) (fun _ _ _ h => h) (Or.inl ⟨by rfl, ?_⟩) (by assumption) ?_
      rotate_left
      · (intro w hSw; (try dsimp only at hSw); go_simp; (try with_reducible rfl))
      try simp only [Act.put, zA, zB, zC]
      refine wpAnyH_take (i := 10) (oi := ⟨_, _, _, _, _, _⟩) (v := ?_) rfl (by kernel_rfl) (by kernel_rfl) (by kernel_rfl) (fun _ _ _ h => h) (Or.inl ⟨by rfl, ?_⟩) (by assumption) ?_
      rotate_left
      · (intro w hSw; (try dsimp only at hSw); go_simp; (try with_reducible rfl))
      try simp only [Act.put, zA, zB, zC]
      refine wpAnyH_ready (rs := [5]) (by kernel_rfl) (by simp) ?_
      refine AllReadyH.cons (o := ⟨_, _, _, _, _, _⟩) rfl (fun K hK => ?_) AllReadyH.nil
      go_simp
      go_at_call 140
      refine (cloneS_any (ndK l k).tg W.drew (by omega)).mono ?_
      rintro e w1 ⟨rfl, hb1⟩
      replace hb1 := undrew hb1
      have R1 := Hid.mk' (rowB RB.out hb1)
      obtain ⟨y0, y1, y2, y3, y4⟩ := cells4 R1.out
      have B1 : Hid (Below wr.heap.size wr w1) := Hid.mk' (HN1.out.trans (hb1.mono HN1.out.size))
      have LO1 : Hid (wr.heap.size ≤ w1.heap.size) := Hid.mk' B1.out.size
      clear hb1
      refine hK.out _ _ ⟨y0, y1, y2, y3⟩ (fun hHeld => ?_)
      clear hK K
      try simp only [Act.put, zA, zB, zC]
      refine wpAnyH_ready (rs := [8]) (by kernel_rfl) (by simp) ?_
      refine AllReadyH.cons (o := ⟨_, _, _, _, _, _⟩) rfl (fun K hK => ?_) AllReadyH.nil
      go_simp
      go_at_call 141
      refine (copyAttrs_own p1 d1 (ndK l k).at_ w1 (H4.out.below B1.out) (by omega)).mono ?_
      rintro e w2 ⟨va_, us_, rfl, hoa, hb2⟩
      obtain ⟨pa, ca, ea, _⟩ := own_len hoa.row
      subst ea
      have R2 := Hid.mk' (rowB R1.out hb2)
      obtain ⟨z0, z1, z2, z3, z4⟩ := cells4 R2.out
      have B2 : Hid (Below wr.heap.size wr w2) := Hid.mk' (B1.out.trans (hb2.mono B1.out.size))
      have L12 : Hid (w1.heap.size ≤ w2.heap.size) := Hid.mk' hb2.size
      have HOA := Hid.mk' hoa
      clear hb2 hoa
      refine hK.out _ _ ⟨z0, z1, z2, z3⟩ (fun hHeld => ?_)
      clear hK K
      try simp only [Act.put, zA, zB, zC]
      refine wpAnyH_ready (rs := [11]) (by kernel_rfl) (by simp) ?_
      refine AllReadyH.cons (o := ⟨_, _, _, _, _, _⟩) rfl (fun K hK => ?_) AllReadyH.nil
      go_simp
      go_at_call 142
      refine (bytesClone_own p2_ d2 (ndK l k).tx w2 (H6.out.below B2.out) (by omega)).mono ?_
      rintro e w3 ⟨x_, rfl, hx, hb3⟩
      obtain ⟨px, cx, ex, _⟩ := own_len hx
      subst ex
      have R3 := Hid.mk' (rowB R2.out hb3)
      obtain ⟨v0, v1, v2, v3, v4⟩ := cells4 R3.out
      have B3 : Hid (Below wr.heap.size wr w3) := Hid.mk' (B2.out.trans (hb3.mono B2.out.size))
      have K3 : Hid (Kp (fun j => w1.heap.size ≤ j) w2 w3) := Hid.mk' (Kp.of_below hb3)
      have HX := Hid.mk' hx
      clear hb3 hx
      refine hK.out _ _ ⟨v0, v1, v2, v3⟩ (fun hHeld => ?_)
      clear hK K
      try simp only [Act.put, zA, zB, zC]
      refine wpAnyH_take (i := 12) (oi := ⟨_, _, _, _, _, _⟩) (v := ?_) rfl (by kernel_rfl) (by kernel_rfl) (by kernel_rfl) (fun _ _ _ h => h) (Or.inl ⟨by rfl, ?_⟩) (by assumption) ?_
      rotate_left
      · (intro w hSw; (try dsimp only at hSw); go_simp; (try with_reducible rfl))
      try simp only [Act.put, zA, zB, zC]
      refine wpAnyH_ready (rs := [13]) (by kernel_rfl) (by simp) ?_
      refine AllReadyH.cons (o := ⟨_, _, _, _, _, _⟩) rfl (fun K hK => ?_) AllReadyH.nil
      go_simp
      have NN := below_new w3 (.cells #[.int .i64 (ndK l k).up, .string (ndK l k).tg, .slice pa (ndK l k).at_.length ca, .slice px (ndK l k).tx.length cx] 91)
      have R4 := Hid.mk' (rowB R3.out NN)
      obtain ⟨q0, q1, q2, q3, q4⟩ := cells4 R4.out
      have B4 : Hid (Below wr.heap.size wr _) := Hid.mk' (B3.out.trans (NN.mono B3.out.size))
      have K4 : Hid (Kp (fun j => w1.heap.size ≤ j) w3 _) := Hid.mk' (Kp.of_below NN)
      have OW := Hid.mk' (HO.out.below B4.out)
      clear NN
      refine hK.out _ _ ⟨q0, q1, q2, q3⟩ (fun hHeld => ?_)
      clear hK K
      try simp only [Act.put, zA, zB, zC]
      refine wpAnyH_ready (rs := [14]) (by kernel_rfl) (by simp) ?_
      refine AllReadyH.cons (o := ⟨_, _, _, _, _, _⟩) rfl (fun K hK => ?_) AllReadyH.nil
      refine step_append_at rfl (.tmp 12) (.tmp 25) 41 rfl w.heap.size 91 (.agg #[.int .i64 0, .string ⟨#[]⟩, .slice none 0 0, .slice none 0 0]) 4 72 Tryz.underlying41 Tryz.info91 rfl (by decide) _ k _ rfl (by have := OW.out.row; rw [lt_] at this; exact this) _ 1 _ [.int .i64 (ndK l k).up, .string (ndK l k).tg, .slice pa (ndK l k).at_.length ca, .slice px (ndK l k).tx.length cx] rfl rfl (.inr ⟨_, rfl, one_node w3 _ _ _ _ _ _ rfl⟩) (by simp [Value.oneCell']) (by unfold maxLen; omega) (by omega) (Nat.le_trans HB.out.size B4.out.size) ?_
      intro v' w5 ho hgr hat
      obtain ⟨τ', va', vt', us', A5⟩ := HO.out.more (w2 := w2) (w3 := w3) (w5 := w5) hlt HB.out.size HOA.out LO1.out L12.out HX.out B2.out K3.out K4.out B4.out ho hgr hat
      have HA5 := Hid.mk' A5
      have HB5 := Hid.mk' ((HB.out.trans (B4.out.mono HB.out.size)).grown hgr (Nat.le_trans HB.out.size B4.out.size) (own_lo OW.out.row))
      have gne : ∀ j, (Value.slice av k cv).ownBlock = some j → ¬ j = wr.heap.size := fun j e => by have := (HO.out.row.lt j e).2; omega
      have m0 := hgr.cell q0 (fun e => gne _ e.symm rfl)
      have m1 := hgr.cell q1 (fun e => gne _ e.symm rfl)
      have m2 := hgr.cell q2 (fun e => gne _ e.symm rfl)
      have m3 := hgr.cell q3 (fun e => gne _ e.symm rfl)
      clear ho hgr hat A5
      refine hK.out _ _ ⟨m0, m1, m2, m3⟩ (fun hHeld => ?_)
      clear hK K
      try simp only [Act.put, zA, zB, zC]
      refine wpAnyH_take (i := 15) (oi := ⟨_, _, _, _, _, _⟩) (v := ?_) rfl (by kernel_rfl) (by kernel_rfl) (by kernel_rfl) (fun _ _ _ h => h) (Or.inl ⟨by rfl, ?_⟩) (by assumption) ?_
      rotate_left
      · (intro w hSw; (try dsimp only at hSw); go_simp; (try with_reducible rfl))
      try simp only [Act.put, zA, zB, zC]
      refine wpAnyH_done (by kernel_rfl) ?_ _
      obtain ⟨aw, cw, ew, _⟩ := own_len HA5.out.row
      rw [show (l.take (k + 1)).length = k + 1 by rw [List.length_take]; omega] at ew
      subst ew
      go_wp2
      go_roundw
      case rel => exact ⟨k + 1, τ', va', vt', us', by omega, by go_num, HA5.out, HB5.out⟩
      case measure => simp [intOf]; omega
    · have ci : ¬ (k : Int) < (l.length : Int) := by omega
      have e : k = l.length := by omega
      subst e
      rw [List.take_length] at hns
      have HO := Hid.mk' hns
      clear hns hbl
      go_wp2
      go_ret
      exact ⟨_, τ, va, vt, us, rfl, HO.out, HB.out⟩

set_option maxRecDepth 100000 in
set_option maxHeartbeats 12800000 in
theorem l6Copy_own (a : Option Addr) (c : Nat) (l : List ND) (w : World) (ha : NsAt w a l) (hl : (l.length : Int) + nssz l ≤ 1048576) :
    Calls Tryz.prog 99 #[.slice a l.length c] w fun e w' => CpN l w e w' := by
  have HA := Hid.mk' ha
  clear ha
  go_enter Tryz.func99, Tryz.ntmps99
  go_wp2
  go_loopw [3, 4] (fun v i wr => ∃ (k : Nat) (τ : Nat → Nat) (va vt : Nat → Value) (us : Nat → List Value), k ≤ l.length ∧ i = .int .i64 k ∧ NS τ w.heap.size wr v (l.take k) va vt us ∧ Below w.heap.size w wr) (fun _ i _ => l.length - (intOf i).toNat)
  case atStart => exact ⟨0, fun _ => 0, fun _ => undef, fun _ => undef, fun _ => [], Nat.zero_le _, rfl, ⟨by simpa [ncs] using World.ownsRow_lit (base := w.heap.size) (e := 91) (size := 4) w #[] 0 (Nat.le_refl _) (by decide) rfl, fun j h => absurd h (by simp), fun j h => absurd h (by simp), fun _ _ => rfl, fun j h => absurd h (by simp), fun j h => absurd h (by simp), fun j h => absurd h (by simp)⟩, below_new _ _⟩
  case round =>
    obtain ⟨k, τ, va, vt, us, hk, rfl, hns, hbl⟩ := hrel
    have HB := Hid.mk' hbl
    obtain ⟨av, cv, ev, _⟩ := own_len hns.row
    have lt_ : (l.take k).length = k := by rw [List.length_take]; omega
    rw [lt_] at ev
    subst ev
    by_cases hlt : k < l.length
    · have ci : (k : Int) < (l.length : Int) := by omega
      rcases HA.out with h0 | ⟨b1, o1, rfl, s0, hc1⟩
      · exact absurd hlt (by rw [h0]; exact Nat.not_lt_zero _)
      obtain ⟨h1, h2, ⟨p1, d1, h3, _, h4⟩, ⟨p2_, d2, h5, h6⟩⟩ := hc1 k hlt
      replace h1 := (hbl.cell s0).trans h1
      replace h2 := (hbl.cell s0).trans h2
      replace h3 := (hbl.cell s0).trans h3
      replace h5 := (hbl.cell s0).trans h5
      have H4 := Hid.mk' (h4.below hbl)
      have H6 := Hid.mk' (h6.below hbl)
      have s1 := Nat.lt_of_lt_of_le s0 hbl.size
      have sz1 := nssz_at hlt
      unfold nsz at sz1
      have HO := Hid.mk' hns
      clear hc1 h4 h6 hns
      have N1 := below_new wr (.cells #[.int .i64 (ndK l k).up, .string (ndK l k).tg, .slice p1 (ndK l k).at_.length d1, .slice p2_ (ndK l k).tx.length d2] 91)
      have RB := Hid.mk' (row4 wr 91 (.int .i64 (ndK l k).up) (.string (ndK l k).tg) (.slice p1 (ndK l k).at_.length d1) (.slice p2_ (ndK l k).tx.length d2))
      have HN1 := Hid.mk' N1
      clear N1
      generalize hW : wr.alloc (.cells #[.int .i64 (ndK l k).up, .string (ndK l k).tg, .slice p1 (ndK l k).at_.length d1, .slice p2_ (ndK l k).tx.length d2] 91) = W at *
      obtain ⟨x0, x1, x2, x3, x4⟩ := cells4 RB.out
      have KA := Hid.mk' (l4CopyAttrs_own p1 d1 (ndK l k).at_ W (H4.out.below HN1.out) (by omega))
      go_wp2_with fail
      clear hW h1 h2 h3 h5
      refine KA.out.mono ?_
      rintro e w1 ⟨va_, us_, rfl, hoa, hb1⟩
      obtain ⟨pa, ca, ea, _⟩ := own_len hoa.row
      subst ea
      have R1 := rowB RB.out hb1
      have sz0 : wr.heap.size < W.heap.size := x4
      have K1 := (KeptIn.refl wr.heap.size (wr.heap.size + 1) w1).setCell (p := ⟨wr.heap.size, 2, none⟩) (by simp) (by simp) (.slice pa (ndK l k).at_.length ca)
      have B1 : Hid (Below wr.heap.size wr (w1.setCell ⟨wr.heap.size, 2, none⟩ (.slice pa (ndK l k).at_.length ca))) := Hid.mk' ((HN1.out.trans (hb1.mono HN1.out.size)).setCell (p := ⟨wr.heap.size, 2, none⟩) (by simp) _)
      have LO1 : Hid (wr.heap.size ≤ W.heap.size) := Hid.mk' (by omega)
      have HOA : Hid (OA W.heap.size (w1.setCell ⟨wr.heap.size, 2, none⟩ (.slice pa (ndK l k).at_.length ca)) (.slice pa (ndK l k).at_.length ca) (ndK l k).at_ us_) := Hid.mk' (hoa.keep (Nat.le_refl _) (fun j hj _ => Below.heap_setCell _ _ _ _ (by dsimp only; omega)))
      have L12 : Hid (W.heap.size ≤ (w1.setCell ⟨wr.heap.size, 2, none⟩ (.slice pa (ndK l k).at_.length ca)).heap.size) := Hid.mk' (by rw [World.heap_size_setCell']; exact hb1.size)
      have R2 := Hid.mk' ((R1.set 2 (.slice pa (ndK l k).at_.length ca)).congr (g := r4 (.int .i64 (ndK l k).up) (.string (ndK l k).tg) (.slice pa (ndK l k).at_.length ca) (.slice p2_ (ndK l k).tx.length d2)) (fun i hi => by have h4 : i = 0 ∨ i = 1 ∨ i = 2 ∨ i = 3 := (by omega); rcases h4 with rfl | rfl | rfl | rfl <;> rfl))
      obtain ⟨y0, y1, y2, y3, y4⟩ := cells4 R1
      have f2 := R1.frozen 2
      clear hb1 hoa R1 KA K1 x0 x1 x2 x3
      generalize hV : w1.setCell ⟨wr.heap.size, 2, none⟩ (.slice pa (ndK l k).at_.length ca) = w2 at *
      have B2 := B1
      obtain ⟨z0, z1, z2, z3, z4⟩ := cells4 R2.out
      have KX := Hid.mk' (l1Copy_own p2_ d2 (ndK l k).tx w2 (H6.out.below B2.out) (by omega))
      go_wp2_with fail
      clear hV y0 y1 y2 y3 y4 f2
      refine KX.out.mono ?_
      rintro e w25 ⟨x_, rfl, hx, hb3⟩
      obtain ⟨px, cx, ex, _⟩ := own_len hx
      subst ex
      have R25 := rowB R2.out hb3
      have B3 : Hid (Below wr.heap.size wr (w25.setCell ⟨wr.heap.size, 3, none⟩ (.slice px (ndK l k).tx.length cx))) := Hid.mk' ((B2.out.trans (hb3.mono B2.out.size)).setCell (p := ⟨wr.heap.size, 3, none⟩) (by simp) _)
      have K3 : Hid (Kp (fun j => W.heap.size ≤ j) w2 (w25.setCell ⟨wr.heap.size, 3, none⟩ (.slice px (ndK l k).tx.length cx))) := Hid.mk' ((Kp.of_below hb3).setCell (q := ⟨wr.heap.size, 3, none⟩) (by dsimp only; omega) _)
      have HX : Hid ((w25.setCell ⟨wr.heap.size, 3, none⟩ (.slice px (ndK l k).tx.length cx)).ownsRow w2.heap.size 5 1 (.slice px (ndK l k).tx.length cx) (ndK l k).tx.length (bcs (ndK l k).tx)) := Hid.mk' (own_of hx (Nat.le_refl _) (fun j e hj => Below.heap_setCell _ _ _ _ (by dsimp only; omega)))
      have R3 := Hid.mk' ((R25.set 3 (.slice px (ndK l k).tx.length cx)).congr (g := r4 (.int .i64 (ndK l k).up) (.string (ndK l k).tg) (.slice pa (ndK l k).at_.length ca) (.slice px (ndK l k).tx.length cx)) (fun i hi => by have h4 : i = 0 ∨ i = 1 ∨ i = 2 ∨ i = 3 := (by omega); rcases h4 with rfl | rfl | rfl | rfl <;> rfl))
      obtain ⟨y0, y1, y2, y3, y4⟩ := cells4 R25
      have f3 := R25.frozen 3
      clear hb3 hx R25 KX z0 z1 z2 z3
      generalize hV : w25.setCell ⟨wr.heap.size, 3, none⟩ (.slice px (ndK l k).tx.length cx) = w3 at *
      obtain ⟨v0, v1, v2, v3, v4⟩ := cells4 R3.out
      have NN := below_new w3 (.cells #[.int .i64 (ndK l k).up, .string (ndK l k).tg, .slice pa (ndK l k).at_.length ca, .slice px (ndK l k).tx.length cx] 91)
      have B4 : Hid (Below wr.heap.size wr _) := Hid.mk' (B3.out.trans (NN.mono B3.out.size))
      have K4 : Hid (Kp (fun j => W.heap.size ≤ j) w3 _) := Hid.mk' (Kp.of_below NN)
      have OW := Hid.mk' (HO.out.below B4.out)
      clear NN
      go_wp2_with (at_builtin; refine wpList_append_at _ rfl (.tmp 25) (.tmp 27) 41 rfl w.heap.size 91 (.agg #[.int .i64 0, .string ⟨#[]⟩, .slice none 0 0, .slice none 0 0]) 4 72 Tryz.underlying41 Tryz.info91 rfl (by decide) _ k _ rfl (by have := OW.out.row; rw [lt_] at this; exact this) _ 1 _ [.int .i64 (ndK l k).up, .string (ndK l k).tg, .slice pa (ndK l k).at_.length ca, .slice px (ndK l k).tx.length cx] rfl rfl (.inr ⟨_, rfl, one_node w3 _ _ _ _ _ _ rfl⟩) (by simp [Value.oneCell']) (by unfold maxLen; omega) (by omega) (Nat.le_trans HB.out.size B4.out.size) ?_; intro v' w5 ho hgr hat)
      clear hV y0 y1 y2 y3 y4 f3
      obtain ⟨τ', va', vt', us', A5⟩ := HO.out.more (w2 := w2) (w3 := w3) (w5 := w5) hlt HB.out.size HOA.out LO1.out L12.out HX.out B2.out K3.out K4.out B4.out ho hgr hat
      have HA5 := Hid.mk' A5
      have HB5 := Hid.mk' ((HB.out.trans (B4.out.mono HB.out.size)).grown hgr (Nat.le_trans HB.out.size B4.out.size) (own_lo OW.out.row))
      clear ho hgr hat A5
      obtain ⟨aw, cw, ew, _⟩ := own_len HA5.out.row
      rw [show (l.take (k + 1)).length = k + 1 by rw [List.length_take]; omega] at ew
      subst ew
      go_wp2
      go_roundw
      case rel => exact ⟨k + 1, τ', va', vt', us', by omega, by go_num, HA5.out, HB5.out⟩
      case measure => simp [intOf]; omega
    · have ci : ¬ (k : Int) < (l.length : Int) := by omega
      have e : k = l.length := by omega
      subst e
      rw [List.take_length] at hns
      have HO := Hid.mk' hns
      clear hns hbl
      go_wp2
      go_ret
      exact ⟨_, τ, va, vt, us, rfl, HO.out, HB.out⟩

end Go.Proofs.YthcajggbcanmdaaGreatDoor
