/- The program's lexer: what is told, let go and held. -/
import Derived.Test.YtgkdplooocbonaaGreatDoorXLxa
import Derived.Test.YtgkdplooocbonaaGreatDoorXTo
namespace Go.Proofs.YtgkdplooocbonaaGreatDoor
open Go.RowKit
set_option linter.unusedVariables false
set_option linter.unusedSimpArgs false

theorem tcs_get : ∀ (ts : List TK) (us : List Value) (j i : Nat), us.length = ts.length → j < ts.length → i < 5 → (tcs ts us)[j * 5 + i]? = ([.int .i64 (tkK ts j).kd, .int .i64 (tkK ts j).by_, .string (tkK ts j).nm, us.getD j undef, .bool (tkK ts j).sh] : List Value)[i]?
  | [], _, j, _, _, hj, _ => absurd hj (Nat.not_lt_zero _)
  | t :: ts, [], _, _, h, _, _ => by simp at h
  | t :: ts, u :: us, 0, i, _, _, hi => by
    have : i = 0 ∨ i = 1 ∨ i = 2 ∨ i = 3 ∨ i = 4 := by omega
    rcases this with rfl | rfl | rfl | rfl | rfl <;> simp [tcs, tkK]
  | t :: ts, u :: us, j + 1, i, h, hj, hi => by
    have := tcs_get ts us j i (by simpa using h) (by simpa using hj) hi
    rw [show (j + 1) * 5 + i = j * 5 + i + 5 by omega]
    simpa [tcs, tkK] using this

/-- What a method of the lexer leaves. -/
def LxP (lo g : Nat) (hs : List Int) (ts : List TK) (w : World) (e : Ending) (w' : World) : Prop := (∃ v, e = .returned v) ∧ LXs lo g w' hs ts ∧ Below lo w w'

theorem LX.spotT {lo g : Nat} {w w2 : World} {hv tv : Value} {hs : List Int} {ts : List TK} {us : List Value} {rs : Nat → List Value} {bl bh : Nat → Nat} (h : LX lo g w hv tv hs ts us rs bl bh) (hg : w.grownBy w2 tv.ownBlock) : w2.cell? ⟨g, 1, none⟩ = some tv ∧ w2.frozen? ⟨g, 1, none⟩ = false := by
  have bx : w2.rowIs g 56 2 (q2 hv tv) := h.box.of_block (hg.block g h.lt (fun e => h.gt e.symm))
  exact ⟨(cellsQ2 bx).2.1, (frzQ2 bx).2⟩
theorem LX.spotH {lo g : Nat} {w w2 : World} {hv tv : Value} {hs : List Int} {ts : List TK} {us : List Value} {rs : Nat → List Value} {bl bh : Nat → Nat} (h : LX lo g w hv tv hs ts us rs bl bh) (hg : w.grownBy w2 hv.ownBlock) : w2.cell? ⟨g, 0, none⟩ = some hv ∧ w2.frozen? ⟨g, 0, none⟩ = false := by
  have bx : w2.rowIs g 56 2 (q2 hv tv) := h.box.of_block (hg.block g h.lt (fun e => h.gh e.symm))
  exact ⟨(cellsQ2 bx).1, (frzQ2 bx).1⟩

set_option maxRecDepth 100000 in
set_option maxHeartbeats 3200000 in
theorem tell_any (lo g : Nat) (ax : Option Addr) (c : Nat) (w0 w : World) (hv tv : Value) (hs : List Int) (ts : List TK) (us : List Value) (rs : Nat → List Value) (bl bh : Nat → Nat) (ts1 : List TK) (us1 : List Value) (rs1 : Nat → List Value) (bl1 bh1 : Nat → Nat)
    (h : LX lo g w0 hv tv hs ts us rs bl bh) (h1 : Below w0.heap.size w0 w) (k : TA w0.heap.size w.heap.size w ts1 us1 rs1 bl1 bh1) (hsrc : ts1.length = 0 ∨ ∃ ad, ax = some ad ∧ ∀ j u, (tcs ts1 us1)[j]? = some u → w.cell? (ad.add j) = some u) (hn : ts.length + ts1.length ≤ 1000000) :
    Calls Tryz.prog 29 #[.pointer (some ⟨g, 0, none⟩), .slice ax ts1.length c] w fun e w' => LxP lo g hs (ts ++ ts1) w e w' := by
  have HX := Hid.mk' (h.below h1)
  obtain ⟨c0, c1, c2⟩ := cellsQ2 HX.out.box
  have H := Hid.mk' h
  have H1 := Hid.mk' h1
  have lg := h.lg
  have K := Hid.mk' k
  have hlen : Hid ((tcs ts1 us1).length = ts1.length * 5) := Hid.mk' (tcs_len _ _ k.len)
  have hone : Hid (∀ u ∈ tcs ts1 us1, u.oneCell' = true) := Hid.mk' (tcs_one _ _ k.one)
  have HS := Hid.mk' hsrc
  have SZ : Hid (lo ≤ w.heap.size) := Hid.mk' (by omega)
  clear h h1 k hsrc
  go_enter Tryz.func29, Tryz.ntmps29
  go_wp2_with (at_builtin; refine wpList_append_at _ rfl (.tmp 8) (.tmp 9) 25 rfl lo 33 (.agg #[.int .i64 0, .int .i64 0, .string ⟨#[]⟩, .slice none 0 0, .bool false]) 5 64 Tryz.underlying25 Tryz.infoTok rfl (by decide) _ _ _ rfl HX.out.row _ _ _ (tcs ts1 us1) rfl hlen.out HS.out hone.out (by unfold maxLen; omega) (by omega) SZ.out ?_; intro v' w2 ho hgr hat; obtain ⟨a', c', rfl, _⟩ := own_src ho; obtain ⟨d1, f1⟩ := HX.out.spotT hgr; have L2 := Hid.mk' (H.out.tell H1.out K.out ho hgr hat); have B2 := Hid.mk' ((Below.refl lo w).grown hgr (Nat.le_trans lg (Nat.le_of_lt c2)) (fun x e => (HX.out.row.lt x e).1)); clear ho hgr hat c0 c1 c2)
  go_end0
  exact ⟨⟨_, rfl⟩, ⟨_, _, _, _, _, _, L2.out⟩, B2.out.setCell (p := ⟨g, 1, none⟩) lg _⟩

end Go.Proofs.YtgkdplooocbonaaGreatDoor
