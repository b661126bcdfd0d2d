/- The program reads a text from check to check: what is in memory meanwhile. -/
import Derived.Test.YtlimgcmhidooaaaGreatDoorM22
import Derived.Deep.WholeRow
set_option linter.unusedVariables false
set_option linter.unusedSimpArgs false
namespace Go.Proofs.YtlimgcmhidooaaaGreatDoor
open Go.RowKit
abbrev tkN (d : List Int) (s i : Nat) : List TK := (allX [] [] (d.take (i * s))).1
abbrev hdN (d : List Int) (s i : Nat) : List Int := (allX [] [] (d.take (i * s))).2
def ckV (d : List Int) (s c : Nat) (hvs : Nat → Value) (i : Nat) : Value :=
 if i / 3 < c then r3 (.int .i64 ((i / 3 * s : Nat) : Int)) (.int .i64 ((tkN d s (i / 3)).length : Int)) (hvs (i / 3)) (i % 3) else r3 (.int .i64 0) (.int .i64 0) (.slice none 0 0) (i % 3)
def zs : Nat → List Value
 | 0 => []
 | n + 1 => .int .i64 0 :: .int .i64 0 :: .slice none 0 0 :: zs n
theorem zs_len : ∀ n, (zs n).length = n * 3
 | 0 => rfl
 | n + 1 => by simp only [zs, List.length_cons, zs_len n]; omega
theorem zs_at : ∀ (n i : Nat), i < n * 3 → (zs n)[i]? = some (r3 (.int .i64 0) (.int .i64 0) (.slice none 0 0) (i % 3))
 | 0, i, h => absurd h (by omega)
 | n + 1, 0, _ => rfl
 | n + 1, 1, _ => rfl
 | n + 1, 2, _ => rfl
 | n + 1, i + 3, h => by
  have e : (zs (n + 1))[i + 3]? = (zs n)[i]? := by simp [zs]
  rw [e, zs_at n i (by omega), show (i + 3) % 3 = i % 3 by omega]
theorem zero_cells : Tryz.zeroCells96 = (zs 241).toArray := by kernel_rfl
theorem row_zero (w : World) : (w.alloc (.cells Tryz.zeroCells96 96)).rowIs w.heap.size 96 723 (fun i => r3 (.int .i64 0) (.int .i64 0) (.slice none 0 0) (i % 3)) := by
 rw [zero_cells]
 refine ⟨_, Deep.blk_alloc_new _ _, by simp [zs_len], fun i hi => ?_⟩
 rw [List.getElem?_toArray]
 exact zs_at 241 i (by omega)
theorem ckV_none (d : List Int) (s : Nat) (hvs : Nat → Value) : ckV d s 0 hvs = fun i => r3 (.int .i64 0) (.int .i64 0) (.slice none 0 0) (i % 3) := by
 funext i; unfold ckV; rw [if_neg (by omega)]
structure RD (w : World) (d : List Int) (s j c : Nat) (tv : Value) (hvs : Nat → Value) (us : List Value) (rs : Nat → List Value) (bl bh : Nat → Nat) (wr : World) : Prop where
 bel : Below w.heap.size w wr
 all : wr.rowIs (w.heap.size + 1 + 1) 41 3 (r3 (.int .i64 0) tv (hvs j))
 cks : wr.rowIs (w.heap.size + 1 + 1 + 1) 96 723 (ckV d s c hvs)
 r0 : wr.rowIs w.heap.size 41 3 (r3 (.int .i64 0) (.slice none 0 0) (.slice none 0 0))
 r1 : wr.rowIs (w.heap.size + 1) 96 723 (fun i => r3 (.int .i64 0) (.int .i64 0) (.slice none 0 0) (i % 3))
 tp : TP (w.heap.size + 4) wr tv (tkN d s j) us rs bl bh
 own : ∀ i, i ≤ j → wr.ownsRow (w.heap.size + 4) 5 1 (hvs i) (hdN d s i).length (bcs (hdN d s i))
 ap : ∀ i k, i < k → k ≤ j → Ap (hvs i) (hvs k)
 at_ : ∀ i, i ≤ j → Ap (hvs i) tv
 av : ∀ i, i ≤ j → ∀ t, t < (tkN d s j).length → ∀ k, (hvs i).ownBlock = some k → k < bl t ∨ bh t ≤ k
theorem RD.sz {w : World} {d : List Int} {s j c : Nat} {tv : Value} {hvs : Nat → Value} {us : List Value} {rs : Nat → List Value} {bl bh : Nat → Nat} {wr : World} (x : RD w d s j c tv hvs us rs bl bh wr) : w.heap.size + 4 ≤ wr.heap.size := by
 have := x.cks.lt; omega
theorem RD.keep {w : World} {d : List Int} {s j c : Nat} {tv : Value} {hvs : Nat → Value} {us : List Value} {rs : Nat → List Value} {bl bh : Nat → Nat} {wr wj : World} (x : RD w d s j c tv hvs us rs bl bh wr) (hb : Below wr.heap.size wr wj) : RD w d s j c tv hvs us rs bl bh wj :=
 ⟨x.bel.trans (hb.mono x.bel.size), rowB x.all hb, rowB x.cks hb, rowB x.r0 hb, rowB x.r1 hb, x.tp.below hb, fun i hi => own_keep (x.own i hi) hb, x.ap, x.at_, x.av⟩
theorem RD.start (w : World) (d : List Int) (s : Nat) : RD w d s 0 0 (.slice none 0 0) (fun _ => .slice none 0 0) [] (fun _ => []) (fun _ => 0) (fun _ => 0) ((((w.alloc (.cells #[.int .i64 0, .slice none 0 0, .slice none 0 0] 41)).alloc (.cells Tryz.zeroCells96 96)).alloc (.cells #[.int .i64 0, .slice none 0 0, .slice none 0 0] 41)).alloc (.cells Tryz.zeroCells96 96)) := by
 have z1 : (w.alloc (.cells #[.int .i64 0, .slice none 0 0, .slice none 0 0] 41)).heap.size = w.heap.size + 1 := by simp
 have z2 : ((w.alloc (.cells #[.int .i64 0, .slice none 0 0, .slice none 0 0] 41)).alloc (.cells Tryz.zeroCells96 96)).heap.size = w.heap.size + 1 + 1 := by simp
 have z3 : (((w.alloc (.cells #[.int .i64 0, .slice none 0 0, .slice none 0 0] 41)).alloc (.cells Tryz.zeroCells96 96)).alloc (.cells #[.int .i64 0, .slice none 0 0, .slice none 0 0] 41)).heap.size = w.heap.size + 1 + 1 + 1 := by simp
 have R1 := row_zero (w.alloc (.cells #[.int .i64 0, .slice none 0 0, .slice none 0 0] 41))
 have R2 := row3 ((w.alloc (.cells #[.int .i64 0, .slice none 0 0, .slice none 0 0] 41)).alloc (.cells Tryz.zeroCells96 96)) 41 (.int .i64 0) (.slice none 0 0) (.slice none 0 0)
 have R3 := row_zero (((w.alloc (.cells #[.int .i64 0, .slice none 0 0, .slice none 0 0] 41)).alloc (.cells Tryz.zeroCells96 96)).alloc (.cells #[.int .i64 0, .slice none 0 0, .slice none 0 0] 41))
 rw [z1] at R1
 rw [z2] at R2
 rw [z3] at R3
 have e0 : allX [] [] (d.take (0 * s)) = ([], []) := by simp [allX]
 refine ⟨((((Below.refl w.heap.size w).alloc (Nat.le_refl _) _).alloc (by simp) _).alloc (by simp; omega) _).alloc (by simp; omega) _, R2.alloc _, by rw [ckV_none]; exact R3, (((row3 w 41 (.int .i64 0) (.slice none 0 0) (.slice none 0 0)).alloc _).alloc _).alloc _, (R1.alloc _).alloc _, ?_, fun i hi => ?_, fun i k h1 h2 => absurd h1 (by omega), fun i hi k e => ?_, fun i hi t ht => ?_⟩
 ·have e1 : tkN d s 0 = [] := congrArg Prod.fst e0
  rw [e1]
  exact ⟨⟨rfl, .inl ⟨rfl, rfl⟩⟩, TA.nil _ _ _, fun j hj => absurd hj (Nat.not_lt_zero _)⟩
 ·obtain rfl : i = 0 := by omega
  have e1 : hdN d s 0 = [] := congrArg Prod.snd e0
  rw [e1]
  exact ⟨rfl, .inl ⟨rfl, rfl⟩⟩
 ·simp [Value.ownBlock] at e
 ·have e1 : tkN d s 0 = [] := congrArg Prod.fst e0
  rw [e1] at ht
  exact absurd ht (Nat.not_lt_zero _)
theorem RD.check {w : World} {d : List Int} {s j : Nat} {tv : Value} {hvs : Nat → Value} {us : List Value} {rs : Nat → List Value} {bl bh : Nat → Nat} {wr : World} (x : RD w d s j j tv hvs us rs bl bh wr) (hj : j < 241) :
  RD w d s j (j + 1) tv hvs us rs bl bh (((wr.setCell ⟨w.heap.size + 1 + 1 + 1, j * 3, none⟩ (.int .i64 ((j * s : Nat) : Int))).setCell ⟨w.heap.size + 1 + 1 + 1, j * 3 + 1, none⟩ (.int .i64 ((tkN d s j).length : Int))).setCell ⟨w.heap.size + 1 + 1 + 1, j * 3 + 2, none⟩ (hvs j)) := by
 have K := (((KeptIn.refl (w.heap.size + 1 + 1 + 1) (w.heap.size + 1 + 1 + 1 + 1) wr).setCell (p := ⟨w.heap.size + 1 + 1 + 1, j * 3, none⟩) (by simp) (by simp) (.int .i64 ((j * s : Nat) : Int))).setCell (p := ⟨w.heap.size + 1 + 1 + 1, j * 3 + 1, none⟩) (by simp) (by simp) (.int .i64 ((tkN d s j).length : Int))).setCell (p := ⟨w.heap.size + 1 + 1 + 1, j * 3 + 2, none⟩) (by simp) (by simp) (hvs j)
 have sz := x.sz
 have kp : ∀ q, w.heap.size + 4 ≤ q → q < wr.heap.size → (((wr.setCell ⟨w.heap.size + 1 + 1 + 1, j * 3, none⟩ (.int .i64 ((j * s : Nat) : Int))).setCell ⟨w.heap.size + 1 + 1 + 1, j * 3 + 1, none⟩ (.int .i64 ((tkN d s j).length : Int))).setCell ⟨w.heap.size + 1 + 1 + 1, j * 3 + 2, none⟩ (hvs j)).heap[q]? = wr.heap[q]? := fun q h1 h2 => K.block q h2 (by omega)
 refine ⟨x.bel.trans (K.below (by omega) (by omega)), rowK x.all K (.inl (by omega)), ?_, rowK x.r0 K (.inl (by omega)), rowK x.r1 K (.inl (by omega)), x.tp.keep K.size kp, fun i hi => own_of (x.own i hi) (Nat.le_refl _) (fun k e hl => kp k hl ((x.own i hi).lt k e).2), x.ap, x.at_, x.av⟩
 refine (((x.cks.set (j * 3) _).set (j * 3 + 1) _).set (j * 3 + 2) _).congr (fun i hi => ?_)
 by_cases e2 : i = j * 3 + 2
 ·subst e2
  rw [if_pos rfl]
  unfold ckV
  rw [show (j * 3 + 2) / 3 = j by omega, show (j * 3 + 2) % 3 = 2 by omega, if_pos (by omega)]
  rfl
 ·rw [if_neg e2]
  by_cases e1 : i = j * 3 + 1
  ·subst e1
   rw [if_pos rfl]
   unfold ckV
   rw [show (j * 3 + 1) / 3 = j by omega, show (j * 3 + 1) % 3 = 1 by omega, if_pos (by omega)]
   rfl
  ·rw [if_neg e1]
   by_cases e0 : i = j * 3
   ·subst e0
    rw [if_pos rfl]
    unfold ckV
    rw [show (j * 3) / 3 = j by omega, show (j * 3) % 3 = 0 by omega, if_pos (by omega)]
    rfl
   ·rw [if_neg e0]
    unfold ckV
    by_cases h : i / 3 < j
    ·rw [if_pos h, if_pos (by omega)]
    ·rw [if_neg h, if_neg (by omega)]
theorem RD.step {w : World} {d : List Int} {s j : Nat} {tv : Value} {hvs : Nat → Value} {us : List Value} {rs : Nat → List Value} {bl bh : Nat → Nat} {wr w3 w4 : World} (x : RD w d s j (j + 1) tv hvs us rs bl bh wr)
  {hv' tv' tv'' : Value} {us' : List Value} {rs' : Nat → List Value} {bl' bh' : Nat → Nat} {T' : List TK} (eX : allX [] [] (d.take ((j + 1) * s)) = (tkN d s j ++ T', hdN d s (j + 1)))
  (hb : Below wr.heap.size wr w3) (ta : TA wr.heap.size w3.heap.size w3 T' us' rs' bl' bh') (held : w3.ownsRow wr.heap.size 5 1 hv' (hdN d s (j + 1)).length (bcs (hdN d s (j + 1)))) (vh : ∀ t, t < T'.length → ∀ k, hv'.ownBlock = some k → k < bl' t ∨ bh' t ≤ k)
  (ho : w4.ownsRow (w.heap.size + 4) 107 5 tv'' ((tkN d s j).length + T'.length) (tcs (tkN d s j) us ++ tcs T' us')) (hg : w3.grownBy w4 tv.ownBlock) (e : tv''.ownBlock = tv.ownBlock ∨ tv''.ownBlock = some w3.heap.size) :
  RD w d s (j + 1) (j + 1) tv'' (fun i => if i = j + 1 then hv' else hvs i) (us ++ us') (thenN (tkN d s j).length rs rs') (thenN (tkN d s j).length bl bl') (thenN (tkN d s j).length bh bh')
   (((w4.setCell ⟨w.heap.size + 1 + 1, 0, none⟩ (.int .i64 0)).setCell ⟨w.heap.size + 1 + 1, 1, none⟩ tv'').setCell ⟨w.heap.size + 1 + 1, 2, none⟩ hv') := by
 have sz := x.sz
 have s1 := hb.size
 have s2 := hg.size
 have told : ∀ q, tv.ownBlock = some q → w.heap.size + 4 ≤ q ∧ q < wr.heap.size := fun q e => x.tp.row.lt q e
 have hold : ∀ i, i ≤ j → ∀ q, (hvs i).ownBlock = some q → w.heap.size + 4 ≤ q ∧ q < wr.heap.size := fun i hi q e => (x.own i hi).lt q e
 have K := (((KeptIn.refl (w.heap.size + 1 + 1) (w.heap.size + 1 + 1 + 1) w4).setCell (p := ⟨w.heap.size + 1 + 1, 0, none⟩) (by simp) (by simp) (.int .i64 0)).setCell (p := ⟨w.heap.size + 1 + 1, 1, none⟩) (by simp) (by simp) tv'').setCell (p := ⟨w.heap.size + 1 + 1, 2, none⟩) (by simp) (by simp) hv'
 generalize hV : ((w4.setCell ⟨w.heap.size + 1 + 1, 0, none⟩ (.int .i64 0)).setCell ⟨w.heap.size + 1 + 1, 1, none⟩ tv'').setCell ⟨w.heap.size + 1 + 1, 2, none⟩ hv' = V at *
 have sV := K.size
 have kb : ∀ q, q < wr.heap.size → q ≠ w.heap.size + 1 + 1 → some q ≠ tv.ownBlock → V.heap[q]? = wr.heap[q]? := fun q h1 h2 h3 => by
  rw [K.block q (by omega) (by omega), hg.block q (by omega) h3, hb.block q h1]
 have k3 : ∀ q, w.heap.size + 4 ≤ q → q < w3.heap.size → some q ≠ tv.ownBlock → V.heap[q]? = w3.heap[q]? := fun q h1 h2 h3 => by
  rw [K.block q (by omega) (by omega), hg.block q h2 h3]
 have e1 : tkN d s (j + 1) = tkN d s j ++ T' := congrArg Prod.fst eX
 have lo : ∀ q, q < w.heap.size + 4 → some q ≠ tv.ownBlock := fun q h e => by have := told q e.symm; omega
 refine ⟨?_, ?_, ?_, ?_, ?_, ?_, fun i hi => ?_, fun i k h1 h2 => ?_, fun i hi => ?_, fun i hi t ht k ek => ?_⟩
 ·exact ⟨K.os.trans (hg.os.trans (hb.os.trans x.bel.os)), K.tape.trans (hg.tape.trans (hb.tape.trans x.bel.tape)), K.output.trans (hg.output.trans (hb.output.trans x.bel.output)), by have := x.bel.size; omega, fun q hq => (kb q (by have := x.bel.size; omega) (by omega) (lo q (by omega))).trans (x.bel.block q hq)⟩
 ·rw [if_pos rfl, ← hV]
  have r := x.all.of_block ((hg.block _ (by have := x.all.lt; omega) (lo _ (by omega))).trans (hb.block _ x.all.lt))
  refine (((r.set 0 _).set 1 _).set 2 _).congr (fun i hi => ?_)
  have h : i = 0 ∨ i = 1 ∨ i = 2 := by omega
  rcases h with rfl | rfl | rfl <;> simp [r3]
 ·refine (x.cks.of_block (kb _ x.cks.lt (by omega) (lo _ (by omega)))).congr (fun i hi => ?_)
  unfold ckV
  by_cases h : i / 3 < j + 1
  ·rw [if_pos h, if_pos h]
   dsimp only
   rw [if_neg (by omega)]
  ·rw [if_neg h, if_neg h]
 ·exact x.r0.of_block (kb _ x.r0.lt (by omega) (lo _ (by omega)))
 ·exact x.r1.of_block (kb _ x.r1.lt (by omega) (lo _ (by omega)))
 ·rw [e1]
  refine (x.tp.app (by omega) hb ta ho hg e).keep sV (fun q h1 h2 => K.block q h2 (by omega))
 ·by_cases c : i = j + 1
  ·subst c
   rw [if_pos rfl]
   exact own_of (own_down held (by omega)) (Nat.le_refl _) (fun q eq hq => k3 q hq (held.lt q eq).2 (fun e2 => by have := told q e2.symm; have := (held.lt q eq).1; omega))
  ·rw [if_neg c]
   exact own_of (x.own i (by omega)) (Nat.le_refl _) (fun q eq hq => kb q (hold i (by omega) q eq).2 (by omega) (fun e2 => x.at_ i (by omega) q eq e2.symm))
 ·intro q eq eq2
  rw [if_neg (by omega)] at eq
  have h3 := hold i (by omega) q eq
  by_cases c : k = j + 1
  ·rw [if_pos c] at eq2
   have := (held.lt q eq2).1; omega
  ·rw [if_neg c] at eq2
   exact x.ap i k h1 (by omega) q eq eq2
 ·intro q eq eq2
  by_cases c : i = j + 1
  ·rw [if_pos c] at eq
   have h1 := held.lt q eq
   rcases e with e | e
   ·rw [e] at eq2; have := told q eq2; omega
   ·rw [e] at eq2; cases eq2; omega
  ·rw [if_neg c] at eq
   have h1 := hold i (by omega) q eq
   rcases e with e | e
   ·rw [e] at eq2; exact x.at_ i (by omega) q eq eq2
   ·rw [e] at eq2; cases eq2; omega
 ·rw [e1, List.length_append] at ht
  by_cases c : t < (tkN d s j).length
  ·rw [thenN_l c, thenN_l c]
   by_cases c2 : i = j + 1
   ·rw [if_pos c2] at ek
    have := held.lt k ek; have := x.tp.ta.top t c; omega
   ·rw [if_neg c2] at ek
    exact x.av i (by omega) t c k ek
  ·rw [thenN_r c, thenN_r c]
   by_cases c2 : i = j + 1
   ·rw [if_pos c2] at ek
    exact vh _ (by omega) k ek
   ·rw [if_neg c2] at ek
    have := hold i (by omega) k ek; have := ta.low _ (show t - (tkN d s j).length < T'.length by omega); omega

end Go.Proofs.YtlimgcmhidooaaaGreatDoor
