/- Memos that are drawn: the draw. -/
import Derived.Test.YtlimgcmhidooaaaGreatDoorM31
import Derived.Test.YtlimgcmhidooaaaGreatDoorM26
import Derived.Test.YtlimgcmhidooaaaGreatDoorM28
set_option maxHeartbeats 4000000
set_option maxRecDepth 100000
set_option linter.unusedVariables false
set_option linter.unusedSimpArgs false
namespace Go.Proofs.YtlimgcmhidooaaaGreatDoor
open Go.RowKit
structure NewS (lo hi : Nat) (d : List Int) (s : Nat) (vd vh : Value) (t c : Option Addr) (ct cc : Nat) (w : World) : Prop where
 dt : w.ownsRow lo 5 1 vd d.length (bcs d)
 hd : w.ownsRow lo 5 1 vh (allX [] [] d).2.length (bcs (allX [] [] d).2)
 ap : ∀ q, vd.ownBlock = some q → vh.ownBlock ≠ some q
 df : ∃ b, vd.ownBlock = some b
 ctl : (allX [] [] d).1.length ≤ ct
 tf : (t = none ∧ ct = 0 ∧ (allX [] [] d).1 = []) ∨ ∃ b, t = some ⟨b, 0, none⟩
 cf : ∃ b, c = some ⟨b, 0, none⟩
 ccl : d.length / s + 1 ≤ cc
 rest : ∀ z : World, w.heap.size ≤ z.heap.size → (∀ q, lo ≤ q → q < hi → vd.ownBlock ≠ some q → vh.ownBlock ≠ some q → z.heap[q]? = w.heap[q]?) → TsAt z t (allX [] [] d).1 ∧ CsAt z c (cksN d s (d.length / s + 1))
 dl : ∀ q, vd.ownBlock = some q → q < hi
 hl : ∀ q, vh.ownBlock = some q → q < hi
 his : hi ≤ w.heap.size
theorem NewS.keep {lo hi : Nat} {d : List Int} {s : Nat} {vd vh : Value} {t c : Option Addr} {ct cc : Nat} {w w' : World} (h : NewS lo hi d s vd vh t c ct cc w) (hs : w.heap.size ≤ w'.heap.size) (hk : ∀ q, lo ≤ q → q < hi → w'.heap[q]? = w.heap[q]?) : NewS lo hi d s vd vh t c ct cc w' :=
 ⟨own_of h.dt (Nat.le_refl _) (fun q e _ => hk q (h.dt.lt q e).1 (h.dl q e)), own_of h.hd (Nat.le_refl _) (fun q e _ => hk q (h.hd.lt q e).1 (h.hl q e)), h.ap, h.df, h.ctl, h.tf, h.cf, h.ccl, fun z hz hzk => h.rest z (Nat.le_trans hs hz) (fun q h1 h2 h3 h4 => (hzk q h1 h2 h3 h4).trans (hk q h1 h2)), h.dl, h.hl, Nat.le_trans h.his hs⟩
theorem NewS.below {lo hi : Nat} {d : List Int} {s : Nat} {vd vh : Value} {t c : Option Addr} {ct cc : Nat} {w w' : World} (h : NewS lo hi d s vd vh t c ct cc w) (hb : Below w.heap.size w w') : NewS lo hi d s vd vh t c ct cc w' :=
 h.keep hb.size (fun q _ h2 => hb.block q (Nat.lt_of_lt_of_le h2 h.his))
theorem NewS.kept {lo hi b : Nat} {d : List Int} {s : Nat} {vd vh : Value} {t c : Option Addr} {ct cc : Nat} {w w' : World} (h : NewS lo hi d s vd vh t c ct cc w) (hk : KeptIn b (b + 1) w w') (hb : b < lo) : NewS lo hi d s vd vh t c ct cc w' :=
 h.keep hk.size (fun q h1 h2 => hk.block q (Nat.lt_of_lt_of_le h2 h.his) (.inr (by omega)))
structure DM (lo : Nat) (m : ME) (a t u c : Option Addr) (ca ct cu cc : Nat) (w : World) : Prop where
 at_ : ∀ z : World, w.heap.size ≤ z.heap.size → (∀ q, lo ≤ q → q < w.heap.size → z.heap[q]? = w.heap[q]?) → MAt z a t u c m
 ka : m.dt.length ≤ ca
 kt : m.tk.length ≤ ct
 ku : m.hd.length ≤ cu
 kc : m.cs.length ≤ cc
 af : ∃ b, a = some ⟨b, 0, none⟩
 tf : (t = none ∧ ct = 0 ∧ m.tk = []) ∨ ∃ b, t = some ⟨b, 0, none⟩
 cf : m.cs = [] ∨ ∃ b o, c = some ⟨b, o, none⟩
theorem DM.now {lo : Nat} {m : ME} {a t u c : Option Addr} {ca ct cu cc : Nat} {w : World} (h : DM lo m a t u c ca ct cu cc w) : MAt w a t u c m := h.at_ w (Nat.le_refl _) (fun _ _ _ => rfl)
theorem DM.keep {lo : Nat} {m : ME} {a t u c : Option Addr} {ca ct cu cc : Nat} {w w' : World} (h : DM lo m a t u c ca ct cu cc w) (hs : w.heap.size ≤ w'.heap.size) (hk : ∀ q, lo ≤ q → q < w.heap.size → w'.heap[q]? = w.heap[q]?) : DM lo m a t u c ca ct cu cc w' :=
 ⟨fun z hz hzk => h.at_ z (Nat.le_trans hs hz) (fun q h1 h2 => (hzk q h1 (Nat.lt_of_lt_of_le h2 hs)).trans (hk q h1 h2)), h.ka, h.kt, h.ku, h.kc, h.af, h.tf, h.cf⟩
theorem DM.below {lo : Nat} {m : ME} {a t u c : Option Addr} {ca ct cu cc : Nat} {w w' : World} (h : DM lo m a t u c ca ct cu cc w) (hb : Below w.heap.size w w') : DM lo m a t u c ca ct cu cc w' :=
 h.keep hb.size (fun q _ h2 => hb.block q h2)
theorem DM.kept {lo b : Nat} {m : ME} {a t u c : Option Addr} {ca ct cu cc : Nat} {w w' : World} (h : DM lo m a t u c ca ct cu cc w) (hk : KeptIn b (b + 1) w w') (hb : b < lo) : DM lo m a t u c ca ct cu cc w' :=
 h.keep hk.size (fun q h1 h2 => hk.block q h2 (.inr (by omega)))
theorem DM.mono {lo lo' : Nat} {m : ME} {a t u c : Option Addr} {ca ct cu cc : Nat} {w : World} (h : DM lo m a t u c ca ct cu cc w) (hl : lo' ≤ lo) : DM lo' m a t u c ca ct cu cc w :=
 ⟨fun z hz hzk => h.at_ z hz (fun q h1 h2 => hzk q (Nat.le_trans hl h1) h2), h.ka, h.kt, h.ku, h.kc, h.af, h.tf, h.cf⟩
structure DB (lo g : Nat) (m : ME) (a t u c : Option Addr) (ca ct cu cc : Nat) (w : World) : Prop where
 at_ : ∀ z : World, w.heap.size ≤ z.heap.size → (∀ q, lo ≤ q → q < w.heap.size → q ≠ g → z.heap[q]? = w.heap[q]?) → MAt z a t u c m
 ka : m.dt.length ≤ ca
 kt : m.tk.length ≤ ct
 ku : m.hd.length ≤ cu
 kc : m.cs.length ≤ cc
 af : ∃ b, a = some ⟨b, 0, none⟩
 tf : (t = none ∧ ct = 0 ∧ m.tk = []) ∨ ∃ b, t = some ⟨b, 0, none⟩
 cf : m.cs = [] ∨ ∃ b o, c = some ⟨b, o, none⟩
theorem DB.dm {lo g : Nat} {m : ME} {a t u c : Option Addr} {ca ct cu cc : Nat} {w w' : World} (h : DB lo g m a t u c ca ct cu cc w) (hs : w.heap.size ≤ w'.heap.size) (hk : ∀ q, lo ≤ q → q < w.heap.size → q ≠ g → w'.heap[q]? = w.heap[q]?) : DM lo m a t u c ca ct cu cc w' :=
 ⟨fun z hz hzk => h.at_ z (Nat.le_trans hs hz) (fun q h1 h2 h3 => (hzk q h1 (Nat.lt_of_lt_of_le h2 hs)).trans (hk q h1 h2 h3)), h.ka, h.kt, h.ku, h.kc, h.af, h.tf, h.cf⟩
theorem own_addr {w : World} {base : Nat} {e : TypeId} {size : Nat} {p : Option Addr} {n q : Nat} {xs : List Value} (h : w.ownsRow base e size (.slice p n q) n xs) : (p = none ∨ ∃ b, p = some ⟨b, 0, none⟩) ∧ n ≤ q := by
 refine ⟨?_, ?_⟩
 ·rcases h.2 with ⟨h, -⟩ | ⟨b, _, _, h, -⟩
  ·injection h with h1 _ _; exact .inl h1
  ·injection h with h1 _ _; exact .inr ⟨b, h1⟩
 ·obtain ⟨_, _, e, hc⟩ := own_cap h
  injection e with _ _ e3
  omega
theorem own_blk {p : Option Addr} {n q : Nat} {w : World} {base : Nat} {e : TypeId} {size : Nat} {xs : List Value} (h : w.ownsRow base e size (.slice p n q) n xs) (hb : ∃ b, (Value.slice p n q).ownBlock = some b) : ∃ b, p = some ⟨b, 0, none⟩ := by
 rcases (own_addr h).1 with rfl | h
 ·obtain ⟨b, hb⟩ := hb; simp [Value.ownBlock] at hb
 ·exact h
theorem own_batp {w : World} {base : Nat} {p : Option Addr} {q : Nat} {l : List Int} (h : w.ownsRow base 5 1 (.slice p l.length q) l.length (bcs l)) : BAt w p l := by
 obtain ⟨p', c, e, hb⟩ := own_bat h
 injection e with e1 _ _
 rw [e1]; exact hb
theorem NewS.box {lo hi g : Nat} {d : List Int} {s : Nat} {p1 p2_ t c : Option Addr} {q1 q2_ ct cc : Nat} {w : World} (h : NewS lo hi d s (.slice p1 d.length q1) (.slice p2_ (allX [] [] d).2.length q2_) t c ct cc w) (hg : hi ≤ g) (st : Int) : DB lo g ⟨d, st, (allX [] [] d).1, (allX [] [] d).2, cksN d s (d.length / s + 1)⟩ p1 t p2_ c q1 ct q2_ cc w := by
 refine ⟨fun z hz hzk => ?_, (own_addr h.dt).2, h.ctl, (own_addr h.hd).2, ?_, own_blk h.dt h.df, h.tf, .inr ?_⟩
 ·have hh := h.his
  have k : ∀ q, lo ≤ q → q < hi → z.heap[q]? = w.heap[q]? := fun q a b => hzk q a (by omega) (by omega)
  obtain ⟨r1, r2⟩ := h.rest z hz (fun q a b _ _ => k q a b)
  exact ⟨own_batp (own_of h.dt (Nat.le_refl _) (fun q e _ => k q (h.dt.lt q e).1 (h.dl q e))), r1, own_batp (own_of h.hd (Nat.le_refl _) (fun q e _ => k q (h.hd.lt q e).1 (h.hl q e))), r2⟩
 ·rw [cksN_len]; exact h.ccl
 ·obtain ⟨b, e⟩ := h.cf; exact ⟨b, 0, e⟩
theorem NewS.held {lo hi g : Nat} {d : List Int} {s : Nat} {p1 p2_ t c : Option Addr} {q1 q2_ ct cc : Nat} {w w' : World} {v' : Value} {x : List Int} (h : NewS lo hi d s (.slice p1 d.length q1) (.slice p2_ (allX [] [] d).2.length q2_) t c ct cc w) (hg : hi ≤ g) (hgl : g < w.heap.size) (hr : w.grownBy w' (Value.slice p2_ (allX [] [] d).2.length q2_).ownBlock) (hat : v'.ownBlock = (Value.slice p2_ (allX [] [] d).2.length q2_).ownBlock ∨ v'.ownBlock = some w.heap.size) (ho : w'.ownsRow lo 5 1 v' ((allX [] [] d).2 ++ x).length (bcs ((allX [] [] d).2 ++ x))) (st : Int) : ∃ u cu, v' = .slice u ((allX [] [] d).2 ++ x).length cu ∧ DB lo g ⟨d, st, (allX [] [] d).1, (allX [] [] d).2 ++ x, cksN d s (d.length / s + 1)⟩ p1 t u c q1 ct cu cc w' := by
 obtain ⟨u, cu, rfl⟩ := own_form ho
 refine ⟨u, cu, rfl, fun z hz hzk => ?_, (own_addr h.dt).2, h.ctl, (own_addr ho).2, ?_, own_blk h.dt h.df, h.tf, .inr ?_⟩
 ·have hh := h.his
  have hs := hr.size
  have k : ∀ q, lo ≤ q → q < hi → (Value.slice p2_ (allX [] [] d).2.length q2_).ownBlock ≠ some q → z.heap[q]? = w.heap[q]? := fun q a b n => (hzk q a (by omega) (by omega)).trans (hr.block q (by omega) (fun e => n e.symm))
  obtain ⟨r1, r2⟩ := h.rest z (Nat.le_trans hs hz) (fun q a b _ n => k q a b n)
  exact ⟨own_batp (own_of h.dt (Nat.le_refl _) (fun q e _ => k q (h.dt.lt q e).1 (h.dl q e) (h.ap q e))), r1, own_batp (own_of ho (Nat.le_refl _) (fun q e _ => hzk q (ho.lt q e).1 (ho.lt q e).2 (fun eg => by
   rcases hat with ha | ha
   ·rw [ha] at e; have := h.hl q e; omega
   ·rw [ha] at e; injection e with e; omega))), r2⟩
 ·rw [cksN_len]; exact h.ccl
 ·obtain ⟨b, e⟩ := h.cf; exact ⟨b, 0, e⟩
theorem NewS.data {lo hi g : Nat} {d : List Int} {s : Nat} {p1 p2_ t c : Option Addr} {q1 q2_ ct cc : Nat} {w w' : World} {v' : Value} {x : List Int} (h : NewS lo hi d s (.slice p1 d.length q1) (.slice p2_ (allX [] [] d).2.length q2_) t c ct cc w) (hg : hi ≤ g) (hgl : g < w.heap.size) (hr : w.grownBy w' (Value.slice p1 d.length q1).ownBlock) (hat : v'.ownBlock = (Value.slice p1 d.length q1).ownBlock ∨ v'.ownBlock = some w.heap.size) (ho : w'.ownsRow lo 5 1 v' (d ++ x).length (bcs (d ++ x))) (st : Int) : ∃ u cu, v' = .slice u (d ++ x).length cu ∧ DB lo g ⟨d ++ x, st, (allX [] [] d).1, (allX [] [] d).2, cksN d s (d.length / s + 1)⟩ u t p2_ c cu ct q2_ cc w' := by
 obtain ⟨u, cu, rfl⟩ := own_form ho
 refine ⟨u, cu, rfl, fun z hz hzk => ?_, (own_addr ho).2, h.ctl, (own_addr h.hd).2, ?_, own_blk ho (hat.elim (fun ha => by rw [ha]; exact h.df) (fun ha => ⟨_, ha⟩)), h.tf, .inr ?_⟩
 ·have hh := h.his
  have hs := hr.size
  have k : ∀ q, lo ≤ q → q < hi → (Value.slice p1 d.length q1).ownBlock ≠ some q → z.heap[q]? = w.heap[q]? := fun q a b n => (hzk q a (by omega) (by omega)).trans (hr.block q (by omega) (fun e => n e.symm))
  obtain ⟨r1, r2⟩ := h.rest z (Nat.le_trans hs hz) (fun q a b n _ => k q a b n)
  exact ⟨own_batp (own_of ho (Nat.le_refl _) (fun q e _ => hzk q (ho.lt q e).1 (ho.lt q e).2 (fun eg => by
   rcases hat with ha | ha
   ·rw [ha] at e; have := h.dl q e; omega
   ·rw [ha] at e; injection e with e; omega))), r1, own_batp (own_of h.hd (Nat.le_refl _) (fun q e _ => k q (h.hd.lt q e).1 (h.hl q e) (fun e2 => h.ap q e2 e))), r2⟩
 ·rw [cksN_len]; exact h.ccl
 ·obtain ⟨b, e⟩ := h.cf; exact ⟨b, 0, e⟩
theorem ckK_tail (l : List CK) (k : Nat) : ckK l.tail k = ckK l (k + 1) := by
 cases l with
 | nil => simp [ckK]
 | cons x l => simp [ckK]
theorem CsAt.rest1 {w : World} {b c : Nat} {l : List CK} (h : CsAt w (some ⟨b, 0, none⟩) l) (hl : l.length ≤ c) : CsAt w (if c = 1 then some ⟨b, 0, none⟩ else some ⟨b, 3, none⟩) l.tail := by
 by_cases e : c = 1
 ·exact .inl (List.eq_nil_of_length_eq_zero (by rw [List.length_tail]; omega))
 ·rw [if_neg e]
  rcases h with h | ⟨b1, o1, e1, hb, hc⟩
  ·exact .inl (by rw [h]; rfl)
  ·cases e1
   refine .inr ⟨b, 3, rfl, hb, fun k hk => ?_⟩
   rw [List.length_tail] at hk
   rw [ckK_tail]
   have := hc (k + 1) (by omega)
   rw [show 0 + (k + 1) * 3 = 3 + k * 3 by omega] at this
   exact this
theorem DB.tail {lo g b : Nat} {m : ME} {a t u : Option Addr} {ca ct cu cc : Nat} {w : World} (h : DB lo g m a t u (some ⟨b, 0, none⟩) ca ct cu cc w) : DB lo g ⟨m.dt, m.st, m.tk, m.hd, m.cs.tail⟩ a t u (if cc = 1 then some ⟨b, 0, none⟩ else some ⟨b, 3, none⟩) ca ct cu (cc - 1) w :=
 ⟨fun z hz hzk => by
  obtain ⟨h1, h2, h3, h4⟩ := h.at_ z hz hzk
  exact ⟨h1, h2, h3, h4.rest1 h.kc⟩, h.ka, h.kt, h.ku, by rw [List.length_tail]; have := h.kc; omega, h.af, h.tf, .inr (by split; exact ⟨b, 0, rfl⟩; exact ⟨b, 3, rfl⟩)⟩
theorem l12Draw_any (b k : Nat) (l : List Int) (w : World) (h : Src b l k w) (hk : k ≤ 10000) (hl : (l.length : Int) ≤ 1048576) :
  Calls Tryz.prog 73 #[.pointer (some ⟨b, 0, none⟩)] w fun e w' => ∃ (d : List Int) (s k' : Nat) (vd vh : Value) (t c : Option Addr) (ct cc : Nat), e = .returned (.agg #[vd, .int .i64 (s : Int), .slice t (allX [] [] d).1.length ct, vh, .slice c (d.length / s + 1) cc]) ∧ d.length ≤ 180 ∧ Byt d ∧ 1 ≤ s ∧ s ≤ 60 ∧ k' ≤ k + 11 ∧ NewS w.heap.size w'.heap.size d s vd vh t c ct cc w' ∧ Src b l k' w' ∧ KeptIn b (b + 1) w w' := by
 have hbw := h.lt
 have N0 := below_new w (.cells #[.slice none 0 0, .int .i64 0, .slice none 0 0, .slice none 0 0, .slice none 0 0] 27)
 have HS := Hid.mk' (h.below N0)
 have K0 : Hid (KeptIn b (b + 1) w (w.alloc (.cells #[.slice none 0 0, .int .i64 0, .slice none 0 0, .slice none 0 0, .slice none 0 0] 27))) := Hid.mk' (KeptIn.of_below N0)
 have R0 := Hid.mk' (RowA.new w 27 #[.slice none 0 0, .int .i64 0, .slice none 0 0, .slice none 0 0, .slice none 0 0])
 clear h N0
 generalize hW : w.alloc (.cells #[.slice none 0 0, .int .i64 0, .slice none 0 0, .slice none 0 0, .slice none 0 0] 27) = W at *
 go_enter Tryz.func73, Tryz.ntmps73
 go_wp2_with fail
 clear hW
 refine (l1Marked_any b k 10 l W HS.out hk (by decide) (by decide) hl).mono ?_
 rintro e w2 ⟨v, d, k1, rfl, hd, hk1, hD⟩
 obtain ⟨va, vc, rfl⟩ := own_form hD.own
 have HD := Hid.mk' hD
 have bw2 : b < w2.heap.size := hD.src.lt
 have KP := Hid.mk' (l1Pick_any b k1 w2.heap.size 4 l [1, 3, 8, 60] _ (hD.src.below (below_new w2 _)) (iat_lit w2 [1, 3, 8, 60]) (by omega) (by omega) (by decide) (by decide) hl)
 have hN2 := Hid.mk' (below_new w2 (.cells ([1, 3, 8, 60].map (Value.int .i64)).toArray 2))
 clear hD
 go_wp2_with fail
 refine KP.out.mono ?_
 rintro e w3 ⟨i, hi, rfl, hS3, hK3⟩
 obtain ⟨s, hs, hs1, hs2⟩ : ∃ s : Nat, [(1 : Int), 3, 8, 60].getD i 0 = (s : Int) ∧ 1 ≤ s ∧ s ≤ 60 := by
  have h4 : i < 4 := hi
  have : i = 0 ∨ i = 1 ∨ i = 2 ∨ i = 3 := by omega
  rcases this with rfl | rfl | rfl | rfl
  ·exact ⟨1, rfl, by decide, by decide⟩
  ·exact ⟨3, rfl, by decide, by decide⟩
  ·exact ⟨8, rfl, by decide, by decide⟩
  ·exact ⟨60, rfl, by decide, by decide⟩
 rw [hs]
 have s23 := hN2.out.size
 have hs3 := hK3.size
 have hbt : BAt w3 va d := by
  obtain ⟨p, c, e, h⟩ := own_bat (own_of HD.out.own (Nat.le_refl _) (fun q eq _ => (hK3.block q (Nat.lt_of_lt_of_le (HD.out.own.lt q eq).2 s23) (.inr (by have := (HD.out.own.lt q eq).1; have := HS.out.lt; omega))).trans (hN2.out.block q (HD.out.own.lt q eq).2)))
  injection e with e1 _ _
  rw [e1]; exact h
 have BY := Hid.mk' (Byt.of HD.out.u8)
 have KN := Hid.mk' (l12New_own d va vc s w3 hbt BY.out (by omega) hs1 hs2)
 have S3 := Hid.mk' hS3
 have KA : Hid (KeptIn b (b + 1) w w3) := Hid.mk' ((K0.out.trans HD.out.kept).trans ((KeptIn.of_below hN2.out).trans hK3))
 have R3 : Hid (RowA w3 w.heap.size 27 #[.slice none 0 0, .int .i64 0, .slice none 0 0, .slice none 0 0, .slice none 0 0]) := Hid.mk' ((hK3.block _ (by have := R0.out.lt; have := HD.out.kept.size; omega) (.inr (by omega))).trans ((hN2.out.block _ (by have := R0.out.lt; have := HD.out.kept.size; omega)).trans ((HD.out.kept.block _ R0.out.lt (.inr (by omega))).trans R0.out)))
 clear hbt hS3 hK3 KP hN2 s23 hs3 HS K0 R0 hs HD
 go_wp2_with fail
 refine KN.out.mono ?_
 rintro e w4 ⟨vd, vh, t, c, ct, cc, rfl, o1, o2, ap, df, ctl, tf, cf, ccl, rest, hb4⟩
 obtain ⟨p1, q1, rfl⟩ := own_form o1
 obtain ⟨p2_, q2_, rfl⟩ := own_form o2
 have sw : w.heap.size < w3.heap.size := R3.out.lt
 have R4 := Hid.mk' (R3.out.below hb4)
 have HR := Hid.mk' (R4.out.put #[.slice p1 d.length q1, .int .i64 (s : Int), .slice t (allX [] [] d).1.length ct, .slice p2_ (allX [] [] d).2.length q2_, .slice c (d.length / s + 1) cc])
 have s34 := hb4.size
 have k5 : ∀ q, q ≠ w.heap.size → (w4.setRow w.heap.size #[.slice p1 d.length q1, .int .i64 (s : Int), .slice t (allX [] [] d).1.length ct, .slice p2_ (allX [] [] d).2.length q2_, .slice c (d.length / s + 1) cc]).heap[q]? = w4.heap[q]? := fun q h => setRow_other _ _ _ _ h
 have NS : Hid (NewS w.heap.size w4.heap.size d s (.slice p1 d.length q1) (.slice p2_ (allX [] [] d).2.length q2_) t c ct cc (w4.setRow w.heap.size #[.slice p1 d.length q1, .int .i64 (s : Int), .slice t (allX [] [] d).1.length ct, .slice p2_ (allX [] [] d).2.length q2_, .slice c (d.length / s + 1) cc])) := Hid.mk' ⟨own_of o1 (by omega) (fun q eq _ => k5 q (by have := (o1.lt q eq).1; omega)), own_of o2 (by omega) (fun q eq _ => k5 q (by have := (o2.lt q eq).1; omega)), ap, df, ctl, tf, cf, ccl, fun z hz hzk => rest z (by rw [setRow_size] at hz; exact hz) (fun q h1 h2 h3 h4 => (hzk q (by omega) h2 h3 h4).trans (k5 q (by omega))), fun q e => (o1.lt q e).2, fun q e => (o2.lt q e).2, by rw [setRow_size]; exact Nat.le_refl _⟩
 have K4 := KA.out.trans (KeptIn.of_below hb4)
 have K5 : Hid (KeptIn b (b + 1) w (w4.setRow w.heap.size #[.slice p1 d.length q1, .int .i64 (s : Int), .slice t (allX [] [] d).1.length ct, .slice p2_ (allX [] [] d).2.length q2_, .slice c (d.length / s + 1) cc])) := Hid.mk' ⟨K4.os, K4.tape, K4.output, by rw [setRow_size]; exact K4.size, fun q h1 h2 => (k5 q (by omega)).trans (K4.block q h1 h2)⟩
 have S5 := Hid.mk' ((S3.out.below hb4).kept (RowA.keptRow w4 w.heap.size #[.slice p1 d.length q1, .int .i64 (s : Int), .slice t (allX [] [] d).1.length ct, .slice p2_ (allX [] [] d).2.length q2_, .slice c (d.length / s + 1) cc]) hbw)
 clear ap df ctl tf cf ccl rest hb4 k5 o1 o2 KN K4
 go_wp2_with (first | ((with_reducible refine wpList_store_row ?_ 27 (.tmp 2) (.tmp 8) ?_ w.heap.size #[.slice p1 d.length q1, .int .i64 (s : Int), .slice t (allX [] [] d).1.length ct, .slice p2_ (allX [] [] d).2.length q2_, .slice c (d.length / s + 1) cc] ?_ ?_ 27 #[.slice none 0 0, .int .i64 0, .slice none 0 0, .slice none 0 0, .slice none 0 0] ?_ ?_ ?_ ?_ ?_); rfl; rfl; rfl; rfl; exact R4.out; kernel_rfl; rfl; kernel_rfl) | fail)
 refine bodyPost_ret (v := .agg #[.slice p1 d.length q1, .int .i64 (s : Int), .slice t (allX [] [] d).1.length ct, .slice p2_ (allX [] [] d).2.length q2_, .slice c (d.length / s + 1) cc]) ?_ ?_ ?_
 ·exact results_cell1 Tryz.results73 _ _ _ ⟨w.heap.size, 0, none⟩ _ rfl (HR.out.load _ Tryz.underlying27 rfl (by kernel_rfl))
 ·rfl
 exact ⟨d, s, k1 + 1, _, _, t, c, ct, cc, rfl, by omega, BY.out, hs1, hs2, by omega, by rw [setRow_size]; exact NS.out, S5.out, K5.out⟩

end Go.Proofs.YtlimgcmhidooaaaGreatDoor
