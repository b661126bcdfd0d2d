/- Walks: marks are laid into a token's attributes. -/
import Derived.Test.YtlimgcmhidooaaaGreatDoorM16
import Derived.Laws.BytesString
import Derived.Laws.IdiomStrings
import Derived.Test.YtlimgcmhidooaaaGreatDoorM14
import Derived.Test.YtlimgcmhidooaaaGreatDoorM15
set_option maxHeartbeats 3200000
set_option maxRecDepth 100000
set_option linter.unusedVariables false
set_option linter.unusedSimpArgs false
namespace Go.Proofs.YtlimgcmhidooaaaGreatDoor
open Go.RowKit
def strI (l : List Int) : ByteArray := l.foldl (fun r n => r.push (UInt8.ofNat n.toNat)) ByteArray.empty
theorem conv_bytesT {w : World} {a : Option Addr} {l : List Int} (c : Nat) (h : BAt w a l) : (convert 22 9 (.slice a l.length c)).run Tryz.prog w = .ok (.string (strI l)) w := by
 rw [run_convert_bytes_string (P := Tryz.prog) w 22 9 5 a l.length c Tryz.underlying22 Tryz.underlying5 Tryz.underlying9]
 cases a with
 | none =>
  rcases h with h | ⟨b, o, e, _⟩
  ·subst h
   simp [Conv.bytesToString, strI, Sem.run_pure]
  ·cases e
 | some ad =>
  refine run_bytesToString w ad l.length c l ?_
  have hk := run_loadCells_list (P := Tryz.prog) w ad (l.map (Value.int .u8)) (fun j v hj => by
   rcases h with h | ⟨b, o, e, _, hc⟩
   ·subst h; simp at hj
   ·cases e
    have hjl : j < l.length := by
     have := (List.getElem?_eq_some_iff.1 hj).1
     simpa using this
    have := hc j hjl
    rw [List.getElem?_map] at hj
    rw [show (⟨b, o, none⟩ : Addr).add j = ⟨b, o + j, none⟩ from by unfold Addr.add; split; (rename_i h0; rw [h0]; rfl); rfl, this]
    simp [bv, List.getD_eq_getElem?_getD] at hj ⊢
    obtain ⟨x, hx, rfl⟩ := hj
    simp [hx])
  simpa using hk
def FeedB (ts : List Int) (hs : List Int) (w : World) (e : Ending) (w' : World) : Prop := ∃ v u, e = .returned (.tuple #[v, u]) ∧ w'.ownsRow w.heap.size 107 5 v ts.length (tcs (bytesT ts) (nils ts.length)) ∧ w'.ownsRow w.heap.size 5 1 u hs.length (bcs hs) ∧ Ap v u ∧ Below w.heap.size w w'
def noteB (l : List Int) : Bool := decide (4 ≤ l.length) && ((strI (l.take 4)).toList == [60, 33, 45, 45])
def quotes : List Int → Nat
 | [] => 0
 | x :: r => (if x = 34 then 1 else 0) + quotes r
theorem quotes_take (l : List Int) : ∀ k, k < l.length → quotes (l.take (k + 1)) = quotes (l.take k) + (if l.getD k 0 = 34 then 1 else 0) := by
 induction l with
 | nil => intro k h; exact absurd h (Nat.not_lt_zero _)
 | cons x r ih =>
  intro k hk
  cases k with
  | zero => simp [quotes]
  | succ k =>
   have := ih k (by simpa using hk)
   simp only [List.take_succ_cons, quotes]
   rw [this]
   simp
   omega
theorem quotes_le (l : List Int) : quotes l ≤ l.length := by
 induction l with
 | nil => simp [quotes]
 | cons x r ih => unfold quotes; split <;> simp <;> omega
theorem l5Note_any (a : Option Addr) (c : Nat) (l : List Int) (w : World) (ha : BAt w a l) (hc : l.length ≤ c) (hl : l.length ≤ 1000) :
  Calls Tryz.prog 123 #[.slice a l.length c] w fun e w' => e = .returned (.bool (noteB l)) ∧ w' = w := by
 by_cases h4 : 4 ≤ l.length
 ·have h4' : (l.length : Int) ≥ 4 := by omega
  have c4 : (4 : Int) ≤ (c : Int) := by omega
  have BT : BAt w a (l.take 4) := by
   rcases ha with h | ⟨b, o, e, hs, hcl⟩
   ·left; rw [h]; rfl
   ·refine .inr ⟨b, o, e, hs, fun k hk => ?_⟩
    rw [List.length_take] at hk
    rw [hcl k (by omega)]
    unfold bv
    congr 2
    rw [List.getD_eq_getElem?_getD, List.getD_eq_getElem?_getD, List.getElem?_take_of_lt (by omega)]
  have hcv := conv_bytesT c BT
  rw [List.length_take, Nat.min_eq_left h4] at hcv
  have E : Hid (noteB l = ((strI (l.take 4)).toList == [60, 33, 45, 45])) := Hid.mk' (by unfold noteB; rw [decide_eq_true h4]; rfl)
  clear ha BT
  generalize strI (l.take 4) = s4 at *
  go_enter Tryz.func123, Tryz.ntmps123
  go_wp2_with go_big_skip
  go_ret
  exact ⟨by rw [E.out]; rfl, rfl⟩
 ·have h4' : ¬ (l.length : Int) ≥ 4 := by omega
  have E : Hid (noteB l = false) := Hid.mk' (by unfold noteB; rw [decide_eq_false h4]; rfl)
  go_enter Tryz.func123, Tryz.ntmps123
  go_wp2_with go_big_skip
  go_ret
  exact ⟨by rw [E.out]; rfl, rfl⟩
def quotedB (l : List Int) : Bool := decide (quotes l % 2 = 1) && !noteB l
theorem l5Quoted_any (a : Option Addr) (c : Nat) (l : List Int) (w : World) (ha : BAt w a l) (hc : l.length ≤ c) (hl : l.length ≤ 1000) :
  Calls Tryz.prog 121 #[.slice a l.length c] w fun e w' => e = .returned (.bool (quotedB l)) ∧ w' = w := by
 have KN := Hid.mk' (l5Note_any a c l w ha hc hl)
 go_enter Tryz.func121, Tryz.ntmps121
 go_wp2
 go_loop [3, 4] (fun n i => ∃ k : Nat, k ≤ l.length ∧ i = .int .i64 k ∧ n = .int .i64 (quotes (l.take k) : Int)) (fun _ i => l.length - (intOf i).toNat)
 case atStart => exact ⟨0, Nat.zero_le _, rfl, rfl⟩
 case round =>
  obtain ⟨k, hk, rfl, rfl⟩ := hrel
  have ql := quotes_le (l.take k)
  rw [List.length_take] at ql
  by_cases hlt : k < l.length
  ·have ci : (k : Int) < (l.length : Int) := by omega
   rcases ha with ha | ⟨b, o, rfl, hbs, hcl⟩
   ·exact absurd hlt (by rw [ha]; exact Nat.not_lt_zero _)
   obtain ⟨y, hy⟩ : ∃ y, l.getD k 0 = y := ⟨_, rfl⟩
   have h1 : w.cell? ⟨b, o + k, none⟩ = some (.int .u8 y) := by rw [← hy]; exact hcl k hlt
   have QT := quotes_take l k hlt
   rw [hy] at QT
   clear hcl hy KN
   by_cases e : y = 34
   ·subst e
    rw [if_pos rfl] at QT
    have QT := Hid.mk' QT
    go_wp2
    go_round
    case rel => exact ⟨k + 1, by omega, by go_num, by rw [QT.out]; go_num⟩
    case measure => simp [intOf]; omega
   ·rw [if_neg e] at QT
    have QT := Hid.mk' QT
    go_wp2
    go_round
    case rel => exact ⟨k + 1, by omega, by go_num, by rw [QT.out, Nat.add_zero]⟩
    case measure => simp [intOf]; omega
  ·have ci : ¬ (k : Int) < (l.length : Int) := by omega
   have e : k = l.length := by omega
   subst e
   rw [List.take_length]
   have E : Hid (quotedB l = (decide (quotes l % 2 = 1) && !noteB l)) := Hid.mk' rfl
   clear ha
   rw [List.take_length] at ql
   by_cases hq : quotes l % 2 = 1
   ·have hq' : (quotes l : Int) % 2 = 1 := by omega
    rw [decide_eq_true hq] at E
    go_wp2_with (first | go_big_skip | (go_at_call 123; refine KN.out.mono ?_; rintro e9 w9 ⟨rfl, hw9⟩; obtain rfl := hw9.symm))
    go_ret
    exact ⟨by rw [E.out]; rfl, rfl⟩
   ·have hq' : ¬ (quotes l : Int) % 2 = 1 := by omega
    rw [decide_eq_false hq] at E
    go_wp2_with (first | go_big_skip | (go_at_call 123; refine KN.out.mono ?_; rintro e9 w9 ⟨rfl, hw9⟩; obtain rfl := hw9.symm))
    go_ret
    exact ⟨by rw [E.out]; rfl, rfl⟩
def noneT (b : Int) : List Int := if b = 60 ∨ b = 38 then [] else [b]
def noneH (b : Int) : List Int := if b = 60 ∨ b = 38 then [b] else []
theorem l5None_any (b : Int) (w : World) (h0 : 0 ≤ b) (h1 : b ≤ 255) :
  Calls Tryz.prog 110 #[.int .u8 b] w fun e w' => FeedB (noneT b) (noneH b) w e w' := by
 by_cases hb : b = 60 ∨ b = 38
 ·have E1 : Hid (noneT b = []) := Hid.mk' (by unfold noneT; rw [if_pos hb])
  have E2 : Hid (noneH b = [b]) := Hid.mk' (by unfold noneH; rw [if_pos hb])
  have F : Hid (FeedB (noneT b) (noneH b) w (.returned (.tuple #[.slice (some ⟨w.heap.size, 0, none⟩) 0 0, .slice (some ⟨w.heap.size + 1, 0, none⟩) 1 1])) ((w.alloc (.cells #[] 107)).alloc (.cells #[.int .u8 b] 5))) := Hid.mk' (by
   refine ⟨_, _, rfl, ?_, ?_, fun k e1 e2 => by simp [Value.ownBlock] at e1 e2; omega, (below_new _ _).alloc (by simp) _⟩
   ·rw [E1.out]
    exact (World.ownsRow_lit (base := w.heap.size) (e := 107) (size := 5) w #[] 0 (Nat.le_refl _) (by unfold maxLen; omega) rfl).alloc _
   ·rw [E2.out]
    have := World.ownsRow_lit (base := w.heap.size) (e := 5) (size := 1) (w.alloc (.cells #[] 107)) #[.int .u8 b] 1 (by simp) (by unfold maxLen; omega) rfl
    rw [World.heap_size_alloc'] at this
    exact this)
  rcases hb with rfl | rfl
  all_goals
   go_enter Tryz.func110, Tryz.ntmps110
   go_wp2_with go_big_skip
   go_ret2
   exact F.out
 ·have n1 : ¬ b = 60 := fun e => hb (.inl e)
  have n2 : ¬ b = 38 := fun e => hb (.inr e)
  have E1 : Hid (noneT b = [b]) := Hid.mk' (by unfold noneT; rw [if_neg hb])
  have E2 : Hid (noneH b = []) := Hid.mk' (by unfold noneH; rw [if_neg hb])
  have e1b : (b == 60) = false := by simp [n1]
  have e2b : (b == 38) = false := by simp [n2]
  have N0 := below_new w (.cells #[.int .u8 b] 5)
  have BA : BAt (w.alloc (.cells #[.int .u8 b] 5)) (some ⟨w.heap.size, 0, none⟩) [b] := .inr ⟨_, _, rfl, by simp, fun k hk => by
   obtain rfl : k = 0 := by simpa using hk
   simp [bv]⟩
  have KG := Hid.mk' (l5Go_any (some ⟨w.heap.size, 0, none⟩) 1 [b] _ BA (fun k hk => by
   obtain rfl : k = 0 := by simpa using hk
   exact ⟨h0, h1⟩) (by simp))
  have HN := Hid.mk' N0
  clear hb n1 n2 N0 BA
  go_enter Tryz.func110, Tryz.ntmps110
  go_wp2_with (first | go_big_skip | fail)
  refine KG.out.mono ?_
  rintro e w1 ⟨v, rfl, ho, hb⟩
  have F : Hid (FeedB (noneT b) (noneH b) w (.returned (.tuple #[v, .slice (some ⟨w1.heap.size, 0, none⟩) 0 0])) (w1.alloc (.cells #[] 5))) := Hid.mk' (by
   have hw1 : w.heap.size ≤ w1.heap.size := Nat.le_trans HN.out.size hb.size
   refine ⟨_, _, rfl, ?_, ?_, fun k e1 e2 => ?_, (HN.out.trans (hb.mono HN.out.size)).alloc hw1 _⟩
   ·rw [E1.out]
    have o2 : w1.ownsRow w.heap.size 107 5 v [b].length (tcs (bytesT [b]) (nils [b].length)) := by
     refine ⟨ho.1, ?_⟩
     rcases ho.2 with h | ⟨g, cap, cur, h1, h2, h3⟩
     ·exact .inl h
     ·exact .inr ⟨g, cap, cur, h1, Nat.le_trans HN.out.size h2, h3⟩
    exact o2.alloc _
   ·rw [E2.out]
    exact World.ownsRow_lit (base := w.heap.size) (e := 5) (size := 1) w1 #[] 0 hw1 (by unfold maxLen; omega) rfl
   ·have := (ho.lt k e1).2
    simp [Value.ownBlock] at e2
    omega)
  clear ho hb KG
  go_wp2
  go_ret2
  exact F.out
theorem own_down {w : World} {base base' : Nat} {e : TypeId} {size : Nat} {v : Value} {n : Nat} {xs : List Value} (h : w.ownsRow base e size v n xs) (hb : base' ≤ base) : w.ownsRow base' e size v n xs := by
 refine ⟨h.1, ?_⟩
 rcases h.2 with h | ⟨g, cap, cur, h1, h2, h3⟩
 ·exact .inl h
 ·exact .inr ⟨g, cap, cur, h1, Nat.le_trans hb h2, h3⟩
theorem own_src {w : World} {base : Nat} {e : TypeId} {size : Nat} {v : Value} {n : Nat} {xs : List Value} (h : w.ownsRow base e size v n xs) : ∃ a c, v = .slice a n c ∧ (n = 0 ∨ ∃ ad, a = some ad ∧ ∀ j u, xs[j]? = some u → w.cell? (ad.add j) = some u) := by
 have h2 := h.2
 rcases h2 with ⟨rfl, h0⟩ | ⟨g, cap, cur, rfl, _⟩
 ·subst h0; exact ⟨none, 0, rfl, .inl rfl⟩
 ·exact ⟨_, _, rfl, .inr ⟨_, rfl, h.cells rfl⟩⟩
theorem bytesT_app (l m : List Int) : tcs (bytesT (l ++ m)) (nils (l ++ m).length) = tcs (bytesT l) (nils l.length) ++ tcs (bytesT m) (nils m.length) := by
 have e1 : bytesT (l ++ m) = bytesT l ++ bytesT m := by simp [bytesT]
 have e2 : nils (l ++ m).length = nils l.length ++ nils m.length := by unfold nils; rw [List.length_append, List.replicate_append_replicate]
 rw [e1, e2, tcs_app _ _ _ _ (by rw [nils_len, bytesT_len])]
theorem nils_one (n : Nat) : ∀ u ∈ nils n, u.oneCell' = true := by
 intro u hu
 unfold nils at hu
 rw [List.mem_replicate] at hu
 rw [hu.2]; rfl
theorem feed_app {w w2 w3 w4 w5 : World} {l T H R N : List Int} {v4 v5 u3 : Value} (e1 : R = l ++ T) (e2 : N = H) (hb : Below w.heap.size w w2) (ou : w3.ownsRow w2.heap.size 5 1 u3 H.length (bcs H)) (b3 : Below w2.heap.size w2 w3)
  (o4 : w4.ownsRow w3.heap.size 107 5 v4 l.length (tcs (bytesT l) (nils l.length))) (b4 : Below w3.heap.size w3 w4)
  (o5 : w5.ownsRow w.heap.size 107 5 v5 (l.length + T.length) (tcs (bytesT l) (nils l.length) ++ tcs (bytesT T) (nils T.length))) (g5 : w4.grownBy w5 v4.ownBlock) (a5 : v5.ownBlock = v4.ownBlock ∨ v5.ownBlock = some w4.heap.size) :
  FeedB R N w (.returned (.tuple #[v5, u3])) w5 := by
 subst e1 e2
 have s2 := hb.size
 have s3 := b3.size
 have s4 := b4.size
 have B3 : Below w.heap.size w w3 := hb.trans (b3.mono s2)
 have B4 : Below w.heap.size w w4 := B3.trans (b4.mono (Nat.le_trans s2 s3))
 have ne : ∀ k, u3.ownBlock = some k → k < w3.heap.size := fun k hk => (ou.lt k hk).2
 have v4lo : ∀ k, v4.ownBlock = some k → w3.heap.size ≤ k := own_lo o4
 refine ⟨_, _, rfl, ?_, ?_, fun k h1 h2 => ?_, B4.grown g5 (by omega) (fun k hk => by have := v4lo k hk; omega)⟩
 ·rw [bytesT_app, List.length_append]; exact o5
 ·refine own_down ((own_keep ou b4).kept g5 ?_) s2
  cases hu : u3.ownBlock with
  | none => exact .inl rfl
  | some k => exact .inr (fun e => by have := ne k hu; have := v4lo k e.symm; omega)
 ·have := ne k h2
  rcases a5 with e | e
  ·rw [e] at h1; have := v4lo k h1; omega
  ·rw [e] at h1; injection h1 with h1; omega
theorem strI_size (l : List Int) : (strI l).size = l.length := by
 have : ∀ (l : List Int) (r : ByteArray), (l.foldl (fun r n => r.push (UInt8.ofNat n.toNat)) r).size = r.size + l.length := by
  intro l
  induction l with
  | nil => intro r; simp
  | cons x l ih => intro r; rw [List.foldl_cons, ih, ByteArray.size_push, List.length_cons]; omega
 have := this l ByteArray.empty
 unfold strI
 rw [this]
 simp
def Byt (l : List Int) : Prop := ∀ k, k < l.length → 0 ≤ l.getD k 0 ∧ l.getD k 0 ≤ 255
theorem Byt.snoc {l : List Int} (h : Byt l) (b : Nat) (hb : b ≤ 255) : Byt (l ++ [(b : Int)]) := by
 intro k hk
 simp only [List.length_append, List.length_cons, List.length_nil] at hk
 by_cases e : k < l.length
 ·have := h k e
  rw [List.getD_eq_getElem?_getD] at this ⊢
  rw [List.getElem?_append_left e]
  exact this
 ·have e : k = l.length := by omega
  subst e
  simp
  omega
theorem feed_go {w w2 w3 : World} {m T H : List Int} {v : Value} (e1 : T = m) (e2 : H = []) (hb : Below w.heap.size w w2) (ho : w3.ownsRow w2.heap.size 107 5 v m.length (tcs (bytesT m) (nils m.length))) (h3 : Below w2.heap.size w2 w3) :
  FeedB T H w (.returned (.tuple #[v, .slice (some ⟨w3.heap.size, 0, none⟩) 0 0])) (w3.alloc (.cells #[] 5)) := by
 subst e1 e2
 have hs : w.heap.size ≤ w3.heap.size := Nat.le_trans hb.size h3.size
 refine ⟨_, _, rfl, (own_down ho hb.size).alloc _, ?_, fun k e1 e2 => ?_, (hb.trans (h3.mono hb.size)).alloc hs _⟩
 ·exact World.ownsRow_lit (base := w.heap.size) (e := 5) (size := 1) w3 #[] 0 hs (by unfold maxLen; omega) rfl
 ·have := (ho.lt k e1).2
  simp [Value.ownBlock] at e2
  omega
theorem feed_hold {w w2 : World} {m T H : List Int} {v : Value} (e1 : T = []) (e2 : H = m) (hb : Below w.heap.size w w2) (ho : w2.ownsRow w.heap.size 5 1 v m.length (bcs m)) :
  FeedB T H w (.returned (.tuple #[.slice (some ⟨w2.heap.size, 0, none⟩) 0 0, v])) (w2.alloc (.cells #[] 107)) := by
 subst e1 e2
 refine ⟨_, _, rfl, ?_, ho.alloc _, fun k e1 e2 => ?_, hb.alloc hb.size _⟩
 ·exact World.ownsRow_lit (base := w.heap.size) (e := 107) (size := 5) w2 #[] 0 hb.size (by unfold maxLen; omega) rfl
 ·have := (ho.lt k e2).2
  simp [Value.ownBlock] at e1
  omega
def refB (b : Nat) : Bool := ltrB b || (decide (48 ≤ b) && decide (b ≤ 57)) || decide (b = 35)
def strU (l : List Int) : List UInt8 := (strI l).data.toList
def refT (l : List Int) (b : Nat) : List Int :=
 if b = 59 then (if (refOf (strU (l ++ [(b : Int)]))).2 = l.length + 1 then [((refOf (strU (l ++ [(b : Int)]))).1 : Int)] else l ++ [(b : Int)])
 else if refB b = true then (if 6 ≤ l.length + 1 then l ++ [(b : Int)] else [])
 else l ++ noneT b
def refH (l : List Int) (b : Nat) : List Int :=
 if b = 59 then [] else if refB b = true then (if 6 ≤ l.length + 1 then [] else l ++ [(b : Int)]) else noneH b
theorem l5Ref_a6 (a : Option Addr) (c : Nat) (l : List Int) (b : Nat) (w : World) (ha : BAt w a l) (hu : Byt l) (hl : l.length ≤ 200) (hb : b ≤ 255) (n59 : ¬ b = 59) (hr : ltrB b = true) (h6 : 6 ≤ l.length + 1) :
  Calls Tryz.prog 111 #[.slice a l.length c, .int .u8 b] w fun e w' => FeedB (refT l b) (refH l b) w e w' := by
 obtain ⟨m, hm⟩ : ∃ m, m = l ++ [(b : Int)] := ⟨_, rfl⟩
 have lm : m.length = l.length + 1 := by rw [hm]; simp
 have hum : Hid (Byt m) := Hid.mk' (by rw [hm]; exact hu.snoc b hb)
 have HM : Hid (bcs m = bcs l ++ [.int .u8 b]) := Hid.mk' (by rw [hm, bcs_append]; rfl)
 have n59' : ¬ (b : Int) = 59 := by omega
 have RB : refB b = true := by unfold refB; rw [hr]; rfl
 have E1 : Hid (refT l b = m) := Hid.mk' (by unfold refT; rw [if_neg n59, if_pos RB, if_pos h6]; exact hm.symm)
 have E2 : Hid (refH l b = []) := Hid.mk' (by unfold refH; rw [if_neg n59, if_pos RB, if_pos h6])
 have g6 : (m.length : Int) ≥ 6 := by omega
 have KL : Hid (∀ w, Calls Tryz.prog 120 #[.int .u8 b] w fun e w' => e = .returned (.bool true) ∧ w' = w) := Hid.mk' (fun w => by have := letter_any b w; rw [hr] at this; exact this)
 clear RB h6 n59 hr
 have KC := Hid.mk' (l1Copy_own a c l w ha (by omega))
 have HA := Hid.mk' ha
 have HU := Hid.mk' hu
 have LM := Hid.mk' lm
 clear ha hu hm lm
 go_enter Tryz.func111, Tryz.ntmps111
 go_wp2_with (first | go_big_skip | fail)
 refine KC.out.mono ?_
 rintro e w1 ⟨v, rfl, ho, hbl⟩
 have VB := below_new w1 (.cells #[.int .u8 b] 5)
 have OV := Hid.mk' (own_keep ho VB)
 have NC := Hid.mk' (new_cells' w1 5 [.int .u8 b] w1.heap.size rfl)
 have HB := Hid.mk' (hbl.trans (VB.mono hbl.size))
 have SZ := Hid.mk' HB.out.size
 have P1 : Hid (∀ u ∈ ([.int .u8 b] : List Value), u.oneCell' = true) := Hid.mk' (by
  intro u hu'
  simp only [List.mem_cons, List.not_mem_nil, or_false] at hu'
  subst hu'; rfl)
 clear ho hbl VB KC
 go_wp2_with (first | go_big_skip | (at_builtin; refine wpList_append_at _ rfl (.tmp 12) (.tmp 14) 22 rfl w.heap.size 5 (.int .u8 0) 1 1 Tryz.underlying22 Tryz.info5 rfl (by decide) _ _ _ rfl OV.out _ 1 _ [.int .u8 b] rfl rfl (.inr ⟨_, rfl, NC.out⟩) P1.out (by unfold maxLen; omega) (by omega) SZ.out ?_; intro v' w2 ho hgr hat; have OA : Hid (w2.ownsRow w.heap.size 5 1 v' m.length (bcs m)) := Hid.mk' (by rw [HM.out, LM.out]; exact ho); have BW := Hid.mk' (HB.out.grown hgr SZ.out (own_lo OV.out)); obtain ⟨aa, cc, rfl, ba⟩ := (OB.of_own OA.out).1.len; have BA := Hid.mk' ba; clear ho hgr hat ba) | (go_at_call 120; refine (KL.out _).mono ?_; rintro e9 w9 ⟨rfl, hw9⟩; subst hw9))
 refine (l5Go_any aa cc m _ BA.out hum.out (by have := LM.out; omega)).mono ?_
 rintro e w3 ⟨v3, rfl, o3, b3⟩
 have F := Hid.mk' (feed_go E1.out E2.out BW.out o3 b3)
 clear o3 b3
 go_wp2
 go_ret2
 exact F.out
theorem l5Ref_a0 (a : Option Addr) (c : Nat) (l : List Int) (b : Nat) (w : World) (ha : BAt w a l) (hu : Byt l) (hl : l.length ≤ 200) (hb : b ≤ 255) (n59 : ¬ b = 59) (hr : ltrB b = true) (h6 : ¬ 6 ≤ l.length + 1) :
  Calls Tryz.prog 111 #[.slice a l.length c, .int .u8 b] w fun e w' => FeedB (refT l b) (refH l b) w e w' := by
 obtain ⟨m, hm⟩ : ∃ m, m = l ++ [(b : Int)] := ⟨_, rfl⟩
 have lm : m.length = l.length + 1 := by rw [hm]; simp
 have hum : Hid (Byt m) := Hid.mk' (by rw [hm]; exact hu.snoc b hb)
 have HM : Hid (bcs m = bcs l ++ [.int .u8 b]) := Hid.mk' (by rw [hm, bcs_append]; rfl)
 have n59' : ¬ (b : Int) = 59 := by omega
 have RB : refB b = true := by unfold refB; rw [hr]; rfl
 have E1 : Hid (refT l b = []) := Hid.mk' (by unfold refT; rw [if_neg n59, if_pos RB, if_neg h6])
 have E2 : Hid (refH l b = m) := Hid.mk' (by unfold refH; rw [if_neg n59, if_pos RB, if_neg h6]; exact hm.symm)
 have g6 : ¬ (m.length : Int) ≥ 6 := by omega
 have KL : Hid (∀ w, Calls Tryz.prog 120 #[.int .u8 b] w fun e w' => e = .returned (.bool true) ∧ w' = w) := Hid.mk' (fun w => by have := letter_any b w; rw [hr] at this; exact this)
 clear RB h6 n59 hr
 have KC := Hid.mk' (l1Copy_own a c l w ha (by omega))
 have HA := Hid.mk' ha
 have HU := Hid.mk' hu
 have LM := Hid.mk' lm
 clear ha hu hm lm
 go_enter Tryz.func111, Tryz.ntmps111
 go_wp2_with (first | go_big_skip | fail)
 refine KC.out.mono ?_
 rintro e w1 ⟨v, rfl, ho, hbl⟩
 have VB := below_new w1 (.cells #[.int .u8 b] 5)
 have OV := Hid.mk' (own_keep ho VB)
 have NC := Hid.mk' (new_cells' w1 5 [.int .u8 b] w1.heap.size rfl)
 have HB := Hid.mk' (hbl.trans (VB.mono hbl.size))
 have SZ := Hid.mk' HB.out.size
 have P1 : Hid (∀ u ∈ ([.int .u8 b] : List Value), u.oneCell' = true) := Hid.mk' (by
  intro u hu'
  simp only [List.mem_cons, List.not_mem_nil, or_false] at hu'
  subst hu'; rfl)
 clear ho hbl VB KC
 go_wp2_with (first | go_big_skip | (at_builtin; refine wpList_append_at _ rfl (.tmp 12) (.tmp 14) 22 rfl w.heap.size 5 (.int .u8 0) 1 1 Tryz.underlying22 Tryz.info5 rfl (by decide) _ _ _ rfl OV.out _ 1 _ [.int .u8 b] rfl rfl (.inr ⟨_, rfl, NC.out⟩) P1.out (by unfold maxLen; omega) (by omega) SZ.out ?_; intro v' w2 ho hgr hat; have OA : Hid (w2.ownsRow w.heap.size 5 1 v' m.length (bcs m)) := Hid.mk' (by rw [HM.out, LM.out]; exact ho); have BW := Hid.mk' (HB.out.grown hgr SZ.out (own_lo OV.out)); obtain ⟨aa, cc, rfl, ba⟩ := (OB.of_own OA.out).1.len; have BA := Hid.mk' ba; clear ho hgr hat ba) | (go_at_call 120; refine (KL.out _).mono ?_; rintro e9 w9 ⟨rfl, hw9⟩; subst hw9))
 have F := Hid.mk' (feed_hold E1.out E2.out BW.out OA.out)
 go_ret2
 exact F.out
theorem l5Ref_b6 (a : Option Addr) (c : Nat) (l : List Int) (b : Nat) (w : World) (ha : BAt w a l) (hu : Byt l) (hl : l.length ≤ 200) (hb : b ≤ 255) (n59 : ¬ b = 59) (hr : ltrB b = false) (h48 : 48 ≤ b) (h57 : b ≤ 57) (h6 : 6 ≤ l.length + 1) :
  Calls Tryz.prog 111 #[.slice a l.length c, .int .u8 b] w fun e w' => FeedB (refT l b) (refH l b) w e w' := by
 obtain ⟨m, hm⟩ : ∃ m, m = l ++ [(b : Int)] := ⟨_, rfl⟩
 have lm : m.length = l.length + 1 := by rw [hm]; simp
 have hum : Hid (Byt m) := Hid.mk' (by rw [hm]; exact hu.snoc b hb)
 have HM : Hid (bcs m = bcs l ++ [.int .u8 b]) := Hid.mk' (by rw [hm, bcs_append]; rfl)
 have n59' : ¬ (b : Int) = 59 := by omega
 have RB : refB b = true := by unfold refB; rw [hr, decide_eq_true h48, decide_eq_true h57]; rfl
 have E1 : Hid (refT l b = m) := Hid.mk' (by unfold refT; rw [if_neg n59, if_pos RB, if_pos h6]; exact hm.symm)
 have E2 : Hid (refH l b = []) := Hid.mk' (by unfold refH; rw [if_neg n59, if_pos RB, if_pos h6])
 have g6 : (m.length : Int) ≥ 6 := by omega
 have KL : Hid (∀ w, Calls Tryz.prog 120 #[.int .u8 b] w fun e w' => e = .returned (.bool false) ∧ w' = w) := Hid.mk' (fun w => by have := letter_any b w; rw [hr] at this; exact this)
 have h48' : (b : Int) ≥ 48 := by omega
 have h57' : (b : Int) ≤ 57 := by omega
 clear RB h6 n59 hr
 have KC := Hid.mk' (l1Copy_own a c l w ha (by omega))
 have HA := Hid.mk' ha
 have HU := Hid.mk' hu
 have LM := Hid.mk' lm
 clear ha hu hm lm
 go_enter Tryz.func111, Tryz.ntmps111
 go_wp2_with (first | go_big_skip | fail)
 refine KC.out.mono ?_
 rintro e w1 ⟨v, rfl, ho, hbl⟩
 have VB := below_new w1 (.cells #[.int .u8 b] 5)
 have OV := Hid.mk' (own_keep ho VB)
 have NC := Hid.mk' (new_cells' w1 5 [.int .u8 b] w1.heap.size rfl)
 have HB := Hid.mk' (hbl.trans (VB.mono hbl.size))
 have SZ := Hid.mk' HB.out.size
 have P1 : Hid (∀ u ∈ ([.int .u8 b] : List Value), u.oneCell' = true) := Hid.mk' (by
  intro u hu'
  simp only [List.mem_cons, List.not_mem_nil, or_false] at hu'
  subst hu'; rfl)
 clear ho hbl VB KC
 go_wp2_with (first | go_big_skip | (at_builtin; refine wpList_append_at _ rfl (.tmp 12) (.tmp 14) 22 rfl w.heap.size 5 (.int .u8 0) 1 1 Tryz.underlying22 Tryz.info5 rfl (by decide) _ _ _ rfl OV.out _ 1 _ [.int .u8 b] rfl rfl (.inr ⟨_, rfl, NC.out⟩) P1.out (by unfold maxLen; omega) (by omega) SZ.out ?_; intro v' w2 ho hgr hat; have OA : Hid (w2.ownsRow w.heap.size 5 1 v' m.length (bcs m)) := Hid.mk' (by rw [HM.out, LM.out]; exact ho); have BW := Hid.mk' (HB.out.grown hgr SZ.out (own_lo OV.out)); obtain ⟨aa, cc, rfl, ba⟩ := (OB.of_own OA.out).1.len; have BA := Hid.mk' ba; clear ho hgr hat ba) | (go_at_call 120; refine (KL.out _).mono ?_; rintro e9 w9 ⟨rfl, hw9⟩; subst hw9))
 refine (l5Go_any aa cc m _ BA.out hum.out (by have := LM.out; omega)).mono ?_
 rintro e w3 ⟨v3, rfl, o3, b3⟩
 have F := Hid.mk' (feed_go E1.out E2.out BW.out o3 b3)
 clear o3 b3
 go_wp2
 go_ret2
 exact F.out
theorem l5Ref_b0 (a : Option Addr) (c : Nat) (l : List Int) (b : Nat) (w : World) (ha : BAt w a l) (hu : Byt l) (hl : l.length ≤ 200) (hb : b ≤ 255) (n59 : ¬ b = 59) (hr : ltrB b = false) (h48 : 48 ≤ b) (h57 : b ≤ 57) (h6 : ¬ 6 ≤ l.length + 1) :
  Calls Tryz.prog 111 #[.slice a l.length c, .int .u8 b] w fun e w' => FeedB (refT l b) (refH l b) w e w' := by
 obtain ⟨m, hm⟩ : ∃ m, m = l ++ [(b : Int)] := ⟨_, rfl⟩
 have lm : m.length = l.length + 1 := by rw [hm]; simp
 have hum : Hid (Byt m) := Hid.mk' (by rw [hm]; exact hu.snoc b hb)
 have HM : Hid (bcs m = bcs l ++ [.int .u8 b]) := Hid.mk' (by rw [hm, bcs_append]; rfl)
 have n59' : ¬ (b : Int) = 59 := by omega
 have RB : refB b = true := by unfold refB; rw [hr, decide_eq_true h48, decide_eq_true h57]; rfl
 have E1 : Hid (refT l b = []) := Hid.mk' (by unfold refT; rw [if_neg n59, if_pos RB, if_neg h6])
 have E2 : Hid (refH l b = m) := Hid.mk' (by unfold refH; rw [if_neg n59, if_pos RB, if_neg h6]; exact hm.symm)
 have g6 : ¬ (m.length : Int) ≥ 6 := by omega
 have KL : Hid (∀ w, Calls Tryz.prog 120 #[.int .u8 b] w fun e w' => e = .returned (.bool false) ∧ w' = w) := Hid.mk' (fun w => by have := letter_any b w; rw [hr] at this; exact this)
 have h48' : (b : Int) ≥ 48 := by omega
 have h57' : (b : Int) ≤ 57 := by omega
 clear RB h6 n59 hr
 have KC := Hid.mk' (l1Copy_own a c l w ha (by omega))
 have HA := Hid.mk' ha
 have HU := Hid.mk' hu
 have LM := Hid.mk' lm
 clear ha hu hm lm
 go_enter Tryz.func111, Tryz.ntmps111
 go_wp2_with (first | go_big_skip | fail)
 refine KC.out.mono ?_
 rintro e w1 ⟨v, rfl, ho, hbl⟩
 have VB := below_new w1 (.cells #[.int .u8 b] 5)
 have OV := Hid.mk' (own_keep ho VB)
 have NC := Hid.mk' (new_cells' w1 5 [.int .u8 b] w1.heap.size rfl)
 have HB := Hid.mk' (hbl.trans (VB.mono hbl.size))
 have SZ := Hid.mk' HB.out.size
 have P1 : Hid (∀ u ∈ ([.int .u8 b] : List Value), u.oneCell' = true) := Hid.mk' (by
  intro u hu'
  simp only [List.mem_cons, List.not_mem_nil, or_false] at hu'
  subst hu'; rfl)
 clear ho hbl VB KC
 go_wp2_with (first | go_big_skip | (at_builtin; refine wpList_append_at _ rfl (.tmp 12) (.tmp 14) 22 rfl w.heap.size 5 (.int .u8 0) 1 1 Tryz.underlying22 Tryz.info5 rfl (by decide) _ _ _ rfl OV.out _ 1 _ [.int .u8 b] rfl rfl (.inr ⟨_, rfl, NC.out⟩) P1.out (by unfold maxLen; omega) (by omega) SZ.out ?_; intro v' w2 ho hgr hat; have OA : Hid (w2.ownsRow w.heap.size 5 1 v' m.length (bcs m)) := Hid.mk' (by rw [HM.out, LM.out]; exact ho); have BW := Hid.mk' (HB.out.grown hgr SZ.out (own_lo OV.out)); obtain ⟨aa, cc, rfl, ba⟩ := (OB.of_own OA.out).1.len; have BA := Hid.mk' ba; clear ho hgr hat ba) | (go_at_call 120; refine (KL.out _).mono ?_; rintro e9 w9 ⟨rfl, hw9⟩; subst hw9))
 have F := Hid.mk' (feed_hold E1.out E2.out BW.out OA.out)
 go_ret2
 exact F.out
theorem l5Ref_c6 (a : Option Addr) (c : Nat) (l : List Int) (b : Nat) (w : World) (ha : BAt w a l) (hu : Byt l) (hl : l.length ≤ 200) (hb : b ≤ 255) (hr : ltrB b = false) (h35 : b = 35) (h6 : 6 ≤ l.length + 1) :
  Calls Tryz.prog 111 #[.slice a l.length c, .int .u8 b] w fun e w' => FeedB (refT l b) (refH l b) w e w' := by
 obtain ⟨m, hm⟩ : ∃ m, m = l ++ [(b : Int)] := ⟨_, rfl⟩
 have lm : m.length = l.length + 1 := by rw [hm]; simp
 have hum : Hid (Byt m) := Hid.mk' (by rw [hm]; exact hu.snoc b hb)
 have HM : Hid (bcs m = bcs l ++ [.int .u8 b]) := Hid.mk' (by rw [hm, bcs_append]; rfl)
 have n59 : ¬ b = 59 := by omega
 have RB : refB b = true := by unfold refB; rw [hr, decide_eq_true h35]; simp
 have E1 : Hid (refT l b = m) := Hid.mk' (by unfold refT; rw [if_neg n59, if_pos RB, if_pos h6]; exact hm.symm)
 have E2 : Hid (refH l b = []) := Hid.mk' (by unfold refH; rw [if_neg n59, if_pos RB, if_pos h6])
 have g6 : (m.length : Int) ≥ 6 := by omega
 have KL : Hid (∀ w, Calls Tryz.prog 120 #[.int .u8 b] w fun e w' => e = .returned (.bool false) ∧ w' = w) := Hid.mk' (fun w => by have := letter_any b w; rw [hr] at this; exact this)
 have h35' : ((b : Int) == 35) = true := by rw [beq_iff_eq]; omega
 have h48' : ¬ (b : Int) ≥ 48 := by omega
 have n59' : ¬ (b : Int) = 59 := by omega
 clear RB h6 n59 hr h35
 have KC := Hid.mk' (l1Copy_own a c l w ha (by omega))
 have HA := Hid.mk' ha
 have HU := Hid.mk' hu
 have LM := Hid.mk' lm
 clear ha hu hm lm
 go_enter Tryz.func111, Tryz.ntmps111
 go_wp2_with (first | go_big_skip | fail)
 refine KC.out.mono ?_
 rintro e w1 ⟨v, rfl, ho, hbl⟩
 have VB := below_new w1 (.cells #[.int .u8 b] 5)
 have OV := Hid.mk' (own_keep ho VB)
 have NC := Hid.mk' (new_cells' w1 5 [.int .u8 b] w1.heap.size rfl)
 have HB := Hid.mk' (hbl.trans (VB.mono hbl.size))
 have SZ := Hid.mk' HB.out.size
 have P1 : Hid (∀ u ∈ ([.int .u8 b] : List Value), u.oneCell' = true) := Hid.mk' (by
  intro u hu'
  simp only [List.mem_cons, List.not_mem_nil, or_false] at hu'
  subst hu'; rfl)
 clear ho hbl VB KC
 go_wp2_with (first | go_big_skip | (at_builtin; refine wpList_append_at _ rfl (.tmp 12) (.tmp 14) 22 rfl w.heap.size 5 (.int .u8 0) 1 1 Tryz.underlying22 Tryz.info5 rfl (by decide) _ _ _ rfl OV.out _ 1 _ [.int .u8 b] rfl rfl (.inr ⟨_, rfl, NC.out⟩) P1.out (by unfold maxLen; omega) (by omega) SZ.out ?_; intro v' w2 ho hgr hat; have OA : Hid (w2.ownsRow w.heap.size 5 1 v' m.length (bcs m)) := Hid.mk' (by rw [HM.out, LM.out]; exact ho); have BW := Hid.mk' (HB.out.grown hgr SZ.out (own_lo OV.out)); obtain ⟨aa, cc, rfl, ba⟩ := (OB.of_own OA.out).1.len; have BA := Hid.mk' ba; clear ho hgr hat ba) | (go_at_call 120; refine (KL.out _).mono ?_; rintro e9 w9 ⟨rfl, hw9⟩; subst hw9))
 refine (l5Go_any aa cc m _ BA.out hum.out (by have := LM.out; omega)).mono ?_
 rintro e w3 ⟨v3, rfl, o3, b3⟩
 have F := Hid.mk' (feed_go E1.out E2.out BW.out o3 b3)
 clear o3 b3
 go_wp2
 go_ret2
 exact F.out
theorem l5Ref_c0 (a : Option Addr) (c : Nat) (l : List Int) (b : Nat) (w : World) (ha : BAt w a l) (hu : Byt l) (hl : l.length ≤ 200) (hb : b ≤ 255) (hr : ltrB b = false) (h35 : b = 35) (h6 : ¬ 6 ≤ l.length + 1) :
  Calls Tryz.prog 111 #[.slice a l.length c, .int .u8 b] w fun e w' => FeedB (refT l b) (refH l b) w e w' := by
 obtain ⟨m, hm⟩ : ∃ m, m = l ++ [(b : Int)] := ⟨_, rfl⟩
 have lm : m.length = l.length + 1 := by rw [hm]; simp
 have hum : Hid (Byt m) := Hid.mk' (by rw [hm]; exact hu.snoc b hb)
 have HM : Hid (bcs m = bcs l ++ [.int .u8 b]) := Hid.mk' (by rw [hm, bcs_append]; rfl)
 have n59 : ¬ b = 59 := by omega
 have RB : refB b = true := by unfold refB; rw [hr, decide_eq_true h35]; simp
 have E1 : Hid (refT l b = []) := Hid.mk' (by unfold refT; rw [if_neg n59, if_pos RB, if_neg h6])
 have E2 : Hid (refH l b = m) := Hid.mk' (by unfold refH; rw [if_neg n59, if_pos RB, if_neg h6]; exact hm.symm)
 have g6 : ¬ (m.length : Int) ≥ 6 := by omega
 have KL : Hid (∀ w, Calls Tryz.prog 120 #[.int .u8 b] w fun e w' => e = .returned (.bool false) ∧ w' = w) := Hid.mk' (fun w => by have := letter_any b w; rw [hr] at this; exact this)
 have h35' : ((b : Int) == 35) = true := by rw [beq_iff_eq]; omega
 have h48' : ¬ (b : Int) ≥ 48 := by omega
 have n59' : ¬ (b : Int) = 59 := by omega
 clear RB h6 n59 hr h35
 have KC := Hid.mk' (l1Copy_own a c l w ha (by omega))
 have HA := Hid.mk' ha
 have HU := Hid.mk' hu
 have LM := Hid.mk' lm
 clear ha hu hm lm
 go_enter Tryz.func111, Tryz.ntmps111
 go_wp2_with (first | go_big_skip | fail)
 refine KC.out.mono ?_
 rintro e w1 ⟨v, rfl, ho, hbl⟩
 have VB := below_new w1 (.cells #[.int .u8 b] 5)
 have OV := Hid.mk' (own_keep ho VB)
 have NC := Hid.mk' (new_cells' w1 5 [.int .u8 b] w1.heap.size rfl)
 have HB := Hid.mk' (hbl.trans (VB.mono hbl.size))
 have SZ := Hid.mk' HB.out.size
 have P1 : Hid (∀ u ∈ ([.int .u8 b] : List Value), u.oneCell' = true) := Hid.mk' (by
  intro u hu'
  simp only [List.mem_cons, List.not_mem_nil, or_false] at hu'
  subst hu'; rfl)
 clear ho hbl VB KC
 go_wp2_with (first | go_big_skip | (at_builtin; refine wpList_append_at _ rfl (.tmp 12) (.tmp 14) 22 rfl w.heap.size 5 (.int .u8 0) 1 1 Tryz.underlying22 Tryz.info5 rfl (by decide) _ _ _ rfl OV.out _ 1 _ [.int .u8 b] rfl rfl (.inr ⟨_, rfl, NC.out⟩) P1.out (by unfold maxLen; omega) (by omega) SZ.out ?_; intro v' w2 ho hgr hat; have OA : Hid (w2.ownsRow w.heap.size 5 1 v' m.length (bcs m)) := Hid.mk' (by rw [HM.out, LM.out]; exact ho); have BW := Hid.mk' (HB.out.grown hgr SZ.out (own_lo OV.out)); obtain ⟨aa, cc, rfl, ba⟩ := (OB.of_own OA.out).1.len; have BA := Hid.mk' ba; clear ho hgr hat ba) | (go_at_call 120; refine (KL.out _).mono ?_; rintro e9 w9 ⟨rfl, hw9⟩; subst hw9))
 have F := Hid.mk' (feed_hold E1.out E2.out BW.out OA.out)
 go_ret2
 exact F.out
theorem l5Ref_d (a : Option Addr) (c : Nat) (l : List Int) (b : Nat) (w : World) (ha : BAt w a l) (hu : Byt l) (hl : l.length ≤ 200) (hb : b ≤ 255) (n59 : ¬ b = 59) (hr : ltrB b = false) (h48 : ¬ 48 ≤ b) (h35 : ¬ b = 35) :
  Calls Tryz.prog 111 #[.slice a l.length c, .int .u8 b] w fun e w' => FeedB (refT l b) (refH l b) w e w' := by
 obtain ⟨m, hm⟩ : ∃ m, m = l ++ [(b : Int)] := ⟨_, rfl⟩
 have lm : m.length = l.length + 1 := by rw [hm]; simp
 have hum : Hid (Byt m) := Hid.mk' (by rw [hm]; exact hu.snoc b hb)
 have HM : Hid (bcs m = bcs l ++ [.int .u8 b]) := Hid.mk' (by rw [hm, bcs_append]; rfl)
 have n59' : ¬ (b : Int) = 59 := by omega
 have h35' : ¬ (b : Int) = 35 := by omega
 have RB : ¬ refB b = true := by
  have : refB b = false := by unfold refB; rw [hr, decide_eq_false h48, decide_eq_false h35]; rfl
  rw [this]; simp
 have E1 : Hid (refT l b = l ++ noneT b) := Hid.mk' (by unfold refT; rw [if_neg n59, if_neg RB])
 have E2 : Hid (refH l b = noneH b) := Hid.mk' (by unfold refH; rw [if_neg n59, if_neg RB])
 have lT : (noneT (b : Int)).length ≤ 1 := by unfold noneT; split <;> simp
 have KL : Hid (∀ w, Calls Tryz.prog 120 #[.int .u8 b] w fun e w' => e = .returned (.bool false) ∧ w' = w) := Hid.mk' (fun w => by have := letter_any b w; rw [hr] at this; exact this)
 have h48' : ¬ (b : Int) ≥ 48 := by omega
 clear RB n59 hr h35 h48
 have KC := Hid.mk' (l1Copy_own a c l w ha (by omega))
 have HA := Hid.mk' ha
 have HU := Hid.mk' hu
 have LM := Hid.mk' lm
 clear ha hu hm lm
 go_enter Tryz.func111, Tryz.ntmps111
 go_wp2_with (first | go_big_skip | fail)
 refine KC.out.mono ?_
 rintro e w1 ⟨v, rfl, ho, hbl⟩
 have VB := below_new w1 (.cells #[.int .u8 b] 5)
 have OV := Hid.mk' (own_keep ho VB)
 have NC := Hid.mk' (new_cells' w1 5 [.int .u8 b] w1.heap.size rfl)
 have HB := Hid.mk' (hbl.trans (VB.mono hbl.size))
 have SZ := Hid.mk' HB.out.size
 have P1 : Hid (∀ u ∈ ([.int .u8 b] : List Value), u.oneCell' = true) := Hid.mk' (by
  intro u hu'
  simp only [List.mem_cons, List.not_mem_nil, or_false] at hu'
  subst hu'; rfl)
 clear ho hbl VB KC
 go_wp2_with (first | go_big_skip | (at_builtin; refine wpList_append_at _ rfl (.tmp 12) (.tmp 14) 22 rfl w.heap.size 5 (.int .u8 0) 1 1 Tryz.underlying22 Tryz.info5 rfl (by decide) _ _ _ rfl OV.out _ 1 _ [.int .u8 b] rfl rfl (.inr ⟨_, rfl, NC.out⟩) P1.out (by unfold maxLen; omega) (by omega) SZ.out ?_; intro v' w2 ho hgr hat; have OA : Hid (w2.ownsRow w.heap.size 5 1 v' m.length (bcs m)) := Hid.mk' (by rw [HM.out, LM.out]; exact ho); have BW := Hid.mk' (HB.out.grown hgr SZ.out (own_lo OV.out)); obtain ⟨aa, cc, rfl, ba⟩ := (OB.of_own OA.out).1.len; have BA := Hid.mk' ba; clear ho hgr hat ba) | (go_at_call 120; refine (KL.out _).mono ?_; rintro e9 w9 ⟨rfl, hw9⟩; subst hw9))
 refine (l5None_any b _ (by omega) (by omega)).mono ?_
 rintro e w3 ⟨v3, u3, rfl, o3, ou3, ap3, b3⟩
 obtain ⟨a3, c3, rfl, s3⟩ := own_src o3
 have B3 := Hid.mk' (BW.out.trans (b3.mono BW.out.size))
 have O3 := Hid.mk' (And.intro o3 (And.intro ou3 b3))
 have S3 := Hid.mk' s3
 have ln3 := tcs_len (bytesT (noneT (b : Int))) (nils (noneT (b : Int)).length) (by rw [nils_len, bytesT_len])
 rw [bytesT_len] at ln3
 have LN := Hid.mk' ln3
 have T1 := Hid.mk' (tcs_one (bytesT (noneT (b : Int))) (nils (noneT (b : Int)).length) (nils_one _))
 clear o3 ou3 ap3 b3 s3 ln3
 have KG := Hid.mk' (l5Go_any a c l w3 (HA.out.below B3.out) HU.out (by omega))
 go_wp2_with (first | go_big_skip | fail)
 refine KG.out.mono ?_
 rintro e w4 ⟨v4, rfl, o4, b4⟩
 have O4 := Hid.mk' (own_down o4 B3.out.size)
 have K4 := Hid.mk' (And.intro o4 b4)
 have S4 : Hid ((noneT (b : Int)).length = 0 ∨ ∃ ad, a3 = some ad ∧ ∀ j u, (tcs (bytesT (noneT (b : Int))) (nils (noneT (b : Int)).length))[j]? = some u → w4.cell? (ad.add j) = some u) := Hid.mk' (by
  obtain ⟨a3', c3', e3, s3⟩ := own_src (own_keep O3.out.1 b4)
  injection e3 with e3 _ _
  subst e3
  exact s3)
 have Z4 : Hid (w.heap.size ≤ w4.heap.size) := Hid.mk' (Nat.le_trans B3.out.size b4.size)
 clear o4 b4 KG
 go_wp2_with (first | go_big_skip | (at_builtin; refine wpList_append_at _ rfl (.tmp 64) (.tmp 65) 24 rfl w.heap.size 107 (.agg #[.int .i64 0, .int .i64 0, .string ⟨#[]⟩, .slice none 0 0, .bool false]) 5 64 Tryz.underlying24 Tryz.infoTok rfl (by decide) _ _ _ rfl O4.out a3 _ c3 (tcs (bytesT (noneT (b : Int))) (nils (noneT (b : Int)).length)) rfl LN.out S4.out T1.out (by unfold maxLen; omega) (by omega) Z4.out ?_; intro v5 w5 o5 g5 a5; have F := Hid.mk' (feed_app E1.out E2.out BW.out O3.out.2.1 O3.out.2.2 K4.out.1 K4.out.2 o5 g5 a5); clear o5 g5 a5))
 go_ret2
 exact F.out
theorem l5Ref_e (a : Option Addr) (c : Nat) (l : List Int) (b : Nat) (w : World) (ha : BAt w a l) (hu : Byt l) (hl : l.length ≤ 200) (hb : b ≤ 255) (n59 : ¬ b = 59) (hr : ltrB b = false) (h48 : 48 ≤ b) (h57 : ¬ b ≤ 57) (h35 : ¬ b = 35) :
  Calls Tryz.prog 111 #[.slice a l.length c, .int .u8 b] w fun e w' => FeedB (refT l b) (refH l b) w e w' := by
 obtain ⟨m, hm⟩ : ∃ m, m = l ++ [(b : Int)] := ⟨_, rfl⟩
 have lm : m.length = l.length + 1 := by rw [hm]; simp
 have hum : Hid (Byt m) := Hid.mk' (by rw [hm]; exact hu.snoc b hb)
 have HM : Hid (bcs m = bcs l ++ [.int .u8 b]) := Hid.mk' (by rw [hm, bcs_append]; rfl)
 have n59' : ¬ (b : Int) = 59 := by omega
 have h35' : ¬ (b : Int) = 35 := by omega
 have RB : ¬ refB b = true := by
  have : refB b = false := by unfold refB; rw [hr, decide_eq_true h48, decide_eq_false h57, decide_eq_false h35]; rfl
  rw [this]; simp
 have E1 : Hid (refT l b = l ++ noneT b) := Hid.mk' (by unfold refT; rw [if_neg n59, if_neg RB])
 have E2 : Hid (refH l b = noneH b) := Hid.mk' (by unfold refH; rw [if_neg n59, if_neg RB])
 have lT : (noneT (b : Int)).length ≤ 1 := by unfold noneT; split <;> simp
 have KL : Hid (∀ w, Calls Tryz.prog 120 #[.int .u8 b] w fun e w' => e = .returned (.bool false) ∧ w' = w) := Hid.mk' (fun w => by have := letter_any b w; rw [hr] at this; exact this)
 have h48' : (b : Int) ≥ 48 := by omega
 have h57' : ¬ (b : Int) ≤ 57 := by omega
 have e35b : ((b : Int) == 35) = false := by rw [beq_eq_false_iff_ne]; omega
 clear RB n59 hr h35 h48 h57
 have KC := Hid.mk' (l1Copy_own a c l w ha (by omega))
 have HA := Hid.mk' ha
 have HU := Hid.mk' hu
 have LM := Hid.mk' lm
 clear ha hu hm lm
 go_enter Tryz.func111, Tryz.ntmps111
 go_wp2_with (first | go_big_skip | fail)
 refine KC.out.mono ?_
 rintro e w1 ⟨v, rfl, ho, hbl⟩
 have VB := below_new w1 (.cells #[.int .u8 b] 5)
 have OV := Hid.mk' (own_keep ho VB)
 have NC := Hid.mk' (new_cells' w1 5 [.int .u8 b] w1.heap.size rfl)
 have HB := Hid.mk' (hbl.trans (VB.mono hbl.size))
 have SZ := Hid.mk' HB.out.size
 have P1 : Hid (∀ u ∈ ([.int .u8 b] : List Value), u.oneCell' = true) := Hid.mk' (by
  intro u hu'
  simp only [List.mem_cons, List.not_mem_nil, or_false] at hu'
  subst hu'; rfl)
 clear ho hbl VB KC
 go_wp2_with (first | go_big_skip | (at_builtin; refine wpList_append_at _ rfl (.tmp 12) (.tmp 14) 22 rfl w.heap.size 5 (.int .u8 0) 1 1 Tryz.underlying22 Tryz.info5 rfl (by decide) _ _ _ rfl OV.out _ 1 _ [.int .u8 b] rfl rfl (.inr ⟨_, rfl, NC.out⟩) P1.out (by unfold maxLen; omega) (by omega) SZ.out ?_; intro v' w2 ho hgr hat; have OA : Hid (w2.ownsRow w.heap.size 5 1 v' m.length (bcs m)) := Hid.mk' (by rw [HM.out, LM.out]; exact ho); have BW := Hid.mk' (HB.out.grown hgr SZ.out (own_lo OV.out)); obtain ⟨aa, cc, rfl, ba⟩ := (OB.of_own OA.out).1.len; have BA := Hid.mk' ba; clear ho hgr hat ba) | (go_at_call 120; refine (KL.out _).mono ?_; rintro e9 w9 ⟨rfl, hw9⟩; subst hw9))
 refine (l5None_any b _ (by omega) (by omega)).mono ?_
 rintro e w3 ⟨v3, u3, rfl, o3, ou3, ap3, b3⟩
 obtain ⟨a3, c3, rfl, s3⟩ := own_src o3
 have B3 := Hid.mk' (BW.out.trans (b3.mono BW.out.size))
 have O3 := Hid.mk' (And.intro o3 (And.intro ou3 b3))
 have S3 := Hid.mk' s3
 have ln3 := tcs_len (bytesT (noneT (b : Int))) (nils (noneT (b : Int)).length) (by rw [nils_len, bytesT_len])
 rw [bytesT_len] at ln3
 have LN := Hid.mk' ln3
 have T1 := Hid.mk' (tcs_one (bytesT (noneT (b : Int))) (nils (noneT (b : Int)).length) (nils_one _))
 clear o3 ou3 ap3 b3 s3 ln3
 have KG := Hid.mk' (l5Go_any a c l w3 (HA.out.below B3.out) HU.out (by omega))
 go_wp2_with (first | go_big_skip | fail)
 refine KG.out.mono ?_
 rintro e w4 ⟨v4, rfl, o4, b4⟩
 have O4 := Hid.mk' (own_down o4 B3.out.size)
 have K4 := Hid.mk' (And.intro o4 b4)
 have S4 : Hid ((noneT (b : Int)).length = 0 ∨ ∃ ad, a3 = some ad ∧ ∀ j u, (tcs (bytesT (noneT (b : Int))) (nils (noneT (b : Int)).length))[j]? = some u → w4.cell? (ad.add j) = some u) := Hid.mk' (by
  obtain ⟨a3', c3', e3, s3⟩ := own_src (own_keep O3.out.1 b4)
  injection e3 with e3 _ _
  subst e3
  exact s3)
 have Z4 : Hid (w.heap.size ≤ w4.heap.size) := Hid.mk' (Nat.le_trans B3.out.size b4.size)
 clear o4 b4 KG
 go_wp2_with (first | go_big_skip | (at_builtin; refine wpList_append_at _ rfl (.tmp 64) (.tmp 65) 24 rfl w.heap.size 107 (.agg #[.int .i64 0, .int .i64 0, .string ⟨#[]⟩, .slice none 0 0, .bool false]) 5 64 Tryz.underlying24 Tryz.infoTok rfl (by decide) _ _ _ rfl O4.out a3 _ c3 (tcs (bytesT (noneT (b : Int))) (nils (noneT (b : Int)).length)) rfl LN.out S4.out T1.out (by unfold maxLen; omega) (by omega) Z4.out ?_; intro v5 w5 o5 g5 a5; have F := Hid.mk' (feed_app E1.out E2.out BW.out O3.out.2.1 O3.out.2.2 K4.out.1 K4.out.2 o5 g5 a5); clear o5 g5 a5))
 go_ret2
 exact F.out
theorem l5Ref_f (a : Option Addr) (c : Nat) (l : List Int) (b : Nat) (w : World) (ha : BAt w a l) (hu : Byt l) (hl : l.length ≤ 200) (hb : b ≤ 255) (h59 : b = 59) (hx : (refOf (strU (l ++ [(b : Int)]))).2 = l.length + 1) :
  Calls Tryz.prog 111 #[.slice a l.length c, .int .u8 b] w fun e w' => FeedB (refT l b) (refH l b) w e w' := by
 obtain ⟨m, hm⟩ : ∃ m, m = l ++ [(b : Int)] := ⟨_, rfl⟩
 have lm : m.length = l.length + 1 := by rw [hm]; simp
 have hum : Hid (Byt m) := Hid.mk' (by rw [hm]; exact hu.snoc b hb)
 have HM : Hid (bcs m = bcs l ++ [.int .u8 b]) := Hid.mk' (by rw [hm, bcs_append]; rfl)
 have h59' : ((b : Int) == 59) = true := by rw [beq_iff_eq]; omega
 have E1 : Hid (refT l b = [((refOf (strU m)).1 : Int)]) := Hid.mk' (by unfold refT; rw [if_pos h59, if_pos hx, hm])
 have E2 : Hid (refH l b = []) := Hid.mk' (by unfold refH; rw [if_pos h59])
 rw [← hm, ← lm] at hx
 have ss : (strI m).size = m.length := strI_size m
 have KR := Hid.mk' (fun w => l2At_core (strI m) (strU m) rfl 0 w (by rw [ss]; omega) (by rw [ss]; omega))
 have r1b := refOf_byte (strU m)
 rw [List.drop_zero] at KR
 generalize (refOf (strU m)).1 = r1 at *
 generalize (refOf (strU m)).2 = r2 at *
 generalize hS : strI m = S at *
 have hx' : (r2 : Int) = (m.length : Int) := by omega
 clear hx h59 ss
 have KC := Hid.mk' (l1Copy_own a c l w ha (by omega))
 have HA := Hid.mk' ha
 have HU := Hid.mk' hu
 have LM := Hid.mk' lm
 clear ha hu hm lm
 go_enter Tryz.func111, Tryz.ntmps111
 go_wp2_with (first | go_big_skip | fail)
 refine KC.out.mono ?_
 rintro e w1 ⟨v, rfl, ho, hbl⟩
 have VB := below_new w1 (.cells #[.int .u8 b] 5)
 have OV := Hid.mk' (own_keep ho VB)
 have NC := Hid.mk' (new_cells' w1 5 [.int .u8 b] w1.heap.size rfl)
 have HB := Hid.mk' (hbl.trans (VB.mono hbl.size))
 have SZ := Hid.mk' HB.out.size
 have P1 : Hid (∀ u ∈ ([.int .u8 b] : List Value), u.oneCell' = true) := Hid.mk' (by
  intro u hu'
  simp only [List.mem_cons, List.not_mem_nil, or_false] at hu'
  subst hu'; rfl)
 clear ho hbl VB KC
 go_wp2_with (first | go_big_skip | (at_builtin; refine wpList_append_at _ rfl (.tmp 12) (.tmp 14) 22 rfl w.heap.size 5 (.int .u8 0) 1 1 Tryz.underlying22 Tryz.info5 rfl (by decide) _ _ _ rfl OV.out _ 1 _ [.int .u8 b] rfl rfl (.inr ⟨_, rfl, NC.out⟩) P1.out (by unfold maxLen; omega) (by omega) SZ.out ?_; intro v' w2 ho hgr hat; have OA : Hid (w2.ownsRow w.heap.size 5 1 v' m.length (bcs m)) := Hid.mk' (by rw [HM.out, LM.out]; exact ho); have BW := Hid.mk' (HB.out.grown hgr SZ.out (own_lo OV.out)); obtain ⟨aa, cc, rfl, ba⟩ := (OB.of_own OA.out).1.len; have BA := Hid.mk' ba; have hcv := conv_bytesT cc ba; rw [hS] at hcv; clear ho hgr hat ba) | (go_at_call 119; refine (KR.out _).mono ?_; rintro e9 w9 ⟨rfl, hw9⟩; subst hw9))
 have BA1 : BAt (w9.alloc (.cells #[.int .u8 (r1 : Int)] 5)) (some ⟨w9.heap.size, 0, none⟩) [(r1 : Int)] := .inr ⟨_, _, rfl, by simp, fun k hk => by
  obtain rfl : k = 0 := by simpa using hk
  simp [bv]⟩
 have BX := Hid.mk' (BW.out.alloc BW.out.size (.cells #[.int .u8 (r1 : Int)] 5))
 refine (l5Go_any (some ⟨w9.heap.size, 0, none⟩) 1 [(r1 : Int)] _ BA1 (fun k hk => by
  obtain rfl : k = 0 := by simpa using hk
  exact ⟨by simp, by simp; omega⟩) (by simp)).mono ?_
 rintro e w3 ⟨v3, rfl, o3, b3⟩
 have F := Hid.mk' (feed_go E1.out E2.out BX.out o3 b3)
 clear o3 b3 BA1
 go_wp2
 go_ret2
 exact F.out
theorem l5Ref_g (a : Option Addr) (c : Nat) (l : List Int) (b : Nat) (w : World) (ha : BAt w a l) (hu : Byt l) (hl : l.length ≤ 200) (hb : b ≤ 255) (h59 : b = 59) (hx : ¬ (refOf (strU (l ++ [(b : Int)]))).2 = l.length + 1) :
  Calls Tryz.prog 111 #[.slice a l.length c, .int .u8 b] w fun e w' => FeedB (refT l b) (refH l b) w e w' := by
 obtain ⟨m, hm⟩ : ∃ m, m = l ++ [(b : Int)] := ⟨_, rfl⟩
 have lm : m.length = l.length + 1 := by rw [hm]; simp
 have hum : Hid (Byt m) := Hid.mk' (by rw [hm]; exact hu.snoc b hb)
 have HM : Hid (bcs m = bcs l ++ [.int .u8 b]) := Hid.mk' (by rw [hm, bcs_append]; rfl)
 have h59' : ((b : Int) == 59) = true := by rw [beq_iff_eq]; omega
 have E1 : Hid (refT l b = m) := Hid.mk' (by unfold refT; rw [if_pos h59, if_neg hx]; exact hm.symm)
 have E2 : Hid (refH l b = []) := Hid.mk' (by unfold refH; rw [if_pos h59])
 rw [← hm, ← lm] at hx
 have ss : (strI m).size = m.length := strI_size m
 have KR := Hid.mk' (fun w => l2At_core (strI m) (strU m) rfl 0 w (by rw [ss]; omega) (by rw [ss]; omega))
 have r1b := refOf_byte (strU m)
 rw [List.drop_zero] at KR
 generalize (refOf (strU m)).1 = r1 at *
 generalize (refOf (strU m)).2 = r2 at *
 generalize hS : strI m = S at *
 have hx' : ¬ (r2 : Int) = (m.length : Int) := by omega
 clear hx h59 ss
 have KC := Hid.mk' (l1Copy_own a c l w ha (by omega))
 have HA := Hid.mk' ha
 have HU := Hid.mk' hu
 have LM := Hid.mk' lm
 clear ha hu hm lm
 go_enter Tryz.func111, Tryz.ntmps111
 go_wp2_with (first | go_big_skip | fail)
 refine KC.out.mono ?_
 rintro e w1 ⟨v, rfl, ho, hbl⟩
 have VB := below_new w1 (.cells #[.int .u8 b] 5)
 have OV := Hid.mk' (own_keep ho VB)
 have NC := Hid.mk' (new_cells' w1 5 [.int .u8 b] w1.heap.size rfl)
 have HB := Hid.mk' (hbl.trans (VB.mono hbl.size))
 have SZ := Hid.mk' HB.out.size
 have P1 : Hid (∀ u ∈ ([.int .u8 b] : List Value), u.oneCell' = true) := Hid.mk' (by
  intro u hu'
  simp only [List.mem_cons, List.not_mem_nil, or_false] at hu'
  subst hu'; rfl)
 clear ho hbl VB KC
 go_wp2_with (first | go_big_skip | (at_builtin; refine wpList_append_at _ rfl (.tmp 12) (.tmp 14) 22 rfl w.heap.size 5 (.int .u8 0) 1 1 Tryz.underlying22 Tryz.info5 rfl (by decide) _ _ _ rfl OV.out _ 1 _ [.int .u8 b] rfl rfl (.inr ⟨_, rfl, NC.out⟩) P1.out (by unfold maxLen; omega) (by omega) SZ.out ?_; intro v' w2 ho hgr hat; have OA : Hid (w2.ownsRow w.heap.size 5 1 v' m.length (bcs m)) := Hid.mk' (by rw [HM.out, LM.out]; exact ho); have BW := Hid.mk' (HB.out.grown hgr SZ.out (own_lo OV.out)); obtain ⟨aa, cc, rfl, ba⟩ := (OB.of_own OA.out).1.len; have BA := Hid.mk' ba; have hcv := conv_bytesT cc ba; rw [hS] at hcv; clear ho hgr hat ba) | (go_at_call 119; refine (KR.out _).mono ?_; rintro e9 w9 ⟨rfl, hw9⟩; subst hw9))
 refine (l5Go_any aa cc m _ BA.out hum.out (by have := LM.out; omega)).mono ?_
 rintro e w3 ⟨v3, rfl, o3, b3⟩
 have F := Hid.mk' (feed_go E1.out E2.out BW.out o3 b3)
 clear o3 b3
 go_wp2
 go_ret2
 exact F.out
theorem l5Ref_any (a : Option Addr) (c : Nat) (l : List Int) (b : Nat) (w : World) (ha : BAt w a l) (hu : Byt l) (hl : l.length ≤ 200) (hb : b ≤ 255) :
  Calls Tryz.prog 111 #[.slice a l.length c, .int .u8 b] w fun e w' => FeedB (refT l b) (refH l b) w e w' := by
 by_cases n59 : b = 59
 ·by_cases hx : (refOf (strU (l ++ [(b : Int)]))).2 = l.length + 1
  ·exact l5Ref_f a c l b w ha hu hl hb n59 hx
  ·exact l5Ref_g a c l b w ha hu hl hb n59 hx
 ·cases hr : ltrB b with
  | true =>
   by_cases h6 : 6 ≤ l.length + 1
   ·exact l5Ref_a6 a c l b w ha hu hl hb n59 hr h6
   ·exact l5Ref_a0 a c l b w ha hu hl hb n59 hr h6
  | false =>
   by_cases h35 : b = 35
   ·by_cases h6 : 6 ≤ l.length + 1
    ·exact l5Ref_c6 a c l b w ha hu hl hb hr h35 h6
    ·exact l5Ref_c0 a c l b w ha hu hl hb hr h35 h6
   ·by_cases h48 : 48 ≤ b
    ·by_cases h57 : b ≤ 57
     ·by_cases h6 : 6 ≤ l.length + 1
      ·exact l5Ref_b6 a c l b w ha hu hl hb n59 hr h48 h57 h6
      ·exact l5Ref_b0 a c l b w ha hu hl hb n59 hr h48 h57 h6
     ·exact l5Ref_e a c l b w ha hu hl hb n59 hr h48 h57 h35
    ·exact l5Ref_d a c l b w ha hu hl hb n59 hr h48 h35
def tkK (l : List TK) (k : Nat) : TK := l.getD k ⟨0, 0, ⟨#[]⟩, [], false⟩
def TsAt (w : World) (a : Option Addr) (l : List TK) : Prop :=
 l = [] ∨ ∃ b o, a = some ⟨b, o, none⟩ ∧ b < w.heap.size ∧ ∀ k, k < l.length → w.cell? ⟨b, o + k * 5, none⟩ = some (.int .i64 (tkK l k).kd) ∧ w.cell? ⟨b, o + k * 5 + 1, none⟩ = some (.int .i64 (tkK l k).by_) ∧ w.cell? ⟨b, o + k * 5 + 2, none⟩ = some (.string (tkK l k).nm) ∧ (∃ p c, w.cell? ⟨b, o + k * 5 + 3, none⟩ = some (.slice p (tkK l k).at_.length c) ∧ AAt w p (tkK l k).at_) ∧ w.cell? ⟨b, o + k * 5 + 4, none⟩ = some (.bool (tkK l k).sh)
theorem TsAt.below {w w' : World} {a : Option Addr} {l : List TK} (h : TsAt w a l) (hb : Below w.heap.size w w') : TsAt w' a l := by
 rcases h with h | ⟨b, o, e, hs, hc⟩
 ·exact .inl h
 ·refine .inr ⟨b, o, e, Nat.lt_of_lt_of_le hs hb.size, fun k hk => ?_⟩
  obtain ⟨h1, h2, h3, ⟨p, c, h4, h5⟩, h6⟩ := hc k hk
  exact ⟨(hb.cell hs).trans h1, (hb.cell hs).trans h2, (hb.cell hs).trans h3, ⟨p, c, (hb.cell hs).trans h4, h5.below hb⟩, (hb.cell hs).trans h6⟩
def tsz (t : TK) : Nat := t.nm.size + t.at_.length + asz t.at_
def tssz : List TK → Nat
 | [] => 0
 | x :: r => tsz x + tssz r
theorem tssz_take (l : List TK) : ∀ k, k < l.length → tssz (l.take (k + 1)) = tssz (l.take k) + tsz (tkK l k) := by
 induction l with
 | nil => intro k h; exact absurd h (Nat.not_lt_zero _)
 | cons x r ih =>
  intro k hk
  cases k with
  | zero => simp [tssz, tkK]
  | succ k =>
   have := ih k (by simpa using hk)
   simp only [List.take_succ_cons, tssz]
   rw [this]
   have e : tkK (x :: r) (k + 1) = tkK r k := by simp [tkK]
   rw [e]; omega
theorem tssz_le (l : List TK) (k : Nat) : tssz (l.take k) ≤ tssz l := by
 induction l generalizing k with
 | nil => simp [tssz]
 | cons x r ih =>
  cases k with
  | zero => simp [tssz]
  | succ k => simp only [List.take_succ_cons, tssz]; have := ih k; omega
theorem tkK_left {l m : List TK} {j : Nat} (h : j < l.length) : tkK (l ++ m) j = tkK l j := by simp [tkK, List.getD_eq_getElem?_getD, List.getElem?_append_left h]
theorem tkK_right {l m : List TK} {j : Nat} (h : ¬ j < l.length) : tkK (l ++ m) j = tkK m (j - l.length) := by simp [tkK, List.getD_eq_getElem?_getD, List.getElem?_append_right (Nat.le_of_not_lt h)]
theorem usK_left {l m : List Value} {j : Nat} (h : j < l.length) : (l ++ m).getD j undef = l.getD j undef := by simp [List.getD_eq_getElem?_getD, List.getElem?_append_left h]
theorem usK_right {l m : List Value} {j : Nat} (h : ¬ j < l.length) : (l ++ m).getD j undef = m.getD (j - l.length) undef := by simp [List.getD_eq_getElem?_getD, List.getElem?_append_right (Nat.le_of_not_lt h)]
structure TA (lo hi : Nat) (w : World) (ts : List TK) (us : List Value) (rs : Nat → List Value) (bl bh : Nat → Nat) : Prop where
 len : us.length = ts.length
 one : ∀ u ∈ us, u.oneCell' = true
 att : ∀ j, j < ts.length → OA (bl j) w (us.getD j undef) (tkK ts j).at_ (rs j)
 low : ∀ j, j < ts.length → lo ≤ bl j
 mid : ∀ j, j < ts.length → bl j ≤ bh j
 top : ∀ j, j < ts.length → bh j ≤ hi
 hia : ∀ j, j < ts.length → ∀ k, (us.getD j undef).ownBlock = some k → k < bh j
 hiu : ∀ j, j < ts.length → ∀ i, i < (tkK ts j).at_.length → ∀ k, ((rs j).getD i undef).ownBlock = some k → k < bh j
 ord : ∀ i j, i < j → j < ts.length → bh i ≤ bl j
theorem TA.nil (lo hi : Nat) (w : World) : TA lo hi w [] [] (fun _ => []) (fun _ => 0) (fun _ => 0) :=
 ⟨rfl, fun u h => (by cases h), fun j h => absurd h (Nat.not_lt_zero _), fun j h => absurd h (Nat.not_lt_zero _), fun j h => absurd h (Nat.not_lt_zero _), fun j h => absurd h (Nat.not_lt_zero _), fun j h => absurd h (Nat.not_lt_zero _), fun j h => absurd h (Nat.not_lt_zero _), fun i j _ h => absurd h (Nat.not_lt_zero _)⟩
theorem bytesT_at (l : List Int) (j : Nat) (h : j < l.length) : tkK (bytesT l) j = byteT (l.getD j 0) := by
 unfold tkK bytesT
 simp [List.getD_eq_getElem?_getD, h]
theorem nils_at {n j : Nat} (h : j < n) : (nils n).getD j undef = .slice none 0 0 := by
 unfold nils
 simp [List.getD_eq_getElem?_getD, List.getElem?_replicate, h]
theorem TA.bytes (m : Nat) (w : World) (l : List Int) : TA m m w (bytesT l) (nils l.length) (fun _ => []) (fun _ => m) (fun _ => m) := by
 have e : ∀ j, j < (bytesT l).length → (nils l.length).getD j undef = .slice none 0 0 := fun j hj => nils_at (by rw [bytesT_len] at hj; exact hj)
 refine ⟨by rw [nils_len, bytesT_len], nils_one _, fun j hj => ?_, fun _ _ => Nat.le_refl _, fun _ _ => Nat.le_refl _, fun _ _ => Nat.le_refl _, fun j hj k ek => ?_, fun j hj i hi k ek => ?_, fun _ _ _ _ => Nat.le_refl _⟩
 ·rw [e j hj, bytesT_at l j (by rw [bytesT_len] at hj; exact hj)]; exact OA.nil _ _
 ·rw [e j hj] at ek; simp [Value.ownBlock] at ek
 ·rw [bytesT_at l j (by rw [bytesT_len] at hj; exact hj)] at hi
  exact absurd hi (Nat.not_lt_zero _)
theorem TA.one_tag {lo hi : Nat} {w : World} {t : TK} {va : Value} {rs : List Value} (h : OA lo w va t.at_ rs) (hl : lo ≤ hi) (h1 : ∀ k, va.ownBlock = some k → k < hi) (h2 : ∀ i, i < t.at_.length → ∀ k, (rs.getD i undef).ownBlock = some k → k < hi) : TA lo hi w [t] [va] (fun _ => rs) (fun _ => lo) (fun _ => hi) := by
 have e0 : ∀ j, j < [t].length → j = 0 := fun j hj => by simp at hj; exact hj
 refine ⟨rfl, fun u hu => ?_, fun j hj => ?_, fun _ _ => Nat.le_refl _, fun _ _ => hl, fun _ _ => Nat.le_refl _, fun j hj k ek => ?_, fun j hj i hi k ek => ?_, fun i j hij hj => ?_⟩
 ·rw [List.mem_singleton] at hu
  obtain ⟨a, c, e, _⟩ := h.at
  rw [hu, e]; rfl
 ·obtain rfl := e0 j hj; exact h
 ·obtain rfl := e0 j hj; exact h1 k ek
 ·obtain rfl := e0 j hj; exact h2 i hi k ek
 ·have := e0 j hj; omega
theorem TA.keep {lo hi : Nat} {w w' : World} {ts : List TK} {us : List Value} {rs : Nat → List Value} {bl bh : Nat → Nat} (h : TA lo hi w ts us rs bl bh) (hk : ∀ j, j < ts.length → ∀ k, bl j ≤ k → k < bh j → k < w.heap.size → w'.heap[k]? = w.heap[k]?) : TA lo hi w' ts us rs bl bh := by
 refine ⟨h.len, h.one, fun j hj => ?_, h.low, h.mid, h.top, h.hia, h.hiu, h.ord⟩
 have o := h.att j hj
 exact ⟨o.len, own_of o.row (Nat.le_refl _) (fun k e hl => hk j hj k hl (h.hia j hj k e) (o.row.lt k e).2), fun i hi => (o.val i hi).keep (fun k e hl => hk j hj k (o.vlo i hi k e) (h.hiu j hj i hi k e) hl), o.vlo, o.ap, o.av⟩
theorem TA.below {lo hi : Nat} {w w' : World} {ts : List TK} {us : List Value} {rs : Nat → List Value} {bl bh : Nat → Nat} (h : TA lo hi w ts us rs bl bh) (hb : Below w.heap.size w w') : TA lo hi w' ts us rs bl bh := h.keep (fun j hj k _ _ hl => hb.block k hl)
theorem TA.widen {lo hi lo' hi' : Nat} {w : World} {ts : List TK} {us : List Value} {rs : Nat → List Value} {bl bh : Nat → Nat} (h : TA lo hi w ts us rs bl bh) (h1 : lo' ≤ lo) (h2 : hi ≤ hi') : TA lo' hi' w ts us rs bl bh :=
 ⟨h.len, h.one, h.att, fun j hj => Nat.le_trans h1 (h.low j hj), h.mid, fun j hj => Nat.le_trans (h.top j hj) h2, h.hia, h.hiu, h.ord⟩
def thenN {α : Type} (n : Nat) (f g : Nat → α) (j : Nat) : α := if j < n then f j else g (j - n)
theorem thenN_l {α : Type} {n : Nat} {f g : Nat → α} {j : Nat} (h : j < n) : thenN n f g j = f j := if_pos h
theorem thenN_r {α : Type} {n : Nat} {f g : Nat → α} {j : Nat} (h : ¬ j < n) : thenN n f g j = g (j - n) := if_neg h
theorem TA.app {lo mi hi : Nat} {w : World} {ts ts1 : List TK} {us us1 : List Value} {rs rs1 : Nat → List Value} {bl bh bl1 bh1 : Nat → Nat} (h : TA lo mi w ts us rs bl bh) (k : TA mi hi w ts1 us1 rs1 bl1 bh1) (hm : lo ≤ mi) (hh : mi ≤ hi) :
  TA lo hi w (ts ++ ts1) (us ++ us1) (thenN ts.length rs rs1) (thenN ts.length bl bl1) (thenN ts.length bh bh1) := by
 have hl := h.len
 have sp : ∀ j, j < (ts ++ ts1).length → ¬ j < ts.length → j - ts.length < ts1.length := fun j hj hn => by rw [List.length_append] at hj; omega
 refine ⟨by rw [List.length_append, List.length_append, h.len, k.len], fun u hu => ?_, fun j hj => ?_, fun j hj => ?_, fun j hj => ?_, fun j hj => ?_, fun j hj x e => ?_, fun j hj i hi x e => ?_, fun i j hij hj => ?_⟩
 ·rcases List.mem_append.1 hu with hu | hu
  ·exact h.one u hu
  ·exact k.one u hu
 ·by_cases c : j < ts.length
  ·rw [thenN_l c, thenN_l c, tkK_left c, usK_left (by omega)]; exact h.att j c
  ·rw [thenN_r c, thenN_r c, tkK_right c, usK_right (by omega), hl]; exact k.att _ (sp j hj c)
 ·by_cases c : j < ts.length
  ·rw [thenN_l c]; exact h.low j c
  ·rw [thenN_r c]; have := k.low _ (sp j hj c); omega
 ·by_cases c : j < ts.length
  ·rw [thenN_l c, thenN_l c]; exact h.mid j c
  ·rw [thenN_r c, thenN_r c]; exact k.mid _ (sp j hj c)
 ·by_cases c : j < ts.length
  ·rw [thenN_l c]; have := h.top j c; omega
  ·rw [thenN_r c]; exact k.top _ (sp j hj c)
 ·by_cases c : j < ts.length
  ·rw [usK_left (by omega)] at e; rw [thenN_l c]; exact h.hia j c x e
  ·rw [usK_right (by omega), hl] at e; rw [thenN_r c]; exact k.hia _ (sp j hj c) x e
 ·by_cases c : j < ts.length
  ·rw [thenN_l c] at e; rw [tkK_left c] at hi; rw [thenN_l c]; exact h.hiu j c i hi x e
  ·rw [thenN_r c] at e; rw [tkK_right c] at hi; rw [thenN_r c]; exact k.hiu _ (sp j hj c) i hi x e
 ·by_cases c : j < ts.length
  ·rw [thenN_l (show i < ts.length by omega), thenN_l c]; exact h.ord i j hij c
  ·rw [thenN_r c]
   by_cases d : i < ts.length
   ·rw [thenN_l d]; have := h.top i d; have := k.low _ (sp j hj c); omega
   ·rw [thenN_r d]; exact k.ord _ _ (by omega) (sp j hj c)
structure LX (lo g : Nat) (w : World) (hv tv : Value) (hs : List Int) (ts : List TK) (us : List Value) (rs : Nat → List Value) (bl bh : Nat → Nat) : Prop where
 box : w.rowIs g 121 2 (q2 hv tv)
 held : w.ownsRow lo 5 1 hv hs.length (bcs hs)
 row : w.ownsRow lo 107 5 tv ts.length (tcs ts us)
 ta : TA lo w.heap.size w ts us rs bl bh
 lg : lo ≤ g
 gh : hv.ownBlock ≠ some g
 gt : tv.ownBlock ≠ some g
 ga : ∀ j, j < ts.length → g < bl j ∨ bh j ≤ g
 vt : ∀ j, j < ts.length → ∀ k, tv.ownBlock = some k → k < bl j ∨ bh j ≤ k
 vh : ∀ j, j < ts.length → ∀ k, hv.ownBlock = some k → k < bl j ∨ bh j ≤ k
 ap : Ap hv tv
def LXs (lo g : Nat) (w : World) (hs : List Int) (ts : List TK) : Prop := ∃ hv tv us rs bl bh, LX lo g w hv tv hs ts us rs bl bh
theorem LX.below {lo g : Nat} {w w' : World} {hv tv : Value} {hs : List Int} {ts : List TK} {us : List Value} {rs : Nat → List Value} {bl bh : Nat → Nat} (h : LX lo g w hv tv hs ts us rs bl bh) (hb : Below w.heap.size w w') : LX lo g w' hv tv hs ts us rs bl bh :=
 ⟨rowB h.box hb, own_keep h.held hb, own_keep h.row hb, (h.ta.below hb).widen (Nat.le_refl _) hb.size, h.lg, h.gh, h.gt, h.ga, h.vt, h.vh, h.ap⟩
theorem LX.lt {lo g : Nat} {w : World} {hv tv : Value} {hs : List Int} {ts : List TK} {us : List Value} {rs : Nat → List Value} {bl bh : Nat → Nat} (h : LX lo g w hv tv hs ts us rs bl bh) : g < w.heap.size := h.box.lt
theorem LX.tell {lo g : Nat} {w w1 w2 : World} {hv tv tv' : Value} {hs : List Int} {ts ts1 : List TK} {us us1 : List Value} {rs rs1 : Nat → List Value} {bl bh bl1 bh1 : Nat → Nat} (h : LX lo g w hv tv hs ts us rs bl bh) (h1 : Below w.heap.size w w1) (k : TA w.heap.size w1.heap.size w1 ts1 us1 rs1 bl1 bh1)
  (ho : w2.ownsRow lo 107 5 tv' (ts.length + ts1.length) (tcs ts us ++ tcs ts1 us1)) (hg : w1.grownBy w2 tv.ownBlock) (e : tv'.ownBlock = tv.ownBlock ∨ tv'.ownBlock = some w1.heap.size) :
  LX lo g (w2.setCell ⟨g, 1, none⟩ tv') hv tv' hs (ts ++ ts1) (us ++ us1) (thenN ts.length rs rs1) (thenN ts.length bl bl1) (thenN ts.length bh bh1) := by
 have s1 := h1.size
 have s2 := hg.size
 have gl := h.lt
 have lg := h.lg
 have told : ∀ x, tv.ownBlock = some x → (lo ≤ x ∧ x < w.heap.size) ∧ x ≠ g := fun x e => ⟨h.row.lt x e, fun e2 => h.gt (e2 ▸ e)⟩
 have hold : ∀ x, hv.ownBlock = some x → (lo ≤ x ∧ x < w.heap.size) ∧ x ≠ g := fun x e => ⟨h.held.lt x e, fun e2 => h.gh (e2 ▸ e)⟩
 have kp : ∀ x, x < w.heap.size → some x ≠ tv.ownBlock → x ≠ g → (w2.setCell ⟨g, 1, none⟩ tv').heap[x]? = w.heap[x]? := fun x hx hn hgx => by
  rw [Deep.blk_setCell_other _ _ _ _ hgx, hg.block x (by omega) hn, h1.block x hx]
 have kp1 : ∀ x, w.heap.size ≤ x → x < w1.heap.size → (w2.setCell ⟨g, 1, none⟩ tv').heap[x]? = w1.heap[x]? := fun x hx hy => by
  rw [Deep.blk_setCell_other _ _ _ _ (by show x ≠ g; omega), hg.block x hy (fun e => by have := told x e.symm; omega)]
 have gt' : tv'.ownBlock ≠ some g := fun ex => by
  rcases e with e | e
  ·exact h.gt (e ▸ ex)
  ·rw [e] at ex; injection ex with ex; omega
 have bx : w2.rowIs g 121 2 (q2 hv tv) := h.box.of_block (by rw [hg.block g (by omega) (fun e => by have := told g e.symm; omega), h1.block g gl])
 refine ⟨?_, own_of h.held (Nat.le_refl _) (fun x ex _ => kp x (hold x ex).1.2 (fun e2 => h.ap x ex e2.symm) (by have := hold x ex; omega)), ?_, ?_, lg, h.gh, gt', fun j hj => ?_, fun j hj x ex => ?_, fun j hj x ex => ?_, fun x ex ey => ?_⟩
 ·refine (bx.set 1 tv').congr (fun i hi => ?_)
  have : i = 0 ∨ i = 1 := by omega
  rcases this with rfl | rfl <;> simp [q2]
 ·rw [tcs_app _ _ _ _ h.ta.len, List.length_append]
  exact own_of ho (Nat.le_refl _) (fun x ex hx => Deep.blk_setCell_other _ _ _ _ (fun (e2 : x = g) => gt' (e2 ▸ ex)))
 ·refine (TA.app (h.ta.keep (fun j hj x hx1 hx2 hx3 => ?_)) (k.keep (fun j hj x hx1 hx2 hx3 => ?_)) (by omega) s1).widen (Nat.le_refl _) (by simpa [World.setCell] using s2)
  ·exact kp x hx3 (fun e2 => by have := h.vt j hj x e2.symm; omega) (by have := h.ga j hj; omega)
  ·exact kp1 x (by have := k.low j hj; omega) hx3
 ·by_cases c : j < ts.length
  ·rw [thenN_l c, thenN_l c]; exact h.ga j c
  ·have hj' : j - ts.length < ts1.length := by rw [List.length_append] at hj; omega
   rw [thenN_r c, thenN_r c]; have := k.low _ hj'; omega
 ·by_cases c : j < ts.length
  ·rw [thenN_l c, thenN_l c]
   rcases e with e | e
   ·exact h.vt j c x (e ▸ ex)
   ·rw [e] at ex; cases ex; have := h.ta.top j c; omega
  ·have hj' : j - ts.length < ts1.length := by rw [List.length_append] at hj; omega
   rw [thenN_r c, thenN_r c]
   rcases e with e | e
   ·rw [e] at ex; have := told x ex; have := k.low _ hj'; omega
   ·rw [e] at ex; cases ex; have := k.top _ hj'; omega
 ·by_cases c : j < ts.length
  ·rw [thenN_l c, thenN_l c]; exact h.vh j c x ex
  ·have hj' : j - ts.length < ts1.length := by rw [List.length_append] at hj; omega
   rw [thenN_r c, thenN_r c]
   have := hold x ex; have := k.low _ hj'; omega
 ·rcases e with e | e
  ·rw [e] at ey; exact h.ap x ex ey
  ·rw [e] at ey; cases ey; have := hold _ ex; omega
theorem LX.hold {lo g : Nat} {w w1 w2 : World} {hv tv hv' : Value} {hs hs' : List Int} {ts : List TK} {us : List Value} {rs : Nat → List Value} {bl bh : Nat → Nat} (h : LX lo g w hv tv hs ts us rs bl bh) (h1 : Below w.heap.size w w1) (ho : w2.ownsRow lo 5 1 hv' hs'.length (bcs hs')) (hg : w1.grownBy w2 hv.ownBlock) (e : hv'.ownBlock = hv.ownBlock ∨ ∀ x, hv'.ownBlock = some x → w.heap.size ≤ x) :
  LX lo g (w2.setCell ⟨g, 0, none⟩ hv') hv' tv hs' ts us rs bl bh := by
 have s1 := h1.size
 have s2 := hg.size
 have gl := h.lt
 have lg := h.lg
 have told : ∀ x, tv.ownBlock = some x → (lo ≤ x ∧ x < w.heap.size) ∧ x ≠ g := fun x e => ⟨h.row.lt x e, fun e2 => h.gt (e2 ▸ e)⟩
 have hold : ∀ x, hv.ownBlock = some x → (lo ≤ x ∧ x < w.heap.size) ∧ x ≠ g := fun x e => ⟨h.held.lt x e, fun e2 => h.gh (e2 ▸ e)⟩
 have kp : ∀ x, x < w.heap.size → some x ≠ hv.ownBlock → x ≠ g → (w2.setCell ⟨g, 0, none⟩ hv').heap[x]? = w.heap[x]? := fun x hx hn hgx => by
  rw [Deep.blk_setCell_other _ _ _ _ hgx, hg.block x (by omega) hn, h1.block x hx]
 have gh' : hv'.ownBlock ≠ some g := fun ex => by
  rcases e with e | e
  ·exact h.gh (e ▸ ex)
  ·have := e g ex; omega
 have bx : w2.rowIs g 121 2 (q2 hv tv) := h.box.of_block (by rw [hg.block g (by omega) (fun e => by have := hold g e.symm; omega), h1.block g gl])
 refine ⟨?_, own_of ho (Nat.le_refl _) (fun x ex hx => Deep.blk_setCell_other _ _ _ _ (fun (e2 : x = g) => gh' (e2 ▸ ex))), own_of h.row (Nat.le_refl _) (fun x ex _ => kp x (told x ex).1.2 (fun e2 => h.ap x e2.symm ex) (by have := told x ex; omega)), ?_, lg, gh', h.gt, h.ga, h.vt, fun j hj x ex => ?_, fun x ex ey => ?_⟩
 ·refine (bx.set 0 hv').congr (fun i hi => ?_)
  have : i = 0 ∨ i = 1 := by omega
  rcases this with rfl | rfl <;> simp [q2]
 ·refine (h.ta.keep (fun j hj x hx1 hx2 hx3 => ?_)).widen (Nat.le_refl _) (by simp [World.setCell]; omega)
  exact kp x hx3 (fun e2 => by have := h.vh j hj x e2.symm; omega) (by have := h.ga j hj; omega)
 ·rcases e with e | e
  ·exact h.vh j hj x (e ▸ ex)
  ·have := e x ex; have := h.ta.top j hj; omega
 ·rcases e with e | e
  ·exact h.ap x (e ▸ ex) ey
  ·have := e x ex; have := told x ey; omega
theorem LX.drop {lo g : Nat} {w : World} {hv tv : Value} {hs : List Int} {ts : List TK} {us : List Value} {rs : Nat → List Value} {bl bh : Nat → Nat} (h : LX lo g w hv tv hs ts us rs bl bh) : LX lo g (w.setCell ⟨g, 0, none⟩ (.slice none 0 0)) (.slice none 0 0) tv [] ts us rs bl bh :=
 h.hold (w1 := w) (w2 := w) (hs' := []) (Below.refl _ _) ⟨rfl, .inl ⟨rfl, rfl⟩⟩ ⟨rfl, rfl, rfl, Nat.le_refl _, fun _ _ _ => rfl⟩ (.inr (fun x e => by simp [Value.ownBlock] at e))
theorem make_tokens {P : Program} (t e : TypeId) (ht : P.underlying t = some (.slice e)) (hinfo : (P.info? e).map (fun i => (i.zero, i.size, i.bytes)) = some (some (.agg #[.int .i64 0, .int .i64 0, .string ⟨#[]⟩, .slice none 0 0, .bool false]), 5, 64))
  (n : Nat) (hn : (n : Int) ≤ 1048576) (w : World) :
  (Instr.makeSlice t (.int .i64 (n : Int)) (.int .i64 (n : Int))).run P w = .ok (.slice (some ⟨w.heap.size, 0, none⟩) n n) (w.alloc (.cells (madeCells #[.int .i64 0, .int .i64 0, .string ⟨#[]⟩, .slice none 0 0, .bool false] (n * 5)) e)) := by
 obtain ⟨i, hi, hzz⟩ := Option.map_eq_some_iff.1 hinfo
 simp only [Prod.mk.injEq] at hzz
 obtain ⟨hz, hs, hb⟩ := hzz
 have hr := run_make (P := P) w t e i _ ht hi hz .i64 .i64 n n (by omega) (Int.le_refl _) (by rw [hb]; omega) (by omega)
 simp only [Int.toNat_natCast, hs] at hr
 exact hr
theorem tcs_get : ∀ (ts : List TK) (us : List Value) (j i : Nat), us.length = ts.length → j < ts.length → i < 5 → (tcs ts us)[j * 5 + i]? = ([.int .i64 (tkK ts j).kd, .int .i64 (tkK ts j).by_, .string (tkK ts j).nm, us.getD j undef, .bool (tkK ts j).sh] : List Value)[i]?
 | [], _, j, _, _, hj, _ => absurd hj (Nat.not_lt_zero _)
 | t :: ts, [], _, _, h, _, _ => by simp at h
 | t :: ts, u :: us, 0, i, _, _, hi => by
  have : i = 0 ∨ i = 1 ∨ i = 2 ∨ i = 3 ∨ i = 4 := by omega
  rcases this with rfl | rfl | rfl | rfl | rfl <;> simp [tcs, tkK]
 | t :: ts, u :: us, j + 1, i, h, hj, hi => by
  have := tcs_get ts us j i (by simpa using h) (by simpa using hj) hi
  rw [show (j + 1) * 5 + i = j * 5 + i + 5 by omega]
  simpa [tcs, tkK] using this
def LxP (lo g : Nat) (hs : List Int) (ts : List TK) (w : World) (e : Ending) (w' : World) : Prop := (∃ v, e = .returned v) ∧ LXs lo g w' hs ts ∧ Below lo w w'
theorem LX.spotT {lo g : Nat} {w w2 : World} {hv tv : Value} {hs : List Int} {ts : List TK} {us : List Value} {rs : Nat → List Value} {bl bh : Nat → Nat} (h : LX lo g w hv tv hs ts us rs bl bh) (hg : w.grownBy w2 tv.ownBlock) : w2.cell? ⟨g, 1, none⟩ = some tv ∧ w2.frozen? ⟨g, 1, none⟩ = false := by
 have bx : w2.rowIs g 121 2 (q2 hv tv) := h.box.of_block (hg.block g h.lt (fun e => h.gt e.symm))
 exact ⟨(cellsQ2 bx).2.1, (frzQ2 bx).2⟩
theorem LX.spotH {lo g : Nat} {w w2 : World} {hv tv : Value} {hs : List Int} {ts : List TK} {us : List Value} {rs : Nat → List Value} {bl bh : Nat → Nat} (h : LX lo g w hv tv hs ts us rs bl bh) (hg : w.grownBy w2 hv.ownBlock) : w2.cell? ⟨g, 0, none⟩ = some hv ∧ w2.frozen? ⟨g, 0, none⟩ = false := by
 have bx : w2.rowIs g 121 2 (q2 hv tv) := h.box.of_block (hg.block g h.lt (fun e => h.gh e.symm))
 exact ⟨(cellsQ2 bx).1, (frzQ2 bx).1⟩
theorem tell_any (lo g : Nat) (ax : Option Addr) (c : Nat) (w0 w : World) (hv tv : Value) (hs : List Int) (ts : List TK) (us : List Value) (rs : Nat → List Value) (bl bh : Nat → Nat) (ts1 : List TK) (us1 : List Value) (rs1 : Nat → List Value) (bl1 bh1 : Nat → Nat)
  (h : LX lo g w0 hv tv hs ts us rs bl bh) (h1 : Below w0.heap.size w0 w) (k : TA w0.heap.size w.heap.size w ts1 us1 rs1 bl1 bh1) (hsrc : ts1.length = 0 ∨ ∃ ad, ax = some ad ∧ ∀ j u, (tcs ts1 us1)[j]? = some u → w.cell? (ad.add j) = some u) (hn : ts.length + ts1.length ≤ 1000000) :
  Calls Tryz.prog 101 #[.pointer (some ⟨g, 0, none⟩), .slice ax ts1.length c] w fun e w' => LxP lo g hs (ts ++ ts1) w e w' := by
 have HX := Hid.mk' (h.below h1)
 obtain ⟨c0, c1, c2⟩ := cellsQ2 HX.out.box
 have H := Hid.mk' h
 have H1 := Hid.mk' h1
 have lg := h.lg
 have K := Hid.mk' k
 have hlen : Hid ((tcs ts1 us1).length = ts1.length * 5) := Hid.mk' (tcs_len _ _ k.len)
 have hone : Hid (∀ u ∈ tcs ts1 us1, u.oneCell' = true) := Hid.mk' (tcs_one _ _ k.one)
 have HS := Hid.mk' hsrc
 have SZ : Hid (lo ≤ w.heap.size) := Hid.mk' (by omega)
 clear h h1 k hsrc
 go_enter Tryz.func101, Tryz.ntmps101
 go_wp2_with (at_builtin; refine wpList_append_at _ rfl (.tmp 8) (.tmp 9) 24 rfl lo 107 (.agg #[.int .i64 0, .int .i64 0, .string ⟨#[]⟩, .slice none 0 0, .bool false]) 5 64 Tryz.underlying24 Tryz.infoTok rfl (by decide) _ _ _ rfl HX.out.row _ _ _ (tcs ts1 us1) rfl hlen.out HS.out hone.out (by unfold maxLen; omega) (by omega) SZ.out ?_; intro v' w2 ho hgr hat; obtain ⟨a', c', rfl, _⟩ := own_src ho; obtain ⟨d1, f1⟩ := HX.out.spotT hgr; have L2 := Hid.mk' (H.out.tell H1.out K.out ho hgr hat); have B2 := Hid.mk' ((Below.refl lo w).grown hgr (Nat.le_trans lg (Nat.le_of_lt c2)) (fun x e => (HX.out.row.lt x e).1)); clear ho hgr hat c0 c1 c2)
 go_end0
 exact ⟨⟨_, rfl⟩, ⟨_, _, _, _, _, _, L2.out⟩, B2.out.setCell (p := ⟨g, 1, none⟩) lg _⟩
theorem tokenOfByte_any (y : Int) (w : World) (h0 : 0 ≤ y) (h1 : y ≤ 255) :
  Calls Tryz.prog 102 #[.int .u8 y] w fun e w' => e = .returned (.agg #[.int .i64 1, .int .i64 y, .string ⟨#[]⟩, .slice none 0 0, .bool false]) ∧ Below w.heap.size w w' := by
 have HB := Hid.mk' (below_new w (.cells #[.int .i64 0, .int .i64 0, .string ⟨#[]⟩, .slice none 0 0, .bool false] 107))
 have HR := row5 w 107 (.int .i64 0) (.int .i64 0) (.string ⟨#[]⟩) (.slice none 0 0) (.bool false)
 obtain ⟨d0, d1, d2, d3, d4, d5⟩ := cells5 HR
 have f := fun i => HR.frozen i
 have f0 := f 0
 have f1 := f 1
 have f2 := f 2
 have f3 := f 3
 have f4 := f 4
 have wy : IntKind.i64.wrap y = y := by rw [IntKind.wrap_i64]; omega
 clear f HR
 generalize hW : w.alloc (.cells #[.int .i64 0, .int .i64 0, .string ⟨#[]⟩, .slice none 0 0, .bool false] 107) = W at *
 go_enter Tryz.func102, Tryz.ntmps102
 go_wp2
 refine bodyPost_ret (v := .agg #[.int .i64 1, .int .i64 y, .string ⟨#[]⟩, .slice none 0 0, .bool false]) (by simp [results, Tryz.results102, go_sem, *]) rfl ⟨rfl, ?_⟩
 exact ((((HB.out.setCell (p := ⟨w.heap.size, 0, none⟩) (by simp) _).setCell (p := ⟨w.heap.size, 1, none⟩) (by simp) _).setCell (p := ⟨w.heap.size, 2, none⟩) (by simp) _).setCell (p := ⟨w.heap.size, 3, none⟩) (by simp) _).setCell (p := ⟨w.heap.size, 4, none⟩) (by simp) _
structure GoR (w : World) (hs : List Int) (k : Nat) (wr : World) : Prop where
 bl : Below w.heap.size w wr
 row : ∃ f, wr.rowIs w.heap.size 107 (hs.length * 5) f ∧ ∀ j, j < k → f (j * 5) = .int .i64 1 ∧ f (j * 5 + 1) = .int .i64 (hs.getD j 0) ∧ f (j * 5 + 2) = .string ⟨#[]⟩ ∧ f (j * 5 + 3) = .slice none 0 0 ∧ f (j * 5 + 4) = .bool false
theorem GoR.start (w : World) (hs : List Int) : GoR w hs 0 (w.alloc (.cells (madeCells #[.int .i64 0, .int .i64 0, .string ⟨#[]⟩, .slice none 0 0, .bool false] (hs.length * 5)) 107)) := by
 refine ⟨(Below.refl _ _).alloc (Nat.le_refl _) _, fun i => r5 (.int .i64 0) (.int .i64 0) (.string ⟨#[]⟩) (.slice none 0 0) (.bool false) (i % 5), ?_, fun j hj => absurd hj (Nat.not_lt_zero _)⟩
 refine ⟨_, Deep.blk_alloc_new _ _, size_madeCells _ _, fun i hi => ?_⟩
 have h : i % 5 = 0 ∨ i % 5 = 1 ∨ i % 5 = 2 ∨ i % 5 = 3 ∨ i % 5 = 4 := by omega
 rcases h with h | h | h | h | h <;> simp [madeCells, hi, h, r5]
theorem GoR.below {w wr w1 : World} {hs : List Int} {k : Nat} (h : GoR w hs k wr) (hb : Below wr.heap.size wr w1) : GoR w hs k w1 := by
 obtain ⟨f, hf, hj⟩ := h.row
 exact ⟨h.bl.trans (hb.mono h.bl.size), f, rowB hf hb, hj⟩
theorem GoR.step {w wr : World} {hs : List Int} {k : Nat} {y : Int} (h : GoR w hs k wr) (hy : hs.getD k 0 = y) :
  GoR w hs (k + 1) (((((wr.setCell ⟨w.heap.size, k * 5, none⟩ (.int .i64 1)).setCell ⟨w.heap.size, k * 5 + 1, none⟩ (.int .i64 y)).setCell ⟨w.heap.size, k * 5 + 2, none⟩ (.string ⟨#[]⟩)).setCell ⟨w.heap.size, k * 5 + 3, none⟩ (.slice none 0 0)).setCell ⟨w.heap.size, k * 5 + 4, none⟩ (.bool false)) := by
 obtain ⟨f, hf, hj⟩ := h.row
 refine ⟨((((h.bl.setCell (p := ⟨w.heap.size, k * 5, none⟩) (Nat.le_refl _) _).setCell (p := ⟨w.heap.size, k * 5 + 1, none⟩) (Nat.le_refl _) _).setCell (p := ⟨w.heap.size, k * 5 + 2, none⟩) (Nat.le_refl _) _).setCell (p := ⟨w.heap.size, k * 5 + 3, none⟩) (Nat.le_refl _) _).setCell (p := ⟨w.heap.size, k * 5 + 4, none⟩) (Nat.le_refl _) _, _, ((((hf.set (k * 5) _).set (k * 5 + 1) _).set (k * 5 + 2) _).set (k * 5 + 3) _).set (k * 5 + 4) _, fun j hk => ?_⟩
 by_cases e : j = k
 ·subst e
  refine ⟨?_, ?_, ?_, ?_, ?_⟩
  ·rw [if_neg (by omega), if_neg (by omega), if_neg (by omega), if_neg (by omega), if_pos rfl]
  ·rw [if_neg (by omega), if_neg (by omega), if_neg (by omega), if_pos rfl, hy]
  ·rw [if_neg (by omega), if_neg (by omega), if_pos rfl]
  ·rw [if_neg (by omega), if_pos rfl]
  ·rw [if_pos rfl]
 ·obtain ⟨h1, h2, h3, h4, h7⟩ := hj j (by omega)
  refine ⟨?_, ?_, ?_, ?_, ?_⟩
  ·rw [if_neg (by omega), if_neg (by omega), if_neg (by omega), if_neg (by omega), if_neg (by omega)]; exact h1
  ·rw [if_neg (by omega), if_neg (by omega), if_neg (by omega), if_neg (by omega), if_neg (by omega)]; exact h2
  ·rw [if_neg (by omega), if_neg (by omega), if_neg (by omega), if_neg (by omega), if_neg (by omega)]; exact h3
  ·rw [if_neg (by omega), if_neg (by omega), if_neg (by omega), if_neg (by omega), if_neg (by omega)]; exact h4
  ·rw [if_neg (by omega), if_neg (by omega), if_neg (by omega), if_neg (by omega), if_neg (by omega)]; exact h7
theorem GoR.cells {w wr : World} {hs : List Int} {k i : Nat} (h : GoR w hs k wr) (hi : i < hs.length * 5) : ∃ v, wr.cell? ⟨w.heap.size, i, none⟩ = some v ∧ wr.frozen? ⟨w.heap.size, i, none⟩ = false := by
 obtain ⟨f, hf, _⟩ := h.row
 exact ⟨_, hf.cell hi, hf.frozen i⟩
theorem GoR.src {w wr wq : World} {hs : List Int} (h : GoR w hs hs.length wr) (hw : wq.heap[w.heap.size]? = wr.heap[w.heap.size]?) : (bytesT hs).length = 0 ∨ ∃ ad, (some ⟨w.heap.size, 0, none⟩ : Option Addr) = some ad ∧ ∀ j u, (tcs (bytesT hs) (nils hs.length))[j]? = some u → wq.cell? (ad.add j) = some u := by
 obtain ⟨f, hf0, hj⟩ := h.row
 have hf := hf0.of_block hw
 refine .inr ⟨_, rfl, fun j u hu => ?_⟩
 have hl := tcs_len (bytesT hs) (nils hs.length) (by rw [nils_len, bytesT_len])
 have hlt : j < hs.length * 5 := by
  have := List.getElem?_eq_some_iff.1 hu
  obtain ⟨h1, _⟩ := this
  rw [hl, bytesT_len] at h1; exact h1
 obtain ⟨q, i, rfl, hi⟩ : ∃ q i, j = q * 5 + i ∧ i < 5 := ⟨j / 5, j % 5, by omega, by omega⟩
 have hq : q < hs.length := by omega
 rw [tcs_get _ _ q i (by rw [nils_len, bytesT_len]) (by rw [bytesT_len]; exact hq) hi, bytesT_at hs q hq, nils_at hq] at hu
 obtain ⟨h1, h2, h3, h4, h5⟩ := hj q hq
 rw [Addr.add_mid, Nat.zero_add, hf.cell hlt]
 have : i = 0 ∨ i = 1 ∨ i = 2 ∨ i = 3 ∨ i = 4 := by omega
 rcases this with rfl | rfl | rfl | rfl | rfl
 ·rw [Nat.add_zero, h1]; simpa [byteT] using hu
 ·rw [h2]; simpa [byteT] using hu
 ·rw [h3]; simpa [byteT] using hu
 ·rw [h4]; simpa [byteT] using hu
 ·rw [h5]; simpa [byteT] using hu
theorem letGo_any (lo g : Nat) (w : World) (hs : List Int) (ts : List TK) (h : LXs lo g w hs ts) (hu : Byt hs) (hn : ts.length + hs.length ≤ 1000000) :
  Calls Tryz.prog 95 #[.pointer (some ⟨g, 0, none⟩)] w fun e w' => LxP lo g [] (ts ++ bytesT hs) w e w' := by
 obtain ⟨hv, tv, us, rs, bl, bh, h⟩ := h
 have lg := h.lg
 obtain ⟨c0, c1, c2⟩ := cellsQ2 h.box
 obtain ⟨p, c, rfl, hb⟩ := own_bat h.held
 have hmk := make_tokens (P := Tryz.prog) 24 107 Tryz.underlying24 Tryz.infoTok hs.length (by omega)
 have H := Hid.mk' h
 have HB := Hid.mk' hb
 clear h hb
 go_enter Tryz.func95, Tryz.ntmps95
 go_wp2
 go_loopw [16] (fun i wr => ∃ k : Nat, k ≤ hs.length ∧ i = .int .i64 k ∧ GoR w hs k wr) (fun i _ => hs.length - (intOf i).toNat)
 case atStart => exact ⟨0, Nat.zero_le _, rfl, GoR.start w hs⟩
 case round =>
  obtain ⟨k, hk, rfl, hgo⟩ := hrel
  have G := Hid.mk' hgo
  by_cases hlt : k < hs.length
  ·have ci : (k : Int) < (hs.length : Int) := by omega
   rcases HB.out.below hgo.bl with hb | ⟨b, o, rfl, hbs, hc⟩
   ·exact absurd hlt (by rw [hb]; exact Nat.not_lt_zero _)
   obtain ⟨y, hy⟩ : ∃ y, hs.getD k 0 = y := ⟨_, rfl⟩
   have h1 : wr.cell? ⟨b, o + k, none⟩ = some (.int .u8 y) := by rw [← hy]; exact hc k hlt
   obtain ⟨y0, y1⟩ := hu k hlt
   rw [hy] at y0 y1
   have KT := Hid.mk' (tokenOfByte_any y wr y0 y1)
   have HY := Hid.mk' hy
   clear hc hy hgo
   go_wp2_with fail
   refine KT.out.mono ?_
   rintro e w1 ⟨rfl, hb1⟩
   have G1 := Hid.mk' (G.out.below hb1)
   obtain ⟨v0, d0, f0⟩ := G1.out.cells (i := k * 5) (by omega)
   obtain ⟨v1, d1, f1⟩ := G1.out.cells (i := k * 5 + 1) (by omega)
   obtain ⟨v2, d2, f2⟩ := G1.out.cells (i := k * 5 + 2) (by omega)
   obtain ⟨v3, d3, f3⟩ := G1.out.cells (i := k * 5 + 3) (by omega)
   obtain ⟨v4, d4, f4⟩ := G1.out.cells (i := k * 5 + 4) (by omega)
   clear hb1 KT
   go_wp2
   go_roundw
   case rel => exact ⟨k + 1, by omega, by go_num, G1.out.step HY.out⟩
   case measure => simp [intOf]; omega
  ·have ci : ¬ (k : Int) < (hs.length : Int) := by omega
   have e : k = hs.length := by omega
   subst e
   have L1 := H.out.below hgo.bl
   obtain ⟨d0, d1, d2⟩ := cellsQ2 L1.box
   obtain ⟨f0, f1⟩ := frzQ2 L1.box
   have L2 := L1.drop
   have KT := tell_any lo g (some ⟨w.heap.size, 0, none⟩) hs.length _ _ _ _ _ _ _ _ _ _ (bytesT hs) (nils hs.length) (fun _ => []) (fun _ => (wr.setCell ⟨g, 0, none⟩ (.slice none 0 0)).heap.size) (fun _ => (wr.setCell ⟨g, 0, none⟩ (.slice none 0 0)).heap.size) L2 (Below.refl _ _) (TA.bytes _ _ hs) (hgo.src (Deep.blk_setCell_other _ _ _ _ (by show w.heap.size ≠ g; omega))) (by rw [bytesT_len]; omega)
   rw [bytesT_len] at KT
   have KT := Hid.mk' KT
   have B1 : Hid (Below lo w (wr.setCell ⟨g, 0, none⟩ (.slice none 0 0))) := Hid.mk' ((hgo.bl.mono (show lo ≤ w.heap.size by omega)).setCell (p := ⟨g, 0, none⟩) lg _)
   clear L1 L2 hgo G hmk
   generalize hV : wr.setCell ⟨g, 0, none⟩ (.slice none 0 0) = V at *
   go_wp2_with fail
   clear hV
   refine KT.out.mono ?_
   rintro e w2 ⟨⟨v, rfl⟩, hx, hb2⟩
   have HX := Hid.mk' hx
   have B2 := Hid.mk' (B1.out.trans hb2)
   clear hx hb2 KT
   go_wp2
   go_end0
   exact ⟨⟨_, rfl⟩, HX.out, B2.out⟩
theorem outside_any (lo g : Nat) (b : Nat) (w : World) (ts : List TK) (h : LXs lo g w [] ts) (hb : b ≤ 255) (hn : ts.length ≤ 900000) :
  Calls Tryz.prog 82 #[.pointer (some ⟨g, 0, none⟩), .int .u8 (b : Int)] w fun e w' => LxP lo g (noneH (b : Int)) (ts ++ bytesT (noneT (b : Int))) w e w' := by
 obtain ⟨hv, tv, us, rs, bl, bh, h⟩ := h
 have lg := h.lg
 obtain ⟨c0, c1, c2⟩ := cellsQ2 h.box
 by_cases hs : (b : Int) = 60 ∨ (b : Int) = 38
 ·have E1 : Hid (noneH (b : Int) = [(b : Int)]) := Hid.mk' (by unfold noneH; rw [if_pos hs])
  have E2 : Hid (noneT (b : Int) = []) := Hid.mk' (by unfold noneT; rw [if_pos hs])
  have O1 := World.ownsRow_lit (base := lo) (e := 5) (size := 1) w #[.int .u8 (b : Int)] 1 (by omega) (by unfold maxLen; omega) rfl
  have L1 := h.hold (w1 := w) (w2 := w.alloc (.cells #[.int .u8 (b : Int)] 5)) (hs' := [(b : Int)]) (Below.refl _ _) O1 ⟨rfl, rfl, rfl, by simp, fun k hk _ => (below_new w _).block k hk⟩ (.inr (fun x e => by simp [Value.ownBlock] at e; omega))
  have HL := Hid.mk' L1
  have B1 := Hid.mk' (((below_new w (.cells #[.int .u8 (b : Int)] 5)).mono (show lo ≤ w.heap.size by omega)).setCell (p := ⟨g, 0, none⟩) lg (.slice (some ⟨w.heap.size, 0, none⟩) 1 1))
  obtain ⟨d0, d1, d2⟩ := cellsQ2 (rowB h.box (below_new w (.cells #[.int .u8 (b : Int)] 5)))
  obtain ⟨f0, f1⟩ := frzQ2 (rowB h.box (below_new w (.cells #[.int .u8 (b : Int)] 5)))
  have fin : Hid (∀ v, LxP lo g (noneH (b : Int)) (ts ++ bytesT (noneT (b : Int))) w (.returned v) ((w.setCell ⟨g, 0, none⟩ (.slice (some ⟨w.heap.size, 0, none⟩) 1 1)).alloc (.cells #[.int .u8 (b : Int)] 5))) := Hid.mk' (fun v => by
   rw [E1.out, E2.out, ← World.setCell_alloc_past (.cells #[.int .u8 (b : Int)] 5) g 0 _ c2]
   exact ⟨⟨_, rfl⟩, ⟨_, _, _, _, _, _, by simpa [bytesT] using HL.out⟩, B1.out⟩)
  clear h L1 O1 HL B1 E1 E2
  rcases hs with e | e
  ·have e1 : ((b : Int) == 60) = true := by rw [e]; rfl
   clear e
   go_enter Tryz.func82, Tryz.ntmps82
   go_wp2
   (try simp only [Exit.inBlock, Exit.then])
   exact bodyPost_ret (results_none rfl _ _ _) rfl (fin.out _)
  ·have e0 : ((b : Int) == 60) = false := by rw [e]; rfl
   have e1 : ((b : Int) == 38) = true := by rw [e]; rfl
   clear e
   go_enter Tryz.func82, Tryz.ntmps82
   go_wp2
   (try simp only [Exit.inBlock, Exit.then])
   exact bodyPost_ret (results_none rfl _ _ _) rfl (fin.out _)
 ·have E1 : Hid (noneH (b : Int) = []) := Hid.mk' (by unfold noneH; rw [if_neg hs])
  have E2 : Hid (noneT (b : Int) = [(b : Int)]) := Hid.mk' (by unfold noneT; rw [if_neg hs])
  have e0 : ((b : Int) == 60) = false := by simp; omega
  have e1 : ((b : Int) == 38) = false := by simp; omega
  have KT := Hid.mk' (tokenOfByte_any (b : Int) w (by omega) (by omega))
  have H := Hid.mk' h
  clear hs h
  go_enter Tryz.func82, Tryz.ntmps82
  go_wp2_with fail
  refine KT.out.mono ?_
  rintro e w1 ⟨rfl, hb1⟩
  have NC := new_cells' w1 107 [.int .i64 1, .int .i64 (b : Int), .string ⟨#[]⟩, .slice none 0 0, .bool false] w1.heap.size rfl
  have B1 := hb1.trans ((below_new w1 (.cells #[.int .i64 1, .int .i64 (b : Int), .string ⟨#[]⟩, .slice none 0 0, .bool false] 107)).mono hb1.size)
  have KL := tell_any lo g (some ⟨w1.heap.size, 0, none⟩) 1 w (w1.alloc (.cells #[.int .i64 1, .int .i64 (b : Int), .string ⟨#[]⟩, .slice none 0 0, .bool false] 107)) _ _ _ _ _ _ _ _ (bytesT [(b : Int)]) (nils 1) (fun _ => []) (fun _ => w.heap.size) (fun _ => w.heap.size) H.out B1 ((TA.bytes w.heap.size _ [(b : Int)]).widen (Nat.le_refl _) B1.size) (.inr ⟨_, rfl, NC⟩) (by rw [bytesT_len]; simp; omega)
  rw [bytesT_len] at KL
  have KL := Hid.mk' KL
  have HB := Hid.mk' (B1.mono (show lo ≤ w.heap.size by omega))
  clear NC B1 hb1 KT H
  generalize hV : w1.alloc (.cells #[.int .i64 1, .int .i64 (b : Int), .string ⟨#[]⟩, .slice none 0 0, .bool false] 107) = V at *
  go_wp2_with fail
  clear hV
  refine KL.out.mono ?_
  rintro e w2 ⟨⟨v, rfl⟩, hx, hb2⟩
  have HX := Hid.mk' hx
  have B2 := Hid.mk' (HB.out.trans hb2)
  clear hx hb2 KL
  go_wp2
  go_end0
  refine ⟨⟨_, rfl⟩, ?_, B2.out⟩
  rw [E1.out, E2.out]
  exact HX.out
def holdH (n : Nat) (hs : List Int) (b : Nat) : List Int := if n ≤ hs.length + 1 then [] else hs ++ [(b : Int)]
def holdT (n : Nat) (hs : List Int) (b : Nat) : List Int := if n ≤ hs.length + 1 then hs ++ [(b : Int)] else []
theorem bcs_snoc' (l : List Int) (b : Int) : bcs (l ++ [b]) = bcs l ++ [.int .u8 b] := by simp [bcs]
theorem holdX {lo g : Nat} {w w1 w2 : World} {hv tv hv' : Value} {hs : List Int} {b : Int} {ts : List TK} {us : List Value} {rs : Nat → List Value} {bl bh : Nat → Nat} (h : LX lo g w hv tv hs ts us rs bl bh) (h1 : Below w.heap.size w w1) (ho : w2.ownsRow lo 5 1 hv' (hs.length + 1) (bcs hs ++ [.int .u8 b])) (hg : w1.grownBy w2 hv.ownBlock) (e : hv'.ownBlock = hv.ownBlock ∨ hv'.ownBlock = some w1.heap.size) :
  LX lo g (w2.setCell ⟨g, 0, none⟩ hv') hv' tv (hs ++ [b]) ts us rs bl bh := by
 refine h.hold h1 (by rw [bcs_snoc', List.length_append]; exact ho) hg ?_
 rcases e with e | e
 ·exact .inl e
 ·exact .inr (fun x ex => by rw [e] at ex; cases ex; exact h1.size)
theorem heldBl {lo g : Nat} {w w1 w2 : World} {hv tv : Value} {hs : List Int} {ts : List TK} {us : List Value} {rs : Nat → List Value} {bl bh : Nat → Nat} (h : LX lo g w1 hv tv hs ts us rs bl bh) (h1 : Below w.heap.size w w1) (hg : w1.grownBy w2 hv.ownBlock) (v : Value) (hl : lo ≤ w.heap.size) : Below lo w (w2.setCell ⟨g, 0, none⟩ v) :=
 ((h1.mono hl).grown hg (Nat.le_trans h.lg (Nat.le_of_lt h.lt)) (fun x e => (h.held.lt x e).1)).setCell (p := ⟨g, 0, none⟩) h.lg v
theorem hold_any (lo g : Nat) (b n : Nat) (w : World) (hs : List Int) (ts : List TK) (h : LXs lo g w hs ts) (hu : Byt hs) (hb : b ≤ 255) (hl : hs.length ≤ 200) (hn : ts.length ≤ 900000) (hn2 : n ≤ 1000) :
  Calls Tryz.prog 105 #[.pointer (some ⟨g, 0, none⟩), .int .u8 (b : Int), .int .i64 (n : Int)] w fun e w' => LxP lo g (holdH n hs b) (ts ++ bytesT (holdT n hs b)) w e w' := by
 obtain ⟨hv, tv, us, rs, bl, bh, h⟩ := h
 have lg := h.lg
 have N0 := below_new w (.cells #[.int .u8 (b : Int)] 5)
 have HX := Hid.mk' (h.below N0)
 have NC := Hid.mk' (new_cells' w 5 [.int .u8 (b : Int)] w.heap.size rfl)
 have H := Hid.mk' h
 obtain ⟨c0, c1, c2⟩ := cellsQ2 h.box
 obtain ⟨x0, x1, x2⟩ := cellsQ2 HX.out.box
 have HN := Hid.mk' N0
 have SZ : Hid (lo ≤ (w.alloc (.cells #[.int .u8 (b : Int)] 5)).heap.size) := Hid.mk' (by simp; omega)
 have P1 : Hid (∀ u ∈ ([.int .u8 (b : Int)] : List Value), u.oneCell' = true) := Hid.mk' (by intro u hu'; rw [List.mem_singleton] at hu'; rw [hu']; rfl)
 obtain ⟨ha, hc, rfl, _⟩ := own_src h.held
 clear h N0
 by_cases h6 : n ≤ hs.length + 1
 ·have ci : (n : Int) ≤ (hs.length : Int) + 1 := by omega
  have E1 : Hid (holdH n hs b = []) := Hid.mk' (by unfold holdH; rw [if_pos h6])
  have E2 : Hid (holdT n hs b = hs ++ [(b : Int)]) := Hid.mk' (by unfold holdT; rw [if_pos h6])
  go_enter Tryz.func105, Tryz.ntmps105
  go_wp2_with (first | (at_builtin; refine wpList_append_at _ rfl (.tmp 10) (.tmp 12) 22 rfl lo 5 (.int .u8 0) 1 1 Tryz.underlying22 Tryz.info5 rfl (by decide) _ _ _ rfl HX.out.held _ 1 _ [.int .u8 (b : Int)] rfl rfl (.inr ⟨_, rfl, NC.out⟩) P1.out (by unfold maxLen; omega) (by omega) SZ.out ?_; intro v' w2 ho hgr hat; obtain ⟨a', c', rfl, _⟩ := own_src ho; obtain ⟨d1, f1⟩ := HX.out.spotH hgr) | fail)
  have L2 := holdX H.out HN.out ho hgr hat
  have B2 := Hid.mk' (heldBl HX.out HN.out hgr (.slice a' (hs.length + 1) c') (by omega))
  have KG := Hid.mk' (letGo_any lo g _ (hs ++ [(b : Int)]) ts ⟨_, _, _, _, _, _, L2⟩ (hu.snoc b hb) (by simp; omega))
  clear L2 ho hgr hat d1 f1
  refine KG.out.mono ?_
  rintro e w3 ⟨⟨v, rfl⟩, hx, hb3⟩
  have HX3 := Hid.mk' hx
  have B3 := Hid.mk' (B2.out.trans hb3)
  clear hx hb3 KG
  go_wp2
  go_end0
  refine ⟨⟨_, rfl⟩, ?_, B3.out⟩
  rw [E1.out, E2.out]
  exact HX3.out
 ·have ci : ¬ (n : Int) ≤ (hs.length : Int) + 1 := by omega
  have E1 : Hid (holdH n hs b = hs ++ [(b : Int)]) := Hid.mk' (by unfold holdH; rw [if_neg h6])
  have E2 : Hid (holdT n hs b = []) := Hid.mk' (by unfold holdT; rw [if_neg h6])
  go_enter Tryz.func105, Tryz.ntmps105
  go_wp2_with (first | (at_builtin; refine wpList_append_at _ rfl (.tmp 10) (.tmp 12) 22 rfl lo 5 (.int .u8 0) 1 1 Tryz.underlying22 Tryz.info5 rfl (by decide) _ _ _ rfl HX.out.held _ 1 _ [.int .u8 (b : Int)] rfl rfl (.inr ⟨_, rfl, NC.out⟩) P1.out (by unfold maxLen; omega) (by omega) SZ.out ?_; intro v' w2 ho hgr hat; obtain ⟨a', c', rfl, _⟩ := own_src ho; obtain ⟨d1, f1⟩ := HX.out.spotH hgr) | fail)
  have L2 := Hid.mk' (holdX H.out HN.out ho hgr hat)
  have B2 := Hid.mk' (heldBl HX.out HN.out hgr (.slice a' (hs.length + 1) c') (by omega))
  clear ho hgr hat d1 f1
  go_end0
  refine ⟨⟨_, rfl⟩, ?_, B2.out⟩
  rw [E1.out, E2.out]
  exact ⟨_, _, _, _, _, _, by simpa [bytesT] using L2.out⟩

end Go.Proofs.YtlimgcmhidooaaaGreatDoor
