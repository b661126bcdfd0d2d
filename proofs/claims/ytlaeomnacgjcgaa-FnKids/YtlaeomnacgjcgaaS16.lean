/- Walks: marks are laid into a token's attributes. -/
import Derived.Test.YtlaeomnacgjcgaaS15
import Derived.Laws.BytesString
import Derived.Laws.IdiomStrings
set_option linter.unusedVariables false
set_option linter.unusedSimpArgs false
namespace Go.Proofs.Ytlaeomnacgjcgaa
open Go.RowKit

def strI (l : List Int) : ByteArray := l.foldl (fun r n => r.push (UInt8.ofNat n.toNat)) ByteArray.empty

theorem conv_bytesT {w : World} {a : Option Addr} {l : List Int} (c : Nat) (h : BAt w a l) : (convert 22 9 (.slice a l.length c)).run Try.prog w = .ok (.string (strI l)) w := by
  rw [run_convert_bytes_string (P := Try.prog) w 22 9 5 a l.length c Try.underlying22 Try.underlying5 Try.underlying9]
  cases a with
  | none =>
    rcases h with h | ⟨b, o, e, _⟩
    · subst h
      simp [Conv.bytesToString, strI, Sem.run_pure]
    · cases e
  | some ad =>
    refine run_bytesToString w ad l.length c l ?_
    have hk := run_loadCells_list (P := Try.prog) w ad (l.map (Value.int .u8)) (fun j v hj => by
      rcases h with h | ⟨b, o, e, _, hc⟩
      · subst h; simp at hj
      · cases e
        have hjl : j < l.length := by
          have := (List.getElem?_eq_some_iff.1 hj).1
          simpa using this
        have := hc j hjl
        rw [List.getElem?_map] at hj
        rw [show (⟨b, o, none⟩ : Addr).add j = ⟨b, o + j, none⟩ from by unfold Addr.add; split; (rename_i h0; rw [h0]; rfl); rfl, this]
        simp [bv, List.getD_eq_getElem?_getD] at hj ⊢
        obtain ⟨x, hx, rfl⟩ := hj
        simp [hx])
    simpa using hk

end Go.Proofs.Ytlaeomnacgjcgaa

namespace Go.Proofs.Ytlaeomnacgjcgaa
open Go.RowKit

def FeedB (ts : List Int) (hs : List Int) (w : World) (e : Ending) (w' : World) : Prop := ∃ v u, e = .returned (.tuple #[v, u]) ∧ w'.ownsRow w.heap.size 89 5 v ts.length (tcs (bytesT ts) (nils ts.length)) ∧ w'.ownsRow w.heap.size 5 1 u hs.length (bcs hs) ∧ Ap v u ∧ Below w.heap.size w w'

def noteB (l : List Int) : Bool := decide (4 ≤ l.length) && ((strI (l.take 4)).toList == [60, 33, 45, 45])

def quotes : List Int → Nat
  | [] => 0
  | x :: r => (if x = 34 then 1 else 0) + quotes r

theorem quotes_take (l : List Int) : ∀ k, k < l.length → quotes (l.take (k + 1)) = quotes (l.take k) + (if l.getD k 0 = 34 then 1 else 0) := by
  induction l with
  | nil => intro k h; exact absurd h (Nat.not_lt_zero _)
  | cons x r ih =>
    intro k hk
    cases k with
    | zero => simp [quotes]
    | succ k =>
      have := ih k (by simpa using hk)
      simp only [List.take_succ_cons, quotes]
      rw [this]
      simp
      omega

theorem quotes_le (l : List Int) : quotes l ≤ l.length := by
  induction l with
  | nil => simp [quotes]
  | cons x r ih => unfold quotes; split <;> simp <;> omega

set_option maxHeartbeats 1600000 in
theorem l5Note_any (a : Option Addr) (c : Nat) (l : List Int) (w : World) (ha : BAt w a l) (hc : l.length ≤ c) (hl : l.length ≤ 1000) :
    Calls Try.prog 81 #[.slice a l.length c] w fun e w' => e = .returned (.bool (noteB l)) ∧ w' = w := by
  by_cases h4 : 4 ≤ l.length
  · have h4' : (l.length : Int) ≥ 4 := by omega
    have c4 : (4 : Int) ≤ (c : Int) := by omega
    have BT : BAt w a (l.take 4) := by
      rcases ha with h | ⟨b, o, e, hs, hcl⟩
      · left; rw [h]; rfl
      · refine .inr ⟨b, o, e, hs, fun k hk => ?_⟩
        rw [List.length_take] at hk
        rw [hcl k (by omega)]
        unfold bv
        congr 2
        rw [List.getD_eq_getElem?_getD, List.getD_eq_getElem?_getD, List.getElem?_take_of_lt (by omega)]
    have hcv := conv_bytesT c BT
    rw [List.length_take, Nat.min_eq_left h4] at hcv
    have E : Hid (noteB l = ((strI (l.take 4)).toList == [60, 33, 45, 45])) := Hid.mk' (by unfold noteB; rw [decide_eq_true h4]; rfl)
    clear ha BT
    generalize strI (l.take 4) = s4 at *
    go_enter Try.func81, Try.ntmps81
    go_wp2_with go_big_skip
    go_ret
    exact ⟨by rw [E.out]; rfl, rfl⟩
  · have h4' : ¬ (l.length : Int) ≥ 4 := by omega
    have E : Hid (noteB l = false) := Hid.mk' (by unfold noteB; rw [decide_eq_false h4]; rfl)
    go_enter Try.func81, Try.ntmps81
    go_wp2_with go_big_skip
    go_ret
    exact ⟨by rw [E.out]; rfl, rfl⟩

def quotedB (l : List Int) : Bool := decide (quotes l % 2 = 1) && !noteB l

set_option maxHeartbeats 1600000 in
theorem l5Quoted_any (a : Option Addr) (c : Nat) (l : List Int) (w : World) (ha : BAt w a l) (hc : l.length ≤ c) (hl : l.length ≤ 1000) :
    Calls Try.prog 79 #[.slice a l.length c] w fun e w' => e = .returned (.bool (quotedB l)) ∧ w' = w := by
  have KN := Hid.mk' (l5Note_any a c l w ha hc hl)
  go_enter Try.func79, Try.ntmps79
  go_wp2
  go_loop [3, 4] (fun n i => ∃ k : Nat, k ≤ l.length ∧ i = .int .i64 k ∧ n = .int .i64 (quotes (l.take k) : Int)) (fun _ i => l.length - (intOf i).toNat)
  case atStart => exact ⟨0, Nat.zero_le _, rfl, rfl⟩
  case round =>
    obtain ⟨k, hk, rfl, rfl⟩ := hrel
    have ql := quotes_le (l.take k)
    rw [List.length_take] at ql
    by_cases hlt : k < l.length
    · have ci : (k : Int) < (l.length : Int) := by omega
      rcases ha with ha | ⟨b, o, rfl, hbs, hcl⟩
      · exact absurd hlt (by rw [ha]; exact Nat.not_lt_zero _)
      obtain ⟨y, hy⟩ : ∃ y, l.getD k 0 = y := ⟨_, rfl⟩
      have h1 : w.cell? ⟨b, o + k, none⟩ = some (.int .u8 y) := by rw [← hy]; exact hcl k hlt
      have QT := quotes_take l k hlt
      rw [hy] at QT
      clear hcl hy KN
      by_cases e : y = 34
      · subst e
        rw [if_pos rfl] at QT
        have QT := Hid.mk' QT
        go_wp2
        go_round
        case rel => exact ⟨k + 1, by omega, by go_num, by rw [QT.out]; go_num⟩
        case measure => simp [intOf]; omega
      · rw [if_neg e] at QT
        have QT := Hid.mk' QT
        go_wp2
        go_round
        case rel => exact ⟨k + 1, by omega, by go_num, by rw [QT.out, Nat.add_zero]⟩
        case measure => simp [intOf]; omega
    · have ci : ¬ (k : Int) < (l.length : Int) := by omega
      have e : k = l.length := by omega
      subst e
      rw [List.take_length]
      have E : Hid (quotedB l = (decide (quotes l % 2 = 1) && !noteB l)) := Hid.mk' rfl
      clear ha
      rw [List.take_length] at ql
      by_cases hq : quotes l % 2 = 1
      · have hq' : (quotes l : Int) % 2 = 1 := by omega
        rw [decide_eq_true hq] at E
        go_wp2_with (first | go_big_skip | (go_at_call 81; refine KN.out.mono ?_; rintro e9 w9 ⟨rfl, hw9⟩; obtain rfl := hw9.symm))
        go_ret
        exact ⟨by rw [E.out]; rfl, rfl⟩
      · have hq' : ¬ (quotes l : Int) % 2 = 1 := by omega
        rw [decide_eq_false hq] at E
        go_wp2_with (first | go_big_skip | (go_at_call 81; refine KN.out.mono ?_; rintro e9 w9 ⟨rfl, hw9⟩; obtain rfl := hw9.symm))
        go_ret
        exact ⟨by rw [E.out]; rfl, rfl⟩

def noneT (b : Int) : List Int := if b = 60 ∨ b = 38 then [] else [b]
def noneH (b : Int) : List Int := if b = 60 ∨ b = 38 then [b] else []

set_option maxRecDepth 100000 in
set_option maxHeartbeats 1600000 in
theorem l5None_any (b : Int) (w : World) (h0 : 0 ≤ b) (h1 : b ≤ 255) :
    Calls Try.prog 75 #[.int .u8 b] w fun e w' => FeedB (noneT b) (noneH b) w e w' := by
  by_cases hb : b = 60 ∨ b = 38
  · have E1 : Hid (noneT b = []) := Hid.mk' (by unfold noneT; rw [if_pos hb])
    have E2 : Hid (noneH b = [b]) := Hid.mk' (by unfold noneH; rw [if_pos hb])
    have F : Hid (FeedB (noneT b) (noneH b) w (.returned (.tuple #[.slice (some ⟨w.heap.size, 0, none⟩) 0 0, .slice (some ⟨w.heap.size + 1, 0, none⟩) 1 1])) ((w.alloc (.cells #[] 89)).alloc (.cells #[.int .u8 b] 5))) := Hid.mk' (by
      refine ⟨_, _, rfl, ?_, ?_, fun k e1 e2 => by simp [Value.ownBlock] at e1 e2; omega, (below_new _ _).alloc (by simp) _⟩
      · rw [E1.out]
        exact (World.ownsRow_lit (base := w.heap.size) (e := 89) (size := 5) w #[] 0 (Nat.le_refl _) (by unfold maxLen; omega) rfl).alloc _
      · rw [E2.out]
        have := World.ownsRow_lit (base := w.heap.size) (e := 5) (size := 1) (w.alloc (.cells #[] 89)) #[.int .u8 b] 1 (by simp) (by unfold maxLen; omega) rfl
        rw [World.heap_size_alloc'] at this
        exact this)
    rcases hb with rfl | rfl
    all_goals
      go_enter Try.func75, Try.ntmps75
      go_wp2_with go_big_skip
      go_ret2
      exact F.out
  · have n1 : ¬ b = 60 := fun e => hb (.inl e)
    have n2 : ¬ b = 38 := fun e => hb (.inr e)
    have E1 : Hid (noneT b = [b]) := Hid.mk' (by unfold noneT; rw [if_neg hb])
    have E2 : Hid (noneH b = []) := Hid.mk' (by unfold noneH; rw [if_neg hb])
    have e1b : (b == 60) = false := by simp [n1]
    have e2b : (b == 38) = false := by simp [n2]
    have N0 := below_new w (.cells #[.int .u8 b] 5)
    have BA : BAt (w.alloc (.cells #[.int .u8 b] 5)) (some ⟨w.heap.size, 0, none⟩) [b] := .inr ⟨_, _, rfl, by simp, fun k hk => by
      obtain rfl : k = 0 := by simpa using hk
      simp [bv]⟩
    have KG := Hid.mk' (l5Go_any (some ⟨w.heap.size, 0, none⟩) 1 [b] _ BA (fun k hk => by
      obtain rfl : k = 0 := by simpa using hk
      exact ⟨h0, h1⟩) (by simp))
    have HN := Hid.mk' N0
    clear hb n1 n2 N0 BA
    go_enter Try.func75, Try.ntmps75
    go_wp2_with (first | go_big_skip | fail)
    refine KG.out.mono ?_
    rintro e w1 ⟨v, rfl, ho, hb⟩
    have F : Hid (FeedB (noneT b) (noneH b) w (.returned (.tuple #[v, .slice (some ⟨w1.heap.size, 0, none⟩) 0 0])) (w1.alloc (.cells #[] 5))) := Hid.mk' (by
      have hw1 : w.heap.size ≤ w1.heap.size := Nat.le_trans HN.out.size hb.size
      refine ⟨_, _, rfl, ?_, ?_, fun k e1 e2 => ?_, (HN.out.trans (hb.mono HN.out.size)).alloc hw1 _⟩
      · rw [E1.out]
        have o2 : w1.ownsRow w.heap.size 89 5 v [b].length (tcs (bytesT [b]) (nils [b].length)) := by
          refine ⟨ho.1, ?_⟩
          rcases ho.2 with h | ⟨g, cap, cur, h1, h2, h3⟩
          · exact .inl h
          · exact .inr ⟨g, cap, cur, h1, Nat.le_trans HN.out.size h2, h3⟩
        exact o2.alloc _
      · rw [E2.out]
        exact World.ownsRow_lit (base := w.heap.size) (e := 5) (size := 1) w1 #[] 0 hw1 (by unfold maxLen; omega) rfl
      · have := (ho.lt k e1).2
        simp [Value.ownBlock] at e2
        omega)
    clear ho hb KG
    go_wp2
    go_ret2
    exact F.out

end Go.Proofs.Ytlaeomnacgjcgaa

namespace Go.Proofs.Ytlaeomnacgjcgaa
open Go.RowKit

theorem own_down {w : World} {base base' : Nat} {e : TypeId} {size : Nat} {v : Value} {n : Nat} {xs : List Value} (h : w.ownsRow base e size v n xs) (hb : base' ≤ base) : w.ownsRow base' e size v n xs := by
  refine ⟨h.1, ?_⟩
  rcases h.2 with h | ⟨g, cap, cur, h1, h2, h3⟩
  · exact .inl h
  · exact .inr ⟨g, cap, cur, h1, Nat.le_trans hb h2, h3⟩

theorem own_src {w : World} {base : Nat} {e : TypeId} {size : Nat} {v : Value} {n : Nat} {xs : List Value} (h : w.ownsRow base e size v n xs) : ∃ a c, v = .slice a n c ∧ (n = 0 ∨ ∃ ad, a = some ad ∧ ∀ j u, xs[j]? = some u → w.cell? (ad.add j) = some u) := by
  have h2 := h.2
  rcases h2 with ⟨rfl, h0⟩ | ⟨g, cap, cur, rfl, _⟩
  · subst h0; exact ⟨none, 0, rfl, .inl rfl⟩
  · exact ⟨_, _, rfl, .inr ⟨_, rfl, h.cells rfl⟩⟩

theorem bytesT_app (l m : List Int) : tcs (bytesT (l ++ m)) (nils (l ++ m).length) = tcs (bytesT l) (nils l.length) ++ tcs (bytesT m) (nils m.length) := by
  have e1 : bytesT (l ++ m) = bytesT l ++ bytesT m := by simp [bytesT]
  have e2 : nils (l ++ m).length = nils l.length ++ nils m.length := by unfold nils; rw [List.length_append, List.replicate_append_replicate]
  rw [e1, e2, tcs_app _ _ _ _ (by rw [nils_len, bytesT_len])]

theorem nils_one (n : Nat) : ∀ u ∈ nils n, u.oneCell' = true := by
  intro u hu
  unfold nils at hu
  rw [List.mem_replicate] at hu
  rw [hu.2]; rfl

theorem feed_app {w w2 w3 w4 w5 : World} {l T H R N : List Int} {v4 v5 u3 : Value} (e1 : R = l ++ T) (e2 : N = H) (hb : Below w.heap.size w w2) (ou : w3.ownsRow w2.heap.size 5 1 u3 H.length (bcs H)) (b3 : Below w2.heap.size w2 w3)
    (o4 : w4.ownsRow w3.heap.size 89 5 v4 l.length (tcs (bytesT l) (nils l.length))) (b4 : Below w3.heap.size w3 w4)
    (o5 : w5.ownsRow w.heap.size 89 5 v5 (l.length + T.length) (tcs (bytesT l) (nils l.length) ++ tcs (bytesT T) (nils T.length))) (g5 : w4.grownBy w5 v4.ownBlock) (a5 : v5.ownBlock = v4.ownBlock ∨ v5.ownBlock = some w4.heap.size) :
    FeedB R N w (.returned (.tuple #[v5, u3])) w5 := by
  subst e1 e2
  have s2 := hb.size
  have s3 := b3.size
  have s4 := b4.size
  have B3 : Below w.heap.size w w3 := hb.trans (b3.mono s2)
  have B4 : Below w.heap.size w w4 := B3.trans (b4.mono (Nat.le_trans s2 s3))
  have ne : ∀ k, u3.ownBlock = some k → k < w3.heap.size := fun k hk => (ou.lt k hk).2
  have v4lo : ∀ k, v4.ownBlock = some k → w3.heap.size ≤ k := own_lo o4
  refine ⟨_, _, rfl, ?_, ?_, fun k h1 h2 => ?_, B4.grown g5 (by omega) (fun k hk => by have := v4lo k hk; omega)⟩
  · rw [bytesT_app, List.length_append]; exact o5
  · refine own_down ((own_keep ou b4).kept g5 ?_) s2
    cases hu : u3.ownBlock with
    | none => exact .inl rfl
    | some k => exact .inr (fun e => by have := ne k hu; have := v4lo k e.symm; omega)
  · have := ne k h2
    rcases a5 with e | e
    · rw [e] at h1; have := v4lo k h1; omega
    · rw [e] at h1; injection h1 with h1; omega

theorem strI_size (l : List Int) : (strI l).size = l.length := by
  have : ∀ (l : List Int) (r : ByteArray), (l.foldl (fun r n => r.push (UInt8.ofNat n.toNat)) r).size = r.size + l.length := by
    intro l
    induction l with
    | nil => intro r; simp
    | cons x l ih => intro r; rw [List.foldl_cons, ih, ByteArray.size_push, List.length_cons]; omega
  have := this l ByteArray.empty
  unfold strI
  rw [this]
  simp

def Byt (l : List Int) : Prop := ∀ k, k < l.length → 0 ≤ l.getD k 0 ∧ l.getD k 0 ≤ 255

theorem Byt.snoc {l : List Int} (h : Byt l) (b : Nat) (hb : b ≤ 255) : Byt (l ++ [(b : Int)]) := by
  intro k hk
  simp only [List.length_append, List.length_cons, List.length_nil] at hk
  by_cases e : k < l.length
  · have := h k e
    rw [List.getD_eq_getElem?_getD] at this ⊢
    rw [List.getElem?_append_left e]
    exact this
  · have e : k = l.length := by omega
    subst e
    simp
    omega

theorem feed_go {w w2 w3 : World} {m T H : List Int} {v : Value} (e1 : T = m) (e2 : H = []) (hb : Below w.heap.size w w2) (ho : w3.ownsRow w2.heap.size 89 5 v m.length (tcs (bytesT m) (nils m.length))) (h3 : Below w2.heap.size w2 w3) :
    FeedB T H w (.returned (.tuple #[v, .slice (some ⟨w3.heap.size, 0, none⟩) 0 0])) (w3.alloc (.cells #[] 5)) := by
  subst e1 e2
  have hs : w.heap.size ≤ w3.heap.size := Nat.le_trans hb.size h3.size
  refine ⟨_, _, rfl, (own_down ho hb.size).alloc _, ?_, fun k e1 e2 => ?_, (hb.trans (h3.mono hb.size)).alloc hs _⟩
  · exact World.ownsRow_lit (base := w.heap.size) (e := 5) (size := 1) w3 #[] 0 hs (by unfold maxLen; omega) rfl
  · have := (ho.lt k e1).2
    simp [Value.ownBlock] at e2
    omega

theorem feed_hold {w w2 : World} {m T H : List Int} {v : Value} (e1 : T = []) (e2 : H = m) (hb : Below w.heap.size w w2) (ho : w2.ownsRow w.heap.size 5 1 v m.length (bcs m)) :
    FeedB T H w (.returned (.tuple #[.slice (some ⟨w2.heap.size, 0, none⟩) 0 0, v])) (w2.alloc (.cells #[] 89)) := by
  subst e1 e2
  refine ⟨_, _, rfl, ?_, ho.alloc _, fun k e1 e2 => ?_, hb.alloc hb.size _⟩
  · exact World.ownsRow_lit (base := w.heap.size) (e := 89) (size := 5) w2 #[] 0 hb.size (by unfold maxLen; omega) rfl
  · have := (ho.lt k e2).2
    simp [Value.ownBlock] at e1
    omega

def refB (b : Nat) : Bool := ltrB b || (decide (48 ≤ b) && decide (b ≤ 57)) || decide (b = 35)

def strU (l : List Int) : List UInt8 := (strI l).data.toList

def refT (l : List Int) (b : Nat) : List Int :=
  if b = 59 then (if (refOf (strU (l ++ [(b : Int)]))).2 = l.length + 1 then [((refOf (strU (l ++ [(b : Int)]))).1 : Int)] else l ++ [(b : Int)])
  else if refB b = true then (if 6 ≤ l.length + 1 then l ++ [(b : Int)] else [])
  else l ++ noneT b
def refH (l : List Int) (b : Nat) : List Int :=
  if b = 59 then [] else if refB b = true then (if 6 ≤ l.length + 1 then [] else l ++ [(b : Int)]) else noneH b

set_option maxRecDepth 100000 in
set_option maxHeartbeats 1600000 in
theorem l5Ref_a6 (a : Option Addr) (c : Nat) (l : List Int) (b : Nat) (w : World) (ha : BAt w a l) (hu : Byt l) (hl : l.length ≤ 200) (hb : b ≤ 255) (n59 : ¬ b = 59) (hr : ltrB b = true) (h6 : 6 ≤ l.length + 1) :
    Calls Try.prog 76 #[.slice a l.length c, .int .u8 b] w fun e w' => FeedB (refT l b) (refH l b) w e w' := by
  obtain ⟨m, hm⟩ : ∃ m, m = l ++ [(b : Int)] := ⟨_, rfl⟩
  have lm : m.length = l.length + 1 := by rw [hm]; simp
  have hum : Hid (Byt m) := Hid.mk' (by rw [hm]; exact hu.snoc b hb)
  have HM : Hid (bcs m = bcs l ++ [.int .u8 b]) := Hid.mk' (by rw [hm, bcs_append]; rfl)
  have n59' : ¬ (b : Int) = 59 := by omega
  have RB : refB b = true := by unfold refB; rw [hr]; rfl
  have E1 : Hid (refT l b = m) := Hid.mk' (by unfold refT; rw [if_neg n59, if_pos RB, if_pos h6]; exact hm.symm)
  have E2 : Hid (refH l b = []) := Hid.mk' (by unfold refH; rw [if_neg n59, if_pos RB, if_pos h6])
  have g6 : (m.length : Int) ≥ 6 := by omega
  have KL : Hid (∀ w, Calls Try.prog 61 #[.int .u8 b] w fun e w' => e = .returned (.bool true) ∧ w' = w) := Hid.mk' (fun w => by have := letter_any b w; rw [hr] at this; exact this)
  clear RB h6 n59 hr
  have KC := Hid.mk' (l1Copy_own a c l w ha (by omega))
  have HA := Hid.mk' ha
  have HU := Hid.mk' hu
  have LM := Hid.mk' lm
  clear ha hu hm lm
  go_enter Try.func76, Try.ntmps76
  go_wp2_with (first | go_big_skip | fail)
  refine KC.out.mono ?_
  rintro e w1 ⟨v, rfl, ho, hbl⟩
  have VB := below_new w1 (.cells #[.int .u8 b] 5)
  have OV := Hid.mk' (own_keep ho VB)
  have NC := Hid.mk' (new_cells' w1 5 [.int .u8 b] w1.heap.size rfl)
  have HB := Hid.mk' (hbl.trans (VB.mono hbl.size))
  have SZ := Hid.mk' HB.out.size
  have P1 : Hid (∀ u ∈ ([.int .u8 b] : List Value), u.oneCell' = true) := Hid.mk' (by
    intro u hu'
    simp only [List.mem_cons, List.not_mem_nil, or_false] at hu'
    subst hu'; rfl)
  clear ho hbl VB KC
  go_wp2_with (first | go_big_skip | (at_builtin; refine wpList_append_at _ rfl (.tmp 12) (.tmp 14) 22 rfl w.heap.size 5 (.int .u8 0) 1 1 Try.underlying22 Try.info5 rfl (by decide) _ _ _ rfl OV.out _ 1 _ [.int .u8 b] rfl rfl (.inr ⟨_, rfl, NC.out⟩) P1.out (by unfold maxLen; omega) (by omega) SZ.out ?_; intro v' w2 ho hgr hat; have OA : Hid (w2.ownsRow w.heap.size 5 1 v' m.length (bcs m)) := Hid.mk' (by rw [HM.out, LM.out]; exact ho); have BW := Hid.mk' (HB.out.grown hgr SZ.out (own_lo OV.out)); obtain ⟨aa, cc, rfl, ba⟩ := (OB.of_own OA.out).1.len; have BA := Hid.mk' ba; clear ho hgr hat ba) | (go_at_call 61; refine (KL.out _).mono ?_; rintro e9 w9 ⟨rfl, hw9⟩; subst hw9))
  refine (l5Go_any aa cc m _ BA.out hum.out (by have := LM.out; omega)).mono ?_
  rintro e w3 ⟨v3, rfl, o3, b3⟩
  have F := Hid.mk' (feed_go E1.out E2.out BW.out o3 b3)
  clear o3 b3
  go_wp2
  go_ret2
  exact F.out

set_option maxRecDepth 100000 in
set_option maxHeartbeats 1600000 in
theorem l5Ref_a0 (a : Option Addr) (c : Nat) (l : List Int) (b : Nat) (w : World) (ha : BAt w a l) (hu : Byt l) (hl : l.length ≤ 200) (hb : b ≤ 255) (n59 : ¬ b = 59) (hr : ltrB b = true) (h6 : ¬ 6 ≤ l.length + 1) :
    Calls Try.prog 76 #[.slice a l.length c, .int .u8 b] w fun e w' => FeedB (refT l b) (refH l b) w e w' := by
  obtain ⟨m, hm⟩ : ∃ m, m = l ++ [(b : Int)] := ⟨_, rfl⟩
  have lm : m.length = l.length + 1 := by rw [hm]; simp
  have hum : Hid (Byt m) := Hid.mk' (by rw [hm]; exact hu.snoc b hb)
  have HM : Hid (bcs m = bcs l ++ [.int .u8 b]) := Hid.mk' (by rw [hm, bcs_append]; rfl)
  have n59' : ¬ (b : Int) = 59 := by omega
  have RB : refB b = true := by unfold refB; rw [hr]; rfl
  have E1 : Hid (refT l b = []) := Hid.mk' (by unfold refT; rw [if_neg n59, if_pos RB, if_neg h6])
  have E2 : Hid (refH l b = m) := Hid.mk' (by unfold refH; rw [if_neg n59, if_pos RB, if_neg h6]; exact hm.symm)
  have g6 : ¬ (m.length : Int) ≥ 6 := by omega
  have KL : Hid (∀ w, Calls Try.prog 61 #[.int .u8 b] w fun e w' => e = .returned (.bool true) ∧ w' = w) := Hid.mk' (fun w => by have := letter_any b w; rw [hr] at this; exact this)
  clear RB h6 n59 hr
  have KC := Hid.mk' (l1Copy_own a c l w ha (by omega))
  have HA := Hid.mk' ha
  have HU := Hid.mk' hu
  have LM := Hid.mk' lm
  clear ha hu hm lm
  go_enter Try.func76, Try.ntmps76
  go_wp2_with (first | go_big_skip | fail)
  refine KC.out.mono ?_
  rintro e w1 ⟨v, rfl, ho, hbl⟩
  have VB := below_new w1 (.cells #[.int .u8 b] 5)
  have OV := Hid.mk' (own_keep ho VB)
  have NC := Hid.mk' (new_cells' w1 5 [.int .u8 b] w1.heap.size rfl)
  have HB := Hid.mk' (hbl.trans (VB.mono hbl.size))
  have SZ := Hid.mk' HB.out.size
  have P1 : Hid (∀ u ∈ ([.int .u8 b] : List Value), u.oneCell' = true) := Hid.mk' (by
    intro u hu'
    simp only [List.mem_cons, List.not_mem_nil, or_false] at hu'
    subst hu'; rfl)
  clear ho hbl VB KC
  go_wp2_with (first | go_big_skip | (at_builtin; refine wpList_append_at _ rfl (.tmp 12) (.tmp 14) 22 rfl w.heap.size 5 (.int .u8 0) 1 1 Try.underlying22 Try.info5 rfl (by decide) _ _ _ rfl OV.out _ 1 _ [.int .u8 b] rfl rfl (.inr ⟨_, rfl, NC.out⟩) P1.out (by unfold maxLen; omega) (by omega) SZ.out ?_; intro v' w2 ho hgr hat; have OA : Hid (w2.ownsRow w.heap.size 5 1 v' m.length (bcs m)) := Hid.mk' (by rw [HM.out, LM.out]; exact ho); have BW := Hid.mk' (HB.out.grown hgr SZ.out (own_lo OV.out)); obtain ⟨aa, cc, rfl, ba⟩ := (OB.of_own OA.out).1.len; have BA := Hid.mk' ba; clear ho hgr hat ba) | (go_at_call 61; refine (KL.out _).mono ?_; rintro e9 w9 ⟨rfl, hw9⟩; subst hw9))
  have F := Hid.mk' (feed_hold E1.out E2.out BW.out OA.out)
  go_ret2
  exact F.out

set_option maxRecDepth 100000 in
set_option maxHeartbeats 1600000 in
theorem l5Ref_b6 (a : Option Addr) (c : Nat) (l : List Int) (b : Nat) (w : World) (ha : BAt w a l) (hu : Byt l) (hl : l.length ≤ 200) (hb : b ≤ 255) (n59 : ¬ b = 59) (hr : ltrB b = false) (h48 : 48 ≤ b) (h57 : b ≤ 57) (h6 : 6 ≤ l.length + 1) :
    Calls Try.prog 76 #[.slice a l.length c, .int .u8 b] w fun e w' => FeedB (refT l b) (refH l b) w e w' := by
  obtain ⟨m, hm⟩ : ∃ m, m = l ++ [(b : Int)] := ⟨_, rfl⟩
  have lm : m.length = l.length + 1 := by rw [hm]; simp
  have hum : Hid (Byt m) := Hid.mk' (by rw [hm]; exact hu.snoc b hb)
  have HM : Hid (bcs m = bcs l ++ [.int .u8 b]) := Hid.mk' (by rw [hm, bcs_append]; rfl)
  have n59' : ¬ (b : Int) = 59 := by omega
  have RB : refB b = true := by unfold refB; rw [hr, decide_eq_true h48, decide_eq_true h57]; rfl
  have E1 : Hid (refT l b = m) := Hid.mk' (by unfold refT; rw [if_neg n59, if_pos RB, if_pos h6]; exact hm.symm)
  have E2 : Hid (refH l b = []) := Hid.mk' (by unfold refH; rw [if_neg n59, if_pos RB, if_pos h6])
  have g6 : (m.length : Int) ≥ 6 := by omega
  have KL : Hid (∀ w, Calls Try.prog 61 #[.int .u8 b] w fun e w' => e = .returned (.bool false) ∧ w' = w) := Hid.mk' (fun w => by have := letter_any b w; rw [hr] at this; exact this)
  have h48' : (b : Int) ≥ 48 := by omega
  have h57' : (b : Int) ≤ 57 := by omega
  clear RB h6 n59 hr
  have KC := Hid.mk' (l1Copy_own a c l w ha (by omega))
  have HA := Hid.mk' ha
  have HU := Hid.mk' hu
  have LM := Hid.mk' lm
  clear ha hu hm lm
  go_enter Try.func76, Try.ntmps76
  go_wp2_with (first | go_big_skip | fail)
  refine KC.out.mono ?_
  rintro e w1 ⟨v, rfl, ho, hbl⟩
  have VB := below_new w1 (.cells #[.int .u8 b] 5)
  have OV := Hid.mk' (own_keep ho VB)
  have NC := Hid.mk' (new_cells' w1 5 [.int .u8 b] w1.heap.size rfl)
  have HB := Hid.mk' (hbl.trans (VB.mono hbl.size))
  have SZ := Hid.mk' HB.out.size
  have P1 : Hid (∀ u ∈ ([.int .u8 b] : List Value), u.oneCell' = true) := Hid.mk' (by
    intro u hu'
    simp only [List.mem_cons, List.not_mem_nil, or_false] at hu'
    subst hu'; rfl)
  clear ho hbl VB KC
  go_wp2_with (first | go_big_skip | (at_builtin; refine wpList_append_at _ rfl (.tmp 12) (.tmp 14) 22 rfl w.heap.size 5 (.int .u8 0) 1 1 Try.underlying22 Try.info5 rfl (by decide) _ _ _ rfl OV.out _ 1 _ [.int .u8 b] rfl rfl (.inr ⟨_, rfl, NC.out⟩) P1.out (by unfold maxLen; omega) (by omega) SZ.out ?_; intro v' w2 ho hgr hat; have OA : Hid (w2.ownsRow w.heap.size 5 1 v' m.length (bcs m)) := Hid.mk' (by rw [HM.out, LM.out]; exact ho); have BW := Hid.mk' (HB.out.grown hgr SZ.out (own_lo OV.out)); obtain ⟨aa, cc, rfl, ba⟩ := (OB.of_own OA.out).1.len; have BA := Hid.mk' ba; clear ho hgr hat ba) | (go_at_call 61; refine (KL.out _).mono ?_; rintro e9 w9 ⟨rfl, hw9⟩; subst hw9))
  refine (l5Go_any aa cc m _ BA.out hum.out (by have := LM.out; omega)).mono ?_
  rintro e w3 ⟨v3, rfl, o3, b3⟩
  have F := Hid.mk' (feed_go E1.out E2.out BW.out o3 b3)
  clear o3 b3
  go_wp2
  go_ret2
  exact F.out

set_option maxRecDepth 100000 in
set_option maxHeartbeats 1600000 in
theorem l5Ref_b0 (a : Option Addr) (c : Nat) (l : List Int) (b : Nat) (w : World) (ha : BAt w a l) (hu : Byt l) (hl : l.length ≤ 200) (hb : b ≤ 255) (n59 : ¬ b = 59) (hr : ltrB b = false) (h48 : 48 ≤ b) (h57 : b ≤ 57) (h6 : ¬ 6 ≤ l.length + 1) :
    Calls Try.prog 76 #[.slice a l.length c, .int .u8 b] w fun e w' => FeedB (refT l b) (refH l b) w e w' := by
  obtain ⟨m, hm⟩ : ∃ m, m = l ++ [(b : Int)] := ⟨_, rfl⟩
  have lm : m.length = l.length + 1 := by rw [hm]; simp
  have hum : Hid (Byt m) := Hid.mk' (by rw [hm]; exact hu.snoc b hb)
  have HM : Hid (bcs m = bcs l ++ [.int .u8 b]) := Hid.mk' (by rw [hm, bcs_append]; rfl)
  have n59' : ¬ (b : Int) = 59 := by omega
  have RB : refB b = true := by unfold refB; rw [hr, decide_eq_true h48, decide_eq_true h57]; rfl
  have E1 : Hid (refT l b = []) := Hid.mk' (by unfold refT; rw [if_neg n59, if_pos RB, if_neg h6])
  have E2 : Hid (refH l b = m) := Hid.mk' (by unfold refH; rw [if_neg n59, if_pos RB, if_neg h6]; exact hm.symm)
  have g6 : ¬ (m.length : Int) ≥ 6 := by omega
  have KL : Hid (∀ w, Calls Try.prog 61 #[.int .u8 b] w fun e w' => e = .returned (.bool false) ∧ w' = w) := Hid.mk' (fun w => by have := letter_any b w; rw [hr] at this; exact this)
  have h48' : (b : Int) ≥ 48 := by omega
  have h57' : (b : Int) ≤ 57 := by omega
  clear RB h6 n59 hr
  have KC := Hid.mk' (l1Copy_own a c l w ha (by omega))
  have HA := Hid.mk' ha
  have HU := Hid.mk' hu
  have LM := Hid.mk' lm
  clear ha hu hm lm
  go_enter Try.func76, Try.ntmps76
  go_wp2_with (first | go_big_skip | fail)
  refine KC.out.mono ?_
  rintro e w1 ⟨v, rfl, ho, hbl⟩
  have VB := below_new w1 (.cells #[.int .u8 b] 5)
  have OV := Hid.mk' (own_keep ho VB)
  have NC := Hid.mk' (new_cells' w1 5 [.int .u8 b] w1.heap.size rfl)
  have HB := Hid.mk' (hbl.trans (VB.mono hbl.size))
  have SZ := Hid.mk' HB.out.size
  have P1 : Hid (∀ u ∈ ([.int .u8 b] : List Value), u.oneCell' = true) := Hid.mk' (by
    intro u hu'
    simp only [List.mem_cons, List.not_mem_nil, or_false] at hu'
    subst hu'; rfl)
  clear ho hbl VB KC
  go_wp2_with (first | go_big_skip | (at_builtin; refine wpList_append_at _ rfl (.tmp 12) (.tmp 14) 22 rfl w.heap.size 5 (.int .u8 0) 1 1 Try.underlying22 Try.info5 rfl (by decide) _ _ _ rfl OV.out _ 1 _ [.int .u8 b] rfl rfl (.inr ⟨_, rfl, NC.out⟩) P1.out (by unfold maxLen; omega) (by omega) SZ.out ?_; intro v' w2 ho hgr hat; have OA : Hid (w2.ownsRow w.heap.size 5 1 v' m.length (bcs m)) := Hid.mk' (by rw [HM.out, LM.out]; exact ho); have BW := Hid.mk' (HB.out.grown hgr SZ.out (own_lo OV.out)); obtain ⟨aa, cc, rfl, ba⟩ := (OB.of_own OA.out).1.len; have BA := Hid.mk' ba; clear ho hgr hat ba) | (go_at_call 61; refine (KL.out _).mono ?_; rintro e9 w9 ⟨rfl, hw9⟩; subst hw9))
  have F := Hid.mk' (feed_hold E1.out E2.out BW.out OA.out)
  go_ret2
  exact F.out

set_option maxRecDepth 100000 in
set_option maxHeartbeats 1600000 in
theorem l5Ref_c6 (a : Option Addr) (c : Nat) (l : List Int) (b : Nat) (w : World) (ha : BAt w a l) (hu : Byt l) (hl : l.length ≤ 200) (hb : b ≤ 255) (hr : ltrB b = false) (h35 : b = 35) (h6 : 6 ≤ l.length + 1) :
    Calls Try.prog 76 #[.slice a l.length c, .int .u8 b] w fun e w' => FeedB (refT l b) (refH l b) w e w' := by
  obtain ⟨m, hm⟩ : ∃ m, m = l ++ [(b : Int)] := ⟨_, rfl⟩
  have lm : m.length = l.length + 1 := by rw [hm]; simp
  have hum : Hid (Byt m) := Hid.mk' (by rw [hm]; exact hu.snoc b hb)
  have HM : Hid (bcs m = bcs l ++ [.int .u8 b]) := Hid.mk' (by rw [hm, bcs_append]; rfl)
  have n59 : ¬ b = 59 := by omega
  have RB : refB b = true := by unfold refB; rw [hr, decide_eq_true h35]; simp
  have E1 : Hid (refT l b = m) := Hid.mk' (by unfold refT; rw [if_neg n59, if_pos RB, if_pos h6]; exact hm.symm)
  have E2 : Hid (refH l b = []) := Hid.mk' (by unfold refH; rw [if_neg n59, if_pos RB, if_pos h6])
  have g6 : (m.length : Int) ≥ 6 := by omega
  have KL : Hid (∀ w, Calls Try.prog 61 #[.int .u8 b] w fun e w' => e = .returned (.bool false) ∧ w' = w) := Hid.mk' (fun w => by have := letter_any b w; rw [hr] at this; exact this)
  have h35' : ((b : Int) == 35) = true := by rw [beq_iff_eq]; omega
  have h48' : ¬ (b : Int) ≥ 48 := by omega
  have n59' : ¬ (b : Int) = 59 := by omega
  clear RB h6 n59 hr h35
  have KC := Hid.mk' (l1Copy_own a c l w ha (by omega))
  have HA := Hid.mk' ha
  have HU := Hid.mk' hu
  have LM := Hid.mk' lm
  clear ha hu hm lm
  go_enter Try.func76, Try.ntmps76
  go_wp2_with (first | go_big_skip | fail)
  refine KC.out.mono ?_
  rintro e w1 ⟨v, rfl, ho, hbl⟩
  have VB := below_new w1 (.cells #[.int .u8 b] 5)
  have OV := Hid.mk' (own_keep ho VB)
  have NC := Hid.mk' (new_cells' w1 5 [.int .u8 b] w1.heap.size rfl)
  have HB := Hid.mk' (hbl.trans (VB.mono hbl.size))
  have SZ := Hid.mk' HB.out.size
  have P1 : Hid (∀ u ∈ ([.int .u8 b] : List Value), u.oneCell' = true) := Hid.mk' (by
    intro u hu'
    simp only [List.mem_cons, List.not_mem_nil, or_false] at hu'
    subst hu'; rfl)
  clear ho hbl VB KC
  go_wp2_with (first | go_big_skip | (at_builtin; refine wpList_append_at _ rfl (.tmp 12) (.tmp 14) 22 rfl w.heap.size 5 (.int .u8 0) 1 1 Try.underlying22 Try.info5 rfl (by decide) _ _ _ rfl OV.out _ 1 _ [.int .u8 b] rfl rfl (.inr ⟨_, rfl, NC.out⟩) P1.out (by unfold maxLen; omega) (by omega) SZ.out ?_; intro v' w2 ho hgr hat; have OA : Hid (w2.ownsRow w.heap.size 5 1 v' m.length (bcs m)) := Hid.mk' (by rw [HM.out, LM.out]; exact ho); have BW := Hid.mk' (HB.out.grown hgr SZ.out (own_lo OV.out)); obtain ⟨aa, cc, rfl, ba⟩ := (OB.of_own OA.out).1.len; have BA := Hid.mk' ba; clear ho hgr hat ba) | (go_at_call 61; refine (KL.out _).mono ?_; rintro e9 w9 ⟨rfl, hw9⟩; subst hw9))
  refine (l5Go_any aa cc m _ BA.out hum.out (by have := LM.out; omega)).mono ?_
  rintro e w3 ⟨v3, rfl, o3, b3⟩
  have F := Hid.mk' (feed_go E1.out E2.out BW.out o3 b3)
  clear o3 b3
  go_wp2
  go_ret2
  exact F.out

set_option maxRecDepth 100000 in
set_option maxHeartbeats 1600000 in
theorem l5Ref_c0 (a : Option Addr) (c : Nat) (l : List Int) (b : Nat) (w : World) (ha : BAt w a l) (hu : Byt l) (hl : l.length ≤ 200) (hb : b ≤ 255) (hr : ltrB b = false) (h35 : b = 35) (h6 : ¬ 6 ≤ l.length + 1) :
    Calls Try.prog 76 #[.slice a l.length c, .int .u8 b] w fun e w' => FeedB (refT l b) (refH l b) w e w' := by
  obtain ⟨m, hm⟩ : ∃ m, m = l ++ [(b : Int)] := ⟨_, rfl⟩
  have lm : m.length = l.length + 1 := by rw [hm]; simp
  have hum : Hid (Byt m) := Hid.mk' (by rw [hm]; exact hu.snoc b hb)
  have HM : Hid (bcs m = bcs l ++ [.int .u8 b]) := Hid.mk' (by rw [hm, bcs_append]; rfl)
  have n59 : ¬ b = 59 := by omega
  have RB : refB b = true := by unfold refB; rw [hr, decide_eq_true h35]; simp
  have E1 : Hid (refT l b = []) := Hid.mk' (by unfold refT; rw [if_neg n59, if_pos RB, if_neg h6])
  have E2 : Hid (refH l b = m) := Hid.mk' (by unfold refH; rw [if_neg n59, if_pos RB, if_neg h6]; exact hm.symm)
  have g6 : ¬ (m.length : Int) ≥ 6 := by omega
  have KL : Hid (∀ w, Calls Try.prog 61 #[.int .u8 b] w fun e w' => e = .returned (.bool false) ∧ w' = w) := Hid.mk' (fun w => by have := letter_any b w; rw [hr] at this; exact this)
  have h35' : ((b : Int) == 35) = true := by rw [beq_iff_eq]; omega
  have h48' : ¬ (b : Int) ≥ 48 := by omega
  have n59' : ¬ (b : Int) = 59 := by omega
  clear RB h6 n59 hr h35
  have KC := Hid.mk' (l1Copy_own a c l w ha (by omega))
  have HA := Hid.mk' ha
  have HU := Hid.mk' hu
  have LM := Hid.mk' lm
  clear ha hu hm lm
  go_enter Try.func76, Try.ntmps76
  go_wp2_with (first | go_big_skip | fail)
  refine KC.out.mono ?_
  rintro e w1 ⟨v, rfl, ho, hbl⟩
  have VB := below_new w1 (.cells #[.int .u8 b] 5)
  have OV := Hid.mk' (own_keep ho VB)
  have NC := Hid.mk' (new_cells' w1 5 [.int .u8 b] w1.heap.size rfl)
  have HB := Hid.mk' (hbl.trans (VB.mono hbl.size))
  have SZ := Hid.mk' HB.out.size
  have P1 : Hid (∀ u ∈ ([.int .u8 b] : List Value), u.oneCell' = true) := Hid.mk' (by
    intro u hu'
    simp only [List.mem_cons, List.not_mem_nil, or_false] at hu'
    subst hu'; rfl)
  clear ho hbl VB KC
  go_wp2_with (first | go_big_skip | (at_builtin; refine wpList_append_at _ rfl (.tmp 12) (.tmp 14) 22 rfl w.heap.size 5 (.int .u8 0) 1 1 Try.underlying22 Try.info5 rfl (by decide) _ _ _ rfl OV.out _ 1 _ [.int .u8 b] rfl rfl (.inr ⟨_, rfl, NC.out⟩) P1.out (by unfold maxLen; omega) (by omega) SZ.out ?_; intro v' w2 ho hgr hat; have OA : Hid (w2.ownsRow w.heap.size 5 1 v' m.length (bcs m)) := Hid.mk' (by rw [HM.out, LM.out]; exact ho); have BW := Hid.mk' (HB.out.grown hgr SZ.out (own_lo OV.out)); obtain ⟨aa, cc, rfl, ba⟩ := (OB.of_own OA.out).1.len; have BA := Hid.mk' ba; clear ho hgr hat ba) | (go_at_call 61; refine (KL.out _).mono ?_; rintro e9 w9 ⟨rfl, hw9⟩; subst hw9))
  have F := Hid.mk' (feed_hold E1.out E2.out BW.out OA.out)
  go_ret2
  exact F.out

set_option maxRecDepth 100000 in
set_option maxHeartbeats 1600000 in
theorem l5Ref_d (a : Option Addr) (c : Nat) (l : List Int) (b : Nat) (w : World) (ha : BAt w a l) (hu : Byt l) (hl : l.length ≤ 200) (hb : b ≤ 255) (n59 : ¬ b = 59) (hr : ltrB b = false) (h48 : ¬ 48 ≤ b) (h35 : ¬ b = 35) :
    Calls Try.prog 76 #[.slice a l.length c, .int .u8 b] w fun e w' => FeedB (refT l b) (refH l b) w e w' := by
  obtain ⟨m, hm⟩ : ∃ m, m = l ++ [(b : Int)] := ⟨_, rfl⟩
  have lm : m.length = l.length + 1 := by rw [hm]; simp
  have hum : Hid (Byt m) := Hid.mk' (by rw [hm]; exact hu.snoc b hb)
  have HM : Hid (bcs m = bcs l ++ [.int .u8 b]) := Hid.mk' (by rw [hm, bcs_append]; rfl)
  have n59' : ¬ (b : Int) = 59 := by omega
  have h35' : ¬ (b : Int) = 35 := by omega
  have RB : ¬ refB b = true := by
    have : refB b = false := by unfold refB; rw [hr, decide_eq_false h48, decide_eq_false h35]; rfl
    rw [this]; simp
  have E1 : Hid (refT l b = l ++ noneT b) := Hid.mk' (by unfold refT; rw [if_neg n59, if_neg RB])
  have E2 : Hid (refH l b = noneH b) := Hid.mk' (by unfold refH; rw [if_neg n59, if_neg RB])
  have lT : (noneT (b : Int)).length ≤ 1 := by unfold noneT; split <;> simp
  have KL : Hid (∀ w, Calls Try.prog 61 #[.int .u8 b] w fun e w' => e = .returned (.bool false) ∧ w' = w) := Hid.mk' (fun w => by have := letter_any b w; rw [hr] at this; exact this)
  have h48' : ¬ (b : Int) ≥ 48 := by omega
  clear RB n59 hr h35 h48
  have KC := Hid.mk' (l1Copy_own a c l w ha (by omega))
  have HA := Hid.mk' ha
  have HU := Hid.mk' hu
  have LM := Hid.mk' lm
  clear ha hu hm lm
  go_enter Try.func76, Try.ntmps76
  go_wp2_with (first | go_big_skip | fail)
  refine KC.out.mono ?_
  rintro e w1 ⟨v, rfl, ho, hbl⟩
  have VB := below_new w1 (.cells #[.int .u8 b] 5)
  have OV := Hid.mk' (own_keep ho VB)
  have NC := Hid.mk' (new_cells' w1 5 [.int .u8 b] w1.heap.size rfl)
  have HB := Hid.mk' (hbl.trans (VB.mono hbl.size))
  have SZ := Hid.mk' HB.out.size
  have P1 : Hid (∀ u ∈ ([.int .u8 b] : List Value), u.oneCell' = true) := Hid.mk' (by
    intro u hu'
    simp only [List.mem_cons, List.not_mem_nil, or_false] at hu'
    subst hu'; rfl)
  clear ho hbl VB KC
  go_wp2_with (first | go_big_skip | (at_builtin; refine wpList_append_at _ rfl (.tmp 12) (.tmp 14) 22 rfl w.heap.size 5 (.int .u8 0) 1 1 Try.underlying22 Try.info5 rfl (by decide) _ _ _ rfl OV.out _ 1 _ [.int .u8 b] rfl rfl (.inr ⟨_, rfl, NC.out⟩) P1.out (by unfold maxLen; omega) (by omega) SZ.out ?_; intro v' w2 ho hgr hat; have OA : Hid (w2.ownsRow w.heap.size 5 1 v' m.length (bcs m)) := Hid.mk' (by rw [HM.out, LM.out]; exact ho); have BW := Hid.mk' (HB.out.grown hgr SZ.out (own_lo OV.out)); obtain ⟨aa, cc, rfl, ba⟩ := (OB.of_own OA.out).1.len; have BA := Hid.mk' ba; clear ho hgr hat ba) | (go_at_call 61; refine (KL.out _).mono ?_; rintro e9 w9 ⟨rfl, hw9⟩; subst hw9))
  refine (l5None_any b _ (by omega) (by omega)).mono ?_
  rintro e w3 ⟨v3, u3, rfl, o3, ou3, ap3, b3⟩
  obtain ⟨a3, c3, rfl, s3⟩ := own_src o3
  have B3 := Hid.mk' (BW.out.trans (b3.mono BW.out.size))
  have O3 := Hid.mk' (And.intro o3 (And.intro ou3 b3))
  have S3 := Hid.mk' s3
  have ln3 := tcs_len (bytesT (noneT (b : Int))) (nils (noneT (b : Int)).length) (by rw [nils_len, bytesT_len])
  rw [bytesT_len] at ln3
  have LN := Hid.mk' ln3
  have T1 := Hid.mk' (tcs_one (bytesT (noneT (b : Int))) (nils (noneT (b : Int)).length) (nils_one _))
  clear o3 ou3 ap3 b3 s3 ln3
  have KG := Hid.mk' (l5Go_any a c l w3 (HA.out.below B3.out) HU.out (by omega))
  go_wp2_with (first | go_big_skip | fail)
  refine KG.out.mono ?_
  rintro e w4 ⟨v4, rfl, o4, b4⟩
  have O4 := Hid.mk' (own_down o4 B3.out.size)
  have K4 := Hid.mk' (And.intro o4 b4)
  have S4 : Hid ((noneT (b : Int)).length = 0 ∨ ∃ ad, a3 = some ad ∧ ∀ j u, (tcs (bytesT (noneT (b : Int))) (nils (noneT (b : Int)).length))[j]? = some u → w4.cell? (ad.add j) = some u) := Hid.mk' (by
    obtain ⟨a3', c3', e3, s3⟩ := own_src (own_keep O3.out.1 b4)
    injection e3 with e3 _ _
    subst e3
    exact s3)
  have Z4 : Hid (w.heap.size ≤ w4.heap.size) := Hid.mk' (Nat.le_trans B3.out.size b4.size)
  clear o4 b4 KG
  go_wp2_with (first | go_big_skip | (at_builtin; refine wpList_append_at _ rfl (.tmp 64) (.tmp 65) 82 rfl w.heap.size 89 (.agg #[.int .i64 0, .int .i64 0, .string ⟨#[]⟩, .slice none 0 0, .bool false]) 5 64 Try.underlying82 Try.infoTok rfl (by decide) _ _ _ rfl O4.out a3 _ c3 (tcs (bytesT (noneT (b : Int))) (nils (noneT (b : Int)).length)) rfl LN.out S4.out T1.out (by unfold maxLen; omega) (by omega) Z4.out ?_; intro v5 w5 o5 g5 a5; have F := Hid.mk' (feed_app E1.out E2.out BW.out O3.out.2.1 O3.out.2.2 K4.out.1 K4.out.2 o5 g5 a5); clear o5 g5 a5))
  go_ret2
  exact F.out

set_option maxRecDepth 100000 in
set_option maxHeartbeats 1600000 in
theorem l5Ref_e (a : Option Addr) (c : Nat) (l : List Int) (b : Nat) (w : World) (ha : BAt w a l) (hu : Byt l) (hl : l.length ≤ 200) (hb : b ≤ 255) (n59 : ¬ b = 59) (hr : ltrB b = false) (h48 : 48 ≤ b) (h57 : ¬ b ≤ 57) (h35 : ¬ b = 35) :
    Calls Try.prog 76 #[.slice a l.length c, .int .u8 b] w fun e w' => FeedB (refT l b) (refH l b) w e w' := by
  obtain ⟨m, hm⟩ : ∃ m, m = l ++ [(b : Int)] := ⟨_, rfl⟩
  have lm : m.length = l.length + 1 := by rw [hm]; simp
  have hum : Hid (Byt m) := Hid.mk' (by rw [hm]; exact hu.snoc b hb)
  have HM : Hid (bcs m = bcs l ++ [.int .u8 b]) := Hid.mk' (by rw [hm, bcs_append]; rfl)
  have n59' : ¬ (b : Int) = 59 := by omega
  have h35' : ¬ (b : Int) = 35 := by omega
  have RB : ¬ refB b = true := by
    have : refB b = false := by unfold refB; rw [hr, decide_eq_true h48, decide_eq_false h57, decide_eq_false h35]; rfl
    rw [this]; simp
  have E1 : Hid (refT l b = l ++ noneT b) := Hid.mk' (by unfold refT; rw [if_neg n59, if_neg RB])
  have E2 : Hid (refH l b = noneH b) := Hid.mk' (by unfold refH; rw [if_neg n59, if_neg RB])
  have lT : (noneT (b : Int)).length ≤ 1 := by unfold noneT; split <;> simp
  have KL : Hid (∀ w, Calls Try.prog 61 #[.int .u8 b] w fun e w' => e = .returned (.bool false) ∧ w' = w) := Hid.mk' (fun w => by have := letter_any b w; rw [hr] at this; exact this)
  have h48' : (b : Int) ≥ 48 := by omega
  have h57' : ¬ (b : Int) ≤ 57 := by omega
  have e35b : ((b : Int) == 35) = false := by rw [beq_eq_false_iff_ne]; omega
  clear RB n59 hr h35 h48 h57
  have KC := Hid.mk' (l1Copy_own a c l w ha (by omega))
  have HA := Hid.mk' ha
  have HU := Hid.mk' hu
  have LM := Hid.mk' lm
  clear ha hu hm lm
  go_enter Try.func76, Try.ntmps76
  go_wp2_with (first | go_big_skip | fail)
  refine KC.out.mono ?_
  rintro e w1 ⟨v, rfl, ho, hbl⟩
  have VB := below_new w1 (.cells #[.int .u8 b] 5)
  have OV := Hid.mk' (own_keep ho VB)
  have NC := Hid.mk' (new_cells' w1 5 [.int .u8 b] w1.heap.size rfl)
  have HB := Hid.mk' (hbl.trans (VB.mono hbl.size))
  have SZ := Hid.mk' HB.out.size
  have P1 : Hid (∀ u ∈ ([.int .u8 b] : List Value), u.oneCell' = true) := Hid.mk' (by
    intro u hu'
    simp only [List.mem_cons, List.not_mem_nil, or_false] at hu'
    subst hu'; rfl)
  clear ho hbl VB KC
  go_wp2_with (first | go_big_skip | (at_builtin; refine wpList_append_at _ rfl (.tmp 12) (.tmp 14) 22 rfl w.heap.size 5 (.int .u8 0) 1 1 Try.underlying22 Try.info5 rfl (by decide) _ _ _ rfl OV.out _ 1 _ [.int .u8 b] rfl rfl (.inr ⟨_, rfl, NC.out⟩) P1.out (by unfold maxLen; omega) (by omega) SZ.out ?_; intro v' w2 ho hgr hat; have OA : Hid (w2.ownsRow w.heap.size 5 1 v' m.length (bcs m)) := Hid.mk' (by rw [HM.out, LM.out]; exact ho); have BW := Hid.mk' (HB.out.grown hgr SZ.out (own_lo OV.out)); obtain ⟨aa, cc, rfl, ba⟩ := (OB.of_own OA.out).1.len; have BA := Hid.mk' ba; clear ho hgr hat ba) | (go_at_call 61; refine (KL.out _).mono ?_; rintro e9 w9 ⟨rfl, hw9⟩; subst hw9))
  refine (l5None_any b _ (by omega) (by omega)).mono ?_
  rintro e w3 ⟨v3, u3, rfl, o3, ou3, ap3, b3⟩
  obtain ⟨a3, c3, rfl, s3⟩ := own_src o3
  have B3 := Hid.mk' (BW.out.trans (b3.mono BW.out.size))
  have O3 := Hid.mk' (And.intro o3 (And.intro ou3 b3))
  have S3 := Hid.mk' s3
  have ln3 := tcs_len (bytesT (noneT (b : Int))) (nils (noneT (b : Int)).length) (by rw [nils_len, bytesT_len])
  rw [bytesT_len] at ln3
  have LN := Hid.mk' ln3
  have T1 := Hid.mk' (tcs_one (bytesT (noneT (b : Int))) (nils (noneT (b : Int)).length) (nils_one _))
  clear o3 ou3 ap3 b3 s3 ln3
  have KG := Hid.mk' (l5Go_any a c l w3 (HA.out.below B3.out) HU.out (by omega))
  go_wp2_with (first | go_big_skip | fail)
  refine KG.out.mono ?_
  rintro e w4 ⟨v4, rfl, o4, b4⟩
  have O4 := Hid.mk' (own_down o4 B3.out.size)
  have K4 := Hid.mk' (And.intro o4 b4)
  have S4 : Hid ((noneT (b : Int)).length = 0 ∨ ∃ ad, a3 = some ad ∧ ∀ j u, (tcs (bytesT (noneT (b : Int))) (nils (noneT (b : Int)).length))[j]? = some u → w4.cell? (ad.add j) = some u) := Hid.mk' (by
    obtain ⟨a3', c3', e3, s3⟩ := own_src (own_keep O3.out.1 b4)
    injection e3 with e3 _ _
    subst e3
    exact s3)
  have Z4 : Hid (w.heap.size ≤ w4.heap.size) := Hid.mk' (Nat.le_trans B3.out.size b4.size)
  clear o4 b4 KG
  go_wp2_with (first | go_big_skip | (at_builtin; refine wpList_append_at _ rfl (.tmp 64) (.tmp 65) 82 rfl w.heap.size 89 (.agg #[.int .i64 0, .int .i64 0, .string ⟨#[]⟩, .slice none 0 0, .bool false]) 5 64 Try.underlying82 Try.infoTok rfl (by decide) _ _ _ rfl O4.out a3 _ c3 (tcs (bytesT (noneT (b : Int))) (nils (noneT (b : Int)).length)) rfl LN.out S4.out T1.out (by unfold maxLen; omega) (by omega) Z4.out ?_; intro v5 w5 o5 g5 a5; have F := Hid.mk' (feed_app E1.out E2.out BW.out O3.out.2.1 O3.out.2.2 K4.out.1 K4.out.2 o5 g5 a5); clear o5 g5 a5))
  go_ret2
  exact F.out

set_option maxRecDepth 100000 in
set_option maxHeartbeats 1600000 in
theorem l5Ref_f (a : Option Addr) (c : Nat) (l : List Int) (b : Nat) (w : World) (ha : BAt w a l) (hu : Byt l) (hl : l.length ≤ 200) (hb : b ≤ 255) (h59 : b = 59) (hx : (refOf (strU (l ++ [(b : Int)]))).2 = l.length + 1) :
    Calls Try.prog 76 #[.slice a l.length c, .int .u8 b] w fun e w' => FeedB (refT l b) (refH l b) w e w' := by
  obtain ⟨m, hm⟩ : ∃ m, m = l ++ [(b : Int)] := ⟨_, rfl⟩
  have lm : m.length = l.length + 1 := by rw [hm]; simp
  have hum : Hid (Byt m) := Hid.mk' (by rw [hm]; exact hu.snoc b hb)
  have HM : Hid (bcs m = bcs l ++ [.int .u8 b]) := Hid.mk' (by rw [hm, bcs_append]; rfl)
  have h59' : ((b : Int) == 59) = true := by rw [beq_iff_eq]; omega
  have E1 : Hid (refT l b = [((refOf (strU m)).1 : Int)]) := Hid.mk' (by unfold refT; rw [if_pos h59, if_pos hx, hm])
  have E2 : Hid (refH l b = []) := Hid.mk' (by unfold refH; rw [if_pos h59])
  rw [← hm, ← lm] at hx
  have ss : (strI m).size = m.length := strI_size m
  have KR := Hid.mk' (fun w => l2At_core (strI m) (strU m) rfl 0 w (by rw [ss]; omega) (by rw [ss]; omega))
  have r1b := refOf_byte (strU m)
  rw [List.drop_zero] at KR
  generalize (refOf (strU m)).1 = r1 at *
  generalize (refOf (strU m)).2 = r2 at *
  generalize hS : strI m = S at *
  have hx' : (r2 : Int) = (m.length : Int) := by omega
  clear hx h59 ss
  have KC := Hid.mk' (l1Copy_own a c l w ha (by omega))
  have HA := Hid.mk' ha
  have HU := Hid.mk' hu
  have LM := Hid.mk' lm
  clear ha hu hm lm
  go_enter Try.func76, Try.ntmps76
  go_wp2_with (first | go_big_skip | fail)
  refine KC.out.mono ?_
  rintro e w1 ⟨v, rfl, ho, hbl⟩
  have VB := below_new w1 (.cells #[.int .u8 b] 5)
  have OV := Hid.mk' (own_keep ho VB)
  have NC := Hid.mk' (new_cells' w1 5 [.int .u8 b] w1.heap.size rfl)
  have HB := Hid.mk' (hbl.trans (VB.mono hbl.size))
  have SZ := Hid.mk' HB.out.size
  have P1 : Hid (∀ u ∈ ([.int .u8 b] : List Value), u.oneCell' = true) := Hid.mk' (by
    intro u hu'
    simp only [List.mem_cons, List.not_mem_nil, or_false] at hu'
    subst hu'; rfl)
  clear ho hbl VB KC
  go_wp2_with (first | go_big_skip | (at_builtin; refine wpList_append_at _ rfl (.tmp 12) (.tmp 14) 22 rfl w.heap.size 5 (.int .u8 0) 1 1 Try.underlying22 Try.info5 rfl (by decide) _ _ _ rfl OV.out _ 1 _ [.int .u8 b] rfl rfl (.inr ⟨_, rfl, NC.out⟩) P1.out (by unfold maxLen; omega) (by omega) SZ.out ?_; intro v' w2 ho hgr hat; have OA : Hid (w2.ownsRow w.heap.size 5 1 v' m.length (bcs m)) := Hid.mk' (by rw [HM.out, LM.out]; exact ho); have BW := Hid.mk' (HB.out.grown hgr SZ.out (own_lo OV.out)); obtain ⟨aa, cc, rfl, ba⟩ := (OB.of_own OA.out).1.len; have BA := Hid.mk' ba; have hcv := conv_bytesT cc ba; rw [hS] at hcv; clear ho hgr hat ba) | (go_at_call 78; refine (KR.out _).mono ?_; rintro e9 w9 ⟨rfl, hw9⟩; subst hw9))
  have BA1 : BAt (w9.alloc (.cells #[.int .u8 (r1 : Int)] 5)) (some ⟨w9.heap.size, 0, none⟩) [(r1 : Int)] := .inr ⟨_, _, rfl, by simp, fun k hk => by
    obtain rfl : k = 0 := by simpa using hk
    simp [bv]⟩
  have BX := Hid.mk' (BW.out.alloc BW.out.size (.cells #[.int .u8 (r1 : Int)] 5))
  refine (l5Go_any (some ⟨w9.heap.size, 0, none⟩) 1 [(r1 : Int)] _ BA1 (fun k hk => by
    obtain rfl : k = 0 := by simpa using hk
    exact ⟨by simp, by simp; omega⟩) (by simp)).mono ?_
  rintro e w3 ⟨v3, rfl, o3, b3⟩
  have F := Hid.mk' (feed_go E1.out E2.out BX.out o3 b3)
  clear o3 b3 BA1
  go_wp2
  go_ret2
  exact F.out

set_option maxRecDepth 100000 in
set_option maxHeartbeats 1600000 in
theorem l5Ref_g (a : Option Addr) (c : Nat) (l : List Int) (b : Nat) (w : World) (ha : BAt w a l) (hu : Byt l) (hl : l.length ≤ 200) (hb : b ≤ 255) (h59 : b = 59) (hx : ¬ (refOf (strU (l ++ [(b : Int)]))).2 = l.length + 1) :
    Calls Try.prog 76 #[.slice a l.length c, .int .u8 b] w fun e w' => FeedB (refT l b) (refH l b) w e w' := by
  obtain ⟨m, hm⟩ : ∃ m, m = l ++ [(b : Int)] := ⟨_, rfl⟩
  have lm : m.length = l.length + 1 := by rw [hm]; simp
  have hum : Hid (Byt m) := Hid.mk' (by rw [hm]; exact hu.snoc b hb)
  have HM : Hid (bcs m = bcs l ++ [.int .u8 b]) := Hid.mk' (by rw [hm, bcs_append]; rfl)
  have h59' : ((b : Int) == 59) = true := by rw [beq_iff_eq]; omega
  have E1 : Hid (refT l b = m) := Hid.mk' (by unfold refT; rw [if_pos h59, if_neg hx]; exact hm.symm)
  have E2 : Hid (refH l b = []) := Hid.mk' (by unfold refH; rw [if_pos h59])
  rw [← hm, ← lm] at hx
  have ss : (strI m).size = m.length := strI_size m
  have KR := Hid.mk' (fun w => l2At_core (strI m) (strU m) rfl 0 w (by rw [ss]; omega) (by rw [ss]; omega))
  have r1b := refOf_byte (strU m)
  rw [List.drop_zero] at KR
  generalize (refOf (strU m)).1 = r1 at *
  generalize (refOf (strU m)).2 = r2 at *
  generalize hS : strI m = S at *
  have hx' : ¬ (r2 : Int) = (m.length : Int) := by omega
  clear hx h59 ss
  have KC := Hid.mk' (l1Copy_own a c l w ha (by omega))
  have HA := Hid.mk' ha
  have HU := Hid.mk' hu
  have LM := Hid.mk' lm
  clear ha hu hm lm
  go_enter Try.func76, Try.ntmps76
  go_wp2_with (first | go_big_skip | fail)
  refine KC.out.mono ?_
  rintro e w1 ⟨v, rfl, ho, hbl⟩
  have VB := below_new w1 (.cells #[.int .u8 b] 5)
  have OV := Hid.mk' (own_keep ho VB)
  have NC := Hid.mk' (new_cells' w1 5 [.int .u8 b] w1.heap.size rfl)
  have HB := Hid.mk' (hbl.trans (VB.mono hbl.size))
  have SZ := Hid.mk' HB.out.size
  have P1 : Hid (∀ u ∈ ([.int .u8 b] : List Value), u.oneCell' = true) := Hid.mk' (by
    intro u hu'
    simp only [List.mem_cons, List.not_mem_nil, or_false] at hu'
    subst hu'; rfl)
  clear ho hbl VB KC
  go_wp2_with (first | go_big_skip | (at_builtin; refine wpList_append_at _ rfl (.tmp 12) (.tmp 14) 22 rfl w.heap.size 5 (.int .u8 0) 1 1 Try.underlying22 Try.info5 rfl (by decide) _ _ _ rfl OV.out _ 1 _ [.int .u8 b] rfl rfl (.inr ⟨_, rfl, NC.out⟩) P1.out (by unfold maxLen; omega) (by omega) SZ.out ?_; intro v' w2 ho hgr hat; have OA : Hid (w2.ownsRow w.heap.size 5 1 v' m.length (bcs m)) := Hid.mk' (by rw [HM.out, LM.out]; exact ho); have BW := Hid.mk' (HB.out.grown hgr SZ.out (own_lo OV.out)); obtain ⟨aa, cc, rfl, ba⟩ := (OB.of_own OA.out).1.len; have BA := Hid.mk' ba; have hcv := conv_bytesT cc ba; rw [hS] at hcv; clear ho hgr hat ba) | (go_at_call 78; refine (KR.out _).mono ?_; rintro e9 w9 ⟨rfl, hw9⟩; subst hw9))
  refine (l5Go_any aa cc m _ BA.out hum.out (by have := LM.out; omega)).mono ?_
  rintro e w3 ⟨v3, rfl, o3, b3⟩
  have F := Hid.mk' (feed_go E1.out E2.out BW.out o3 b3)
  clear o3 b3
  go_wp2
  go_ret2
  exact F.out

theorem l5Ref_any (a : Option Addr) (c : Nat) (l : List Int) (b : Nat) (w : World) (ha : BAt w a l) (hu : Byt l) (hl : l.length ≤ 200) (hb : b ≤ 255) :
    Calls Try.prog 76 #[.slice a l.length c, .int .u8 b] w fun e w' => FeedB (refT l b) (refH l b) w e w' := by
  by_cases n59 : b = 59
  · by_cases hx : (refOf (strU (l ++ [(b : Int)]))).2 = l.length + 1
    · exact l5Ref_f a c l b w ha hu hl hb n59 hx
    · exact l5Ref_g a c l b w ha hu hl hb n59 hx
  · cases hr : ltrB b with
    | true =>
      by_cases h6 : 6 ≤ l.length + 1
      · exact l5Ref_a6 a c l b w ha hu hl hb n59 hr h6
      · exact l5Ref_a0 a c l b w ha hu hl hb n59 hr h6
    | false =>
      by_cases h35 : b = 35
      · by_cases h6 : 6 ≤ l.length + 1
        · exact l5Ref_c6 a c l b w ha hu hl hb hr h35 h6
        · exact l5Ref_c0 a c l b w ha hu hl hb hr h35 h6
      · by_cases h48 : 48 ≤ b
        · by_cases h57 : b ≤ 57
          · by_cases h6 : 6 ≤ l.length + 1
            · exact l5Ref_b6 a c l b w ha hu hl hb n59 hr h48 h57 h6
            · exact l5Ref_b0 a c l b w ha hu hl hb n59 hr h48 h57 h6
          · exact l5Ref_e a c l b w ha hu hl hb n59 hr h48 h57 h35
        · exact l5Ref_d a c l b w ha hu hl hb n59 hr h48 h35

end Go.Proofs.Ytlaeomnacgjcgaa
