/- The model's lexer: a byte behind a held tag, where no tag is read. -/
import Derived.Test.YtgkdplooocbonaaGreatDoorXK3
namespace Go.Proofs.YtgkdplooocbonaaGreatDoor
open Go.RowKit
set_option linter.unusedVariables false
set_option linter.unusedSimpArgs false

/-- What was held is let go, and the byte is held. -/
theorem feed_next {w w2 w3 : World} {m : List Int} {b : Int} {v : Value} (hb : Below w.heap.size w w2) (ho : w3.ownsRow w2.heap.size 33 5 v m.length (tcs (bytesT m) (nils m.length))) (h3 : Below w2.heap.size w2 w3) :
    FeedB m [b] w (.returned (.tuple #[v, .slice (some ⟨w3.heap.size, 0, none⟩) 1 1])) (w3.alloc (.cells #[.int .u8 b] 5)) := by
  have hs : w.heap.size ≤ w3.heap.size := Nat.le_trans hb.size h3.size
  refine ⟨_, _, rfl, (own_down ho hb.size).alloc _, ?_, fun k e1 e2 => ?_, (hb.trans (h3.mono hb.size)).alloc hs _⟩
  · exact World.ownsRow_lit (base := w.heap.size) (e := 5) (size := 1) w3 #[.int .u8 b] 1 hs (by unfold maxLen; omega) rfl
  · have := (ho.lt k e1).2
    simp [Value.ownBlock] at e2
    omega

end Go.Proofs.YtgkdplooocbonaaGreatDoor

/- The model's lexer: a byte behind a held tag, where a tag is read. -/
namespace Go.Proofs.YtgkdplooocbonaaGreatDoor
open Go.RowKit
set_option linter.unusedVariables false
set_option linter.unusedSimpArgs false

/-- One token with its attributes, and nothing held; the attributes lie below the rows of the answer. -/
def FeedOne (t : TK) (w : World) (e : Ending) (w' : World) : Prop := ∃ v u va us w9, e = .returned (.tuple #[v, u]) ∧ w'.ownsRow w.heap.size 33 5 v 1 (tcs [t] [va]) ∧ OA w.heap.size w9 va t.at_ us ∧ Below w9.heap.size w9 w' ∧ (∀ k, v.ownBlock = some k → w9.heap.size ≤ k) ∧ (∀ k, u.ownBlock = some k → w9.heap.size ≤ k) ∧ w'.ownsRow w.heap.size 5 1 u 0 [] ∧ Ap v u ∧ Below w.heap.size w w9

theorem feed_one {w w2 w9 : World} {t : TK} {va : Value} {us : List Value} (hb : Below w.heap.size w w2) (hoa : OA w2.heap.size w9 va t.at_ us) (h9 : Below w2.heap.size w2 w9) (o : Obj) :
    FeedOne t w (.returned (.tuple #[.slice (some ⟨w9.heap.size + 1, 0, none⟩) 1 1, .slice (some ⟨w9.heap.size + 1 + 1, 0, none⟩) 0 0])) (((w9.alloc o).alloc (.cells #[.int .i64 t.kd, .int .i64 t.by_, .string t.nm, va, .bool t.sh] 33)).alloc (.cells #[] 5)) := by
  have s9 : w.heap.size ≤ w9.heap.size := Nat.le_trans hb.size h9.size
  have B1 := below_new w9 o
  have B2 := B1.alloc (by simp) (.cells #[.int .i64 t.kd, .int .i64 t.by_, .string t.nm, va, .bool t.sh] 33)
  have B3 := B2.alloc (by simp; omega) (.cells #[] 5)
  refine ⟨_, _, va, us, w9, rfl, ?_, hoa.keep hb.size (fun k _ _ => rfl), B3, fun k e => by simp [Value.ownBlock] at e; omega, fun k e => by simp [Value.ownBlock] at e; omega, ?_, fun k e1 e2 => by simp [Value.ownBlock] at e1 e2; omega, hb.trans (h9.mono hb.size)⟩
  · have := World.ownsRow_lit (base := w.heap.size) (e := 33) (size := 5) (w9.alloc o) #[.int .i64 t.kd, .int .i64 t.by_, .string t.nm, va, .bool t.sh] 1 (by simp; omega) (by unfold maxLen; omega) rfl
    rw [World.heap_size_alloc'] at this
    exact this.alloc _
  · have := World.ownsRow_lit (base := w.heap.size) (e := 5) (size := 1) ((w9.alloc o).alloc (.cells #[.int .i64 t.kd, .int .i64 t.by_, .string t.nm, va, .bool t.sh] 33)) #[] 0 (by simp; omega) (by unfold maxLen; omega) rfl
    rw [World.heap_size_alloc', World.heap_size_alloc'] at this
    exact this

end Go.Proofs.YtgkdplooocbonaaGreatDoor

/- The model's lexer: a byte fed to what is held. -/
namespace Go.Proofs.YtgkdplooocbonaaGreatDoor
open Go.RowKit
set_option linter.unusedVariables false
set_option linter.unusedSimpArgs false

/-- What a byte brings: byte tokens, or one token that was read. -/
def FeedX (r : List TK × List Int) (w : World) (e : Ending) (w' : World) : Prop := (∃ bs, r.1 = bytesT bs ∧ FeedB bs r.2 w e w') ∨ (∃ t, r = ([t], []) ∧ FeedOne t w e w')

/-- All held, or all let go where it is too much. -/
def lenX (l : List Int) (b : Nat) : List TK × List Int := if 160 ≤ l.length + 1 then (bytesT (l ++ [(b : Int)]), []) else ([], l ++ [(b : Int)])
/-- A byte behind a held tag. -/
def tagX (l : List Int) (b : Nat) : List TK × List Int :=
  if b = 62 ∧ quotedB l = false then (match tagA (strU (l ++ [(b : Int)])) with
    | some t => ([t], [])
    | none => if noteB l = false then (bytesT (l ++ [(b : Int)]), []) else lenX l b)
  else if b = 60 ∧ quotedB l = false ∧ noteB l = false then (bytesT l, [(b : Int)]) else lenX l b
/-- A byte fed to what is held. -/
def feedX (l : List Int) (b : Nat) : List TK × List Int :=
  if l = [] then (bytesT (noneT b), noneH b) else if l.getD 0 0 = 38 then (bytesT (refT l b), refH l b) else tagX l b

theorem feedX_go {l : List Int} {b : Nat} {w : World} {e : Ending} {w' : World} (h6 : 160 ≤ l.length + 1) (h : FeedB (l ++ [(b : Int)]) [] w e w') : FeedX (lenX l b) w e w' := by
  unfold lenX
  rw [if_pos h6]
  exact .inl ⟨_, rfl, h⟩
theorem feedX_hold {l : List Int} {b : Nat} {w : World} {e : Ending} {w' : World} (h6 : ¬ 160 ≤ l.length + 1) (h : FeedB [] (l ++ [(b : Int)]) w e w') : FeedX (lenX l b) w e w' := by
  unfold lenX
  rw [if_neg h6]
  exact .inl ⟨[], rfl, h⟩

/-- What is brought is a pair. -/
theorem FeedX.pair {r : List TK × List Int} {w w' : World} {e : Ending} (h : FeedX r w e w') : ∃ v u, e = .returned (.tuple #[v, u]) := by
  rcases h with ⟨bs, _, v, u, h, _⟩ | ⟨t, _, v, u, _, _, _, h, _⟩
  · exact ⟨v, u, h⟩
  · exact ⟨v, u, h⟩

end Go.Proofs.YtgkdplooocbonaaGreatDoor

/- The model's lexer: how much a byte brings and how much is held; many bytes, as one function. -/
namespace Go.Proofs.YtgkdplooocbonaaGreatDoor
open Go.RowKit
set_option linter.unusedVariables false
set_option linter.unusedSimpArgs false

theorem noneT_len (b : Int) : (noneT b).length ≤ 1 := by unfold noneT; split <;> simp
theorem noneH_len (b : Int) : (noneH b).length ≤ 1 := by unfold noneH; split <;> simp

theorem lenX_held (l : List Int) (b : Nat) : (lenX l b).2.length ≤ 160 := by
  unfold lenX
  split
  · simp
  · simp; omega
theorem lenX_len (l : List Int) (b : Nat) : (lenX l b).1.length ≤ l.length + 1 := by
  unfold lenX
  split
  · simp [bytesT]
  · simp

theorem tagX_held (l : List Int) (b : Nat) : (tagX l b).2.length ≤ 160 := by
  unfold tagX
  split
  · split
    · simp
    · split
      · simp
      · exact lenX_held l b
  · split
    · simp
    · exact lenX_held l b
theorem tagX_len (l : List Int) (b : Nat) : (tagX l b).1.length ≤ l.length + 1 := by
  unfold tagX
  split
  · split
    · simp
    · split
      · simp [bytesT]
      · exact lenX_len l b
  · split
    · simp [bytesT]
    · exact lenX_len l b

theorem refH_len (l : List Int) (b : Nat) : (refH l b).length ≤ 160 := by
  have := noneH_len (b : Int)
  unfold refH
  split
  · simp
  · split
    · split
      · simp
      · simp; omega
    · omega
theorem refT_len (l : List Int) (b : Nat) : (refT l b).length ≤ l.length + 1 := by
  have := noneT_len (b : Int)
  unfold refT
  split
  · split <;> simp
  · split
    · split <;> simp
    · simp; omega

/-- Never more than so much is held. -/
theorem feedX_held (l : List Int) (b : Nat) : (feedX l b).2.length ≤ 160 := by
  have := noneH_len (b : Int)
  unfold feedX
  split
  · show (noneH (b : Int)).length ≤ 160
    omega
  · split
    · exact refH_len l b
    · exact tagX_held l b
/-- A byte brings no more tokens than there were bytes. -/
theorem feedX_len (l : List Int) (b : Nat) : (feedX l b).1.length ≤ l.length + 1 := by
  have := noneT_len (b : Int)
  unfold feedX
  split
  · show (bytesT (noneT (b : Int))).length ≤ _
    rw [bytesT_len]; omega
  · split
    · show (bytesT (refT l b)).length ≤ _
      rw [bytesT_len]; exact refT_len l b
    · exact tagX_len l b

theorem Byt.nil : Byt [] := fun k h => absurd h (Nat.not_lt_zero _)
theorem Byt.one {b : Nat} (hb : b ≤ 255) : Byt [(b : Int)] := Byt.nil.snoc b hb

theorem noneH_byt {b : Nat} (hb : b ≤ 255) : Byt (noneH (b : Int)) := by
  unfold noneH
  split
  · exact Byt.one hb
  · exact Byt.nil
theorem lenX_byt {l : List Int} {b : Nat} (h : Byt l) (hb : b ≤ 255) : Byt (lenX l b).2 := by
  unfold lenX
  split
  · exact Byt.nil
  · exact h.snoc b hb
/-- What is held are bytes. -/
theorem feedX_byt {l : List Int} {b : Nat} (h : Byt l) (hb : b ≤ 255) : Byt (feedX l b).2 := by
  unfold feedX
  split
  · exact noneH_byt hb
  · split
    · show Byt (refH l b)
      unfold refH
      split
      · exact Byt.nil
      · split
        · split
          · exact Byt.nil
          · exact h.snoc b hb
        · exact noneH_byt hb
    · unfold tagX
      split
      · split
        · exact Byt.nil
        · split
          · exact Byt.nil
          · exact lenX_byt h hb
      · split
        · exact Byt.one hb
        · exact lenX_byt h hb

/-- Many bytes: the tokens, and what is held. -/
def allX (ts : List TK) (hs : List Int) : List Int → List TK × List Int
  | [] => (ts, hs)
  | x :: r => allX (ts ++ (feedX hs x.toNat).1) (feedX hs x.toNat).2 r

/-- A text as tokens. -/
def lexX (l : List Int) : List TK := (allX [] [] l).1 ++ bytesT (allX [] [] l).2

theorem allX_append (m : List Int) : ∀ (l : List Int) (ts : List TK) (hs : List Int), allX ts hs (l ++ m) = allX (allX ts hs l).1 (allX ts hs l).2 m
  | [], _, _ => rfl
  | x :: l, ts, hs => allX_append m l _ _

/-- A token among others: its attributes lie as they were made, and the row of the tokens is none of their blocks. -/
def TokIn (base : Nat) (w : World) (g : Option Nat) (t : TK) (u : Value) : Prop := (t.at_ = [] ∧ u = .slice none 0 0) ∨ ∃ lo w9 rs, base ≤ lo ∧ OA lo w9 u t.at_ rs ∧ w9.heap.size ≤ w.heap.size ∧ (∀ k, lo ≤ k → k < w9.heap.size → w.heap[k]? = w9.heap[k]?) ∧ (∀ k, g = some k → k < lo ∨ w9.heap.size ≤ k)

theorem TokIn.below {base : Nat} {w w' : World} {g : Option Nat} {t : TK} {u : Value} (h : TokIn base w g t u) (hb : Below w.heap.size w w') : TokIn base w' g t u := by
  rcases h with h | ⟨lo, w9, rs, h1, h2, h3, h4, h5⟩
  · exact .inl h
  · exact .inr ⟨lo, w9, rs, h1, h2, Nat.le_trans h3 hb.size, fun k a b => (hb.block k (by omega)).trans (h4 k a b), h5⟩

theorem TokIn.held {base : Nat} {w : World} {g : Option Nat} {t : TK} {u : Value} (h : TokIn base w g t u) : ∃ rs, OA base w u t.at_ rs := by
  rcases h with ⟨h1, h2⟩ | ⟨lo, w9, rs, h1, h2, h3, h4, h5⟩
  · rw [h1, h2]; exact ⟨[], OA.nil _ _⟩
  · exact ⟨rs, h2.keep h1 h4⟩

end Go.Proofs.YtgkdplooocbonaaGreatDoor

/- The model's lexer: many bytes fed. -/
namespace Go.Proofs.YtgkdplooocbonaaGreatDoor
open Go.RowKit
set_option linter.unusedVariables false
set_option linter.unusedSimpArgs false

theorem TokIn.grown {base : Nat} {w w' : World} {g g' : Option Nat} {t : TK} {u : Value} (h : TokIn base w g t u) (hg : w.grownBy w' g) (hs : w.heap.size ≤ w'.heap.size) (e : g' = g ∨ g' = some w.heap.size) : TokIn base w' g' t u := by
  rcases h with h | ⟨lo, w9, rs, h1, h2, h3, h4, h5⟩
  · exact .inl h
  · refine .inr ⟨lo, w9, rs, h1, h2, Nat.le_trans h3 hs, fun k a b => (hg.block k (by omega) (fun e => ?_)).trans (h4 k a b), fun k hk => ?_⟩
    · have := h5 k e.symm; omega
    · rcases e with e | e
      · exact h5 k (e.symm.trans hk)
      · rw [e] at hk; injection hk with hk; omega

/-- Tokens in a row of one's own, each with its attributes. -/
structure TokS (base : Nat) (w : World) (v : Value) (ts : List TK) (us : List Value) : Prop where
  len : us.length = ts.length
  row : w.ownsRow base 33 5 v ts.length (tcs ts us)
  one : ∀ u ∈ us, u.oneCell' = true
  all : ∀ (i : Nat) t u, ts[i]? = some t → us[i]? = some u → TokIn base w v.ownBlock t u

theorem nils_get {n i : Nat} {u : Value} (h : (nils n)[i]? = some u) : u = .slice none 0 0 := by
  unfold nils at h
  rw [List.getElem?_replicate] at h
  split at h
  · injection h with h; exact h.symm
  · cases h

/-- What a byte brought, told as tokens in a row of one's own. -/
theorem FeedX.toks {r : List TK × List Int} {w w' : World} {e : Ending} (h : FeedX r w e w') : ∃ v u us, e = .returned (.tuple #[v, u]) ∧ TokS w.heap.size w' v r.1 us ∧ (∀ g, (∀ k, g = some k → k < w.heap.size) → ∀ (i : Nat) t u, r.1[i]? = some t → us[i]? = some u → TokIn w.heap.size w' g t u) ∧ w'.ownsRow w.heap.size 5 1 u r.2.length (bcs r.2) ∧ Below w.heap.size w w' := by
  rcases h with ⟨bs, e1, v, u, rfl, o1, o2, ap, hb⟩ | ⟨t, rfl, v, u, va, us, w9, rfl, o1, oa, b9, lv, lu, o2, ap, hb⟩
  · have A : ∀ g (i : Nat) t u, r.1[i]? = some t → (nils bs.length)[i]? = some u → TokIn w.heap.size w' g t u := by
      intro g i t u ht hu
      refine .inl ⟨?_, nils_get hu⟩
      rw [e1] at ht
      unfold bytesT at ht
      rw [List.getElem?_map] at ht
      cases h : bs[i]? with
      | none => rw [h] at ht; cases ht
      | some x => rw [h] at ht; injection ht with ht; rw [← ht]; rfl
    refine ⟨v, u, nils bs.length, rfl, ⟨by rw [nils_len, e1, bytesT_len], by rw [e1, bytesT_len]; exact o1, nils_one _, fun i t u => A _ i t u⟩, fun g _ => A g, o2, hb⟩
  · have A : ∀ g, (∀ k, g = some k → k < w.heap.size ∨ w9.heap.size ≤ k) → ∀ (i : Nat) t' u, [t][i]? = some t' → [va][i]? = some u → TokIn w.heap.size w' g t' u := by
      intro g hg i t' u ht hu
      cases i with
      | succ i => simp at ht
      | zero =>
        simp at ht hu
        subst ht hu
        exact .inr ⟨w.heap.size, w9, us, Nat.le_refl _, oa, b9.size, fun k _ hk => b9.block k hk, hg⟩
    have o1' : va.oneCell' = true := by
      obtain ⟨a, c, rfl, _⟩ := oa.at
      rfl
    refine ⟨v, u, [va], rfl, ⟨rfl, o1, fun u hu => ?_, A _ (fun k e => .inr (lv k e))⟩, fun g hg => A g (fun k e => .inl (hg k e)), o2, hb.trans (b9.mono hb.size)⟩
    rw [List.mem_singleton] at hu
    rw [hu]; exact o1'

end Go.Proofs.YtgkdplooocbonaaGreatDoor

/- The model's lexer: tokens put behind tokens. -/
namespace Go.Proofs.YtgkdplooocbonaaGreatDoor
open Go.RowKit
set_option linter.unusedVariables false
set_option linter.unusedSimpArgs false

theorem TokIn.down {base base' : Nat} {w : World} {g : Option Nat} {t : TK} {u : Value} (h : TokIn base w g t u) (hb : base' ≤ base) : TokIn base' w g t u := by
  rcases h with h | ⟨lo, w9, rs, h1, h2⟩
  · exact .inl h
  · exact .inr ⟨lo, w9, rs, Nat.le_trans hb h1, h2⟩

theorem own_cap {w : World} {base : Nat} {e : TypeId} {size : Nat} {v : Value} {n : Nat} {xs : List Value} (h : w.ownsRow base e size v n xs) : ∃ a c, v = .slice a n c ∧ n ≤ c := by
  rcases h.2 with ⟨rfl, h0⟩ | ⟨g, cap, cur, rfl, _, _, h, _⟩
  · subst h0; exact ⟨none, 0, rfl, Nat.le_refl _⟩
  · exact ⟨_, _, rfl, h⟩

/-- Tokens put behind tokens. -/
theorem TokS.app {base : Nat} {w w1 w2 : World} {v v' : Value} {ts ts1 : List TK} {us us1 : List Value} (h : TokS base w v ts us) (hw : Below w.heap.size w w1) (hb : base ≤ w.heap.size)
    (hA : ∀ (i : Nat) t u, ts1[i]? = some t → us1[i]? = some u → TokIn w.heap.size w1 v.ownBlock t u) (hl : us1.length = ts1.length) (h1 : ∀ u ∈ us1, u.oneCell' = true)
    (o : w2.ownsRow base 33 5 v' (ts.length + ts1.length) (tcs ts us ++ tcs ts1 us1)) (hg : w1.grownBy w2 v.ownBlock) (e : v'.ownBlock = v.ownBlock ∨ v'.ownBlock = some w1.heap.size) : TokS base w2 v' (ts ++ ts1) (us ++ us1) := by
  refine ⟨by rw [List.length_append, List.length_append, h.len, hl], by rw [tcs_app _ _ _ _ h.len, List.length_append]; exact o, fun u hu => ?_, fun i t u ht hu => ?_⟩
  · rcases List.mem_append.1 hu with hu | hu
    · exact h.one u hu
    · exact h1 u hu
  · by_cases hi : i < ts.length
    · rw [List.getElem?_append_left hi] at ht
      rw [List.getElem?_append_left (by rw [h.len]; exact hi)] at hu
      exact ((h.all i t u ht hu).below hw).grown hg hg.size e
    · rw [List.getElem?_append_right (by omega)] at ht
      rw [List.getElem?_append_right (by rw [h.len]; omega), h.len] at hu
      exact ((hA _ t u ht hu).down hb).grown hg hg.size e

end Go.Proofs.YtgkdplooocbonaaGreatDoor

/- The model's lexer: many bytes fed, the walk. -/
namespace Go.Proofs.YtgkdplooocbonaaGreatDoor
open Go.RowKit
set_option linter.unusedVariables false
set_option linter.unusedSimpArgs false

end Go.Proofs.YtgkdplooocbonaaGreatDoor
