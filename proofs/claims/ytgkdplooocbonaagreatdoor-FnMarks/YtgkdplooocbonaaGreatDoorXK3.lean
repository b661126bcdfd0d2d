/- The model's lexer: nothing held, notes, quotes. -/
import Derived.Test.YtgkdplooocbonaaGreatDoorXEa
import Derived.Test.YtgkdplooocbonaaGreatDoorXV7
namespace Go.Proofs.YtgkdplooocbonaaGreatDoor
open Go.RowKit
set_option linter.unusedVariables false
set_option linter.unusedSimpArgs false

/-- A byte where nothing is held: the tokens, and what is held. -/
def noneF (b : Int) : List TK × List Int := if b = 60 ∨ b = 38 then ([], [b]) else ([byteT b], [])

/-- Byte tokens alone, and bytes, both in rows of one's own, apart. -/
def FeedB (ts : List Int) (hs : List Int) (w : World) (e : Ending) (w' : World) : Prop := ∃ v u, e = .returned (.tuple #[v, u]) ∧ w'.ownsRow w.heap.size 33 5 v ts.length (tcs (bytesT ts) (nils ts.length)) ∧ w'.ownsRow w.heap.size 5 1 u hs.length (bcs hs) ∧ Ap v u ∧ Below w.heap.size w w'

/-- A note is held. -/
def noteB (l : List Int) : Bool := decide (4 ≤ l.length) && ((strI (l.take 4)).toList == [60, 33, 45, 45])

/-- How many quotes. -/
def quotes : List Int → Nat
  | [] => 0
  | x :: r => (if x = 34 then 1 else 0) + quotes r

theorem quotes_take (l : List Int) : ∀ k, k < l.length → quotes (l.take (k + 1)) = quotes (l.take k) + (if l.getD k 0 = 34 then 1 else 0) := by
  induction l with
  | nil => intro k h; exact absurd h (Nat.not_lt_zero _)
  | cons x r ih =>
    intro k hk
    cases k with
    | zero => simp [quotes]
    | succ k =>
      have := ih k (by simpa using hk)
      simp only [List.take_succ_cons, quotes]
      rw [this]
      simp
      omega

theorem quotes_le (l : List Int) : quotes l ≤ l.length := by
  induction l with
  | nil => simp [quotes]
  | cons x r ih => unfold quotes; split <;> simp <;> omega

/-- A quote is open. -/
def quotedB (l : List Int) : Bool := decide (quotes l % 2 = 1) && !noteB l

/-- A byte where nothing is held: byte tokens, and what is held. -/
def noneT (b : Int) : List Int := if b = 60 ∨ b = 38 then [] else [b]
def noneH (b : Int) : List Int := if b = 60 ∨ b = 38 then [b] else []

end Go.Proofs.YtgkdplooocbonaaGreatDoor

/- The model's lexer: a byte behind a reference. -/
namespace Go.Proofs.YtgkdplooocbonaaGreatDoor
open Go.RowKit
set_option linter.unusedVariables false
set_option linter.unusedSimpArgs false

/-- A row of one's own told from lower down. -/
theorem own_down {w : World} {base base' : Nat} {e : TypeId} {size : Nat} {v : Value} {n : Nat} {xs : List Value} (h : w.ownsRow base e size v n xs) (hb : base' ≤ base) : w.ownsRow base' e size v n xs := by
  refine ⟨h.1, ?_⟩
  rcases h.2 with h | ⟨g, cap, cur, h1, h2, h3⟩
  · exact .inl h
  · exact .inr ⟨g, cap, cur, h1, Nat.le_trans hb h2, h3⟩

/-- A row of one's own is a slice, and lies in memory. -/
theorem own_src {w : World} {base : Nat} {e : TypeId} {size : Nat} {v : Value} {n : Nat} {xs : List Value} (h : w.ownsRow base e size v n xs) : ∃ a c, v = .slice a n c ∧ (n = 0 ∨ ∃ ad, a = some ad ∧ ∀ j u, xs[j]? = some u → w.cell? (ad.add j) = some u) := by
  have h2 := h.2
  rcases h2 with ⟨rfl, h0⟩ | ⟨g, cap, cur, rfl, _⟩
  · subst h0; exact ⟨none, 0, rfl, .inl rfl⟩
  · exact ⟨_, _, rfl, .inr ⟨_, rfl, h.cells rfl⟩⟩

/-- Byte tokens behind byte tokens. -/
theorem bytesT_app (l m : List Int) : tcs (bytesT (l ++ m)) (nils (l ++ m).length) = tcs (bytesT l) (nils l.length) ++ tcs (bytesT m) (nils m.length) := by
  have e1 : bytesT (l ++ m) = bytesT l ++ bytesT m := by simp [bytesT]
  have e2 : nils (l ++ m).length = nils l.length ++ nils m.length := by unfold nils; rw [List.length_append, List.replicate_append_replicate]
  rw [e1, e2, tcs_app _ _ _ _ (by rw [nils_len, bytesT_len])]

theorem nils_one (n : Nat) : ∀ u ∈ nils n, u.oneCell' = true := by
  intro u hu
  unfold nils at hu
  rw [List.mem_replicate] at hu
  rw [hu.2]; rfl

/-- What is let go, then what a byte says where nothing is held. -/
theorem feed_app {w w2 w3 w4 w5 : World} {l T H R N : List Int} {v4 v5 u3 : Value} (e1 : R = l ++ T) (e2 : N = H) (hb : Below w.heap.size w w2) (ou : w3.ownsRow w2.heap.size 5 1 u3 H.length (bcs H)) (b3 : Below w2.heap.size w2 w3)
    (o4 : w4.ownsRow w3.heap.size 33 5 v4 l.length (tcs (bytesT l) (nils l.length))) (b4 : Below w3.heap.size w3 w4)
    (o5 : w5.ownsRow w.heap.size 33 5 v5 (l.length + T.length) (tcs (bytesT l) (nils l.length) ++ tcs (bytesT T) (nils T.length))) (g5 : w4.grownBy w5 v4.ownBlock) (a5 : v5.ownBlock = v4.ownBlock ∨ v5.ownBlock = some w4.heap.size) :
    FeedB R N w (.returned (.tuple #[v5, u3])) w5 := by
  subst e1 e2
  have s2 := hb.size
  have s3 := b3.size
  have s4 := b4.size
  have B3 : Below w.heap.size w w3 := hb.trans (b3.mono s2)
  have B4 : Below w.heap.size w w4 := B3.trans (b4.mono (Nat.le_trans s2 s3))
  have ne : ∀ k, u3.ownBlock = some k → k < w3.heap.size := fun k hk => (ou.lt k hk).2
  have v4lo : ∀ k, v4.ownBlock = some k → w3.heap.size ≤ k := own_lo o4
  refine ⟨_, _, rfl, ?_, ?_, fun k h1 h2 => ?_, B4.grown g5 (by omega) (fun k hk => by have := v4lo k hk; omega)⟩
  · rw [bytesT_app, List.length_append]; exact o5
  · refine own_down ((own_keep ou b4).kept g5 ?_) s2
    cases hu : u3.ownBlock with
    | none => exact .inl rfl
    | some k => exact .inr (fun e => by have := ne k hu; have := v4lo k e.symm; omega)
  · have := ne k h2
    rcases a5 with e | e
    · rw [e] at h1; have := v4lo k h1; omega
    · rw [e] at h1; injection h1 with h1; omega

theorem strI_size (l : List Int) : (strI l).size = l.length := by
  have : ∀ (l : List Int) (r : ByteArray), (l.foldl (fun r n => r.push (UInt8.ofNat n.toNat)) r).size = r.size + l.length := by
    intro l
    induction l with
    | nil => intro r; simp
    | cons x l ih => intro r; rw [List.foldl_cons, ih, ByteArray.size_push, List.length_cons]; omega
  have := this l ByteArray.empty
  unfold strI
  rw [this]
  simp

/-- Bytes that are bytes. -/
def Byt (l : List Int) : Prop := ∀ k, k < l.length → 0 ≤ l.getD k 0 ∧ l.getD k 0 ≤ 255

theorem Byt.snoc {l : List Int} (h : Byt l) (b : Nat) (hb : b ≤ 255) : Byt (l ++ [(b : Int)]) := by
  intro k hk
  simp only [List.length_append, List.length_cons, List.length_nil] at hk
  by_cases e : k < l.length
  · have := h k e
    rw [List.getD_eq_getElem?_getD] at this ⊢
    rw [List.getElem?_append_left e]
    exact this
  · have e : k = l.length := by omega
    subst e
    simp
    omega

/-- What is let go, and nothing held. -/
theorem feed_go {w w2 w3 : World} {m T H : List Int} {v : Value} (e1 : T = m) (e2 : H = []) (hb : Below w.heap.size w w2) (ho : w3.ownsRow w2.heap.size 33 5 v m.length (tcs (bytesT m) (nils m.length))) (h3 : Below w2.heap.size w2 w3) :
    FeedB T H w (.returned (.tuple #[v, .slice (some ⟨w3.heap.size, 0, none⟩) 0 0])) (w3.alloc (.cells #[] 5)) := by
  subst e1 e2
  have hs : w.heap.size ≤ w3.heap.size := Nat.le_trans hb.size h3.size
  refine ⟨_, _, rfl, (own_down ho hb.size).alloc _, ?_, fun k e1 e2 => ?_, (hb.trans (h3.mono hb.size)).alloc hs _⟩
  · exact World.ownsRow_lit (base := w.heap.size) (e := 5) (size := 1) w3 #[] 0 hs (by unfold maxLen; omega) rfl
  · have := (ho.lt k e1).2
    simp [Value.ownBlock] at e2
    omega

/-- All is held. -/
theorem feed_hold {w w2 : World} {m T H : List Int} {v : Value} (e1 : T = []) (e2 : H = m) (hb : Below w.heap.size w w2) (ho : w2.ownsRow w.heap.size 5 1 v m.length (bcs m)) :
    FeedB T H w (.returned (.tuple #[.slice (some ⟨w2.heap.size, 0, none⟩) 0 0, v])) (w2.alloc (.cells #[] 33)) := by
  subst e1 e2
  refine ⟨_, _, rfl, ?_, ho.alloc _, fun k e1 e2 => ?_, hb.alloc hb.size _⟩
  · exact World.ownsRow_lit (base := w.heap.size) (e := 33) (size := 5) w2 #[] 0 hb.size (by unfold maxLen; omega) rfl
  · have := (ho.lt k e2).2
    simp [Value.ownBlock] at e1
    omega

/-- A byte of a reference: a letter, a digit or '#'. -/
def refB (b : Nat) : Bool := ltrB b || (decide (48 ≤ b) && decide (b ≤ 57)) || decide (b = 35)

def strU (l : List Int) : List UInt8 := (strI l).data.toList

/-- The byte tokens behind a byte that comes to a held reference. -/
def refT (l : List Int) (b : Nat) : List Int :=
  if b = 59 then (if (refOf (strU (l ++ [(b : Int)]))).2 = l.length + 1 then [((refOf (strU (l ++ [(b : Int)]))).1 : Int)] else l ++ [(b : Int)])
  else if refB b = true then (if 6 ≤ l.length + 1 then l ++ [(b : Int)] else [])
  else l ++ noneT b
/-- What is held then. -/
def refH (l : List Int) (b : Nat) : List Int :=
  if b = 59 then [] else if refB b = true then (if 6 ≤ l.length + 1 then [] else l ++ [(b : Int)]) else noneH b

end Go.Proofs.YtgkdplooocbonaaGreatDoor
