/- The mathematics of a builder: what a token does to a state, as one function. -/
import Derived.Test.YtpcpnfpnkkjkcaaGreatU6
namespace Go.Proofs.YtpcpnfpnkkjkcaaGreat
open Go.RowKit
set_option linter.unusedVariables false
set_option linter.unusedSimpArgs false

def bigS : BS := ⟨[], [], true⟩

def addX (s : BS) (tg : ByteArray) (at_ : List AT) (tx : List Int) : BS :=
  if 60 ≤ s.nd.length then bigS else ⟨s.nd ++ [⟨aheadI s.op s.op.length, tg, at_, tx⟩], s.op, s.lg⟩

/-- Is the last node a text in the last one that is open? -/
def textB (s : BS) : Bool := decide (0 < s.nd.length) && (((ndK s.nd (s.nd.length - 1)).tg.toList == []) && decide ((ndK s.nd (s.nd.length - 1)).up = aheadI s.op s.op.length))

def byteX (s : BS) (b : Int) : BS :=
  if textB s = true then (if 240 ≤ (ndK s.nd (s.nd.length - 1)).tx.length then bigS else ⟨setTx s.nd (s.nd.length - 1) b, s.op, s.lg⟩) else addX s ⟨#[]⟩ [] [b]

/-- The last one of the first k that are open with that name. -/
def clK (nd : List ND) (op : List Int) (nm : ByteArray) : Nat → Option Nat
  | 0 => none
  | k + 1 => if ((ndK nd (wv op k).toNat).tg.toList == nm.toList) = true then some k else clK nd op nm k

def closeX (s : BS) (nm : ByteArray) : BS :=
  match clK s.nd s.op nm s.op.length with
  | some k => ⟨s.nd, s.op.take k, s.lg⟩
  | none => s

def pB (nm : ByteArray) : Bool := nm.toList == [112]

def start0 (s : BS) (nm : ByteArray) : BS := if pB nm = true then closeX s nm else s

def openX (s : BS) (nm : ByteArray) (sh : Bool) (n : Nat) : BS := if s.lg = false ∧ voidB nm = false ∧ sh = false then ⟨s.nd, s.op ++ [(n : Int)], s.lg⟩ else s

def startX (s : BS) (nm : ByteArray) (at_ : List AT) (sh : Bool) : BS :=
  if 7 ≤ (start0 s nm).op.length then start0 s nm else openX (addX (start0 s nm) nm at_ []) nm sh (start0 s nm).nd.length

def putX (s : BS) (t : TK) : BS :=
  if s.lg = true then s else if t.kd = 1 then byteX s t.by_ else if t.kd = 2 then startX s t.nm t.at_ t.sh else if t.kd = 3 then closeX s t.nm else s

/-- A state that is well. -/
structure GS (s : BS) : Prop where
  n : s.nd.length ≤ 60
  o : s.op.length ≤ 7
  pl : ∀ j, j < s.op.length → 0 ≤ wv s.op j ∧ wv s.op j < (s.nd.length : Int)
  tx : ∀ j, j < s.nd.length → (ndK s.nd j).tx.length ≤ 240
  lg : s.lg = true → s.nd = [] ∧ s.op = []

theorem gs_big : GS bigS := ⟨by simp [bigS], by simp [bigS], fun j h => absurd h (Nat.not_lt_zero _), fun j h => absurd h (Nat.not_lt_zero _), fun _ => ⟨rfl, rfl⟩⟩

theorem gs_nil : GS ⟨[], [], false⟩ := ⟨by simp, by simp, fun j h => absurd h (Nat.not_lt_zero _), fun j h => absurd h (Nat.not_lt_zero _), fun _ => ⟨rfl, rfl⟩⟩

theorem gs_of {s : BS} (h : bldF s = 0) : GS s := by
  unfold bldF at h
  by_cases ht : treeF s.nd = 0
  rotate_left
  · rw [if_neg ht] at h; exact absurd h ht
  rw [if_pos ht] at h
  by_cases hb : s.lg = true ∧ (0 < s.nd.length ∨ 0 < s.op.length)
  · rw [if_pos hb] at h; exact absurd h (by decide)
  rw [if_neg hb] at h
  unfold restF at h
  by_cases ho : opensF s.nd s.op = 0
  rotate_left
  · rw [if_neg ho] at h; exact absurd h ho
  rw [if_pos ho] at h
  by_cases h7 : 7 < s.op.length
  · rw [if_pos h7] at h; exact absurd h (by decide)
  refine ⟨treeF_len ht, by omega, fun j hj => ?_, fun j hj => ?_, fun hl => ?_⟩
  · have := firstF_zero _ _ _ ho j hj
    rw [Nat.zero_add] at this
    by_cases hr : 0 ≤ wv s.op j ∧ wv s.op j < (s.nd.length : Int)
    · exact hr
    · rw [openF_out hr] at this; exact absurd this (by decide)
  · have hk := mark_kind (one_mark (treeF_ones ht j hj))
    unfold kindB at hk
    by_cases e : ((ndK s.nd j).tg.toList == []) = true
    · rw [if_pos e] at hk
      simp only [Bool.and_eq_true, decide_eq_true_eq] at hk
      omega
    · rw [if_neg e] at hk
      have := of_decide_eq_true hk
      omega
  · have h1 : ¬ 0 < s.nd.length := fun h => hb ⟨hl, .inl h⟩
    have h2 : ¬ 0 < s.op.length := fun h => hb ⟨hl, .inr h⟩
    exact ⟨List.eq_nil_of_length_eq_zero (by omega), List.eq_nil_of_length_eq_zero (by omega)⟩

theorem gs_add {s : BS} (h : GS s) (hl : s.lg = false) {tg : ByteArray} {at_ : List AT} {tx : List Int} (hx : tx.length ≤ 240) : GS (addX s tg at_ tx) := by
  unfold addX
  by_cases h6 : 60 ≤ s.nd.length
  · rw [if_pos h6]; exact gs_big
  · rw [if_neg h6]
    refine ⟨by simp; omega, h.o, fun j hj => ?_, fun j hj => ?_, fun e => absurd (hl.symm.trans e) (by decide)⟩
    · have := h.pl j hj; simp; omega
    · simp only [List.length_append, List.length_cons, List.length_nil] at hj
      by_cases e : j = s.nd.length
      · subst e; rw [ndK_end]; exact hx
      · rw [ndK_left (by omega)]; exact h.tx j (by omega)

theorem setTx_len (l : List ND) (n : Nat) (b : Int) : (setTx l n b).length = l.length := by unfold setTx; rw [List.length_set]

theorem gs_byte {s : BS} (h : GS s) (hl : s.lg = false) (b : Int) : GS (byteX s b) := by
  unfold byteX
  by_cases ht : textB s = true
  · rw [if_pos ht]
    by_cases h2 : 240 ≤ (ndK s.nd (s.nd.length - 1)).tx.length
    · rw [if_pos h2]; exact gs_big
    · rw [if_neg h2]
      have h0 : 0 < s.nd.length := by
        unfold textB at ht; rw [Bool.and_eq_true] at ht; exact of_decide_eq_true ht.1
      refine ⟨by rw [setTx_len]; exact h.n, h.o, fun j hj => by rw [setTx_len]; exact h.pl j hj, fun j hj => ?_, fun e => absurd (hl.symm.trans e) (by decide)⟩
      rw [setTx_len] at hj
      unfold setTx
      rw [ndK_set (by omega)]
      by_cases e : j = s.nd.length - 1
      · subst e; rw [if_pos rfl]; simp; omega
      · rw [if_neg e]; exact h.tx j hj
  · rw [if_neg ht]; exact gs_add h hl (by simp)

theorem clK_lt {nd : List ND} {op : List Int} {nm : ByteArray} : ∀ {n k : Nat}, clK nd op nm n = some k → k < n
  | 0, _, h => by simp [clK] at h
  | n + 1, k, h => by
    unfold clK at h
    split at h
    · cases h; omega
    · have := clK_lt h; omega

theorem close_cases (s : BS) (nm : ByteArray) : (clK s.nd s.op nm s.op.length = none ∧ closeX s nm = s) ∨ ∃ k, clK s.nd s.op nm s.op.length = some k ∧ k < s.op.length ∧ closeX s nm = ⟨s.nd, s.op.take k, s.lg⟩ := by
  unfold closeX
  cases h : clK s.nd s.op nm s.op.length with
  | none => exact .inl ⟨rfl, rfl⟩
  | some k => exact .inr ⟨k, rfl, clK_lt h, rfl⟩

theorem gs_close {s : BS} (h : GS s) (nm : ByteArray) : GS (closeX s nm) := by
  rcases close_cases s nm with ⟨_, e⟩ | ⟨k, _, hk, e⟩
  · rw [e]; exact h
  · rw [e]
    have ln : (s.op.take k).length = k := by rw [List.length_take]; omega
    refine ⟨h.n, by have := h.o; rw [ln]; omega, fun j hj => ?_, h.tx, fun hl => ?_⟩
    · rw [ln] at hj
      have : wv (s.op.take k) j = wv s.op j := wv_take hj
      rw [this]; exact h.pl j (by omega)
    · obtain ⟨h1, h2⟩ := h.lg hl
      exact ⟨h1, by rw [h2]; simp⟩

theorem close_nd (s : BS) (nm : ByteArray) : (closeX s nm).nd = s.nd ∧ (closeX s nm).lg = s.lg := by
  rcases close_cases s nm with ⟨_, e⟩ | ⟨k, _, _, e⟩ <;> rw [e] <;> exact ⟨rfl, rfl⟩

theorem start0_nd (s : BS) (nm : ByteArray) : (start0 s nm).nd = s.nd ∧ (start0 s nm).lg = s.lg := by
  unfold start0
  by_cases e : pB nm = true
  · rw [if_pos e]; exact close_nd s nm
  · rw [if_neg e]; exact ⟨rfl, rfl⟩

theorem gs_start0 {s : BS} (h : GS s) (nm : ByteArray) : GS (start0 s nm) := by
  unfold start0
  by_cases e : pB nm = true
  · rw [if_pos e]; exact gs_close h nm
  · rw [if_neg e]; exact h

theorem gs_start {s : BS} (h : GS s) (hl : s.lg = false) (nm : ByteArray) (at_ : List AT) (sh : Bool) : GS (startX s nm at_ sh) := by
  unfold startX
  have h0 := gs_start0 h nm
  have hl0 : (start0 s nm).lg = false := (start0_nd s nm).2.trans hl
  by_cases h7 : 7 ≤ (start0 s nm).op.length
  · rw [if_pos h7]; exact h0
  · rw [if_neg h7]
    have h1 := gs_add h0 hl0 (tg := nm) (at_ := at_) (tx := []) (by simp)
    unfold openX
    by_cases e : (addX (start0 s nm) nm at_ []).lg = false ∧ voidB nm = false ∧ sh = false
    · rw [if_pos e]
      have ne : ¬ 60 ≤ (start0 s nm).nd.length := fun h6 => by
        have := e.1; unfold addX at this; rw [if_pos h6] at this; exact absurd this (by simp [bigS])
      have ea : addX (start0 s nm) nm at_ [] = ⟨(start0 s nm).nd ++ [⟨aheadI (start0 s nm).op (start0 s nm).op.length, nm, at_, []⟩], (start0 s nm).op, (start0 s nm).lg⟩ := by unfold addX; rw [if_neg ne]
      refine ⟨h1.n, ?_, fun j hj => ?_, h1.tx, fun hl' => absurd (e.1.symm.trans hl') (by decide)⟩
      · rw [ea]; simp; omega
      · rw [ea] at hj ⊢
        simp only [List.length_append, List.length_cons, List.length_nil] at hj ⊢
        by_cases ej : j = (start0 s nm).op.length
        · subst ej; rw [wv_end]; omega
        · rw [wv_left (by omega)]; have := h0.pl j (by omega); omega
    · rw [if_neg e]; exact h1

theorem gs_put {s : BS} (h : GS s) (t : TK) : GS (putX s t) := by
  unfold putX
  by_cases hl : s.lg = true
  · rw [if_pos hl]; exact h
  · rw [if_neg hl]
    have hl' : s.lg = false := by simpa using hl
    by_cases h1 : t.kd = 1
    · rw [if_pos h1]; exact gs_byte h hl' _
    · rw [if_neg h1]
      by_cases h2 : t.kd = 2
      · rw [if_pos h2]; exact gs_start h hl' _ _ _
      · rw [if_neg h2]
        by_cases h3 : t.kd = 3
        · rw [if_pos h3]; exact gs_close h _
        · rw [if_neg h3]; exact h

/-- How great nodes are. -/
def nS (s : BS) : Nat := s.nd.length + nssz s.nd
def tS (t : TK) : Nat := t.nm.size + t.at_.length + asz t.at_

theorem nssz_snoc (l : List ND) (t : ND) : nssz (l ++ [t]) = nssz l + nsz t := by
  induction l with
  | nil => simp [nssz]
  | cons x r ih => simp only [List.cons_append, nssz, ih]; omega

theorem nssz_set (l : List ND) : ∀ (n : Nat) (t : ND), n < l.length → nssz (l.set n t) + nsz (ndK l n) = nssz l + nsz t := by
  induction l with
  | nil => intro n t h; exact absurd h (Nat.not_lt_zero _)
  | cons x r ih =>
    intro n t h
    cases n with
    | zero => simp [nssz, ndK]; omega
    | succ n =>
      have := ih n t (by simpa using h)
      have e : ndK (x :: r) (n + 1) = ndK r n := by simp [ndK]
      simp only [List.set_cons_succ, nssz]
      rw [e]; omega

theorem nS_add (s : BS) (tg : ByteArray) (at_ : List AT) (tx : List Int) : nS (addX s tg at_ tx) ≤ nS s + 1 + tg.size + at_.length + asz at_ + tx.length := by
  unfold addX
  by_cases h6 : 60 ≤ s.nd.length
  · rw [if_pos h6]; simp [nS, bigS, nssz]
  · rw [if_neg h6]
    unfold nS
    simp only [List.length_append, List.length_cons, List.length_nil]
    rw [nssz_snoc]
    simp only [nsz]
    omega

theorem nS_byte (s : BS) (b : Int) : nS (byteX s b) ≤ nS s + 2 := by
  unfold byteX
  by_cases ht : textB s = true
  · rw [if_pos ht]
    by_cases h2 : 240 ≤ (ndK s.nd (s.nd.length - 1)).tx.length
    · rw [if_pos h2]; simp [nS, bigS, nssz]
    · rw [if_neg h2]
      have h0 : 0 < s.nd.length := by
        unfold textB at ht; rw [Bool.and_eq_true] at ht; exact of_decide_eq_true ht.1
      have := nssz_set s.nd (s.nd.length - 1) ⟨(ndK s.nd (s.nd.length - 1)).up, (ndK s.nd (s.nd.length - 1)).tg, (ndK s.nd (s.nd.length - 1)).at_, (ndK s.nd (s.nd.length - 1)).tx ++ [b]⟩ (by omega)
      unfold nS
      simp only [setTx_len]
      unfold setTx
      unfold nsz at this
      simp only [List.length_append, List.length_cons, List.length_nil] at this
      omega
  · rw [if_neg ht]
    have := nS_add s ⟨#[]⟩ [] [b]
    have e : (⟨#[]⟩ : ByteArray).size = 0 := rfl
    simp only [asz, List.length_cons, List.length_nil, e] at this
    omega

theorem nS_put (s : BS) (t : TK) : nS (putX s t) ≤ nS s + 2 + tS t := by
  unfold putX
  by_cases hl : s.lg = true
  · rw [if_pos hl]; omega
  · rw [if_neg hl]
    by_cases h1 : t.kd = 1
    · rw [if_pos h1]; have := nS_byte s t.by_; omega
    · rw [if_neg h1]
      by_cases h2 : t.kd = 2
      · rw [if_pos h2]
        unfold startX
        have e0 : nS (start0 s t.nm) = nS s := by unfold nS; rw [(start0_nd s t.nm).1]
        by_cases h7 : 7 ≤ (start0 s t.nm).op.length
        · rw [if_pos h7, e0]; omega
        · rw [if_neg h7]
          have := nS_add (start0 s t.nm) t.nm t.at_ []
          have e1 : nS (openX (addX (start0 s t.nm) t.nm t.at_ []) t.nm t.sh (start0 s t.nm).nd.length) = nS (addX (start0 s t.nm) t.nm t.at_ []) := by
            unfold openX; split <;> rfl
          rw [e1]
          unfold tS
          simp only [List.length_nil] at this
          omega
      · rw [if_neg h2]
        by_cases h3 : t.kd = 3
        · rw [if_pos h3]; unfold nS; rw [(close_nd s t.nm).1]; omega
        · rw [if_neg h3]; omega

end Go.Proofs.YtpcpnfpnkkjkcaaGreat

/- Marks in attributes of one's own, and that they are held. -/
namespace Go.Proofs.YtpcpnfpnkkjkcaaGreat
open Go.RowKit
set_option linter.unusedVariables false
set_option linter.unusedSimpArgs false

/-- The text of a mark. -/
def dgs : Nat → Nat → ByteArray → ByteArray
  | 0, _, s => s
  | f + 1, m, s => if m = 0 then s else dgs f (m / 10) (strI [48 + (m : Int) % 10] ++ s)
theorem dgs_zero (f : Nat) (s : ByteArray) : dgs f 0 s = s := by cases f <;> simp [dgs]
theorem dgs_step (f m : Nat) (s : ByteArray) (h : 0 < m) (hf : m ≤ f) : ∃ f', m / 10 ≤ f' ∧ dgs f m s = dgs f' (m / 10) (strI [48 + (m : Int) % 10] ++ s) := by
  cases f with
  | zero => omega
  | succ f => exact ⟨f, by omega, by simp [dgs]; omega⟩
def mtx (k : Nat) : ByteArray := ⟨#[109]⟩ ++ dgs k k ⟨#[]⟩

set_option maxHeartbeats 1600000 in
theorem markText_is (k : Nat) (w : World) (h0 : 0 < k) (hk : k ≤ 100000000) :
    Calls Tryz.prog 51 #[.int .i64 k] w fun e w' => e = .returned (.string (mtx k)) ∧ Below w.heap.size w w' := by
  have k0 : ¬ (k : Int) ≤ 0 := by omega
  go_enter Tryz.func51, Tryz.ntmps51
  go_wp2
  go_loopw [0, 3] (fun x o wr => ∃ (m f : Nat) (s : ByteArray), x = .int .i64 m ∧ m ≤ 100000000 ∧ o = .string s ∧ s.size + m ≤ 100000001 ∧ m ≤ f ∧ dgs f m s = dgs k k ⟨#[]⟩ ∧ Below w.heap.size w wr) (fun x _ _ => (intOf x).toNat)
  case atStart => exact ⟨k, k, ⟨#[]⟩, rfl, hk, rfl, by have : (⟨#[]⟩ : ByteArray).size = 0 := rfl; omega, Nat.le_refl _, rfl, Below.refl _ _⟩
  case round =>
    obtain ⟨m, f, s, rfl, hm, rfl, hs, hf, hd, hbl⟩ := hrel
    have HB := Hid.mk' hbl
    have HD := Hid.mk' hd
    clear hbl hd
    by_cases hz : 0 < m
    · have ci : (m : Int) > 0 := by omega
      have hcv := conv_one wr
      have hst := strI_one (48 + (m : Int) % 10)
      obtain ⟨f', hf', hd'⟩ := dgs_step f m s hz hf
      have HD' := Hid.mk' hd'
      clear hd'
      go_wp2
      go_roundw
      case rel => exact ⟨m / 10, f', _, by go_num, by omega, rfl, by rw [ByteArray.size_append, hst]; omega, hf', by rw [← HD.out, HD'.out], HB.out.alloc HB.out.size _⟩
      case measure => simp [intOf]; omega
    · have ci : ¬ (m : Int) > 0 := by omega
      have em : m = 0 := by omega
      subst em
      have E : Hid (⟨#[109]⟩ ++ s = mtx k) := Hid.mk' (by unfold mtx; rw [← HD.out, dgs_zero])
      go_wp2
      go_ret
      exact ⟨by rw [← E.out]; rfl, HB.out⟩

/-- Marks, from k on. -/
def mkA : Nat → List AT → List AT
  | _, [] => []
  | k, a :: l => ⟨mtx k, mb (k + 1) a.vl.length⟩ :: mkA (k + 1 + a.vl.length) l
theorem mkA_len : ∀ (k : Nat) (l : List AT), (mkA k l).length = l.length
  | _, [] => rfl
  | k, a :: l => by simp [mkA, mkA_len]
theorem mkA_snoc : ∀ (k : Nat) (l : List AT) (a : AT), mkA k (l ++ [a]) = mkA k l ++ [⟨mtx (k + l.length + vsz l), mb (k + l.length + vsz l + 1) a.vl.length⟩]
  | k, [], a => by simp [mkA, vsz]
  | k, b :: l, a => by
    simp only [List.cons_append, mkA, mkA_snoc (k + 1 + b.vl.length) l a, List.length_cons, vsz]
    rw [show k + 1 + b.vl.length + l.length + vsz l = k + (l.length + 1) + (b.vl.length + vsz l) from by omega]
theorem mkA_get {k : Nat} {l : List AT} {i : Nat} (h : i < l.length) : atK (mkA k l) i = ⟨mtx (k + i + vsz (l.take i)), mb (k + i + vsz (l.take i) + 1) (atK l i).vl.length⟩ := by
  induction l generalizing k i with
  | nil => exact absurd h (Nat.not_lt_zero _)
  | cons b l ih =>
    cases i with
    | zero => simp [mkA, atK, vsz]
    | succ i =>
      have := ih (k := k + 1 + b.vl.length) (i := i) (by simpa using h)
      have e1 : atK (mkA k (b :: l)) (i + 1) = atK (mkA (k + 1 + b.vl.length) l) i := by simp [mkA, atK]
      have e2 : atK (b :: l) (i + 1) = atK l i := by simp [atK]
      rw [e1, this, e2]
      simp only [List.take_succ_cons, vsz]
      rw [show k + 1 + b.vl.length + i + vsz (l.take i) = k + (i + 1) + (b.vl.length + vsz (l.take i)) from by omega]

theorem acs_set : ∀ (l : List AT) (us : List Value) (i : Nat) (a : AT), us.length = l.length → i < l.length → acs (l.set i a) us = (acs l us).set (i * 2) (.string a.nm)
  | [], us, i, a, _, h => absurd h (Nat.not_lt_zero _)
  | b :: l, [], i, a, h, _ => by simp at h
  | b :: l, u :: us, 0, a, h, _ => by simp [acs]
  | b :: l, u :: us, i + 1, a, h, hi => by
    have := acs_set l us i a (by simpa using h) (by simpa using hi)
    rw [show (i + 1) * 2 = i * 2 + 1 + 1 from by omega]
    simp [acs, this]

/-- A cell of one's own row is turned. -/
theorem own_cell {w : World} {base g n cap : Nat} {e : TypeId} {xs : List Value} (h : w.ownsRow base e 2 (.slice (some ⟨g, 0, none⟩) n cap) n xs) (j : Nat) (hj : j < n * 2) (x : Value) : (w.setCell ⟨g, j, none⟩ x).ownsRow base e 2 (.slice (some ⟨g, 0, none⟩) n cap) n (xs.set j x) := by
  refine ⟨by rw [List.length_set]; exact h.1, .inr ?_⟩
  rcases h.2 with ⟨h0, _⟩ | ⟨g', cap', cur, hv, hg, hh, hc, hm, hs, ht⟩
  · cases h0
  · cases hv
    refine ⟨g, cap, cur.setIfInBounds j x, rfl, hg, ?_, hc, hm, by simpa using hs, ?_⟩
    · simp [World.setCell, Array.getElem?_modify, hh]
    · rw [← ht]
      simp [List.take_set]

theorem set_get (l : List AT) (i j : Nat) (a : AT) (h : i < l.length) : atK (l.set i a) j = if j = i then a else atK l j := by
  unfold atK
  by_cases e : j = i
  · subst e; simp [List.getD_eq_getElem?_getD, h]
  · rw [if_neg e]; simp [List.getD_eq_getElem?_getD, List.getElem?_set, Ne.symm e]

theorem OA.name {lo g cap : Nat} {w : World} {l : List AT} {us : List Value} (h : OA lo w (.slice (some ⟨g, 0, none⟩) l.length cap) l us) (i : Nat) (hi : i < l.length) (s : ByteArray) : OA lo (w.setCell ⟨g, i * 2, none⟩ (.string s)) (.slice (some ⟨g, 0, none⟩) l.length cap) (l.set i ⟨s, (atK l i).vl⟩) us := by
  have hg : ∀ j, j < l.length → ∀ k, (us.getD j undef).ownBlock = some k → k ≠ g := fun j hj k e ek => h.av j hj k (by rw [ek]; rfl) e
  refine ⟨by rw [List.length_set]; exact h.len, ?_, fun j hj => ?_, fun j hj => h.vlo j (by simpa using hj), fun a b hab hb => h.ap a b hab (by simpa using hb), fun j hj => h.av j (by simpa using hj)⟩
  · rw [acs_set l us i _ h.len hi, List.length_set]
    exact own_cell h.row (i * 2) (by omega) _
  · rw [List.length_set] at hj
    rw [set_get l i j _ hi]
    have : OB (w.setCell ⟨g, i * 2, none⟩ (.string s)) (us.getD j undef) (atK l j).vl := (h.val j hj).keep (fun k e _ => Deep.blk_setCell_other _ _ _ _ (hg j hj k e))
    by_cases e : j = i
    · subst e; rw [if_pos rfl]; exact this
    · rw [if_neg e]; exact this

theorem set_same {α : Type} : ∀ (l : List α) (i : Nat) (x : α), l[i]? = some x → l.set i x = l
  | [], i, x, h => by simp at h
  | a :: l, 0, x, h => by simp at h; simp [h]
  | a :: l, i + 1, x, h => by simp at h; simp [set_same l i x h]

theorem OA.value {lo : Nat} {w w' : World} {v : Value} {l : List AT} {us : List Value} (h : OA lo w v l us) (i : Nat) (hi : i < l.length) (m : List Int) (ho : OB w' (us.getD i undef) m) (ht : Turned (us.getD i undef) w w') : OA lo w' v (l.set i ⟨(atK l i).nm, m⟩) us := by
  have hb : ∀ k, k < w.heap.size → (us.getD i undef).ownBlock ≠ some k → w'.heap[k]? = w.heap[k]? := fun k hk hn => ht.block k hk hn
  have nms : acs (l.set i ⟨(atK l i).nm, m⟩) us = acs l us := by
    rw [acs_set l us i _ h.len hi]
    have := (acs_get l us i h.len hi).1
    exact set_same _ _ _ this
  refine ⟨by rw [List.length_set]; exact h.len, ?_, fun j hj => ?_, fun j hj => h.vlo j (by simpa using hj), fun a b hab hb' => h.ap a b hab (by simpa using hb'), fun j hj => h.av j (by simpa using hj)⟩
  · rw [nms, List.length_set]
    exact own_of h.row (Nat.le_refl _) (fun k e _ => hb k (h.row.lt k e).2 (fun e2 => h.av i hi k e e2))
  · rw [List.length_set] at hj
    rw [set_get l i j _ hi]
    by_cases e : j = i
    · subst e; rw [if_pos rfl]; exact ho
    · rw [if_neg e]
      refine (h.val j hj).keep (fun k e1 hl => hb k hl (fun e2 => ?_))
      rcases Nat.lt_or_gt_of_ne e with hlt | hgt
      · exact h.ap j i hlt hi k e1 e2
      · exact h.ap i j hgt hj k e2 e1

/-- The block of a row of attributes. -/
theorem OA.spot {lo : Nat} {w : World} {v : Value} {l : List AT} {us : List Value} (h : OA lo w v l us) (hl : 0 < l.length) : ∃ g cap, v = .slice (some ⟨g, 0, none⟩) l.length cap ∧ lo ≤ g ∧ g < w.heap.size ∧ ∀ k, k < l.length → w.cell? ⟨g, k * 2, none⟩ = some (.string (atK l k).nm) ∧ w.cell? ⟨g, k * 2 + 1, none⟩ = some (us.getD k undef) ∧ w.frozen? ⟨g, k * 2, none⟩ = false := by
  rcases h.row.2 with ⟨rfl, h0⟩ | ⟨g, cap, cur, rfl, hg, hh, hc, hm, hs, ht⟩
  · omega
  · refine ⟨g, cap, rfl, hg, ?_, fun k hk => ?_⟩
    · exact Nat.lt_of_not_le fun hn => by rw [Array.getElem?_eq_none hn] at hh; cases hh
    · obtain ⟨h1, h2⟩ := acs_get l us k h.len hk
      rw [← ht] at h1 h2
      rw [List.getElem?_take_of_lt (by omega)] at h1 h2
      have q : ∀ i, w.cell? ⟨g, i, none⟩ = cur[i]? := fun i => Lib.cell_of_heap hh i
      exact ⟨by rw [q, ← h1]; simp, by rw [q, ← h2]; simp, Lib.frozen_of_heap hh _⟩

/-- k of them are marked. -/
def half (z : Nat) (l : List AT) (k : Nat) : List AT := mkA z (l.take k) ++ l.drop k
theorem half_len (z : Nat) (l : List AT) (k : Nat) : (half z l k).length = l.length := by simp [half, mkA_len]; omega
theorem half_get (z : Nat) (l : List AT) (k : Nat) (h : k < l.length) : atK (half z l k) k = atK l k := by
  have e : (mkA z (l.take k)).length = k := by rw [mkA_len, List.length_take]; omega
  unfold half atK
  rw [List.getD_eq_getElem?_getD, List.getElem?_append_right (by omega), e, Nat.sub_self, List.getElem?_drop, Nat.add_zero, ← List.getD_eq_getElem?_getD]
theorem half_set (z : Nat) (l : List AT) (k : Nat) (h : k < l.length) : (half z l k).set k ⟨mtx (z + k + vsz (l.take k)), mb (z + k + vsz (l.take k) + 1) (atK l k).vl.length⟩ = half z l (k + 1) := by
  have e : (mkA z (l.take k)).length = k := by rw [mkA_len, List.length_take]; omega
  have e2 : l.take (k + 1) = l.take k ++ [atK l k] := by
    rw [List.take_add_one, List.getElem?_eq_getElem h]
    simp [atK, List.getD_eq_getElem?_getD, List.getElem?_eq_getElem h]
  have e3 : (l.take k).length = k := by rw [List.length_take]; omega
  unfold half
  rw [e2, mkA_snoc, e3, List.set_append_right _ _ (by omega), e, Nat.sub_self, List.drop_eq_getElem_cons h, List.set_cons_zero, List.append_assoc]
  rfl

/-- A block that is none of those of attributes. -/
def AFree (v : Value) (us : List Value) (n j : Nat) : Prop := v.ownBlock ≠ some j ∧ ∀ i, i < n → (us.getD i undef).ownBlock ≠ some j

set_option maxHeartbeats 3200000 in
theorem markAttrS_is (z lo : Nat) (v : Value) (l : List AT) (us : List Value) (w : World) (h : OA lo w v l us) (hlo : lo ≤ w.heap.size) (hz : 0 < z) (hz2 : (z : Int) ≤ 90000000) (hl : (l.length : Int) + asz l ≤ 2000000) :
    Calls Tryz.prog 49 #[v, .int .i64 (z : Int)] w fun e w' => e = .returned (.int .i64 ((z : Int) + (l.length : Int) + (vsz l : Int))) ∧ OA lo w' v (mkA z l) us ∧ Kp (AFree v us l.length) w w' := by
  have HM := Hid.mk' h
  obtain ⟨av, cv, rfl, _⟩ := h.at
  clear h
  go_enter Tryz.func49, Tryz.ntmps49
  go_wp2
  go_loopw [1, 5] (fun x i wr => ∃ k : Nat, k ≤ l.length ∧ i = .int .i64 k ∧ x = .int .i64 ((z + k + vsz (l.take k) : Nat) : Int) ∧ OA lo wr (.slice av l.length cv) (half z l k) us ∧ Kp (AFree (.slice av l.length cv) us l.length) w wr) (fun _ i _ => l.length - (intOf i).toNat)
  case atStart => exact ⟨0, Nat.zero_le _, rfl, by simp [vsz], by simpa [half, mkA] using HM.out, Kp.refl _ _⟩
  case round =>
    obtain ⟨k, hk, rfl, rfl, hoa, hbl⟩ := hrel
    have HR := Hid.mk' hoa
    have HB := Hid.mk' hbl
    have szr := hbl.size
    clear hbl
    by_cases hlt : k < l.length
    · have ci : (k : Int) < (l.length : Int) := by omega
      have st := vsz_take l k hlt
      have sl := vsz_le l (k + 1)
      have hln := half_len z l k
      obtain ⟨g, cap, ev, hg1, hg2, hcell⟩ := hoa.spot (by omega)
      rw [hln] at ev
      cases ev
      obtain ⟨q, hq⟩ : ∃ q : Nat, z + k + vsz (l.take k) = q := ⟨_, rfl⟩
      have hq1 : z + (k + 1) + vsz (l.take (k + 1)) = q + 1 + (atK l k).vl.length := by omega
      have hq2 : q + 1 + (atK l k).vl.length ≤ 100000000 := by omega
      have Q1 := Hid.mk' hq1
      have HS := half_set z l k hlt
      rw [hq] at HS
      have HS := Hid.mk' HS
      have KT := Hid.mk' (markText_is q wr (by omega) (by omega))
      rw [hq]
      clear st sl hq hq1 hoa hcell
      go_wp2_with fail
      refine KT.out.mono ?_
      rintro e w1 ⟨rfl, hb⟩
      have O1 := HR.out.below hb
      obtain ⟨g', cap', ev, hg3, hg4, hcell⟩ := O1.spot (by omega)
      rw [hln] at ev
      cases ev
      obtain ⟨c0, c1, c2⟩ := hcell k (by omega)
      have O2 : OA lo (w1.setCell ⟨g, k * 2, none⟩ (.string (mtx q))) (.slice (some ⟨g, 0, none⟩) l.length cv) ((half z l k).set k ⟨mtx q, (atK l k).vl⟩) us := by
        have := OA.name (cap := cv) (g := g) (by rw [hln]; exact O1) k (by omega) (mtx q)
        rw [half_get z l k hlt, hln] at this
        exact this
      have hl2 : ((half z l k).set k ⟨mtx q, (atK l k).vl⟩).length = l.length := by rw [List.length_set]; exact hln
      have V2 := O2.val k (by omega)
      rw [set_get _ _ _ _ (by omega), if_pos rfl] at V2
      have KB := markByteS_own (q + 1) (us.getD k undef) (atK l k).vl _ V2 (by omega)
      obtain ⟨pu, cu, eu, _⟩ := V2.len
      have B2 := Hid.mk' ((HB.out.trans (Kp.of_below hb)).setCell (q := ⟨g, k * 2, none⟩) (fun e => e.1 rfl) (.string (mtx q)))
      have d1 : (w1.setCell ⟨g, k * 2, none⟩ (.string (mtx q))).cell? ⟨g, k * 2 + 1, none⟩ = some (.slice pu (atK l k).vl.length cu) := by
        obtain ⟨g'', cap'', ev, _, _, hc2⟩ := O2.spot (by omega)
        rw [hl2] at ev
        cases ev
        have := (hc2 k (by omega)).2.1
        rw [this, eu]
      rw [eu] at KB
      have KB := Hid.mk' KB
      have O2 := Hid.mk' O2
      have EU := Hid.mk' eu
      have s2 : (w1.setCell ⟨g, k * 2, none⟩ (.string (mtx q))).heap.size = w1.heap.size := by simp [World.setCell]
      have sb := hb.size
      clear hb O1 KT HR hcell V2 eu c1
      generalize hV : w1.setCell ⟨g, k * 2, none⟩ (.string (mtx q)) = V at *
      go_wp2_with fail
      clear hV
      refine KB.out.mono ?_
      rintro e w2 ⟨rfl, hob, htu⟩
      rw [← EU.out] at hob htu
      have O3 := O2.out.value k (by omega) (mb (q + 1) (atK l k).vl.length) hob htu
      rw [set_get _ _ _ _ (by omega), if_pos rfl, List.set_set, HS.out] at O3
      have O3 := Hid.mk' O3
      have B3 := Hid.mk' (B2.out.trans (Kp.of_turned htu (fun j e => e.2 k hlt)))
      clear hob htu KB
      go_wp2
      go_roundw
      case rel => exact ⟨k + 1, by omega, by go_num, by rw [Q1.out]; simp, O3.out, B3.out⟩
      case measure => simp [intOf]; omega
    · have ci : ¬ (k : Int) < (l.length : Int) := by omega
      have e : k = l.length := by omega
      subst e
      have EH : half z l l.length = mkA z l := by unfold half; rw [List.take_length, List.drop_length, List.append_nil]
      rw [EH] at hoa
      have HO := Hid.mk' hoa
      clear hoa HR
      rw [List.take_length]
      go_wp2
      go_ret
      exact ⟨ret_num (by omega), HO.out, HB.out⟩

set_option maxHeartbeats 3200000 in
theorem heldAttrS_is (z : Nat) (a : Option Addr) (c : Nat) (l : List AT) (w : World) (ha : AAt w a (mkA z l)) (hz : 0 < z) (hz2 : (z : Int) ≤ 90000000) (hl : (l.length : Int) + asz l ≤ 2000000) :
    Calls Tryz.prog 81 #[.slice a l.length c, .int .i64 (z : Int)] w fun e w' => e = .returned (.int .i64 ((z : Int) + (l.length : Int) + (vsz l : Int))) ∧ Below w.heap.size w w' := by
  have HA := Hid.mk' ha
  clear ha
  go_enter Tryz.func81, Tryz.ntmps81
  go_wp2
  go_loopw [1, 5] (fun x i wr => ∃ k : Nat, k ≤ l.length ∧ i = .int .i64 k ∧ x = .int .i64 ((z + k + vsz (l.take k) : Nat) : Int) ∧ Below w.heap.size w wr) (fun _ i _ => l.length - (intOf i).toNat)
  case atStart => exact ⟨0, Nat.zero_le _, rfl, by simp [vsz], Below.refl _ _⟩
  case round =>
    obtain ⟨k, hk, rfl, rfl, hbl⟩ := hrel
    have HB := Hid.mk' hbl
    by_cases hlt : k < l.length
    · have ci : (k : Int) < (l.length : Int) := by omega
      have st := vsz_take l k hlt
      have sl := vsz_le l (k + 1)
      rcases HA.out.below hbl with h0 | ⟨b1, o1, rfl, s1, hc1⟩
      · have := mkA_len z l; rw [h0] at this; simp at this; omega
      obtain ⟨h1, p1, d1, h2, h3⟩ := hc1 k (by rw [mkA_len]; exact hlt)
      rw [mkA_get hlt] at h1 h2 h3
      obtain ⟨q, hq⟩ : ∃ q : Nat, z + k + vsz (l.take k) = q := ⟨_, rfl⟩
      rw [hq] at h1 h2 h3 ⊢
      have hq1 : z + (k + 1) + vsz (l.take (k + 1)) = q + 1 + (atK l k).vl.length := by omega
      have hq2 : q + 1 + (atK l k).vl.length ≤ 100000000 := by omega
      have Q1 := Hid.mk' hq1
      simp only [mb_len] at h1 h2 h3
      have H3 := Hid.mk' h3
      have KT := Hid.mk' (markText_is q wr.drew (by omega) (by omega))
      clear st sl hq hq1 hc1 h3 hbl
      go_wp2_with fail
      go_region_held3 (fun w' => w'.cell? ⟨b1, o1 + k * 2, none⟩ = some (.string (mtx q))) (simp [*])
        ((go_at_call 51; refine KT.out.mono ?_; rintro e w1 ⟨rfl, hb1⟩; replace hb1 := undrew hb1; obtain ⟨hx1, hx2⟩ := bcell hb1))
      have B1 := Hid.mk' (HB.out.trans (hb1.mono HB.out.size))
      have g2 : w1.cell? ⟨b1, o1 + k * 2 + 1, none⟩ = some (.slice p1 (atK l k).vl.length d1) := (hx1 _ _ s1).trans h2
      have KB := Hid.mk' (heldByteS_any p1 d1 (atK l k).vl.length (q + 1) w1 (H3.out.below hb1) (by omega))
      clear hb1 hx1 hx2 KT
      go_wp2_with fail
      refine KB.out.mono ?_
      rintro e w2 ⟨rfl, hb2⟩
      have B2 := Hid.mk' (B1.out.trans (hb2.mono B1.out.size))
      have zz : ¬ (((q + 1 : Nat) : Int) + (atK l k).vl.length < 0) := by omega
      clear hb2 KB
      go_wp2
      go_roundw
      case rel => exact ⟨k + 1, by omega, by go_num, by rw [Q1.out]; simp, B2.out⟩
      case measure => simp [intOf]; omega
    · have ci : ¬ (k : Int) < (l.length : Int) := by omega
      have e : k = l.length := by omega
      subst e
      rw [List.take_length]
      go_wp2
      go_ret
      exact ⟨ret_num (by omega), HB.out⟩

end Go.Proofs.YtpcpnfpnkkjkcaaGreat

/- Marks in nodes of one's own, and that they are held. -/
namespace Go.Proofs.YtpcpnfpnkkjkcaaGreat
open Go.RowKit
set_option linter.unusedVariables false
set_option linter.unusedSimpArgs false

/-- Nodes of one's own, as an answer has them. -/
structure NQ (τ : Nat → Nat) (lo : Nat) (w : World) (v : Value) (l : List ND) (va vt : Nat → Value) (us : Nat → List Value) : Prop where
  row : w.ownsRow lo 104 4 v l.length (ncs l va vt l.length)
  att : ∀ j, j < l.length → OA lo w (va j) (ndK l j).at_ (us j)
  txt : ∀ j, j < l.length → OB w (vt j) (ndK l j).tx
  rl : ∀ k, v.ownBlock = some k → τ k = 0
  al : ∀ j, j < l.length → ∀ k, (va j).ownBlock = some k → τ k = 2 * j + 3
  ul : ∀ j, j < l.length → ∀ i, i < (ndK l j).at_.length → ∀ k, ((us j).getD i undef).ownBlock = some k → τ k = 2 * j + 3
  tl : ∀ j, j < l.length → ∀ k, (vt j).ownBlock = some k → τ k = 2 * j + 4

theorem NS.nq {τ : Nat → Nat} {lo : Nat} {w : World} {v : Value} {l : List ND} {va vt : Nat → Value} {us : Nat → List Value} (h : NS τ lo w v l va vt us) : NQ τ lo w v l va vt us :=
  ⟨h.row, h.att, fun j hj => (OB.of_own (h.txt j hj)).1, h.rl, h.al, h.ul, h.tl⟩

theorem NQ.keep {τ : Nat → Nat} {lo : Nat} {w w' : World} {v : Value} {l : List ND} {va vt : Nat → Value} {us : Nat → List Value} (h : NQ τ lo w v l va vt us) (hk : Kp (fun k => τ k = 0 ∨ 3 ≤ τ k) w w') : NQ τ lo w' v l va vt us := by
  refine ⟨own_of h.row (Nat.le_refl _) (fun k e _ => hk.block k (h.row.lt k e).2 (.inl (h.rl k e))), fun j hj => (h.att j hj).keepOf (fun k e hl => hk.block k hl (.inr (by have := h.al j hj k e; omega))) (fun i hi k e hl => hk.block k hl (.inr (by have := h.ul j hj i hi k e; omega))), fun j hj => (h.txt j hj).keep (fun k e hl => hk.block k hl (.inr (by have := h.tl j hj k e; omega))), h.rl, h.al, h.ul, h.tl⟩

theorem NQ.below {τ : Nat → Nat} {lo : Nat} {w w' : World} {v : Value} {l : List ND} {va vt : Nat → Value} {us : Nat → List Value} (h : NQ τ lo w v l va vt us) (hb : Below w.heap.size w w') : NQ τ lo w' v l va vt us := h.keep (Kp.of_below hb)

theorem NQ.spot {τ : Nat → Nat} {lo : Nat} {w : World} {v : Value} {l : List ND} {va vt : Nat → Value} {us : Nat → List Value} (h : NQ τ lo w v l va vt us) (h0 : 0 < l.length) : ∃ g cap, v = .slice (some ⟨g, 0, none⟩) l.length cap ∧ lo ≤ g ∧ g < w.heap.size ∧ (∀ k i, k < l.length → i < 4 → w.cell? ⟨g, k * 4 + i, none⟩ = ([.int .i64 (ndK l k).up, .string (ndK l k).tg, va k, vt k] : List Value)[i]?) ∧ ∀ i, w.frozen? ⟨g, i, none⟩ = false := by
  rcases h.row.2 with ⟨rfl, h9⟩ | ⟨g, cap, cur, rfl, hg, hh, hc, hm, hs, ht⟩
  · omega
  · refine ⟨g, cap, rfl, hg, ?_, fun k i hk hi => ?_, fun i => Lib.frozen_of_heap hh _⟩
    · exact Nat.lt_of_not_le fun hn => by rw [Array.getElem?_eq_none hn] at hh; cases hh
    · have q : w.cell? ⟨g, k * 4 + i, none⟩ = cur[k * 4 + i]? := Lib.cell_of_heap hh _
      rw [q, ← ncs_get l va vt l.length k i hk hi, ← ht, List.getElem?_take_of_lt (by omega)]
      simp

theorem NQ.at {τ : Nat → Nat} {lo : Nat} {w : World} {v : Value} {l : List ND} {va vt : Nat → Value} {us : Nat → List Value} (h : NQ τ lo w v l va vt us) : ∃ a c, v = .slice a l.length c ∧ NsAt w a l := by
  by_cases h0 : 0 < l.length
  · obtain ⟨g, cap, e, h1, h2, h4, _⟩ := h.spot h0
    refine ⟨_, _, e, .inr ⟨g, 0, rfl, h2, fun k hk => ?_⟩⟩
    have c := fun i (hi : i < 4) => h4 k i hk hi
    obtain ⟨pa, ca, ea, ha⟩ := (h.att k hk).at
    obtain ⟨pt, ct, et, ht⟩ := (h.txt k hk).len
    have hc : (ndK l k).at_.length ≤ ca := by
      obtain ⟨a9, c9, e9, h9⟩ := own_len (h.att k hk).row
      rw [ea] at e9; cases e9; exact h9
    simp only [Nat.zero_add]
    refine ⟨c 0 (by omega), c 1 (by omega), ⟨pa, ca, by rw [c 2 (by omega), ← ea]; rfl, hc, ha⟩, ⟨pt, ct, by rw [c 3 (by omega), ← et]; rfl, ht⟩⟩
  · obtain ⟨a, c, e, _⟩ := own_len h.row
    exact ⟨a, c, e, .inl (List.eq_nil_of_length_eq_zero (by omega))⟩

/-- One of them is another one. -/
theorem NQ.modify {τ : Nat → Nat} {lo n : Nat} {w w' : World} {v : Value} {l : List ND} {va vt : Nat → Value} {us : Nat → List Value} {t : ND} (h : NQ τ lo w v l va vt us) (hn : n < l.length) (hl : t.at_.length = (ndK l n).at_.length)
    (hr : w'.ownsRow lo 104 4 v l.length (ncs (l.set n t) va vt l.length)) (ha : OA lo w' (va n) t.at_ (us n)) (ht : OB w' (vt n) t.tx) (hk : Kp (fun j => ¬ τ j = 0 ∧ ¬ τ j = 2 * n + 3 ∧ ¬ τ j = 2 * n + 4) w w') : NQ τ lo w' v (l.set n t) va vt us := by
  have len : (l.set n t).length = l.length := List.length_set
  have nd : ∀ j, ndK (l.set n t) j = if j = n then t else ndK l j := fun j => ndK_set hn
  refine ⟨by rw [len]; exact hr, fun j hj => ?_, fun j hj => ?_, h.rl, fun j hj => h.al j (by omega), fun j hj i hi => h.ul j (by omega) i ?_, fun j hj => h.tl j (by omega)⟩
  · rw [len] at hj
    rw [nd]
    by_cases e : j = n
    · subst e; rw [if_pos rfl]; exact ha
    · rw [if_neg e]
      exact (h.att j hj).keepOf (fun k e' hl' => hk.block k hl' (by have := h.al j hj k e'; omega)) (fun i hi k e' hl' => hk.block k hl' (by have := h.ul j hj i hi k e'; omega))
  · rw [len] at hj
    rw [nd]
    by_cases e : j = n
    · subst e; rw [if_pos rfl]; exact ht
    · rw [if_neg e]
      exact (h.txt j hj).keep (fun k e' hl' => hk.block k hl' (by have := h.tl j hj k e'; omega))
  · rw [nd] at hi
    by_cases e : j = n
    · subst e; rw [if_pos rfl, hl] at hi; exact hi
    · rw [if_neg e] at hi; exact hi

/-- A block that is none of nodes'. -/
def Oth (τ : Nat → Nat) (k : Nat) : Prop := τ k = 1 ∨ τ k = 2

/-- How many marks nodes take. -/
def cn1 (t : ND) : Nat := 2 + t.at_.length + vsz t.at_ + t.tx.length
def cnN : List ND → Nat
  | [] => 0
  | t :: l => cn1 t + cnN l

/-- A node, marked from z on. -/
def mk1 (z : Nat) (t : ND) : ND := ⟨(z : Int), mtx (z + 1), mkA (z + 1 + 1) t.at_, mb (z + 1 + 1 + t.at_.length + vsz t.at_) t.tx.length⟩
def mkN : Nat → List ND → List ND
  | _, [] => []
  | z, t :: l => mk1 z t :: mkN (z + cn1 t) l

theorem mkN_len : ∀ (z : Nat) (l : List ND), (mkN z l).length = l.length
  | _, [] => rfl
  | z, t :: l => by simp [mkN, mkN_len]
theorem mkN_snoc : ∀ (z : Nat) (l : List ND) (t : ND), mkN z (l ++ [t]) = mkN z l ++ [mk1 (z + cnN l) t]
  | z, [], t => by simp [mkN, cnN]
  | z, x :: l, t => by simp only [List.cons_append, mkN, mkN_snoc (z + cn1 x) l t, cnN]; rw [Nat.add_assoc]
theorem mkN_get {z : Nat} {l : List ND} {i : Nat} (h : i < l.length) : ndK (mkN z l) i = mk1 (z + cnN (l.take i)) (ndK l i) := by
  induction l generalizing z i with
  | nil => exact absurd h (Nat.not_lt_zero _)
  | cons x l ih =>
    cases i with
    | zero => simp [mkN, ndK, cnN]
    | succ i =>
      have := ih (z := z + cn1 x) (i := i) (by simpa using h)
      have e1 : ndK (mkN z (x :: l)) (i + 1) = ndK (mkN (z + cn1 x) l) i := by simp [mkN, ndK]
      have e2 : ndK (x :: l) (i + 1) = ndK l i := by simp [ndK]
      rw [e1, this, e2]
      simp only [List.take_succ_cons, cnN]
      rw [Nat.add_assoc]
theorem cnN_take (l : List ND) : ∀ k, k < l.length → cnN (l.take (k + 1)) = cnN (l.take k) + cn1 (ndK l k) := by
  induction l with
  | nil => intro k h; exact absurd h (Nat.not_lt_zero _)
  | cons x r ih =>
    intro k hk
    cases k with
    | zero => simp [cnN, ndK]
    | succ k =>
      have := ih k (by simpa using hk)
      have e : ndK (x :: r) (k + 1) = ndK r k := by simp [ndK]
      simp only [List.take_succ_cons, cnN]
      rw [this, e]; omega
theorem cnN_le (l : List ND) (k : Nat) : cnN (l.take k) ≤ 2 * l.length + nssz l := by
  induction l generalizing k with
  | nil => simp [cnN]
  | cons x r ih =>
    cases k with
    | zero => simp [cnN]
    | succ k =>
      have := ih k
      have v := vsz_asz x.at_
      simp only [List.take_succ_cons, cnN, nssz, List.length_cons, cn1, nsz]
      omega

def halfN (z : Nat) (l : List ND) (k : Nat) : List ND := mkN z (l.take k) ++ l.drop k
theorem halfN_len (z : Nat) (l : List ND) (k : Nat) : (halfN z l k).length = l.length := by simp [halfN, mkN_len]; omega
theorem halfN_get (z : Nat) (l : List ND) (k : Nat) (h : k < l.length) : ndK (halfN z l k) k = ndK l k := by
  have e : (mkN z (l.take k)).length = k := by rw [mkN_len, List.length_take]; omega
  unfold halfN ndK
  rw [List.getD_eq_getElem?_getD, List.getElem?_append_right (by omega), e, Nat.sub_self, List.getElem?_drop, Nat.add_zero, ← List.getD_eq_getElem?_getD]
theorem halfN_set (z : Nat) (l : List ND) (k : Nat) (h : k < l.length) : (halfN z l k).set k (mk1 (z + cnN (l.take k)) (ndK l k)) = halfN z l (k + 1) := by
  have e : (mkN z (l.take k)).length = k := by rw [mkN_len, List.length_take]; omega
  have e2 : l.take (k + 1) = l.take k ++ [ndK l k] := by
    rw [List.take_add_one, List.getElem?_eq_getElem h]
    simp [ndK, List.getD_eq_getElem?_getD, List.getElem?_eq_getElem h]
  unfold halfN
  rw [e2, mkN_snoc, List.set_append_right _ _ (by omega), e, Nat.sub_self, List.drop_eq_getElem_cons h, List.set_cons_zero, List.append_assoc]
  rfl
theorem halfN_zero (z : Nat) (l : List ND) : halfN z l 0 = l := by simp [halfN, mkN]
theorem halfN_all (z : Nat) (l : List ND) : halfN z l l.length = mkN z l := by simp [halfN]

/-- A cell of the row is turned; nothing else. -/
theorem row_set {lo g cap n i : Nat} {w : World} {l : List ND} {va vt : Nat → Value} {u : ND} {x : Value} (h : w.ownsRow lo 104 4 (.slice (some ⟨g, 0, none⟩) l.length cap) l.length (ncs l va vt l.length)) (hn : n < l.length) (hi : i < 4)
    (hs : ([.int .i64 (ndK l n).up, .string (ndK l n).tg, va n, vt n] : List Value).set i x = [.int .i64 u.up, .string u.tg, va n, vt n]) :
    (w.setCell ⟨g, n * 4 + i, none⟩ x).ownsRow lo 104 4 (.slice (some ⟨g, 0, none⟩) l.length cap) l.length (ncs (l.set n u) va vt l.length) := by
  have R2 := own_cellN h (n * 4 + i) (by omega) x
  rw [ncs_set (l' := l.set n u) (vt' := vt) hn hi (fun j hj e => by rw [ndK_set hn, if_neg e]; exact ⟨rfl, rfl, rfl⟩) (by rw [ndK_set hn, if_pos rfl]; exact hs)] at R2
  exact R2

set_option maxHeartbeats 6400000 in
theorem markNodeS_is (τ : Nat → Nat) (z lo : Nat) (v : Value) (l : List ND) (va vt : Nat → Value) (us : Nat → List Value) (w : World) (h : NQ τ lo w v l va vt us) (hlo : lo ≤ w.heap.size) (hz : 0 < z) (hz2 : (z : Int) ≤ 10000000) (hl : (l.length : Int) + nssz l ≤ 2000000) :
    Calls Tryz.prog 47 #[v, .int .i64 (z : Int)] w fun e w' => e = .returned (.int .i64 ((z + cnN l : Nat) : Int)) ∧ NQ τ lo w' v (mkN z l) va vt us ∧ Kp (Oth τ) w w' := by
  have HM := Hid.mk' h
  obtain ⟨av, cv, rfl, _⟩ := own_len h.row
  clear h
  go_enter Tryz.func47, Tryz.ntmps47
  go_wp2
  go_loopw [1, 5] (fun x i wr => ∃ k : Nat, k ≤ l.length ∧ i = .int .i64 k ∧ x = .int .i64 ((z + cnN (l.take k) : Nat) : Int) ∧ NQ τ lo wr (.slice av l.length cv) (halfN z l k) va vt us ∧ Kp (Oth τ) w wr) (fun _ i _ => l.length - (intOf i).toNat)
  case atStart => exact ⟨0, Nat.zero_le _, rfl, by simp [cnN], by rw [halfN_zero]; exact HM.out, Kp.refl _ _⟩
  case round =>
    obtain ⟨k, hk, rfl, rfl, hnq, hkp⟩ := hrel
    have HK := Hid.mk' hkp
    have szr := hkp.size
    clear hkp
    by_cases hlt : k < l.length
    · have ci : (k : Int) < (l.length : Int) := by omega
      have st := cnN_take l k hlt
      have sl := cnN_le l (k + 1)
      have hln := halfN_len z l k
      have hgt := halfN_get z l k hlt
      have hst := halfN_set z l k hlt
      have vz := vsz_asz (ndK l k).at_
      have sz1 := nssz_at hlt
      unfold nsz at sz1
      unfold cn1 at st
      obtain ⟨q, hq⟩ : ∃ q : Nat, z + cnN (l.take k) = q := ⟨_, rfl⟩
      have hq1 : z + cnN (l.take (k + 1)) = q + 1 + 1 + (ndK l k).at_.length + vsz (ndK l k).at_ + (ndK l k).tx.length := by omega
      have hq2 : q + 1 + 1 + (ndK l k).at_.length + vsz (ndK l k).at_ + (ndK l k).tx.length ≤ 20000000 := by omega
      rw [hq] at hst ⊢
      have HS := Hid.mk' hst
      have Q1 := Hid.mk' hq1
      obtain ⟨g, cap, ev, hg1, hg2, hcell, hfr⟩ := hnq.spot (by omega)
      rw [hln] at ev
      cases ev
      have NQ0 := Hid.mk' hnq
      have at0 := hnq.att k (by omega)
      have tx0 := hnq.txt k (by omega)
      rw [hgt] at at0 tx0
      have g0 : τ g = 0 := hnq.rl g rfl
      have a3 : ∀ j, (va k).ownBlock = some j → τ j = 2 * k + 3 := hnq.al k (by omega)
      have u3 : ∀ i, i < (ndK l k).at_.length → ∀ j, ((us k).getD i undef).ownBlock = some j → τ j = 2 * k + 3 := fun i hi => hnq.ul k (by omega) i (by rw [hgt]; exact hi)
      have t4 : ∀ j, (vt k).ownBlock = some j → τ j = 2 * k + 4 := hnq.tl k (by omega)
      have R0 := hnq.row
      rw [hln] at R0
      have c0 : wr.cell? ⟨g, k * 4, none⟩ = some (.int .i64 (ndK l k).up) := by have := hcell k 0 (by omega) (by omega); rw [hgt] at this; exact this
      have f0 := hfr (k * 4)
      -- the row behind the first store
      have R1 : (wr.setCell ⟨g, k * 4, none⟩ (.int .i64 (q : Int))).ownsRow lo 104 4 (.slice (some ⟨g, 0, none⟩) l.length cv) l.length (ncs ((halfN z l k).set k ⟨(q : Int), (ndK l k).tg, (ndK l k).at_, (ndK l k).tx⟩) va vt l.length) := by
        have := row_set (n := k) (i := 0) (u := ⟨(q : Int), (ndK l k).tg, (ndK l k).at_, (ndK l k).tx⟩) (x := .int .i64 (q : Int)) (by rw [hln]; exact R0) (by omega) (by omega) (by rw [hgt]; rfl)
        rw [hln] at this
        exact this
      have KS : Kp (fun j => ¬ τ j = 0) wr (wr.setCell ⟨g, k * 4, none⟩ (.int .i64 (q : Int))) := (Kp.refl _ _).setCell (q := ⟨g, k * 4, none⟩) (fun e => e g0) _
      have KT := Hid.mk' (markText_is (q + 1) (wr.setCell ⟨g, k * 4, none⟩ (.int .i64 (q : Int))) (by omega) (by omega))
      have HR := Hid.mk' R1
      have HKS := Hid.mk' KS
      have A0 := Hid.mk' at0
      have T0 := Hid.mk' tx0
      have s1 : (wr.setCell ⟨g, k * 4, none⟩ (.int .i64 (q : Int))).heap.size = wr.heap.size := by simp [World.setCell]
      have S1 := Hid.mk' s1
      clear st sl hq hq1 hnq hcell hfr R0 R1 KS at0 tx0 hst s1
      generalize hV : wr.setCell ⟨g, k * 4, none⟩ (.int .i64 (q : Int)) = V at *
      go_wp2_with fail
      clear hV c0 f0
      refine KT.out.mono ?_
      rintro e w1 ⟨rfl, hb⟩
      have R1 := own_keep HR.out hb
      have K1 : Kp (fun j => ¬ τ j = 0) wr w1 := HKS.out.trans (Kp.of_below hb)
      have hl1 : ((halfN z l k).set k ⟨(q : Int), (ndK l k).tg, (ndK l k).at_, (ndK l k).tx⟩).length = l.length := by rw [List.length_set]; exact hln
      have R2 : (w1.setCell ⟨g, k * 4 + 1, none⟩ (.string (mtx (q + 1)))).ownsRow lo 104 4 (.slice (some ⟨g, 0, none⟩) l.length cv) l.length (ncs ((halfN z l k).set k (mk1 q (ndK l k))) va vt l.length) := by
        have := row_set (n := k) (i := 1) (u := mk1 q (ndK l k)) (x := .string (mtx (q + 1))) (by rw [hl1]; exact R1) (by omega) (by omega) (by rw [ndK_set (by omega), if_pos rfl]; rfl)
        rw [hl1, List.set_set] at this
        exact this
      have K2 : Kp (fun j => ¬ τ j = 0) wr (w1.setCell ⟨g, k * 4 + 1, none⟩ (.string (mtx (q + 1)))) := K1.setCell (q := ⟨g, k * 4 + 1, none⟩) (fun e => e g0) _
      obtain ⟨g', cap', ev, e1_, e2_, e3_, hcl⟩ := own_spot R1 (by omega)
      cases ev
      have c1 : w1.cell? ⟨g, k * 4 + 1, none⟩ = some (.string (ndK l k).tg) := by
        have := (hcl (k * 4 + 1) (by omega)).trans (ncs_get _ va vt l.length k 1 hlt (by omega))
        rw [ndK_set (by omega), if_pos rfl] at this
        exact this
      have f1 : w1.frozen? ⟨g, k * 4 + 1, none⟩ = false := by
        rcases R1.2 with ⟨h0, _⟩ | ⟨g9, cap9, cur, hv9, _, hh, _⟩
        · cases h0
        · cases hv9; exact Lib.frozen_of_heap hh _
      have A2 := A0.out.keepOf (w' := w1.setCell ⟨g, k * 4 + 1, none⟩ (.string (mtx (q + 1)))) (fun j e hl' => K2.block j hl' (by have := a3 j e; omega)) (fun i hi j e hl' => K2.block j hl' (by have := u3 i hi j e; omega))
      have T2 := T0.out.keep (w' := w1.setCell ⟨g, k * 4 + 1, none⟩ (.string (mtx (q + 1)))) (fun j e hl' => K2.block j hl' (by have := t4 j e; omega))
      obtain ⟨pa, ca, ea, _⟩ := A2.at
      obtain ⟨pt, ct, et, _⟩ := T2.len
      obtain ⟨g'', cap'', ev, _, _, _, hc2⟩ := own_spot R2 (by omega)
      cases ev
      have d2 : (w1.setCell ⟨g, k * 4 + 1, none⟩ (.string (mtx (q + 1)))).cell? ⟨g, k * 4 + 2, none⟩ = some (.slice pa (ndK l k).at_.length ca) := by
        have := (hc2 (k * 4 + 2) (by omega)).trans (ncs_get _ va vt l.length k 2 hlt (by omega))
        rw [this, ← ea]; rfl
      have s2 : (w1.setCell ⟨g, k * 4 + 1, none⟩ (.string (mtx (q + 1)))).heap.size = w1.heap.size := by simp [World.setCell]
      have sb := hb.size
      have KA := markAttrS_is (q + 1 + 1) lo (va k) (ndK l k).at_ (us k) _ A2 (by have := S1.out; omega) (by omega) (by omega) (by omega)
      rw [ea] at KA
      have KA := Hid.mk' KA
      have EA := Hid.mk' ea
      have HR := Hid.mk' R2
      have HK2 := Hid.mk' K2
      have T2 := Hid.mk' T2
      have ET := Hid.mk' et
      have SZ : Hid (lo ≤ w1.heap.size) := Hid.mk' (by have := S1.out; omega)
      clear hb KT R1 R2 K1 K2 hcl hc2 ea et A2 HKS sb s2 A0 T0
      generalize hV : w1.setCell ⟨g, k * 4 + 1, none⟩ (.string (mtx (q + 1))) = V2 at *
      go_wp2_with fail
      clear hV c1 f1
      refine KA.out.mono ?_
      rintro e w2 ⟨rfl, hoa, hkk⟩
      rw [← EA.out] at hoa hkk
      -- only blocks of the attributes have turned
      have hk3 : Kp (fun j => ¬ τ j = 2 * k + 3) V2 w2 := hkk.mono (fun j e => ⟨fun e2 => e (a3 j e2), fun i hi e2 => e (u3 i hi j e2)⟩)
      have R3 := own_of HR.out (Nat.le_refl _) (fun j e _ => hk3.block j (HR.out.lt j e).2 (by have := NQ0.out.rl j e; omega))
      have T3 := T2.out.keep (w' := w2) (fun j e hl' => hk3.block j hl' (by have := t4 j e; omega))
      have K3 : Kp (fun j => ¬ τ j = 0 ∧ ¬ τ j = 2 * k + 3) wr w2 := (HK2.out.mono (fun j e => e.1)).trans (hk3.mono (fun j e => e.2))
      obtain ⟨g'', cap'', ev, _, _, _, hc2⟩ := own_spot R3 (by omega)
      cases ev
      have d3 : w2.cell? ⟨g, k * 4 + 3, none⟩ = some (.slice pt (ndK l k).tx.length ct) := by
        have := (hc2 (k * 4 + 3) (by omega)).trans (ncs_get _ va vt l.length k 3 hlt (by omega))
        rw [this, ← ET.out]; rfl
      obtain ⟨q2, hq3⟩ : ∃ q2 : Nat, q + 1 + 1 + (ndK l k).at_.length + vsz (ndK l k).at_ = q2 := ⟨_, rfl⟩
      have KB := markByteS_own q2 (vt k) (ndK l k).tx w2 T3 (by omega)
      rw [ET.out] at KB
      have KB := Hid.mk' KB
      have HR := Hid.mk' R3
      have HK3 := Hid.mk' K3
      have HO := Hid.mk' hoa
      have QQ := Hid.mk' hq3
      have ez : ((q + 1 + 1 : Nat) : Int) + ((ndK l k).at_.length : Int) + (vsz (ndK l k).at_ : Int) = (q2 : Int) := by omega
      rw [ez]
      clear hkk hoa hk3 R3 T3 K3 hc2 KA T2 HK2 ez d2
      go_wp2_with fail
      refine KB.out.mono ?_
      rintro e w3 ⟨rfl, hob, htu⟩
      rw [← ET.out] at hob htu
      have hk4 : Kp (fun j => ¬ τ j = 2 * k + 4) w2 w3 := Kp.of_turned htu (fun j e e2 => e (t4 j e2))
      have R4 := own_of HR.out (Nat.le_refl _) (fun j e _ => hk4.block j (HR.out.lt j e).2 (by have := NQ0.out.rl j e; omega))
      have A4 := HO.out.keepOf (w' := w3) (fun j e hl' => hk4.block j hl' (by have := a3 j e; omega)) (fun i hi j e hl' => hk4.block j hl' (by rw [mkA_len] at hi; have := u3 i hi j e; omega))
      have K4 : Kp (fun j => ¬ τ j = 0 ∧ ¬ τ j = 2 * k + 3 ∧ ¬ τ j = 2 * k + 4) wr w3 := (HK3.out.mono (fun j e => ⟨e.1, e.2.1⟩)).trans (hk4.mono (fun j e => e.2.2))
      have N5 : NQ τ lo w3 (.slice (some ⟨g, 0, none⟩) l.length cv) (halfN z l (k + 1)) va vt us := by
        have := NQ0.out.modify (n := k) (t := mk1 q (ndK l k)) (w' := w3) (by omega) (by rw [hgt]; exact mkA_len _ _) (by rw [hln]; exact R4) A4 (by have := hob; rw [← QQ.out] at this; exact this) K4
        rw [HS.out] at this
        exact this
      have N5 := Hid.mk' N5
      have K5 := Hid.mk' (HK.out.trans (K4.mono (fun j e => by unfold Oth at e; omega)))
      have EZ : Hid (((q2 : Nat) : Int) + ((ndK l k).tx.length : Int) = ((z + cnN (l.take (k + 1)) : Nat) : Int)) := Hid.mk' (by rw [Q1.out]; have := QQ.out; omega)
      clear hob htu hk4 R4 A4 K4 KB HR HK3 HO
      go_wp2
      go_roundw
      case rel => exact ⟨k + 1, by omega, by go_num, by rw [← EZ.out], N5.out, K5.out⟩
      case measure => simp [intOf]; omega
    · have ci : ¬ (k : Int) < (l.length : Int) := by omega
      have e : k = l.length := by omega
      subst e
      rw [halfN_all] at hnq
      have HO := Hid.mk' hnq
      clear hnq
      rw [List.take_length]
      go_wp2
      go_ret
      exact ⟨rfl, HO.out, HK.out⟩

end Go.Proofs.YtpcpnfpnkkjkcaaGreat

/- That two are the same, where they are a little greater than what came in. -/
namespace Go.Proofs.YtpcpnfpnkkjkcaaGreat
open Go.RowKit
set_option linter.unusedVariables false
set_option linter.unusedSimpArgs false

set_option maxHeartbeats 400000 in
theorem eqByteS_big (a b : Option Addr) (c d : Nat) (l : List Int) (w : World) (ha : BAt w a l) (hb : BAt w b l) (hl : (l.length : Int) ≤ 2000000) :
    Calls Tryz.prog 109 #[.slice a l.length c, .slice b l.length d] w fun e w' => e = .returned (.bool true) ∧ Below w.heap.size w w' := by
  go_enter Tryz.func109, Tryz.ntmps109
  go_wp2
  go_loopw [5] (fun i wr => ∃ k : Nat, k ≤ l.length ∧ i = .int .i64 k ∧ Below w.heap.size w wr) (fun i _ => l.length - (intOf i).toNat)
  case atStart => exact ⟨0, Nat.zero_le _, rfl, Below.refl _ _⟩
  case round =>
    obtain ⟨k, hk, rfl, hbl⟩ := hrel
    by_cases hlt : k < l.length
    · rcases ha with ha | ⟨b1, o1, rfl, hbs1, hc1⟩
      · exact absurd hlt (by rw [ha]; exact Nat.not_lt_zero _)
      rcases hb with hb | ⟨b2, o2, rfl, hbs2, hc2⟩
      · exact absurd hlt (by rw [hb]; exact Nat.not_lt_zero _)
      obtain ⟨x, hx⟩ : ∃ x, bv l k = .int .u8 x := ⟨_, rfl⟩
      have h1 : wr.cell? ⟨b1, o1 + k, none⟩ = some (.int .u8 x) := hx ▸ (hbl.cell hbs1).trans (hc1 k hlt)
      have h2 : wr.cell? ⟨b2, o2 + k, none⟩ = some (.int .u8 x) := hx ▸ (hbl.cell hbs2).trans (hc2 k hlt)
      have R2 := Hid.mk' hbl
      clear hbl hc1 hc2 hx
      go_wp2
      go_quiet (fail)
      go_wp2
      go_roundw
      case rel => exact ⟨k + 1, by omega, by go_num, below_drewN R2.out _⟩
      case measure => simp [intOf]; omega
    · go_wp2
      go_ret
      exact ⟨rfl, hbl⟩

set_option maxHeartbeats 400000 in
theorem eqAttr_big (s : ByteArray) (a b : Option Addr) (c d : Nat) (l : List Int) (w : World) (ha : BAt w a l) (hb : BAt w b l) (hl : (l.length : Int) ≤ 2000000) :
    Calls Tryz.prog 78 #[.agg #[.string s, .slice a l.length c], .agg #[.string s, .slice b l.length d]] w fun e w' => e = .returned (.bool true) ∧ Below w.heap.size w w' := by
  have B0 := ((Below.refl w.heap.size w).alloc (Nat.le_refl _) (.cells #[.string s, .slice a l.length c] 106)).alloc (by simp) (.cells #[.string s, .slice b l.length d] 106)
  have KB := Hid.mk' (eqByteS_big a b c d l _ (ha.below B0) (hb.below B0) hl)
  have HB := Hid.mk' B0
  clear ha hb B0
  go_enter Tryz.func78, Tryz.ntmps78
  go_wp2_with fail
  refine KB.out.mono ?_
  rintro e w1 ⟨rfl, hb⟩
  have HB := Hid.mk' (HB.out.trans (hb.mono HB.out.size))
  clear hb KB
  go_wp2
  go_ret
  exact ⟨rfl, HB.out⟩

set_option maxHeartbeats 1600000 in
theorem eqAttrS_big (a b : Option Addr) (c d : Nat) (l : List AT) (w : World) (ha : AAt w a l) (hb : AAt w b l) (hl : (l.length : Int) + asz l ≤ 2000000) :
    Calls Tryz.prog 46 #[.slice a l.length c, .slice b l.length d] w fun e w' => e = .returned (.bool true) ∧ Below w.heap.size w w' := by
  have HA := Hid.mk' ha
  have HB := Hid.mk' hb
  clear ha hb
  go_enter Tryz.func46, Tryz.ntmps46
  go_wp2
  go_loopw [5] (fun i wr => ∃ k : Nat, k ≤ l.length ∧ i = .int .i64 k ∧ Below w.heap.size w wr) (fun i _ => l.length - (intOf i).toNat)
  case atStart => exact ⟨0, Nat.zero_le _, rfl, Below.refl _ _⟩
  case round =>
    obtain ⟨k, hk, rfl, hbl⟩ := hrel
    have R2 := Hid.mk' hbl
    by_cases hlt : k < l.length
    · have ci : (k : Int) < (l.length : Int) := by omega
      rcases HA.out.below hbl with ha | ⟨b1, o1, rfl, s1, hc1⟩
      · exact absurd hlt (by rw [ha]; exact Nat.not_lt_zero _)
      rcases HB.out.below hbl with hb | ⟨b2, o2, rfl, s2, hc2⟩
      · exact absurd hlt (by rw [hb]; exact Nat.not_lt_zero _)
      obtain ⟨h1, p1, d1, h2, h3⟩ := hc1 k hlt
      obtain ⟨h4, p2_, d2, h5, h6⟩ := hc2 k hlt
      have st := asz_take l k hlt
      have sl := asz_le l (k + 1)
      have KE : Hid (Calls Tryz.prog 78 #[.agg #[.string (atK l k).nm, .slice p1 (atK l k).vl.length d1], .agg #[.string (atK l k).nm, .slice p2_ (atK l k).vl.length d2]] wr.drew fun e w' => e = .returned (.bool true) ∧ Below wr.drew.heap.size wr.drew w') := eqAttr_big _ _ _ _ _ _ _ (h3.below (Below.refl _ _).drew) (h6.below (Below.refl _ _).drew) (by omega)
      clear hbl hc1 hc2 h3 h6 st sl
      go_wp2
      go_region_held3 (fun w' => w'.cell? ⟨b1, o1 + k * 2, none⟩ = some (.string (atK l k).nm) ∧ w'.cell? ⟨b1, o1 + k * 2 + 1, none⟩ = some (.slice p1 (atK l k).vl.length d1) ∧ w'.cell? ⟨b2, o2 + k * 2, none⟩ = some (.string (atK l k).nm) ∧ w'.cell? ⟨b2, o2 + k * 2 + 1, none⟩ = some (.slice p2_ (atK l k).vl.length d2)) (simp [*])
        ((go_at_call 78; refine KE.out.mono ?_; rintro e w1 ⟨rfl, hb1⟩; replace hb1 := undrew hb1; obtain ⟨hx1, hx2⟩ := bcell hb1))
      go_wp2
      go_roundw
      case rel => exact ⟨k + 1, by omega, by go_num, R2.out.trans (hb1.mono R2.out.size)⟩
      case measure => simp [intOf]; omega
    · have ci : ¬ (k : Int) < (l.length : Int) := by omega
      go_wp2
      go_ret
      exact ⟨rfl, R2.out⟩

set_option maxHeartbeats 1600000 in
theorem eqNode_big (t : ND) (a b p q : Option Addr) (c d c' d' : Nat) (w : World) (ha : AAt w a t.at_) (hb : AAt w b t.at_) (hp : BAt w p t.tx) (hq : BAt w q t.tx) (hl : (nsz t : Int) ≤ 2000000) :
    Calls Tryz.prog 77 #[.agg #[.int .i64 t.up, .string t.tg, .slice a t.at_.length c, .slice p t.tx.length c'], .agg #[.int .i64 t.up, .string t.tg, .slice b t.at_.length d, .slice q t.tx.length d']] w fun e w' => e = .returned (.bool true) ∧ Below w.heap.size w w' := by
  unfold nsz at hl
  have B0 := ((Below.refl w.heap.size w).alloc (Nat.le_refl _) (.cells #[.int .i64 t.up, .string t.tg, .slice a t.at_.length c, .slice p t.tx.length c'] 104)).alloc (by simp) (.cells #[.int .i64 t.up, .string t.tg, .slice b t.at_.length d, .slice q t.tx.length d'] 104)
  have R1 := (row4 w 104 (.int .i64 t.up) (.string t.tg) (.slice a t.at_.length c) (.slice p t.tx.length c')).alloc (.cells #[.int .i64 t.up, .string t.tg, .slice b t.at_.length d, .slice q t.tx.length d'] 104)
  have R2 := row4 (w.alloc (.cells #[.int .i64 t.up, .string t.tg, .slice a t.at_.length c, .slice p t.tx.length c'] 104)) 104 (.int .i64 t.up) (.string t.tg) (.slice b t.at_.length d) (.slice q t.tx.length d')
  have z1 : (w.alloc (.cells #[.int .i64 t.up, .string t.tg, .slice a t.at_.length c, .slice p t.tx.length c'] 104)).heap.size = w.heap.size + 1 := by simp
  rw [z1] at R2
  have H1 := Hid.mk' R1
  have H2 := Hid.mk' R2
  have KB := Hid.mk' (eqAttrS_big a b c d t.at_ _ (ha.below B0) (hb.below B0) (by omega))
  have HX := Hid.mk' (hp.below B0)
  have HY := Hid.mk' (hq.below B0)
  have HB := Hid.mk' B0
  clear ha hb hp hq B0 R1 R2 z1
  generalize hW : (w.alloc (.cells #[.int .i64 t.up, .string t.tg, .slice a t.at_.length c, .slice p t.tx.length c'] 104)).alloc (.cells #[.int .i64 t.up, .string t.tg, .slice b t.at_.length d, .slice q t.tx.length d'] 104) = W at *
  obtain ⟨p0, p1, p2_, p3, p4⟩ := cells4 H1.out
  obtain ⟨q0, q1, q2, q3, q4⟩ := cells4 H2.out
  go_enter Tryz.func77, Tryz.ntmps77
  go_wp2_with fail
  clear hW p0 p1 p2_ p3 p4 q0 q1 q2 q3 q4
  refine KB.out.mono ?_
  rintro e w1 ⟨rfl, hb⟩
  obtain ⟨p0, p1, p2_, p3, p4⟩ := cells4 (rowB H1.out hb)
  obtain ⟨q0, q1, q2, q3, q4⟩ := cells4 (rowB H2.out hb)
  have KT := Hid.mk' (eqByteS_big p q c' d' t.tx w1 (HX.out.below hb) (HY.out.below hb) (by omega))
  have HB := Hid.mk' (HB.out.trans (hb.mono HB.out.size))
  clear hb KB
  go_wp2_with fail
  refine KT.out.mono ?_
  rintro e w2 ⟨rfl, hb⟩
  have HB := Hid.mk' (HB.out.trans (hb.mono HB.out.size))
  clear hb KT
  go_wp2
  go_ret
  exact ⟨rfl, HB.out⟩

set_option maxHeartbeats 1600000 in
theorem eqNodeS_big (a b : Option Addr) (c d : Nat) (l : List ND) (w : World) (ha : NsAt w a l) (hb : NsAt w b l) (hl : (l.length : Int) + nssz l ≤ 2000000) :
    Calls Tryz.prog 44 #[.slice a l.length c, .slice b l.length d] w fun e w' => e = .returned (.bool true) ∧ Below w.heap.size w w' := by
  have HA := Hid.mk' ha
  have HB := Hid.mk' hb
  clear ha hb
  go_enter Tryz.func44, Tryz.ntmps44
  go_wp2
  go_loopw [5] (fun i wr => ∃ k : Nat, k ≤ l.length ∧ i = .int .i64 k ∧ Below w.heap.size w wr) (fun i _ => l.length - (intOf i).toNat)
  case atStart => exact ⟨0, Nat.zero_le _, rfl, Below.refl _ _⟩
  case round =>
    obtain ⟨k, hk, rfl, hbl⟩ := hrel
    have R2 := Hid.mk' hbl
    by_cases hlt : k < l.length
    · have ci : (k : Int) < (l.length : Int) := by omega
      rcases HA.out.below hbl with ha | ⟨b1, o1, rfl, s1, hc1⟩
      · exact absurd hlt (by rw [ha]; exact Nat.not_lt_zero _)
      rcases HB.out.below hbl with hb | ⟨b2, o2, rfl, s2, hc2⟩
      · exact absurd hlt (by rw [hb]; exact Nat.not_lt_zero _)
      obtain ⟨x1, x2, ⟨p1, d1, x3, _, x4⟩, ⟨p3, d3, x5, x6⟩⟩ := hc1 k hlt
      obtain ⟨y1, y2, ⟨p2_, d2, y3, _, y4⟩, ⟨p4, d4, y5, y6⟩⟩ := hc2 k hlt
      have st := nssz_at hlt
      have KE := Hid.mk' (eqNode_big (ndK l k) p1 p2_ p3 p4 d1 d2 d3 d4 wr.drew (x4.below (Below.refl _ _).drew) (y4.below (Below.refl _ _).drew) (x6.below (Below.refl _ _).drew) (y6.below (Below.refl _ _).drew) (by omega))
      clear hbl hc1 hc2 x4 y4 x6 y6 st
      go_wp2
      go_region_held3 (fun w' => w'.cell? ⟨b1, o1 + k * 4, none⟩ = some (.int .i64 (ndK l k).up) ∧ w'.cell? ⟨b1, o1 + k * 4 + 1, none⟩ = some (.string (ndK l k).tg) ∧ w'.cell? ⟨b1, o1 + k * 4 + 2, none⟩ = some (.slice p1 (ndK l k).at_.length d1) ∧ w'.cell? ⟨b1, o1 + k * 4 + 3, none⟩ = some (.slice p3 (ndK l k).tx.length d3) ∧ w'.cell? ⟨b2, o2 + k * 4, none⟩ = some (.int .i64 (ndK l k).up) ∧ w'.cell? ⟨b2, o2 + k * 4 + 1, none⟩ = some (.string (ndK l k).tg) ∧ w'.cell? ⟨b2, o2 + k * 4 + 2, none⟩ = some (.slice p2_ (ndK l k).at_.length d2) ∧ w'.cell? ⟨b2, o2 + k * 4 + 3, none⟩ = some (.slice p4 (ndK l k).tx.length d4)) (simp [*])
        ((go_at_call 77; refine KE.out.mono ?_; rintro e w1 ⟨rfl, hb1⟩; replace hb1 := undrew hb1; obtain ⟨hx1, hx2⟩ := bcell hb1))
      go_wp2
      go_roundw
      case rel => exact ⟨k + 1, by omega, by go_num, R2.out.trans (hb1.mono R2.out.size)⟩
      case measure => simp [intOf]; omega
    · have ci : ¬ (k : Int) < (l.length : Int) := by omega
      go_wp2
      go_ret
      exact ⟨rfl, R2.out⟩

set_option maxHeartbeats 1600000 in
theorem eqBuild_big (t : BS) (a b p q : Option Addr) (c d c' d' : Nat) (w : World) (ha : NsAt w a t.nd) (hb : NsAt w b t.nd) (hp : IAt w p t.op) (hq : IAt w q t.op) (hl : (t.nd.length : Int) + nssz t.nd + t.op.length ≤ 2000000) (ho : (t.op.length : Int) ≤ 1048576) :
    Calls Tryz.prog 13 #[.agg #[.slice a t.nd.length c, .slice p t.op.length c', .bool t.lg], .agg #[.slice b t.nd.length d, .slice q t.op.length d', .bool t.lg]] w fun e w' => e = .returned (.bool true) ∧ Below w.heap.size w w' := by
  have B0 := ((Below.refl w.heap.size w).alloc (Nat.le_refl _) (.cells #[.slice a t.nd.length c, .slice p t.op.length c', .bool t.lg] 33)).alloc (by simp) (.cells #[.slice b t.nd.length d, .slice q t.op.length d', .bool t.lg] 33)
  have R1 := (row3 w 33 (.slice a t.nd.length c) (.slice p t.op.length c') (.bool t.lg)).alloc (.cells #[.slice b t.nd.length d, .slice q t.op.length d', .bool t.lg] 33)
  have R2 := row3 (w.alloc (.cells #[.slice a t.nd.length c, .slice p t.op.length c', .bool t.lg] 33)) 33 (.slice b t.nd.length d) (.slice q t.op.length d') (.bool t.lg)
  have z1 : (w.alloc (.cells #[.slice a t.nd.length c, .slice p t.op.length c', .bool t.lg] 33)).heap.size = w.heap.size + 1 := by simp
  rw [z1] at R2
  have H1 := Hid.mk' R1
  have H2 := Hid.mk' R2
  have KB := Hid.mk' (eqNodeS_big a b c d t.nd _ (ha.below B0) (hb.below B0) (by omega))
  have HX := Hid.mk' (hp.below B0)
  have HY := Hid.mk' (hq.below B0)
  have HB := Hid.mk' B0
  clear ha hb hp hq B0 R1 R2 z1
  generalize hW : (w.alloc (.cells #[.slice a t.nd.length c, .slice p t.op.length c', .bool t.lg] 33)).alloc (.cells #[.slice b t.nd.length d, .slice q t.op.length d', .bool t.lg] 33) = W at *
  have p0 : W.cell? ⟨w.heap.size, 0, none⟩ = some (.slice a t.nd.length c) := H1.out.cell (by omega)
  have q0 : W.cell? ⟨w.heap.size + 1, 0, none⟩ = some (.slice b t.nd.length d) := H2.out.cell (by omega)
  go_enter Tryz.func13, Tryz.ntmps13
  go_wp2_with fail
  clear hW p0 q0
  refine KB.out.mono ?_
  rintro e w1 ⟨rfl, hb⟩
  have R1 := rowB H1.out hb
  have R2 := rowB H2.out hb
  have p1 : w1.cell? ⟨w.heap.size, 1, none⟩ = some (.slice p t.op.length c') := R1.cell (by omega)
  have q1 : w1.cell? ⟨w.heap.size + 1, 1, none⟩ = some (.slice q t.op.length d') := R2.cell (by omega)
  have H1 := Hid.mk' R1
  have H2 := Hid.mk' R2
  have KT := Hid.mk' (eqInt64S_any p q c' d' t.op w1 (HX.out.below hb) (HY.out.below hb) (by omega))
  have HB := Hid.mk' (HB.out.trans (hb.mono HB.out.size))
  clear hb KB R1 R2
  go_wp2_with fail
  refine KT.out.mono ?_
  rintro e w2 ⟨rfl, hb⟩
  have p2' : w2.cell? ⟨w.heap.size, 2, none⟩ = some (.bool t.lg) := (rowB H1.out hb).cell (by omega)
  have q2' : w2.cell? ⟨w.heap.size + 1, 2, none⟩ = some (.bool t.lg) := (rowB H2.out hb).cell (by omega)
  have HB := Hid.mk' (HB.out.trans (hb.mono HB.out.size))
  clear hb KT
  go_wp2
  go_ret
  exact ⟨rfl, HB.out⟩

end Go.Proofs.YtpcpnfpnkkjkcaaGreat

/- States of a builder as answers: marked, held, the same. -/
namespace Go.Proofs.YtpcpnfpnkkjkcaaGreat
open Go.RowKit
set_option linter.unusedVariables false
set_option linter.unusedSimpArgs false

/-- The marks that n numbers get, from z on. -/
def miZ (z n : Nat) : List Int := (List.range n).map fun (i : Nat) => (z : Int) + (i : Int)
theorem miZ_len (z n : Nat) : (miZ z n).length = n := by simp [miZ]
theorem wv_miZ {z n i : Nat} (h : i < n) : wv (miZ z n) i = (z : Int) + (i : Int) := by simp [wv, miZ, h]

set_option maxHeartbeats 1600000 in
theorem markInt64S_is (z : Nat) (v : Value) (l : List Int) (w : World) (h : OI w v l) (hz : (z : Int) ≤ 90000000) (hl : (l.length : Int) ≤ 1048576) :
    Calls Tryz.prog 48 #[v, .int .i64 (z : Int)] w fun e w' => e = .returned (.int .i64 ((z : Int) + (l.length : Int))) ∧ OI w' v (miZ z l.length) ∧ Turned v w w' := by
  rcases h with ⟨rfl, rfl⟩ | ⟨g, cap, cn, f, rfl, hr, hle, hf⟩
  · go_enter Tryz.func48, Tryz.ntmps48
    go_wp2
    go_loopw [1, 5] (fun x i wr => x = .int .i64 (z : Int) ∧ i = .int .i64 0 ∧ wr = w) (fun _ _ _ => 0)
    case atStart => exact ⟨rfl, rfl, rfl⟩
    case round =>
      obtain ⟨rfl, rfl, rfl⟩ := hrel
      go_wp2
      go_ret
      exact ⟨by simp, .inl ⟨rfl, by simp [miZ]⟩, Turned.refl _ _⟩
  · have HF := Hid.mk' hf
    clear hf
    go_enter Tryz.func48, Tryz.ntmps48
    go_wp2
    go_loopw [1, 5] (fun x i wr => ∃ k : Nat, k ≤ l.length ∧ i = .int .i64 k ∧ x = .int .i64 ((z : Int) + (k : Int)) ∧ wr.rowIs g 2 cn (fun j => if j < k then .int .i64 ((z : Int) + (j : Int)) else f j) ∧ KeptIn g (g + 1) w wr) (fun _ i _ => l.length - (intOf i).toNat)
    case atStart => exact ⟨0, Nat.zero_le _, rfl, rfl, hr.congr (fun j _ => by simp), KeptIn.refl _ _ _⟩
    case round =>
      obtain ⟨k, hk, rfl, rfl, hrow, hkp⟩ := hrel
      by_cases hlt : k < l.length
      · have ci : (k : Int) < (l.length : Int) := by omega
        have f0 := hrow.frozen k
        obtain ⟨v0, g0⟩ : ∃ v, wr.cell? ⟨g, k, none⟩ = some v := ⟨_, hrow.cell (by omega)⟩
        have R1 := Hid.mk' ((hrow.set k (.int .i64 ((z : Int) + (k : Int)))).congr (g := fun j => if j < k + 1 then .int .i64 ((z : Int) + (j : Int)) else f j) (fun j _ => by
          by_cases e : j = k
          · subst e; simp
          · by_cases h : j < k
            · simp [e, h, show j < k + 1 by omega]
            · simp [e, h, show ¬ j < k + 1 by omega]))
        have K1 := Hid.mk' (hkp.setCell (p := ⟨g, k, none⟩) (Nat.le_refl _) (Nat.lt_succ_self _) (.int .i64 ((z : Int) + (k : Int))))
        clear hrow hkp
        go_wp2
        go_roundw
        case rel => exact ⟨k + 1, by omega, by go_num, by go_num, R1.out, K1.out⟩
        case measure => simp [intOf]; omega
      · have ci : ¬ (k : Int) < (l.length : Int) := by omega
        have e : k = l.length := by omega
        subst e
        have O1 : Hid (OI wr (.slice (some ⟨g, 0, none⟩) l.length cap) (miZ z l.length)) := Hid.mk' (.inr ⟨g, cap, cn, _, by rw [miZ_len], hrow, by rw [miZ_len]; exact hle, fun i hi => by rw [miZ_len] at hi; rw [wv_miZ hi, if_pos hi]⟩)
        have T1 := Hid.mk' (Turned.of_kept (n := l.length) (c := cap) hkp)
        clear hrow hkp
        go_wp2
        go_ret
        exact ⟨rfl, O1.out, T1.out⟩

set_option maxHeartbeats 1600000 in
theorem heldInt64S_is (z : Nat) (v : Value) (n : Nat) (w : World) (h : OI w v (miZ z n)) (hz : (z : Int) ≤ 90000000) (hl : (n : Int) ≤ 1048576) :
    Calls Tryz.prog 80 #[v, .int .i64 (z : Int)] w fun e w' => e = .returned (.int .i64 ((z : Int) + (n : Int))) ∧ Below w.heap.size w w' := by
  obtain ⟨a, c, rfl, hi⟩ := h.len
  rw [miZ_len]
  have HI := Hid.mk' hi
  clear h hi
  go_enter Tryz.func80, Tryz.ntmps80
  go_wp2
  go_loopw [1, 5] (fun x i wr => ∃ k : Nat, k ≤ n ∧ i = .int .i64 k ∧ x = .int .i64 ((z : Int) + (k : Int)) ∧ Below w.heap.size w wr) (fun _ i _ => n - (intOf i).toNat)
  case atStart => exact ⟨0, Nat.zero_le _, rfl, rfl, Below.refl _ _⟩
  case round =>
    obtain ⟨k, hk, rfl, rfl, hbl⟩ := hrel
    have HB := Hid.mk' hbl
    by_cases hlt : k < n
    · have ci : (k : Int) < (n : Int) := by omega
      rcases HI.out.below hbl with ha | ⟨b, o, rfl, hbs, hc⟩
      · have := congrArg List.length ha; rw [miZ_len] at this; simp at this; omega
      have h1 := hc k (by rw [miZ_len]; exact hlt)
      rw [wv_miZ hlt] at h1
      clear hc hbl
      go_wp2
      go_roundw
      case rel => exact ⟨k + 1, by omega, by go_num, by go_num, HB.out⟩
      case measure => simp [intOf]; omega
    · have ci : ¬ (k : Int) < (n : Int) := by omega
      have e : k = n := by omega
      subst e
      clear hbl
      go_wp2
      go_ret
      exact ⟨rfl, HB.out⟩

set_option maxHeartbeats 3200000 in
theorem markNodeS_bd (g hi c : Nat) (l : List ND) (w : World) (h : NM g hi l w) (hl : (l.length : Int) + nssz l ≤ 1048576) :
    Calls Tryz.prog 47 #[.slice (some ⟨g, 0, none⟩) l.length c, .int .i64 1] w fun e w' => (∃ z : Nat, e = .returned (.int .i64 (z : Int)) ∧ 0 < z ∧ z ≤ 1 + 2 * l.length + nssz l) ∧ KeptIn g hi w w' := by
  have HM := Hid.mk' h
  clear h
  go_enter Tryz.func47, Tryz.ntmps47
  go_wp2
  go_loopw [1, 5] (fun x i wr => ∃ k z : Nat, k ≤ l.length ∧ i = .int .i64 k ∧ x = .int .i64 (z : Int) ∧ 0 < z ∧ z ≤ 1 + 2 * k + nssz (l.take k) ∧ NM g hi l wr ∧ KeptIn g hi w wr) (fun _ i _ => l.length - (intOf i).toNat)
  case atStart => exact ⟨0, 1, Nat.zero_le _, rfl, rfl, by omega, by omega, HM.out, KeptIn.refl _ _ _⟩
  case round =>
    obtain ⟨k, z, hk, rfl, rfl, z0, z1, hnm, hkp⟩ := hrel
    by_cases hlt : k < l.length
    · have ci : (k : Int) < (l.length : Int) := by omega
      have st := nssz_take l k hlt
      have sl := nssz_le l (k + 1)
      unfold nsz at st
      have vz := vsz_asz (ndK l k).at_
      have gh : g < hi := by obtain ⟨f, s, _, h0, h1, _, h3, _⟩ := hnm; have := mono_s2 h3 (i := 0) l.length (by omega) (Nat.le_refl _); omega
      have hn1 : NM g hi l (wr.setCell ⟨g, k * 4, none⟩ (.int .i64 (z : Int))) := hnm.cell (i := 0) hlt (by omega) (.inl ⟨rfl, _, rfl⟩)
      have hk1 : KeptIn g hi w (wr.setCell ⟨g, k * 4, none⟩ (.int .i64 (z : Int))) := hkp.setCell (p := ⟨g, k * 4, none⟩) (Nat.le_refl _) gh _
      obtain ⟨f, _, hf, _⟩ := id hnm
      have f0 := hf.frozen (k * 4)
      obtain ⟨v0, g0⟩ : ∃ v, wr.cell? ⟨g, k * 4, none⟩ = some v := ⟨_, hf.cell (by omega)⟩
      have HN := Hid.mk' hn1
      have HK := Hid.mk' hk1
      have KT := Hid.mk' (markText_any (z + 1) (wr.setCell ⟨g, k * 4, none⟩ (.int .i64 (z : Int))) (by omega) (by omega))
      clear hn1 hk1 hnm hkp hf
      generalize hV : wr.setCell ⟨g, k * 4, none⟩ (.int .i64 (z : Int)) = V at *
      go_wp2_with fail
      clear hV
      refine KT.out.mono ?_
      rintro e w1 ⟨sx, rfl, hb⟩
      have hn2 := HN.out.keep hb.size (fun q _ _ hq => hb.block q hq)
      have hn3 : NM g hi l (w1.setCell ⟨g, k * 4 + 1, none⟩ (.string sx)) := hn2.cell (i := 1) hlt (by omega) (.inr ⟨rfl, _, rfl⟩)
      have hk3 : KeptIn g hi w (w1.setCell ⟨g, k * 4 + 1, none⟩ (.string sx)) := (HK.out.trans (KeptIn.of_below hb)).setCell (p := ⟨g, k * 4 + 1, none⟩) (Nat.le_refl _) gh _
      obtain ⟨f2, _, hf2, _⟩ := id hn2
      have f1 := hf2.frozen (k * 4 + 1)
      obtain ⟨v1, g1⟩ : ∃ v, w1.cell? ⟨g, k * 4 + 1, none⟩ = some v := ⟨_, hf2.cell (by omega)⟩
      obtain ⟨ga, b, a1, a2, a3, a4, a5, a6, a7, _, a9, _⟩ := hn3.attrs hlt
      have KA := Hid.mk' (markAttrS_gen ga b (ndK l k).at_.length (z + 1 + 1) (ndK l k).at_ _ a7 (by omega) (by omega) (by omega) (by omega))
      have HA := Hid.mk' a9
      have HK := Hid.mk' hk3
      clear hn2 hn3 hk3 hf2 hb KT HN a7 a9
      generalize hV2 : w1.setCell ⟨g, k * 4 + 1, none⟩ (.string sx) = V2 at *
      go_wp2_with fail
      clear hV2
      refine KA.out.mono ?_
      rintro e w2 ⟨rfl, hmr, hkk⟩
      have hn4 := HA.out w2 hkk hmr
      have HK := Hid.mk' (HK.out.trans (hkk.mono (by omega) (by omega)))
      obtain ⟨ga2, b2, c1, c2, c3, c4, c5, c6, c7, ⟨fb, c8⟩, _, c10⟩ := hn4.attrs hlt
      obtain ⟨z2, hz2⟩ : ∃ z2 : Nat, z + 1 + 1 + (ndK l k).at_.length + vsz (ndK l k).at_ = z2 := ⟨_, rfl⟩
      have KB := Hid.mk' (markByteS_row b2 (ndK l k).tx.length (ndK l k).tx.length (ndK l k).tx.length z2 fb w2 c8 (Nat.le_refl _) (by omega))
      have H10 := Hid.mk' c10
      have ez : ((z + 1 + 1 : Nat) : Int) + ((ndK l k).at_.length : Int) + (vsz (ndK l k).at_ : Int) = (z2 : Int) := by omega
      rw [ez]
      clear hkk hmr KA HA c7 c8 c10 hn4 ez a1 a2
      go_wp2_with fail
      refine KB.out.mono ?_
      rintro e w3 ⟨rfl, hr, hkk⟩
      have N5 := Hid.mk' (H10.out w3 _ hkk hr)
      have HK := Hid.mk' (HK.out.trans (hkk.mono (by omega) (by omega)))
      clear hkk hr KB H10
      go_wp2
      go_roundw
      case rel => exact ⟨k + 1, z2 + (ndK l k).tx.length, by omega, by go_num, by congr 1, by omega, by omega, N5.out, HK.out⟩
      case measure => simp [intOf]; omega
    · have ci : ¬ (k : Int) < (l.length : Int) := by omega
      have HK := Hid.mk' hkp
      have e9 : k = l.length := by omega
      have zb : z ≤ 1 + 2 * l.length + nssz l := by rw [e9, List.take_length] at z1; exact z1
      clear hnm hkp
      go_wp2
      go_ret
      exact ⟨⟨z, rfl, z0, zb⟩, HK.out⟩

set_option maxHeartbeats 1600000 in
theorem heldInt64S_at (z : Nat) (a : Option Addr) (c n : Nat) (w : World) (hi : IAt w a (miZ z n)) (hz : (z : Int) ≤ 90000000) (hl : (n : Int) ≤ 1048576) :
    Calls Tryz.prog 80 #[.slice a n c, .int .i64 (z : Int)] w fun e w' => e = .returned (.int .i64 ((z : Int) + (n : Int))) ∧ Below w.heap.size w w' := by
  have HI := Hid.mk' hi
  clear hi
  go_enter Tryz.func80, Tryz.ntmps80
  go_wp2
  go_loopw [1, 5] (fun x i wr => ∃ k : Nat, k ≤ n ∧ i = .int .i64 k ∧ x = .int .i64 ((z : Int) + (k : Int)) ∧ Below w.heap.size w wr) (fun _ i _ => n - (intOf i).toNat)
  case atStart => exact ⟨0, Nat.zero_le _, rfl, rfl, Below.refl _ _⟩
  case round =>
    obtain ⟨k, hk, rfl, rfl, hbl⟩ := hrel
    have HB := Hid.mk' hbl
    by_cases hlt : k < n
    · have ci : (k : Int) < (n : Int) := by omega
      rcases HI.out.below hbl with ha | ⟨b, o, rfl, hbs, hc⟩
      · have := congrArg List.length ha; rw [miZ_len] at this; simp at this; omega
      have h1 := hc k (by rw [miZ_len]; exact hlt)
      rw [wv_miZ hlt] at h1
      clear hc hbl
      go_wp2
      go_roundw
      case rel => exact ⟨k + 1, by omega, by go_num, by go_num, HB.out⟩
      case measure => simp [intOf]; omega
    · have ci : ¬ (k : Int) < (n : Int) := by omega
      have e : k = n := by omega
      subst e
      clear hbl
      go_wp2
      go_ret
      exact ⟨rfl, HB.out⟩

set_option maxHeartbeats 6400000 in
theorem heldNodeS_is (z : Nat) (a : Option Addr) (c : Nat) (l : List ND) (w : World) (ha : NsAt w a (mkN z l)) (hz : 0 < z) (hz2 : (z : Int) ≤ 10000000) (hl : (l.length : Int) + nssz l ≤ 2000000) :
    Calls Tryz.prog 52 #[.slice a l.length c, .int .i64 (z : Int)] w fun e w' => e = .returned (.int .i64 ((z + cnN l : Nat) : Int)) ∧ Below w.heap.size w w' := by
  have HA := Hid.mk' ha
  clear ha
  go_enter Tryz.func52, Tryz.ntmps52
  go_wp2
  go_loopw [1, 5] (fun x i wr => ∃ k : Nat, k ≤ l.length ∧ i = .int .i64 k ∧ x = .int .i64 ((z + cnN (l.take k) : Nat) : Int) ∧ Below w.heap.size w wr) (fun _ i _ => l.length - (intOf i).toNat)
  case atStart => exact ⟨0, Nat.zero_le _, rfl, by simp [cnN], Below.refl _ _⟩
  case round =>
    obtain ⟨k, hk, rfl, rfl, hbl⟩ := hrel
    have HB := Hid.mk' hbl
    by_cases hlt : k < l.length
    · have ci : (k : Int) < (l.length : Int) := by omega
      have st := cnN_take l k hlt
      have sl := cnN_le l (k + 1)
      have vz := vsz_asz (ndK l k).at_
      have sz1 := nssz_at hlt
      unfold nsz at sz1
      unfold cn1 at st
      rcases HA.out.below hbl with h0 | ⟨b1, o1, rfl, s1, hc1⟩
      · have := mkN_len z l; rw [h0] at this; simp at this; omega
      obtain ⟨h1, h2, ⟨p1, d1, h3, _, h4⟩, ⟨p2, d2, h5, h6⟩⟩ := hc1 k (by rw [mkN_len]; exact hlt)
      rw [mkN_get hlt] at h1 h2 h3 h4 h5 h6
      obtain ⟨q, hq⟩ : ∃ q : Nat, z + cnN (l.take k) = q := ⟨_, rfl⟩
      rw [hq] at h1 h2 h3 h4 h5 h6 ⊢
      simp only [mk1, mkA_len, mb_len] at h1 h2 h3 h4 h5 h6
      obtain ⟨q2, hq3⟩ : ∃ q2 : Nat, q + 1 + 1 + (ndK l k).at_.length + vsz (ndK l k).at_ = q2 := ⟨_, rfl⟩
      rw [hq3] at h6
      have hq1 : z + cnN (l.take (k + 1)) = q2 + (ndK l k).tx.length := by omega
      have hq2 : q2 + (ndK l k).tx.length ≤ 20000000 := by omega
      have Q1 := Hid.mk' hq1
      have H4 := Hid.mk' h4
      have H6 := Hid.mk' h6
      have KT := Hid.mk' (markText_is (q + 1) wr.drew (by omega) (by omega))
      clear st sl hq hq1 hc1 h4 h6 hbl
      go_wp2_with fail
      go_region_held3 (fun w' => w'.cell? ⟨b1, o1 + k * 4 + 1, none⟩ = some (.string (mtx (q + 1)))) (simp [*])
        ((go_at_call 51; refine KT.out.mono ?_; rintro e w1 ⟨rfl, hb1⟩; replace hb1 := undrew hb1; obtain ⟨hx1, hx2⟩ := bcell hb1))
      have B1 := Hid.mk' (HB.out.trans (hb1.mono HB.out.size))
      have g3 : w1.cell? ⟨b1, o1 + k * 4 + 2, none⟩ = some (.slice p1 (ndK l k).at_.length d1) := (hx1 _ _ s1).trans h3
      have g5 : w1.cell? ⟨b1, o1 + k * 4 + 3, none⟩ = some (.slice p2 (ndK l k).tx.length d2) := (hx1 _ _ s1).trans h5
      have s2 : b1 < w1.heap.size := Nat.lt_of_lt_of_le s1 hb1.size
      have KA := Hid.mk' (heldAttrS_is (q + 1 + 1) p1 d1 (ndK l k).at_ w1 (H4.out.below hb1) (by omega) (by omega) (by omega))
      have H6 := Hid.mk' (H6.out.below hb1)
      clear hb1 hx1 hx2 KT h1 h2 h3 h5
      go_wp2_with fail
      refine KA.out.mono ?_
      rintro e w2 ⟨rfl, hb2⟩
      have B2 := Hid.mk' (B1.out.trans (hb2.mono B1.out.size))
      have g6 : w2.cell? ⟨b1, o1 + k * 4 + 3, none⟩ = some (.slice p2 (ndK l k).tx.length d2) := (hb2.cell s2).trans g5
      have KB := Hid.mk' (heldByteS_any p2 d2 (ndK l k).tx.length q2 w2 (H6.out.below hb2) (by omega))
      have ez : ((q + 1 + 1 : Nat) : Int) + ((ndK l k).at_.length : Int) + (vsz (ndK l k).at_ : Int) = (q2 : Int) := by omega
      have zz : ¬ ((q2 : Int) < 0) := by omega
      rw [ez]
      clear hb2 KA g3 g5 ez
      go_wp2_with fail
      refine KB.out.mono ?_
      rintro e w3 ⟨rfl, hb3⟩
      have B3 := Hid.mk' (B2.out.trans (hb3.mono B2.out.size))
      have z2 : ¬ ((q2 : Int) + (ndK l k).tx.length < 0) := by omega
      clear hb3 KB g6
      go_wp2
      go_roundw
      case rel => exact ⟨k + 1, by omega, by go_num, by rw [Q1.out]; simp, B3.out⟩
      case measure => simp [intOf]; omega
    · have ci : ¬ (k : Int) < (l.length : Int) := by omega
      have e : k = l.length := by omega
      subst e
      rw [List.take_length]
      go_wp2
      go_ret
      exact ⟨rfl, HB.out⟩

/-- A state of one's own, as an answer has it. -/
structure SQ (τ : Nat → Nat) (lo : Nat) (w : World) (vn vo : Value) (s : BS) (va vt : Nat → Value) (us : Nat → List Value) : Prop where
  ns : NQ τ lo w vn s.nd va vt us
  op : OI w vo s.op
  ol : ∀ k, vo.ownBlock = some k → lo ≤ k ∧ τ k = 1

theorem SQ.keep {τ : Nat → Nat} {lo : Nat} {w w' : World} {vn vo : Value} {s : BS} {va vt : Nat → Value} {us : Nat → List Value} (h : SQ τ lo w vn vo s va vt us) (hk : Kp (fun k => ¬ τ k = 2) w w') : SQ τ lo w' vn vo s va vt us :=
  ⟨h.ns.keep (hk.mono (fun k e => by omega)), h.op.keep (fun k e hl => hk.block k hl (by have := (h.ol k e).2; omega)), h.ol⟩
theorem SQ.below {τ : Nat → Nat} {lo : Nat} {w w' : World} {vn vo : Value} {s : BS} {va vt : Nat → Value} {us : Nat → List Value} (h : SQ τ lo w vn vo s va vt us) (hb : Below w.heap.size w w') : SQ τ lo w' vn vo s va vt us := h.keep (Kp.of_below hb)

theorem SQ.at {τ : Nat → Nat} {lo : Nat} {w : World} {vn vo : Value} {s : BS} {va vt : Nat → Value} {us : Nat → List Value} (h : SQ τ lo w vn vo s va vt us) : ∃ a c p d, vn = .slice a s.nd.length c ∧ vo = .slice p s.op.length d ∧ SAt w a p s := by
  obtain ⟨a, c, e1, h1⟩ := h.ns.at
  obtain ⟨p, d, e2, h2⟩ := h.op.len
  exact ⟨a, c, p, d, e1, e2, h1, h2⟩

/-- A state, marked. -/
def mkSt (z : Nat) (s : BS) : BS := ⟨mkN z s.nd, miZ (z + cnN s.nd) s.op.length, s.lg⟩
theorem mkSt_len (z : Nat) (s : BS) : (mkSt z s).nd.length = s.nd.length ∧ (mkSt z s).op.length = s.op.length := ⟨mkN_len _ _, miZ_len _ _⟩

set_option maxHeartbeats 1600000 in
theorem markState_is (τ : Nat → Nat) (lo : Nat) (vn vo : Value) (s : BS) (va vt : Nat → Value) (us : Nat → List Value) (w : World) (h : SQ τ lo w vn vo s va vt us) (hc : ∀ k, w.heap.size ≤ k → τ k = 2) (hlo : lo ≤ w.heap.size) (hl : (s.nd.length : Int) + nssz s.nd ≤ 2000000) (ho : (s.op.length : Int) ≤ 1048576) :
    Calls Tryz.prog 15 #[.agg #[vn, vo, .bool s.lg], .int .i64 1] w fun e w' => e = .returned (.int .i64 ((1 + cnN s.nd : Nat) + (s.op.length : Int))) ∧ SQ τ lo w' vn vo (mkSt 1 s) va vt us ∧ Kp (fun k => τ k = 2) w w' := by
  have N0 := below_new w (.cells #[vn, vo, .bool s.lg] 33)
  have KN := Hid.mk' (markNodeS_is τ 1 lo vn s.nd va vt us _ (h.ns.below N0) (Nat.le_trans hlo N0.size) (by omega) (by omega) hl)
  have RB := Hid.mk' (row3 w 33 vn vo (.bool s.lg))
  have HN := Hid.mk' N0
  have HS := Hid.mk' (h.below N0)
  have cb := cnN_le s.nd s.nd.length
  rw [List.take_length] at cb
  have HC := Hid.mk' (hc w.heap.size (Nat.le_refl _))
  obtain ⟨a, c, p, d, e1, e2, _⟩ := h.at
  subst e1 e2
  clear h N0 hc
  generalize hW : w.alloc (.cells #[.slice a s.nd.length c, .slice p s.op.length d, .bool s.lg] 33) = W at *
  obtain ⟨x0, x1, x2, x3⟩ := cells3 RB.out
  go_enter Tryz.func15, Tryz.ntmps15
  go_wp2_with fail
  clear hW
  refine KN.out.mono ?_
  rintro e w1 ⟨rfl, h1, k1⟩
  have O1 := HS.out.op.keep (w' := w1) (fun k e hl' => k1.block k hl' (.inl (HS.out.ol k e).2))
  have KI := Hid.mk' (markInt64S_is (1 + cnN s.nd) (.slice p s.op.length d) s.op w1 O1 (by omega) ho)
  have R1 := RB.out.of_block (k1.block w.heap.size x3 (.inr HC.out))
  have H1 := Hid.mk' h1
  have K1 : Hid (Kp (fun k => τ k = 2) w w1) := Hid.mk' ((Kp.of_below HN.out).trans (k1.mono (fun k e => .inr e)))
  clear KN h1 k1 O1 x0 x1 x2 x3
  obtain ⟨x0, x1, x2, x3⟩ := cells3 R1
  clear R1
  go_wp2_with fail
  refine KI.out.mono ?_
  rintro e w2 ⟨rfl, h2, t2⟩
  have OL := HS.out.ol
  have N2 := H1.out.keep (w' := w2) (Kp.of_turned t2 (fun k e e2 => by have := (OL k e2).2; omega))
  have Q2 : Hid (SQ τ lo w2 (.slice a s.nd.length c) (.slice p s.op.length d) (mkSt 1 s) va vt us) := Hid.mk' ⟨N2, h2, OL⟩
  have K2 := Hid.mk' (K1.out.trans (Kp.of_turned t2 (fun k e e2 => by have := (OL k e2).2; omega)))
  clear h2 t2 N2 KI OL
  go_wp2
  go_ret
  exact ⟨rfl, Q2.out, K2.out⟩

set_option maxHeartbeats 1600000 in
theorem heldState_is (s : BS) (a p : Option Addr) (c d : Nat) (w : World) (h : SAt w a p (mkSt 1 s)) (hl : (s.nd.length : Int) + nssz s.nd ≤ 2000000) (ho : (s.op.length : Int) ≤ 1048576) :
    Calls Tryz.prog 50 #[.agg #[.slice a s.nd.length c, .slice p s.op.length d, .bool s.lg], .int .i64 1] w fun e w' => e = .returned (.int .i64 ((1 + cnN s.nd : Nat) + (s.op.length : Int))) ∧ Below w.heap.size w w' := by
  have N0 := below_new w (.cells #[.slice a s.nd.length c, .slice p s.op.length d, .bool s.lg] 33)
  have KN := Hid.mk' (heldNodeS_is 1 a c s.nd _ (h.1.below N0) (by omega) (by omega) hl)
  have RB := Hid.mk' (row3 w 33 (.slice a s.nd.length c) (.slice p s.op.length d) (.bool s.lg))
  have HN := Hid.mk' N0
  have cb := cnN_le s.nd s.nd.length
  rw [List.take_length] at cb
  have HI := Hid.mk' (h.2.below N0)
  clear h N0
  generalize hW : w.alloc (.cells #[.slice a s.nd.length c, .slice p s.op.length d, .bool s.lg] 33) = W at *
  obtain ⟨x0, x1, x2, x3⟩ := cells3 RB.out
  go_enter Tryz.func50, Tryz.ntmps50
  go_wp2_with fail
  clear hW
  refine KN.out.mono ?_
  rintro e w1 ⟨rfl, hb⟩
  have KI := Hid.mk' (heldInt64S_at (1 + cnN s.nd) p d s.op.length w1 (HI.out.below hb) (by omega) ho)
  have R1 := rowB RB.out hb
  have HB := Hid.mk' (HN.out.trans (hb.mono HN.out.size))
  clear hb KN x0 x1 x2 x3
  obtain ⟨x0, x1, x2, x3⟩ := cells3 R1
  have z1 : ¬ (((1 + cnN s.nd : Nat) : Int) < 0) := by omega
  clear R1
  go_wp2_with fail
  refine KI.out.mono ?_
  rintro e w2 ⟨rfl, hb⟩
  have HB := Hid.mk' (HB.out.trans (hb.mono HB.out.size))
  have z2 : ¬ (((1 + cnN s.nd : Nat) : Int) + (s.op.length : Int) < 0) := by omega
  clear hb KI
  go_wp2
  go_ret
  exact ⟨rfl, HB.out⟩

set_option maxHeartbeats 1600000 in
theorem markBRes_is (cc : Int) (τ : Nat → Nat) (lo : Nat) (vn vo : Value) (s : BS) (va vt : Nat → Value) (us : Nat → List Value) (w : World) (h : SQ τ lo w vn vo s va vt us) (hc : ∀ k, w.heap.size ≤ k → τ k = 2) (hlo : lo ≤ w.heap.size) (hl : (s.nd.length : Int) + nssz s.nd ≤ 2000000) (ho : (s.op.length : Int) ≤ 1048576) :
    Calls Tryz.prog 17 #[.agg #[.int .i64 cc, vn, vo, .bool s.lg], .int .i64 1] w fun e w' => e = .returned (.int .i64 ((1 + cnN s.nd : Nat) + (s.op.length : Int))) ∧ SQ τ lo w' vn vo (mkSt 1 s) va vt us ∧ Kp (fun k => τ k = 2) w w' := by
  have N0 := below_new w (.cells #[.int .i64 cc, vn, vo, .bool s.lg] 35)
  have sz := N0.size
  have KN := Hid.mk' (markState_is τ lo vn vo s va vt us _ (h.below N0) (fun k hk => hc k (by omega)) (Nat.le_trans hlo N0.size) hl ho)
  have HN := Hid.mk' N0
  obtain ⟨a, c, p, d, e1, e2, _⟩ := h.at
  subst e1 e2
  clear h N0 hc
  go_enter Tryz.func17, Tryz.ntmps17
  go_wp2_with fail
  refine KN.out.mono ?_
  rintro e w1 ⟨rfl, h1, k1⟩
  have H1 := Hid.mk' h1
  have K1 := Hid.mk' ((Kp.of_below HN.out).trans k1)
  clear h1 k1 KN
  go_wp2
  go_ret
  exact ⟨rfl, H1.out, K1.out⟩

set_option maxHeartbeats 1600000 in
theorem heldBRes_is (cc : Int) (s : BS) (a p : Option Addr) (c d : Nat) (w : World) (h : SAt w a p (mkSt 1 s)) (hl : (s.nd.length : Int) + nssz s.nd ≤ 2000000) (ho : (s.op.length : Int) ≤ 1048576) :
    Calls Tryz.prog 18 #[.agg #[.int .i64 cc, .slice a s.nd.length c, .slice p s.op.length d, .bool s.lg], .int .i64 1] w fun e w' => e = .returned (.int .i64 ((1 + cnN s.nd : Nat) + (s.op.length : Int))) ∧ Below w.heap.size w w' := by
  have N0 := below_new w (.cells #[.int .i64 cc, .slice a s.nd.length c, .slice p s.op.length d, .bool s.lg] 35)
  have KN := Hid.mk' (heldState_is s a p c d _ (h.below N0) hl ho)
  have HN := Hid.mk' N0
  have z2 : ¬ (((1 + cnN s.nd : Nat) : Int) + (s.op.length : Int) < 0) := by omega
  clear h N0
  go_enter Tryz.func18, Tryz.ntmps18
  go_wp2_with fail
  refine KN.out.mono ?_
  rintro e w1 ⟨rfl, hb⟩
  have HB := Hid.mk' (HN.out.trans (hb.mono HN.out.size))
  clear hb KN
  go_wp2
  go_ret
  exact ⟨rfl, HB.out⟩

set_option maxHeartbeats 1600000 in
theorem eqBRes_is (cc : Int) (s : BS) (a p b q : Option Addr) (c d c' d' : Nat) (w : World) (ha : SAt w a p s) (hb : SAt w b q s) (hl : (s.nd.length : Int) + nssz s.nd + s.op.length ≤ 2000000) (ho : (s.op.length : Int) ≤ 1048576) :
    Calls Tryz.prog 12 #[.agg #[.int .i64 cc, .slice a s.nd.length c, .slice p s.op.length d, .bool s.lg], .agg #[.int .i64 cc, .slice b s.nd.length c', .slice q s.op.length d', .bool s.lg]] w fun e w' => e = .returned (.bool true) ∧ Below w.heap.size w w' := by
  have B0 := (below_new w (.cells #[.int .i64 cc, .slice a s.nd.length c, .slice p s.op.length d, .bool s.lg] 35)).alloc (by simp) (.cells #[.int .i64 cc, .slice b s.nd.length c', .slice q s.op.length d', .bool s.lg] 35)
  have KK := Hid.mk' (eqBuild_big s a b p q c c' d d' _ (ha.below B0).1 (hb.below B0).1 (ha.below B0).2 (hb.below B0).2 hl ho)
  have BB := Hid.mk' B0
  clear ha hb B0
  go_enter Tryz.func12, Tryz.ntmps12
  go_wp2_with fail
  refine KK.out.mono ?_
  rintro e w1 ⟨rfl, hb⟩
  have HB := Hid.mk' (BB.out.trans (hb.mono BB.out.size))
  clear hb KK
  go_wp2
  go_ret
  exact ⟨rfl, HB.out⟩

end Go.Proofs.YtpcpnfpnkkjkcaaGreat
