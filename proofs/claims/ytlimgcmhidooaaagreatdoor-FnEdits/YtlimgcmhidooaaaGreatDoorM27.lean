/- The values of tokens that the lexer made are bytes. -/
import Derived.Test.YtlimgcmhidooaaaGreatDoorM26
set_option maxHeartbeats 6400000
set_option maxRecDepth 100000
set_option linter.unusedVariables false
set_option linter.unusedSimpArgs false
namespace Go.Proofs.YtlimgcmhidooaaaGreatDoor
open Go.RowKit
def BtL (l : List Int) : Prop := ∀ x ∈ l, 0 ≤ x ∧ x ≤ 255
theorem BtL.byt {l : List Int} (h : BtL l) : Byt l := fun k hk => by
 rw [List.getD_eq_getElem?_getD, List.getElem?_eq_getElem hk]
 exact h _ (List.getElem_mem hk)
theorem dec_btl : ∀ (n : Nat) (L : List UInt8), BtL (dec n L)
 | 0, L => by unfold dec; exact fun x h => absurd h (by simp)
 | n + 1, [] => by unfold dec; exact fun x h => absurd h (by simp)
 | n + 1, c :: r => by
  unfold dec
  split
  all_goals
   intro x hx
   rcases List.mem_cons.1 hx with e | hx
   ·subst e
    first
     | (have := refOf_byte (c :: r); omega)
     | (have := c.toNat_lt; omega)
   ·exact dec_btl n _ x hx
theorem decode_btl (L : List UInt8) : BtL (decode L) := dec_btl _ _
def AtB (l : List AT) : Prop := ∀ a ∈ l, BtL a.vl
theorem attrA_btl {L : List UInt8} {a : AT} {n : Nat} (h : attrA L = some (a, n)) : BtL a.vl := by
 unfold attrA at h
 split at h
 ·split at h
  ·injection h with h
   injection h with h1 h2
   rw [← h1]
   exact decode_btl _
  ·cases h
 ·cases h
theorem addA_btl {l : List AT} {a : AT} (hl : AtB l) (ha : BtL a.vl) : AtB (addA l a) := by
 unfold addA
 split
 ·exact hl
 ·intro b hb
  rcases List.mem_append.1 hb with hb | hb
  ·exact hl b hb
  ·rw [List.mem_singleton] at hb; rw [hb]; exact ha
theorem insideA_btl : ∀ (f : Nat) (L : List UInt8) (acc : List AT) (l : List AT) (sh : Bool), AtB acc → insideA f L acc = some (l, sh) → AtB l
 | 0, _, _, _, _, _, h => by unfold insideA at h; cases h
 | f + 1, L, acc, l, sh, ha, h => by
  unfold insideA at h
  split at h
  ·split at h
   ·injection h with h; injection h with h1 h2; rw [← h1]; exact ha
   ·cases h
  ·split at h
   ·split at h
    ·injection h with h; injection h with h1 h2; rw [← h1]; exact ha
    ·cases h
   ·split at h
    ·cases h
    ·split at h
     ·cases h
     ·next a n e => exact insideA_btl f _ _ _ _ (addA_btl ha (attrA_btl e)) h
theorem tagA_btl {L : List UInt8} {t : TK} (h : tagA L = some t) : AtB t.at_ := by
 have z : AtB [] := fun a h => absurd h (by simp)
 unfold tagA at h
 split at h
 ·split at h
  ·split at h
   ·injection h with h; rw [← h]; exact z
   ·cases h
  ·split at h
   ·split at h
    ·injection h with h; rw [← h]; exact z
    ·cases h
   ·split at h
    ·split at h
     ·cases h
     ·next l sh e => injection h with h; rw [← h]; exact insideA_btl _ _ _ _ _ z e
    ·cases h
 ·cases h
def TkB (l : List TK) : Prop := ∀ t ∈ l, AtB t.at_
theorem bytesT_tkb (l : List Int) : TkB (bytesT l) := by
 intro t ht
 unfold bytesT at ht
 obtain ⟨x, _, rfl⟩ := List.mem_map.1 ht
 exact fun a h => absurd h List.not_mem_nil
theorem TkB.nil : TkB [] := fun t h => absurd h (by simp)
theorem lenX_tkb (l : List Int) (b : Nat) : TkB (lenX l b).1 := by
 unfold lenX
 split
 ·exact bytesT_tkb _
 ·exact fun t h => absurd h List.not_mem_nil
theorem tagX_tkb (l : List Int) (b : Nat) : TkB (tagX l b).1 := by
 unfold tagX
 split
 ·split
  ·next t e =>
   intro u hu
   rw [List.mem_singleton] at hu
   rw [hu]
   exact tagA_btl e
  ·split
   ·exact bytesT_tkb _
   ·exact lenX_tkb _ _
 ·split
  ·exact bytesT_tkb _
  ·exact lenX_tkb _ _
theorem feedX_tkb (l : List Int) (b : Nat) : TkB (feedX l b).1 := by
 unfold feedX
 split
 ·exact bytesT_tkb _
 ·split
  ·exact bytesT_tkb _
  ·exact tagX_tkb _ _
theorem allX_tkb : ∀ (l : List Int) (ts : List TK) (hs : List Int), TkB ts → TkB (allX ts hs l).1
 | [], ts, hs, h => h
 | x :: r, ts, hs, h => by
  unfold allX
  refine allX_tkb r _ _ (fun t ht => ?_)
  rcases List.mem_append.1 ht with ht | ht
  ·exact h t ht
  ·exact feedX_tkb _ _ t ht
theorem TkB.tbt {l : List TK} (h : TkB l) : TBt l := fun i hi j hj => by
 have m1 : tkK l i ∈ l := by
  unfold tkK
  rw [List.getD_eq_getElem?_getD, List.getElem?_eq_getElem hi]
  exact List.getElem_mem hi
 have m2 : atK (tkK l i).at_ j ∈ (tkK l i).at_ := by
  unfold atK
  rw [List.getD_eq_getElem?_getD, List.getElem?_eq_getElem hj]
  exact List.getElem_mem hj
 exact (h _ m1 _ m2).byt
theorem right_toks {d : List Int} {s : Nat} {m : ME} (hd : Byt d) (ht : TBt m.tk) (hh : Byt m.hd) (h : sameR (memX d s) m = true) : m.tk = (memX d s).tk ∧ m.hd = (memX d s).hd := by
 unfold sameR at h
 rw [Bool.and_eq_true, Bool.and_eq_true] at h
 refine ⟨(sameTs_eq (TkB.tbt (allX_tkb _ _ _ TkB.nil)) ht h.1).symm, (beqB_eq (allX_byt _ _ _ (fun x hx => hd.mem x (by first | exact hx | exact List.mem_of_mem_take hx)) Byt.nil) hh h.2.1).symm⟩
def meetF (f : Nat → Bool) (L : Nat) : Nat → Nat → Nat
 | 0, _ => L
 | k + 1, x => if f x then x else meetF f L k (x + 1)
def meetN (f : Nat → Bool) (L x : Nat) : Nat := meetF f L (L - x) x
theorem meetN_yes {f : Nat → Bool} {L x : Nat} (h : x < L) (hf : f x = true) : meetN f L x = x := by
 unfold meetN
 rw [show L - x = (L - (x + 1)) + 1 by omega]
 simp [meetF, hf]
theorem meetN_no {f : Nat → Bool} {L x : Nat} (h : x < L) (hf : f x = false) : meetN f L x = meetN f L (x + 1) := by
 unfold meetN
 rw [show L - x = (L - (x + 1)) + 1 by omega]
 simp [meetF, hf]
theorem meetN_end {f : Nat → Bool} {L x : Nat} (h : L ≤ x) : meetN f L x = L := by
 unfold meetN
 rw [show L - x = 0 by omega]
 rfl
theorem meetN_skip {f : Nat → Bool} {L : Nat} : ∀ (n x : Nat), x + n ≤ L → (∀ y, x ≤ y → y < x + n → f y = false) → meetN f L x = meetN f L (x + n)
 | 0, x, _, _ => rfl
 | n + 1, x, h, hf => by rw [meetN_no (by omega) (hf x (Nat.le_refl _) (by omega)), meetN_skip n (x + 1) (by omega) (fun y h1 h2 => hf y (by omega) (by omega))]; congr 1; omega
theorem meetN_le {f : Nat → Bool} {L : Nat} : ∀ (n x : Nat), L - x = n → meetN f L x ≤ L := by
 intro n
 induction n with
 | zero => intro x h; rw [meetN_end (by omega)]; exact Nat.le_refl _
 | succ n ih =>
  intro x h
  cases hf : f x with
  | true => rw [meetN_yes (by omega) hf]; omega
  | false => rw [meetN_no (by omega) hf]; exact ih (x + 1) (by omega)
def hdA (l : List Int) (x : Nat) : List Int := (allX [] [] (l.take x)).2
def mtF (d T : List Int) (s i j n x : Nat) : Bool := decide (i + n ≤ x) && (decide ((x + j - n) % s = 0) && beqB (hdN d s ((x + j - n) / s)) (hdA T x))
theorem l13Stands_any (g : Nat) (m : ME) (a t u : Option Addr) (b9 o9 ca ct cu cc s o : Nat) (hv : Option Addr) (hc : Nat) (h : List Int) (w : World) (hp : P1 g m a t u (some ⟨b9, o9, none⟩) ca ct cu cc w) (hst : m.st = (s : Int)) (hs : 1 ≤ s) (hs2 : s ≤ 60) (hcl : m.cs.length = m.dt.length / s + 1) (hcs : m.cs.length ≤ 1048576) (ho : o ≤ m.dt.length) (hd : m.dt.length ≤ 240) (hb : BAt w hv h) (hh : h.length ≤ 1048576) (hk : (ckK m.cs (o / s)).hd.length ≤ 1048576) :
  Calls Tryz.prog 91 #[.pointer (some ⟨g, 0, none⟩), .int .i64 (o : Int), .slice hv h.length hc] w fun e w' => e = .returned (.bool (decide (o % s = 0) && beqB (ckK m.cs (o / s)).hd h)) ∧ Below w.heap.size w w' := by
 obtain ⟨x0, x1, x2, x3, x4, x5⟩ := cells5 hp.r
 rw [hst] at x1
 have hKJ : o / s < m.cs.length := by rw [hcl]; exact Nat.lt_succ_of_le (Nat.div_le_div_right ho)
 have hq0 : (o : Int) / (s : Int) = ((o / s : Nat) : Int) := by simp
 have hq1 : o / s ≤ o := Nat.div_le_self _ _
 have hr0 : (o : Int) % (s : Int) = ((o % s : Nat) : Int) := by simp
 have hr1 : o % s < s := Nat.mod_lt _ (by omega)
 rcases hp.m1.2.2.2 with hnil | ⟨b8, o8, e8, hbs9, hc9⟩
 ·rw [hnil] at hKJ; simp at hKJ
 cases e8
 obtain ⟨p1, p2_, pq, pc, p3, p4⟩ := hc9 (o / s) hKJ
 have hs0 : ¬ s = 0 := by omega
 obtain ⟨K, hK⟩ : ∃ K, o / s = K := ⟨_, rfl⟩
 obtain ⟨Z, hZ⟩ : ∃ Z, o % s = Z := ⟨_, rfl⟩
 obtain ⟨L, hL⟩ : ∃ L, (ckK m.cs K).hd = L := ⟨_, rfl⟩
 rw [hK] at hKJ hq0 hq1 p3 p4 hk ⊢
 rw [hZ] at hr0 hr1 ⊢
 rw [hL] at p3 p4 hk ⊢
 have hwK : IntKind.i64.wrap (K : Int) = (K : Int) := by rw [IntKind.wrap_i64]; omega
 have ck : (K : Int) < (m.cs.length : Int) := by omega
 have P4 := Hid.mk' p4
 have HBT := Hid.mk' hb
 clear hp hc9 p1 p2_ p4 hb hK hZ hL hcl
 by_cases hz : Z = 0
 ·subst hz
  have tm : ((o : Int).tmod (s : Int) == 0) = true := by rw [Int.tmod_eq_emod_of_nonneg (by omega), hr0]; rfl
  cases e3 : ((strI L).toList == (strI h).toList) with
  | false =>
   have E : Hid ((decide (0 = 0) && beqB L h) = false) := Hid.mk' (by unfold beqB; rw [e3]; rfl)
   rw [E.out]
   have e4 : ((strI L).toList != (strI h).toList) = true := by simpa using e3
   go_enter Tryz.func91, Tryz.ntmps91
   go_wp2
   refine wp_region_held_drew (S := (fun v => v.cell? ⟨g, 1, none⟩ = some (.int .i64 (s : Int)) ∧ v.cell? ⟨g, 4, none⟩ = some (.slice (some ⟨b9, o9, none⟩) m.cs.length cc) ∧ v.cell? ⟨b9, o9 + K * 3 + 2, none⟩ = some (.slice pq L.length pc) ∧ Hid (BAt v pq L) ∧ Hid (BAt v hv h))) (by kernel_rfl) ⟨x1, x4, p3, P4.out.below (Below.refl _ _).drew, HBT.out.below (Below.refl _ _).drew⟩ (fun hHeld => ?_)
   refine tkY 0 ?_
   refine tkY 1 ?_
   refine tkY 2 ?_
   refine tkY 3 ?_
   refine tkY 4 ?_
   refine tkY 5 ?_
   refine tkY 6 ?_
   refine tkY 7 ?_
   refine tkY 8 ?_
   refine tkY 9 ?_
   refine tkY 10 ?_
   refine tkY 11 ?_
   refine tkY 12 ?_
   refine tkY 13 ?_
   refine tkY 14 ?_
   refine tkY 15 ?_
   refine tkY 16 ?_
   refine tkY 17 ?_
   refine tkY 18 ?_
   refine tkY 19 ?_
   refine tkY 20 ?_
   refine wpAnyH_take (i := 21) (oi := ⟨_, _, _, _, _, _⟩) (v := .string (strI L)) rfl (by kernel_rfl) (by kernel_rfl) (by kernel_rfl) (fun _ _ _ h => h) (Or.inl ⟨by rfl, ?_⟩) (by assumption) ?_
   ·(intro w hSw; have hcv := conv_bytesT pc hSw.2.2.2.1.out; clear hSw; go_simp; (try with_reducible rfl))
   try simp only [Act.put, zA, zB, zC]
   refine tkY 22 ?_
   refine wpAnyH_take (i := 23) (oi := ⟨_, _, _, _, _, _⟩) (v := .string (strI h)) rfl (by kernel_rfl) (by kernel_rfl) (by kernel_rfl) (fun _ _ _ h => h) (Or.inl ⟨by rfl, ?_⟩) (by assumption) ?_
   ·(intro w hSw; have hcv := conv_bytesT hc hSw.2.2.2.2.out; clear hSw; go_simp; (try with_reducible rfl))
   try simp only [Act.put, zA, zB, zC]
   refine tkY 24 ?_
   refine tkY 25 ?_
   refine tkY 26 ?_
   refine wpAnyH_done (by kernel_rfl) ?_ _
   go_wp2
   go_ret
   exact ⟨rfl, (Below.refl _ _).drew⟩
  | true =>
   have E : Hid ((decide (0 = 0) && beqB L h) = true) := Hid.mk' (by unfold beqB; rw [e3]; rfl)
   rw [E.out]
   have e4 : ((strI L).toList != (strI h).toList) = false := by simpa using e3
   go_enter Tryz.func91, Tryz.ntmps91
   go_wp2
   refine wp_region_held_drew (S := (fun v => v.cell? ⟨g, 1, none⟩ = some (.int .i64 (s : Int)) ∧ v.cell? ⟨g, 4, none⟩ = some (.slice (some ⟨b9, o9, none⟩) m.cs.length cc) ∧ v.cell? ⟨b9, o9 + K * 3 + 2, none⟩ = some (.slice pq L.length pc) ∧ Hid (BAt v pq L) ∧ Hid (BAt v hv h))) (by kernel_rfl) ⟨x1, x4, p3, P4.out.below (Below.refl _ _).drew, HBT.out.below (Below.refl _ _).drew⟩ (fun hHeld => ?_)
   refine tkY 0 ?_
   refine tkY 1 ?_
   refine tkY 2 ?_
   refine tkY 3 ?_
   refine tkY 4 ?_
   refine tkY 5 ?_
   refine tkY 6 ?_
   refine tkY 7 ?_
   refine tkY 8 ?_
   refine tkY 9 ?_
   refine tkY 10 ?_
   refine tkY 11 ?_
   refine tkY 12 ?_
   refine tkY 13 ?_
   refine tkY 14 ?_
   refine tkY 15 ?_
   refine tkY 16 ?_
   refine tkY 17 ?_
   refine tkY 18 ?_
   refine tkY 19 ?_
   refine tkY 20 ?_
   refine wpAnyH_take (i := 21) (oi := ⟨_, _, _, _, _, _⟩) (v := .string (strI L)) rfl (by kernel_rfl) (by kernel_rfl) (by kernel_rfl) (fun _ _ _ h => h) (Or.inl ⟨by rfl, ?_⟩) (by assumption) ?_
   ·(intro w hSw; have hcv := conv_bytesT pc hSw.2.2.2.1.out; clear hSw; go_simp; (try with_reducible rfl))
   try simp only [Act.put, zA, zB, zC]
   refine tkY 22 ?_
   refine wpAnyH_take (i := 23) (oi := ⟨_, _, _, _, _, _⟩) (v := .string (strI h)) rfl (by kernel_rfl) (by kernel_rfl) (by kernel_rfl) (fun _ _ _ h => h) (Or.inl ⟨by rfl, ?_⟩) (by assumption) ?_
   ·(intro w hSw; have hcv := conv_bytesT hc hSw.2.2.2.2.out; clear hSw; go_simp; (try with_reducible rfl))
   try simp only [Act.put, zA, zB, zC]
   refine tkY 24 ?_
   refine tkY 25 ?_
   refine tkY 26 ?_
   refine wpAnyH_done (by kernel_rfl) ?_ _
   go_wp2
   go_ret
   exact ⟨rfl, (Below.refl _ _).drew⟩
 ·have E : Hid ((decide (Z = 0) && beqB L h) = false) := Hid.mk' (by rw [decide_eq_false hz]; rfl)
  rw [E.out]
  have tm : ((o : Int).tmod (s : Int) == 0) = false := by rw [Int.tmod_eq_emod_of_nonneg (by omega), hr0]; simp; omega
  go_enter Tryz.func91, Tryz.ntmps91
  go_wp2
  refine wp_region_held_drew (S := (fun v => v.cell? ⟨g, 1, none⟩ = some (.int .i64 (s : Int)) ∧ v.cell? ⟨g, 4, none⟩ = some (.slice (some ⟨b9, o9, none⟩) m.cs.length cc) ∧ v.cell? ⟨b9, o9 + K * 3 + 2, none⟩ = some (.slice pq L.length pc) ∧ Hid (BAt v pq L) ∧ Hid (BAt v hv h))) (by kernel_rfl) ⟨x1, x4, p3, P4.out.below (Below.refl _ _).drew, HBT.out.below (Below.refl _ _).drew⟩ (fun hHeld => ?_)
  refine tkY 0 ?_
  refine tkY 1 ?_
  refine tkY 2 ?_
  refine tkY 3 ?_
  refine tkY 4 ?_
  refine tkY 5 ?_
  refine tkY 6 ?_
  refine tkY 7 ?_
  refine tkU 8 ?_
  refine tkU 9 ?_
  refine tkU 10 ?_
  refine tkU 11 ?_
  refine tkU 12 ?_
  refine tkU 13 ?_
  refine tkU 14 ?_
  refine tkU 15 ?_
  refine tkU 16 ?_
  refine tkU 17 ?_
  refine tkU 18 ?_
  refine tkU 19 ?_
  refine tkU 20 ?_
  refine tkU 21 ?_
  refine tkU 22 ?_
  refine tkU 23 ?_
  refine tkU 24 ?_
  refine tkY 25 ?_
  refine tkY 26 ?_
  refine wpAnyH_done (by kernel_rfl) ?_ _
  go_wp2
  go_ret
  exact ⟨rfl, (Below.refl _ _).drew⟩
theorem TsAt.head {w : World} {b o n : Nat} {l : List TK} (h : TsAt w (some ⟨b, o, none⟩) l) (hn : n ≤ l.length) : TsAt w (some ⟨b, o, none⟩) (l.take n) := by
 rcases h with h | ⟨b1, o1, e, hb, hc⟩
 ·exact .inl (by rw [h]; simp)
 ·cases e
  refine .inr ⟨b, o, rfl, hb, fun k hk => ?_⟩
  rw [List.length_take] at hk
  have ek : tkK (l.take n) k = tkK l k := by unfold tkK; simp [show k < n by omega]
  rw [ek]
  exact hc k (by omega)
theorem TsAt.rest {w : World} {b o c n : Nat} {l : List TK} (h : TsAt w (some ⟨b, o, none⟩) l) (hc : l.length ≤ c) (hn : n ≤ l.length) : TsAt w (if c = n then some ⟨b, o, none⟩ else some ⟨b, o + n * 5, none⟩) (l.drop n) := by
 by_cases e : c = n
 ·exact .inl (List.drop_eq_nil_of_le (by omega))
 ·rw [if_neg e]
  rcases h with h | ⟨b1, o1, e1, hb, hc⟩
  ·exact .inl (by rw [h]; simp)
  ·cases e1
   refine .inr ⟨b, o + n * 5, rfl, hb, fun k hk => ?_⟩
   rw [List.length_drop] at hk
   have ek : tkK (l.drop n) k = tkK l (n + k) := by unfold tkK; simp
   rw [ek]
   have := hc (n + k) (by omega)
   rw [show o + (n + k) * 5 = o + n * 5 + k * 5 by omega] at this
   exact this
theorem tssz_drop (l : List TK) : ∀ n, tssz (l.drop n) ≤ tssz l := by
 induction l with
 | nil => intro n; simp
 | cons x r ih => intro n; cases n with
  | zero => simp
  | succ n => simp [tssz]; have := ih n; omega
theorem l13Tail_any (g : Nat) (m : ME) (a u : Option Addr) (bt ot b9 o9 ca ct cu cc s o n : Nat) (w : World) (hp : P1 g m a (some ⟨bt, ot, none⟩) u (some ⟨b9, o9, none⟩) ca ct cu cc w) (hct : m.tk.length ≤ ct) (hst : m.st = (s : Int)) (hs : 1 ≤ s) (hs2 : s ≤ 60) (hcl : m.cs.length = m.dt.length / s + 1) (ho : o ≤ m.dt.length) (hd : m.dt.length ≤ 240) (hn : (ckK m.cs (o / s)).ct = (n : Int)) (hnl : n ≤ m.tk.length) (hl : (m.tk.length : Int) + tssz m.tk ≤ 1048576) :
  Calls Tryz.prog 92 #[.pointer (some ⟨g, 0, none⟩), .int .i64 (o : Int)] w fun e w' => ∃ v us, e = .returned v ∧ TokS w.heap.size w' v (m.tk.drop n) us ∧ Below w.heap.size w w' := by
 obtain ⟨x0, x1, x2, x3, x4, x5⟩ := cells5 hp.r
 rw [hst] at x1
 have hKJ : o / s < m.cs.length := by rw [hcl]; exact Nat.lt_succ_of_le (Nat.div_le_div_right ho)
 have hq0 : (o : Int) / (s : Int) = ((o / s : Nat) : Int) := by simp
 have hq1 : o / s ≤ o := Nat.div_le_self _ _
 rcases hp.m1.2.2.2 with hnil | ⟨b8, o8, e8, hbs9, hc9⟩
 ·rw [hnil] at hKJ; simp at hKJ
 cases e8
 obtain ⟨p1, p2_, -⟩ := hc9 (o / s) hKJ
 rw [hn] at p2_
 have hs0 : ¬ s = 0 := by omega
 have td := tssz_drop m.tk n
 have KC : ∀ V, Below w.heap.size w V → Calls Tryz.prog 67 #[.slice (if ct = n then some ⟨bt, ot, none⟩ else some ⟨bt, ot + n * 5, none⟩) (m.tk.length - n) (ct - n)] V fun e w' => ∃ v us, e = .returned v ∧ TokS V.heap.size w' v (m.tk.drop n) us ∧ Below V.heap.size V w' := fun V hV => by
  have := l4Copy_any (if ct = n then some ⟨bt, ot, none⟩ else some ⟨bt, ot + n * 5, none⟩) (ct - n) (m.tk.drop n) V ((hp.m1.2.1.rest hct hnl).below hV) (by rw [List.length_drop]; omega)
  rw [List.length_drop] at this
  exact this
 obtain ⟨K, hK⟩ : ∃ K, o / s = K := ⟨_, rfl⟩
 rw [hK] at hKJ hq0 hq1 p2_
 have hwK : IntKind.i64.wrap (K : Int) = (K : Int) := by rw [IntKind.wrap_i64]; omega
 have ck : (K : Int) < (m.cs.length : Int) := by omega
 have i1 : (0 : Int) ≤ (n : Int) := by omega
 have i2 : (n : Int) ≤ (m.tk.length : Int) := by omega
 have i3 : (n : Int) ≤ (ct : Int) := by omega
 clear hp hc9 p1 hK hcl hn td
 by_cases hcn : ct = n
 ·rw [if_pos hcn] at KC
  have hcn2 := hcn.symm
  subst hcn2
  simp only [Nat.sub_self, show m.tk.length - n = 0 by omega] at KC
  have KC := Hid.mk' KC
  go_enter Tryz.func92, Tryz.ntmps92
  go_wp2
  refine wp_region_held_drew (S := (fun v => v.cell? ⟨g, 1, none⟩ = some (.int .i64 (s : Int)) ∧ v.cell? ⟨g, 2, none⟩ = some (.slice (some ⟨bt, ot, none⟩) m.tk.length n) ∧ v.cell? ⟨g, 4, none⟩ = some (.slice (some ⟨b9, o9, none⟩) m.cs.length cc) ∧ v.cell? ⟨b9, o9 + K * 3 + 1, none⟩ = some (.int .i64 (n : Int)))) (by kernel_rfl) ⟨x1, x2, x4, p2_⟩ (fun hHeld => ?_)
  refine tkY 0 ?_
  refine tkY 1 ?_
  refine tkY 2 ?_
  refine tkY 3 ?_
  refine tkY 4 ?_
  refine tkY 5 ?_
  refine tkY 6 ?_
  refine tkY 7 ?_
  refine tkY 8 ?_
  refine tkY 9 ?_
  refine tkY 10 ?_
  refine tkY 11 ?_
  refine tkY 12 ?_
  refine tkY 13 ?_
  refine tkY 14 ?_
  refine tkY 15 ?_
  refine tkY 16 ?_
  refine tkY 17 ?_
  refine wpAnyH_ready (rs := [18]) (by kernel_rfl) (by simp) ?_
  refine AllReadyH.cons (o := ⟨_, _, _, _, _, _⟩) rfl (fun K hK => ?_) AllReadyH.nil
  go_simp
  refine (KC.out _ (Below.refl _ _).drew).mono ?_
  rintro e w1 ⟨v, us, rfl, tk1, hb1⟩
  replace hb1 := undrew hb1
  refine hK.out _ _ ⟨(hb1.cell x5).trans x1, (hb1.cell x5).trans x2, (hb1.cell x5).trans x4, (hb1.cell hbs9).trans p2_⟩ (fun hHeld => ?_)
  clear hK K
  try simp only [Act.put, zA, zB, zC]
  refine tkY 19 ?_
  refine wpAnyH_done (by kernel_rfl) ?_ _
  have T1 := Hid.mk' tk1
  have B1 := Hid.mk' hb1
  clear tk1 hb1 hHeld
  go_wp2
  go_ret
  exact ⟨_, us, rfl, T1.out, B1.out⟩
 ·rw [if_neg hcn] at KC
  have KC := Hid.mk' KC
  go_enter Tryz.func92, Tryz.ntmps92
  go_wp2
  refine wp_region_held_drew (S := (fun v => v.cell? ⟨g, 1, none⟩ = some (.int .i64 (s : Int)) ∧ v.cell? ⟨g, 2, none⟩ = some (.slice (some ⟨bt, ot, none⟩) m.tk.length ct) ∧ v.cell? ⟨g, 4, none⟩ = some (.slice (some ⟨b9, o9, none⟩) m.cs.length cc) ∧ v.cell? ⟨b9, o9 + K * 3 + 1, none⟩ = some (.int .i64 (n : Int)))) (by kernel_rfl) ⟨x1, x2, x4, p2_⟩ (fun hHeld => ?_)
  refine tkY 0 ?_
  refine tkY 1 ?_
  refine tkY 2 ?_
  refine tkY 3 ?_
  refine tkY 4 ?_
  refine tkY 5 ?_
  refine tkY 6 ?_
  refine tkY 7 ?_
  refine tkY 8 ?_
  refine tkY 9 ?_
  refine tkY 10 ?_
  refine tkY 11 ?_
  refine tkY 12 ?_
  refine tkY 13 ?_
  refine tkY 14 ?_
  refine tkY 15 ?_
  refine tkY 16 ?_
  refine tkY 17 ?_
  refine wpAnyH_ready (rs := [18]) (by kernel_rfl) (by simp) ?_
  refine AllReadyH.cons (o := ⟨_, _, _, _, _, _⟩) rfl (fun K hK => ?_) AllReadyH.nil
  go_simp
  refine (KC.out _ (Below.refl _ _).drew).mono ?_
  rintro e w1 ⟨v, us, rfl, tk1, hb1⟩
  replace hb1 := undrew hb1
  refine hK.out _ _ ⟨(hb1.cell x5).trans x1, (hb1.cell x5).trans x2, (hb1.cell x5).trans x4, (hb1.cell hbs9).trans p2_⟩ (fun hHeld => ?_)
  clear hK K
  try simp only [Act.put, zA, zB, zC]
  refine tkY 19 ?_
  refine wpAnyH_done (by kernel_rfl) ?_ _
  have T1 := Hid.mk' tk1
  have B1 := Hid.mk' hb1
  clear tk1 hb1 hHeld
  go_wp2
  go_ret
  exact ⟨_, us, rfl, T1.out, B1.out⟩
theorem BAt.headB {w : World} {b o z : Nat} {l : List Int} (h : BAt w (some ⟨b, o, none⟩) l) (hz : z ≤ l.length) : BAt w (some ⟨b, o, none⟩) (l.take z) := by
 rcases h with h | ⟨b1, o1, e, hb, hc⟩
 ·exact .inl (by rw [h]; simp)
 ·cases e; exact (CAt.head ⟨hb, hc⟩ hz).at
theorem BAt.restB {w : World} {b o c f : Nat} {l : List Int} (h : BAt w (some ⟨b, o, none⟩) l) (hc : l.length ≤ c) (hf : f ≤ l.length) : BAt w (if c = f then some ⟨b, o, none⟩ else some ⟨b, o + f, none⟩) (l.drop f) := by
 rcases h with h | ⟨b1, o1, e, hb, hcc⟩
 ·exact .inl (by rw [h]; simp)
 ·cases e; exact CAt.rest ⟨hb, hcc⟩ hc hf
theorem l13SpliceB_any (b o c : Nat) (l : List Int) (at_ n : Nat) (e : Option Addr) (d : Nat) (p : List Int) (w : World) (hl : BAt w (some ⟨b, o, none⟩) l) (hc : l.length ≤ c) (he : BAt w e p) (hs : l.length ≤ 1048576) (hm : p.length ≤ 1048576) (hat : at_ + n ≤ l.length) :
  Calls Tryz.prog 77 #[.slice (some ⟨b, o, none⟩) l.length c, .int .i64 (at_ : Int), .int .i64 (n : Int), .slice e p.length d] w fun e w' => ∃ v, e = .returned v ∧ w'.ownsRow w.heap.size 5 1 v (spl l at_ n p).length (bcs (spl l at_ n p)) ∧ Below w.heap.size w w' := by
 have e1 : (l.take at_).length = at_ := by rw [List.length_take]; omega
 have e2 : (l.drop (at_ + n)).length = l.length - (at_ + n) := by rw [List.length_drop]
 have K := l1Copy_own (some ⟨b, o, none⟩) c (l.take at_) w (hl.headB (by omega)) (by omega)
 rw [e1] at K
 have K := Hid.mk' K
 have z2 : (bcs (l.drop (at_ + n))).length = (l.length - (at_ + n)) * 1 := by rw [bcs_len, e2]
 have R := Hid.mk' (hl.restB hc hat)
 have E : Hid ((spl l at_ n p).length = at_ + p.length + (l.length - (at_ + n))) := Hid.mk' (by rw [spl_len hat]; omega)
 have HE := Hid.mk' he
 clear hl he e1
 go_enter Tryz.func77, Tryz.ntmps77
 go_wp2_with (first
  | (go_at_call 51; refine K.out.mono ?_; rintro e w1 ⟨v, rfl, ho1, hb1⟩)
  | (at_builtin; refine wpList_append_any _ rfl (.tmp 13) (.tmp 14) 22 rfl w.heap.size 5 (.int .u8 0) 1 1 Tryz.underlying22 Tryz.info5 rfl (by decide) _ at_ _ rfl ho1 e p.length d (bcs p) rfl (bcs_len p) (HE.out.below hb1).src (bcs_one p) (by unfold maxLen; omega) (by omega) hb1.size ?_; intro v2 w2 ho2 hg2; have hb2 := hb1.grown hg2 hb1.size (fun k hk => own_lo ho1 k hk))
  | (at_builtin; refine wpList_append_any _ rfl (.tmp 16) (.tmp 21) 22 rfl w.heap.size 5 (.int .u8 0) 1 1 Tryz.underlying22 Tryz.info5 rfl (by decide) _ (at_ + p.length) _ rfl ho2 (if c = at_ + n then some ⟨b, o, none⟩ else some ⟨b, o + (at_ + n), none⟩) (l.length - (at_ + n)) (c - (at_ + n)) (bcs (l.drop (at_ + n))) rfl z2 (by have := (R.out.below hb2).src; rwa [e2] at this) (bcs_one _) (by unfold maxLen; omega) (by omega) hb2.size ?_; intro v3 w3 ho3 hg3; have hb3 := hb2.grown hg3 hb2.size (fun k hk => own_lo ho2 k hk)))
 all_goals
  go_ret
  rw [← E.out, ← bcs_append, ← bcs_append] at ho3
  exact ⟨_, rfl, ho3, hb3⟩
theorem hdA_add (T : List Int) (q k : Nat) : hdA T (q + k) = (allX [] (hdA T q) ((T.drop q).take k)).2 := by
 unfold hdA
 rw [List.take_add, allX_append, allX_from]
theorem hdA_same {d T : List Int} {q : Nat} (h : T.take q = d.take q) : hdA T q = hdA d q := by unfold hdA; rw [h]
theorem spl_take {l : List Int} {at_ n q : Nat} {p : List Int} (h : q ≤ at_) (h2 : at_ ≤ l.length) : (spl l at_ n p).take q = l.take q := by
 unfold spl
 rw [List.append_assoc, List.take_append_of_le_length (by rw [List.length_take]; omega), List.take_take, Nat.min_eq_left h]
def fedT (T : List Int) (q x : Nat) : List TK := (allX [] (hdA T q) ((T.drop q).take (x - q))).1
def GoP (m : ME) (s i j : Nat) (p : List Int) (w : World) (e : Ending) (w' : World) : Prop :=
 ∃ v u us RT RH, e = .returned (.tuple #[v, u, .int .i64 (meetN (mtF m.dt (spl m.dt i j p) s i j p.length) (spl m.dt i j p).length (i / s * s) : Int)]) ∧ TokS w.heap.size w' v RT us ∧ w'.ownsRow w.heap.size 5 1 u RH.length (bcs RH) ∧ Below w.heap.size w w' ∧
  (∀ x, meetN (mtF m.dt (spl m.dt i j p) s i j p.length) (spl m.dt i j p).length (i / s * s) = x → (x < (spl m.dt i j p).length → RT = m.tk.take (tkN m.dt s (i / s)).length ++ fedT (spl m.dt i j p) (i / s * s) x ++ m.tk.drop (tkN m.dt s ((x + j - p.length) / s)).length ∧ RH = m.hd) ∧ (x = (spl m.dt i j p).length → RT = m.tk.take (tkN m.dt s (i / s)).length ++ fedT (spl m.dt i j p) (i / s * s) x ∧ RH = hdA (spl m.dt i j p) x))
theorem tssz_takeLe (l : List TK) : ∀ n, tssz (l.take n) ≤ tssz l := by
 induction l with
 | nil => intro n; simp
 | cons x r ih => intro n; cases n with
  | zero => simp [tssz]
  | succ n => simp [tssz]; have := ih n; omega
theorem HP_3 {g : Nat} {m : ME} {a t u c : Option Addr} {ca ct cu cc : Nat} {w : World} (h : P1 g m a t u c ca ct cu cc w) : w.cell? ⟨g, 3, none⟩ = some (.slice u m.hd.length cu) := by
 obtain ⟨x0, x1, x2, x3, x4, x5⟩ := cells5 h.r
 exact x3
theorem TokIn.for {base : Nat} {w : World} {g g' : Option Nat} {t : TK} {u : Value} (h : TokIn base w g t u) (hg : ∀ k, g' = some k → k < base) : TokIn base w g' t u := by
 rcases h with h | ⟨lo, w9, rs, h1, h2, h3, h4, h5⟩
 ·exact .inl h
 ·exact .inr ⟨lo, w9, rs, h1, h2, h3, h4, fun k e => .inl (Nat.lt_of_lt_of_le (hg k e) h1)⟩
theorem l13Go_any (g : Nat) (m : ME) (u : Option Addr) (bd od bt ot b9 o9 ca ct cu cc s i j : Nat) (e : Option Addr) (d : Nat) (p : List Int) (w : World) (hp : P1 g m (some ⟨bd, od, none⟩) (some ⟨bt, ot, none⟩) u (some ⟨b9, o9, none⟩) ca ct cu cc w) (hca : m.dt.length ≤ ca) (hct : m.tk.length ≤ ct) (hub : Byt m.dt) (hpb : Byt p) (he : BAt w e p) (hst : m.st = (s : Int)) (hs : 1 ≤ s) (hs2 : s ≤ 60) (hd : m.dt.length ≤ 240) (ecl : m.cs.length = m.dt.length / s + 1) (eck : ∀ k, k < m.dt.length / s + 1 → ckK m.cs k = ckAt m.dt s k) (hcnt : ∀ k, k < m.dt.length / s + 1 → (tkN m.dt s k).length ≤ m.tk.length) (hat : i + j ≤ m.dt.length) (hL : (spl m.dt i j p).length ≤ 240) (hpl : p.length ≤ 240) (hm : (msz m : Int) ≤ 1048576) :
  Calls Tryz.prog 59 #[.pointer (some ⟨g, 0, none⟩), .int .i64 (i : Int), .int .i64 (j : Int), .slice e p.length d] w fun ev w' => GoP m s i j p w ev w' := by
 have MS_ : (msz m : Int) = m.dt.length + m.tk.length + tssz m.tk + m.hd.length + m.cs.length + csz m.cs := by unfold msz; omega
 have KS := Hid.mk' (l13SpliceB_any bd od ca m.dt i j e d p w hp.m1.1 hca he (by omega) (by omega) hat)
 have HP := Hid.mk' hp
 obtain ⟨x0, x1, x2, x3, x4, x5⟩ := cells5 hp.r
 rw [hst] at x1
 go_enter Tryz.func59, Tryz.ntmps59
 go_wp2_with fail
 refine KS.out.mono ?_
 rintro e1 w1 ⟨tx, rfl, ot1, hb1⟩
 clear x0 x1 x2 x3 x4 x5
 have P1_ := Hid.mk' (HP.out.below hb1)
 have B1 := Hid.mk' hb1
 obtain ⟨ta, tcap, rfl, bta⟩ := own_bat ot1
 have OT1 := Hid.mk' ot1
 have BT1 := Hid.mk' bta
 clear hb1 ot1 bta KS
 have hn : i ≤ m.dt.length := by omega
 have hKJ : i / s < m.dt.length / s + 1 := Nat.lt_succ_of_le (Nat.div_le_div_right hn)
 have hq0 : (i : Int) / (s : Int) = ((i / s : Nat) : Int) := by simp
 have hq1 : i / s ≤ i := Nat.div_le_self _ _
 have hqs : i / s * s ≤ i := Nat.div_mul_le_self _ _
 have hs0 : ¬ s = 0 := by omega
 obtain ⟨x0, x1, x2, x3, x4, x5⟩ := cells5 P1_.out.r
 rw [hst] at x1
 rcases P1_.out.m1.2.2.2 with hnil | ⟨b8, o8, e8, hbs9, hc9⟩
 ·rw [hnil] at ecl; simp at ecl
 cases e8
 obtain ⟨p1, p2_, pq, pc, p3, p4⟩ := hc9 (i / s) (by omega)
 rw [eck (i / s) hKJ] at p1 p2_ p3 p4
 obtain ⟨K, hK⟩ : ∃ K, i / s = K := ⟨_, rfl⟩
 rw [hK] at hKJ hq0 hq1 hqs p1 p2_ p3 p4
 have hwK : IntKind.i64.wrap (K : Int) = (K : Int) := by rw [IntKind.wrap_i64]; omega
 have ck : (K : Int) < (m.cs.length : Int) := by omega
 have c0 : w1.cell? ⟨b9, o9 + K * 3, none⟩ = some (.int .i64 ((K * s : Nat) : Int)) := p1
 have c1 : w1.cell? ⟨b9, o9 + K * 3 + 1, none⟩ = some (.int .i64 ((tkN m.dt s K).length : Int)) := p2_
 have c2 : w1.cell? ⟨b9, o9 + K * 3 + 2, none⟩ = some (.slice pq (hdN m.dt s K).length pc) := p3
 have c3 : BAt w1 pq (hdN m.dt s K) := p4
 have tc := hcnt K hKJ
 have gH : GoodH (hdN m.dt s K) := allX_good _ _ _ (.inl rfl)
 have hH := gH.len
 have bH : Byt (hdN m.dt s K) := allX_byt _ _ _ (fun x hx => hub.mem x (List.mem_of_mem_take hx)) Byt.nil
 obtain ⟨Q, hQ⟩ : ∃ Q, K * s = Q := ⟨_, rfl⟩
 obtain ⟨H, hH0⟩ : ∃ H, hdN m.dt s K = H := ⟨_, rfl⟩
 obtain ⟨cn, hcn⟩ : ∃ cn, (tkN m.dt s K).length = cn := ⟨_, rfl⟩
 rw [hQ] at c0 hqs
 rw [hH0] at c2 c3 hH bH gH
 rw [hcn] at c1 tc
 have HQ := Hid.mk' hQ
 have HH := Hid.mk' hH0
 have HCN := Hid.mk' hcn
 have HK := Hid.mk' hK
 have ttk := tssz_takeLe m.tk cn
 have K4 : Hid (∀ V, Below w1.heap.size w1 V → Calls Tryz.prog 67 #[.slice (some ⟨bt, ot, none⟩) cn ct] V fun e w' => ∃ v us, e = .returned v ∧ TokS V.heap.size w' v (m.tk.take cn) us ∧ Below V.heap.size V w') := Hid.mk' (fun V hV => by
  have := l4Copy_any (some ⟨bt, ot, none⟩) ct (m.tk.take cn) V ((P1_.out.m1.2.1.head tc).below hV) (by rw [List.length_take]; omega)
  rw [List.length_take, Nat.min_eq_left tc] at this
  exact this)
 have K5 : Hid (∀ V, Below w1.heap.size w1 V → Calls Tryz.prog 51 #[.slice pq H.length pc] V fun e w' => ∃ v, e = .returned v ∧ w'.ownsRow V.heap.size 5 1 v H.length (bcs H) ∧ Below V.heap.size V w') := Hid.mk' (fun V hV => l1Copy_own pq pc H V (c3.below hV) (by omega))
 have ECL := Hid.mk' ecl
 have ECK := Hid.mk' eck
 have HCT := Hid.mk' hcnt
 have sTK : (m.tk.length : Int) + tssz m.tk ≤ 1048576 := by omega
 have sHD : (m.hd.length : Int) ≤ 1048576 := by omega
 have sCS : m.cs.length ≤ 1048576 := by omega
 clear p1 p2_ p3 p4 hK hQ hH0 hcn hc9 ttk MS_ c3 ecl eck hcnt hp hm
 go_wp2
 refine wp_region_held_drew (S := (fun v => v.cell? ⟨g, 1, none⟩ = some (.int .i64 (s : Int)) ∧ v.cell? ⟨g, 4, none⟩ = some (.slice (some ⟨b9, o9, none⟩) m.cs.length cc))) (by kernel_rfl) ⟨x1, x4⟩ (fun hHeld => ?_)
 refine tkY 0 ?_
 refine tkY 1 ?_
 refine tkY 2 ?_
 refine tkY 3 ?_
 refine tkY 4 ?_
 refine tkY 5 ?_
 refine tkY 6 ?_
 refine tkY 7 ?_
 refine tkY 8 ?_
 refine tkY 9 ?_
 refine tkY 10 ?_
 refine tkY 11 ?_
 refine wpAnyH_done (by kernel_rfl) ?_ _
 clear hHeld
 have i1 : (0 : Int) ≤ (cn : Int) := by omega
 have i2 : (cn : Int) ≤ (m.tk.length : Int) := by omega
 have i3 : (cn : Int) ≤ (ct : Int) := by omega
 go_wp2
 refine wp_region_held_drew (S := (fun v => v.cell? ⟨g, 2, none⟩ = some (.slice (some ⟨bt, ot, none⟩) m.tk.length ct) ∧ v.cell? ⟨b9, o9 + K * 3 + 1, none⟩ = some (.int .i64 (cn : Int)))) (by kernel_rfl) ⟨x2, c1⟩ (fun hHeld => ?_)
 refine tkY 0 ?_
 refine tkY 1 ?_
 refine tkY 2 ?_
 refine tkY 3 ?_
 refine tkY 4 ?_
 refine tkY 5 ?_
 refine tkY 6 ?_
 refine tkY 7 ?_
 refine tkY 8 ?_
 refine wpAnyH_ready (rs := [9]) (by kernel_rfl) (by simp) ?_
 refine AllReadyH.cons (o := ⟨_, _, _, _, _, _⟩) rfl (fun K hK => ?_) AllReadyH.nil
 go_simp
 refine (K4.out _ (Below.refl _ _).drew.drew).mono ?_
 rintro e2 w2 ⟨tv, us0, rfl, tk2, hb2⟩
 replace hb2 := undrew (undrew hb2)
 obtain ⟨tva, tvc, rfl, -⟩ := own_src tk2.row
 refine hK.out _ _ ⟨(hb2.cell x5).trans x2, (hb2.cell hbs9).trans c1⟩ (fun hHeld => ?_)
 clear hK K
 try simp only [Act.put, zA, zB, zC]
 refine tkY 10 ?_
 refine wpAnyH_done (by kernel_rfl) ?_ _
 clear hHeld
 have TK2 : Hid (TokS w1.heap.size w2 (.slice tva (m.tk.take cn).length tvc) (m.tk.take cn) us0) := Hid.mk' tk2
 have P2 := Hid.mk' (P1_.out.below hb2)
 have B2 := Hid.mk' (B1.out.trans (hb2.mono B1.out.size))
 have d0 : w2.cell? ⟨b9, o9 + K * 3, none⟩ = some (.int .i64 (Q : Int)) := (hb2.cell (p := ⟨b9, o9 + K * 3, none⟩) hbs9).trans c0
 have d2 : w2.cell? ⟨b9, o9 + K * 3 + 2, none⟩ = some (.slice pq H.length pc) := (hb2.cell (p := ⟨b9, o9 + K * 3 + 2, none⟩) hbs9).trans c2
 have hbs2 : b9 < w2.heap.size := Nat.lt_of_lt_of_le hbs9 hb2.size
 have K6 := Hid.mk' (K5.out w2 hb2)
 have HB2 := Hid.mk' hb2
 clear tk2 hb2 x0 x1 x2 x3 x4 x5 c0 c1 c2 hbs9 K4 K5 OT1
 obtain ⟨T, hT⟩ : ∃ T, spl m.dt i j p = T := ⟨_, rfl⟩
 have eT : T.take Q = m.dt.take Q := by rw [← hT]; exact spl_take hqs hn
 have lT : T.length = m.dt.length - j + p.length := by rw [← hT]; exact spl_len hat
 have EH : Hid (hdA T Q = H) := Hid.mk' (by rw [hdA_same eT, ← HH.out, ← HQ.out]; rfl)
 have bT : Byt T := by
  rw [← hT]
  exact Byt.of (fun x hx => by
   unfold spl at hx
   rcases List.mem_append.1 hx with h | h
   ·rcases List.mem_append.1 h with h | h
    ·exact hub.mem x (List.mem_of_mem_take h)
    ·exact hpb.mem x h
   ·exact hub.mem x (List.mem_of_mem_drop h))
 rw [hT] at hL BT1 ⊢
 have HT := Hid.mk' hT
 have HBT := Hid.mk' bT
 have HLT := Hid.mk' lT
 clear hT eT bT lT
 go_wp2_with fail
 refine K6.out.mono ?_
 rintro e3 w3 ⟨hv, rfl, oh3, hb3⟩
 have TK3 : Hid (TokS w1.heap.size w3 (.slice tva (m.tk.take cn).length tvc) (m.tk.take cn) us0) := Hid.mk' ⟨TK2.out.len, own_keep TK2.out.row hb3, TK2.out.one, fun i t u h1 h2 => (TK2.out.all i t u h1 h2).below hb3⟩
 have HB3 := Hid.mk' (HB2.out.trans (hb3.mono HB2.out.size))
 have d3 : w3.cell? ⟨b9, o9 + K * 3, none⟩ = some (.int .i64 (Q : Int)) := (hb3.cell (p := ⟨b9, o9 + K * 3, none⟩) hbs2).trans d0
 have OH3 := Hid.mk' (own_down oh3 HB2.out.size)
 have lcn : (m.tk.take cn).length = cn := by rw [List.length_take]; omega
 rw [lcn] at TK3
 clear K6 P2 d0 d2 oh3 hb3 TK2 B2 HB2 lcn
 go_wp2
 have QL : Q ≤ T.length := by rw [HLT.out]; omega
 obtain ⟨D, hD⟩ : ∃ D, T.drop Q = D := ⟨_, rfl⟩
 have lD : D.length = T.length - Q := by rw [← hD, List.length_drop]
 have HDD := Hid.mk' hD
 have HA : Hid (∀ k, hdA T (Q + k) = (allX [] H (D.take k)).2) := Hid.mk' (fun k => by rw [hdA_add, EH.out, hD])
 have bD : Byt D := by rw [← hD]; exact Byt.of (fun x hx => HBT.out.mem x (List.mem_of_mem_drop hx))
 obtain ⟨ff, hff⟩ : ∃ ff, mtF m.dt T s i j p.length = ff := ⟨_, rfl⟩
 have HF := Hid.mk' hff
 clear hD hff
 go_loopw [13, 14, 15] (fun tv hv iv wr => ∃ (k : Nat) (us : List Value), Q + k ≤ T.length ∧ iv = .int .i64 ((Q + k : Nat) : Int) ∧ TokS w1.heap.size wr tv (m.tk.take cn ++ (allX [] H (D.take k)).1) us ∧ wr.ownsRow w1.heap.size 5 1 hv (allX [] H (D.take k)).2.length (bcs (allX [] H (D.take k)).2) ∧ (allX [] H (D.take k)).1.length ≤ 161 * k ∧ (allX [] H (D.take k)).2.length ≤ 160 ∧ Byt (allX [] H (D.take k)).2 ∧ meetN ff T.length Q = meetN ff T.length (Q + k) ∧ Below w1.heap.size w1 wr) (fun _ _ iv _ => T.length - (intOf iv).toNat)
 case atStart => exact ⟨0, us0, by omega, rfl, by simpa [allX] using TK3.out, OH3.out, Nat.zero_le _, by show H.length ≤ 160; omega, bH, rfl, HB3.out⟩
 case round =>
  obtain ⟨k, us, hk, rfl, ht, hn', l1, l2, hby, hme, hbl⟩ := hrel
  by_cases hlt : Q + k < T.length
  ·have ci : ((Q + k : Nat) : Int) < (T.length : Int) := by omega
   obtain ⟨y0, y1⟩ := bD k (by omega)
   obtain ⟨y, hy⟩ : ∃ y : Nat, D.getD k 0 = (y : Int) := ⟨(D.getD k 0).toNat, by omega⟩
   rw [hy] at y1
   have hcell : ∃ ga oa, ta = some ⟨ga, oa, none⟩ ∧ wr.cell? ⟨ga, oa + (Q + k), none⟩ = some (.int .u8 y) := by
    rcases BT1.out with h0 | ⟨ga, oa, ea, hbs, hc⟩
    ·exact absurd hlt (by rw [h0]; simp)
    ·refine ⟨ga, oa, ea, (hbl.cell (p := ⟨ga, oa + (Q + k), none⟩) hbs).trans ((hc (Q + k) hlt).trans ?_)⟩
     have : T.getD (Q + k) 0 = D.getD k 0 := by rw [← HDD.out]; simp
     unfold bv
     rw [this, hy]
   obtain ⟨ga, oa, rfl, hcell⟩ := hcell
   have ES : Hid (allX [] H (D.take (k + 1)) = ((allX [] H (D.take k)).1 ++ (feedX (allX [] H (D.take k)).2 y).1, (feedX (allX [] H (D.take k)).2 y).2)) := Hid.mk' (by
    rw [take_snoc_int (by omega), allX_append, hy]
    simp [allX])
   have hff : Hid (ff (Q + k) = (decide (i + p.length ≤ Q + k) && (decide ((Q + k + j - p.length) % s = 0) && beqB (hdN m.dt s ((Q + k + j - p.length) / s)) (allX [] H (D.take k)).2))) := Hid.mk' (by rw [← HF.out]; unfold mtF; rw [HA.out])
   clear hy y0
   obtain ⟨TT, hTT⟩ : ∃ TT, (allX [] H (D.take k)).1 = TT := ⟨_, rfl⟩
   rw [hTT] at ES ht l1
   have ETT := Hid.mk' hTT
   clear hTT
   generalize (allX [] H (D.take k)).2 = HH' at *
   obtain ⟨an, can, rfl, hcan⟩ := own_cap hn'
   obtain ⟨an', can', en, ban⟩ := own_bat hn'
   injection en with en1 _ en3
   subst en1 en3
   have P4 := Hid.mk' (P1_.out.below hbl)
   have wA : IntKind.i64.wrap (((Q + k : Nat) : Int) + (j : Int)) = ((Q + k : Nat) : Int) + (j : Int) := by rw [IntKind.wrap_i64]; omega
   have wB : IntKind.i64.wrap (((Q + k : Nat) : Int) + (j : Int) - (p.length : Int)) = ((Q + k : Nat) : Int) + (j : Int) - (p.length : Int) := by rw [IntKind.wrap_i64]; omega
   have wC : IntKind.i64.wrap ((i : Int) + (p.length : Int)) = (i : Int) + (p.length : Int) := by rw [IntKind.wrap_i64]; omega
   have hk2 : k ≤ 240 := by omega
   obtain ⟨X, hX⟩ : ∃ X, Q + k = X := ⟨_, rfl⟩
   rw [hX] at wA wB ci hcell hff hk hlt hme ⊢
   have HX := Hid.mk' hX
   have lTT : (m.tk.take cn ++ TT).length ≤ 1048576 + 161 * k := by rw [List.length_append, List.length_take]; omega
   have fl := feedX_len HH' y
   have fh := Hid.mk' (feedX_held HH' y)
   have fb := Hid.mk' (feedX_byt (b := y) hby (by omega))
   have KF := Hid.mk' (fun V (hV : BAt V an HH') => l5Feed_any an can HH' y V hV hby hcan (by omega) (by omega))
   by_cases hx : X < i + p.length
   ·have cg : ¬ (X : Int) ≥ (i : Int) + (p.length : Int) := by omega
    have fX : Hid (ff X = false) := Hid.mk' (by rw [hff.out, decide_eq_false (by omega)]; rfl)
    have HT' := Hid.mk' ht
    have HB := Hid.mk' hbl
    have BN := Hid.mk' ban
    have HME := Hid.mk' hme
    clear ht hn' hbl ban hff hX hme
    go_wp2_with (first | go_big_skip | fail)
    generalize hR : feedX HH' y = R at *
    refine (KF.out _ BN.out).mono ?_
    intro e2 w2' hx2
    obtain ⟨v1, u1, us1, rfl, t1, hA1, o1, b1⟩ := hx2.toks
    have OV := Hid.mk' (own_keep HT'.out.row b1)
    obtain ⟨a1, c1', rfl, s1⟩ := own_src t1.row
    have S1 := Hid.mk' s1
    have T1 := Hid.mk' t1
    have LN := Hid.mk' (tcs_len R.1 us1 t1.len)
    have PP1 := Hid.mk' (tcs_one R.1 us1 t1.one)
    have HA1 := Hid.mk' (hA1 _ (fun k hk => (HT'.out.row.lt k hk).2))
    have O1 := Hid.mk' o1
    have BB2 := Hid.mk' b1
    have SZ := Hid.mk' (Nat.le_trans HB.out.size b1.size)
    clear hx2 t1 hA1 o1 b1 s1 KF
    go_wp2_with (at_builtin; refine wpList_append_at _ rfl (.tmp 101) (.tmp 102) 24 rfl w1.heap.size 107 (.agg #[.int .i64 0, .int .i64 0, .string ⟨#[]⟩, .slice none 0 0, .bool false]) 5 64 Tryz.underlying24 Tryz.infoTok rfl (by decide) _ _ _ rfl OV.out _ R.1.length _ (tcs R.1 us1) rfl LN.out S1.out PP1.out (by unfold maxLen; omega) (by omega) SZ.out ?_; intro v' w3' o3 hg3 at3)
    have T3 := Hid.mk' (TokS.app HT'.out BB2.out HB.out.size HA1.out T1.out.len T1.out.one o3 hg3 at3)
    have B3' := Hid.mk' ((HB.out.trans (BB2.out.mono HB.out.size)).grown hg3 SZ.out (own_lo OV.out))
    have U3 : Hid (w3'.ownsRow w1.heap.size 5 1 u1 R.2.length (bcs R.2)) := Hid.mk' (own_down (O1.out.kept hg3 (by
     cases hu1 : u1.ownBlock with
     | none => exact .inl rfl
     | some q => exact .inr (fun e => by
       have h1 := (O1.out.lt q hu1).1
       have h2 := (HT'.out.row.lt q e.symm).2
       omega))) HB.out.size)
    have L3 : Hid ((TT ++ R.1).length ≤ 161 * (k + 1)) := Hid.mk' (by rw [List.length_append]; omega)
    clear o3 hg3 at3
    go_roundw
    case rel =>
     have ex := HX.out
     refine ⟨k + 1, us ++ us1, by omega, by rw [show Q + (k + 1) = X + 1 by omega]; go_num, by rw [ES.out, ← List.append_assoc]; exact T3.out, by rw [ES.out]; exact U3.out, by rw [ES.out]; exact L3.out, by rw [ES.out]; exact fh.out, by rw [ES.out]; exact fb.out, by rw [show Q + (k + 1) = X + 1 by omega, HME.out, meetN_no hlt fX.out], B3'.out⟩
    case measure => simp [intOf]; omega
   ·have cg : (X : Int) ≥ (i : Int) + (p.length : Int) := by omega
    have lt2 := HLT.out
    have ho : X + j - p.length ≤ m.dt.length := by omega
    have eo : (X : Int) + (j : Int) - (p.length : Int) = ((X + j - p.length : Nat) : Int) := by omega
    have hoJ : (X + j - p.length) / s < m.dt.length / s + 1 := Nat.lt_succ_of_le (Nat.div_le_div_right ho)
    have eh : (ckK m.cs ((X + j - p.length) / s)).hd = hdN m.dt s ((X + j - p.length) / s) := by rw [ECK.out _ hoJ]; rfl
    have hhl : (hdN m.dt s ((X + j - p.length) / s)).length ≤ 159 := (allX_good _ _ _ (.inl rfl)).len
    have KST := l13Stands_any g m (some ⟨bd, od, none⟩) (some ⟨bt, ot, none⟩) u b9 o9 ca ct cu cc s (X + j - p.length) an can HH' wr P4.out hst hs hs2 ECL.out sCS ho hd ban (by omega) (by rw [eh]; omega)
    rw [← eo, eh] at KST
    have KST := Hid.mk' KST
    have HT' := Hid.mk' ht
    have HB := Hid.mk' hbl
    have BN := Hid.mk' ban
    have HME := Hid.mk' hme
    have EO := Hid.mk' eo
    have HO := Hid.mk' (And.intro ho hoJ)
    clear ht hn' hbl ban hX hme eo lt2 eh hhl ho hoJ
    obtain ⟨Bl, hBl⟩ : ∃ Bl, (decide ((X + j - p.length) % s = 0) && beqB (hdN m.dt s ((X + j - p.length) / s)) HH') = Bl := ⟨_, rfl⟩
    rw [hBl] at KST
    have fX : Hid (ff X = Bl) := Hid.mk' (by rw [hff.out, decide_eq_true (by omega), hBl]; rfl)
    clear hBl hff
    go_wp2_with (first | go_big_skip | go_big_want | fail)
    refine KST.out.mono ?_
    rintro eS wS ⟨rfl, hbS⟩
    have HT' := Hid.mk' (show TokS w1.heap.size wS _ _ _ from ⟨HT'.out.len, own_keep HT'.out.row hbS, HT'.out.one, fun i t u h1 h2 => (HT'.out.all i t u h1 h2).below hbS⟩)
    have P5 := Hid.mk' (P4.out.below hbS)
    have hcell : wS.cell? ⟨ga, oa + X, none⟩ = some (.int .u8 y) := (hbS.cell (p := ⟨ga, oa + X, none⟩) (by
     have := hcell
     unfold World.cell? at this
     by_cases hb : ga < wr.heap.size
     ·exact hb
     ·rw [Array.getElem?_eq_none (Nat.le_of_not_lt hb)] at this; simp at this)).trans hcell
    have BN := Hid.mk' (BN.out.below hbS)
    have HB := Hid.mk' (HB.out.trans (hbS.mono HB.out.size))
    clear KST hbS P4
    cases Bl with
    | false =>
     go_wp2_with (first | go_big_skip | go_big_want | fail)
     generalize hR : feedX HH' y = R at *
     refine (KF.out _ BN.out).mono ?_
     intro e2 w2' hx2
     obtain ⟨v1, u1, us1, rfl, t1, hA1, o1, b1⟩ := hx2.toks
     have OV := Hid.mk' (own_keep HT'.out.row b1)
     obtain ⟨a1, c1', rfl, s1⟩ := own_src t1.row
     have S1 := Hid.mk' s1
     have T1 := Hid.mk' t1
     have LN := Hid.mk' (tcs_len R.1 us1 t1.len)
     have PP1 := Hid.mk' (tcs_one R.1 us1 t1.one)
     have HA1 := Hid.mk' (hA1 _ (fun k hk => (HT'.out.row.lt k hk).2))
     have O1 := Hid.mk' o1
     have BB2 := Hid.mk' b1
     have SZ := Hid.mk' (Nat.le_trans HB.out.size b1.size)
     clear hx2 t1 hA1 o1 b1 s1 KF
     go_wp2_with (at_builtin; refine wpList_append_at _ rfl (.tmp 101) (.tmp 102) 24 rfl w1.heap.size 107 (.agg #[.int .i64 0, .int .i64 0, .string ⟨#[]⟩, .slice none 0 0, .bool false]) 5 64 Tryz.underlying24 Tryz.infoTok rfl (by decide) _ _ _ rfl OV.out _ R.1.length _ (tcs R.1 us1) rfl LN.out S1.out PP1.out (by unfold maxLen; omega) (by omega) SZ.out ?_; intro v' w3' o3 hg3 at3)
     have T3 := Hid.mk' (TokS.app HT'.out BB2.out HB.out.size HA1.out T1.out.len T1.out.one o3 hg3 at3)
     have B3' := Hid.mk' ((HB.out.trans (BB2.out.mono HB.out.size)).grown hg3 SZ.out (own_lo OV.out))
     have U3 : Hid (w3'.ownsRow w1.heap.size 5 1 u1 R.2.length (bcs R.2)) := Hid.mk' (own_down (O1.out.kept hg3 (by
      cases hu1 : u1.ownBlock with
      | none => exact .inl rfl
      | some q => exact .inr (fun e => by
        have h1 := (O1.out.lt q hu1).1
        have h2 := (HT'.out.row.lt q e.symm).2
        omega))) HB.out.size)
     have L3 : Hid ((TT ++ R.1).length ≤ 161 * (k + 1)) := Hid.mk' (by rw [List.length_append]; omega)
     clear o3 hg3 at3
     go_roundw
     case rel =>
      have ex := HX.out
      refine ⟨k + 1, us ++ us1, by omega, by rw [show Q + (k + 1) = X + 1 by omega]; go_num, by rw [ES.out, ← List.append_assoc]; exact T3.out, by rw [ES.out]; exact U3.out, by rw [ES.out]; exact L3.out, by rw [ES.out]; exact fh.out, by rw [ES.out]; exact fb.out, by rw [show Q + (k + 1) = X + 1 by omega, HME.out, meetN_no hlt fX.out], B3'.out⟩
     case measure => simp [intOf]; omega
    | true =>
     obtain ⟨ho, hoJ⟩ := HO.out
     have HMX : Hid (meetN ff T.length Q = X) := Hid.mk' (by rw [HME.out, meetN_yes hlt fX.out])
     obtain ⟨zn, hzn⟩ : ∃ zn, (tkN m.dt s ((X + j - p.length) / s)).length = zn := ⟨_, rfl⟩
     have znl : zn ≤ m.tk.length := by rw [← hzn]; exact HCT.out _ hoJ
     have HZN := Hid.mk' hzn
     have KTL : Hid (∀ V, Below wS.heap.size wS V → Calls Tryz.prog 92 #[.pointer (some ⟨g, 0, none⟩), .int .i64 ((X : Int) + (j : Int) - (p.length : Int))] V fun e w' => ∃ v us, e = .returned v ∧ TokS V.heap.size w' v (m.tk.drop zn) us ∧ Below V.heap.size V w') := Hid.mk' (fun V hV => by
      rw [EO.out]
      exact l13Tail_any g m (some ⟨bd, od, none⟩) u bt ot b9 o9 ca ct cu cc s (X + j - p.length) zn V (P5.out.below hV) hct hst hs hs2 ECL.out ho hd (by rw [ECK.out _ hoJ, ← hzn]; rfl) znl sTK)
     have KL1 : Hid (∀ V, Below w.heap.size w V → Calls Tryz.prog 51 #[.slice u m.hd.length cu] V fun e w' => ∃ v, e = .returned v ∧ w'.ownsRow V.heap.size 5 1 v m.hd.length (bcs m.hd) ∧ Below V.heap.size V w') := Hid.mk' (fun V hV => l1Copy_own u cu m.hd V (HP.out.m1.2.2.1.below hV) sHD)
     have HBW := Hid.mk' (B1.out.trans (HB.out.mono B1.out.size))
     obtain ⟨r0, r1, r2, r3, r4, r5⟩ := cells5 P5.out.r
     have gw : g < w.heap.size := HP.out.r.lt
     have lTL : (m.tk.take cn ++ TT).length + (m.tk.drop zn).length ≤ 2200000 := by rw [List.length_drop]; omega
     clear hzn
     go_wp2_with (first | go_big_skip | go_big_want | fail)
     refine wp_region_held_drew (S := (fun v => v.cell? ⟨g, 3, none⟩ = some (.slice u m.hd.length cu))) (by kernel_rfl) r3 (fun hHeld => ?_)
     refine tkY 0 ?_
     refine tkY 1 ?_
     refine tkY 2 ?_
     refine tkY 5 ?_
     refine tkY 6 ?_
     refine tkY 7 ?_
     refine tkY 8 ?_
     refine tkY 10 ?_
     refine wpAnyH_ready (rs := [3]) (by kernel_rfl) (by simp) ?_
     refine AllReadyH.cons (o := ⟨_, _, _, _, _, _⟩) rfl (fun K hK => ?_) AllReadyH.nil
     go_simp
     refine (KTL.out _ (Below.refl _ _).drew).mono ?_
     rintro e5 w5 ⟨v5, us5, rfl, t5, hb5⟩
     replace hb5 := undrew hb5
     obtain ⟨a5, c5, rfl, s5⟩ := own_src t5.row
     have OV5 := own_keep HT'.out.row hb5
     have LN5 := tcs_len (m.tk.drop zn) us5 t5.len
     have PP5 := tcs_one (m.tk.drop zn) us5 t5.one
     refine hK.out _ _ ((hb5.cell (p := ⟨g, 3, none⟩) r5).trans r3) (fun hHeld => ?_)
     clear hK K
     try simp only [Act.put, zA, zB, zC]
     refine wpAnyH_ready (rs := [4]) (by kernel_rfl) (by simp) ?_
     refine AllReadyH.cons (o := ⟨_, _, _, _, _, _⟩) rfl (fun K hK => ?_) AllReadyH.nil
     refine step_append_at rfl (.tmp 81) (.tmp 84) 24 rfl w1.heap.size 107 (.agg #[.int .i64 0, .int .i64 0, .string ⟨#[]⟩, .slice none 0 0, .bool false]) 5 64 Tryz.underlying24 Tryz.infoTok rfl (by decide) _ _ _ rfl OV5 _ (m.tk.drop zn).length _ (tcs (m.tk.drop zn) us5) rfl LN5 s5 PP5 (by unfold maxLen; omega) (by omega) (Nat.le_trans HB.out.size hb5.size) ?_
     intro v6 w6 o6 hg6 at6
     have hb6 := (HB.out.trans (hb5.mono HB.out.size)).grown hg6 (Nat.le_trans HB.out.size hb5.size) (own_lo OV5)
     have hbw6 := B1.out.trans (hb6.mono B1.out.size)
     refine hK.out _ _ ((hbw6.cell (p := ⟨g, 3, none⟩) gw).trans (HP_3 HP.out)) (fun hHeld => ?_)
     clear hK K
     try simp only [Act.put, zA, zB, zC]
     refine wpAnyH_ready (rs := [9]) (by kernel_rfl) (by simp) ?_
     refine AllReadyH.cons (o := ⟨_, _, _, _, _, _⟩) rfl (fun K hK => ?_) AllReadyH.nil
     go_simp
     refine (KL1.out _ hbw6).mono ?_
     rintro e7 w7 ⟨v7, rfl, o7, hb7⟩
     refine hK.out _ _ ((hb7.cell (p := ⟨g, 3, none⟩) (Nat.lt_of_lt_of_le gw hbw6.size)).trans ((hbw6.cell (p := ⟨g, 3, none⟩) gw).trans (HP_3 HP.out))) (fun hHeld => ?_)
     clear hK K
     try simp only [Act.put, zA, zB, zC]
     refine tkY 11 ?_
     refine tkY 12 ?_
     refine tkY 13 ?_
     refine wpAnyH_done (by kernel_rfl) ?_ _
     clear hHeld
     go_wp2
     refine bodyPost_ret (v := .tuple #[v6, v7, .int .i64 (X : Int)]) (by simp [results, Tryz.results59, go_sem]) rfl ?_
     have T6 := TokS.app HT'.out hb5 HB.out.size (fun i t u h1 h2 => (t5.all i t u h1 h2).for (fun k hk => (HT'.out.row.lt k hk).2)) t5.len t5.one o6 hg6 at6
     have T7 : TokS w1.heap.size w7 v6 (m.tk.take cn ++ TT ++ m.tk.drop zn) (us ++ us5) := ⟨T6.len, own_keep T6.row hb7, T6.one, fun i t u h1 h2 => (T6.all i t u h1 h2).below hb7⟩
     unfold GoP
     rw [HT.out, HK.out, HQ.out, HF.out, HCN.out]
     refine ⟨_, _, us ++ us5, _, _, by rw [HMX.out], ⟨T7.len, own_down T7.row B1.out.size, T7.one, fun i t u h1 h2 => (T7.all i t u h1 h2).down B1.out.size⟩, own_down o7 hbw6.size, hbw6.trans (hb7.mono hbw6.size), fun x hx => ?_⟩
     rw [HMX.out] at hx
     subst hx
     refine ⟨fun _ => ⟨?_, rfl⟩, fun h => absurd h (by omega)⟩
     unfold fedT
     rw [EH.out, HDD.out, HZN.out, show X - Q = k by have := HX.out; omega, ETT.out]
  ·have ci : ¬ ((Q + k : Nat) : Int) < (T.length : Int) := by omega
   have e : Q + k = T.length := by omega
   have F := Hid.mk' (And.intro ht (And.intro hn' hbl))
   have ME_ : Hid (meetN ff T.length Q = T.length) := Hid.mk' (by rw [hme, e, meetN_end (Nat.le_refl _)])
   have E := Hid.mk' e
   clear ht hn' l1 l2 hby hbl hme e
   go_wp2
   refine bodyPost_ret (v := .tuple #[u13, u14, .int .i64 (T.length : Int)]) (by simp [results, Tryz.results59, go_sem]) rfl ?_
   unfold GoP
   rw [HT.out, HK.out, HQ.out, HF.out, HCN.out]
   refine ⟨_, _, us, _, _, by rw [ME_.out], ⟨F.out.1.len, own_down F.out.1.row B1.out.size, F.out.1.one, fun i t u h1 h2 => (F.out.1.all i t u h1 h2).down B1.out.size⟩, own_down F.out.2.1 B1.out.size, B1.out.trans (F.out.2.2.mono B1.out.size), fun x hx => ?_⟩
   rw [ME_.out] at hx
   subst hx
   refine ⟨fun h => absurd h (Nat.lt_irrefl _), fun _ => ⟨?_, ?_⟩⟩
   ·unfold fedT
    rw [EH.out, HDD.out, show T.length - Q = k by have := E.out; omega]
   ·rw [← HA.out, E.out]
def mtV (m : ME) (A N : Int) (p : List Int) : Int := if edC m A N p = 0 then (meetN (mtF m.dt (spl m.dt A.toNat N.toNat p) m.st.toNat A.toNat N.toNat p.length) (spl m.dt A.toNat N.toNat p).length (A.toNat / m.st.toNat * m.st.toNat) : Int) else 0
theorem tkN_le (d : List Int) (s k : Nat) : (tkN d s k).length ≤ (allX [] [] d).1.length := by
 have e : allX [] [] d = allX [] [] (d.take (k * s) ++ d.drop (k * s)) := by rw [List.take_append_drop]
 rw [e, allX_append, allX_from, List.length_append]
 exact Nat.le_add_right _ _
theorem right_len {d : List Int} {s : Nat} {m : ME} (h : sameR (memX d s) m = true) : m.tk.length = (allX [] [] d).1.length := by
 unfold sameR at h
 have h1 : sameTs (memX d s).tk m.tk = true := by
  cases e : sameTs (memX d s).tk m.tk with
  | true => rfl
  | false => rw [e] at h; simp at h
 unfold sameTs at h1
 have h2 : (memX d s).tk.length = m.tk.length := by
  by_cases e : (memX d s).tk.length = m.tk.length
  ·exact e
  ·rw [decide_eq_false e] at h1; simp at h1
 exact h2.symm

end Go.Proofs.YtlimgcmhidooaaaGreatDoor
