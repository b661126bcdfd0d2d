/- Walks: lists of tokens copied, and told to be the same. -/
import Derived.Test.YtbdjppiagjhfmaaTn
namespace Go.Proofs.Ytbdjppiagjhfmaa
open Go.RowKit
set_option linter.unusedVariables false
set_option linter.unusedSimpArgs false

theorem Try.info140 : (Try.prog.info? 140).map (fun i => (i.zero, i.size, i.bytes)) = some (some (.agg #[.int .i64 0, .int .i64 0, .string ⟨#[]⟩, .slice none 0 0, .bool false]), 5, 64) := by kernel_rfl

theorem make_tokens {P : Program} (t e : TypeId) (ht : P.underlying t = some (.slice e)) (hinfo : (P.info? e).map (fun i => (i.zero, i.size, i.bytes)) = some (some (.agg #[.int .i64 0, .int .i64 0, .string ⟨#[]⟩, .slice none 0 0, .bool false]), 5, 64))
    (n : Nat) (hn : (n : Int) ≤ 1048576) (w : World) :
    (Instr.makeSlice t (.int .i64 (n : Int)) (.int .i64 (n : Int))).run P w = .ok (.slice (some ⟨w.heap.size, 0, none⟩) n n) (w.alloc (.cells (madeCells #[.int .i64 0, .int .i64 0, .string ⟨#[]⟩, .slice none 0 0, .bool false] (n * 5)) e)) := by
  obtain ⟨i, hi, hzz⟩ := Option.map_eq_some_iff.1 hinfo
  simp only [Prod.mk.injEq] at hzz
  obtain ⟨hz, hs, hb⟩ := hzz
  have hr := run_make (P := P) w t e i _ ht hi hz .i64 .i64 n n (by omega) (Int.le_refl _) (by rw [hb]; omega) (by omega)
  simp only [Int.toNat_natCast, hs] at hr
  exact hr

theorem AO.kept {g lo hi : Nat} {l : List AT} {w w1 : World} (h : AO g l w) (hk : KeptIn lo hi w w1) (hg : hi ≤ g) : AO g l w1 := by
  obtain ⟨f, hf, hj⟩ := h
  refine ⟨f, rowK hf hk (.inr hg), fun j hjl => ?_⟩
  obtain ⟨h1, b, h2, h3, h4⟩ := hj j hjl
  exact ⟨h1, b, h2, h3, rowK h4 hk (.inr (by omega))⟩

/-- Tokens being copied into a row of one's own: k of them are there. -/
structure TR (w : World) (l : List TK) (k : Nat) (wr : World) : Prop where
  bl : Below w.heap.size w wr
  row : ∃ f, wr.rowIs w.heap.size 140 (l.length * 5) f ∧ ∀ j, j < k → f (j * 5) = .int .i64 (tkK l j).kd ∧ f (j * 5 + 1) = .int .i64 (tkK l j).by_ ∧ f (j * 5 + 2) = .string (tkK l j).nm ∧ (∃ g, f (j * 5 + 3) = .slice (some ⟨g, 0, none⟩) (tkK l j).at_.length (tkK l j).at_.length ∧ w.heap.size < g ∧ AO g (tkK l j).at_ wr) ∧ f (j * 5 + 4) = .bool (tkK l j).sh

theorem TR.start (w : World) (l : List TK) : TR w l 0 (w.alloc (.cells (madeCells #[.int .i64 0, .int .i64 0, .string ⟨#[]⟩, .slice none 0 0, .bool false] (l.length * 5)) 140)) := by
  refine ⟨(Below.refl _ _).alloc (Nat.le_refl _) _, fun i => r5 (.int .i64 0) (.int .i64 0) (.string ⟨#[]⟩) (.slice none 0 0) (.bool false) (i % 5), ?_, fun j hj => absurd hj (Nat.not_lt_zero _)⟩
  refine ⟨_, Deep.blk_alloc_new _ _, size_madeCells _ _, fun i hi => ?_⟩
  have h : i % 5 = 0 ∨ i % 5 = 1 ∨ i % 5 = 2 ∨ i % 5 = 3 ∨ i % 5 = 4 := by omega
  rcases h with h | h | h | h | h <;> simp [madeCells, hi, h, r5]

theorem TR.below {w wr w1 : World} {l : List TK} {k : Nat} (h : TR w l k wr) (hb : Below wr.heap.size wr w1) : TR w l k w1 := by
  obtain ⟨f, hf, hj⟩ := h.row
  refine ⟨h.bl.trans (hb.mono h.bl.size), f, rowB hf hb, fun j hk => ?_⟩
  obtain ⟨h1, h2, h3, ⟨g, h4, h5, h6⟩, h7⟩ := hj j hk
  exact ⟨h1, h2, h3, ⟨g, h4, h5, h6.below hb⟩, h7⟩

theorem TR.step {w wr : World} {l : List TK} {k g : Nat} (h : TR w l k wr) (hg : w.heap.size < g) (hao : AO g (tkK l k).at_ wr) :
    TR w l (k + 1) (((((wr.setCell ⟨w.heap.size, k * 5, none⟩ (.int .i64 (tkK l k).kd)).setCell ⟨w.heap.size, k * 5 + 1, none⟩ (.int .i64 (tkK l k).by_)).setCell ⟨w.heap.size, k * 5 + 2, none⟩ (.string (tkK l k).nm)).setCell ⟨w.heap.size, k * 5 + 3, none⟩ (.slice (some ⟨g, 0, none⟩) (tkK l k).at_.length (tkK l k).at_.length)).setCell ⟨w.heap.size, k * 5 + 4, none⟩ (.bool (tkK l k).sh)) := by
  obtain ⟨f, hf, hj⟩ := h.row
  have K := (((((KeptIn.refl w.heap.size (w.heap.size + 1) wr).setCell (p := ⟨w.heap.size, k * 5, none⟩) (Nat.le_refl _) (Nat.lt_succ_self _) (.int .i64 (tkK l k).kd)).setCell (p := ⟨w.heap.size, k * 5 + 1, none⟩) (Nat.le_refl _) (Nat.lt_succ_self _) (.int .i64 (tkK l k).by_)).setCell (p := ⟨w.heap.size, k * 5 + 2, none⟩) (Nat.le_refl _) (Nat.lt_succ_self _) (.string (tkK l k).nm)).setCell (p := ⟨w.heap.size, k * 5 + 3, none⟩) (Nat.le_refl _) (Nat.lt_succ_self _) (.slice (some ⟨g, 0, none⟩) (tkK l k).at_.length (tkK l k).at_.length)).setCell (p := ⟨w.heap.size, k * 5 + 4, none⟩) (Nat.le_refl _) (Nat.lt_succ_self _) (.bool (tkK l k).sh)
  refine ⟨h.bl.trans (K.below (Nat.le_refl _) h.bl.size), _, ((((hf.set (k * 5) _).set (k * 5 + 1) _).set (k * 5 + 2) _).set (k * 5 + 3) _).set (k * 5 + 4) _, fun j hk => ?_⟩
  by_cases e : j = k
  · subst e
    refine ⟨?_, ?_, ?_, ⟨g, ?_, hg, hao.kept K hg⟩, ?_⟩
    · rw [if_neg (by omega), if_neg (by omega), if_neg (by omega), if_neg (by omega), if_pos rfl]
    · rw [if_neg (by omega), if_neg (by omega), if_neg (by omega), if_pos rfl]
    · rw [if_neg (by omega), if_neg (by omega), if_pos rfl]
    · rw [if_neg (by omega), if_pos rfl]
    · rw [if_pos rfl]
  · obtain ⟨h1, h2, h3, ⟨g', h4, h5, h6⟩, h7⟩ := hj j (by omega)
    refine ⟨?_, ?_, ?_, ⟨g', ?_, h5, h6.kept K h5⟩, ?_⟩
    · rw [if_neg (by omega), if_neg (by omega), if_neg (by omega), if_neg (by omega), if_neg (by omega)]; exact h1
    · rw [if_neg (by omega), if_neg (by omega), if_neg (by omega), if_neg (by omega), if_neg (by omega)]; exact h2
    · rw [if_neg (by omega), if_neg (by omega), if_neg (by omega), if_neg (by omega), if_neg (by omega)]; exact h3
    · rw [if_neg (by omega), if_neg (by omega), if_neg (by omega), if_neg (by omega), if_neg (by omega)]; exact h4
    · rw [if_neg (by omega), if_neg (by omega), if_neg (by omega), if_neg (by omega), if_neg (by omega)]; exact h7

theorem TR.at {w wr : World} {l : List TK} (h : TR w l l.length wr) : TsAt wr (some ⟨w.heap.size, 0, none⟩) l := by
  obtain ⟨f, hf, hj⟩ := h.row
  refine .inr ⟨_, _, rfl, hf.lt, fun k hk => ?_⟩
  obtain ⟨h1, h2, h3, ⟨g, h4, h5, h6⟩, h7⟩ := hj k hk
  have c := fun i (hi : i < 5) => hf.cell (show k * 5 + i < l.length * 5 by omega)
  refine ⟨by rw [Nat.zero_add]; exact (c 0 (by omega)).trans (by rw [Nat.add_zero, h1]), by rw [Nat.zero_add, c 1 (by omega), h2], by rw [Nat.zero_add, c 2 (by omega), h3], ⟨_, _, by rw [Nat.zero_add, c 3 (by omega), h4], h6.at⟩, by rw [Nat.zero_add, c 4 (by omega), h7]⟩

set_option maxHeartbeats 1600000 in
theorem toTokenS_any (a : Option Addr) (c : Nat) (l : List TK) (w : World) (ha : TsAt w a l) (hl : (l.length : Int) + tssz l ≤ 1048576) :
    Calls Try.prog 78 #[.slice a l.length c] w fun e w' => e = .returned (.slice (some ⟨w.heap.size, 0, none⟩) l.length l.length) ∧ TR w l l.length w' := by
  have hmk := make_tokens (P := Try.prog) 65 140 Try.underlying65 Try.info140 l.length (by omega)
  have HA := Hid.mk' ha
  clear ha
  go_enter Try.func78, Try.ntmps78
  go_wp2
  go_loopw [4] (fun i wr => ∃ k : Nat, k ≤ l.length ∧ i = .int .i64 k ∧ TR w l k wr) (fun i _ => l.length - (intOf i).toNat)
  case atStart => exact ⟨0, Nat.zero_le _, rfl, TR.start w l⟩
  case round =>
    obtain ⟨k, hk, rfl, hr⟩ := hrel
    have HR := Hid.mk' hr
    clear hr hmk
    by_cases hlt : k < l.length
    · have ci : (k : Int) < (l.length : Int) := by omega
      rcases HA.out with ha | ⟨b, o, rfl, hbs, hc⟩
      · exact absurd hlt (by rw [ha]; exact Nat.not_lt_zero _)
      obtain ⟨q1, q2, q3, ⟨p, d, q4, q5⟩, q6⟩ := hc k hlt
      have h1 := (HR.out.bl.cell hbs).trans q1
      have h2 := (HR.out.bl.cell hbs).trans q2
      have h3 := (HR.out.bl.cell hbs).trans q3
      have h4 := (HR.out.bl.cell hbs).trans q4
      have h6 := (HR.out.bl.cell hbs).trans q6
      have st := tssz_take l k hlt
      have sl := tssz_le l (k + 1)
      unfold tsz at st
      have KA := Hid.mk' (toToken_any (tkK l k) p d wr (q5.below HR.out.bl) (by omega))
      clear q1 q2 q3 q4 q5 q6 hc st sl
      go_wp2_with fail
      refine KA.out.mono ?_
      rintro e w1 ⟨g, rfl, hg, hao, hbl⟩
      have hr1 := HR.out.below hbl
      obtain ⟨f, hf, _⟩ := hr1.row
      have f0 := hf.frozen (k * 5)
      have f1 := hf.frozen (k * 5 + 1)
      have f2 := hf.frozen (k * 5 + 2)
      have f3 := hf.frozen (k * 5 + 3)
      have f4 := hf.frozen (k * 5 + 4)
      obtain ⟨v0, g0⟩ : ∃ v, w1.cell? ⟨w.heap.size, k * 5, none⟩ = some v := ⟨_, hf.cell (by omega)⟩
      obtain ⟨v1, g1⟩ : ∃ v, w1.cell? ⟨w.heap.size, k * 5 + 1, none⟩ = some v := ⟨_, hf.cell (by omega)⟩
      obtain ⟨v2, g2⟩ : ∃ v, w1.cell? ⟨w.heap.size, k * 5 + 2, none⟩ = some v := ⟨_, hf.cell (by omega)⟩
      obtain ⟨v3, g3⟩ : ∃ v, w1.cell? ⟨w.heap.size, k * 5 + 3, none⟩ = some v := ⟨_, hf.cell (by omega)⟩
      obtain ⟨v4, g4⟩ : ∃ v, w1.cell? ⟨w.heap.size, k * 5 + 4, none⟩ = some v := ⟨_, hf.cell (by omega)⟩
      have hgl : w.heap.size < g := by obtain ⟨f', hf', _⟩ := HR.out.row; have := hf'.lt; omega
      have R1 := Hid.mk' (hr1.step hgl hao)
      clear hr1 hf hao hbl KA h1 h2 h3 h4 h6 hg
      go_wp2
      go_roundw
      case rel => exact ⟨k + 1, by omega, by go_num, R1.out⟩
      case measure => simp [intOf]; omega
    · have ci : ¬ (k : Int) < (l.length : Int) := by omega
      have e : k = l.length := by omega
      subst e
      go_wp2
      go_ret
      exact ⟨rfl, HR.out⟩

end Go.Proofs.Ytbdjppiagjhfmaa
