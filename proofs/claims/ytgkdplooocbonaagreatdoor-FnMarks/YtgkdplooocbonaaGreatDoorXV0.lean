/- References read back: plain mathematics, and the walks of both sides. -/
import Derived.Test.YtgkdplooocbonaaGreatDoorXSpl
import Derived.Test.YtgkdplooocbonaaGreatDoorXQf
namespace Go.Proofs.YtgkdplooocbonaaGreatDoor
open Go.RowKit
set_option linter.unusedVariables false

/-- What is read back (with fuel: as many steps at most). -/
def dec : Nat → List UInt8 → List Int
  | 0, _ => []
  | _ + 1, [] => []
  | n + 1, c :: r => if (refOf (c :: r)).2 = 0 then (c.toNat : Int) :: dec n r else ((refOf (c :: r)).1 : Int) :: dec n ((c :: r).drop (refOf (c :: r)).2)
def decode (L : List UInt8) : List Int := dec L.length L

theorem dec_nil (n : Nat) : dec n [] = [] := by cases n <;> rfl
theorem dec_len : ∀ (n : Nat) (L : List UInt8), (dec n L).length ≤ n
  | 0, _ => Nat.le_refl _
  | n + 1, [] => Nat.zero_le _
  | n + 1, c :: r => by
    unfold dec
    split
    · have := dec_len n r; simp only [List.length_cons]; omega
    · have := dec_len n ((c :: r).drop (refOf (c :: r)).2); simp only [List.length_cons]; omega

theorem refOf_len (L : List UInt8) : (refOf L).2 ≤ L.length := by
  cases L with
  | nil => exact Nat.le_refl _
  | cons c R =>
    show (if c.toNat = 38 then (match semi R 5 with
      | some m => (match namedOf (R.take m) with
        | some b => (b, m + 2)
        | none => (0, 0))
      | none => (0, 0)) else ((0, 0) : Nat × Nat)).2 ≤ _
    split
    · split
      · rename_i m hm
        obtain ⟨_, S, hS⟩ := semi_spec R 5 m hm
        split
        · have hl := congrArg List.length hS
          simp only [List.length_append, List.length_cons, List.length_take] at hl
          simp only [List.length_cons]
          omega
        · exact Nat.zero_le _
      · exact Nat.zero_le _
    · exact Nat.zero_le _

theorem dec_raw (L : List UInt8) (k f : Nat) (h : k < L.length) (hf : L.length - k ≤ f) (hr : (refOf (L.drop k)).2 = 0) : ∃ f', L.length - (k + 1) ≤ f' ∧ dec f (L.drop k) = ((L.getD k 0).toNat : Int) :: dec f' (L.drop (k + 1)) := by
  obtain ⟨f', rfl⟩ : ∃ f', f = f' + 1 := ⟨f - 1, by omega⟩
  refine ⟨f', by omega, ?_⟩
  rw [drop_cons L k h] at hr ⊢
  rw [dec, if_pos hr]

theorem dec_ref (L : List UInt8) (k f : Nat) (h : k < L.length) (hf : L.length - k ≤ f) (hr : ¬ (refOf (L.drop k)).2 = 0) : ∃ f', L.length - (k + (refOf (L.drop k)).2) ≤ f' ∧ dec f (L.drop k) = ((refOf (L.drop k)).1 : Int) :: dec f' (L.drop (k + (refOf (L.drop k)).2)) := by
  obtain ⟨f', rfl⟩ : ∃ f', f = f' + 1 := ⟨f - 1, by omega⟩
  refine ⟨f', by omega, ?_⟩
  rw [← List.drop_drop]
  have e := drop_cons L k h
  rw [e] at hr ⊢
  rw [dec, if_neg hr]

theorem one_byte (w : World) (x : Int) (g : Nat) (hg : w.heap.size = g) : ∀ j u, (bcs [x])[j]? = some u → (w.alloc (.cells #[.int .u8 x] 5)).cell? ((⟨g, 0, none⟩ : Addr).add j) = some u := by
  subst hg
  intro j u hj
  have hlt : j < 1 := by have := (List.getElem?_eq_some_iff.1 hj).1; simpa [bcs] using this
  have : j = 0 := by omega
  subst this
  simp [bcs] at hj
  subst hj
  rw [Addr.add_mid]
  simp

/-- Bytes in a row of one's own that grows. -/
structure Grow (w : World) (v : Value) (l : List Int) (wr : World) : Prop where
  own : wr.ownsRow w.heap.size 5 1 v l.length (bcs l)
  bl : Below w.heap.size w wr
  sz : w.heap.size ≤ wr.heap.size

theorem Grow.alloc {w wr : World} {v : Value} {l : List Int} (h : Grow w v l wr) (o : Obj) : Grow w v l (wr.alloc o) :=
  ⟨h.own.alloc o, h.bl.alloc h.sz o, by have := h.sz; simp; omega⟩
theorem Grow.below {w wr w' : World} {v : Value} {l : List Int} (h : Grow w v l wr) (hb : Below wr.heap.size wr w') : Grow w v l w' :=
  ⟨own_keep h.own hb, h.bl.trans (hb.mono h.sz), Nat.le_trans h.sz hb.size⟩
theorem Grow.app {w wr w1 : World} {v v' : Value} {l : List Int} {x : Int} (h : Grow w v l wr) (ho : w1.ownsRow w.heap.size 5 1 v' (l.length + 1) (bcs l ++ bcs [x])) (hg : wr.grownBy w1 v.ownBlock) : Grow w v' (l ++ [x]) w1 :=
  ⟨by rw [List.length_append, bcs_append]; exact ho, h.bl.grown hg h.sz (own_lo h.own), Nat.le_trans h.sz hg.size⟩

theorem l1 (x : Int) : (bcs [x]).length = 1 * 1 := rfl

end Go.Proofs.YtgkdplooocbonaaGreatDoor

/- Walks: DecodeText, both sides. -/
namespace Go.Proofs.YtgkdplooocbonaaGreatDoor
open Go.RowKit
set_option linter.unusedVariables false

def decC (L : List UInt8) : Int := if 2000 < L.length then 6 else 0
def decV (L : List UInt8) : List Int := if 2000 < L.length then [] else decode L
theorem decV_len (L : List UInt8) : ((decV L).length : Int) ≤ 1048576 := by
  unfold decV
  split
  · simp
  · have := dec_len L.length L
    unfold decode
    omega

theorem kept2 (w : World) (g o1 o2 : Nat) (v1 v2 : Value) : KeptIn g (g + 1) w ((w.setCell ⟨g, o1, none⟩ v1).setCell ⟨g, o2, none⟩ v2) :=
  ((KeptIn.refl g (g + 1) w).setCell (p := ⟨g, o1, none⟩) (Nat.le_refl _) (Nat.lt_succ_self _) _).setCell (p := ⟨g, o2, none⟩) (Nat.le_refl _) (Nat.lt_succ_self _) _

def sizeS : Value → Nat
  | .string s => s.size
  | _ => 0

theorem make0 (n : Nat) (hn : n ≤ 2000) (w : World) : (Instr.makeSlice 22 (.int .i64 0) (.int .i64 (n : Int))).run Tryz.prog w = .ok (.slice (some ⟨w.heap.size, 0, none⟩) 0 n) (w.alloc (.cells (madeCells #[.int .u8 0] n) 5)) := by
  obtain ⟨i, hi, hzz⟩ := Option.map_eq_some_iff.1 Tryz.info5
  simp only [Prod.mk.injEq] at hzz
  obtain ⟨hz, hs, hb⟩ := hzz
  have hr := run_make (P := Tryz.prog) w 22 5 i _ Tryz.underlying22 hi hz .i64 .i64 0 n (by omega) (by omega) (by rw [hb]; omega) (by omega)
  simp only [Int.toNat_natCast, hs, Nat.mul_one] at hr
  exact hr

theorem Grow.made (w : World) (n : Nat) (hn : n ≤ 2000) : Grow w (.slice (some ⟨w.heap.size, 0, none⟩) 0 n) [] (w.alloc (.cells (madeCells #[.int .u8 0] n) 5)) :=
  ⟨⟨rfl, .inr ⟨w.heap.size, n, _, rfl, Nat.le_refl _, Deep.blk_alloc_new _ _, Nat.zero_le _, by unfold maxLen; omega, by rw [size_madeCells]; omega, by simp [bcs]⟩⟩, below_new w _, by simp⟩

theorem ext_tail (s : ByteArray) (L : List UInt8) (k n : Nat) (h : s.data.toList = L.drop k) : (s.extract n s.size).data.toList = L.drop (k + n) := by
  rw [tail_list, h, List.drop_drop]

set_option maxRecDepth 100000 in
set_option maxHeartbeats 2000000 in
theorem implDec_any (s : ByteArray) (w : World) (hs : s.size ≤ 1048576) (hr : Refs w) (he : Errs w) :
    Calls Tryz.prog 73 #[.string s] w fun e w' => ∃ v, e = .returned (.agg #[.int .i64 (decC s.data.toList), v]) ∧ OB w' v (decV s.data.toList) ∧ In w.heap.size w'.heap.size v ∧ Below w.heap.size w w' := by
  have hl : s.data.toList.length = s.size := len_list s
  unfold decC decV
  have N := below_new w (.cells #[.int .i64 0, .slice none 0 0] 111)
  by_cases c : 2000 < s.size
  · rw [if_pos (by omega), if_pos (by omega)]
    have ci : (2000 : Int) < (s.size : Int) := by omega
    clear N hr he
    go_enter Tryz.func73, Tryz.ntmps73
    go_wp2
    exact bodyPost_ret (v := .agg #[.int .i64 6, .slice none 0 0]) (by simp [results, Tryz.results73, go_sem, *]) rfl ⟨_, rfl, OB.none _, In.nil _ _, (Below.refl _ _).alloc (Nat.le_refl _) _⟩
  rw [if_neg (by omega), if_neg (by omega)]
  have ci : ¬ (2000 : Int) < (s.size : Int) := by omega
  have NN := Hid.mk' N
  have HR := Hid.mk' (hr.below N)
  have HE := Hid.mk' (he.below N)
  have R0 := Hid.mk' (rowp2 w 111 (.int .i64 0) (.slice none 0 0))
  obtain ⟨L, hL⟩ : ∃ L, s.data.toList = L := ⟨_, rfl⟩
  rw [hL] at hl ⊢
  obtain ⟨D, hD⟩ : ∃ D, decode L = D := ⟨_, rfl⟩
  have dl : D.length ≤ L.length := by rw [← hD]; exact dec_len _ _
  rw [hD]
  have hmk := make0 s.size (by omega)
  have ll : L.length ≤ 2000 := by omega
  clear N hr he
  obtain ⟨W, hW⟩ : ∃ W, w.alloc (.cells #[.int .i64 0, .slice none 0 0] 111) = W := ⟨_, rfl⟩
  rw [hW] at NN HR HE R0
  have ws : W.heap.size = w.heap.size + 1 := by rw [← hW]; simp
  have G0 := Hid.mk' (Grow.made W s.size (by omega))
  go_enter Tryz.func73, Tryz.ntmps73
  go_wp2
  rw [hW] at *
  go_loopw [0, 3] (fun t v wr => ∃ (k f : Nat) (out : List Int) (s' : ByteArray), k ≤ L.length ∧ L.length - k ≤ f ∧ out ++ dec f (L.drop k) = D ∧ s'.data.toList = L.drop k ∧ t = .string s' ∧ Grow W v out wr) (fun t _ _ => sizeS t)
  case atStart => exact ⟨0, L.length, [], s, Nat.zero_le _, Nat.le_refl _, hD, hL, rfl, by rw [← ws]; exact G0.out⟩
  case round =>
    obtain ⟨k, f, out, s', hk, hf, hout, hs', rfl, hG⟩ := hrel
    have sl : s'.size = L.length - k := by rw [← len_list s', hs', List.length_drop]
    by_cases hlt : k < L.length
    · have ol : out.length ≤ 2000 := by have := congrArg List.length hout; rw [List.length_append] at this; omega
      have cj : (0 : Int) < (s'.size : Int) := by omega
      have c0 : 0 < s'.size := by omega
      have K0 := refAhead_any s' wr (by omega) (HR.out.below hG.bl) (HE.out.below hG.bl)
      rw [hs'] at K0
      have K := Hid.mk' K0
      have hrl := refOf_len (L.drop k)
      have hrb := refOf_byte (L.drop k)
      rw [List.length_drop] at hrl
      have hg0 := get_list hs' 0 c0
      rw [getD_drop, Nat.add_zero] at hg0
      have GG := Hid.mk' hG
      have ET := Hid.mk' (ext_tail s' L k 1 hs')
      clear K0
      by_cases hr : (refOf (L.drop k)).2 = 0
      · obtain ⟨f', hf', hstep⟩ := dec_raw L k f hlt hf hr
        have HO := Hid.mk' hout
        have HS := Hid.mk' hstep
        rw [hr] at K
        obtain ⟨c, hc⟩ : ∃ c : Nat, (L.getD k 0).toNat = c := ⟨_, rfl⟩
        rw [hc] at hg0 HS
        generalize (refOf (L.drop k)).1 = rb at *
        clear hout hstep hG hr hrl hL hc hs'
        go_wp2_with fail
        refine K.out.mono ?_
        rintro e w1 ⟨rfl, hb1⟩
        have G1 := Hid.mk' (GG.out.below hb1)
        have G2 := Hid.mk' (G1.out.alloc (.cells #[.int .u8 (c : Int)] 5))
        clear K hb1
        have sx : 1 ≤ s'.size := by omega
        go_wp2_with (at_builtin; refine wpList_append_at _ rfl (.tmp 25) (.tmp 27) 22 rfl W.heap.size 5 (.int .u8 0) 1 1 Tryz.underlying22 Tryz.info5 rfl (by decide) _ _ _ rfl G2.out.own _ 1 _ (bcs [(c : Int)]) rfl (l1 _) (.inr ⟨_, rfl, one_byte w1 _ _ rfl⟩) (bcs_one _) (by unfold maxLen; omega) (by omega) G2.out.sz ?_; intro v' w2 ho hgr hat; have G3 := Hid.mk' (G2.out.app ho hgr); clear ho hgr hat)
        go_roundw
        case rel => exact ⟨k + 1, f', out ++ [(c : Int)], _, by omega, hf', by rw [List.append_assoc, List.singleton_append, ← HS.out]; exact HO.out, ET.out, (by rw [show s.size - k = s'.size from by omega]), G3.out⟩
        case measure => simp [sizeS]; omega
      · obtain ⟨f', hf', hstep⟩ := dec_ref L k f hlt hf hr
        have HO := Hid.mk' hout
        have HS := Hid.mk' hstep
        have hz : (((refOf (L.drop k)).2 : Int) == 0) = false := by rw [beq_eq_false_iff_ne]; omega
        have EN := Hid.mk' (ext_tail s' L k (refOf (L.drop k)).2 hs')
        generalize (refOf (L.drop k)).1 = rb at *
        generalize (refOf (L.drop k)).2 = rn at *
        clear hout hstep hG hL hg0 hs' ET
        go_wp2_with fail
        refine K.out.mono ?_
        rintro e w1 ⟨rfl, hb1⟩
        have G1 := Hid.mk' (GG.out.below hb1)
        have G2 := Hid.mk' (G1.out.alloc (.cells #[.int .u8 (rb : Int)] 5))
        clear K hb1
        have sx : rn ≤ s'.size := by omega
        go_wp2_with (at_builtin; refine wpList_append_at _ rfl (.tmp 25) (.tmp 27) 22 rfl W.heap.size 5 (.int .u8 0) 1 1 Tryz.underlying22 Tryz.info5 rfl (by decide) _ _ _ rfl G2.out.own _ 1 _ (bcs [(rb : Int)]) rfl (l1 _) (.inr ⟨_, rfl, one_byte w1 _ _ rfl⟩) (bcs_one _) (by unfold maxLen; omega) (by omega) G2.out.sz ?_; intro v' w2 ho hgr hat; have G3 := Hid.mk' (G2.out.app ho hgr); clear ho hgr hat)
        go_roundw
        case rel => exact ⟨k + rn, f', out ++ [(rb : Int)], _, by omega, hf', by rw [List.append_assoc, List.singleton_append, ← HS.out]; exact HO.out, EN.out, (by rw [show s.size - k = s'.size from by omega]), G3.out⟩
        case measure => simp [sizeS]; omega
    · have e : k = L.length := by omega
      subst e
      rw [List.drop_length, dec_nil, List.append_nil] at hout
      subst hout
      have cj : ¬ (0 : Int) < (s'.size : Int) := by omega
      have R1 := rowB R0.out hG.bl
      obtain ⟨z0, z1, z2⟩ := cells2 R1
      have f0 := R1.frozen 0
      have f1 := R1.frozen 1
      obtain ⟨a, d, rfl, _⟩ := (OB.of_own hG.own).1.len
      have O := Hid.mk' (OB.of_own hG.own)
      have B := Hid.mk' (NN.out.trans (hG.bl.mono (by omega)))
      have y := hG.bl.size
      clear hG R1
      go_wp2
      refine bodyPost_ret (v := .agg #[.int .i64 0, .slice a out.length d]) (by simp [results, Tryz.results73, go_sem, *]) rfl ?_
      have hk := kept2 wr w.heap.size 0 1 (.int .i64 0) (.slice a out.length d)
      have I : In (w.heap.size + 1) wr.heap.size (.slice a out.length d) := fun k e => ⟨by have := O.out.2 k e; omega, O.out.1.lt k e⟩
      exact ⟨_, rfl, O.out.1.kept I hk (.inr (by omega)), I.mono (by omega) hk.size, B.out.trans (hk.below (Nat.le_refl _) (by omega))⟩

end Go.Proofs.YtgkdplooocbonaaGreatDoor
