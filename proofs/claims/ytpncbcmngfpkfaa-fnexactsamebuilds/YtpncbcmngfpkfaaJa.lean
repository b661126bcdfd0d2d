/- States of a builder in memory: measured, copied, told to be the same. -/
import Derived.Test.YtpncbcmngfpkfaaGc
import Derived.Test.YtpncbcmngfpkfaaGt
import Derived.Test.YtpncbcmngfpkfaaGu
namespace Go.Proofs.Ytpncbcmngfpkfaa
open Go.RowKit
set_option linter.unusedVariables false
set_option linter.unusedSimpArgs false

/-- A state: nodes, what is open, whether it is too large. -/
structure BS where
  nd : List ND
  op : List Int
  lg : Bool

/-- Nodes of one's own at g, just as they are; hi: behind all their rows. -/
def NX (g hi : Nat) (l : List ND) (w : World) : Prop := ∃ (f : Nat → Value) (s : Nat → Nat), w.rowIs g 60 (l.length * 4) f ∧ g < s 0 ∧ s l.length = hi ∧ hi ≤ w.heap.size ∧ (∀ j, j < l.length → s j ≤ s (j + 1)) ∧ ∀ j, j < l.length → NO (s j) (s (j + 1)) (ndK l j) f j w

theorem NR.nx {w wr : World} {l : List ND} (h : NR w l l.length wr) : ∃ hi, NX w.heap.size hi l wr := by
  obtain ⟨f, s, hf, h0, h1, h2, hj⟩ := h.row
  exact ⟨s l.length, f, s, hf, h0, rfl, h1, h2, hj⟩

theorem NX.nm {g hi : Nat} {l : List ND} {w : World} (h : NX g hi l w) : NM g hi l w := by
  obtain ⟨f, s, hf, h0, h1, h2, h3, hj⟩ := h
  refine ⟨f, s, hf, h0, h1, h2, h3, fun j hl => ?_⟩
  obtain ⟨e1, e2, g', b, e3, e4, h5, h6, h7, h8⟩ := hj j hl
  exact ⟨⟨_, e1⟩, ⟨_, e2⟩, g', b, e3, e4, h5, h6, h7.mr, _, h8⟩

theorem NX.at {g hi : Nat} {l : List ND} {w : World} (h : NX g hi l w) : NsAt w (some ⟨g, 0, none⟩) l := by
  obtain ⟨f, s, hf, h0, h1, h2, h3, hj⟩ := h
  refine .inr ⟨_, _, rfl, hf.lt, fun k hk => ?_⟩
  obtain ⟨e1, e2, g', b, e3, e4, h5, h6, h7, h8⟩ := hj k hk
  have c := fun i (hi : i < 4) => hf.cell (show k * 4 + i < l.length * 4 by omega)
  refine ⟨by rw [Nat.zero_add]; exact (c 0 (by omega)).trans (by rw [Nat.add_zero, e1]), by rw [Nat.zero_add, c 1 (by omega), e2], ⟨_, _, by rw [Nat.zero_add, c 2 (by omega), e3], Nat.le_refl _, h7.ao.at⟩, ⟨_, _, by rw [Nat.zero_add, c 3 (by omega), e4], .of_row h8⟩⟩

theorem NX.lt {g hi : Nat} {l : List ND} {w : World} (h : NX g hi l w) : g < hi ∧ hi ≤ w.heap.size := by
  obtain ⟨f, s, hf, h0, h1, h2, h3, hj⟩ := h
  have := mono_s2 h3 (i := 0) l.length (by omega) (Nat.le_refl _)
  exact ⟨by omega, h2⟩

theorem NX.keep {g hi : Nat} {l : List ND} {w w' : World} (h : NX g hi l w) (hs : w.heap.size ≤ w'.heap.size) (hk : ∀ k, g ≤ k → k < hi → k < w.heap.size → w'.heap[k]? = w.heap[k]?) : NX g hi l w' := by
  obtain ⟨f, s, hf, h0, h1, h2, h3, hj⟩ := h
  have m0 := mono_s2 h3 (i := 0) l.length (by omega) (Nat.le_refl _)
  refine ⟨f, s, hf.of_block (hk g (Nat.le_refl _) (by omega) hf.lt), h0, h1, Nat.le_trans h2 hs, h3, fun j hl => (hj j hl).keep (fun _ _ => rfl) (fun i a c d => ?_)⟩
  have m1 := mono_s2 h3 (i := 0) j (by omega) (by omega)
  have m2 := mono_s2 h3 (i := j + 1) l.length (by omega) (Nat.le_refl _)
  exact hk i (by omega) (by omega) d

theorem NX.below {g hi : Nat} {l : List ND} {w w' : World} (h : NX g hi l w) (hb : Below w.heap.size w w') : NX g hi l w' := h.keep hb.size (fun q _ _ hq => hb.block q hq)

theorem NX.kept {g hi lo' hi' : Nat} {l : List ND} {w w' : World} (h : NX g hi l w) (hk : KeptIn lo' hi' w w') (hd : hi ≤ lo' ∨ hi' ≤ g) : NX g hi l w' := h.keep hk.size (fun q a c d => hk.block q d (by omega))

/-- The i-th of numbers, as a value. -/
def iv (l : List Int) (i : Nat) : Value := .int .i64 (wv l i)

theorem IAt.of_row {w : World} {b : Nat} {l : List Int} (h : w.rowIs b 2 l.length (iv l)) : IAt w (some ⟨b, 0, none⟩) l :=
  .inr ⟨b, 0, rfl, h.lt, fun k hk => by rw [Nat.zero_add]; exact h.cell hk⟩

theorem szInt64S_any (a : Option Addr) (n c : Nat) (l : Int) (w : World) (h0 : 0 ≤ l) (h1 : l ≤ 1048576) (hn : (n : Int) ≤ 9223372036854775807) :
    Calls Try.prog 13 #[.slice a n c, .int .i64 l] w fun e w' => e = .returned (.int .i64 (if l < n then -1 else l - n)) ∧ w' = w := by
  go_enter Try.func13, Try.ntmps13
  go_wp2
  all_goals go_ret
  all_goals exact ⟨rfl, rfl⟩

set_option maxHeartbeats 800000 in
theorem toInt64S_any (a : Option Addr) (c : Nat) (l : List Int) (w : World) (ha : IAt w a l) (hl : (l.length : Int) ≤ 1048576) :
    Calls Try.prog 16 #[.slice a l.length c] w fun e w' => ∃ b, e = .returned (.slice (some ⟨b, 0, none⟩) l.length l.length) ∧ w.heap.size ≤ b ∧ w'.rowIs b 2 l.length (iv l) ∧ Below w.heap.size w w' := by
  have hmk := run_make_row' (P := Try.prog) 23 2 (.int .i64 0) 8 Try.underlying23 Try.info2 rfl .i64 .i64 l.length (by omega) (by omega)
  go_enter Try.func16, Try.ntmps16
  go_wp2
  go_loopw [4] (fun i wr => ∃ k : Nat, k ≤ l.length ∧ i = .int .i64 k ∧ wr.rowIs w.heap.size 2 l.length (fun j => if j < k then iv l j else .int .i64 0) ∧ Below w.heap.size w wr) (fun i _ => l.length - (intOf i).toNat)
  case atStart => exact ⟨0, Nat.zero_le _, rfl, (World.rowIs_made w (.int .i64 0) _ 2).congr (fun j _ => by simp), (Below.refl _ _).alloc (Nat.le_refl _) _⟩
  case round =>
    obtain ⟨k, hk, rfl, hrow, hbl⟩ := hrel
    by_cases hlt : k < l.length
    · have ci : (k : Int) < (l.length : Int) := by omega
      rcases ha with ha | ⟨b, o, rfl, hbs, hc⟩
      · exact absurd hlt (by rw [ha]; exact Nat.not_lt_zero _)
      have h1 := (hbl.cell hbs).trans (hc k hlt)
      obtain ⟨v0, h2⟩ : ∃ v, wr.cell? ⟨w.heap.size, k, none⟩ = some v := ⟨_, hrow.cell hlt⟩
      have h3 := hrow.frozen k
      have R1 := Hid.mk' ((hrow.set k (.int .i64 (wv l k))).congr (g := fun j => if j < k + 1 then iv l j else .int .i64 0) (fun j _ => by
        by_cases e : j = k
        · subst e; simp [iv]
        · by_cases h : j < k
          · simp [e, h, show j < k + 1 by omega]
          · simp [e, h, show ¬ j < k + 1 by omega]))
      have R2 := Hid.mk' (hbl.setCell (p := ⟨w.heap.size, k, none⟩) (Nat.le_refl _) (.int .i64 (wv l k)))
      clear hrow hbl hmk hc
      go_wp2
      go_roundw
      case rel => exact ⟨k + 1, by omega, by go_num, R1.out, R2.out⟩
      case measure => simp [intOf]; omega
    · have ci : ¬ (k : Int) < (l.length : Int) := by omega
      have e : k = l.length := by omega
      subst e
      have R1 := Hid.mk' (hrow.congr (g := iv l) (fun j hj => by rw [if_pos hj]))
      have R2 := Hid.mk' hbl
      clear hrow hbl hmk
      go_wp2
      go_ret
      exact ⟨_, rfl, Nat.le_refl _, R1.out, R2.out⟩

set_option maxHeartbeats 1600000 in
theorem szBuild_any (t : BS) (a b : Option Addr) (c d : Nat) (z : Int) (w : World) (ha : NsAt w a t.nd) (hw : WideN t.nd) (hn : (t.nd.length : Int) ≤ 9223372036854775807) (ho : (t.op.length : Int) ≤ 9223372036854775807) (h0 : 0 ≤ z) (h1 : z ≤ 1048576) :
    Calls Try.prog 5 #[.agg #[.slice a t.nd.length c, .slice b t.op.length d, .bool t.lg], .int .i64 z] w fun e w' => e = .returned (.int .i64 (if z < (t.nd.length : Int) + nssz t.nd + t.op.length then -1 else z - t.nd.length - nssz t.nd - t.op.length)) ∧ Below w.heap.size w w' := by
  have N0 := below_new w (.cells #[.slice a t.nd.length c, .slice b t.op.length d, .bool t.lg] 25)
  have KA := Hid.mk' (szNodeS_any a c t.nd z _ (ha.below N0) hw h0 h1 hn)
  have HP := Hid.mk' (row3 w 25 (.slice a t.nd.length c) (.slice b t.op.length d) (.bool t.lg))
  have HB := Hid.mk' N0
  clear N0 ha hw
  by_cases g2 : z < (t.nd.length : Int) + nssz t.nd
  · rw [if_pos g2] at KA
    rw [if_pos (by omega)]
    go_enter Try.func5, Try.ntmps5
    go_wp2_with fail
    refine KA.out.mono ?_
    rintro e w1 ⟨rfl, hb⟩
    have HB := Hid.mk' (HB.out.trans (hb.mono HB.out.size))
    clear hb KA
    go_wp2
    go_ret
    exact ⟨rfl, HB.out⟩
  · rw [if_neg g2] at KA
    have gy : ¬ (z - (t.nd.length : Int) - nssz t.nd < 0) := by omega
    by_cases g3 : z - (t.nd.length : Int) - nssz t.nd < (t.op.length : Int)
    · rw [if_pos (by omega)]
      go_enter Try.func5, Try.ntmps5
      go_wp2_with fail
      refine KA.out.mono ?_
      rintro e w1 ⟨rfl, hb⟩
      have R1 := rowB HP.out hb
      have c0 : w1.cell? ⟨w.heap.size, 0, none⟩ = some (.slice a t.nd.length c) := R1.cell (by omega)
      have c1 : w1.cell? ⟨w.heap.size, 1, none⟩ = some (.slice b t.op.length d) := R1.cell (by omega)
      have HB := Hid.mk' (HB.out.trans (hb.mono HB.out.size))
      clear hb KA R1
      go_wp2_with (go_at_call 13; refine (szInt64S_any _ _ _ _ _ (by omega) (by omega) (by omega)).mono ?_; rintro e w' ⟨rfl, rfl⟩)
      go_ret
      exact ⟨rfl, HB.out⟩
    · rw [if_neg (by omega)]
      go_enter Try.func5, Try.ntmps5
      go_wp2_with fail
      refine KA.out.mono ?_
      rintro e w1 ⟨rfl, hb⟩
      have R1 := rowB HP.out hb
      have c0 : w1.cell? ⟨w.heap.size, 0, none⟩ = some (.slice a t.nd.length c) := R1.cell (by omega)
      have c1 : w1.cell? ⟨w.heap.size, 1, none⟩ = some (.slice b t.op.length d) := R1.cell (by omega)
      have HB := Hid.mk' (HB.out.trans (hb.mono HB.out.size))
      clear hb KA R1
      go_wp2_with (go_at_call 13; refine (szInt64S_any _ _ _ _ _ (by omega) (by omega) (by omega)).mono ?_; rintro e w' ⟨rfl, rfl⟩)
      go_ret
      exact ⟨by first | rfl | (congr 2; omega), HB.out⟩

set_option maxHeartbeats 3200000 in
theorem toBuild_any (t : BS) (a b : Option Addr) (c d : Nat) (w : World) (ha : NsAt w a t.nd) (hb : IAt w b t.op) (hl : (t.nd.length : Int) + nssz t.nd + t.op.length ≤ 1048576) :
    Calls Try.prog 7 #[.agg #[.slice a t.nd.length c, .slice b t.op.length d, .bool t.lg]] w fun e w' => ∃ gn hi go, e = .returned (.agg #[.slice (some ⟨gn, 0, none⟩) t.nd.length t.nd.length, .slice (some ⟨go, 0, none⟩) t.op.length t.op.length, .bool t.lg]) ∧ w.heap.size ≤ gn ∧ NX gn hi t.nd w' ∧ hi ≤ go ∧ w'.rowIs go 2 t.op.length (iv t.op) ∧ Below w.heap.size w w' := by
  have B0 := ((Below.refl w.heap.size w).alloc (Nat.le_refl _) (.cells #[.slice a t.nd.length c, .slice b t.op.length d, .bool t.lg] 25)).alloc (by simp) (.cells #[.slice none 0 0, .slice none 0 0, .bool false] 30)
  have B1 := B0.alloc (by simp; omega) (.cells #[.slice none 0 0, .slice none 0 0, .bool false] 30)
  have RP := ((row3 w 25 (.slice a t.nd.length c) (.slice b t.op.length d) (.bool t.lg)).alloc (.cells #[.slice none 0 0, .slice none 0 0, .bool false] 30)).alloc (.cells #[.slice none 0 0, .slice none 0 0, .bool false] 30)
  have RR := (row3 (w.alloc (.cells #[.slice a t.nd.length c, .slice b t.op.length d, .bool t.lg] 25)) 30 (.slice none 0 0) (.slice none 0 0) (.bool false)).alloc (.cells #[.slice none 0 0, .slice none 0 0, .bool false] 30)
  have RO := row3 ((w.alloc (.cells #[.slice a t.nd.length c, .slice b t.op.length d, .bool t.lg] 25)).alloc (.cells #[.slice none 0 0, .slice none 0 0, .bool false] 30)) 30 (.slice none 0 0) (.slice none 0 0) (.bool false)
  have KB := Hid.mk' (toNodeS_any a c t.nd _ (ha.below B1) (by omega))
  have HB := Hid.mk' B1
  have HT := Hid.mk' hb
  have z1 : (w.alloc (.cells #[.slice a t.nd.length c, .slice b t.op.length d, .bool t.lg] 25)).heap.size = w.heap.size + 1 := by simp
  have z2 : ((w.alloc (.cells #[.slice a t.nd.length c, .slice b t.op.length d, .bool t.lg] 25)).alloc (.cells #[.slice none 0 0, .slice none 0 0, .bool false] 30)).heap.size = w.heap.size + 1 + 1 := by simp
  have z3 : (((w.alloc (.cells #[.slice a t.nd.length c, .slice b t.op.length d, .bool t.lg] 25)).alloc (.cells #[.slice none 0 0, .slice none 0 0, .bool false] 30)).alloc (.cells #[.slice none 0 0, .slice none 0 0, .bool false] 30)).heap.size = w.heap.size + 1 + 1 + 1 := by simp
  rw [z1] at RR
  rw [z2] at RO
  have HR := Hid.mk' RR
  have HO := Hid.mk' RO
  have HP := Hid.mk' RP
  have Z3 := Hid.mk' z3
  clear ha hb B0 B1 RR RO RP z1 z2 z3
  generalize hW : ((w.alloc (.cells #[.slice a t.nd.length c, .slice b t.op.length d, .bool t.lg] 25)).alloc (.cells #[.slice none 0 0, .slice none 0 0, .bool false] 30)).alloc (.cells #[.slice none 0 0, .slice none 0 0, .bool false] 30) = W at *
  have p0 : W.cell? ⟨w.heap.size, 0, none⟩ = some (.slice a t.nd.length c) := HP.out.cell (by omega)
  go_enter Try.func7, Try.ntmps7
  go_wp2_with fail
  clear hW p0
  refine KB.out.mono ?_
  rintro e w1 ⟨rfl, har⟩
  have hbl := har.bl
  obtain ⟨hi, hnx⟩ := har.nx
  have Hp := rowB HP.out hbl
  have Ho := rowB HO.out hbl
  have Hr := rowB HR.out hbl
  have hz := Z3.out
  have hs1 := hbl.size
  have K1 := (KeptIn.refl (w.heap.size + 1 + 1) (w.heap.size + 1 + 1 + 1) w1).setCell (p := ⟨w.heap.size + 1 + 1, 0, none⟩) (by simp) (by simp) (.slice (some ⟨W.heap.size, 0, none⟩) t.nd.length t.nd.length)
  have B2 := (HB.out.trans (hbl.mono HB.out.size)).trans (K1.below (B := w.heap.size) (by omega) (by omega))
  have KT := Hid.mk' (toInt64S_any b d t.op _ (HT.out.below B2) (by omega))
  have HX := Hid.mk' (hnx.kept K1 (.inr (by omega)))
  have BB := Hid.mk' B2
  have Hp2 := Hid.mk' (rowK Hp K1 (.inl (by omega)))
  have Ho2 := Hid.mk' (Ho.set 0 (.slice (some ⟨W.heap.size, 0, none⟩) t.nd.length t.nd.length))
  have Hr2 := Hid.mk' (rowK Hr K1 (.inl (by omega)))
  have o0 : w1.cell? ⟨w.heap.size + 1 + 1, 0, none⟩ = some (.slice none 0 0) := Ho.cell (by omega)
  have fo0 := Ho.frozen 0
  have S2 : Hid ((w1.setCell ⟨w.heap.size + 1 + 1, 0, none⟩ (.slice (some ⟨W.heap.size, 0, none⟩) t.nd.length t.nd.length)).heap.size = w1.heap.size) := Hid.mk' (by simp [World.setCell])
  have p1 := Hp2.out.cell (i := 1) (by omega)
  have S1 := Hid.mk' hs1
  have ZZ := Hid.mk' hz
  clear Hp Ho Hr har hbl K1 B2 KB HO HR HP HB HT Z3 hz hs1 hnx
  generalize hV : w1.setCell ⟨w.heap.size + 1 + 1, 0, none⟩ (.slice (some ⟨W.heap.size, 0, none⟩) t.nd.length t.nd.length) = V at *
  have p1 : V.cell? ⟨w.heap.size, 1, none⟩ = some (.slice b t.op.length d) := p1
  go_wp2_with fail
  clear hV o0 fo0 p1
  refine KT.out.mono ?_
  rintro e w2 ⟨go, rfl, hgo, hrow, hbl⟩
  have Ho := rowB Ho2.out hbl
  have Hr := rowB Hr2.out hbl
  have Hp := rowB Hp2.out hbl
  have p2' : w2.cell? ⟨w.heap.size, 2, none⟩ = some (.bool t.lg) := Hp.cell (by omega)
  have o0 : w2.cell? ⟨w.heap.size + 1 + 1, 0, none⟩ = some (.slice (some ⟨W.heap.size, 0, none⟩) t.nd.length t.nd.length) := Ho.cell (by omega)
  have o1 : w2.cell? ⟨w.heap.size + 1 + 1, 1, none⟩ = some (.slice none 0 0) := Ho.cell (by omega)
  have o2 : w2.cell? ⟨w.heap.size + 1 + 1, 2, none⟩ = some (.bool false) := Ho.cell (by omega)
  have r0 : w2.cell? ⟨w.heap.size + 1, 0, none⟩ = some (.slice none 0 0) := Hr.cell (by omega)
  have r1 : w2.cell? ⟨w.heap.size + 1, 1, none⟩ = some (.slice none 0 0) := Hr.cell (by omega)
  have r2 : w2.cell? ⟨w.heap.size + 1, 2, none⟩ = some (.bool false) := Hr.cell (by omega)
  have fo1 := Ho.frozen 1
  have fo2 := Ho.frozen 2
  have fr0 := Hr.frozen 0
  have fr1 := Hr.frozen 1
  have fr2 := Hr.frozen 2
  have AH := Hid.mk' (HX.out.below hbl)
  have HI := Hid.mk' HX.out.lt
  have RW := Hid.mk' hrow
  have BL := Hid.mk' hbl
  have hb' := Hid.mk' hgo
  clear Ho Hr Hp hrow hbl KT Ho2 Hr2 Hp2 HX hgo
  go_wp2
  refine bodyPost_ret (v := .agg #[.slice (some ⟨W.heap.size, 0, none⟩) t.nd.length t.nd.length, .slice (some ⟨go, 0, none⟩) t.op.length t.op.length, .bool t.lg]) (by simp [results, Try.results7, go_sem, *]) rfl ?_
  have e1 := ZZ.out
  have e2 := S1.out
  have e3 := S2.out
  have e4 := hb'.out
  have e5 := HI.out
  have e6 := BL.out.size
  have KK := (((((KeptIn.refl (w.heap.size + 1) (w.heap.size + 1 + 1 + 1) w2).setCell (p := ⟨w.heap.size + 1 + 1, 1, none⟩) (by simp) (by simp) (.slice (some ⟨go, 0, none⟩) t.op.length t.op.length)).setCell (p := ⟨w.heap.size + 1 + 1, 2, none⟩) (by simp) (by simp) (.bool t.lg)).setCell (p := ⟨w.heap.size + 1, 0, none⟩) (by simp) (by simp) (.slice (some ⟨W.heap.size, 0, none⟩) t.nd.length t.nd.length)).setCell (p := ⟨w.heap.size + 1, 1, none⟩) (by simp) (by simp) (.slice (some ⟨go, 0, none⟩) t.op.length t.op.length)).setCell (p := ⟨w.heap.size + 1, 2, none⟩) (by simp) (by simp) (.bool t.lg)
  exact ⟨W.heap.size, hi, go, rfl, by omega, AH.out.kept KK (.inr (by omega)), by omega, rowK RW.out KK (.inr (by omega)), (BB.out.trans (BL.out.mono BB.out.size)).trans (KK.below (by omega) (by omega))⟩

set_option maxHeartbeats 1600000 in
theorem eqBuild_any (t : BS) (a b p q : Option Addr) (c d c' d' : Nat) (w : World) (ha : NsAt w a t.nd) (hb : NsAt w b t.nd) (hp : IAt w p t.op) (hq : IAt w q t.op) (hl : (t.nd.length : Int) + nssz t.nd + t.op.length ≤ 1048576) :
    Calls Try.prog 9 #[.agg #[.slice a t.nd.length c, .slice p t.op.length c', .bool t.lg], .agg #[.slice b t.nd.length d, .slice q t.op.length d', .bool t.lg]] w fun e w' => e = .returned (.bool true) ∧ Below w.heap.size w w' := by
  have B0 := ((Below.refl w.heap.size w).alloc (Nat.le_refl _) (.cells #[.slice a t.nd.length c, .slice p t.op.length c', .bool t.lg] 30)).alloc (by simp) (.cells #[.slice b t.nd.length d, .slice q t.op.length d', .bool t.lg] 30)
  have R1 := (row3 w 30 (.slice a t.nd.length c) (.slice p t.op.length c') (.bool t.lg)).alloc (.cells #[.slice b t.nd.length d, .slice q t.op.length d', .bool t.lg] 30)
  have R2 := row3 (w.alloc (.cells #[.slice a t.nd.length c, .slice p t.op.length c', .bool t.lg] 30)) 30 (.slice b t.nd.length d) (.slice q t.op.length d') (.bool t.lg)
  have z1 : (w.alloc (.cells #[.slice a t.nd.length c, .slice p t.op.length c', .bool t.lg] 30)).heap.size = w.heap.size + 1 := by simp
  rw [z1] at R2
  have H1 := Hid.mk' R1
  have H2 := Hid.mk' R2
  have KB := Hid.mk' (eqNodeS_any a b c d t.nd _ (ha.below B0) (hb.below B0) (by omega))
  have HX := Hid.mk' (hp.below B0)
  have HY := Hid.mk' (hq.below B0)
  have HB := Hid.mk' B0
  clear ha hb hp hq B0 R1 R2 z1
  generalize hW : (w.alloc (.cells #[.slice a t.nd.length c, .slice p t.op.length c', .bool t.lg] 30)).alloc (.cells #[.slice b t.nd.length d, .slice q t.op.length d', .bool t.lg] 30) = W at *
  have p0 : W.cell? ⟨w.heap.size, 0, none⟩ = some (.slice a t.nd.length c) := H1.out.cell (by omega)
  have q0 : W.cell? ⟨w.heap.size + 1, 0, none⟩ = some (.slice b t.nd.length d) := H2.out.cell (by omega)
  go_enter Try.func9, Try.ntmps9
  go_wp2_with fail
  clear hW p0 q0
  refine KB.out.mono ?_
  rintro e w1 ⟨rfl, hb⟩
  have R1 := rowB H1.out hb
  have R2 := rowB H2.out hb
  have p1 : w1.cell? ⟨w.heap.size, 1, none⟩ = some (.slice p t.op.length c') := R1.cell (by omega)
  have q1 : w1.cell? ⟨w.heap.size + 1, 1, none⟩ = some (.slice q t.op.length d') := R2.cell (by omega)
  have H1 := Hid.mk' R1
  have H2 := Hid.mk' R2
  have KT := Hid.mk' (eqInt64S_any p q c' d' t.op w1 (HX.out.below hb) (HY.out.below hb) (by omega))
  have HB := Hid.mk' (HB.out.trans (hb.mono HB.out.size))
  clear hb KB R1 R2
  go_wp2_with fail
  refine KT.out.mono ?_
  rintro e w2 ⟨rfl, hb⟩
  have p2' : w2.cell? ⟨w.heap.size, 2, none⟩ = some (.bool t.lg) := (rowB H1.out hb).cell (by omega)
  have q2' : w2.cell? ⟨w.heap.size + 1, 2, none⟩ = some (.bool t.lg) := (rowB H2.out hb).cell (by omega)
  have HB := Hid.mk' (HB.out.trans (hb.mono HB.out.size))
  clear hb KT
  go_wp2
  go_ret
  exact ⟨rfl, HB.out⟩

/-- A state lies in memory. -/
def SAt (w : World) (a p : Option Addr) (s : BS) : Prop := NsAt w a s.nd ∧ IAt w p s.op

theorem SAt.below {w w' : World} {a p : Option Addr} {s : BS} (h : SAt w a p s) (hb : Below w.heap.size w w') : SAt w' a p s := ⟨h.1.below hb, h.2.below hb⟩

theorem toBuild_at (t : BS) (a b : Option Addr) (c d : Nat) (w : World) (ha : SAt w a b t) (hl : (t.nd.length : Int) + nssz t.nd + t.op.length ≤ 1048576) :
    Calls Try.prog 7 #[.agg #[.slice a t.nd.length c, .slice b t.op.length d, .bool t.lg]] w fun e w' => ∃ gn go, e = .returned (.agg #[.slice (some ⟨gn, 0, none⟩) t.nd.length t.nd.length, .slice (some ⟨go, 0, none⟩) t.op.length t.op.length, .bool t.lg]) ∧ SAt w' (some ⟨gn, 0, none⟩) (some ⟨go, 0, none⟩) t ∧ Below w.heap.size w w' := by
  refine (toBuild_any t a b c d w ha.1 ha.2 hl).mono ?_
  rintro e w' ⟨gn, hi, go, rfl, _, h1, _, h2, h3⟩
  exact ⟨gn, go, rfl, ⟨h1.at, IAt.of_row h2⟩, h3⟩

end Go.Proofs.Ytpncbcmngfpkfaa
