/- A tree that is drawn, and bent: what puts a node behind, where the source's box changed. -/
import Derived.Test.YtlaeomnacgjcgaaR23
import Derived.Deep.RegionHeld3
import Derived.Test.YtlaeomnacgjcgaaR21
set_option linter.unusedVariables false
set_option linter.unusedSimpArgs false
namespace Go.Proofs.Ytlaeomnacgjcgaa
open Go.RowKit

theorem KeptIn.midS {b : Nat} {w w1 : World} (h : KeptIn b (b + 1) w w1) (hb : b < w.heap.size) : ∃ wa : World, wa.heap.size = w.heap.size ∧ (∀ k, ¬ k = b → wa.heap[k]? = w.heap[k]?) ∧ Below w.heap.size wa w1 := by
  have hb1 : b < w1.heap.size := Nat.lt_of_lt_of_le hb h.size
  refine ⟨{ w1 with heap := w.heap.setIfInBounds b w1.heap[b] }, by simp, fun k hk => ?_, ⟨rfl, rfl, rfl, by simpa using h.size, fun k hk => ?_⟩⟩
  · exact Array.getElem?_setIfInBounds_ne (fun e => hk e.symm)
  · by_cases e : k = b
    · subst e
      rw [Array.getElem?_setIfInBounds_self_of_lt hb, Array.getElem?_eq_getElem hb1]
    · rw [h.block k hk (by omega)]
      exact (Array.getElem?_setIfInBounds_ne (fun e2 => e e2.symm)).symm

theorem NS.appS {b : Nat} {τ : Nat → Nat} {lo lo1 : Nat} {w w1 w2 : World} {v v' : Value} {l : List ND} {va vt : Nat → Value} {us : Nat → List Value} (h : NS τ lo w v l va vt us) (hb : b < lo) (hlo : lo ≤ w.heap.size) (hk : KeptIn b (b + 1) w w1) {t : ND} {a x : Value} {u : List Value} (ha : OA lo1 w1 a t.at_ u) (h1 : w.heap.size ≤ lo1) (hx : w1.ownsRow lo1 5 1 x t.tx.length (bcs t.tx))
    (hap : ∀ k, x.ownBlock = some k → a.ownBlock ≠ some k ∧ ∀ i, i < t.at_.length → (u.getD i undef).ownBlock ≠ some k)
    (ho : w2.ownsRow lo 44 4 v' (l.length + 1) (ncs l va vt l.length ++ [.int .i64 t.up, .string t.tg, a, x])) (hg : w1.grownBy w2 v.ownBlock) (hv : v'.ownBlock = v.ownBlock ∨ v'.ownBlock = some w1.heap.size) :
    ∃ τ' va' vt' us', NS τ' lo w2 v' (l ++ [t]) va' vt' us' := by
  obtain ⟨wa, s1, k1, b1⟩ := hk.midS (by omega)
  have hn := h.around (lo' := lo) (w' := wa) (Nat.le_refl _) rfl (fun k h2 h3 => k1 k (by omega))
  rw [← s1] at b1 h1 hlo
  obtain ⟨τ', va', vt', us', h9, _⟩ := hn.app b1 ha h1 hx hap hlo ho hg hv
  exact ⟨τ', va', vt', us', h9⟩

theorem NS.rowS {b : Nat} {τ : Nat → Nat} {lo : Nat} {w w1 : World} {v : Value} {l : List ND} {va vt : Nat → Value} {us : Nat → List Value} (h : NS τ lo w v l va vt us) (hb : b < lo) (hk : KeptIn b (b + 1) w w1) : w1.ownsRow lo 44 4 v l.length (ncs l va vt l.length) :=
  own_kept h.row hk (by omega)

theorem DrT.put {m b k n k' : Nat} {l : List Int} {w w1 W w6 : World} {τ : Nat → Nat} {lo lo1 : Nat} {v v' : Value} {nd : List ND} {va vt : Nat → Value} {us : Nat → List Value} (h : NS τ lo w1 v nd va vt us) (hb : b < w.heap.size) (hlo : w.heap.size ≤ lo) (hlo2 : lo ≤ w1.heap.size) (hk0 : KeptIn b (b + 1) w w1) (hk1 : KeptIn b (b + 1) w1 W) (hs : Src b l k' W) (hk' : k' ≤ k + n) {t : ND} {a x : Value} {u : List Value} (ha : OA lo1 W a t.at_ u) (h1 : w1.heap.size ≤ lo1) (hx : W.ownsRow lo1 5 1 x t.tx.length (bcs t.tx))
    (hap : ∀ k, x.ownBlock = some k → a.ownBlock ≠ some k ∧ ∀ i, i < t.at_.length → (u.getD i undef).ownBlock ≠ some k)
    (ho : w6.ownsRow lo 44 4 v' (nd.length + 1) (ncs nd va vt nd.length ++ [.int .i64 t.up, .string t.tg, a, x])) (hg : W.grownBy w6 v.ownBlock) (hv : v'.ownBlock = v.ownBlock ∨ v'.ownBlock = some W.heap.size) (hm : nd.length + nssz nd + 1 + nsz t ≤ m) : DrT m b k n l w (.returned v') w6 := by
  obtain ⟨τ', va', vt', us', A⟩ := h.appS (b := b) (by omega) hlo2 hk1 (t := t) ha h1 hx hap ho hg hv
  have lb := own_lo h.row
  have e1 : (nd ++ [t]).length = nd.length + 1 := by simp
  obtain ⟨p, c, ev, _⟩ := own_len A.row
  subst ev
  refine ⟨nd ++ [t], τ', p, c, va', vt', us', lo, k', by rfl, A, hlo, Nat.le_trans hlo2 (Nat.le_trans hk1.size hg.size), ?_, hk', ?_, (hk0.trans hk1).grown hg (fun k e => Nat.le_trans hlo (lb k e))⟩
  · rw [e1, nssz_snoc]; omega
  · have hk : KeptIn lo W.heap.size W w6 := ⟨hg.os, hg.tape, hg.output, hg.size, fun j hj hc => hg.block j hj (fun e => by have := lb j e.symm; omega)⟩
    exact hs.kept hk (by omega)

def ZN : ND := ⟨0, ⟨#[]⟩, [], []⟩

theorem rep_nd (n k : Nat) : ndK (List.replicate n ZN) k = (if k < n then ZN else ndK [] 0) := by
  unfold ndK
  rw [List.getD_eq_getElem?_getD, List.getElem?_replicate]
  split <;> rfl

theorem rep_nd' {n k : Nat} (h : k < n) : ndK (List.replicate n ZN) k = ZN := by rw [rep_nd, if_pos h]

theorem zcs_get (n : Nat) : ∀ (k : Nat), k ≤ n → ncs (List.replicate n ZN) (fun _ => .slice none 0 0) (fun _ => .slice none 0 0) k = (madeCells #[.int .i64 0, .string ⟨#[]⟩, .slice none 0 0, .slice none 0 0] (k * 4)).toList
  | 0, _ => by simp [ncs, madeCells]
  | k + 1, h => by
    have ih := zcs_get n k (by omega)
    show ncs _ _ _ k ++ _ = _
    rw [ih, rep_nd' (by omega), show (k + 1) * 4 = k * 4 + 1 + 1 + 1 + 1 by omega]
    simp [madeCells, Array.range_succ, ZN, show k * 4 % 4 = 0 by omega, show (k * 4 + 1) % 4 = 1 by omega, show (k * 4 + 2) % 4 = 2 by omega, show (k * 4 + 3) % 4 = 3 by omega]

theorem zero_ns (w : World) (n : Nat) (hn : n ≤ 100) : NS (fun k => 0) w.heap.size (w.alloc (.cells (madeCells #[.int .i64 0, .string ⟨#[]⟩, .slice none 0 0, .slice none 0 0] (n * 4)) 44)) (.slice (some ⟨w.heap.size, 0, none⟩) n n) (List.replicate n ZN) (fun _ => .slice none 0 0) (fun _ => .slice none 0 0) (fun _ => []) := by
  refine ⟨?_, fun j hj => ?_, fun j hj => ?_, fun k e => rfl, fun j hj k e => by simp [Value.ownBlock] at e, fun j hj i hi k e => ?_, fun j hj k e => by simp [Value.ownBlock] at e⟩
  · rw [List.length_replicate, zcs_get n n (Nat.le_refl _)]
    exact World.ownsRow_lit w _ n (Nat.le_refl _) (by unfold maxLen; omega) (size_madeCells _ _)
  · rw [List.length_replicate] at hj
    rw [rep_nd' hj]; exact OA.nil _ _
  · rw [List.length_replicate] at hj
    rw [rep_nd' hj]; exact ⟨rfl, .inl ⟨rfl, rfl⟩⟩
  · rw [List.length_replicate] at hj
    rw [rep_nd' hj] at hi; exact absurd hi (Nat.not_lt_zero _)

theorem nssz_rep : ∀ (n : Nat), nssz (List.replicate n ZN) = 0
  | 0 => rfl
  | n + 1 => by
    have := nssz_rep n
    show nsz ZN + nssz (List.replicate n ZN) = 0
    rw [this]; rfl

end Go.Proofs.Ytlaeomnacgjcgaa

namespace Go.Proofs.Ytlaeomnacgjcgaa
open Go.RowKit

theorem one_byteSD (W : World) (x : Int) : ∀ j u, (bcs [x])[j]? = some u → (W.alloc (.cells #[.int .u8 x] 5)).cell? ((⟨W.heap.size, 0, none⟩ : Addr).add j) = some u := by
  intro j u hj
  have : j = 0 := by
    have := (List.getElem?_eq_some_iff.1 hj).1
    simp [bcs] at this
    omega
  subst this
  simp [bcs] at hj
  subst hj
  have r := World.rowIs_alloc W #[.int .u8 x] 5 (fun _ => .int .u8 x) (fun i hi => by
    have : i = 0 := by simp at hi; omega
    subst this; rfl)
  rw [Addr.add_mid]
  exact r.cell (by simp)

set_option maxRecDepth 100000 in
set_option maxHeartbeats 2000000 in
theorem l1SomeD_any (b k n : Nat) (l : List Int) (w : World) (h : Src b l k w) (hk : k ≤ 10000) (hn : n ≤ 20) (hl : (l.length : Int) ≤ 1048576) :
    Calls Try.prog 45 #[.pointer (some ⟨b, 0, none⟩), .int .i64 (n : Int)] w fun e w' => ∃ v out, e = .returned v ∧ out.length = n ∧ Drawn w b l (k + n) v out w' := by
  have hbw := h.lt
  have D0 : Hid (Drawn w b l k (.slice (some ⟨w.heap.size, 0, none⟩) 0 0) [] (w.alloc (.cells #[] 5))) := Hid.mk' ⟨World.ownsRow_lit w #[] 0 (Nat.le_refl _) (by decide) rfl, fun x hx => by simp at hx, h.below (below_new w _), (KeptIn.refl _ _ _).alloc _⟩
  clear h
  go_enter Try.func45, Try.ntmps45
  go_wp2
  go_loopw [1, 5] (fun i v wr => ∃ (m : Nat) (out : List Int), i = .int .i64 (m : Int) ∧ out.length + m = n ∧ Drawn w b l (k + out.length) v out wr) (fun i _ _ => (intOf i).toNat)
  case atStart => exact ⟨n, [], rfl, by simp, by simpa using D0.out⟩
  case round =>
    obtain ⟨m, out, rfl, hm, hD⟩ := hrel
    by_cases cm : 0 < m
    · have ci : (0 : Int) < (m : Int) := by omega
      have K := Hid.mk' (l1Next_any b (k + out.length) l 256 wr hD.src (by omega) (by decide) (by decide) hl)
      have DD_ := Hid.mk' hD
      have hws := hD.kept.size
      obtain ⟨pv_, qv_, rfl⟩ := own_form hD.own
      clear hD
      go_wp2_with fail
      refine K.out.mono ?_
      rintro e w1 ⟨x, rfl, x0, x1, hS1, hK1⟩
      have D2 : Hid (Drawn w b l (k + out.length + 1) (.slice pv_ out.length qv_) out w1) := Hid.mk' ⟨own_kept DD_.out.own hK1 (by omega), DD_.out.u8, hS1, DD_.out.kept.trans hK1⟩
      have hx8 : IntKind.u8.wrap x = x := by
        have : x % 256 = x := by omega
        simpa [IntKind.wrap, IntKind.bits, IntKind.signed] using this
      have ys := hK1.size
      clear K hS1 hK1 DD_
      go_wp2_with (at_builtin; refine wpList_append_at _ rfl (.tmp 11) (.tmp 15) 22 rfl w.heap.size 5 (.int .u8 0) 1 1 Try.underlying22 Try.info5 rfl (by decide) (.slice pv_ out.length qv_) out.length (bcs out) rfl (own_keep D2.out.own (below_new w1 _)) _ 1 _ (bcs [x]) rfl rfl (.inr ⟨_, rfl, one_byteSD w1 x⟩) (bcs_one _) (by unfold maxLen; omega) (by omega) (by simp; omega) ?_; intro v' w2 ho hgr hat; have D3 := Hid.mk' ((D2.out.below (below_new w1 (.cells #[.int .u8 x] 5))).apps hbw (more := [x]) (fun y hy => by simp at hy; omega) rfl ho hgr); clear ho hgr hat)
      go_roundw
      case rel => exact ⟨m - 1, out ++ [x], by go_num, by rw [List.length_append]; simp; omega, by rw [List.length_append, List.length_singleton, ← Nat.add_assoc]; exact D3.out⟩
      case measure => simp [intOf]; omega
    · have e : m = 0 := by omega
      subst e
      have ci : ¬ (0 : Int) < ((0 : Nat) : Int) := by omega
      have hle : out.length = n := by omega
      go_wp2
      go_ret
      exact ⟨_, rfl, out, hle, by rw [← hle]; exact hD⟩

end Go.Proofs.Ytlaeomnacgjcgaa

namespace Go.Proofs.Ytlaeomnacgjcgaa
open Go.RowKit

def T3x (b : Nat) (w : World) (g : Nat) : Prop := g < w.heap.size ∧ ¬ g = b ∧ w.cell? ⟨g, 0, none⟩ = some (.string ⟨#[112]⟩) ∧ w.cell? ⟨g, 1, none⟩ = some (.string ⟨#[80]⟩) ∧ w.cell? ⟨g, 2, none⟩ = some (.string ⟨#[98, 114]⟩)

theorem T3x.new (w : World) (b : Nat) (hb : b < w.heap.size) : T3x b (w.alloc (.cells #[.string ⟨#[112]⟩, .string ⟨#[80]⟩, .string ⟨#[98, 114]⟩] 9)) w.heap.size :=
  ⟨by simp, by omega, by simp, by simp, by simp⟩

theorem T3x.kept {b g : Nat} {w w' : World} (h : T3x b w g) (hk : KeptIn b (b + 1) w w') : T3x b w' g := by
  obtain ⟨h0, h1, h2, h3, h4⟩ := h
  have e : ∀ i, w'.cell? ⟨g, i, none⟩ = w.cell? ⟨g, i, none⟩ := fun i => hk.cell (p := ⟨g, i, none⟩) h0 (show g < b ∨ b + 1 ≤ g by omega)
  exact ⟨Nat.lt_of_lt_of_le h0 hk.size, h1, (e 0).trans h2, (e 1).trans h3, (e 2).trans h4⟩

theorem T3x.at {b g : Nat} {w : World} (h : T3x b w g) (j : Nat) (hj : j < 3) : ∃ t : ByteArray, w.cell? ⟨g, j, none⟩ = some (.string t) ∧ t.size ≤ 2 := by
  have : j = 0 ∨ j = 1 ∨ j = 2 := by omega
  rcases this with rfl | rfl | rfl
  · exact ⟨_, h.2.2.1, by decide⟩
  · exact ⟨_, h.2.2.2.1, by decide⟩
  · exact ⟨_, h.2.2.2.2, by decide⟩

theorem IAx.keptS {b g : Nat} {w w' : World} {xs : List Int} (h : IAx w g xs) (hg : ¬ b = g) (hk : KeptIn b (b + 1) w w') : IAx w' g xs :=
  ⟨Nat.lt_of_lt_of_le h.1 hk.size, fun i hi => (hk.cell (p := ⟨g, i, none⟩) h.1 (show g < b ∨ b + 1 ≤ g by omega)).trans (h.2 i hi)⟩

set_option maxRecDepth 100000 in
set_option maxHeartbeats 12800000 in
theorem l6Bent_any (b k : Nat) (l : List Int) (w : World) (h : Src b l k w) (hk : k ≤ 9000) (hl : (l.length : Int) ≤ 1048576) :
    Calls Try.prog 30 #[.pointer (some ⟨b, 0, none⟩)] w fun e w' => DrT 4000 b k 20 l w e w' := by
  have hbw := h.lt
  have KD := Hid.mk' (l6Draw_any b k l w h hk hl)
  clear h
  go_enter Try.func30, Try.ntmps30
  go_wp2_with fail
  refine KD.out.mono ?_
  rintro e w1 ⟨nd, τ, p, c, va, vt, us, lo, k1, rfl, hN, hlo, hlo2, hsz, hk1, hS, hK⟩
  have HN := Hid.mk' hN
  have HK := Hid.mk' hK
  have KX := Hid.mk' (l1Next_any b k1 l 12 w1 hS (by omega) (by decide) (by decide) hl)
  clear hN hK hS KD
  go_wp2_with fail
  refine KX.out.mono ?_
  rintro e w2 ⟨x, rfl, x0, x1, hS2, hK2⟩
  have HK2 := Hid.mk' hK2
  have HS2 := Hid.mk' hS2
  clear hK2 hS2 KX
  have s2 := HK2.out.size
  have s1 := HK.out.size
  by_cases c0 : x = 0
  · subst c0
    have hi0 : IAx (w2.alloc (.cells ([-1, 0, 5, -2].map (Value.int .i64)).toArray 2)) w2.heap.size [-1, 0, 5, -2] := iat_litx w2 [-1, 0, 5, -2]
    have NB := below_new w2 (.cells ([-1, 0, 5, -2].map (Value.int .i64)).toArray 2)
    have KP := Hid.mk' (l1Pick_any b (k1 + 1) w2.heap.size 4 l [-1, 0, 5, -2] _ (HS2.out.below NB) hi0 (by omega) (by omega) (by decide) (by decide) hl)
    have K3 := Hid.mk' (HK2.out.trans (KeptIn.of_below NB))
    clear hi0 NB
    go_wp2_with fail
    refine KP.out.mono ?_
    rintro e w3 ⟨i, hi, rfl, hS3, hK3⟩
    obtain ⟨y, hy⟩ : ∃ y, ([-1, 0, 5, -2] : List Int).getD i 0 = y := ⟨_, rfl⟩
    rw [hy]
    have K3 := Hid.mk' (K3.out.trans hK3)
    have KX := Hid.mk' (l1Next_any b (k1 + 1 + 1) l 2 w3 hS3 (by omega) (by decide) (by decide) hl)
    clear hS3 hK3 KP hi hy
    go_wp2_with fail
    refine KX.out.mono ?_
    rintro e w4 ⟨x2, rfl, y0, y1, hS4, hK4⟩
    obtain ⟨n, rfl⟩ : ∃ n : Nat, x2 = (n : Int) := ⟨x2.toNat, by omega⟩
    have K4 := Hid.mk' (K3.out.trans hK4)
    have KS := Hid.mk' (l1SomeD_any b (k1 + 1 + 1 + 1) n l w4 hS4 (by omega) (by omega) hl)
    clear hS4 hK4 KX K3
    go_wp2_with fail
    refine KS.out.mono ?_
    rintro e w5 ⟨v, out, rfl, ho, hD⟩
    subst ho
    obtain ⟨pv, qv, rfl⟩ := own_form hD.own
    have HD := Hid.mk' hD
    have NN := below_new w5 (.cells #[.int .i64 y, .string ⟨#[]⟩, .slice none 0 0, .slice pv out.length qv] 44)
    have K5 : Hid (KeptIn b (b + 1) w1 _) := Hid.mk' ((K4.out.trans hD.kept).trans (KeptIn.of_below NN))
    have HN2 := Hid.mk' NN
    have s4 := K4.out.size
    have s5 := K5.out.size
    clear hD NN KS
    go_wp2_with (at_builtin; refine wpList_append_at _ rfl (.tmp 11) (.tmp 20) 24 rfl lo 44 (.agg #[.int .i64 0, .string ⟨#[]⟩, .slice none 0 0, .slice none 0 0]) 4 72 Try.underlying24 Try.info44 rfl (by decide) _ nd.length _ rfl (HN.out.rowS (by omega) K5.out) _ 1 _ [.int .i64 y, .string ⟨#[]⟩, .slice none 0 0, .slice pv out.length qv] rfl rfl (.inr ⟨_, rfl, one_node w5 _ _ _ _ _ _ rfl⟩) (by simp [Value.oneCell']) (by unfold maxLen; omega) (by omega) (Nat.le_trans hlo2 K5.out.size) ?_; intro v' w6 ho2 hgr hat)
    go_ret
    refine DrT.put HN.out hbw hlo hlo2 HK.out K5.out (HD.out.src.below HN2.out) (k' := k1 + 1 + 1 + 1 + out.length) (by omega) (t := ⟨y, ⟨#[]⟩, [], out⟩) (OA.nil w4.heap.size _) s4 (own_keep HD.out.own HN2.out) (fun k e => ⟨by simp [Value.ownBlock], fun i hi => absurd hi (Nat.not_lt_zero _)⟩) ho2 hgr hat (by show nd.length + nssz nd + 1 + (0 + 0 + 0 + out.length) ≤ 4000; omega)
  by_cases c1 : x = 1
  · subst c1
    have KC : Hid (KeptIn b (b + 1) w1 w2.drew) := Hid.mk' ⟨HK2.out.os, HK2.out.tape, HK2.out.output, HK2.out.size, HK2.out.block⟩
    have SC := Hid.mk' (HS2.out.below (Below.refl _ _).drew)
    have SB : Hid (b < w1.heap.size) := Hid.mk' (by omega)
    clear HK2 HS2
    go_wp2_with fail
    refine wp_region_held_drew (S := fun _ => True) (by kernel_rfl) trivial (fun hHeld => ?_)
    generalize w2.drew = wc at *
    refine tkY 0 ?_
    refine tkY 1 ?_
    refine tkY 5 ?_
    refine tkY 9 ?_
    refine tkY 10 ?_
    refine wpAnyH_ready (rs := [2, 4]) (by kernel_rfl) (by simp) ?_
    refine AllReadyH.cons (o := ⟨_, _, _, _, _, _⟩) rfl (fun K9 hK => ?_) (AllReadyH.cons (o := ⟨_, _, _, _, _, _⟩) rfl (fun K9 hK => ?_) AllReadyH.nil)
    go_simp
    have NB := below_new wc (.cells #[.int .i64 (-1), .int .i64 0, .int .i64 1] 2)
    have KB := KeptIn.of_below (lo := b) (hi := b + 1) NB
    have IC := Hid.mk' (And.intro (show ¬ b = wc.heap.size by have := SC.out.lt; omega) (show IAx (wc.alloc (.cells #[.int .i64 (-1), .int .i64 0, .int .i64 1] 2)) wc.heap.size [-1, 0, 1] from iat_litx wc [-1, 0, 1]))
    replace KC := Hid.mk' (KC.out.trans KB)
    replace SC := Hid.mk' (SC.out.below NB)
    refine hK.out _ _ trivial (fun hHeld => ?_)
    clear hK K9 NB KB
    try simp only [Act.put, zA, zB, zC]
    generalize wc.alloc (.cells #[.int .i64 (-1), .int .i64 0, .int .i64 1] 2) = wc at *
    refine wpAnyH_ready (rs := [3, 4]) (by kernel_rfl) (by simp) ?_
    refine AllReadyH.cons (o := ⟨_, _, _, _, _, _⟩) rfl (fun K9 hK => ?_) (AllReadyH.cons (o := ⟨_, _, _, _, _, _⟩) rfl (fun K9 hK => ?_) AllReadyH.nil)
    go_simp
    refine (l1Pick_any b _ _ _ l [-1, 0, 1] _ SC.out IC.out.2 IC.out.1 (by omega) (by decide) (by decide) hl).mono ?_
    rintro e wc ⟨i3, hi3, rfl, hS, hQ⟩
    obtain ⟨y, hy⟩ : ∃ y, ([-1, 0, 1] : List Int).getD i3 0 = y := ⟨_, rfl⟩
    rw [hy]
    replace KC := Hid.mk' (KC.out.trans hQ)
    replace SC := Hid.mk' hS
    clear hS hQ IC hi3 hy
    refine hK.out _ _ trivial (fun hHeld => ?_)
    clear hK K9
    try simp only [Act.put, zA, zB, zC]
    refine wpAnyH_ready (rs := [4, 6]) (by kernel_rfl) (by simp) ?_
    refine AllReadyH.cons (o := ⟨_, _, _, _, _, _⟩) rfl (fun K9 hK => ?_) (AllReadyH.cons (o := ⟨_, _, _, _, _, _⟩) rfl (fun K9 hK => ?_) AllReadyH.nil)
    go_simp
    have NB := below_new wc (.cells #[.string ⟨#[112]⟩, .string ⟨#[80]⟩, .string ⟨#[98, 114]⟩] 9)
    have KB := KeptIn.of_below (lo := b) (hi := b + 1) NB
    have TC := Hid.mk' (T3x.new wc b SC.out.lt)
    replace KC := Hid.mk' (KC.out.trans KB)
    replace SC := Hid.mk' (SC.out.below NB)
    refine hK.out _ _ trivial (fun hHeld => ?_)
    clear hK K9 NB KB
    try simp only [Act.put, zA, zB, zC]
    generalize wc.alloc (.cells #[.string ⟨#[112]⟩, .string ⟨#[80]⟩, .string ⟨#[98, 114]⟩] 9) = wc at *
    refine wpAnyH_ready (rs := [6]) (by kernel_rfl) (by simp) ?_
    refine AllReadyH.cons (o := ⟨_, _, _, _, _, _⟩) rfl (fun K9 hK => ?_) AllReadyH.nil
    go_simp
    refine (l1Next_any b _ l 3 _ SC.out (by omega) (by decide) (by decide) hl).mono ?_
    rintro e wc ⟨z, rfl, z0, z1, hS, hQ⟩
    obtain ⟨j, rfl⟩ : ∃ j : Nat, z = (j : Int) := ⟨z.toNat, by omega⟩
    replace TC := Hid.mk' (TC.out.kept hQ)
    replace KC := Hid.mk' (KC.out.trans hQ)
    replace SC := Hid.mk' hS
    clear hS hQ
    refine hK.out _ _ trivial (fun hHeld => ?_)
    clear hK K9
    try simp only [Act.put, zA, zB, zC]
    refine tkY 7 ?_
    refine wpAnyH_ready (rs := [8, 11]) (by kernel_rfl) (by simp) ?_
    refine AllReadyH.cons (o := ⟨_, _, _, _, _, _⟩) rfl (fun K9 hK => ?_) (AllReadyH.cons (o := ⟨_, _, _, _, _, _⟩) rfl (fun K9 hK => ?_) AllReadyH.nil)
    obtain ⟨tg, htg, htz⟩ := TC.out.at j (by omega)
    go_simp
    have HTZ := Hid.mk' htz
    clear htg htz TC
    refine hK.out _ _ trivial (fun hHeld => ?_)
    clear hK K9
    try simp only [Act.put, zA, zB, zC]
    refine wpAnyH_ready (rs := [11]) (by kernel_rfl) (by simp) ?_
    refine AllReadyH.cons (o := ⟨_, _, _, _, _, _⟩) rfl (fun K9 hK => ?_) AllReadyH.nil
    go_simp
    refine (l1Next_any b _ l 2 _ SC.out (by omega) (by decide) (by decide) hl).mono ?_
    rintro e wc ⟨z, rfl, n0, n1, hS, hQ⟩
    obtain ⟨n, rfl⟩ : ∃ n : Nat, z = (n : Int) := ⟨z.toNat, by omega⟩
    replace KC := Hid.mk' (KC.out.trans hQ)
    replace SC := Hid.mk' hS
    clear hS hQ
    refine hK.out _ _ trivial (fun hHeld => ?_)
    clear hK K9
    try simp only [Act.put, zA, zB, zC]
    refine wpAnyH_ready (rs := [12]) (by kernel_rfl) (by simp) ?_
    refine AllReadyH.cons (o := ⟨_, _, _, _, _, _⟩) rfl (fun K9 hK => ?_) AllReadyH.nil
    go_simp
    refine (l1SomeD_any b _ n l _ SC.out (by omega) (by omega) hl).mono ?_
    rintro e wc ⟨v, out, rfl, ho, hD⟩
    subst ho
    obtain ⟨pv, qv, rfl⟩ := own_form hD.own
    have hS := hD.src
    have hQ := hD.kept
    have OC := Hid.mk' (And.intro KC.out.size hD.own)
    clear hD
    replace KC := Hid.mk' (KC.out.trans hQ)
    replace SC := Hid.mk' hS
    clear hS hQ
    refine hK.out _ _ trivial (fun hHeld => ?_)
    clear hK K9
    try simp only [Act.put, zA, zB, zC]
    refine tkY 13 ?_
    rotate_left
    go_simp
    refine (l1Next_any b _ l 2 _ SC.out (by omega) (by decide) (by decide) hl).mono ?_
    rintro e wc ⟨z, rfl, n0, n1, hS, hQ⟩
    obtain ⟨n, rfl⟩ : ∃ n : Nat, z = (n : Int) := ⟨z.toNat, by omega⟩
    replace TC := Hid.mk' (TC.out.kept hQ)
    replace KC := Hid.mk' (KC.out.trans hQ)
    replace SC := Hid.mk' hS
    clear hS hQ
    refine hK.out _ _ trivial (fun hHeld => ?_)
    clear hK K9
    try simp only [Act.put, zA, zB, zC]
    refine wpAnyH_ready (rs := [8, 12]) (by kernel_rfl) (by simp) ?_
    refine AllReadyH.cons (o := ⟨_, _, _, _, _, _⟩) rfl (fun K9 hK => ?_) (AllReadyH.cons (o := ⟨_, _, _, _, _, _⟩) rfl (fun K9 hK => ?_) AllReadyH.nil)
    obtain ⟨tg, htg, htz⟩ := TC.out.at j (by omega)
    go_simp
    have HTZ := Hid.mk' htz
    clear htg htz TC
    refine hK.out _ _ trivial (fun hHeld => ?_)
    clear hK K9
    try simp only [Act.put, zA, zB, zC]
    refine wpAnyH_ready (rs := [12]) (by kernel_rfl) (by simp) ?_
    refine AllReadyH.cons (o := ⟨_, _, _, _, _, _⟩) rfl (fun K9 hK => ?_) AllReadyH.nil
    go_simp
    refine (l1SomeD_any b _ n l _ SC.out (by omega) (by omega) hl).mono ?_
    rintro e wc ⟨v, out, rfl, ho, hD⟩
    subst ho
    obtain ⟨pv, qv, rfl⟩ := own_form hD.own
    have hS := hD.src
    have hQ := hD.kept
    have OC := Hid.mk' (And.intro KC.out.size hD.own)
    clear hD
    replace KC := Hid.mk' (KC.out.trans hQ)
    replace SC := Hid.mk' hS
    clear hS hQ
    refine hK.out _ _ trivial (fun hHeld => ?_)
    clear hK K9
    try simp only [Act.put, zA, zB, zC]
    refine tkY 13 ?_
    rotate_left
    go_simp
    refine (l1SomeD_any b _ n l _ SC.out (by omega) (by omega) hl).mono ?_
    rintro e wc ⟨v, out, rfl, ho, hD⟩
    subst ho
    obtain ⟨pv, qv, rfl⟩ := own_form hD.own
    have hS := hD.src
    have hQ := hD.kept
    have OC := Hid.mk' (And.intro KC.out.size hD.own)
    clear hD
    replace TC := Hid.mk' (TC.out.kept hQ)
    replace KC := Hid.mk' (KC.out.trans hQ)
    replace SC := Hid.mk' hS
    clear hS hQ
    refine hK.out _ _ trivial (fun hHeld => ?_)
    clear hK K9
    try simp only [Act.put, zA, zB, zC]
    refine wpAnyH_ready (rs := [8]) (by kernel_rfl) (by simp) ?_
    refine AllReadyH.cons (o := ⟨_, _, _, _, _, _⟩) rfl (fun K9 hK => ?_) AllReadyH.nil
    obtain ⟨tg, htg, htz⟩ := TC.out.at j (by omega)
    go_simp
    have HTZ := Hid.mk' htz
    clear htg htz TC
    refine hK.out _ _ trivial (fun hHeld => ?_)
    clear hK K9
    try simp only [Act.put, zA, zB, zC]
    refine tkY 13 ?_
    rotate_left
    go_simp
    refine (l1Next_any b _ l 3 _ SC.out (by omega) (by decide) (by decide) hl).mono ?_
    rintro e wc ⟨z, rfl, z0, z1, hS, hQ⟩
    obtain ⟨j, rfl⟩ : ∃ j : Nat, z = (j : Int) := ⟨z.toNat, by omega⟩
    replace KC := Hid.mk' (KC.out.trans hQ)
    replace SC := Hid.mk' hS
    clear hS hQ
    refine hK.out _ _ trivial (fun hHeld => ?_)
    clear hK K9
    try simp only [Act.put, zA, zB, zC]
    refine wpAnyH_ready (rs := [4, 11]) (by kernel_rfl) (by simp) ?_
    refine AllReadyH.cons (o := ⟨_, _, _, _, _, _⟩) rfl (fun K9 hK => ?_) (AllReadyH.cons (o := ⟨_, _, _, _, _, _⟩) rfl (fun K9 hK => ?_) AllReadyH.nil)
    go_simp
    have NB := below_new wc (.cells #[.string ⟨#[112]⟩, .string ⟨#[80]⟩, .string ⟨#[98, 114]⟩] 9)
    have KB := KeptIn.of_below (lo := b) (hi := b + 1) NB
    have TC := Hid.mk' (T3x.new wc b SC.out.lt)
    replace KC := Hid.mk' (KC.out.trans KB)
    replace SC := Hid.mk' (SC.out.below NB)
    refine hK.out _ _ trivial (fun hHeld => ?_)
    clear hK K9 NB KB
    try simp only [Act.put, zA, zB, zC]
    generalize wc.alloc (.cells #[.string ⟨#[112]⟩, .string ⟨#[80]⟩, .string ⟨#[98, 114]⟩] 9) = wc at *
    refine tkY 7 ?_
    refine wpAnyH_ready (rs := [8, 11]) (by kernel_rfl) (by simp) ?_
    refine AllReadyH.cons (o := ⟨_, _, _, _, _, _⟩) rfl (fun K9 hK => ?_) (AllReadyH.cons (o := ⟨_, _, _, _, _, _⟩) rfl (fun K9 hK => ?_) AllReadyH.nil)
    obtain ⟨tg, htg, htz⟩ := TC.out.at j (by omega)
    go_simp
    have HTZ := Hid.mk' htz
    clear htg htz TC
    refine hK.out _ _ trivial (fun hHeld => ?_)
    clear hK K9
    try simp only [Act.put, zA, zB, zC]
    refine wpAnyH_ready (rs := [11]) (by kernel_rfl) (by simp) ?_
    refine AllReadyH.cons (o := ⟨_, _, _, _, _, _⟩) rfl (fun K9 hK => ?_) AllReadyH.nil
    go_simp
    refine (l1Next_any b _ l 2 _ SC.out (by omega) (by decide) (by decide) hl).mono ?_
    rintro e wc ⟨z, rfl, n0, n1, hS, hQ⟩
    obtain ⟨n, rfl⟩ : ∃ n : Nat, z = (n : Int) := ⟨z.toNat, by omega⟩
    replace KC := Hid.mk' (KC.out.trans hQ)
    replace SC := Hid.mk' hS
    clear hS hQ
    refine hK.out _ _ trivial (fun hHeld => ?_)
    clear hK K9
    try simp only [Act.put, zA, zB, zC]
    refine wpAnyH_ready (rs := [12]) (by kernel_rfl) (by simp) ?_
    refine AllReadyH.cons (o := ⟨_, _, _, _, _, _⟩) rfl (fun K9 hK => ?_) AllReadyH.nil
    go_simp
    refine (l1SomeD_any b _ n l _ SC.out (by omega) (by omega) hl).mono ?_
    rintro e wc ⟨v, out, rfl, ho, hD⟩
    subst ho
    obtain ⟨pv, qv, rfl⟩ := own_form hD.own
    have hS := hD.src
    have hQ := hD.kept
    have OC := Hid.mk' (And.intro KC.out.size hD.own)
    clear hD
    replace KC := Hid.mk' (KC.out.trans hQ)
    replace SC := Hid.mk' hS
    clear hS hQ
    refine hK.out _ _ trivial (fun hHeld => ?_)
    clear hK K9
    try simp only [Act.put, zA, zB, zC]
    refine tkY 13 ?_
    rotate_left
    go_simp
    refine (l1Next_any b _ l 2 _ SC.out (by omega) (by decide) (by decide) hl).mono ?_
    rintro e wc ⟨z, rfl, n0, n1, hS, hQ⟩
    obtain ⟨n, rfl⟩ : ∃ n : Nat, z = (n : Int) := ⟨z.toNat, by omega⟩
    replace TC := Hid.mk' (TC.out.kept hQ)
    replace KC := Hid.mk' (KC.out.trans hQ)
    replace SC := Hid.mk' hS
    clear hS hQ
    refine hK.out _ _ trivial (fun hHeld => ?_)
    clear hK K9
    try simp only [Act.put, zA, zB, zC]
    refine wpAnyH_ready (rs := [8, 12]) (by kernel_rfl) (by simp) ?_
    refine AllReadyH.cons (o := ⟨_, _, _, _, _, _⟩) rfl (fun K9 hK => ?_) (AllReadyH.cons (o := ⟨_, _, _, _, _, _⟩) rfl (fun K9 hK => ?_) AllReadyH.nil)
    obtain ⟨tg, htg, htz⟩ := TC.out.at j (by omega)
    go_simp
    have HTZ := Hid.mk' htz
    clear htg htz TC
    refine hK.out _ _ trivial (fun hHeld => ?_)
    clear hK K9
    try simp only [Act.put, zA, zB, zC]
    refine wpAnyH_ready (rs := [12]) (by kernel_rfl) (by simp) ?_
    refine AllReadyH.cons (o := ⟨_, _, _, _, _, _⟩) rfl (fun K9 hK => ?_) AllReadyH.nil
    go_simp
    refine (l1SomeD_any b _ n l _ SC.out (by omega) (by omega) hl).mono ?_
    rintro e wc ⟨v, out, rfl, ho, hD⟩
    subst ho
    obtain ⟨pv, qv, rfl⟩ := own_form hD.own
    have hS := hD.src
    have hQ := hD.kept
    have OC := Hid.mk' (And.intro KC.out.size hD.own)
    clear hD
    replace KC := Hid.mk' (KC.out.trans hQ)
    replace SC := Hid.mk' hS
    clear hS hQ
    refine hK.out _ _ trivial (fun hHeld => ?_)
    clear hK K9
    try simp only [Act.put, zA, zB, zC]
    refine tkY 13 ?_
    rotate_left
    go_simp
    refine (l1SomeD_any b _ n l _ SC.out (by omega) (by omega) hl).mono ?_
    rintro e wc ⟨v, out, rfl, ho, hD⟩
    subst ho
    obtain ⟨pv, qv, rfl⟩ := own_form hD.own
    have hS := hD.src
    have hQ := hD.kept
    have OC := Hid.mk' (And.intro KC.out.size hD.own)
    clear hD
    replace TC := Hid.mk' (TC.out.kept hQ)
    replace KC := Hid.mk' (KC.out.trans hQ)
    replace SC := Hid.mk' hS
    clear hS hQ
    refine hK.out _ _ trivial (fun hHeld => ?_)
    clear hK K9
    try simp only [Act.put, zA, zB, zC]
    refine wpAnyH_ready (rs := [8]) (by kernel_rfl) (by simp) ?_
    refine AllReadyH.cons (o := ⟨_, _, _, _, _, _⟩) rfl (fun K9 hK => ?_) AllReadyH.nil
    obtain ⟨tg, htg, htz⟩ := TC.out.at j (by omega)
    go_simp
    have HTZ := Hid.mk' htz
    clear htg htz TC
    refine hK.out _ _ trivial (fun hHeld => ?_)
    clear hK K9
    try simp only [Act.put, zA, zB, zC]
    refine tkY 13 ?_
    rotate_left
    go_simp
    refine (l1Next_any b _ l 2 _ SC.out (by omega) (by decide) (by decide) hl).mono ?_
    rintro e wc ⟨z, rfl, n0, n1, hS, hQ⟩
    obtain ⟨n, rfl⟩ : ∃ n : Nat, z = (n : Int) := ⟨z.toNat, by omega⟩
    replace KC := Hid.mk' (KC.out.trans hQ)
    replace SC := Hid.mk' hS
    clear hS hQ
    refine hK.out _ _ trivial (fun hHeld => ?_)
    clear hK K9
    try simp only [Act.put, zA, zB, zC]
    refine wpAnyH_ready (rs := [4, 12]) (by kernel_rfl) (by simp) ?_
    refine AllReadyH.cons (o := ⟨_, _, _, _, _, _⟩) rfl (fun K9 hK => ?_) (AllReadyH.cons (o := ⟨_, _, _, _, _, _⟩) rfl (fun K9 hK => ?_) AllReadyH.nil)
    go_simp
    have NB := below_new wc (.cells #[.string ⟨#[112]⟩, .string ⟨#[80]⟩, .string ⟨#[98, 114]⟩] 9)
    have KB := KeptIn.of_below (lo := b) (hi := b + 1) NB
    have TC := Hid.mk' (T3x.new wc b SC.out.lt)
    replace KC := Hid.mk' (KC.out.trans KB)
    replace SC := Hid.mk' (SC.out.below NB)
    refine hK.out _ _ trivial (fun hHeld => ?_)
    clear hK K9 NB KB
    try simp only [Act.put, zA, zB, zC]
    generalize wc.alloc (.cells #[.string ⟨#[112]⟩, .string ⟨#[80]⟩, .string ⟨#[98, 114]⟩] 9) = wc at *
    refine tkY 7 ?_
    refine wpAnyH_ready (rs := [8, 12]) (by kernel_rfl) (by simp) ?_
    refine AllReadyH.cons (o := ⟨_, _, _, _, _, _⟩) rfl (fun K9 hK => ?_) (AllReadyH.cons (o := ⟨_, _, _, _, _, _⟩) rfl (fun K9 hK => ?_) AllReadyH.nil)
    obtain ⟨tg, htg, htz⟩ := TC.out.at j (by omega)
    go_simp
    have HTZ := Hid.mk' htz
    clear htg htz TC
    refine hK.out _ _ trivial (fun hHeld => ?_)
    clear hK K9
    try simp only [Act.put, zA, zB, zC]
    refine wpAnyH_ready (rs := [12]) (by kernel_rfl) (by simp) ?_
    refine AllReadyH.cons (o := ⟨_, _, _, _, _, _⟩) rfl (fun K9 hK => ?_) AllReadyH.nil
    go_simp
    refine (l1SomeD_any b _ n l _ SC.out (by omega) (by omega) hl).mono ?_
    rintro e wc ⟨v, out, rfl, ho, hD⟩
    subst ho
    obtain ⟨pv, qv, rfl⟩ := own_form hD.own
    have hS := hD.src
    have hQ := hD.kept
    have OC := Hid.mk' (And.intro KC.out.size hD.own)
    clear hD
    replace KC := Hid.mk' (KC.out.trans hQ)
    replace SC := Hid.mk' hS
    clear hS hQ
    refine hK.out _ _ trivial (fun hHeld => ?_)
    clear hK K9
    try simp only [Act.put, zA, zB, zC]
    refine tkY 13 ?_
    rotate_left
    go_simp
    refine (l1SomeD_any b _ n l _ SC.out (by omega) (by omega) hl).mono ?_
    rintro e wc ⟨v, out, rfl, ho, hD⟩
    subst ho
    obtain ⟨pv, qv, rfl⟩ := own_form hD.own
    have hS := hD.src
    have hQ := hD.kept
    have OC := Hid.mk' (And.intro KC.out.size hD.own)
    clear hD
    replace TC := Hid.mk' (TC.out.kept hQ)
    replace KC := Hid.mk' (KC.out.trans hQ)
    replace SC := Hid.mk' hS
    clear hS hQ
    refine hK.out _ _ trivial (fun hHeld => ?_)
    clear hK K9
    try simp only [Act.put, zA, zB, zC]
    refine wpAnyH_ready (rs := [8]) (by kernel_rfl) (by simp) ?_
    refine AllReadyH.cons (o := ⟨_, _, _, _, _, _⟩) rfl (fun K9 hK => ?_) AllReadyH.nil
    obtain ⟨tg, htg, htz⟩ := TC.out.at j (by omega)
    go_simp
    have HTZ := Hid.mk' htz
    clear htg htz TC
    refine hK.out _ _ trivial (fun hHeld => ?_)
    clear hK K9
    try simp only [Act.put, zA, zB, zC]
    refine tkY 13 ?_
    rotate_left
    go_simp
    refine (l1SomeD_any b _ n l _ SC.out (by omega) (by omega) hl).mono ?_
    rintro e wc ⟨v, out, rfl, ho, hD⟩
    subst ho
    obtain ⟨pv, qv, rfl⟩ := own_form hD.own
    have hS := hD.src
    have hQ := hD.kept
    have OC := Hid.mk' (And.intro KC.out.size hD.own)
    clear hD
    replace KC := Hid.mk' (KC.out.trans hQ)
    replace SC := Hid.mk' hS
    clear hS hQ
    refine hK.out _ _ trivial (fun hHeld => ?_)
    clear hK K9
    try simp only [Act.put, zA, zB, zC]
    refine wpAnyH_ready (rs := [4]) (by kernel_rfl) (by simp) ?_
    refine AllReadyH.cons (o := ⟨_, _, _, _, _, _⟩) rfl (fun K9 hK => ?_) AllReadyH.nil
    go_simp
    have NB := below_new wc (.cells #[.string ⟨#[112]⟩, .string ⟨#[80]⟩, .string ⟨#[98, 114]⟩] 9)
    have KB := KeptIn.of_below (lo := b) (hi := b + 1) NB
    replace OC := Hid.mk' (And.intro OC.out.1 (own_kept OC.out.2 KB (by have := SB.out; have := OC.out.1; omega)))
    have TC := Hid.mk' (T3x.new wc b SC.out.lt)
    replace KC := Hid.mk' (KC.out.trans KB)
    replace SC := Hid.mk' (SC.out.below NB)
    refine hK.out _ _ trivial (fun hHeld => ?_)
    clear hK K9 NB KB
    try simp only [Act.put, zA, zB, zC]
    generalize wc.alloc (.cells #[.string ⟨#[112]⟩, .string ⟨#[80]⟩, .string ⟨#[98, 114]⟩] 9) = wc at *
    refine tkY 7 ?_
    refine wpAnyH_ready (rs := [8]) (by kernel_rfl) (by simp) ?_
    refine AllReadyH.cons (o := ⟨_, _, _, _, _, _⟩) rfl (fun K9 hK => ?_) AllReadyH.nil
    obtain ⟨tg, htg, htz⟩ := TC.out.at j (by omega)
    go_simp
    have HTZ := Hid.mk' htz
    clear htg htz TC
    refine hK.out _ _ trivial (fun hHeld => ?_)
    clear hK K9
    try simp only [Act.put, zA, zB, zC]
    refine tkY 13 ?_
    rotate_left
    go_simp
    have NB := below_new wc (.cells #[.string ⟨#[112]⟩, .string ⟨#[80]⟩, .string ⟨#[98, 114]⟩] 9)
    have KB := KeptIn.of_below (lo := b) (hi := b + 1) NB
    replace IC := Hid.mk' (And.intro IC.out.1 (IC.out.2.keptS IC.out.1 KB))
    have TC := Hid.mk' (T3x.new wc b SC.out.lt)
    replace KC := Hid.mk' (KC.out.trans KB)
    replace SC := Hid.mk' (SC.out.below NB)
    refine hK.out _ _ trivial (fun hHeld => ?_)
    clear hK K9 NB KB
    try simp only [Act.put, zA, zB, zC]
    generalize wc.alloc (.cells #[.string ⟨#[112]⟩, .string ⟨#[80]⟩, .string ⟨#[98, 114]⟩] 9) = wc at *
    refine wpAnyH_ready (rs := [3]) (by kernel_rfl) (by simp) ?_
    refine AllReadyH.cons (o := ⟨_, _, _, _, _, _⟩) rfl (fun K9 hK => ?_) AllReadyH.nil
    go_simp
    refine (l1Pick_any b _ _ _ l [-1, 0, 1] _ SC.out IC.out.2 IC.out.1 (by omega) (by decide) (by decide) hl).mono ?_
    rintro e wc ⟨i3, hi3, rfl, hS, hQ⟩
    obtain ⟨y, hy⟩ : ∃ y, ([-1, 0, 1] : List Int).getD i3 0 = y := ⟨_, rfl⟩
    rw [hy]
    replace TC := Hid.mk' (TC.out.kept hQ)
    replace KC := Hid.mk' (KC.out.trans hQ)
    replace SC := Hid.mk' hS
    clear hS hQ IC hi3 hy
    refine hK.out _ _ trivial (fun hHeld => ?_)
    clear hK K9
    try simp only [Act.put, zA, zB, zC]
    refine wpAnyH_ready (rs := [6]) (by kernel_rfl) (by simp) ?_
    refine AllReadyH.cons (o := ⟨_, _, _, _, _, _⟩) rfl (fun K9 hK => ?_) AllReadyH.nil
    go_simp
    refine (l1Next_any b _ l 3 _ SC.out (by omega) (by decide) (by decide) hl).mono ?_
    rintro e wc ⟨z, rfl, z0, z1, hS, hQ⟩
    obtain ⟨j, rfl⟩ : ∃ j : Nat, z = (j : Int) := ⟨z.toNat, by omega⟩
    replace TC := Hid.mk' (TC.out.kept hQ)
    replace KC := Hid.mk' (KC.out.trans hQ)
    replace SC := Hid.mk' hS
    clear hS hQ
    refine hK.out _ _ trivial (fun hHeld => ?_)
    clear hK K9
    try simp only [Act.put, zA, zB, zC]
    refine tkY 7 ?_
    refine wpAnyH_ready (rs := [8, 11]) (by kernel_rfl) (by simp) ?_
    refine AllReadyH.cons (o := ⟨_, _, _, _, _, _⟩) rfl (fun K9 hK => ?_) (AllReadyH.cons (o := ⟨_, _, _, _, _, _⟩) rfl (fun K9 hK => ?_) AllReadyH.nil)
    obtain ⟨tg, htg, htz⟩ := TC.out.at j (by omega)
    go_simp
    have HTZ := Hid.mk' htz
    clear htg htz TC
    refine hK.out _ _ trivial (fun hHeld => ?_)
    clear hK K9
    try simp only [Act.put, zA, zB, zC]
    refine wpAnyH_ready (rs := [11]) (by kernel_rfl) (by simp) ?_
    refine AllReadyH.cons (o := ⟨_, _, _, _, _, _⟩) rfl (fun K9 hK => ?_) AllReadyH.nil
    go_simp
    refine (l1Next_any b _ l 2 _ SC.out (by omega) (by decide) (by decide) hl).mono ?_
    rintro e wc ⟨z, rfl, n0, n1, hS, hQ⟩
    obtain ⟨n, rfl⟩ : ∃ n : Nat, z = (n : Int) := ⟨z.toNat, by omega⟩
    replace KC := Hid.mk' (KC.out.trans hQ)
    replace SC := Hid.mk' hS
    clear hS hQ
    refine hK.out _ _ trivial (fun hHeld => ?_)
    clear hK K9
    try simp only [Act.put, zA, zB, zC]
    refine wpAnyH_ready (rs := [12]) (by kernel_rfl) (by simp) ?_
    refine AllReadyH.cons (o := ⟨_, _, _, _, _, _⟩) rfl (fun K9 hK => ?_) AllReadyH.nil
    go_simp
    refine (l1SomeD_any b _ n l _ SC.out (by omega) (by omega) hl).mono ?_
    rintro e wc ⟨v, out, rfl, ho, hD⟩
    subst ho
    obtain ⟨pv, qv, rfl⟩ := own_form hD.own
    have hS := hD.src
    have hQ := hD.kept
    have OC := Hid.mk' (And.intro KC.out.size hD.own)
    clear hD
    replace KC := Hid.mk' (KC.out.trans hQ)
    replace SC := Hid.mk' hS
    clear hS hQ
    refine hK.out _ _ trivial (fun hHeld => ?_)
    clear hK K9
    try simp only [Act.put, zA, zB, zC]
    refine tkY 13 ?_
    rotate_left
    go_simp
    refine (l1Next_any b _ l 2 _ SC.out (by omega) (by decide) (by decide) hl).mono ?_
    rintro e wc ⟨z, rfl, n0, n1, hS, hQ⟩
    obtain ⟨n, rfl⟩ : ∃ n : Nat, z = (n : Int) := ⟨z.toNat, by omega⟩
    replace TC := Hid.mk' (TC.out.kept hQ)
    replace KC := Hid.mk' (KC.out.trans hQ)
    replace SC := Hid.mk' hS
    clear hS hQ
    refine hK.out _ _ trivial (fun hHeld => ?_)
    clear hK K9
    try simp only [Act.put, zA, zB, zC]
    refine wpAnyH_ready (rs := [8, 12]) (by kernel_rfl) (by simp) ?_
    refine AllReadyH.cons (o := ⟨_, _, _, _, _, _⟩) rfl (fun K9 hK => ?_) (AllReadyH.cons (o := ⟨_, _, _, _, _, _⟩) rfl (fun K9 hK => ?_) AllReadyH.nil)
    obtain ⟨tg, htg, htz⟩ := TC.out.at j (by omega)
    go_simp
    have HTZ := Hid.mk' htz
    clear htg htz TC
    refine hK.out _ _ trivial (fun hHeld => ?_)
    clear hK K9
    try simp only [Act.put, zA, zB, zC]
    refine wpAnyH_ready (rs := [12]) (by kernel_rfl) (by simp) ?_
    refine AllReadyH.cons (o := ⟨_, _, _, _, _, _⟩) rfl (fun K9 hK => ?_) AllReadyH.nil
    go_simp
    refine (l1SomeD_any b _ n l _ SC.out (by omega) (by omega) hl).mono ?_
    rintro e wc ⟨v, out, rfl, ho, hD⟩
    subst ho
    obtain ⟨pv, qv, rfl⟩ := own_form hD.own
    have hS := hD.src
    have hQ := hD.kept
    have OC := Hid.mk' (And.intro KC.out.size hD.own)
    clear hD
    replace KC := Hid.mk' (KC.out.trans hQ)
    replace SC := Hid.mk' hS
    clear hS hQ
    refine hK.out _ _ trivial (fun hHeld => ?_)
    clear hK K9
    try simp only [Act.put, zA, zB, zC]
    refine tkY 13 ?_
    rotate_left
    go_simp
    refine (l1SomeD_any b _ n l _ SC.out (by omega) (by omega) hl).mono ?_
    rintro e wc ⟨v, out, rfl, ho, hD⟩
    subst ho
    obtain ⟨pv, qv, rfl⟩ := own_form hD.own
    have hS := hD.src
    have hQ := hD.kept
    have OC := Hid.mk' (And.intro KC.out.size hD.own)
    clear hD
    replace TC := Hid.mk' (TC.out.kept hQ)
    replace KC := Hid.mk' (KC.out.trans hQ)
    replace SC := Hid.mk' hS
    clear hS hQ
    refine hK.out _ _ trivial (fun hHeld => ?_)
    clear hK K9
    try simp only [Act.put, zA, zB, zC]
    refine wpAnyH_ready (rs := [8]) (by kernel_rfl) (by simp) ?_
    refine AllReadyH.cons (o := ⟨_, _, _, _, _, _⟩) rfl (fun K9 hK => ?_) AllReadyH.nil
    obtain ⟨tg, htg, htz⟩ := TC.out.at j (by omega)
    go_simp
    have HTZ := Hid.mk' htz
    clear htg htz TC
    refine hK.out _ _ trivial (fun hHeld => ?_)
    clear hK K9
    try simp only [Act.put, zA, zB, zC]
    refine tkY 13 ?_
    rotate_left
    go_simp
    have NB := below_new wc (.cells #[.string ⟨#[112]⟩, .string ⟨#[80]⟩, .string ⟨#[98, 114]⟩] 9)
    have KB := KeptIn.of_below (lo := b) (hi := b + 1) NB
    have TC := Hid.mk' (T3x.new wc b SC.out.lt)
    replace KC := Hid.mk' (KC.out.trans KB)
    replace SC := Hid.mk' (SC.out.below NB)
    refine hK.out _ _ trivial (fun hHeld => ?_)
    clear hK K9 NB KB
    try simp only [Act.put, zA, zB, zC]
    generalize wc.alloc (.cells #[.string ⟨#[112]⟩, .string ⟨#[80]⟩, .string ⟨#[98, 114]⟩] 9) = wc at *
    refine wpAnyH_ready (rs := [2]) (by kernel_rfl) (by simp) ?_
    refine AllReadyH.cons (o := ⟨_, _, _, _, _, _⟩) rfl (fun K9 hK => ?_) AllReadyH.nil
    go_simp
    have NB := below_new wc (.cells #[.int .i64 (-1), .int .i64 0, .int .i64 1] 2)
    have KB := KeptIn.of_below (lo := b) (hi := b + 1) NB
    replace TC := Hid.mk' (TC.out.kept KB)
    have IC := Hid.mk' (And.intro (show ¬ b = wc.heap.size by have := SC.out.lt; omega) (show IAx (wc.alloc (.cells #[.int .i64 (-1), .int .i64 0, .int .i64 1] 2)) wc.heap.size [-1, 0, 1] from iat_litx wc [-1, 0, 1]))
    replace KC := Hid.mk' (KC.out.trans KB)
    replace SC := Hid.mk' (SC.out.below NB)
    refine hK.out _ _ trivial (fun hHeld => ?_)
    clear hK K9 NB KB
    try simp only [Act.put, zA, zB, zC]
    generalize wc.alloc (.cells #[.int .i64 (-1), .int .i64 0, .int .i64 1] 2) = wc at *
    refine wpAnyH_ready (rs := [3]) (by kernel_rfl) (by simp) ?_
    refine AllReadyH.cons (o := ⟨_, _, _, _, _, _⟩) rfl (fun K9 hK => ?_) AllReadyH.nil
    go_simp
    refine (l1Pick_any b _ _ _ l [-1, 0, 1] _ SC.out IC.out.2 IC.out.1 (by omega) (by decide) (by decide) hl).mono ?_
    rintro e wc ⟨i3, hi3, rfl, hS, hQ⟩
    obtain ⟨y, hy⟩ : ∃ y, ([-1, 0, 1] : List Int).getD i3 0 = y := ⟨_, rfl⟩
    rw [hy]
    replace TC := Hid.mk' (TC.out.kept hQ)
    replace KC := Hid.mk' (KC.out.trans hQ)
    replace SC := Hid.mk' hS
    clear hS hQ IC hi3 hy
    refine hK.out _ _ trivial (fun hHeld => ?_)
    clear hK K9
    try simp only [Act.put, zA, zB, zC]
    refine wpAnyH_ready (rs := [6]) (by kernel_rfl) (by simp) ?_
    refine AllReadyH.cons (o := ⟨_, _, _, _, _, _⟩) rfl (fun K9 hK => ?_) AllReadyH.nil
    go_simp
    refine (l1Next_any b _ l 3 _ SC.out (by omega) (by decide) (by decide) hl).mono ?_
    rintro e wc ⟨z, rfl, z0, z1, hS, hQ⟩
    obtain ⟨j, rfl⟩ : ∃ j : Nat, z = (j : Int) := ⟨z.toNat, by omega⟩
    replace TC := Hid.mk' (TC.out.kept hQ)
    replace KC := Hid.mk' (KC.out.trans hQ)
    replace SC := Hid.mk' hS
    clear hS hQ
    refine hK.out _ _ trivial (fun hHeld => ?_)
    clear hK K9
    try simp only [Act.put, zA, zB, zC]
    refine tkY 7 ?_
    refine wpAnyH_ready (rs := [8, 11]) (by kernel_rfl) (by simp) ?_
    refine AllReadyH.cons (o := ⟨_, _, _, _, _, _⟩) rfl (fun K9 hK => ?_) (AllReadyH.cons (o := ⟨_, _, _, _, _, _⟩) rfl (fun K9 hK => ?_) AllReadyH.nil)
    obtain ⟨tg, htg, htz⟩ := TC.out.at j (by omega)
    go_simp
    have HTZ := Hid.mk' htz
    clear htg htz TC
    refine hK.out _ _ trivial (fun hHeld => ?_)
    clear hK K9
    try simp only [Act.put, zA, zB, zC]
    refine wpAnyH_ready (rs := [11]) (by kernel_rfl) (by simp) ?_
    refine AllReadyH.cons (o := ⟨_, _, _, _, _, _⟩) rfl (fun K9 hK => ?_) AllReadyH.nil
    go_simp
    refine (l1Next_any b _ l 2 _ SC.out (by omega) (by decide) (by decide) hl).mono ?_
    rintro e wc ⟨z, rfl, n0, n1, hS, hQ⟩
    obtain ⟨n, rfl⟩ : ∃ n : Nat, z = (n : Int) := ⟨z.toNat, by omega⟩
    replace KC := Hid.mk' (KC.out.trans hQ)
    replace SC := Hid.mk' hS
    clear hS hQ
    refine hK.out _ _ trivial (fun hHeld => ?_)
    clear hK K9
    try simp only [Act.put, zA, zB, zC]
    refine wpAnyH_ready (rs := [12]) (by kernel_rfl) (by simp) ?_
    refine AllReadyH.cons (o := ⟨_, _, _, _, _, _⟩) rfl (fun K9 hK => ?_) AllReadyH.nil
    go_simp
    refine (l1SomeD_any b _ n l _ SC.out (by omega) (by omega) hl).mono ?_
    rintro e wc ⟨v, out, rfl, ho, hD⟩
    subst ho
    obtain ⟨pv, qv, rfl⟩ := own_form hD.own
    have hS := hD.src
    have hQ := hD.kept
    have OC := Hid.mk' (And.intro KC.out.size hD.own)
    clear hD
    replace KC := Hid.mk' (KC.out.trans hQ)
    replace SC := Hid.mk' hS
    clear hS hQ
    refine hK.out _ _ trivial (fun hHeld => ?_)
    clear hK K9
    try simp only [Act.put, zA, zB, zC]
    refine tkY 13 ?_
    rotate_left
    go_simp
    refine (l1Next_any b _ l 2 _ SC.out (by omega) (by decide) (by decide) hl).mono ?_
    rintro e wc ⟨z, rfl, n0, n1, hS, hQ⟩
    obtain ⟨n, rfl⟩ : ∃ n : Nat, z = (n : Int) := ⟨z.toNat, by omega⟩
    replace TC := Hid.mk' (TC.out.kept hQ)
    replace KC := Hid.mk' (KC.out.trans hQ)
    replace SC := Hid.mk' hS
    clear hS hQ
    refine hK.out _ _ trivial (fun hHeld => ?_)
    clear hK K9
    try simp only [Act.put, zA, zB, zC]
    refine wpAnyH_ready (rs := [8, 12]) (by kernel_rfl) (by simp) ?_
    refine AllReadyH.cons (o := ⟨_, _, _, _, _, _⟩) rfl (fun K9 hK => ?_) (AllReadyH.cons (o := ⟨_, _, _, _, _, _⟩) rfl (fun K9 hK => ?_) AllReadyH.nil)
    obtain ⟨tg, htg, htz⟩ := TC.out.at j (by omega)
    go_simp
    have HTZ := Hid.mk' htz
    clear htg htz TC
    refine hK.out _ _ trivial (fun hHeld => ?_)
    clear hK K9
    try simp only [Act.put, zA, zB, zC]
    refine wpAnyH_ready (rs := [12]) (by kernel_rfl) (by simp) ?_
    refine AllReadyH.cons (o := ⟨_, _, _, _, _, _⟩) rfl (fun K9 hK => ?_) AllReadyH.nil
    go_simp
    refine (l1SomeD_any b _ n l _ SC.out (by omega) (by omega) hl).mono ?_
    rintro e wc ⟨v, out, rfl, ho, hD⟩
    subst ho
    obtain ⟨pv, qv, rfl⟩ := own_form hD.own
    have hS := hD.src
    have hQ := hD.kept
    have OC := Hid.mk' (And.intro KC.out.size hD.own)
    clear hD
    replace KC := Hid.mk' (KC.out.trans hQ)
    replace SC := Hid.mk' hS
    clear hS hQ
    refine hK.out _ _ trivial (fun hHeld => ?_)
    clear hK K9
    try simp only [Act.put, zA, zB, zC]
    refine tkY 13 ?_
    rotate_left
    go_simp
    refine (l1SomeD_any b _ n l _ SC.out (by omega) (by omega) hl).mono ?_
    rintro e wc ⟨v, out, rfl, ho, hD⟩
    subst ho
    obtain ⟨pv, qv, rfl⟩ := own_form hD.own
    have hS := hD.src
    have hQ := hD.kept
    have OC := Hid.mk' (And.intro KC.out.size hD.own)
    clear hD
    replace TC := Hid.mk' (TC.out.kept hQ)
    replace KC := Hid.mk' (KC.out.trans hQ)
    replace SC := Hid.mk' hS
    clear hS hQ
    refine hK.out _ _ trivial (fun hHeld => ?_)
    clear hK K9
    try simp only [Act.put, zA, zB, zC]
    refine wpAnyH_ready (rs := [8]) (by kernel_rfl) (by simp) ?_
    refine AllReadyH.cons (o := ⟨_, _, _, _, _, _⟩) rfl (fun K9 hK => ?_) AllReadyH.nil
    obtain ⟨tg, htg, htz⟩ := TC.out.at j (by omega)
    go_simp
    have HTZ := Hid.mk' htz
    clear htg htz TC
    refine hK.out _ _ trivial (fun hHeld => ?_)
    clear hK K9
    try simp only [Act.put, zA, zB, zC]
    refine tkY 13 ?_
    rotate_left
    all_goals (
      refine wpAnyH_ready (rs := [14]) (by kernel_rfl) (by simp) ?_
      refine AllReadyH.cons (o := ⟨_, _, _, _, _, _⟩) rfl (fun K9 hK => ?_) AllReadyH.nil
      go_simp
      have NB := below_new wc (.cells #[.int .i64 y, .string tg, .slice none 0 0, .slice pv out.length qv] 44)
      have KB := KeptIn.of_below (lo := b) (hi := b + 1) NB
      replace OC := Hid.mk' (And.intro OC.out.1 (own_keep OC.out.2 NB))
      have K5 := Hid.mk' (KC.out.trans KB)
      have S5 := Hid.mk' (SC.out.below NB)
      have L5 := Nat.le_trans hlo2 K5.out.size
      refine hK.out _ _ trivial (fun hHeld => ?_)
      clear hK K9 NB KB
      try simp only [Act.put, zA, zB, zC]
      refine wpAnyH_ready (rs := [15]) (by kernel_rfl) (by simp) ?_
      refine AllReadyH.cons (o := ⟨_, _, _, _, _, _⟩) rfl (fun K9 hK => ?_) AllReadyH.nil
      refine step_append_at rfl (.tmp 24) (.tmp 38) 24 rfl lo 44 (.agg #[.int .i64 0, .string ⟨#[]⟩, .slice none 0 0, .slice none 0 0]) 4 72 Try.underlying24 Try.info44 rfl (by decide) _ nd.length _ rfl (HN.out.rowS (by omega) K5.out) _ 1 _ [.int .i64 y, .string tg, .slice none 0 0, .slice pv out.length qv] rfl rfl (.inr ⟨_, rfl, one_node wc _ _ _ _ _ _ rfl⟩) (by simp [Value.oneCell']) (by unfold maxLen; omega) (by omega) L5 ?_
      intro v' w6 ho2 hgr hat
      have D6 := Hid.mk' (DrT.put (m := 4000) (k := k) (n := 20) HN.out hbw hlo hlo2 HK.out K5.out S5.out (by omega) (t := ⟨y, tg, [], out⟩) (OA.nil _ _) OC.out.1 OC.out.2 (fun k e => ⟨by simp [Value.ownBlock], fun i hi => absurd hi (Nat.not_lt_zero _)⟩) ho2 hgr hat (by show nd.length + nssz nd + 1 + (tg.size + 0 + 0 + out.length) ≤ 4000; have := HTZ.out; omega))
      clear ho2 hgr hat
      refine hK.out _ _ trivial (fun hHeld => ?_)
      clear hK K9
      try simp only [Act.put, zA, zB, zC]
      refine tkY 16 ?_
      refine wpAnyH_done (by kernel_rfl) ?_ _
      go_wp2_with fail
      go_ret
      exact D6.out)
  by_cases c2 : x = 2
  · subst c2
    have hi0 : IAx (w2.alloc (.cells ([1, 61].map (Value.int .i64)).toArray 2)) w2.heap.size [1, 61] := iat_litx w2 [1, 61]
    have NB := below_new w2 (.cells ([1, 61].map (Value.int .i64)).toArray 2)
    have KP := Hid.mk' (l1Pick_any b (k1 + 1) w2.heap.size 2 l [1, 61] _ (HS2.out.below NB) hi0 (by omega) (by omega) (by decide) (by decide) hl)
    have K3 := Hid.mk' (HK2.out.trans (KeptIn.of_below NB))
    clear hi0 NB
    go_wp2_with fail
    refine KP.out.mono ?_
    rintro e w3 ⟨i, hi, rfl, hS3, hK3⟩
    obtain ⟨n, hn, hn61⟩ : ∃ n : Nat, ([1, 61] : List Int).getD i 0 = (n : Int) ∧ n ≤ 61 := by
      have h2 : i < 2 := hi
      have : i = 0 ∨ i = 1 := by omega
      rcases this with rfl | rfl
      · exact ⟨1, rfl, by decide⟩
      · exact ⟨61, rfl, by decide⟩
    rw [hn]
    have K3 := Hid.mk' (K3.out.trans hK3)
    have HS3 := Hid.mk' hS3
    clear hS3 hK3 KP hi hn
    have hmk := make_nodes (P := Try.prog) 24 44 Try.underlying24 Try.info44 n (by omega)
    go_wp2_with fail
    go_ret
    have e1 : (List.replicate n ZN).length = n := List.length_replicate
    have NB := below_new w3 (.cells (madeCells #[.int .i64 0, .string ⟨#[]⟩, .slice none 0 0, .slice none 0 0] (n * 4)) 44)
    exact ⟨List.replicate n ZN, _, some ⟨w3.heap.size, 0, none⟩, n, _, _, _, w3.heap.size, k1 + 1 + 1, by rw [e1]; rfl, by rw [e1]; exact zero_ns w3 n (by omega), Nat.le_trans s1 K3.out.size, NB.size, by rw [e1, nssz_rep]; omega, by omega, HS3.out.below NB, (HK.out.trans K3.out).trans (KeptIn.of_below NB)⟩
  by_cases c3 : x = 3
  · subst c3
    go_wp2_with fail
    have K0 := Hid.mk' (HK.out.trans HK2.out)
    clear HN HK HK2 hsz hlo hlo2
    go_loopw [3, 4] (fun v i wr => ∃ (m : Nat) (nd : List ND) (τ : Nat → Nat) (va vt : Nat → Value) (us : Nat → List Value) (k' : Nat), i = .int .i64 (m : Int) ∧ m ≤ 9 ∧ nd.length = m ∧ nssz nd ≤ m ∧ NS τ w2.heap.size wr v nd va vt us ∧ Src b l k' wr ∧ k' ≤ k1 + 1 + m ∧ KeptIn b (b + 1) w2 wr) (fun _ i _ => 9 - (intOf i).toNat)
    case atStart => exact ⟨0, [], fun _ => 0, fun _ => undef, fun _ => undef, fun _ => [], k1 + 1, rfl, by omega, rfl, Nat.le_refl _, NS.nil _ _ _ _ _ _, HS2.out, by omega, KeptIn.refl _ _ _⟩
    case round =>
      obtain ⟨m, nd, τ, va, vt, us, k', rfl, hm, hnl, hns, hN, hS, hk', hK⟩ := hrel
      subst hnl
      have hi0 : IAx (wr.alloc (.cells ([8, 9].map (Value.int .i64)).toArray 2)) wr.heap.size [8, 9] := iat_litx wr [8, 9]
      have NB := below_new wr (.cells ([8, 9].map (Value.int .i64)).toArray 2)
      have hbr := hS.lt
      have KP := Hid.mk' (l1Pick_any b k' wr.heap.size 2 l [8, 9] _ (hS.below NB) hi0 (by omega) (by omega) (by decide) (by decide) hl)
      have K3 := Hid.mk' (KeptIn.of_below (lo := b) (hi := b + 1) NB)
      have HN := Hid.mk' hN
      have HK := Hid.mk' hK
      obtain ⟨pv, qv, ev, _⟩ := own_len hN.row
      subst ev
      clear hi0 NB hN hS hK
      go_wp2_with fail
      refine KP.out.mono ?_
      rintro e w3 ⟨i, hi, rfl, hS3, hK3⟩
      obtain ⟨n, hn, hn9⟩ : ∃ n : Nat, ([8, 9] : List Int).getD i 0 = (n : Int) ∧ n ≤ 9 := by
        have h2 : i < 2 := hi
        have : i = 0 ∨ i = 1 := by omega
        rcases this with rfl | rfl
        · exact ⟨8, rfl, by decide⟩
        · exact ⟨9, rfl, by decide⟩
      rw [hn]
      have K3 := Hid.mk' (K3.out.trans hK3)
      have HS3 := Hid.mk' hS3
      clear hS3 hK3 KP hi hn
      by_cases hlt : nd.length < n
      · have ci : (nd.length : Int) < (n : Int) := by omega
        have NN := below_new w3 (.cells #[.int .i64 ((nd.length : Int) - 1), .string ⟨#[98]⟩, .slice none 0 0, .slice none 0 0] 44)
        have K5 : Hid (KeptIn b (b + 1) wr _) := Hid.mk' (K3.out.trans (KeptIn.of_below NN))
        have HS5 := Hid.mk' (HS3.out.below NN)
        have w25 : w2.heap.size ≤ _ := Nat.le_trans HK.out.size K5.out.size
        clear NN
        go_wp2_with (at_builtin; refine wpList_append_at _ rfl (.tmp 55) (.tmp 59) 24 rfl w2.heap.size 44 (.agg #[.int .i64 0, .string ⟨#[]⟩, .slice none 0 0, .slice none 0 0]) 4 72 Try.underlying24 Try.info44 rfl (by decide) _ nd.length _ rfl (HN.out.rowS (by have := HS2.out.lt; omega) K5.out) _ 1 _ [.int .i64 ((nd.length : Int) - 1), .string ⟨#[98]⟩, .slice none 0 0, .slice none 0 0] rfl rfl (.inr ⟨_, rfl, one_node w3 _ _ _ _ _ _ rfl⟩) (by simp [Value.oneCell']) (by unfold maxLen; omega) (by omega) w25 ?_; intro v' w6 ho2 hgr hat)
        obtain ⟨τ', va', vt', us', A⟩ := HN.out.appS (b := b) (lo1 := wr.heap.size) (by have := HS2.out.lt; omega) HK.out.size K5.out (t := ⟨(nd.length : Int) - 1, ⟨#[98]⟩, [], []⟩) (OA.nil _ _) (Nat.le_refl _) ⟨rfl, .inl ⟨rfl, rfl⟩⟩ (fun k e => by simp [Value.ownBlock] at e) ho2 hgr hat
        have lb := own_lo HN.out.row
        have K6 := Hid.mk' ((HK.out.trans K5.out).grown hgr (fun k e => lb k e))
        have S6 : Hid (Src b l (k' + 1) w6) := Hid.mk' (HS5.out.kept (lo := w2.heap.size) (hi := w6.heap.size) ⟨hgr.os, hgr.tape, hgr.output, hgr.size, fun j hj hc => hgr.block j hj (fun e => by have := lb j e.symm; have := hgr.size; omega)⟩ HS2.out.lt)
        have HA := Hid.mk' A
        clear A ho2 hgr hat lb
        go_roundw
        case rel =>
          refine ⟨nd.length + 1, nd ++ [⟨(nd.length : Int) - 1, ⟨#[98]⟩, [], []⟩], τ', va', vt', us', k' + 1, by go_num, by omega, by simp, ?_, HA.out, S6.out, by omega, K6.out⟩
          rw [nssz_snoc]
          show nssz nd + 1 ≤ _
          omega
        case measure => simp [intOf]; omega
      · have ci : ¬ (nd.length : Int) < (n : Int) := by omega
        go_wp2_with fail
        go_ret
        have hb2 := HS2.out.lt
        exact ⟨nd, _, pv, qv, va, vt, us, w2.heap.size, k' + 1, rfl, HN.out.around (lo' := w2.heap.size) (w' := w3) (Nat.le_refl _) rfl (fun k h2 h3 => K3.out.block k h3 (.inr (by omega))), K0.out.size, Nat.le_trans HK.out.size K3.out.size, by omega, by omega, HS3.out, (K0.out.trans HK.out).trans K3.out⟩
  have N2 : Hid (NS (fun k => if lo ≤ k ∧ k < w1.heap.size then τ k else 1) lo w2 (.slice p nd.length c) nd va vt us) := Hid.mk' (HN.out.around (Nat.le_refl _) rfl (fun k h2 h3 => HK2.out.block k h3 (.inr (by omega))))
  have KW := Hid.mk' (HK.out.trans HK2.out)
  have e0 : (x == 0) = false := by simpa using c0
  have e1 : (x == 1) = false := by simpa using c1
  have e2 : (x == 2) = false := by simpa using c2
  have e3 : (x == 3) = false := by simpa using c3
  go_wp2
  go_ret
  exact ⟨nd, _, p, c, va, vt, us, lo, k1 + 1, rfl, N2.out, hlo, by omega, by omega, by omega, HS2.out, KW.out⟩

end Go.Proofs.Ytlaeomnacgjcgaa

namespace Go.Proofs.Ytlaeomnacgjcgaa
open Go.RowKit

def onWay (l : List ND) (m e : Nat) : Prop := wv (wayU (upF l) e) (depU (upF l) m + 1) = m ∧ depU (upF l) m + 1 < (wayU (upF l) e).length

theorem onWay_start {l : List ND} {n m : Nat} (h : Ways l n) (hm : m < n) : onWay l m (m + 1) := by
  obtain ⟨L, _, en⟩ := way_succ (upF l) m (h m hm)
  exact ⟨en, by omega⟩

theorem inW_dep {l : List ND} {m e : Nat} (h : Ways l l.length) (hme : m < e) (he : e < l.length) (ho : onWay l m e) : inW (wayU (upF l) (e + 1)) m = decide (depU (upF l) m < depU (upF l) e) := by
  obtain ⟨i1, i2⟩ := in_iff (upF l) l.length h hme he ho
  have G := (h.mono (show e + 1 ≤ l.length by omega)).good
  unfold inW
  by_cases c : depU (upF l) m < depU (upF l) e
  · obtain ⟨h1, h2⟩ := i1 c
    rw [← h1, G.ix h2, decide_eq_true h2, decide_eq_true c]
  · rw [ixF_none _ _ (i2 c), decide_eq_false c, decide_eq_false (Nat.lt_irrefl _)]

set_option maxHeartbeats 3200000 in
theorem specEnd_any (a : Option Addr) (c : Nat) (l : List ND) (x : Int) (w : World) (ha : NsAt w a l) (hl : (l.length : Int) + nssz l ≤ 1048576) :
    Calls Try.prog 8 #[.slice a l.length c, .int .i64 x] w fun e w' => e = .returned (.agg #[.int .i64 (askF l x), .int .i64 (endR l x)]) ∧ Below w.heap.size w w' := by
  have N0 := below_new w (.cells #[.int .i64 0, .int .i64 0] 28)
  have KF := l6Asked_any a c l x _ (ha.below N0) hl
  have RB := Hid.mk' (rowp2 w 28 (.int .i64 0) (.int .i64 0))
  have HN := Hid.mk' N0
  have HA := Hid.mk' (ha.below N0)
  clear ha N0
  generalize hW : w.alloc (.cells #[.int .i64 0, .int .i64 0] 28) = W at *
  by_cases h0 : askF l x = 0
  · have E : Hid (endR l x = (endN l x.toNat : Int)) := Hid.mk' (by unfold endR; rw [if_pos h0])
    have HE := Hid.mk' h0
    obtain ⟨h1, m, rfl, hm⟩ : treeF l = 0 ∧ ∃ m : Nat, x = (m : Int) ∧ m < l.length := by
      rcases ask_cases l x with ⟨h1, h2⟩ | ⟨h1, h2, h3⟩ | ⟨h1, h2, h3⟩
      · rw [h2] at h0; exact absurd h0 h1
      · rw [h3] at h0; exact absurd h0 (by decide)
      · exact ⟨h1, h3⟩
    have HWy := Hid.mk' (treeF_ways h1)
    have KI : Hid (∀ (e : Nat) (w' : World), e < l.length → Below W.heap.size W w' → Calls Try.prog 28 #[.slice a l.length c, .int .i64 (e : Int), .int .i64 (m : Int)] w' fun e' w'' => e' = .returned (.bool (inW (wayU (upF l) (e + 1)) m)) ∧ w'' = w') := fun e w' he hb => by
      have := l6In_any a c l (e + 1) (m : Int) w' (HA.out.below hb) (by omega) ((treeF_ways h1).mono (by omega)) (by omega)
      rw [show ((e + 1 : Nat) : Int) - 1 = (e : Int) by omega] at this
      exact this
    rw [h0] at KF
    have KF := Hid.mk' KF
    clear h0 h1
    go_enter Try.func8, Try.ntmps8
    go_wp2_with fail
    clear hW
    refine KF.out.mono ?_
    rintro e w1 ⟨rfl, hb⟩
    have R1 := rowB RB.out hb
    have HB := Hid.mk' (HN.out.trans (hb.mono HN.out.size))
    have HC := Hid.mk' hb
    have HR := Hid.mk' R1
    clear hb KF R1
    go_wp2_with fail
    go_loop [6] (fun i => ∃ e : Nat, m < e ∧ e ≤ l.length ∧ i = .int .i64 e ∧ onWay l m e ∧ endN l m = endU (depU (upF l)) m (l.length - e) e) (fun i => l.length - (intOf i).toNat)
    case atStart => exact ⟨m + 1, by omega, by omega, rfl, onWay_start HWy.out hm, rfl⟩
    case round =>
      obtain ⟨e, he1, he2, rfl, hon, hen⟩ := hrel
      have HO := Hid.mk' hon
      have HD := Hid.mk' hen
      clear hon hen
      by_cases hlt : e < l.length
      · have ci : (e : Int) < (l.length : Int) := by omega
        have KJ := KI.out e w1 hlt HC.out
        rw [inW_dep HWy.out he1 hlt HO.out] at KJ
        by_cases hdp : depU (upF l) m < depU (upF l) e
        · rw [decide_eq_true hdp] at KJ
          have KJ := Hid.mk' KJ
          have E2 := Hid.mk' (endU_step (d := depU (upF l)) (a := m) hlt hdp)
          have O2 := Hid.mk' ((in_iff (upF l) l.length HWy.out he1 hlt HO.out).1 hdp)
          clear hdp
          go_wp2_with (first | go_big_skip | (go_at_call 28; refine KJ.out.mono ?_; rintro e9 w9 ⟨rfl, hw9⟩; obtain rfl := hw9.symm))
          go_round
          case rel => exact ⟨e + 1, by omega, by omega, by go_num, O2.out, by rw [HD.out, E2.out]⟩
          case measure => simp [intOf]; omega
        · rw [decide_eq_false hdp] at KJ
          have KJ := Hid.mk' KJ
          have E2 : Hid (endN l m = e) := Hid.mk' (by rw [HD.out]; exact endU_stop hdp)
          obtain ⟨b0, b1, b2⟩ := cells2 HR.out
          have f0 := HR.out.frozen 0
          have f1 := HR.out.frozen 1
          clear hdp
          go_wp2_with (first | go_big_skip | (go_at_call 28; refine KJ.out.mono ?_; rintro e9 w9 ⟨rfl, hw9⟩; obtain rfl := hw9.symm))
          refine bodyPost_ret (v := .agg #[.int .i64 0, .int .i64 (e : Int)]) (by simp [results, Try.results8, go_sem, *]) rfl ?_
          exact ⟨by rw [HE.out, E.out, Int.toNat_natCast, E2.out], (HB.out.setCell (p := ⟨w.heap.size, 0, none⟩) (Nat.le_refl _) _).setCell (p := ⟨w.heap.size, 1, none⟩) (Nat.le_refl _) _⟩
      · have ci : ¬ (e : Int) < (l.length : Int) := by omega
        have E2 : Hid (endN l m = e) := Hid.mk' (by rw [HD.out]; exact endU_all (by omega))
        obtain ⟨b0, b1, b2⟩ := cells2 HR.out
        have f0 := HR.out.frozen 0
        have f1 := HR.out.frozen 1
        go_wp2_with go_big_skip
        refine bodyPost_ret (v := .agg #[.int .i64 0, .int .i64 (e : Int)]) (by simp [results, Try.results8, go_sem, *]) rfl ?_
        exact ⟨by rw [HE.out, E.out, Int.toNat_natCast, E2.out], (HB.out.setCell (p := ⟨w.heap.size, 0, none⟩) (Nat.le_refl _) _).setCell (p := ⟨w.heap.size, 1, none⟩) (Nat.le_refl _) _⟩
  · have E : Hid (endR l x = 0) := Hid.mk' (by unfold endR; rw [if_neg h0])
    have KF := Hid.mk' KF
    go_enter Try.func8, Try.ntmps8
    go_wp2_with fail
    clear hW
    refine KF.out.mono ?_
    rintro e w1 ⟨rfl, hb⟩
    have R1 := rowB RB.out hb
    have HB := Hid.mk' (HN.out.trans (hb.mono HN.out.size))
    obtain ⟨b0, b1, b2⟩ := cells2 R1
    have f0 := R1.frozen 0
    have f1 := R1.frozen 1
    clear hb KF R1
    go_wp2
    refine bodyPost_ret (v := .agg #[.int .i64 (askF l x), .int .i64 0]) (by simp [results, Try.results8, go_sem, *]) rfl ?_
    exact ⟨by rw [E.out], (HB.out.setCell (p := ⟨w.heap.size, 0, none⟩) (Nat.le_refl _) _).setCell (p := ⟨w.heap.size, 1, none⟩) (Nat.le_refl _) _⟩

set_option maxHeartbeats 3200000 in
theorem end_any (w0 : World) (base g : Nat) (l : List ND) (pa : Nat → Option Addr) (ca : Nat → Nat) (vn vw : Value) (m : Nat) (w : World) (h : TT w0 base g l pa ca l.length vn vw w) (hm : m < l.length) (hl : (l.length : Int) ≤ 1048576) :
    Calls Try.prog 26 #[.pointer (some ⟨g, 0, none⟩), .int .i64 (m : Int)] w fun e w' => e = .returned (.int .i64 (endN l m : Int)) ∧ Below w.heap.size w w' := by
  obtain ⟨nb, cap, rfl, _, _, hnode⟩ := h.node (by omega)
  obtain ⟨c0, c1, c2⟩ := cells2 h.box
  have HN := Hid.mk' hnode
  have HC := Hid.mk' c0
  clear h hnode c1
  go_enter Try.func26, Try.ntmps26
  go_wp2_with fail
  go_loopw [5] (fun i wr => ∃ e : Nat, m < e ∧ e ≤ l.length ∧ i = .int .i64 e ∧ endN l m = endU (depU (upF l)) m (l.length - e) e ∧ Below w.heap.size w wr) (fun i _ => l.length - (intOf i).toNat)
  case atStart => exact ⟨m + 1, by omega, by omega, rfl, rfl, Below.refl _ _⟩
  case round =>
    obtain ⟨e, he1, he2, rfl, hen, hbl⟩ := hrel
    have HD := Hid.mk' hen
    have HB := Hid.mk' hbl
    have k0 := (hbl.cell c2).trans HC.out
    have HC := Hid.mk' k0
    clear hen c0
    have KH : Hid (∀ w', w'.cell? ⟨g, 0, none⟩ = some (.slice (some ⟨nb, 0, none⟩) l.length cap) → Calls Try.prog 25 #[.pointer (some ⟨g, 0, none⟩), .int .i64 (e : Int)] w' fun e' w'' => e' = .returned (.bool (decide ((e : Int) ≥ 0) && decide ((e : Int) < (l.length : Int)))) ∧ w'' = w') := fun w' hc => hasPlace_any g (some ⟨nb, 0, none⟩) l.length cap e w' hc
    by_cases hlt : e < l.length
    · have ci : (e : Int) < (l.length : Int) := by omega
      have cm : (m : Int) < (l.length : Int) := by omega
      rw [show (decide ((e : Int) ≥ 0) && decide ((e : Int) < (l.length : Int))) = true by simp; omega] at KH
      have d4 := (hbl.cell (World.block_lt_of_cell? w ⟨nb, e * 5 + 4, none⟩ (HN.out e hlt).2.2.2.2)).trans (HN.out e hlt).2.2.2.2
      have d5 := (hbl.cell (World.block_lt_of_cell? w ⟨nb, m * 5 + 4, none⟩ (HN.out m hm).2.2.2.2)).trans (HN.out m hm).2.2.2.2
      clear hbl
      by_cases hdp : depU (upF l) m < depU (upF l) e
      · have E2 := Hid.mk' (endU_step (d := depU (upF l)) (a := m) hlt hdp)
        have hd2 : (depU (upF l) e : Int) > (depU (upF l) m : Int) := by omega
        go_wp2_with fail
        go_quiet (first | (go_at_call 25; refine Calls.quiet_of_same (KH.out _ ?_); first | exact HC.out | simpa using HC.out))
        go_wp2
        go_roundw
        case rel => exact ⟨e + 1, by omega, by omega, by go_num, by rw [HD.out, E2.out], below_drewN HB.out _⟩
        case measure => simp [intOf]; omega
      · have E2 : Hid (endN l m = e) := Hid.mk' (by rw [HD.out]; exact endU_stop hdp)
        have hd2 : ¬ (depU (upF l) e : Int) > (depU (upF l) m : Int) := by omega
        go_wp2_with fail
        go_quiet (first | (go_at_call 25; refine Calls.quiet_of_same (KH.out _ ?_); first | exact HC.out | simpa using HC.out))
        go_wp2
        go_ret
        exact ⟨by rw [E2.out]; rfl, below_drewN HB.out _⟩
    · have ci : ¬ (e : Int) < (l.length : Int) := by omega
      have E2 : Hid (endN l m = e) := Hid.mk' (by rw [HD.out]; exact endU_all (by omega))
      rw [show (decide ((e : Int) ≥ 0) && decide ((e : Int) < (l.length : Int))) = false by simp; omega] at KH
      go_wp2_with fail
      go_quiet (first | (go_at_call 25; refine Calls.quiet_of_same (KH.out _ ?_); first | exact HC.out | simpa using HC.out))
      go_wp2
      go_ret
      exact ⟨by rw [E2.out]; rfl, below_drewN HB.out _⟩

set_option maxHeartbeats 3200000 in
theorem implEnd_any (a : Option Addr) (c : Nat) (l : List ND) (x : Int) (w : World) (ha : NsAt w a l) (hl : (l.length : Int) + nssz l ≤ 1048576) :
    Calls Try.prog 7 #[.slice a l.length c, .int .i64 x] w fun e w' => e = .returned (.agg #[.int .i64 (askF l x), .int .i64 (endR l x)]) ∧ Below w.heap.size w w' := by
  have N0 := below_new w (.cells #[.int .i64 0, .int .i64 0] 28)
  have KF := Hid.mk' (treeOf_any a c l _ (ha.below N0) hl)
  have RB := Hid.mk' (rowp2 w 28 (.int .i64 0) (.int .i64 0))
  have HN := Hid.mk' N0
  clear ha N0
  generalize hW : w.alloc (.cells #[.int .i64 0, .int .i64 0] 28) = W at *
  go_enter Try.func7, Try.ntmps7
  go_wp2_with fail
  clear hW
  refine KF.out.mono ?_
  rintro e w1 (⟨h0, rfl, hb⟩ | ⟨h0, pa, ca, g, vn, vw, rfl, hT⟩)
  · have E1 : Hid (askF l x = treeF l) := Hid.mk' (by unfold askF; rw [if_neg h0])
    have E : Hid (endR l x = 0) := Hid.mk' (by unfold endR; rw [if_neg (by rw [E1.out]; exact h0)])
    have R1 := rowB RB.out hb
    have HB := Hid.mk' (HN.out.trans (hb.mono HN.out.size))
    obtain ⟨b0, b1, b2⟩ := cells2 R1
    have f0 := R1.frozen 0
    have f1 := R1.frozen 1
    clear hb KF R1
    go_wp2
    refine bodyPost_ret (v := .agg #[.int .i64 (treeF l), .int .i64 0]) (by simp [results, Try.results7, go_sem, *]) rfl ?_
    have T := (HB.out.setCell (p := ⟨w.heap.size, 0, none⟩) (Nat.le_refl _) (.int .i64 (treeF l))).setCell (p := ⟨w.heap.size, 1, none⟩) (Nat.le_refl _) (.int .i64 0)
    exact ⟨by rw [E1.out, E.out], T.alloc T.size _⟩
  · obtain ⟨an, cn, ev, _⟩ := own_len hT.on
    subst ev
    obtain ⟨aw, cw, ev, _⟩ := own_len hT.ow
    subst ev
    have N2 := below_new w1 (.cells #[.slice an l.length cn, .slice aw (wayU (upF l) l.length).length cw] 47)
    have HT2 := Hid.mk' (hT.rebox N2 (Nat.le_refl _) (rowp2 w1 47 (.slice an l.length cn) (.slice aw (wayU (upF l) l.length).length cw)))
    have R1 := rowB RB.out (hT.bl.trans (N2.mono hT.bl.size))
    have HB := Hid.mk' (HN.out.trans ((hT.bl.trans (N2.mono hT.bl.size)).mono HN.out.size))
    have H0 := Hid.mk' h0
    clear hT N2 KF
    obtain ⟨b0, b1, b2⟩ := cells2 R1
    have f0 := R1.frozen 0
    have f1 := R1.frozen 1
    generalize hW2 : w1.alloc (.cells #[.slice an l.length cn, .slice aw (wayU (upF l) l.length).length cw] 47) = W2 at *
    obtain ⟨t0, t1, t2⟩ := cells2 HT2.out.box
    have KH := Hid.mk' (hasPlace_any w1.heap.size an l.length cn x W2 t0)
    rcases ask_cases l x with ⟨h1, h2⟩ | ⟨h1, h2, h3⟩ | ⟨h1, h2, m, rfl, hm⟩
    · exact absurd h0 h1
    · have E : Hid (endR l x = 0) := Hid.mk' (by unfold endR; rw [if_neg (by rw [h3]; decide)])
      have E1 := Hid.mk' h3
      have e1 : (decide (x ≥ 0) && decide (x < (l.length : Int))) = false := by simp; omega
      rw [e1] at KH
      clear h1 h2 h3 e1 h0
      go_wp2_with fail
      clear hW2
      refine KH.out.mono ?_
      rintro e w2 ⟨rfl, hw⟩
      obtain rfl := hw.symm
      go_wp2
      refine bodyPost_ret (v := .agg #[.int .i64 3, .int .i64 0]) (by simp [results, Try.results7, go_sem, *]) rfl ?_
      exact ⟨by rw [E1.out, E.out], (HB.out.setCell (p := ⟨w.heap.size, 0, none⟩) (Nat.le_refl _) _).setCell (p := ⟨w.heap.size, 1, none⟩) (Nat.le_refl _) _⟩
    · have E : Hid (endR l m = (endN l m : Int)) := Hid.mk' (by unfold endR; rw [if_pos h2, Int.toNat_natCast])
      have E1 := Hid.mk' h2
      have e1 : (decide ((m : Int) ≥ 0) && decide ((m : Int) < (l.length : Int))) = true := by simp; omega
      rw [e1] at KH
      have KE := Hid.mk' (end_any W W.heap.size w1.heap.size l pa ca _ _ m W2 HT2.out hm (by omega))
      have HR := Hid.mk' R1
      clear h1 h2 e1 h0 b0 b1 b2 f0 f1 R1
      go_wp2_with fail
      clear hW2
      refine KH.out.mono ?_
      rintro e w2 ⟨rfl, hw⟩
      obtain rfl := hw.symm
      go_wp2_with fail
      refine KE.out.mono ?_
      rintro e w3 ⟨rfl, hb⟩
      have R3 := rowB HR.out hb
      obtain ⟨b0, b1, b2⟩ := cells2 R3
      have f0 := R3.frozen 0
      have f1 := R3.frozen 1
      have HB := Hid.mk' (HB.out.trans (hb.mono HB.out.size))
      clear hb KE R3
      go_wp2
      refine bodyPost_ret (v := .agg #[.int .i64 0, .int .i64 (endN l m : Int)]) (by simp [results, Try.results7, go_sem, *]) rfl ?_
      exact ⟨by rw [E1.out, E.out], (HB.out.setCell (p := ⟨w.heap.size, 0, none⟩) (Nat.le_refl _) _).setCell (p := ⟨w.heap.size, 1, none⟩) (Nat.le_refl _) _⟩

end Go.Proofs.Ytlaeomnacgjcgaa

namespace Go.Proofs.Ytlaeomnacgjcgaa
open Go.RowKit

theorem lwBigT_any (a : Option Addr) (c n : Nat) (w : World) :
    Calls Try.prog 5 #[.slice a n c] w fun e w' => e = .returned (.bool (decide ((1048576 : Int) < (n : Int)))) ∧ w' = w := by
  go_enter Try.func5, Try.ntmps5
  go_wp2
  go_ret
  exact ⟨rfl, rfl⟩

def DrN (w : World) (e : Ending) (w' : World) : Prop :=
  ∃ (nd : List ND) (p : Option Addr) (c : Nat) (x : Int), e = .returned (.tuple #[.slice p nd.length c, .int .i64 x]) ∧ NsAt w' p nd ∧ nd.length + nssz nd ≤ 4000 ∧ -2 ≤ x ∧ x ≤ (nd.length : Int) ∧ Below w.heap.size w w'

set_option maxRecDepth 100000 in
set_option maxHeartbeats 4000000 in
theorem drawKids_any (q : Option Addr) (c' : Nat) (l : List Int) (w : World) (hd : BAt w q l) (hu : Byt l) (hl : (l.length : Int) ≤ 1048576) :
    Calls Try.prog 10 #[.slice q l.length c'] w fun e w' => DrN w e w' := by
  have KS := Hid.mk' (l1Source_any q c' l w hd (fun i hi => ⟨(hu i hi).1, by have := (hu i hi).2; omega⟩))
  clear hd hu
  go_enter Try.func10, Try.ntmps10
  go_wp2_with fail
  refine KS.out.mono ?_
  rintro e w1 ⟨rfl, hS, hB⟩
  obtain ⟨b, hb⟩ : ∃ b, w.heap.size = b := ⟨_, rfl⟩
  rw [hb] at hS
  try rw [hb]
  have lb : b < w1.heap.size := hS.lt
  have KB := Hid.mk' (l6Bent_any b 0 l w1 hS (by omega) hl)
  have HB := Hid.mk' hB
  clear hS hB KS
  go_wp2_with fail
  refine KB.out.mono ?_
  rintro e w2 ⟨nd, τ, p, c, va, vt, us, lo, k', rfl, hN, hlo, hlo2, hsz, hk, hS, hK⟩
  have HN := Hid.mk' hN
  have HK := Hid.mk' hK
  have KX := Hid.mk' (l1Next_any b k' l ((nd.length : Int) + 3) w2 hS (by omega) (by omega) (by omega) hl)
  clear hN hK hS KB
  go_wp2_with fail
  refine KX.out.mono ?_
  rintro e w3 ⟨x, rfl, x0, x1, hS3, hK3⟩
  obtain ⟨a, c2, ea, hna⟩ := HN.out.nq.at
  injection ea with ea1 _ _
  subst ea1
  have bl : Below w.heap.size w w3 := (HB.out.trans (HK.out.below (by omega) (by rw [hb] at *; have := HB.out.size; omega))).trans (hK3.below (by omega) (by have := HB.out.size; have := HK.out.size; omega))
  have hna3 : NsAt w3 p nd := by
    obtain ⟨a9, c9, ea9, hna9⟩ := (HN.out.around (lo' := lo) (w' := w3) (Nat.le_refl _) rfl (fun k h2 h3 => hK3.block k h3 (.inr (by omega)))).nq.at
    injection ea9 with ea1 _ _
    rw [ea1]; exact hna9
  have BL := Hid.mk' bl
  have NA := Hid.mk' hna3
  have xw : IntKind.i64.wrap (x - 2) = x - 2 := by rw [IntKind.wrap_i64]; omega
  clear hS3 hK3 KX hna bl hna3 HN
  go_wp2_with fail
  refine bodyPost_ret (v := .tuple #[.slice p nd.length c, .int .i64 (x - 2)]) (by simp [results, Try.results10, go_sem, *]) rfl ?_
  exact ⟨nd, p, c, x - 2, rfl, NA.out, hsz, by omega, by omega, BL.out⟩

set_option maxRecDepth 100000 in
set_option maxHeartbeats 1000000 in
theorem drawEnd_any (q : Option Addr) (c' : Nat) (l : List Int) (w : World) (hd : BAt w q l) (hu : Byt l) (hl : (l.length : Int) ≤ 1048576) :
    Calls Try.prog 6 #[.slice q l.length c'] w fun e w' => DrN w e w' := by
  have KS := Hid.mk' (drawKids_any q c' l w hd hu hl)
  clear hd hu
  go_enter Try.func6, Try.ntmps6
  go_wp2_with fail
  refine KS.out.mono ?_
  rintro e w1 ⟨nd, p, c, x, rfl, hD⟩
  have HD := Hid.mk' hD
  clear hD KS
  go_wp2_with fail
  refine bodyPost_ret (v := .tuple #[.slice p nd.length c, .int .i64 x]) (by simp [results, Try.results6, go_sem, *]) rfl ?_
  exact ⟨nd, p, c, x, rfl, HD.out⟩

theorem endU_facts (d : Nat → Nat) (a : Nat) : ∀ n e, e ≤ endU d a n e ∧ endU d a n e ≤ e + n ∧ (∀ i, e ≤ i → i < endU d a n e → d a < d i) ∧ (endU d a n e = e + n ∨ ¬ d a < d (endU d a n e))
  | 0, e => ⟨Nat.le_refl _, Nat.le_refl _, fun i h1 h2 => absurd h2 (by show ¬ i < e; omega), .inl rfl⟩
  | n + 1, e => by
    have h := endU_facts d a n (e + 1)
    by_cases c : d a < d e
    · have e1 : endU d a (n + 1) e = endU d a n (e + 1) := by show (if d a < d e then _ else _) = _; rw [if_pos c]
      rw [e1]
      obtain ⟨h1, h2, h3, h4⟩ := h
      refine ⟨by omega, by omega, fun i g1 g2 => ?_, ?_⟩
      · by_cases ei : i = e
        · rw [ei]; exact c
        · exact h3 i (by omega) g2
      · rcases h4 with h4 | h4
        · exact .inl (by omega)
        · exact .inr h4
    · have e1 : endU d a (n + 1) e = e := endU_stop c
      rw [e1]
      exact ⟨Nat.le_refl _, by omega, fun i g1 g2 => by omega, .inr c⟩

theorem endN_facts (l : List ND) (a : Nat) (h : a < l.length) : a < endN l a ∧ endN l a ≤ l.length ∧ (∀ i, a < i → i < endN l a → depU (upF l) a < depU (upF l) i) ∧ (endN l a = l.length ∨ ¬ depU (upF l) a < depU (upF l) (endN l a)) := by
  obtain ⟨h1, h2, h3, h4⟩ := endU_facts (depU (upF l)) a (l.length - (a + 1)) (a + 1)
  unfold endN
  refine ⟨by omega, by omega, fun i g1 g2 => h3 i (by omega) g2, ?_⟩
  rcases h4 with h4 | h4
  · exact .inl (by omega)
  · exact .inr h4

end Go.Proofs.Ytlaeomnacgjcgaa

namespace Go.Proofs.Ytlaeomnacgjcgaa
open Go.RowKit

theorem fNE0 (a b : Int) (w : World) : (Instr.field 28 (.agg #[.int .i64 a, .int .i64 b]) 0).run Try.prog w = .ok (.int .i64 a) w := by kernel_rfl
theorem fNE1 (a b : Int) (w : World) : (Instr.field 28 (.agg #[.int .i64 a, .int .i64 b]) 1).run Try.prog w = .ok (.int .i64 b) w := by kernel_rfl

set_option maxRecDepth 100000 in
set_option maxHeartbeats 8000000 in
theorem lawNE_any (q : Option Addr) (c' : Nat) (l : List Int) (w : World) (hd : BAt w q l) (hu : Byt l) (hl : (l.length : Int) ≤ 9223372036854775807) :
    Calls Try.prog 3 #[.slice q l.length c'] w fun e w' => e = .returned (.bool true) ∧ Below w.heap.size w w' := by
  have K0 := Hid.mk' (lwBigT_any q c' l.length w)
  by_cases g1 : (1048576 : Int) < (l.length : Int)
  · go_enter Try.func3, Try.ntmps3
    go_wp2_with fail
    refine K0.out.mono ?_
    rintro e w1 ⟨rfl, hw1⟩
    obtain rfl := hw1.symm
    rw [decide_eq_true g1]
    go_wp2
    go_ret
    exact ⟨rfl, Below.refl _ _⟩
  have ll : (l.length : Int) ≤ 1048576 := by omega
  have KA := Hid.mk' (drawEnd_any q c' l w hd hu ll)
  clear hd hu
  go_enter Try.func3, Try.ntmps3
  go_wp2_with fail
  refine K0.out.mono ?_
  rintro e w1 ⟨rfl, hw1⟩
  obtain rfl := hw1.symm
  rw [decide_eq_false (show ¬ (1048576 : Int) < (l.length : Int) by omega)]
  clear K0 g1 hw1
  go_wp2_with fail
  refine KA.out.mono ?_
  rintro e w2 ⟨nd, p, c, x, rfl, hna, hsz, x0, x1, hb2⟩
  have HB := Hid.mk' hb2
  have HA := Hid.mk' hna
  have nl : (nd.length : Int) + nssz nd ≤ 1048576 := by omega
  have KE := Hid.mk' (implEnd_any p c nd x w2 hna nl)
  have fn0 := fNE0
  have fn1 := fNE1
  clear hna hb2 KA
  go_wp2_with fail
  refine KE.out.mono ?_
  rintro e w3 ⟨rfl, hb3⟩
  have HB := Hid.mk' (HB.out.trans (hb3.mono HB.out.size))
  have HA := Hid.mk' (HA.out.below hb3)
  clear hb3 KE
  have NB := below_new w3 (.cells #[.int .i64 (askF nd x), .int .i64 (endR nd x)] 28)
  have HB := Hid.mk' (HB.out.trans (NB.mono HB.out.size))
  have HA := Hid.mk' (HA.out.below NB)
  have RW := Hid.mk' (rowQ2 w3 28 (.int .i64 (askF nd x)) (.int .i64 (endR nd x)))
  clear NB
  rcases ask_cases nd x with ⟨h1, h2⟩ | ⟨h1, h3, h2⟩ | ⟨h1, h2, m, rfl, hm⟩
  · have hne : ¬ askF nd x = 0 := by rw [h2]; exact h1
    clear h1  h2
    obtain ⟨A, hA⟩ : ∃ A, askF nd x = A := ⟨_, rfl⟩
    have er : endR nd x = 0 := by unfold endR; rw [if_neg hne]
    rw [hA] at hne
    have EA := Hid.mk' hA
    rw [hA, er] at HB HA RW
    rw [hA, er]
    clear hA er
    go_wp2_with fail
    generalize w3.alloc (.cells #[.int .i64 A, .int .i64 0] 28) = W at *
    obtain ⟨g, hg⟩ : ∃ g, w3.heap.size = g := ⟨_, rfl⟩
    rw [hg] at RW
    try rw [hg]
    obtain ⟨y0, y1, _⟩ := cellsQ2 RW.out
    have ne : (A != 0) = true := by simpa using hne
    refine wp_region_held_drew (S := fun w' => w'.cell? ⟨g, 0, none⟩ = some (.int .i64 A)) (by kernel_rfl) y0 (fun hHeld => ?_)
    refine tkY 0 ?_
    refine tkY 1 ?_
    refine tkY 4 ?_
    refine tkY 5 ?_
    refine wpAnyH_ready (rs := [2]) (by kernel_rfl) (by simp) ?_
    refine AllReadyH.cons (o := ⟨_, _, _, _, _, _⟩) rfl (fun K hK => ?_) AllReadyH.nil
    go_simp
    refine (specEnd_any p c nd x W.drew (HA.out.below (Below.refl _ _).drew) nl).mono ?_
    rintro e w4 ⟨rfl, hb4⟩
    replace hb4 := undrew hb4
    rw [EA.out]
    have HB4 := Hid.mk' (HB.out.trans (hb4.mono HB.out.size))
    have z0 := (hb4.cell RW.out.lt).trans y0
    clear hb4
    refine hK.out _ _ z0 (fun hHeld => ?_)
    clear hK K
    try simp only [Act.put, zA, zB, zC]
    refine tkY 3 ?_
    refine tkY 6 ?_
    refine tkY 7 ?_
    refine wpAnyH_done (by kernel_rfl) ?_ _
    go_wp2_with fail
    go_ret
    exact ⟨by simp, HB4.out⟩
  · have hne : ¬ askF nd x = 0 := by rw [h2]; decide
    clear h1 h3 h2
    obtain ⟨A, hA⟩ : ∃ A, askF nd x = A := ⟨_, rfl⟩
    have er : endR nd x = 0 := by unfold endR; rw [if_neg hne]
    rw [hA] at hne
    have EA := Hid.mk' hA
    rw [hA, er] at HB HA RW
    rw [hA, er]
    clear hA er
    go_wp2_with fail
    generalize w3.alloc (.cells #[.int .i64 A, .int .i64 0] 28) = W at *
    obtain ⟨g, hg⟩ : ∃ g, w3.heap.size = g := ⟨_, rfl⟩
    rw [hg] at RW
    try rw [hg]
    obtain ⟨y0, y1, _⟩ := cellsQ2 RW.out
    have ne : (A != 0) = true := by simpa using hne
    refine wp_region_held_drew (S := fun w' => w'.cell? ⟨g, 0, none⟩ = some (.int .i64 A)) (by kernel_rfl) y0 (fun hHeld => ?_)
    refine tkY 0 ?_
    refine tkY 1 ?_
    refine tkY 4 ?_
    refine tkY 5 ?_
    refine wpAnyH_ready (rs := [2]) (by kernel_rfl) (by simp) ?_
    refine AllReadyH.cons (o := ⟨_, _, _, _, _, _⟩) rfl (fun K hK => ?_) AllReadyH.nil
    go_simp
    refine (specEnd_any p c nd x W.drew (HA.out.below (Below.refl _ _).drew) nl).mono ?_
    rintro e w4 ⟨rfl, hb4⟩
    replace hb4 := undrew hb4
    rw [EA.out]
    have HB4 := Hid.mk' (HB.out.trans (hb4.mono HB.out.size))
    have z0 := (hb4.cell RW.out.lt).trans y0
    clear hb4
    refine hK.out _ _ z0 (fun hHeld => ?_)
    clear hK K
    try simp only [Act.put, zA, zB, zC]
    refine tkY 3 ?_
    refine tkY 6 ?_
    refine tkY 7 ?_
    refine wpAnyH_done (by kernel_rfl) ?_ _
    go_wp2_with fail
    go_ret
    exact ⟨by simp, HB4.out⟩
  · have er : endR nd (m : Int) = (endN nd m : Int) := by unfold endR; rw [if_pos h2, Int.toNat_natCast]
    rw [h2, er] at HB HA RW
    rw [h2, er]
    obtain ⟨f1, f2, f3, f4⟩ := endN_facts nd m hm
    obtain ⟨E, hE⟩ : ∃ E, endN nd m = E := ⟨_, rfl⟩
    rw [hE] at HB HA RW f1 f2 f3 f4
    rw [hE]
    have AD : Hid (∀ i : Nat, i < nd.length → askF nd (i : Int) = 0 ∧ depR nd (i : Int) = (depU (upF nd) i : Int)) := Hid.mk' (fun i hi => by
      have e : askF nd (i : Int) = 0 := by unfold askF; rw [if_pos h1, if_pos ⟨by omega, by omega⟩]
      exact ⟨e, by unfold depR; rw [if_pos e, Int.toNat_natCast]⟩)
    have F3 := Hid.mk' f3
    have F4 := Hid.mk' f4
    obtain ⟨D, hD⟩ : ∃ D, depU (upF nd) m = D := ⟨_, rfl⟩
    rw [hD] at F3 F4
    have c1 : ¬ (m : Int) < 0 := by omega
    have c2 : ¬ (E : Int) ≤ (m : Int) := by omega
    have c3 : ¬ (E : Int) > (nd.length : Int) := by omega
    obtain ⟨W, hW⟩ : ∃ W, w3.alloc (.cells #[.int .i64 0, .int .i64 (E : Int)] 28) = W := ⟨_, rfl⟩
    obtain ⟨g, hg⟩ : ∃ g, w3.heap.size = g := ⟨_, rfl⟩
    rw [hg, hW] at RW
    rw [hW] at HB HA
    have KD := implDepth_any p c nd (m : Int) W HA.out nl
    rw [(AD.out m hm).1, (AD.out m hm).2, hD] at KD
    have KD2 := Hid.mk' KD
    obtain ⟨y0, y1, _⟩ := cellsQ2 RW.out
    clear er f3 f4 hE h1 h2 hD x0 KD
    go_wp2_with (first | (rw [hW]) | (rw [hg]) | fail)
    refine KD2.out.mono ?_
    rintro e w4 ⟨rfl, hb4⟩
    have B4 := Hid.mk' hb4
    clear KD2 hb4
    go_wp2_with fail
    clear hW hg
    go_loopw [7] (fun v wr => ∃ i : Nat, v = .int .i64 (i : Int) ∧ m < i ∧ i ≤ E ∧ Below W.heap.size W wr) (fun v _ => E - (intOf v).toNat)
    case atStart => exact ⟨m + 1, by go_num, by omega, by omega, B4.out⟩
    case round =>
      obtain ⟨i, rfl, hi1, hi2, hbl⟩ := hrel
      have z1 := (hbl.cell (p := ⟨g, 1, none⟩) RW.out.lt).trans y1
      have BL := Hid.mk' hbl
      have NA := Hid.mk' (HA.out.below hbl)
      clear hbl
      by_cases hlt : i < E
      · have ci : (i : Int) < (E : Int) := by omega
        have KD := implDepth_any p c nd (i : Int) wr NA.out nl
        rw [(AD.out i (by omega)).1, (AD.out i (by omega)).2] at KD
        have KD2 := Hid.mk' KD
        have hd3 := F3.out i hi1 hlt
        obtain ⟨J, hJ⟩ : ∃ J, depU (upF nd) i = J := ⟨_, rfl⟩
        rw [hJ] at KD2 hd3
        have cj : ¬ (J : Int) ≤ (D : Int) := by omega
        clear KD hJ
        go_wp2_with fail
        refine KD2.out.mono ?_
        rintro e w5 ⟨rfl, hb5⟩
        have B5 := Hid.mk' (BL.out.trans (hb5.mono BL.out.size))
        clear KD2 hb5
        go_wp2_with fail
        go_roundw
        case rel => exact ⟨i + 1, by go_num, by omega, by omega, B5.out⟩
        case measure => simp [intOf]; omega
      · have ci : ¬ (i : Int) < (E : Int) := by omega
        have BW := Hid.mk' (HB.out.trans (BL.out.mono HB.out.size))
        by_cases hn : E = nd.length
        · have ee : (E : Int) = (nd.length : Int) := by omega
          go_wp2_with fail
          go_ret
          exact ⟨by first | rfl | simp [ee], BW.out⟩
        · have ee : ¬ (E : Int) = (nd.length : Int) := by omega
          have KD := implDepth_any p c nd (E : Int) wr NA.out nl
          rw [(AD.out E (by omega)).1, (AD.out E (by omega)).2] at KD
          have KD2 := Hid.mk' KD
          have hd3 : ¬ D < depU (upF nd) E := by rcases F4.out with h | h; exact absurd h hn; exact h
          obtain ⟨J, hJ⟩ : ∃ J, depU (upF nd) E = J := ⟨_, rfl⟩
          rw [hJ] at KD2 hd3
          have cj : (J : Int) ≤ (D : Int) := by omega
          have eb : ((E : Int) == (nd.length : Int)) = false := by simpa using ee
          clear KD hJ
          go_wp2_with fail
          refine KD2.out.mono ?_
          rintro e w5 ⟨rfl, hb5⟩
          have B5 := Hid.mk' (BW.out.trans (hb5.mono BW.out.size))
          clear KD2 hb5
          go_wp2_with fail
          go_ret
          exact ⟨by first | rfl | simp [cj], B5.out⟩

end Go.Proofs.Ytlaeomnacgjcgaa
