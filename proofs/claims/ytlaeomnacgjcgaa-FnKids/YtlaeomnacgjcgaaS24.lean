/- A tree that is drawn, and bent: what puts a node behind, where the source's box changed. -/
import Derived.Test.YtlaeomnacgjcgaaS23
import Derived.Deep.RegionHeld3
import Derived.Test.YtlaeomnacgjcgaaS21
import Derived.Test.YtlaeomnacgjcgaaS18
set_option linter.unusedVariables false
set_option linter.unusedSimpArgs false
namespace Go.Proofs.Ytlaeomnacgjcgaa
open Go.RowKit

theorem KeptIn.midS {b : Nat} {w w1 : World} (h : KeptIn b (b + 1) w w1) (hb : b < w.heap.size) : ∃ wa : World, wa.heap.size = w.heap.size ∧ (∀ k, ¬ k = b → wa.heap[k]? = w.heap[k]?) ∧ Below w.heap.size wa w1 := by
  have hb1 : b < w1.heap.size := Nat.lt_of_lt_of_le hb h.size
  refine ⟨{ w1 with heap := w.heap.setIfInBounds b w1.heap[b] }, by simp, fun k hk => ?_, ⟨rfl, rfl, rfl, by simpa using h.size, fun k hk => ?_⟩⟩
  · exact Array.getElem?_setIfInBounds_ne (fun e => hk e.symm)
  · by_cases e : k = b
    · subst e
      rw [Array.getElem?_setIfInBounds_self_of_lt hb, Array.getElem?_eq_getElem hb1]
    · rw [h.block k hk (by omega)]
      exact (Array.getElem?_setIfInBounds_ne (fun e2 => e e2.symm)).symm

theorem NS.appS {b : Nat} {τ : Nat → Nat} {lo lo1 : Nat} {w w1 w2 : World} {v v' : Value} {l : List ND} {va vt : Nat → Value} {us : Nat → List Value} (h : NS τ lo w v l va vt us) (hb : b < lo) (hlo : lo ≤ w.heap.size) (hk : KeptIn b (b + 1) w w1) {t : ND} {a x : Value} {u : List Value} (ha : OA lo1 w1 a t.at_ u) (h1 : w.heap.size ≤ lo1) (hx : w1.ownsRow lo1 5 1 x t.tx.length (bcs t.tx))
    (hap : ∀ k, x.ownBlock = some k → a.ownBlock ≠ some k ∧ ∀ i, i < t.at_.length → (u.getD i undef).ownBlock ≠ some k)
    (ho : w2.ownsRow lo 44 4 v' (l.length + 1) (ncs l va vt l.length ++ [.int .i64 t.up, .string t.tg, a, x])) (hg : w1.grownBy w2 v.ownBlock) (hv : v'.ownBlock = v.ownBlock ∨ v'.ownBlock = some w1.heap.size) :
    ∃ τ' va' vt' us', NS τ' lo w2 v' (l ++ [t]) va' vt' us' := by
  obtain ⟨wa, s1, k1, b1⟩ := hk.midS (by omega)
  have hn := h.around (lo' := lo) (w' := wa) (Nat.le_refl _) rfl (fun k h2 h3 => k1 k (by omega))
  rw [← s1] at b1 h1 hlo
  obtain ⟨τ', va', vt', us', h9, _⟩ := hn.app b1 ha h1 hx hap hlo ho hg hv
  exact ⟨τ', va', vt', us', h9⟩

theorem NS.rowS {b : Nat} {τ : Nat → Nat} {lo : Nat} {w w1 : World} {v : Value} {l : List ND} {va vt : Nat → Value} {us : Nat → List Value} (h : NS τ lo w v l va vt us) (hb : b < lo) (hk : KeptIn b (b + 1) w w1) : w1.ownsRow lo 44 4 v l.length (ncs l va vt l.length) :=
  own_kept h.row hk (by omega)

theorem DrT.put {m b k n k' : Nat} {l : List Int} {w w1 W w6 : World} {τ : Nat → Nat} {lo lo1 : Nat} {v v' : Value} {nd : List ND} {va vt : Nat → Value} {us : Nat → List Value} (h : NS τ lo w1 v nd va vt us) (hb : b < w.heap.size) (hlo : w.heap.size ≤ lo) (hlo2 : lo ≤ w1.heap.size) (hk0 : KeptIn b (b + 1) w w1) (hk1 : KeptIn b (b + 1) w1 W) (hs : Src b l k' W) (hk' : k' ≤ k + n) {t : ND} {a x : Value} {u : List Value} (ha : OA lo1 W a t.at_ u) (h1 : w1.heap.size ≤ lo1) (hx : W.ownsRow lo1 5 1 x t.tx.length (bcs t.tx))
    (hap : ∀ k, x.ownBlock = some k → a.ownBlock ≠ some k ∧ ∀ i, i < t.at_.length → (u.getD i undef).ownBlock ≠ some k)
    (ho : w6.ownsRow lo 44 4 v' (nd.length + 1) (ncs nd va vt nd.length ++ [.int .i64 t.up, .string t.tg, a, x])) (hg : W.grownBy w6 v.ownBlock) (hv : v'.ownBlock = v.ownBlock ∨ v'.ownBlock = some W.heap.size) (hm : nd.length + nssz nd + 1 + nsz t ≤ m) : DrT m b k n l w (.returned v') w6 := by
  obtain ⟨τ', va', vt', us', A⟩ := h.appS (b := b) (by omega) hlo2 hk1 (t := t) ha h1 hx hap ho hg hv
  have lb := own_lo h.row
  have e1 : (nd ++ [t]).length = nd.length + 1 := by simp
  obtain ⟨p, c, ev, _⟩ := own_len A.row
  subst ev
  refine ⟨nd ++ [t], τ', p, c, va', vt', us', lo, k', by rfl, A, hlo, Nat.le_trans hlo2 (Nat.le_trans hk1.size hg.size), ?_, hk', ?_, (hk0.trans hk1).grown hg (fun k e => Nat.le_trans hlo (lb k e))⟩
  · rw [e1, nssz_snoc]; omega
  · have hk : KeptIn lo W.heap.size W w6 := ⟨hg.os, hg.tape, hg.output, hg.size, fun j hj hc => hg.block j hj (fun e => by have := lb j e.symm; omega)⟩
    exact hs.kept hk (by omega)

def ZN : ND := ⟨0, ⟨#[]⟩, [], []⟩

theorem rep_nd (n k : Nat) : ndK (List.replicate n ZN) k = (if k < n then ZN else ndK [] 0) := by
  unfold ndK
  rw [List.getD_eq_getElem?_getD, List.getElem?_replicate]
  split <;> rfl

theorem rep_nd' {n k : Nat} (h : k < n) : ndK (List.replicate n ZN) k = ZN := by rw [rep_nd, if_pos h]

theorem zcs_get (n : Nat) : ∀ (k : Nat), k ≤ n → ncs (List.replicate n ZN) (fun _ => .slice none 0 0) (fun _ => .slice none 0 0) k = (madeCells #[.int .i64 0, .string ⟨#[]⟩, .slice none 0 0, .slice none 0 0] (k * 4)).toList
  | 0, _ => by simp [ncs, madeCells]
  | k + 1, h => by
    have ih := zcs_get n k (by omega)
    show ncs _ _ _ k ++ _ = _
    rw [ih, rep_nd' (by omega), show (k + 1) * 4 = k * 4 + 1 + 1 + 1 + 1 by omega]
    simp [madeCells, Array.range_succ, ZN, show k * 4 % 4 = 0 by omega, show (k * 4 + 1) % 4 = 1 by omega, show (k * 4 + 2) % 4 = 2 by omega, show (k * 4 + 3) % 4 = 3 by omega]

theorem zero_ns (w : World) (n : Nat) (hn : n ≤ 100) : NS (fun k => 0) w.heap.size (w.alloc (.cells (madeCells #[.int .i64 0, .string ⟨#[]⟩, .slice none 0 0, .slice none 0 0] (n * 4)) 44)) (.slice (some ⟨w.heap.size, 0, none⟩) n n) (List.replicate n ZN) (fun _ => .slice none 0 0) (fun _ => .slice none 0 0) (fun _ => []) := by
  refine ⟨?_, fun j hj => ?_, fun j hj => ?_, fun k e => rfl, fun j hj k e => by simp [Value.ownBlock] at e, fun j hj i hi k e => ?_, fun j hj k e => by simp [Value.ownBlock] at e⟩
  · rw [List.length_replicate, zcs_get n n (Nat.le_refl _)]
    exact World.ownsRow_lit w _ n (Nat.le_refl _) (by unfold maxLen; omega) (size_madeCells _ _)
  · rw [List.length_replicate] at hj
    rw [rep_nd' hj]; exact OA.nil _ _
  · rw [List.length_replicate] at hj
    rw [rep_nd' hj]; exact ⟨rfl, .inl ⟨rfl, rfl⟩⟩
  · rw [List.length_replicate] at hj
    rw [rep_nd' hj] at hi; exact absurd hi (Nat.not_lt_zero _)

theorem nssz_rep : ∀ (n : Nat), nssz (List.replicate n ZN) = 0
  | 0 => rfl
  | n + 1 => by
    have := nssz_rep n
    show nsz ZN + nssz (List.replicate n ZN) = 0
    rw [this]; rfl

end Go.Proofs.Ytlaeomnacgjcgaa

namespace Go.Proofs.Ytlaeomnacgjcgaa
open Go.RowKit

theorem one_byteSD (W : World) (x : Int) : ∀ j u, (bcs [x])[j]? = some u → (W.alloc (.cells #[.int .u8 x] 5)).cell? ((⟨W.heap.size, 0, none⟩ : Addr).add j) = some u := by
  intro j u hj
  have : j = 0 := by
    have := (List.getElem?_eq_some_iff.1 hj).1
    simp [bcs] at this
    omega
  subst this
  simp [bcs] at hj
  subst hj
  have r := World.rowIs_alloc W #[.int .u8 x] 5 (fun _ => .int .u8 x) (fun i hi => by
    have : i = 0 := by simp at hi; omega
    subst this; rfl)
  rw [Addr.add_mid]
  exact r.cell (by simp)

set_option maxRecDepth 100000 in
set_option maxHeartbeats 2000000 in
theorem l1SomeD_any (b k n : Nat) (l : List Int) (w : World) (h : Src b l k w) (hk : k ≤ 10000) (hn : n ≤ 20) (hl : (l.length : Int) ≤ 1048576) :
    Calls Try.prog 45 #[.pointer (some ⟨b, 0, none⟩), .int .i64 (n : Int)] w fun e w' => ∃ v out, e = .returned v ∧ out.length = n ∧ Drawn w b l (k + n) v out w' := by
  have hbw := h.lt
  have D0 : Hid (Drawn w b l k (.slice (some ⟨w.heap.size, 0, none⟩) 0 0) [] (w.alloc (.cells #[] 5))) := Hid.mk' ⟨World.ownsRow_lit w #[] 0 (Nat.le_refl _) (by decide) rfl, fun x hx => by simp at hx, h.below (below_new w _), (KeptIn.refl _ _ _).alloc _⟩
  clear h
  go_enter Try.func45, Try.ntmps45
  go_wp2
  go_loopw [1, 5] (fun i v wr => ∃ (m : Nat) (out : List Int), i = .int .i64 (m : Int) ∧ out.length + m = n ∧ Drawn w b l (k + out.length) v out wr) (fun i _ _ => (intOf i).toNat)
  case atStart => exact ⟨n, [], rfl, by simp, by simpa using D0.out⟩
  case round =>
    obtain ⟨m, out, rfl, hm, hD⟩ := hrel
    by_cases cm : 0 < m
    · have ci : (0 : Int) < (m : Int) := by omega
      have K := Hid.mk' (l1Next_any b (k + out.length) l 256 wr hD.src (by omega) (by decide) (by decide) hl)
      have DD_ := Hid.mk' hD
      have hws := hD.kept.size
      obtain ⟨pv_, qv_, rfl⟩ := own_form hD.own
      clear hD
      go_wp2_with fail
      refine K.out.mono ?_
      rintro e w1 ⟨x, rfl, x0, x1, hS1, hK1⟩
      have D2 : Hid (Drawn w b l (k + out.length + 1) (.slice pv_ out.length qv_) out w1) := Hid.mk' ⟨own_kept DD_.out.own hK1 (by omega), DD_.out.u8, hS1, DD_.out.kept.trans hK1⟩
      have hx8 : IntKind.u8.wrap x = x := by
        have : x % 256 = x := by omega
        simpa [IntKind.wrap, IntKind.bits, IntKind.signed] using this
      have ys := hK1.size
      clear K hS1 hK1 DD_
      go_wp2_with (at_builtin; refine wpList_append_at _ rfl (.tmp 11) (.tmp 15) 22 rfl w.heap.size 5 (.int .u8 0) 1 1 Try.underlying22 Try.info5 rfl (by decide) (.slice pv_ out.length qv_) out.length (bcs out) rfl (own_keep D2.out.own (below_new w1 _)) _ 1 _ (bcs [x]) rfl rfl (.inr ⟨_, rfl, one_byteSD w1 x⟩) (bcs_one _) (by unfold maxLen; omega) (by omega) (by simp; omega) ?_; intro v' w2 ho hgr hat; have D3 := Hid.mk' ((D2.out.below (below_new w1 (.cells #[.int .u8 x] 5))).apps hbw (more := [x]) (fun y hy => by simp at hy; omega) rfl ho hgr); clear ho hgr hat)
      go_roundw
      case rel => exact ⟨m - 1, out ++ [x], by go_num, by rw [List.length_append]; simp; omega, by rw [List.length_append, List.length_singleton, ← Nat.add_assoc]; exact D3.out⟩
      case measure => simp [intOf]; omega
    · have e : m = 0 := by omega
      subst e
      have ci : ¬ (0 : Int) < ((0 : Nat) : Int) := by omega
      have hle : out.length = n := by omega
      go_wp2
      go_ret
      exact ⟨_, rfl, out, hle, by rw [← hle]; exact hD⟩

end Go.Proofs.Ytlaeomnacgjcgaa

namespace Go.Proofs.Ytlaeomnacgjcgaa
open Go.RowKit

def T3x (b : Nat) (w : World) (g : Nat) : Prop := g < w.heap.size ∧ ¬ g = b ∧ w.cell? ⟨g, 0, none⟩ = some (.string ⟨#[112]⟩) ∧ w.cell? ⟨g, 1, none⟩ = some (.string ⟨#[80]⟩) ∧ w.cell? ⟨g, 2, none⟩ = some (.string ⟨#[98, 114]⟩)

theorem T3x.new (w : World) (b : Nat) (hb : b < w.heap.size) : T3x b (w.alloc (.cells #[.string ⟨#[112]⟩, .string ⟨#[80]⟩, .string ⟨#[98, 114]⟩] 9)) w.heap.size :=
  ⟨by simp, by omega, by simp, by simp, by simp⟩

theorem T3x.kept {b g : Nat} {w w' : World} (h : T3x b w g) (hk : KeptIn b (b + 1) w w') : T3x b w' g := by
  obtain ⟨h0, h1, h2, h3, h4⟩ := h
  have e : ∀ i, w'.cell? ⟨g, i, none⟩ = w.cell? ⟨g, i, none⟩ := fun i => hk.cell (p := ⟨g, i, none⟩) h0 (show g < b ∨ b + 1 ≤ g by omega)
  exact ⟨Nat.lt_of_lt_of_le h0 hk.size, h1, (e 0).trans h2, (e 1).trans h3, (e 2).trans h4⟩

theorem T3x.at {b g : Nat} {w : World} (h : T3x b w g) (j : Nat) (hj : j < 3) : ∃ t : ByteArray, w.cell? ⟨g, j, none⟩ = some (.string t) ∧ t.size ≤ 2 := by
  have : j = 0 ∨ j = 1 ∨ j = 2 := by omega
  rcases this with rfl | rfl | rfl
  · exact ⟨_, h.2.2.1, by decide⟩
  · exact ⟨_, h.2.2.2.1, by decide⟩
  · exact ⟨_, h.2.2.2.2, by decide⟩

theorem IAx.keptS {b g : Nat} {w w' : World} {xs : List Int} (h : IAx w g xs) (hg : ¬ b = g) (hk : KeptIn b (b + 1) w w') : IAx w' g xs :=
  ⟨Nat.lt_of_lt_of_le h.1 hk.size, fun i hi => (hk.cell (p := ⟨g, i, none⟩) h.1 (show g < b ∨ b + 1 ≤ g by omega)).trans (h.2 i hi)⟩

set_option maxRecDepth 100000 in
set_option maxHeartbeats 12800000 in
theorem l6Bent_any (b k : Nat) (l : List Int) (w : World) (h : Src b l k w) (hk : k ≤ 9000) (hl : (l.length : Int) ≤ 1048576) :
    Calls Try.prog 30 #[.pointer (some ⟨b, 0, none⟩)] w fun e w' => DrT 4000 b k 20 l w e w' := by
  have hbw := h.lt
  have KD := Hid.mk' (l6Draw_any b k l w h hk hl)
  clear h
  go_enter Try.func30, Try.ntmps30
  go_wp2_with fail
  refine KD.out.mono ?_
  rintro e w1 ⟨nd, τ, p, c, va, vt, us, lo, k1, rfl, hN, hlo, hlo2, hsz, hk1, hS, hK⟩
  have HN := Hid.mk' hN
  have HK := Hid.mk' hK
  have KX := Hid.mk' (l1Next_any b k1 l 12 w1 hS (by omega) (by decide) (by decide) hl)
  clear hN hK hS KD
  go_wp2_with fail
  refine KX.out.mono ?_
  rintro e w2 ⟨x, rfl, x0, x1, hS2, hK2⟩
  have HK2 := Hid.mk' hK2
  have HS2 := Hid.mk' hS2
  clear hK2 hS2 KX
  have s2 := HK2.out.size
  have s1 := HK.out.size
  by_cases c0 : x = 0
  · subst c0
    have hi0 : IAx (w2.alloc (.cells ([-1, 0, 5, -2].map (Value.int .i64)).toArray 2)) w2.heap.size [-1, 0, 5, -2] := iat_litx w2 [-1, 0, 5, -2]
    have NB := below_new w2 (.cells ([-1, 0, 5, -2].map (Value.int .i64)).toArray 2)
    have KP := Hid.mk' (l1Pick_any b (k1 + 1) w2.heap.size 4 l [-1, 0, 5, -2] _ (HS2.out.below NB) hi0 (by omega) (by omega) (by decide) (by decide) hl)
    have K3 := Hid.mk' (HK2.out.trans (KeptIn.of_below NB))
    clear hi0 NB
    go_wp2_with fail
    refine KP.out.mono ?_
    rintro e w3 ⟨i, hi, rfl, hS3, hK3⟩
    obtain ⟨y, hy⟩ : ∃ y, ([-1, 0, 5, -2] : List Int).getD i 0 = y := ⟨_, rfl⟩
    rw [hy]
    have K3 := Hid.mk' (K3.out.trans hK3)
    have KX := Hid.mk' (l1Next_any b (k1 + 1 + 1) l 2 w3 hS3 (by omega) (by decide) (by decide) hl)
    clear hS3 hK3 KP hi hy
    go_wp2_with fail
    refine KX.out.mono ?_
    rintro e w4 ⟨x2, rfl, y0, y1, hS4, hK4⟩
    obtain ⟨n, rfl⟩ : ∃ n : Nat, x2 = (n : Int) := ⟨x2.toNat, by omega⟩
    have K4 := Hid.mk' (K3.out.trans hK4)
    have KS := Hid.mk' (l1SomeD_any b (k1 + 1 + 1 + 1) n l w4 hS4 (by omega) (by omega) hl)
    clear hS4 hK4 KX K3
    go_wp2_with fail
    refine KS.out.mono ?_
    rintro e w5 ⟨v, out, rfl, ho, hD⟩
    subst ho
    obtain ⟨pv, qv, rfl⟩ := own_form hD.own
    have HD := Hid.mk' hD
    have NN := below_new w5 (.cells #[.int .i64 y, .string ⟨#[]⟩, .slice none 0 0, .slice pv out.length qv] 44)
    have K5 : Hid (KeptIn b (b + 1) w1 _) := Hid.mk' ((K4.out.trans hD.kept).trans (KeptIn.of_below NN))
    have HN2 := Hid.mk' NN
    have s4 := K4.out.size
    have s5 := K5.out.size
    clear hD NN KS
    go_wp2_with (at_builtin; refine wpList_append_at _ rfl (.tmp 11) (.tmp 20) 24 rfl lo 44 (.agg #[.int .i64 0, .string ⟨#[]⟩, .slice none 0 0, .slice none 0 0]) 4 72 Try.underlying24 Try.info44 rfl (by decide) _ nd.length _ rfl (HN.out.rowS (by omega) K5.out) _ 1 _ [.int .i64 y, .string ⟨#[]⟩, .slice none 0 0, .slice pv out.length qv] rfl rfl (.inr ⟨_, rfl, one_node w5 _ _ _ _ _ _ rfl⟩) (by simp [Value.oneCell']) (by unfold maxLen; omega) (by omega) (Nat.le_trans hlo2 K5.out.size) ?_; intro v' w6 ho2 hgr hat)
    go_ret
    refine DrT.put HN.out hbw hlo hlo2 HK.out K5.out (HD.out.src.below HN2.out) (k' := k1 + 1 + 1 + 1 + out.length) (by omega) (t := ⟨y, ⟨#[]⟩, [], out⟩) (OA.nil w4.heap.size _) s4 (own_keep HD.out.own HN2.out) (fun k e => ⟨by simp [Value.ownBlock], fun i hi => absurd hi (Nat.not_lt_zero _)⟩) ho2 hgr hat (by show nd.length + nssz nd + 1 + (0 + 0 + 0 + out.length) ≤ 4000; omega)
  by_cases c1 : x = 1
  · subst c1
    have KC : Hid (KeptIn b (b + 1) w1 w2.drew) := Hid.mk' ⟨HK2.out.os, HK2.out.tape, HK2.out.output, HK2.out.size, HK2.out.block⟩
    have SC := Hid.mk' (HS2.out.below (Below.refl _ _).drew)
    have SB : Hid (b < w1.heap.size) := Hid.mk' (by omega)
    clear HK2 HS2
    go_wp2_with fail
    refine wp_region_held_drew (S := fun _ => True) (by kernel_rfl) trivial (fun hHeld => ?_)
    generalize w2.drew = wc at *
    refine tkY 0 ?_
    refine tkY 1 ?_
    refine tkY 5 ?_
    refine tkY 9 ?_
    refine tkY 10 ?_
    refine wpAnyH_ready (rs := [2, 4]) (by kernel_rfl) (by simp) ?_
    refine AllReadyH.cons (o := ⟨_, _, _, _, _, _⟩) rfl (fun K9 hK => ?_) (AllReadyH.cons (o := ⟨_, _, _, _, _, _⟩) rfl (fun K9 hK => ?_) AllReadyH.nil)
    go_simp
    have NB := below_new wc (.cells #[.int .i64 (-1), .int .i64 0, .int .i64 1] 2)
    have KB := KeptIn.of_below (lo := b) (hi := b + 1) NB
    have IC := Hid.mk' (And.intro (show ¬ b = wc.heap.size by have := SC.out.lt; omega) (show IAx (wc.alloc (.cells #[.int .i64 (-1), .int .i64 0, .int .i64 1] 2)) wc.heap.size [-1, 0, 1] from iat_litx wc [-1, 0, 1]))
    replace KC := Hid.mk' (KC.out.trans KB)
    replace SC := Hid.mk' (SC.out.below NB)
    refine hK.out _ _ trivial (fun hHeld => ?_)
    clear hK K9 NB KB
    try simp only [Act.put, zA, zB, zC]
    generalize wc.alloc (.cells #[.int .i64 (-1), .int .i64 0, .int .i64 1] 2) = wc at *
    refine wpAnyH_ready (rs := [3, 4]) (by kernel_rfl) (by simp) ?_
    refine AllReadyH.cons (o := ⟨_, _, _, _, _, _⟩) rfl (fun K9 hK => ?_) (AllReadyH.cons (o := ⟨_, _, _, _, _, _⟩) rfl (fun K9 hK => ?_) AllReadyH.nil)
    go_simp
    refine (l1Pick_any b _ _ _ l [-1, 0, 1] _ SC.out IC.out.2 IC.out.1 (by omega) (by decide) (by decide) hl).mono ?_
    rintro e wc ⟨i3, hi3, rfl, hS, hQ⟩
    obtain ⟨y, hy⟩ : ∃ y, ([-1, 0, 1] : List Int).getD i3 0 = y := ⟨_, rfl⟩
    rw [hy]
    replace KC := Hid.mk' (KC.out.trans hQ)
    replace SC := Hid.mk' hS
    clear hS hQ IC hi3 hy
    refine hK.out _ _ trivial (fun hHeld => ?_)
    clear hK K9
    try simp only [Act.put, zA, zB, zC]
    refine wpAnyH_ready (rs := [4, 6]) (by kernel_rfl) (by simp) ?_
    refine AllReadyH.cons (o := ⟨_, _, _, _, _, _⟩) rfl (fun K9 hK => ?_) (AllReadyH.cons (o := ⟨_, _, _, _, _, _⟩) rfl (fun K9 hK => ?_) AllReadyH.nil)
    go_simp
    have NB := below_new wc (.cells #[.string ⟨#[112]⟩, .string ⟨#[80]⟩, .string ⟨#[98, 114]⟩] 9)
    have KB := KeptIn.of_below (lo := b) (hi := b + 1) NB
    have TC := Hid.mk' (T3x.new wc b SC.out.lt)
    replace KC := Hid.mk' (KC.out.trans KB)
    replace SC := Hid.mk' (SC.out.below NB)
    refine hK.out _ _ trivial (fun hHeld => ?_)
    clear hK K9 NB KB
    try simp only [Act.put, zA, zB, zC]
    generalize wc.alloc (.cells #[.string ⟨#[112]⟩, .string ⟨#[80]⟩, .string ⟨#[98, 114]⟩] 9) = wc at *
    refine wpAnyH_ready (rs := [6]) (by kernel_rfl) (by simp) ?_
    refine AllReadyH.cons (o := ⟨_, _, _, _, _, _⟩) rfl (fun K9 hK => ?_) AllReadyH.nil
    go_simp
    refine (l1Next_any b _ l 3 _ SC.out (by omega) (by decide) (by decide) hl).mono ?_
    rintro e wc ⟨z, rfl, z0, z1, hS, hQ⟩
    obtain ⟨j, rfl⟩ : ∃ j : Nat, z = (j : Int) := ⟨z.toNat, by omega⟩
    replace TC := Hid.mk' (TC.out.kept hQ)
    replace KC := Hid.mk' (KC.out.trans hQ)
    replace SC := Hid.mk' hS
    clear hS hQ
    refine hK.out _ _ trivial (fun hHeld => ?_)
    clear hK K9
    try simp only [Act.put, zA, zB, zC]
    refine tkY 7 ?_
    refine wpAnyH_ready (rs := [8, 11]) (by kernel_rfl) (by simp) ?_
    refine AllReadyH.cons (o := ⟨_, _, _, _, _, _⟩) rfl (fun K9 hK => ?_) (AllReadyH.cons (o := ⟨_, _, _, _, _, _⟩) rfl (fun K9 hK => ?_) AllReadyH.nil)
    obtain ⟨tg, htg, htz⟩ := TC.out.at j (by omega)
    go_simp
    have HTZ := Hid.mk' htz
    clear htg htz TC
    refine hK.out _ _ trivial (fun hHeld => ?_)
    clear hK K9
    try simp only [Act.put, zA, zB, zC]
    refine wpAnyH_ready (rs := [11]) (by kernel_rfl) (by simp) ?_
    refine AllReadyH.cons (o := ⟨_, _, _, _, _, _⟩) rfl (fun K9 hK => ?_) AllReadyH.nil
    go_simp
    refine (l1Next_any b _ l 2 _ SC.out (by omega) (by decide) (by decide) hl).mono ?_
    rintro e wc ⟨z, rfl, n0, n1, hS, hQ⟩
    obtain ⟨n, rfl⟩ : ∃ n : Nat, z = (n : Int) := ⟨z.toNat, by omega⟩
    replace KC := Hid.mk' (KC.out.trans hQ)
    replace SC := Hid.mk' hS
    clear hS hQ
    refine hK.out _ _ trivial (fun hHeld => ?_)
    clear hK K9
    try simp only [Act.put, zA, zB, zC]
    refine wpAnyH_ready (rs := [12]) (by kernel_rfl) (by simp) ?_
    refine AllReadyH.cons (o := ⟨_, _, _, _, _, _⟩) rfl (fun K9 hK => ?_) AllReadyH.nil
    go_simp
    refine (l1SomeD_any b _ n l _ SC.out (by omega) (by omega) hl).mono ?_
    rintro e wc ⟨v, out, rfl, ho, hD⟩
    subst ho
    obtain ⟨pv, qv, rfl⟩ := own_form hD.own
    have hS := hD.src
    have hQ := hD.kept
    have OC := Hid.mk' (And.intro KC.out.size hD.own)
    clear hD
    replace KC := Hid.mk' (KC.out.trans hQ)
    replace SC := Hid.mk' hS
    clear hS hQ
    refine hK.out _ _ trivial (fun hHeld => ?_)
    clear hK K9
    try simp only [Act.put, zA, zB, zC]
    refine tkY 13 ?_
    rotate_left
    go_simp
    refine (l1Next_any b _ l 2 _ SC.out (by omega) (by decide) (by decide) hl).mono ?_
    rintro e wc ⟨z, rfl, n0, n1, hS, hQ⟩
    obtain ⟨n, rfl⟩ : ∃ n : Nat, z = (n : Int) := ⟨z.toNat, by omega⟩
    replace TC := Hid.mk' (TC.out.kept hQ)
    replace KC := Hid.mk' (KC.out.trans hQ)
    replace SC := Hid.mk' hS
    clear hS hQ
    refine hK.out _ _ trivial (fun hHeld => ?_)
    clear hK K9
    try simp only [Act.put, zA, zB, zC]
    refine wpAnyH_ready (rs := [8, 12]) (by kernel_rfl) (by simp) ?_
    refine AllReadyH.cons (o := ⟨_, _, _, _, _, _⟩) rfl (fun K9 hK => ?_) (AllReadyH.cons (o := ⟨_, _, _, _, _, _⟩) rfl (fun K9 hK => ?_) AllReadyH.nil)
    obtain ⟨tg, htg, htz⟩ := TC.out.at j (by omega)
    go_simp
    have HTZ := Hid.mk' htz
    clear htg htz TC
    refine hK.out _ _ trivial (fun hHeld => ?_)
    clear hK K9
    try simp only [Act.put, zA, zB, zC]
    refine wpAnyH_ready (rs := [12]) (by kernel_rfl) (by simp) ?_
    refine AllReadyH.cons (o := ⟨_, _, _, _, _, _⟩) rfl (fun K9 hK => ?_) AllReadyH.nil
    go_simp
    refine (l1SomeD_any b _ n l _ SC.out (by omega) (by omega) hl).mono ?_
    rintro e wc ⟨v, out, rfl, ho, hD⟩
    subst ho
    obtain ⟨pv, qv, rfl⟩ := own_form hD.own
    have hS := hD.src
    have hQ := hD.kept
    have OC := Hid.mk' (And.intro KC.out.size hD.own)
    clear hD
    replace KC := Hid.mk' (KC.out.trans hQ)
    replace SC := Hid.mk' hS
    clear hS hQ
    refine hK.out _ _ trivial (fun hHeld => ?_)
    clear hK K9
    try simp only [Act.put, zA, zB, zC]
    refine tkY 13 ?_
    rotate_left
    go_simp
    refine (l1SomeD_any b _ n l _ SC.out (by omega) (by omega) hl).mono ?_
    rintro e wc ⟨v, out, rfl, ho, hD⟩
    subst ho
    obtain ⟨pv, qv, rfl⟩ := own_form hD.own
    have hS := hD.src
    have hQ := hD.kept
    have OC := Hid.mk' (And.intro KC.out.size hD.own)
    clear hD
    replace TC := Hid.mk' (TC.out.kept hQ)
    replace KC := Hid.mk' (KC.out.trans hQ)
    replace SC := Hid.mk' hS
    clear hS hQ
    refine hK.out _ _ trivial (fun hHeld => ?_)
    clear hK K9
    try simp only [Act.put, zA, zB, zC]
    refine wpAnyH_ready (rs := [8]) (by kernel_rfl) (by simp) ?_
    refine AllReadyH.cons (o := ⟨_, _, _, _, _, _⟩) rfl (fun K9 hK => ?_) AllReadyH.nil
    obtain ⟨tg, htg, htz⟩ := TC.out.at j (by omega)
    go_simp
    have HTZ := Hid.mk' htz
    clear htg htz TC
    refine hK.out _ _ trivial (fun hHeld => ?_)
    clear hK K9
    try simp only [Act.put, zA, zB, zC]
    refine tkY 13 ?_
    rotate_left
    go_simp
    refine (l1Next_any b _ l 3 _ SC.out (by omega) (by decide) (by decide) hl).mono ?_
    rintro e wc ⟨z, rfl, z0, z1, hS, hQ⟩
    obtain ⟨j, rfl⟩ : ∃ j : Nat, z = (j : Int) := ⟨z.toNat, by omega⟩
    replace KC := Hid.mk' (KC.out.trans hQ)
    replace SC := Hid.mk' hS
    clear hS hQ
    refine hK.out _ _ trivial (fun hHeld => ?_)
    clear hK K9
    try simp only [Act.put, zA, zB, zC]
    refine wpAnyH_ready (rs := [4, 11]) (by kernel_rfl) (by simp) ?_
    refine AllReadyH.cons (o := ⟨_, _, _, _, _, _⟩) rfl (fun K9 hK => ?_) (AllReadyH.cons (o := ⟨_, _, _, _, _, _⟩) rfl (fun K9 hK => ?_) AllReadyH.nil)
    go_simp
    have NB := below_new wc (.cells #[.string ⟨#[112]⟩, .string ⟨#[80]⟩, .string ⟨#[98, 114]⟩] 9)
    have KB := KeptIn.of_below (lo := b) (hi := b + 1) NB
    have TC := Hid.mk' (T3x.new wc b SC.out.lt)
    replace KC := Hid.mk' (KC.out.trans KB)
    replace SC := Hid.mk' (SC.out.below NB)
    refine hK.out _ _ trivial (fun hHeld => ?_)
    clear hK K9 NB KB
    try simp only [Act.put, zA, zB, zC]
    generalize wc.alloc (.cells #[.string ⟨#[112]⟩, .string ⟨#[80]⟩, .string ⟨#[98, 114]⟩] 9) = wc at *
    refine tkY 7 ?_
    refine wpAnyH_ready (rs := [8, 11]) (by kernel_rfl) (by simp) ?_
    refine AllReadyH.cons (o := ⟨_, _, _, _, _, _⟩) rfl (fun K9 hK => ?_) (AllReadyH.cons (o := ⟨_, _, _, _, _, _⟩) rfl (fun K9 hK => ?_) AllReadyH.nil)
    obtain ⟨tg, htg, htz⟩ := TC.out.at j (by omega)
    go_simp
    have HTZ := Hid.mk' htz
    clear htg htz TC
    refine hK.out _ _ trivial (fun hHeld => ?_)
    clear hK K9
    try simp only [Act.put, zA, zB, zC]
    refine wpAnyH_ready (rs := [11]) (by kernel_rfl) (by simp) ?_
    refine AllReadyH.cons (o := ⟨_, _, _, _, _, _⟩) rfl (fun K9 hK => ?_) AllReadyH.nil
    go_simp
    refine (l1Next_any b _ l 2 _ SC.out (by omega) (by decide) (by decide) hl).mono ?_
    rintro e wc ⟨z, rfl, n0, n1, hS, hQ⟩
    obtain ⟨n, rfl⟩ : ∃ n : Nat, z = (n : Int) := ⟨z.toNat, by omega⟩
    replace KC := Hid.mk' (KC.out.trans hQ)
    replace SC := Hid.mk' hS
    clear hS hQ
    refine hK.out _ _ trivial (fun hHeld => ?_)
    clear hK K9
    try simp only [Act.put, zA, zB, zC]
    refine wpAnyH_ready (rs := [12]) (by kernel_rfl) (by simp) ?_
    refine AllReadyH.cons (o := ⟨_, _, _, _, _, _⟩) rfl (fun K9 hK => ?_) AllReadyH.nil
    go_simp
    refine (l1SomeD_any b _ n l _ SC.out (by omega) (by omega) hl).mono ?_
    rintro e wc ⟨v, out, rfl, ho, hD⟩
    subst ho
    obtain ⟨pv, qv, rfl⟩ := own_form hD.own
    have hS := hD.src
    have hQ := hD.kept
    have OC := Hid.mk' (And.intro KC.out.size hD.own)
    clear hD
    replace KC := Hid.mk' (KC.out.trans hQ)
    replace SC := Hid.mk' hS
    clear hS hQ
    refine hK.out _ _ trivial (fun hHeld => ?_)
    clear hK K9
    try simp only [Act.put, zA, zB, zC]
    refine tkY 13 ?_
    rotate_left
    go_simp
    refine (l1Next_any b _ l 2 _ SC.out (by omega) (by decide) (by decide) hl).mono ?_
    rintro e wc ⟨z, rfl, n0, n1, hS, hQ⟩
    obtain ⟨n, rfl⟩ : ∃ n : Nat, z = (n : Int) := ⟨z.toNat, by omega⟩
    replace TC := Hid.mk' (TC.out.kept hQ)
    replace KC := Hid.mk' (KC.out.trans hQ)
    replace SC := Hid.mk' hS
    clear hS hQ
    refine hK.out _ _ trivial (fun hHeld => ?_)
    clear hK K9
    try simp only [Act.put, zA, zB, zC]
    refine wpAnyH_ready (rs := [8, 12]) (by kernel_rfl) (by simp) ?_
    refine AllReadyH.cons (o := ⟨_, _, _, _, _, _⟩) rfl (fun K9 hK => ?_) (AllReadyH.cons (o := ⟨_, _, _, _, _, _⟩) rfl (fun K9 hK => ?_) AllReadyH.nil)
    obtain ⟨tg, htg, htz⟩ := TC.out.at j (by omega)
    go_simp
    have HTZ := Hid.mk' htz
    clear htg htz TC
    refine hK.out _ _ trivial (fun hHeld => ?_)
    clear hK K9
    try simp only [Act.put, zA, zB, zC]
    refine wpAnyH_ready (rs := [12]) (by kernel_rfl) (by simp) ?_
    refine AllReadyH.cons (o := ⟨_, _, _, _, _, _⟩) rfl (fun K9 hK => ?_) AllReadyH.nil
    go_simp
    refine (l1SomeD_any b _ n l _ SC.out (by omega) (by omega) hl).mono ?_
    rintro e wc ⟨v, out, rfl, ho, hD⟩
    subst ho
    obtain ⟨pv, qv, rfl⟩ := own_form hD.own
    have hS := hD.src
    have hQ := hD.kept
    have OC := Hid.mk' (And.intro KC.out.size hD.own)
    clear hD
    replace KC := Hid.mk' (KC.out.trans hQ)
    replace SC := Hid.mk' hS
    clear hS hQ
    refine hK.out _ _ trivial (fun hHeld => ?_)
    clear hK K9
    try simp only [Act.put, zA, zB, zC]
    refine tkY 13 ?_
    rotate_left
    go_simp
    refine (l1SomeD_any b _ n l _ SC.out (by omega) (by omega) hl).mono ?_
    rintro e wc ⟨v, out, rfl, ho, hD⟩
    subst ho
    obtain ⟨pv, qv, rfl⟩ := own_form hD.own
    have hS := hD.src
    have hQ := hD.kept
    have OC := Hid.mk' (And.intro KC.out.size hD.own)
    clear hD
    replace TC := Hid.mk' (TC.out.kept hQ)
    replace KC := Hid.mk' (KC.out.trans hQ)
    replace SC := Hid.mk' hS
    clear hS hQ
    refine hK.out _ _ trivial (fun hHeld => ?_)
    clear hK K9
    try simp only [Act.put, zA, zB, zC]
    refine wpAnyH_ready (rs := [8]) (by kernel_rfl) (by simp) ?_
    refine AllReadyH.cons (o := ⟨_, _, _, _, _, _⟩) rfl (fun K9 hK => ?_) AllReadyH.nil
    obtain ⟨tg, htg, htz⟩ := TC.out.at j (by omega)
    go_simp
    have HTZ := Hid.mk' htz
    clear htg htz TC
    refine hK.out _ _ trivial (fun hHeld => ?_)
    clear hK K9
    try simp only [Act.put, zA, zB, zC]
    refine tkY 13 ?_
    rotate_left
    go_simp
    refine (l1Next_any b _ l 2 _ SC.out (by omega) (by decide) (by decide) hl).mono ?_
    rintro e wc ⟨z, rfl, n0, n1, hS, hQ⟩
    obtain ⟨n, rfl⟩ : ∃ n : Nat, z = (n : Int) := ⟨z.toNat, by omega⟩
    replace KC := Hid.mk' (KC.out.trans hQ)
    replace SC := Hid.mk' hS
    clear hS hQ
    refine hK.out _ _ trivial (fun hHeld => ?_)
    clear hK K9
    try simp only [Act.put, zA, zB, zC]
    refine wpAnyH_ready (rs := [4, 12]) (by kernel_rfl) (by simp) ?_
    refine AllReadyH.cons (o := ⟨_, _, _, _, _, _⟩) rfl (fun K9 hK => ?_) (AllReadyH.cons (o := ⟨_, _, _, _, _, _⟩) rfl (fun K9 hK => ?_) AllReadyH.nil)
    go_simp
    have NB := below_new wc (.cells #[.string ⟨#[112]⟩, .string ⟨#[80]⟩, .string ⟨#[98, 114]⟩] 9)
    have KB := KeptIn.of_below (lo := b) (hi := b + 1) NB
    have TC := Hid.mk' (T3x.new wc b SC.out.lt)
    replace KC := Hid.mk' (KC.out.trans KB)
    replace SC := Hid.mk' (SC.out.below NB)
    refine hK.out _ _ trivial (fun hHeld => ?_)
    clear hK K9 NB KB
    try simp only [Act.put, zA, zB, zC]
    generalize wc.alloc (.cells #[.string ⟨#[112]⟩, .string ⟨#[80]⟩, .string ⟨#[98, 114]⟩] 9) = wc at *
    refine tkY 7 ?_
    refine wpAnyH_ready (rs := [8, 12]) (by kernel_rfl) (by simp) ?_
    refine AllReadyH.cons (o := ⟨_, _, _, _, _, _⟩) rfl (fun K9 hK => ?_) (AllReadyH.cons (o := ⟨_, _, _, _, _, _⟩) rfl (fun K9 hK => ?_) AllReadyH.nil)
    obtain ⟨tg, htg, htz⟩ := TC.out.at j (by omega)
    go_simp
    have HTZ := Hid.mk' htz
    clear htg htz TC
    refine hK.out _ _ trivial (fun hHeld => ?_)
    clear hK K9
    try simp only [Act.put, zA, zB, zC]
    refine wpAnyH_ready (rs := [12]) (by kernel_rfl) (by simp) ?_
    refine AllReadyH.cons (o := ⟨_, _, _, _, _, _⟩) rfl (fun K9 hK => ?_) AllReadyH.nil
    go_simp
    refine (l1SomeD_any b _ n l _ SC.out (by omega) (by omega) hl).mono ?_
    rintro e wc ⟨v, out, rfl, ho, hD⟩
    subst ho
    obtain ⟨pv, qv, rfl⟩ := own_form hD.own
    have hS := hD.src
    have hQ := hD.kept
    have OC := Hid.mk' (And.intro KC.out.size hD.own)
    clear hD
    replace KC := Hid.mk' (KC.out.trans hQ)
    replace SC := Hid.mk' hS
    clear hS hQ
    refine hK.out _ _ trivial (fun hHeld => ?_)
    clear hK K9
    try simp only [Act.put, zA, zB, zC]
    refine tkY 13 ?_
    rotate_left
    go_simp
    refine (l1SomeD_any b _ n l _ SC.out (by omega) (by omega) hl).mono ?_
    rintro e wc ⟨v, out, rfl, ho, hD⟩
    subst ho
    obtain ⟨pv, qv, rfl⟩ := own_form hD.own
    have hS := hD.src
    have hQ := hD.kept
    have OC := Hid.mk' (And.intro KC.out.size hD.own)
    clear hD
    replace TC := Hid.mk' (TC.out.kept hQ)
    replace KC := Hid.mk' (KC.out.trans hQ)
    replace SC := Hid.mk' hS
    clear hS hQ
    refine hK.out _ _ trivial (fun hHeld => ?_)
    clear hK K9
    try simp only [Act.put, zA, zB, zC]
    refine wpAnyH_ready (rs := [8]) (by kernel_rfl) (by simp) ?_
    refine AllReadyH.cons (o := ⟨_, _, _, _, _, _⟩) rfl (fun K9 hK => ?_) AllReadyH.nil
    obtain ⟨tg, htg, htz⟩ := TC.out.at j (by omega)
    go_simp
    have HTZ := Hid.mk' htz
    clear htg htz TC
    refine hK.out _ _ trivial (fun hHeld => ?_)
    clear hK K9
    try simp only [Act.put, zA, zB, zC]
    refine tkY 13 ?_
    rotate_left
    go_simp
    refine (l1SomeD_any b _ n l _ SC.out (by omega) (by omega) hl).mono ?_
    rintro e wc ⟨v, out, rfl, ho, hD⟩
    subst ho
    obtain ⟨pv, qv, rfl⟩ := own_form hD.own
    have hS := hD.src
    have hQ := hD.kept
    have OC := Hid.mk' (And.intro KC.out.size hD.own)
    clear hD
    replace KC := Hid.mk' (KC.out.trans hQ)
    replace SC := Hid.mk' hS
    clear hS hQ
    refine hK.out _ _ trivial (fun hHeld => ?_)
    clear hK K9
    try simp only [Act.put, zA, zB, zC]
    refine wpAnyH_ready (rs := [4]) (by kernel_rfl) (by simp) ?_
    refine AllReadyH.cons (o := ⟨_, _, _, _, _, _⟩) rfl (fun K9 hK => ?_) AllReadyH.nil
    go_simp
    have NB := below_new wc (.cells #[.string ⟨#[112]⟩, .string ⟨#[80]⟩, .string ⟨#[98, 114]⟩] 9)
    have KB := KeptIn.of_below (lo := b) (hi := b + 1) NB
    replace OC := Hid.mk' (And.intro OC.out.1 (own_kept OC.out.2 KB (by have := SB.out; have := OC.out.1; omega)))
    have TC := Hid.mk' (T3x.new wc b SC.out.lt)
    replace KC := Hid.mk' (KC.out.trans KB)
    replace SC := Hid.mk' (SC.out.below NB)
    refine hK.out _ _ trivial (fun hHeld => ?_)
    clear hK K9 NB KB
    try simp only [Act.put, zA, zB, zC]
    generalize wc.alloc (.cells #[.string ⟨#[112]⟩, .string ⟨#[80]⟩, .string ⟨#[98, 114]⟩] 9) = wc at *
    refine tkY 7 ?_
    refine wpAnyH_ready (rs := [8]) (by kernel_rfl) (by simp) ?_
    refine AllReadyH.cons (o := ⟨_, _, _, _, _, _⟩) rfl (fun K9 hK => ?_) AllReadyH.nil
    obtain ⟨tg, htg, htz⟩ := TC.out.at j (by omega)
    go_simp
    have HTZ := Hid.mk' htz
    clear htg htz TC
    refine hK.out _ _ trivial (fun hHeld => ?_)
    clear hK K9
    try simp only [Act.put, zA, zB, zC]
    refine tkY 13 ?_
    rotate_left
    go_simp
    have NB := below_new wc (.cells #[.string ⟨#[112]⟩, .string ⟨#[80]⟩, .string ⟨#[98, 114]⟩] 9)
    have KB := KeptIn.of_below (lo := b) (hi := b + 1) NB
    replace IC := Hid.mk' (And.intro IC.out.1 (IC.out.2.keptS IC.out.1 KB))
    have TC := Hid.mk' (T3x.new wc b SC.out.lt)
    replace KC := Hid.mk' (KC.out.trans KB)
    replace SC := Hid.mk' (SC.out.below NB)
    refine hK.out _ _ trivial (fun hHeld => ?_)
    clear hK K9 NB KB
    try simp only [Act.put, zA, zB, zC]
    generalize wc.alloc (.cells #[.string ⟨#[112]⟩, .string ⟨#[80]⟩, .string ⟨#[98, 114]⟩] 9) = wc at *
    refine wpAnyH_ready (rs := [3]) (by kernel_rfl) (by simp) ?_
    refine AllReadyH.cons (o := ⟨_, _, _, _, _, _⟩) rfl (fun K9 hK => ?_) AllReadyH.nil
    go_simp
    refine (l1Pick_any b _ _ _ l [-1, 0, 1] _ SC.out IC.out.2 IC.out.1 (by omega) (by decide) (by decide) hl).mono ?_
    rintro e wc ⟨i3, hi3, rfl, hS, hQ⟩
    obtain ⟨y, hy⟩ : ∃ y, ([-1, 0, 1] : List Int).getD i3 0 = y := ⟨_, rfl⟩
    rw [hy]
    replace TC := Hid.mk' (TC.out.kept hQ)
    replace KC := Hid.mk' (KC.out.trans hQ)
    replace SC := Hid.mk' hS
    clear hS hQ IC hi3 hy
    refine hK.out _ _ trivial (fun hHeld => ?_)
    clear hK K9
    try simp only [Act.put, zA, zB, zC]
    refine wpAnyH_ready (rs := [6]) (by kernel_rfl) (by simp) ?_
    refine AllReadyH.cons (o := ⟨_, _, _, _, _, _⟩) rfl (fun K9 hK => ?_) AllReadyH.nil
    go_simp
    refine (l1Next_any b _ l 3 _ SC.out (by omega) (by decide) (by decide) hl).mono ?_
    rintro e wc ⟨z, rfl, z0, z1, hS, hQ⟩
    obtain ⟨j, rfl⟩ : ∃ j : Nat, z = (j : Int) := ⟨z.toNat, by omega⟩
    replace TC := Hid.mk' (TC.out.kept hQ)
    replace KC := Hid.mk' (KC.out.trans hQ)
    replace SC := Hid.mk' hS
    clear hS hQ
    refine hK.out _ _ trivial (fun hHeld => ?_)
    clear hK K9
    try simp only [Act.put, zA, zB, zC]
    refine tkY 7 ?_
    refine wpAnyH_ready (rs := [8, 11]) (by kernel_rfl) (by simp) ?_
    refine AllReadyH.cons (o := ⟨_, _, _, _, _, _⟩) rfl (fun K9 hK => ?_) (AllReadyH.cons (o := ⟨_, _, _, _, _, _⟩) rfl (fun K9 hK => ?_) AllReadyH.nil)
    obtain ⟨tg, htg, htz⟩ := TC.out.at j (by omega)
    go_simp
    have HTZ := Hid.mk' htz
    clear htg htz TC
    refine hK.out _ _ trivial (fun hHeld => ?_)
    clear hK K9
    try simp only [Act.put, zA, zB, zC]
    refine wpAnyH_ready (rs := [11]) (by kernel_rfl) (by simp) ?_
    refine AllReadyH.cons (o := ⟨_, _, _, _, _, _⟩) rfl (fun K9 hK => ?_) AllReadyH.nil
    go_simp
    refine (l1Next_any b _ l 2 _ SC.out (by omega) (by decide) (by decide) hl).mono ?_
    rintro e wc ⟨z, rfl, n0, n1, hS, hQ⟩
    obtain ⟨n, rfl⟩ : ∃ n : Nat, z = (n : Int) := ⟨z.toNat, by omega⟩
    replace KC := Hid.mk' (KC.out.trans hQ)
    replace SC := Hid.mk' hS
    clear hS hQ
    refine hK.out _ _ trivial (fun hHeld => ?_)
    clear hK K9
    try simp only [Act.put, zA, zB, zC]
    refine wpAnyH_ready (rs := [12]) (by kernel_rfl) (by simp) ?_
    refine AllReadyH.cons (o := ⟨_, _, _, _, _, _⟩) rfl (fun K9 hK => ?_) AllReadyH.nil
    go_simp
    refine (l1SomeD_any b _ n l _ SC.out (by omega) (by omega) hl).mono ?_
    rintro e wc ⟨v, out, rfl, ho, hD⟩
    subst ho
    obtain ⟨pv, qv, rfl⟩ := own_form hD.own
    have hS := hD.src
    have hQ := hD.kept
    have OC := Hid.mk' (And.intro KC.out.size hD.own)
    clear hD
    replace KC := Hid.mk' (KC.out.trans hQ)
    replace SC := Hid.mk' hS
    clear hS hQ
    refine hK.out _ _ trivial (fun hHeld => ?_)
    clear hK K9
    try simp only [Act.put, zA, zB, zC]
    refine tkY 13 ?_
    rotate_left
    go_simp
    refine (l1Next_any b _ l 2 _ SC.out (by omega) (by decide) (by decide) hl).mono ?_
    rintro e wc ⟨z, rfl, n0, n1, hS, hQ⟩
    obtain ⟨n, rfl⟩ : ∃ n : Nat, z = (n : Int) := ⟨z.toNat, by omega⟩
    replace TC := Hid.mk' (TC.out.kept hQ)
    replace KC := Hid.mk' (KC.out.trans hQ)
    replace SC := Hid.mk' hS
    clear hS hQ
    refine hK.out _ _ trivial (fun hHeld => ?_)
    clear hK K9
    try simp only [Act.put, zA, zB, zC]
    refine wpAnyH_ready (rs := [8, 12]) (by kernel_rfl) (by simp) ?_
    refine AllReadyH.cons (o := ⟨_, _, _, _, _, _⟩) rfl (fun K9 hK => ?_) (AllReadyH.cons (o := ⟨_, _, _, _, _, _⟩) rfl (fun K9 hK => ?_) AllReadyH.nil)
    obtain ⟨tg, htg, htz⟩ := TC.out.at j (by omega)
    go_simp
    have HTZ := Hid.mk' htz
    clear htg htz TC
    refine hK.out _ _ trivial (fun hHeld => ?_)
    clear hK K9
    try simp only [Act.put, zA, zB, zC]
    refine wpAnyH_ready (rs := [12]) (by kernel_rfl) (by simp) ?_
    refine AllReadyH.cons (o := ⟨_, _, _, _, _, _⟩) rfl (fun K9 hK => ?_) AllReadyH.nil
    go_simp
    refine (l1SomeD_any b _ n l _ SC.out (by omega) (by omega) hl).mono ?_
    rintro e wc ⟨v, out, rfl, ho, hD⟩
    subst ho
    obtain ⟨pv, qv, rfl⟩ := own_form hD.own
    have hS := hD.src
    have hQ := hD.kept
    have OC := Hid.mk' (And.intro KC.out.size hD.own)
    clear hD
    replace KC := Hid.mk' (KC.out.trans hQ)
    replace SC := Hid.mk' hS
    clear hS hQ
    refine hK.out _ _ trivial (fun hHeld => ?_)
    clear hK K9
    try simp only [Act.put, zA, zB, zC]
    refine tkY 13 ?_
    rotate_left
    go_simp
    refine (l1SomeD_any b _ n l _ SC.out (by omega) (by omega) hl).mono ?_
    rintro e wc ⟨v, out, rfl, ho, hD⟩
    subst ho
    obtain ⟨pv, qv, rfl⟩ := own_form hD.own
    have hS := hD.src
    have hQ := hD.kept
    have OC := Hid.mk' (And.intro KC.out.size hD.own)
    clear hD
    replace TC := Hid.mk' (TC.out.kept hQ)
    replace KC := Hid.mk' (KC.out.trans hQ)
    replace SC := Hid.mk' hS
    clear hS hQ
    refine hK.out _ _ trivial (fun hHeld => ?_)
    clear hK K9
    try simp only [Act.put, zA, zB, zC]
    refine wpAnyH_ready (rs := [8]) (by kernel_rfl) (by simp) ?_
    refine AllReadyH.cons (o := ⟨_, _, _, _, _, _⟩) rfl (fun K9 hK => ?_) AllReadyH.nil
    obtain ⟨tg, htg, htz⟩ := TC.out.at j (by omega)
    go_simp
    have HTZ := Hid.mk' htz
    clear htg htz TC
    refine hK.out _ _ trivial (fun hHeld => ?_)
    clear hK K9
    try simp only [Act.put, zA, zB, zC]
    refine tkY 13 ?_
    rotate_left
    go_simp
    have NB := below_new wc (.cells #[.string ⟨#[112]⟩, .string ⟨#[80]⟩, .string ⟨#[98, 114]⟩] 9)
    have KB := KeptIn.of_below (lo := b) (hi := b + 1) NB
    have TC := Hid.mk' (T3x.new wc b SC.out.lt)
    replace KC := Hid.mk' (KC.out.trans KB)
    replace SC := Hid.mk' (SC.out.below NB)
    refine hK.out _ _ trivial (fun hHeld => ?_)
    clear hK K9 NB KB
    try simp only [Act.put, zA, zB, zC]
    generalize wc.alloc (.cells #[.string ⟨#[112]⟩, .string ⟨#[80]⟩, .string ⟨#[98, 114]⟩] 9) = wc at *
    refine wpAnyH_ready (rs := [2]) (by kernel_rfl) (by simp) ?_
    refine AllReadyH.cons (o := ⟨_, _, _, _, _, _⟩) rfl (fun K9 hK => ?_) AllReadyH.nil
    go_simp
    have NB := below_new wc (.cells #[.int .i64 (-1), .int .i64 0, .int .i64 1] 2)
    have KB := KeptIn.of_below (lo := b) (hi := b + 1) NB
    replace TC := Hid.mk' (TC.out.kept KB)
    have IC := Hid.mk' (And.intro (show ¬ b = wc.heap.size by have := SC.out.lt; omega) (show IAx (wc.alloc (.cells #[.int .i64 (-1), .int .i64 0, .int .i64 1] 2)) wc.heap.size [-1, 0, 1] from iat_litx wc [-1, 0, 1]))
    replace KC := Hid.mk' (KC.out.trans KB)
    replace SC := Hid.mk' (SC.out.below NB)
    refine hK.out _ _ trivial (fun hHeld => ?_)
    clear hK K9 NB KB
    try simp only [Act.put, zA, zB, zC]
    generalize wc.alloc (.cells #[.int .i64 (-1), .int .i64 0, .int .i64 1] 2) = wc at *
    refine wpAnyH_ready (rs := [3]) (by kernel_rfl) (by simp) ?_
    refine AllReadyH.cons (o := ⟨_, _, _, _, _, _⟩) rfl (fun K9 hK => ?_) AllReadyH.nil
    go_simp
    refine (l1Pick_any b _ _ _ l [-1, 0, 1] _ SC.out IC.out.2 IC.out.1 (by omega) (by decide) (by decide) hl).mono ?_
    rintro e wc ⟨i3, hi3, rfl, hS, hQ⟩
    obtain ⟨y, hy⟩ : ∃ y, ([-1, 0, 1] : List Int).getD i3 0 = y := ⟨_, rfl⟩
    rw [hy]
    replace TC := Hid.mk' (TC.out.kept hQ)
    replace KC := Hid.mk' (KC.out.trans hQ)
    replace SC := Hid.mk' hS
    clear hS hQ IC hi3 hy
    refine hK.out _ _ trivial (fun hHeld => ?_)
    clear hK K9
    try simp only [Act.put, zA, zB, zC]
    refine wpAnyH_ready (rs := [6]) (by kernel_rfl) (by simp) ?_
    refine AllReadyH.cons (o := ⟨_, _, _, _, _, _⟩) rfl (fun K9 hK => ?_) AllReadyH.nil
    go_simp
    refine (l1Next_any b _ l 3 _ SC.out (by omega) (by decide) (by decide) hl).mono ?_
    rintro e wc ⟨z, rfl, z0, z1, hS, hQ⟩
    obtain ⟨j, rfl⟩ : ∃ j : Nat, z = (j : Int) := ⟨z.toNat, by omega⟩
    replace TC := Hid.mk' (TC.out.kept hQ)
    replace KC := Hid.mk' (KC.out.trans hQ)
    replace SC := Hid.mk' hS
    clear hS hQ
    refine hK.out _ _ trivial (fun hHeld => ?_)
    clear hK K9
    try simp only [Act.put, zA, zB, zC]
    refine tkY 7 ?_
    refine wpAnyH_ready (rs := [8, 11]) (by kernel_rfl) (by simp) ?_
    refine AllReadyH.cons (o := ⟨_, _, _, _, _, _⟩) rfl (fun K9 hK => ?_) (AllReadyH.cons (o := ⟨_, _, _, _, _, _⟩) rfl (fun K9 hK => ?_) AllReadyH.nil)
    obtain ⟨tg, htg, htz⟩ := TC.out.at j (by omega)
    go_simp
    have HTZ := Hid.mk' htz
    clear htg htz TC
    refine hK.out _ _ trivial (fun hHeld => ?_)
    clear hK K9
    try simp only [Act.put, zA, zB, zC]
    refine wpAnyH_ready (rs := [11]) (by kernel_rfl) (by simp) ?_
    refine AllReadyH.cons (o := ⟨_, _, _, _, _, _⟩) rfl (fun K9 hK => ?_) AllReadyH.nil
    go_simp
    refine (l1Next_any b _ l 2 _ SC.out (by omega) (by decide) (by decide) hl).mono ?_
    rintro e wc ⟨z, rfl, n0, n1, hS, hQ⟩
    obtain ⟨n, rfl⟩ : ∃ n : Nat, z = (n : Int) := ⟨z.toNat, by omega⟩
    replace KC := Hid.mk' (KC.out.trans hQ)
    replace SC := Hid.mk' hS
    clear hS hQ
    refine hK.out _ _ trivial (fun hHeld => ?_)
    clear hK K9
    try simp only [Act.put, zA, zB, zC]
    refine wpAnyH_ready (rs := [12]) (by kernel_rfl) (by simp) ?_
    refine AllReadyH.cons (o := ⟨_, _, _, _, _, _⟩) rfl (fun K9 hK => ?_) AllReadyH.nil
    go_simp
    refine (l1SomeD_any b _ n l _ SC.out (by omega) (by omega) hl).mono ?_
    rintro e wc ⟨v, out, rfl, ho, hD⟩
    subst ho
    obtain ⟨pv, qv, rfl⟩ := own_form hD.own
    have hS := hD.src
    have hQ := hD.kept
    have OC := Hid.mk' (And.intro KC.out.size hD.own)
    clear hD
    replace KC := Hid.mk' (KC.out.trans hQ)
    replace SC := Hid.mk' hS
    clear hS hQ
    refine hK.out _ _ trivial (fun hHeld => ?_)
    clear hK K9
    try simp only [Act.put, zA, zB, zC]
    refine tkY 13 ?_
    rotate_left
    go_simp
    refine (l1Next_any b _ l 2 _ SC.out (by omega) (by decide) (by decide) hl).mono ?_
    rintro e wc ⟨z, rfl, n0, n1, hS, hQ⟩
    obtain ⟨n, rfl⟩ : ∃ n : Nat, z = (n : Int) := ⟨z.toNat, by omega⟩
    replace TC := Hid.mk' (TC.out.kept hQ)
    replace KC := Hid.mk' (KC.out.trans hQ)
    replace SC := Hid.mk' hS
    clear hS hQ
    refine hK.out _ _ trivial (fun hHeld => ?_)
    clear hK K9
    try simp only [Act.put, zA, zB, zC]
    refine wpAnyH_ready (rs := [8, 12]) (by kernel_rfl) (by simp) ?_
    refine AllReadyH.cons (o := ⟨_, _, _, _, _, _⟩) rfl (fun K9 hK => ?_) (AllReadyH.cons (o := ⟨_, _, _, _, _, _⟩) rfl (fun K9 hK => ?_) AllReadyH.nil)
    obtain ⟨tg, htg, htz⟩ := TC.out.at j (by omega)
    go_simp
    have HTZ := Hid.mk' htz
    clear htg htz TC
    refine hK.out _ _ trivial (fun hHeld => ?_)
    clear hK K9
    try simp only [Act.put, zA, zB, zC]
    refine wpAnyH_ready (rs := [12]) (by kernel_rfl) (by simp) ?_
    refine AllReadyH.cons (o := ⟨_, _, _, _, _, _⟩) rfl (fun K9 hK => ?_) AllReadyH.nil
    go_simp
    refine (l1SomeD_any b _ n l _ SC.out (by omega) (by omega) hl).mono ?_
    rintro e wc ⟨v, out, rfl, ho, hD⟩
    subst ho
    obtain ⟨pv, qv, rfl⟩ := own_form hD.own
    have hS := hD.src
    have hQ := hD.kept
    have OC := Hid.mk' (And.intro KC.out.size hD.own)
    clear hD
    replace KC := Hid.mk' (KC.out.trans hQ)
    replace SC := Hid.mk' hS
    clear hS hQ
    refine hK.out _ _ trivial (fun hHeld => ?_)
    clear hK K9
    try simp only [Act.put, zA, zB, zC]
    refine tkY 13 ?_
    rotate_left
    go_simp
    refine (l1SomeD_any b _ n l _ SC.out (by omega) (by omega) hl).mono ?_
    rintro e wc ⟨v, out, rfl, ho, hD⟩
    subst ho
    obtain ⟨pv, qv, rfl⟩ := own_form hD.own
    have hS := hD.src
    have hQ := hD.kept
    have OC := Hid.mk' (And.intro KC.out.size hD.own)
    clear hD
    replace TC := Hid.mk' (TC.out.kept hQ)
    replace KC := Hid.mk' (KC.out.trans hQ)
    replace SC := Hid.mk' hS
    clear hS hQ
    refine hK.out _ _ trivial (fun hHeld => ?_)
    clear hK K9
    try simp only [Act.put, zA, zB, zC]
    refine wpAnyH_ready (rs := [8]) (by kernel_rfl) (by simp) ?_
    refine AllReadyH.cons (o := ⟨_, _, _, _, _, _⟩) rfl (fun K9 hK => ?_) AllReadyH.nil
    obtain ⟨tg, htg, htz⟩ := TC.out.at j (by omega)
    go_simp
    have HTZ := Hid.mk' htz
    clear htg htz TC
    refine hK.out _ _ trivial (fun hHeld => ?_)
    clear hK K9
    try simp only [Act.put, zA, zB, zC]
    refine tkY 13 ?_
    rotate_left
    all_goals (
      refine wpAnyH_ready (rs := [14]) (by kernel_rfl) (by simp) ?_
      refine AllReadyH.cons (o := ⟨_, _, _, _, _, _⟩) rfl (fun K9 hK => ?_) AllReadyH.nil
      go_simp
      have NB := below_new wc (.cells #[.int .i64 y, .string tg, .slice none 0 0, .slice pv out.length qv] 44)
      have KB := KeptIn.of_below (lo := b) (hi := b + 1) NB
      replace OC := Hid.mk' (And.intro OC.out.1 (own_keep OC.out.2 NB))
      have K5 := Hid.mk' (KC.out.trans KB)
      have S5 := Hid.mk' (SC.out.below NB)
      have L5 := Nat.le_trans hlo2 K5.out.size
      refine hK.out _ _ trivial (fun hHeld => ?_)
      clear hK K9 NB KB
      try simp only [Act.put, zA, zB, zC]
      refine wpAnyH_ready (rs := [15]) (by kernel_rfl) (by simp) ?_
      refine AllReadyH.cons (o := ⟨_, _, _, _, _, _⟩) rfl (fun K9 hK => ?_) AllReadyH.nil
      refine step_append_at rfl (.tmp 24) (.tmp 38) 24 rfl lo 44 (.agg #[.int .i64 0, .string ⟨#[]⟩, .slice none 0 0, .slice none 0 0]) 4 72 Try.underlying24 Try.info44 rfl (by decide) _ nd.length _ rfl (HN.out.rowS (by omega) K5.out) _ 1 _ [.int .i64 y, .string tg, .slice none 0 0, .slice pv out.length qv] rfl rfl (.inr ⟨_, rfl, one_node wc _ _ _ _ _ _ rfl⟩) (by simp [Value.oneCell']) (by unfold maxLen; omega) (by omega) L5 ?_
      intro v' w6 ho2 hgr hat
      have D6 := Hid.mk' (DrT.put (m := 4000) (k := k) (n := 20) HN.out hbw hlo hlo2 HK.out K5.out S5.out (by omega) (t := ⟨y, tg, [], out⟩) (OA.nil _ _) OC.out.1 OC.out.2 (fun k e => ⟨by simp [Value.ownBlock], fun i hi => absurd hi (Nat.not_lt_zero _)⟩) ho2 hgr hat (by show nd.length + nssz nd + 1 + (tg.size + 0 + 0 + out.length) ≤ 4000; have := HTZ.out; omega))
      clear ho2 hgr hat
      refine hK.out _ _ trivial (fun hHeld => ?_)
      clear hK K9
      try simp only [Act.put, zA, zB, zC]
      refine tkY 16 ?_
      refine wpAnyH_done (by kernel_rfl) ?_ _
      go_wp2_with fail
      go_ret
      exact D6.out)
  by_cases c2 : x = 2
  · subst c2
    have hi0 : IAx (w2.alloc (.cells ([1, 61].map (Value.int .i64)).toArray 2)) w2.heap.size [1, 61] := iat_litx w2 [1, 61]
    have NB := below_new w2 (.cells ([1, 61].map (Value.int .i64)).toArray 2)
    have KP := Hid.mk' (l1Pick_any b (k1 + 1) w2.heap.size 2 l [1, 61] _ (HS2.out.below NB) hi0 (by omega) (by omega) (by decide) (by decide) hl)
    have K3 := Hid.mk' (HK2.out.trans (KeptIn.of_below NB))
    clear hi0 NB
    go_wp2_with fail
    refine KP.out.mono ?_
    rintro e w3 ⟨i, hi, rfl, hS3, hK3⟩
    obtain ⟨n, hn, hn61⟩ : ∃ n : Nat, ([1, 61] : List Int).getD i 0 = (n : Int) ∧ n ≤ 61 := by
      have h2 : i < 2 := hi
      have : i = 0 ∨ i = 1 := by omega
      rcases this with rfl | rfl
      · exact ⟨1, rfl, by decide⟩
      · exact ⟨61, rfl, by decide⟩
    rw [hn]
    have K3 := Hid.mk' (K3.out.trans hK3)
    have HS3 := Hid.mk' hS3
    clear hS3 hK3 KP hi hn
    have hmk := make_nodes (P := Try.prog) 24 44 Try.underlying24 Try.info44 n (by omega)
    go_wp2_with fail
    go_ret
    have e1 : (List.replicate n ZN).length = n := List.length_replicate
    have NB := below_new w3 (.cells (madeCells #[.int .i64 0, .string ⟨#[]⟩, .slice none 0 0, .slice none 0 0] (n * 4)) 44)
    exact ⟨List.replicate n ZN, _, some ⟨w3.heap.size, 0, none⟩, n, _, _, _, w3.heap.size, k1 + 1 + 1, by rw [e1]; rfl, by rw [e1]; exact zero_ns w3 n (by omega), Nat.le_trans s1 K3.out.size, NB.size, by rw [e1, nssz_rep]; omega, by omega, HS3.out.below NB, (HK.out.trans K3.out).trans (KeptIn.of_below NB)⟩
  by_cases c3 : x = 3
  · subst c3
    go_wp2_with fail
    have K0 := Hid.mk' (HK.out.trans HK2.out)
    clear HN HK HK2 hsz hlo hlo2
    go_loopw [3, 4] (fun v i wr => ∃ (m : Nat) (nd : List ND) (τ : Nat → Nat) (va vt : Nat → Value) (us : Nat → List Value) (k' : Nat), i = .int .i64 (m : Int) ∧ m ≤ 9 ∧ nd.length = m ∧ nssz nd ≤ m ∧ NS τ w2.heap.size wr v nd va vt us ∧ Src b l k' wr ∧ k' ≤ k1 + 1 + m ∧ KeptIn b (b + 1) w2 wr) (fun _ i _ => 9 - (intOf i).toNat)
    case atStart => exact ⟨0, [], fun _ => 0, fun _ => undef, fun _ => undef, fun _ => [], k1 + 1, rfl, by omega, rfl, Nat.le_refl _, NS.nil _ _ _ _ _ _, HS2.out, by omega, KeptIn.refl _ _ _⟩
    case round =>
      obtain ⟨m, nd, τ, va, vt, us, k', rfl, hm, hnl, hns, hN, hS, hk', hK⟩ := hrel
      subst hnl
      have hi0 : IAx (wr.alloc (.cells ([8, 9].map (Value.int .i64)).toArray 2)) wr.heap.size [8, 9] := iat_litx wr [8, 9]
      have NB := below_new wr (.cells ([8, 9].map (Value.int .i64)).toArray 2)
      have hbr := hS.lt
      have KP := Hid.mk' (l1Pick_any b k' wr.heap.size 2 l [8, 9] _ (hS.below NB) hi0 (by omega) (by omega) (by decide) (by decide) hl)
      have K3 := Hid.mk' (KeptIn.of_below (lo := b) (hi := b + 1) NB)
      have HN := Hid.mk' hN
      have HK := Hid.mk' hK
      obtain ⟨pv, qv, ev, _⟩ := own_len hN.row
      subst ev
      clear hi0 NB hN hS hK
      go_wp2_with fail
      refine KP.out.mono ?_
      rintro e w3 ⟨i, hi, rfl, hS3, hK3⟩
      obtain ⟨n, hn, hn9⟩ : ∃ n : Nat, ([8, 9] : List Int).getD i 0 = (n : Int) ∧ n ≤ 9 := by
        have h2 : i < 2 := hi
        have : i = 0 ∨ i = 1 := by omega
        rcases this with rfl | rfl
        · exact ⟨8, rfl, by decide⟩
        · exact ⟨9, rfl, by decide⟩
      rw [hn]
      have K3 := Hid.mk' (K3.out.trans hK3)
      have HS3 := Hid.mk' hS3
      clear hS3 hK3 KP hi hn
      by_cases hlt : nd.length < n
      · have ci : (nd.length : Int) < (n : Int) := by omega
        have NN := below_new w3 (.cells #[.int .i64 ((nd.length : Int) - 1), .string ⟨#[98]⟩, .slice none 0 0, .slice none 0 0] 44)
        have K5 : Hid (KeptIn b (b + 1) wr _) := Hid.mk' (K3.out.trans (KeptIn.of_below NN))
        have HS5 := Hid.mk' (HS3.out.below NN)
        have w25 : w2.heap.size ≤ _ := Nat.le_trans HK.out.size K5.out.size
        clear NN
        go_wp2_with (at_builtin; refine wpList_append_at _ rfl (.tmp 55) (.tmp 59) 24 rfl w2.heap.size 44 (.agg #[.int .i64 0, .string ⟨#[]⟩, .slice none 0 0, .slice none 0 0]) 4 72 Try.underlying24 Try.info44 rfl (by decide) _ nd.length _ rfl (HN.out.rowS (by have := HS2.out.lt; omega) K5.out) _ 1 _ [.int .i64 ((nd.length : Int) - 1), .string ⟨#[98]⟩, .slice none 0 0, .slice none 0 0] rfl rfl (.inr ⟨_, rfl, one_node w3 _ _ _ _ _ _ rfl⟩) (by simp [Value.oneCell']) (by unfold maxLen; omega) (by omega) w25 ?_; intro v' w6 ho2 hgr hat)
        obtain ⟨τ', va', vt', us', A⟩ := HN.out.appS (b := b) (lo1 := wr.heap.size) (by have := HS2.out.lt; omega) HK.out.size K5.out (t := ⟨(nd.length : Int) - 1, ⟨#[98]⟩, [], []⟩) (OA.nil _ _) (Nat.le_refl _) ⟨rfl, .inl ⟨rfl, rfl⟩⟩ (fun k e => by simp [Value.ownBlock] at e) ho2 hgr hat
        have lb := own_lo HN.out.row
        have K6 := Hid.mk' ((HK.out.trans K5.out).grown hgr (fun k e => lb k e))
        have S6 : Hid (Src b l (k' + 1) w6) := Hid.mk' (HS5.out.kept (lo := w2.heap.size) (hi := w6.heap.size) ⟨hgr.os, hgr.tape, hgr.output, hgr.size, fun j hj hc => hgr.block j hj (fun e => by have := lb j e.symm; have := hgr.size; omega)⟩ HS2.out.lt)
        have HA := Hid.mk' A
        clear A ho2 hgr hat lb
        go_roundw
        case rel =>
          refine ⟨nd.length + 1, nd ++ [⟨(nd.length : Int) - 1, ⟨#[98]⟩, [], []⟩], τ', va', vt', us', k' + 1, by go_num, by omega, by simp, ?_, HA.out, S6.out, by omega, K6.out⟩
          rw [nssz_snoc]
          show nssz nd + 1 ≤ _
          omega
        case measure => simp [intOf]; omega
      · have ci : ¬ (nd.length : Int) < (n : Int) := by omega
        go_wp2_with fail
        go_ret
        have hb2 := HS2.out.lt
        exact ⟨nd, _, pv, qv, va, vt, us, w2.heap.size, k' + 1, rfl, HN.out.around (lo' := w2.heap.size) (w' := w3) (Nat.le_refl _) rfl (fun k h2 h3 => K3.out.block k h3 (.inr (by omega))), K0.out.size, Nat.le_trans HK.out.size K3.out.size, by omega, by omega, HS3.out, (K0.out.trans HK.out).trans K3.out⟩
  have N2 : Hid (NS (fun k => if lo ≤ k ∧ k < w1.heap.size then τ k else 1) lo w2 (.slice p nd.length c) nd va vt us) := Hid.mk' (HN.out.around (Nat.le_refl _) rfl (fun k h2 h3 => HK2.out.block k h3 (.inr (by omega))))
  have KW := Hid.mk' (HK.out.trans HK2.out)
  have e0 : (x == 0) = false := by simpa using c0
  have e1 : (x == 1) = false := by simpa using c1
  have e2 : (x == 2) = false := by simpa using c2
  have e3 : (x == 3) = false := by simpa using c3
  go_wp2
  go_ret
  exact ⟨nd, _, p, c, va, vt, us, lo, k1 + 1, rfl, N2.out, hlo, by omega, by omega, by omega, HS2.out, KW.out⟩

end Go.Proofs.Ytlaeomnacgjcgaa

namespace Go.Proofs.Ytlaeomnacgjcgaa
open Go.RowKit

end Go.Proofs.Ytlaeomnacgjcgaa

namespace Go.Proofs.Ytlaeomnacgjcgaa
open Go.RowKit

theorem lwBigT_any (a : Option Addr) (c n : Nat) (w : World) :
    Calls Try.prog 5 #[.slice a n c] w fun e w' => e = .returned (.bool (decide ((1048576 : Int) < (n : Int)))) ∧ w' = w := by
  go_enter Try.func5, Try.ntmps5
  go_wp2
  go_ret
  exact ⟨rfl, rfl⟩

def DrN (w : World) (e : Ending) (w' : World) : Prop :=
  ∃ (nd : List ND) (p : Option Addr) (c : Nat) (x : Int), e = .returned (.tuple #[.slice p nd.length c, .int .i64 x]) ∧ NsAt w' p nd ∧ nd.length + nssz nd ≤ 4000 ∧ -2 ≤ x ∧ x ≤ (nd.length : Int) ∧ Below w.heap.size w w'

set_option maxRecDepth 100000 in
set_option maxHeartbeats 4000000 in
theorem drawKids_any (q : Option Addr) (c' : Nat) (l : List Int) (w : World) (hd : BAt w q l) (hu : Byt l) (hl : (l.length : Int) ≤ 1048576) :
    Calls Try.prog 10 #[.slice q l.length c'] w fun e w' => DrN w e w' := by
  have KS := Hid.mk' (l1Source_any q c' l w hd (fun i hi => ⟨(hu i hi).1, by have := (hu i hi).2; omega⟩))
  clear hd hu
  go_enter Try.func10, Try.ntmps10
  go_wp2_with fail
  refine KS.out.mono ?_
  rintro e w1 ⟨rfl, hS, hB⟩
  obtain ⟨b, hb⟩ : ∃ b, w.heap.size = b := ⟨_, rfl⟩
  rw [hb] at hS
  try rw [hb]
  have lb : b < w1.heap.size := hS.lt
  have KB := Hid.mk' (l6Bent_any b 0 l w1 hS (by omega) hl)
  have HB := Hid.mk' hB
  clear hS hB KS
  go_wp2_with fail
  refine KB.out.mono ?_
  rintro e w2 ⟨nd, τ, p, c, va, vt, us, lo, k', rfl, hN, hlo, hlo2, hsz, hk, hS, hK⟩
  have HN := Hid.mk' hN
  have HK := Hid.mk' hK
  have KX := Hid.mk' (l1Next_any b k' l ((nd.length : Int) + 3) w2 hS (by omega) (by omega) (by omega) hl)
  clear hN hK hS KB
  go_wp2_with fail
  refine KX.out.mono ?_
  rintro e w3 ⟨x, rfl, x0, x1, hS3, hK3⟩
  obtain ⟨a, c2, ea, hna⟩ := HN.out.nq.at
  injection ea with ea1 _ _
  subst ea1
  have bl : Below w.heap.size w w3 := (HB.out.trans (HK.out.below (by omega) (by rw [hb] at *; have := HB.out.size; omega))).trans (hK3.below (by omega) (by have := HB.out.size; have := HK.out.size; omega))
  have hna3 : NsAt w3 p nd := by
    obtain ⟨a9, c9, ea9, hna9⟩ := (HN.out.around (lo' := lo) (w' := w3) (Nat.le_refl _) rfl (fun k h2 h3 => hK3.block k h3 (.inr (by omega)))).nq.at
    injection ea9 with ea1 _ _
    rw [ea1]; exact hna9
  have BL := Hid.mk' bl
  have NA := Hid.mk' hna3
  have xw : IntKind.i64.wrap (x - 2) = x - 2 := by rw [IntKind.wrap_i64]; omega
  clear hS3 hK3 KX hna bl hna3 HN
  go_wp2_with fail
  refine bodyPost_ret (v := .tuple #[.slice p nd.length c, .int .i64 (x - 2)]) (by simp [results, Try.results10, go_sem, *]) rfl ?_
  exact ⟨nd, p, c, x - 2, rfl, NA.out, hsz, by omega, by omega, BL.out⟩

end Go.Proofs.Ytlaeomnacgjcgaa

namespace Go.Proofs.Ytlaeomnacgjcgaa
open Go.RowKit

def textU (l : List ND) : Nat → List Int
  | 0 => []
  | k + 1 => textU l k ++ (ndK l k).tx

theorem textU_len (l : List ND) : ∀ k, k ≤ l.length → (textU l k).length ≤ nssz (l.take k)
  | 0, _ => by simp [textU]
  | k + 1, hk => by
    have := textU_len l k (by omega)
    have st := nssz_take l k (by omega)
    unfold nsz at st
    simp only [textU, List.length_append]
    omega

theorem textU_le (l : List ND) (k : Nat) (hk : k ≤ l.length) : (textU l k).length ≤ nssz l := Nat.le_trans (textU_len l k hk) (nssz_le l k)

def txC (l : List ND) : Int := if treeF l = 0 then (if 2000 < (textU l l.length).length then 6 else 0) else treeF l
def txL (l : List ND) : List Int := if txC l = 0 then textU l l.length else []

theorem tx_cases (l : List ND) : (¬ treeF l = 0 ∧ txC l = treeF l ∧ txL l = []) ∨ (treeF l = 0 ∧ 2000 < (textU l l.length).length ∧ txC l = 6 ∧ txL l = []) ∨ (treeF l = 0 ∧ ¬ 2000 < (textU l l.length).length ∧ txC l = 0 ∧ txL l = textU l l.length) := by
  by_cases h : treeF l = 0
  · by_cases h2 : 2000 < (textU l l.length).length
    · have e : txC l = 6 := by unfold txC; rw [if_pos h, if_pos h2]
      exact .inr (.inl ⟨h, h2, e, by unfold txL; rw [e]; rfl⟩)
    · have e : txC l = 0 := by unfold txC; rw [if_pos h, if_neg h2]
      exact .inr (.inr ⟨h, h2, e, by unfold txL; rw [if_pos e]⟩)
  · have e : txC l = treeF l := by unfold txC; rw [if_neg h]
    exact .inl ⟨h, e, by unfold txL; rw [e, if_neg h]⟩

def TxP (l : List ND) (w : World) (e : Ending) (w' : World) : Prop := ∃ v, e = .returned (.agg #[.int .i64 (txC l), v]) ∧ OB w' v (txL l) ∧ (∀ k, v.ownBlock = some k → w.heap.size ≤ k) ∧ Below w.heap.size w w'

theorem tx_nil {l : List ND} {c : Int} {w w' : World} (h1 : txC l = c) (h2 : txL l = []) (hb : Below w.heap.size w w') : TxP l w (.returned (.agg #[.int .i64 c, .slice none 0 0])) w' :=
  ⟨_, by rw [h1], by rw [h2]; exact .inl ⟨rfl, rfl⟩, fun k e => by simp [Value.ownBlock] at e, hb⟩

theorem ob_set {w : World} {v u : Value} {l : List Int} {g j : Nat} (h : OB w v l) (hg : ¬ v.ownBlock = some g) : OB (w.setCell ⟨g, j, none⟩ u) v l :=
  h.keep fun k e hl => Below.heap_setCell _ _ _ _ (fun e' => hg (by rw [e, e']))

theorem tx_own {l : List ND} {w w1 : World} {v u0 u1 : Value} (h1 : txC l = 0) (h2 : txL l = textU l l.length) (ho : OB w1 v (textU l l.length)) (hlo : ∀ k, v.ownBlock = some k → w.heap.size < k) (hb : Below w.heap.size w w1) :
    TxP l w (.returned (.agg #[.int .i64 0, v])) ((w1.setCell ⟨w.heap.size, 0, none⟩ u0).setCell ⟨w.heap.size, 1, none⟩ u1) := by
  have hne : ¬ v.ownBlock = some w.heap.size := fun e => by have := hlo _ e; omega
  exact ⟨v, by rw [h1], by rw [h2]; exact ob_set (ob_set ho hne) hne, fun k e => by have := hlo k e; omega, (hb.setCell (p := ⟨w.heap.size, 0, none⟩) (Nat.le_refl _) _).setCell (p := ⟨w.heap.size, 1, none⟩) (Nat.le_refl _) _⟩

set_option maxRecDepth 100000 in
set_option maxHeartbeats 3200000 in
theorem specText_n (a : Option Addr) (c : Nat) (l : List ND) (w : World) (ha : NsAt w a l) (hl : (l.length : Int) + nssz l ≤ 1048576) :
    Calls Try.prog 17 #[.slice a l.length c] w fun e w' => TxP l w e w' := by
  have N0 := below_new w (.cells #[.int .i64 0, .slice none 0 0] 37)
  have KF := l6Fault_any a c l _ (ha.below N0) hl
  have RB := Hid.mk' (rowp2 w 37 (.int .i64 0) (.slice none 0 0))
  have HN := Hid.mk' N0
  have HA := Hid.mk' (ha.below N0)
  have HS : Hid ((w.alloc (.cells #[.int .i64 0, .slice none 0 0] 37)).heap.size = w.heap.size + 1) := Hid.mk' (by simp)
  clear ha N0
  generalize hW : w.alloc (.cells #[.int .i64 0, .slice none 0 0] 37) = W at *
  by_cases h0 : treeF l = 0
  rotate_left
  · rcases tx_cases l with ⟨h1, h2, h3⟩ | ⟨h1, _⟩ | ⟨h1, _⟩
    rotate_left
    · exact absurd h1 h0
    · exact absurd h1 h0
    have KF := Hid.mk' KF
    have E2 := Hid.mk' h2
    have E3 := Hid.mk' h3
    clear h2 h3
    go_enter Try.func17, Try.ntmps17
    go_wp2_with fail
    clear hW
    refine KF.out.mono ?_
    rintro e w1 ⟨rfl, hb⟩
    have R1 := rowB RB.out hb
    have HB := Hid.mk' (HN.out.trans (hb.mono HN.out.size))
    obtain ⟨b0, b1, b2⟩ := cells2 R1
    have f0 := R1.frozen 0
    have f1 := R1.frozen 1
    clear hb KF R1
    go_wp2
    refine bodyPost_ret (v := .agg #[.int .i64 (treeF l), .slice none 0 0]) (by simp [results, Try.results17, go_sem, *]) rfl ?_
    exact tx_nil E2.out E3.out ((HB.out.setCell (p := ⟨w.heap.size, 0, none⟩) (Nat.le_refl _) _).setCell (p := ⟨w.heap.size, 1, none⟩) (Nat.le_refl _) _)
  rw [h0] at KF
  have KF := Hid.mk' KF
  have H0 := Hid.mk' h0
  clear h0
  go_enter Try.func17, Try.ntmps17
  go_wp2_with fail
  clear hW
  refine KF.out.mono ?_
  rintro e w1 ⟨rfl, hb⟩
  have HR := Hid.mk' (rowB RB.out hb)
  have HB := Hid.mk' (HN.out.trans (hb.mono HN.out.size))
  have HC := Hid.mk' hb
  clear hb KF
  have O0 := Hid.mk' (World.ownsRow_lit (base := w1.heap.size) (e := 5) (size := 1) w1 #[] 0 (Nat.le_refl _) (by unfold maxLen; omega) rfl)
  have B0 := Hid.mk' (below_new w1 (.cells #[] 5))
  have SL : Hid (w.heap.size < w1.heap.size) := Hid.mk' (by have := HC.out.size; have := HS.out; omega)
  go_wp2_with fail
  go_loopw [4, 5] (fun v i wr => ∃ k : Nat, k ≤ l.length ∧ i = .int .i64 k ∧ wr.ownsRow w1.heap.size 5 1 v (textU l k).length (bcs (textU l k)) ∧ Below w1.heap.size w1 wr) (fun _ i _ => l.length - (intOf i).toNat)
  case atStart => exact ⟨0, Nat.zero_le _, rfl, O0.out, B0.out⟩
  case round =>
    obtain ⟨k, hk, rfl, hown, hbl⟩ := hrel
    have HO := Hid.mk' hown
    have HBL := Hid.mk' hbl
    by_cases hlt : k < l.length
    · have ci : (k : Int) < (l.length : Int) := by omega
      rcases (HA.out.below HC.out).below hbl with ha | ⟨b, o, rfl, hbs, hc⟩
      · exact absurd hlt (by rw [ha]; exact Nat.not_lt_zero _)
      obtain ⟨_, _, _, ⟨p, d, q1, q2⟩⟩ := hc k hlt
      have t1 := textU_le l (k + 1) (by omega)
      have tl : (textU l (k + 1)).length = (textU l k).length + (ndK l k).tx.length := by simp [textU]
      have SR := Hid.mk' q2.src
      have SZ := Hid.mk' hbl.size
      clear hc hown hbl q2
      have tl' := Hid.mk' tl
      have b1 : (textU l k).length + (ndK l k).tx.length ≤ 1048576 := by omega
      clear tl
      go_wp2_with (at_builtin; refine wpList_append_at _ rfl (.tmp 19) (.tmp 24) 22 rfl w1.heap.size 5 (.int .u8 0) 1 1 Try.underlying22 Try.info5 rfl (by decide) _ _ _ rfl HO.out _ (ndK l k).tx.length _ (bcs (ndK l k).tx) rfl (bcs_len _) SR.out (bcs_one _) (by unfold maxLen; omega) (by omega) SZ.out ?_; intro v' w3 ho hgr hat)
      have O2 : Hid (w3.ownsRow w1.heap.size 5 1 v' (textU l (k + 1)).length (bcs (textU l (k + 1)))) := Hid.mk' (by
        rw [tl'.out]
        show World.ownsRow _ _ _ _ _ _ (bcs (textU l k ++ (ndK l k).tx))
        rw [bcs_append]; exact ho)
      have B2 := Hid.mk' (HBL.out.grown hgr SZ.out (own_lo HO.out))
      clear ho hgr hat
      go_roundw
      case rel => exact ⟨k + 1, by omega, by go_num, O2.out, B2.out⟩
      case measure => simp [intOf]; omega
    · have ci : ¬ (k : Int) < (l.length : Int) := by omega
      have e : k = l.length := by omega
      subst e
      obtain ⟨av, cv, ev, _⟩ := own_len hown
      subst ev
      clear hown hbl
      have R3 := rowB HR.out HBL.out
      obtain ⟨b0, b1, b2⟩ := cells2 R3
      have f0 := R3.frozen 0
      have f1 := R3.frozen 1
      have HB := Hid.mk' (HB.out.trans (HBL.out.mono HB.out.size))
      clear R3
      rcases tx_cases l with ⟨h1, _⟩ | ⟨h1, h2, h3, h4⟩ | ⟨h1, h2, h3, h4⟩
      · exact absurd H0.out h1
      · have E2 := Hid.mk' h3
        have E3 := Hid.mk' h4
        have h2' : ((textU l l.length).length : Int) > 2000 := by omega
        clear h1 h2 h3 h4
        go_wp2
        refine bodyPost_ret (v := .agg #[.int .i64 6, .slice none 0 0]) (by simp [results, Try.results17, go_sem, *]) rfl ?_
        exact tx_nil E2.out E3.out ((HB.out.setCell (p := ⟨w.heap.size, 0, none⟩) (Nat.le_refl _) _).setCell (p := ⟨w.heap.size, 1, none⟩) (Nat.le_refl _) _)
      · have E2 := Hid.mk' h3
        have E3 := Hid.mk' h4
        have h2' : ¬ ((textU l l.length).length : Int) > 2000 := by omega
        clear h1 h2 h3 h4
        go_wp2
        refine bodyPost_ret (v := .agg #[.int .i64 0, .slice av (textU l l.length).length cv]) (by simp [results, Try.results17, go_sem, *]) rfl ?_
        exact tx_own E2.out E3.out (OB.of_own HO.out).1 (fun k e => by have := (OB.of_own HO.out).2 k e; have := SL.out; omega) HB.out

set_option maxRecDepth 100000 in
set_option maxHeartbeats 3200000 in
theorem implText_n (a : Option Addr) (c : Nat) (l : List ND) (w : World) (ha : NsAt w a l) (hl : (l.length : Int) + nssz l ≤ 1048576) :
    Calls Try.prog 16 #[.slice a l.length c] w fun e w' => TxP l w e w' := by
  have N0 := below_new w (.cells #[.int .i64 0, .slice none 0 0] 37)
  have KF := implTree_any a c l _ (ha.below N0) hl
  have RB := Hid.mk' (rowp2 w 37 (.int .i64 0) (.slice none 0 0))
  have HN := Hid.mk' N0
  have HA := Hid.mk' (ha.below N0)
  have HS : Hid ((w.alloc (.cells #[.int .i64 0, .slice none 0 0] 37)).heap.size = w.heap.size + 1) := Hid.mk' (by simp)
  clear ha N0
  generalize hW : w.alloc (.cells #[.int .i64 0, .slice none 0 0] 37) = W at *
  by_cases h0 : treeF l = 0
  rotate_left
  · rcases tx_cases l with ⟨h1, h2, h3⟩ | ⟨h1, _⟩ | ⟨h1, _⟩
    rotate_left
    · exact absurd h1 h0
    · exact absurd h1 h0
    have KF := Hid.mk' KF
    have E2 := Hid.mk' h2
    have E3 := Hid.mk' h3
    clear h2 h3
    go_enter Try.func16, Try.ntmps16
    go_wp2_with fail
    clear hW
    refine KF.out.mono ?_
    rintro e w1 ⟨rfl, hb⟩
    have R1 := rowB RB.out hb
    have HB := Hid.mk' (HN.out.trans (hb.mono HN.out.size))
    obtain ⟨b0, b1, b2⟩ := cells2 R1
    have f0 := R1.frozen 0
    have f1 := R1.frozen 1
    clear hb KF R1
    go_wp2
    refine bodyPost_ret (v := .agg #[.int .i64 (treeF l), .slice none 0 0]) (by simp [results, Try.results16, go_sem, *]) rfl ?_
    exact tx_nil E2.out E3.out ((HB.out.setCell (p := ⟨w.heap.size, 0, none⟩) (Nat.le_refl _) _).setCell (p := ⟨w.heap.size, 1, none⟩) (Nat.le_refl _) _)
  rw [h0] at KF
  have KF := Hid.mk' KF
  have H0 := Hid.mk' h0
  clear h0
  go_enter Try.func16, Try.ntmps16
  go_wp2_with fail
  clear hW
  refine KF.out.mono ?_
  rintro e w1 ⟨rfl, hb⟩
  have HR := Hid.mk' (rowB RB.out hb)
  have HB := Hid.mk' (HN.out.trans (hb.mono HN.out.size))
  have HC := Hid.mk' hb
  clear hb KF
  have SL : Hid (w.heap.size < w1.heap.size) := Hid.mk' (by have := HC.out.size; have := HS.out; omega)
  go_wp2_with fail
  go_loopw [4, 15] (fun v i wr => ∃ k : Nat, k ≤ l.length ∧ i = .int .i64 k ∧ OB wr v (textU l k) ∧ (∀ q, v.ownBlock = some q → w.heap.size < q) ∧ Below w1.heap.size w1 wr) (fun _ i _ => l.length - (intOf i).toNat)
  case atStart => exact ⟨0, Nat.zero_le _, rfl, .inl ⟨rfl, rfl⟩, fun q e => by simp [Value.ownBlock] at e, Below.refl _ _⟩
  case round =>
    obtain ⟨k, hk, rfl, hob, hlo, hbl⟩ := hrel
    have HO := Hid.mk' hob
    have HL := Hid.mk' hlo
    have HBL := Hid.mk' hbl
    by_cases hlt : k < l.length
    · have ci : (k : Int) < (l.length : Int) := by omega
      rcases (HA.out.below HC.out).below hbl with ha | ⟨b, o, rfl, hbs, hc⟩
      · exact absurd hlt (by rw [ha]; exact Nat.not_lt_zero _)
      obtain ⟨q0, q1, ⟨p2', d2, q2, _, _⟩, ⟨p, d, q3, q4⟩⟩ := hc k hlt
      have t1 := textU_le l (k + 1) (by omega)
      have tl : (textU l (k + 1)).length = (textU l k).length + (ndK l k).tx.length := by simp [textU]
      obtain ⟨av, cv, ev, hBA⟩ := hob.len
      subst ev
      have V1 := below_new wr (.cells #[.int .i64 (ndK l k).up, .string (ndK l k).tg, .slice p2' (ndK l k).at_.length d2, .slice p (ndK l k).tx.length d] 44)
      have RN := Hid.mk' (row4 wr 44 (.int .i64 (ndK l k).up) (.string (ndK l k).tg) (.slice p2' (ndK l k).at_.length d2) (.slice p (ndK l k).tx.length d))
      have BA := hBA.below V1
      have BT := q4.below V1
      have SZ2 : Hid (w1.heap.size ≤ wr.heap.size) := Hid.mk' hbl.size
      have HBL := Hid.mk' (HBL.out.trans (V1.mono HBL.out.size))
      have SV := Hid.mk' V1.size
      clear V1
      generalize hWn : wr.alloc (.cells #[.int .i64 (ndK l k).up, .string (ndK l k).tg, .slice p2' (ndK l k).at_.length d2, .slice p (ndK l k).tx.length d] 44) = Wn at *
      have KJ : Hid (Calls Try.prog 34 #[.slice av (textU l k).length cv, .slice p (ndK l k).tx.length d] Wn fun e w' => ∃ g, e = .returned (.slice (some ⟨g, 0, none⟩) (textU l (k + 1)).length (textU l (k + 1)).length) ∧ w1.heap.size ≤ g ∧ w'.rowIs g 5 (textU l (k + 1)).length (bv (textU l (k + 1))) ∧ Below Wn.heap.size Wn w') := by
        rcases Nat.eq_zero_or_pos (ndK l k).tx.length with h0 | h0
        · have e : textU l (k + 1) = textU l k := by
            show textU l k ++ (ndK l k).tx = _
            rw [List.eq_nil_of_length_eq_zero h0, List.append_nil]
          have := joinBytes_nil av p cv d (textU l k) _ BA (by omega)
          rw [e, h0]
          exact this.mono fun e' w' ⟨g, x1, x2, x3, x4⟩ => ⟨g, x1, Nat.le_trans (Nat.le_trans SZ2.out SV.out) x2, x3, x4⟩
        · have := joinBytes_pos av p cv d (textU l k) (ndK l k).tx _ BA BT h0 (by omega)
          rw [tl]
          exact this.mono fun e' w' ⟨g, x1, x2, x3, x4⟩ => ⟨g, x1, Nat.le_trans (Nat.le_trans SZ2.out SV.out) x2, x3, x4⟩
      clear hc hob hlo hbl hBA q4 BA BT tl
      obtain ⟨r0, r1, r2, r3_, r4_⟩ := cells4 RN.out
      go_wp2_with fail
      clear hWn
      refine KJ.out.mono ?_
      rintro e w3 ⟨g, rfl, hg, hrow, hb⟩
      have O2 : Hid (OB w3 (.slice (some ⟨g, 0, none⟩) (textU l (k + 1)).length (textU l (k + 1)).length) (textU l (k + 1))) := Hid.mk' (.inr ⟨g, _, _, _, rfl, Nat.le_refl _, hrow, Nat.le_refl _, fun _ _ => rfl⟩)
      have L2 : Hid (∀ q, (Value.slice (some ⟨g, 0, none⟩) (textU l (k + 1)).length (textU l (k + 1)).length).ownBlock = some q → w.heap.size < q) := Hid.mk' (fun q e => by simp [Value.ownBlock] at e; have := SL.out; omega)
      have B2 := Hid.mk' (HBL.out.trans (hb.mono HBL.out.size))
      clear hrow hb KJ
      go_wp2
      go_roundw
      case rel => exact ⟨k + 1, by omega, by go_num, O2.out, L2.out, B2.out⟩
      case measure => simp [intOf]; omega
    · have ci : ¬ (k : Int) < (l.length : Int) := by omega
      have e : k = l.length := by omega
      subst e
      obtain ⟨av, cv, ev, _⟩ := hob.len
      subst ev
      clear hob hlo hbl
      have R3 := rowB HR.out HBL.out
      obtain ⟨b0, b1, b2⟩ := cells2 R3
      have f0 := R3.frozen 0
      have f1 := R3.frozen 1
      have HB := Hid.mk' (HB.out.trans (HBL.out.mono HB.out.size))
      clear R3
      rcases tx_cases l with ⟨h1, _⟩ | ⟨h1, h2, h3, h4⟩ | ⟨h1, h2, h3, h4⟩
      · exact absurd H0.out h1
      · have E2 := Hid.mk' h3
        have E3 := Hid.mk' h4
        have h2' : ((textU l l.length).length : Int) > 2000 := by omega
        clear h1 h2 h3 h4
        go_wp2
        refine bodyPost_ret (v := .agg #[.int .i64 6, .slice none 0 0]) (by simp [results, Try.results16, go_sem, *]) rfl ?_
        exact tx_nil E2.out E3.out ((HB.out.setCell (p := ⟨w.heap.size, 0, none⟩) (Nat.le_refl _) _).setCell (p := ⟨w.heap.size, 1, none⟩) (Nat.le_refl _) _)
      · have E2 := Hid.mk' h3
        have E3 := Hid.mk' h4
        have h2' : ¬ ((textU l l.length).length : Int) > 2000 := by omega
        clear h1 h2 h3 h4
        go_wp2
        refine bodyPost_ret (v := .agg #[.int .i64 0, .slice av (textU l l.length).length cv]) (by simp [results, Try.results16, go_sem, *]) rfl ?_
        exact tx_own E2.out E3.out HO.out HL.out HB.out

end Go.Proofs.Ytlaeomnacgjcgaa
