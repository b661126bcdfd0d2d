/- Walks: the source of draws; one number drawn, one chance, one of several. -/
import Derived.Test.YtlaeomnacgjcgaaS22
import Derived.Test.YtlaeomnacgjcgaaS6
import Derived.Test.YtlaeomnacgjcgaaR3
set_option linter.unusedVariables false
set_option linter.unusedSimpArgs false
namespace Go.Proofs.Ytlaeomnacgjcgaa
open Go.RowKit

structure Src (b : Nat) (l : List Int) (k : Nat) (w : World) : Prop where
  row : ∃ a c, w.rowIs b 73 2 (q2 (.slice a l.length c) (.int .i64 k)) ∧ (l = [] ∨ ∃ g o, a = some ⟨g, o, none⟩ ∧ g < b ∧ ∀ i, i < l.length → w.cell? ⟨g, o + i, none⟩ = some (bv l i))
  u8 : ∀ i, i < l.length → 0 ≤ l.getD i 0 ∧ l.getD i 0 ≤ 255

theorem KeptIn.cell {lo hi : Nat} {w w' : World} (h : KeptIn lo hi w w') {p : Addr} (hp : p.block < w.heap.size) (hd : p.block < lo ∨ hi ≤ p.block) : w'.cell? p = w.cell? p :=
  World.cell?_of_block (h.block p.block hp hd)

theorem KeptIn.grown {lo hi : Nat} {w wr w1 : World} {row : Option Nat} (h : KeptIn lo hi w wr) (hg : wr.grownBy w1 row) (hr : ∀ k, row = some k → w.heap.size ≤ k) : KeptIn lo hi w w1 :=
  ⟨hg.os.trans h.os, hg.tape.trans h.tape, hg.output.trans h.output, Nat.le_trans h.size hg.size, fun k hk hc => (hg.block k (Nat.lt_of_lt_of_le hk h.size) (fun e => by have := hr k e.symm; omega)).trans (h.block k hk hc)⟩

theorem Src.lt {b k : Nat} {l : List Int} {w : World} (h : Src b l k w) : b < w.heap.size := by
  obtain ⟨a, c, hr, _⟩ := h.row
  exact hr.lt

theorem Src.kept {b k lo hi : Nat} {l : List Int} {w w' : World} (h : Src b l k w) (hk : KeptIn lo hi w w') (hb : b < lo) : Src b l k w' := by
  have hl := h.lt
  obtain ⟨a, c, hr, hc⟩ := h.row
  refine ⟨⟨a, c, rowK hr hk (.inl hb), ?_⟩, h.u8⟩
  rcases hc with hc | ⟨g, o, e, hg, hc⟩
  · exact .inl hc
  · exact .inr ⟨g, o, e, hg, fun i hi' => (hk.cell (p := ⟨g, o + i, none⟩) (show g < _ by omega) (.inl (show g < _ by omega))).trans (hc i hi')⟩

theorem Src.below {b k : Nat} {l : List Int} {w w' : World} (h : Src b l k w) (hb : Below w.heap.size w w') : Src b l k w' :=
  h.kept (lo := w.heap.size) (hi := w.heap.size) (KeptIn.of_below hb) h.lt

theorem Src.step {b k : Nat} {l : List Int} {w : World} (h : Src b l k w) : Src b l (k + 1) (w.setCell ⟨b, 1, none⟩ (.int .i64 (((k + 1 : Nat)) : Int))) := by
  have hl := h.lt
  obtain ⟨a, c, hr, hc⟩ := h.row
  refine ⟨⟨a, c, (hr.set 1 _).congr (fun i hi => ?_), ?_⟩, h.u8⟩
  · have : i = 0 ∨ i = 1 := by omega
    rcases this with rfl | rfl <;> simp [q2]
  · rcases hc with hc | ⟨g, o, e, hg, hc⟩
    · exact .inl hc
    · refine .inr ⟨g, o, e, hg, fun i hi' => ?_⟩
      have hk : KeptIn b (b + 1) w (w.setCell ⟨b, 1, none⟩ (.int .i64 (((k + 1 : Nat)) : Int))) := (KeptIn.refl _ _ _).setCell (p := ⟨b, 1, none⟩) (Nat.le_refl _) (Nat.lt_succ_self _) _
      exact (hk.cell (p := ⟨g, o + i, none⟩) (show g < _ by omega) (.inl hg)).trans (hc i hi')

theorem kept_at (w : World) (b : Nat) (v : Value) : KeptIn b (b + 1) w (w.setCell ⟨b, 1, none⟩ v) := (KeptIn.refl _ _ _).setCell (p := ⟨b, 1, none⟩) (Nat.le_refl _) (Nat.lt_succ_self _) _

theorem l1Source_any (a : Option Addr) (c : Nat) (l : List Int) (w : World) (ha : BAt w a l) (hu : ∀ i, i < l.length → 0 ≤ l.getD i 0 ∧ l.getD i 0 ≤ 255) :
    Calls Try.prog 29 #[.slice a l.length c] w fun e w' => e = .returned (.pointer (some ⟨w.heap.size, 0, none⟩)) ∧ Src w.heap.size l 0 w' ∧ Below w.heap.size w w' := by
  have N := below_new w (.cells #[.slice a l.length c, .int .i64 0] 73)
  have R := rowQ2 w 73 (.slice a l.length c) (.int .i64 0)
  have S : Hid (Src w.heap.size l 0 (w.alloc (.cells #[.slice a l.length c, .int .i64 0] 73))) := ⟨⟨a, c, R, by
    rcases ha.below N with h | ⟨g, o, e, hg, hc⟩
    · exact .inl h
    · rcases ha with h | ⟨g', o', e', hg', hc'⟩
      · exact .inl h
      · rw [e'] at e; cases e; exact .inr ⟨_, _, e', hg', hc⟩⟩, hu⟩
  have NN := Hid.mk' N
  clear N R ha
  go_enter Try.func29, Try.ntmps29
  go_wp2
  go_ret
  exact ⟨rfl, S.out, NN.out⟩

set_option maxRecDepth 100000 in
set_option maxHeartbeats 2000000 in
theorem l1Next_any (b k : Nat) (l : List Int) (n : Int) (w : World) (h : Src b l k w) (hk : k ≤ 1000000) (hn : 1 ≤ n) (hn2 : n ≤ 1000000000) (hl : (l.length : Int) ≤ 1048576) :
    Calls Try.prog 31 #[.pointer (some ⟨b, 0, none⟩), .int .i64 n] w fun e w' => ∃ v : Int, e = .returned (.int .i64 v) ∧ 0 ≤ v ∧ v < n ∧ Src b l (k + 1) w' ∧ KeptIn b (b + 1) w w' := by
  have S1 := Hid.mk' h.step
  have HK := Hid.mk' (kept_at w b (.int .i64 (((k + 1 : Nat)) : Int)))
  have hlt := h.lt
  have u8 := h.u8
  obtain ⟨a, c, hr, hc⟩ := h.row
  obtain ⟨x0, x1, x2⟩ := cellsQ2 hr
  have f1 := hr.frozen 1
  have e1 : ¬ n < 1 := by omega
  have ek : ((k + 1 : Nat) : Int) = (k : Int) + 1 := by omega
  have n0 : ¬ n = 0 := by omega
  rw [ek] at S1 HK
  clear ek
  by_cases c0 : l = []
  · subst c0
    clear hc u8 hr h
    have r1 := Int.emod_nonneg ((k : Int) * 7) n0
    have r2 := Int.emod_lt_of_pos ((k : Int) * 7) (show 0 < n by omega)
    have ez : (([] : List Int).length : Int) = 0 := rfl
    go_enter Try.func31, Try.ntmps31
    go_wp2
    go_ret
    exact ⟨_, rfl, r1, r2, S1.out, HK.out⟩
  · obtain ⟨g, o, rfl, hg, hcell⟩ : ∃ g o, a = some ⟨g, o, none⟩ ∧ g < b ∧ ∀ i, i < l.length → w.cell? ⟨g, o + i, none⟩ = some (bv l i) := by
      rcases hc with hc | hc
      · exact absurd hc c0
      · exact hc
    have lp : 0 < l.length := List.length_pos_iff.2 c0
    obtain ⟨L, hL⟩ : ∃ L, l.length = L := ⟨_, rfl⟩
    rw [hL] at lp hcell x0 hl u8
    obtain ⟨i, hi⟩ : ∃ i, k % L = i := ⟨_, rfl⟩
    obtain ⟨d, hd⟩ : ∃ d, k / L = d := ⟨_, rfl⟩
    obtain ⟨j, hj⟩ : ∃ j, (k + 1) % L = j := ⟨_, rfl⟩
    have il : i < L := by rw [← hi]; exact Nat.mod_lt _ lp
    have jl : j < L := by rw [← hj]; exact Nat.mod_lt _ lp
    have dk : d ≤ k := by rw [← hd]; exact Nat.div_le_self _ _
    have gi := hcell i il
    have gj := hcell j jl
    obtain ⟨xi, hxi⟩ : ∃ x, l.getD i 0 = x := ⟨_, rfl⟩
    obtain ⟨xj, hxj⟩ : ∃ x, l.getD j 0 = x := ⟨_, rfl⟩
    have ui := u8 i il
    have uj := u8 j jl
    unfold bv at gi gj
    rw [hxi] at gi ui
    rw [hxj] at gj uj
    have ei : (k : Int) % (L : Int) = (i : Int) := by rw [← hi]; omega
    have ed : (k : Int) / (L : Int) = (d : Int) := by rw [← hd]; omega
    have ej : ((k : Int) + 1) % (L : Int) = (j : Int) := by subst hj; simp
    have L0 : ¬ (L : Int) = 0 := by omega
    have Lb : ((L : Int) == 0) = false := by rw [beq_eq_false_iff_ne]; exact L0
    have bne : ¬ b = g := by omega
    have gne : ¬ g = b := by omega
    clear hi hd hj hxi hxj hcell hc u8 hr h c0
    by_cases c2 : 200 < n
    · obtain ⟨v, hv⟩ : ∃ v : Int, (xi + (d : Int) * 37) * 251 + xj * 13 + (k : Int) = v := ⟨_, rfl⟩
      have v0 : 0 ≤ v := by omega
      have v1 : v ≤ 100000000000 := by omega
      have r1 := Int.emod_nonneg v n0
      have r2 := Int.emod_lt_of_pos v (show 0 < n by omega)
      go_enter Try.func31, Try.ntmps31
      go_wp2
      go_region
      go_wp2
      go_region
      go_wp2
      go_ret
      exact ⟨_, rfl, r1, r2, (S1.out.below (Below.refl _ _).drew).below (Below.refl _ _).drew, ⟨HK.out.os, HK.out.tape, HK.out.output, HK.out.size, HK.out.block⟩⟩
    · obtain ⟨v, hv⟩ : ∃ v : Int, xi + (d : Int) * 37 = v := ⟨_, rfl⟩
      have v0 : 0 ≤ v := by omega
      have v1 : v ≤ 100000000000 := by omega
      have r1 := Int.emod_nonneg v n0
      have r2 := Int.emod_lt_of_pos v (show 0 < n by omega)
      go_enter Try.func31, Try.ntmps31
      go_wp2
      go_region
      go_wp2
      go_ret
      exact ⟨_, rfl, r1, r2, S1.out.below (Below.refl _ _).drew, ⟨HK.out.os, HK.out.tape, HK.out.output, HK.out.size, HK.out.block⟩⟩

def IAx (w : World) (g : Nat) (l : List Int) : Prop := g < w.heap.size ∧ ∀ i, i < l.length → w.cell? ⟨g, i, none⟩ = some (.int .i64 (l.getD i 0))

set_option maxHeartbeats 400000 in
theorem l1Pick_any (b k g c : Nat) (l xs : List Int) (w : World) (h : Src b l k w) (hx : IAx w g xs) (hg : b ≠ g) (hk : k ≤ 1000000) (hn : 1 ≤ xs.length) (hn2 : xs.length ≤ 1000) (hl : (l.length : Int) ≤ 1048576) :
    Calls Try.prog 44 #[.pointer (some ⟨b, 0, none⟩), .slice (some ⟨g, 0, none⟩) xs.length c] w fun e w' => ∃ i, i < xs.length ∧ e = .returned (.int .i64 (xs.getD i 0)) ∧ Src b l (k + 1) w' ∧ KeptIn b (b + 1) w w' := by
  have K := Hid.mk' (l1Next_any b k l xs.length w h hk (by omega) (by omega) hl)
  have HX := Hid.mk' hx
  clear h hx
  obtain ⟨n, hn'⟩ : ∃ n, xs.length = n := ⟨_, rfl⟩
  rw [hn'] at K hn hn2 ⊢
  go_enter Try.func44, Try.ntmps44
  go_wp2_with fail
  refine K.out.mono ?_
  rintro e w1 ⟨v, rfl, v0, v1, hS, hK⟩
  have HS := Hid.mk' hS
  have HK := Hid.mk' hK
  obtain ⟨i, rfl⟩ : ∃ i : Nat, v = (i : Int) := ⟨v.toNat, by omega⟩
  have il : i < n := by omega
  have hc : w1.cell? ⟨g, i, none⟩ = some (.int .i64 (xs.getD i 0)) := (hK.cell (p := ⟨g, i, none⟩) HX.out.1 (show g < b ∨ b + 1 ≤ g by omega)).trans (HX.out.2 i (by omega))
  generalize hy : xs.getD i 0 = y at hc
  clear K hS hK
  go_wp2
  go_ret
  exact ⟨i, il, by rw [hy]; rfl, HS.out, HK.out⟩

end Go.Proofs.Ytlaeomnacgjcgaa

namespace Go.Proofs.Ytlaeomnacgjcgaa
open Go.RowKit

theorem own_kept {w w' : World} {base lo hi : Nat} {e : TypeId} {size : Nat} {v : Value} {n : Nat} {xs : List Value} (h : w.ownsRow base e size v n xs) (hk : KeptIn lo hi w w') (hb : hi ≤ base) : w'.ownsRow base e size v n xs := by
  have hlt := h.lt
  obtain ⟨h0, h | ⟨g, cap, cur, rfl, hg, h1, h2, h3, h4, h5⟩⟩ := h
  · exact ⟨h0, .inl h⟩
  · exact ⟨h0, .inr ⟨g, cap, cur, rfl, hg, (hk.block g (hlt g rfl).2 (.inr (by omega))).trans h1, h2, h3, h4, h5⟩⟩

theorem own_form {w : World} {base : Nat} {e : TypeId} {size : Nat} {v : Value} {n : Nat} {xs : List Value} (h : w.ownsRow base e size v n xs) : ∃ a c, v = .slice a n c := by
  obtain ⟨_, ⟨rfl, rfl⟩ | ⟨g, cap, cur, rfl, _⟩⟩ := h
  · exact ⟨_, _, rfl⟩
  · exact ⟨_, _, rfl⟩

structure Drawn (w : World) (b : Nat) (l : List Int) (k : Nat) (v : Value) (out : List Int) (wr : World) : Prop where
  own : wr.ownsRow w.heap.size 5 1 v out.length (bcs out)
  u8 : ∀ x ∈ out, 0 ≤ x ∧ x ≤ 255
  src : Src b l k wr
  kept : KeptIn b (b + 1) w wr

theorem Drawn.alloc {w wr : World} {b k : Nat} {l out : List Int} {v : Value} (h : Drawn w b l k v out wr) (o : Obj) : Drawn w b l k v out (wr.alloc o) :=
  ⟨h.own.alloc o, h.u8, h.src.below (below_new _ _), h.kept.alloc o⟩

theorem Drawn.apps {w wr w1 : World} {b k : Nat} {l out more : List Int} {v v' : Value} {n : Nat} (h : Drawn w b l k v out wr) (hbw : b < w.heap.size) (hx : ∀ x ∈ more, 0 ≤ x ∧ x ≤ 255) (hn : more.length = n) (ho : w1.ownsRow w.heap.size 5 1 v' (out.length + n) (bcs out ++ bcs more)) (hg : wr.grownBy w1 v.ownBlock) : Drawn w b l k v' (out ++ more) w1 := by
  subst hn
  have hlo := own_lo h.own
  refine ⟨by rw [List.length_append, bcs_append]; exact ho, fun y hy => ?_, ?_, h.kept.grown hg hlo⟩
  · rcases List.mem_append.1 hy with hy | hy
    · exact h.u8 y hy
    · exact hx y hy
  · have hk : KeptIn w.heap.size wr.heap.size wr w1 := ⟨hg.os, hg.tape, hg.output, hg.size, fun j hj hc => hg.block j hj (fun e => by have := hlo j e.symm; omega)⟩
    exact h.src.kept hk hbw

theorem Drawn.below {w wr w' : World} {b k : Nat} {l out : List Int} {v : Value} (h : Drawn w b l k v out wr) (hb : Below wr.heap.size wr w') : Drawn w b l k v out w' :=
  ⟨own_keep h.own hb, h.u8, h.src.below hb, h.kept.trans (KeptIn.of_below hb)⟩

theorem iat_litx (w : World) (xs : List Int) : IAx (w.alloc (.cells (xs.map (Value.int .i64)).toArray 2)) w.heap.size xs := by
  refine ⟨by simp, fun i hi => ?_⟩
  rw [World.cell?_alloc_mark]
  simp [hi]

def sB (s : ByteArray) : List Int := s.data.toList.map fun c => (c.toNat : Int)
theorem sB_len (s : ByteArray) : (sB s).length = s.size := by unfold sB; rw [List.length_map, Array.length_toList]; rfl
theorem sB_u8 (s : ByteArray) : ∀ x ∈ sB s, 0 ≤ x ∧ x ≤ 255 := by
  intro x hx
  simp [sB] at hx
  obtain ⟨c, _, rfl⟩ := hx
  have := c.toNat_lt
  omega

theorem row_src (w : World) (s : ByteArray) (cap : Nat) (fz : Nat × Nat) : ∀ j u, (bcs (sB s))[j]? = some u → (w.alloc (.cells (bytesRow s cap) 5 fz)).cell? ((⟨w.heap.size, 0, none⟩ : Addr).add j) = some u := by
  intro j u hj
  have hlt : j < s.size := by
    have := (List.getElem?_eq_some_iff.1 hj).1
    rw [bcs_len, sB_len] at this; omega
  rw [Addr.add_mid, Nat.zero_add, World.cell?_alloc_mark, ← hj]
  have h2 : j < s.data.size := hlt
  unfold bytesRow
  rw [Array.getElem?_append_left (by simpa using h2)]
  simp [bcs, sB]
  rfl

abbrev words25 : Array Value := #[.string ⟨#[60, 112, 62]⟩, .string ⟨#[60, 47, 112, 62]⟩, .string ⟨#[60, 98, 62]⟩, .string ⟨#[60, 47, 98, 62]⟩, .string ⟨#[60, 105, 62]⟩, .string ⟨#[120]⟩, .string ⟨#[121, 60]⟩, .string ⟨#[38, 108, 116, 59]⟩, .string ⟨#[38, 97, 109, 112, 59]⟩, .string ⟨#[38, 35, 54, 53, 59]⟩, .string ⟨#[38, 98, 97, 100, 59]⟩, .string ⟨#[60, 98, 114, 62]⟩, .string ⟨#[60, 97, 32, 104, 114, 101, 102, 61, 34, 104, 116, 116, 112, 58, 120, 34, 62]⟩, .string ⟨#[60, 97, 32, 104, 114, 101, 102, 61, 34, 106, 115, 58, 120, 34, 62]⟩, .string ⟨#[60, 47, 97, 62]⟩, .string ⟨#[60, 115, 99, 114, 105, 112, 116, 62]⟩, .string ⟨#[60, 47, 115, 99, 114, 105, 112, 116, 62]⟩, .string ⟨#[60, 105, 109, 103, 32, 119, 105, 100, 116, 104, 61, 34, 49, 46, 53, 48, 34, 62]⟩, .string ⟨#[60, 117, 62]⟩, .string ⟨#[60, 47, 117, 62]⟩, .string ⟨#[60, 33, 45, 45, 32, 99, 32, 45, 45, 62]⟩, .string ⟨#[34]⟩, .string ⟨#[62]⟩, .string ⟨#[60, 98, 47, 62]⟩, .string ⟨#[38]⟩]

theorem words25_at (w : World) (i : Nat) (hi : i < 25) : ∃ t : ByteArray, (w.alloc (.cells words25 9)).cell? ⟨w.heap.size, i, none⟩ = some (.string t) ∧ t.size ≤ 18 := by
  have hi' : i = 0 ∨ i = 1 ∨ i = 2 ∨ i = 3 ∨ i = 4 ∨ i = 5 ∨ i = 6 ∨ i = 7 ∨ i = 8 ∨ i = 9 ∨ i = 10 ∨ i = 11 ∨ i = 12 ∨ i = 13 ∨ i = 14 ∨ i = 15 ∨ i = 16 ∨ i = 17 ∨ i = 18 ∨ i = 19 ∨ i = 20 ∨ i = 21 ∨ i = 22 ∨ i = 23 ∨ i = 24 := by omega
  rcases hi' with rfl | rfl | rfl | rfl | rfl | rfl | rfl | rfl | rfl | rfl | rfl | rfl | rfl | rfl | rfl | rfl | rfl | rfl | rfl | rfl | rfl | rfl | rfl | rfl | rfl <;> exact ⟨_, by simp [words25]; rfl, by decide⟩

set_option maxRecDepth 100000 in
set_option maxHeartbeats 2000000 in
theorem l1Marked_any (b k n : Nat) (l : List Int) (w : World) (h : Src b l k w) (hk : k ≤ 10000) (hn1 : 1 ≤ n) (hn : n ≤ 10) (hl : (l.length : Int) ≤ 1048576) :
    Calls Try.prog 53 #[.pointer (some ⟨b, 0, none⟩), .int .i64 (n : Int)] w fun e w' => ∃ v out k', e = .returned v ∧ out.length ≤ 18 * n ∧ k' ≤ k + n ∧ Drawn w b l k' v out w' := by
  have hbw := h.lt
  have K0 := Hid.mk' (l1Next_any b k l n _ (h.below (below_new w (.cells #[] 5))) (by omega) (by omega) (by omega) hl)
  clear h
  go_enter Try.func53, Try.ntmps53
  go_wp2_with fail
  refine K0.out.mono ?_
  rintro e w0 ⟨c, rfl, c0, c1, hS0, hK0⟩
  have D0 : Hid (Drawn w b l (k + 1) (.slice (some ⟨w.heap.size, 0, none⟩) 0 0) [] w0) := ⟨own_kept (World.ownsRow_lit w #[] 0 (Nat.le_refl _) (by decide) rfl) hK0 (by omega), fun x hx => by simp at hx, hS0, ((KeptIn.refl _ _ _).alloc _).trans hK0⟩
  clear K0 hS0 hK0
  go_wp2
  go_loopw [5, 6] (fun v i wr => ∃ (m k' : Nat) (out : List Int), m < n ∧ i = .int .i64 m ∧ out.length + 18 * m ≤ 18 * n ∧ k' + m ≤ k + n ∧ Drawn w b l k' v out wr) (fun _ i _ => (intOf i).toNat)
  case atStart => exact ⟨c.toNat, k + 1, [], by omega, by rw [Int.toNat_of_nonneg c0], by simp; omega, by omega, D0.out⟩
  case round =>
    obtain ⟨m, k', out, hm, rfl, hlen, hk', hD⟩ := hrel
    by_cases cm : 0 < m
    · have ci : (0 : Int) < (m : Int) := by omega
      have S1 := hD.src.below (below_new wr (.cells words25 9))
      have K := Hid.mk' (l1Next_any b k' l 25 _ S1 (by omega) (by decide) (by decide) hl)
      have hlt := hD.src.lt
      have hws := hD.kept.size
      have W25 := Hid.mk' (words25_at wr)
      have D1 := Hid.mk' (hD.alloc (.cells words25 9))
      obtain ⟨pv_, qv_, rfl⟩ := own_form hD.own
      clear S1 hD
      go_wp2_with fail
      refine K.out.mono ?_
      rintro e w1 ⟨x, rfl, x0, x1, hS1, hK1⟩
      obtain ⟨i, rfl⟩ : ∃ i : Nat, x = (i : Int) := ⟨x.toNat, by omega⟩
      have il : i < 25 := by omega
      obtain ⟨t, ht, htl⟩ := W25.out i il
      have hc : w1.cell? ⟨wr.heap.size, i, none⟩ = some (.string t) := (hK1.cell (p := ⟨wr.heap.size, i, none⟩) (by simp) (show wr.heap.size < b ∨ b + 1 ≤ wr.heap.size by omega)).trans ht
      have D2 : Hid (Drawn w b l (k' + 1) (.slice pv_ out.length qv_) out w1) := ⟨own_kept D1.out.own hK1 (by omega), D1.out.u8, hS1, D1.out.kept.trans hK1⟩
      have hcv := fun W : World => run_bytes_of_string (P := Try.prog) W 9 22 5 t Try.underlying9 Try.underlying22 Try.underlying5
      have l5 : (bcs (sB t)).length = t.size * 1 := by rw [bcs_len, sB_len]
      have ys := hK1.size
      simp at ys
      clear K hS1 hK1 ht W25 D1
      go_wp2_with (at_builtin; refine wpList_append_at _ rfl (.tmp 15) (.tmp 21) 22 rfl w.heap.size 5 (.int .u8 0) 1 1 Try.underlying22 Try.info5 rfl (by decide) (.slice pv_ out.length qv_) _ _ rfl (own_keep D2.out.own (((Below.refl w1.heap.size w1).alloc (Nat.le_refl _) _).drew)) _ _ _ (bcs (sB t)) rfl l5 (.inr ⟨_, rfl, fun j u hj => row_src w1 t _ _ j u hj⟩) (bcs_one _) (by unfold maxLen; omega) (by omega) (by simp; omega) ?_; intro v' w2 ho hgr hat; have D3 := Hid.mk' ((D2.out.below (((Below.refl w1.heap.size w1).alloc (Nat.le_refl _) _).drew)).apps hbw (sB_u8 t) (sB_len t) ho hgr); clear ho hgr hat)
      go_roundw
      case rel => exact ⟨m - 1, k' + 1, out ++ sB t, by omega, by go_num, by rw [List.length_append, sB_len]; omega, by omega, D3.out⟩
      case measure => simp [intOf]; omega
    · have e : m = 0 := by omega
      subst e
      have ci : ¬ (0 : Int) < ((0 : Nat) : Int) := by omega
      go_wp2
      go_ret
      exact ⟨_, rfl, out, by omega, k', by omega, hD⟩

end Go.Proofs.Ytlaeomnacgjcgaa

namespace Go.Proofs.Ytlaeomnacgjcgaa
open Go.RowKit

def DrT (m b k n : Nat) (l : List Int) (w : World) (e : Ending) (w' : World) : Prop :=
  ∃ (nd : List ND) (τ : Nat → Nat) (p : Option Addr) (c : Nat) (va vt : Nat → Value) (us : Nat → List Value) (lo k' : Nat), e = .returned (.slice p nd.length c) ∧ NS τ lo w' (.slice p nd.length c) nd va vt us ∧ w.heap.size ≤ lo ∧ lo ≤ w'.heap.size ∧ nd.length + nssz nd ≤ m ∧ k' ≤ k + n ∧ Src b l k' w' ∧ KeptIn b (b + 1) w w'

theorem fBS0 (a : Option Addr) (n c : Nat) (p : Option Addr) (m d : Nat) (g : Bool) (w : World) : (Instr.field 80 (.agg #[.slice a n c, .slice p m d, .bool g]) 0).run Try.prog w = .ok (.slice a n c) w := by kernel_rfl

set_option maxRecDepth 100000 in
set_option maxHeartbeats 4000000 in
theorem l6Draw_any (b k : Nat) (l : List Int) (w : World) (h : Src b l k w) (hk : k ≤ 9000) (hl : (l.length : Int) ≤ 1048576) :
    Calls Try.prog 43 #[.pointer (some ⟨b, 0, none⟩)] w fun e w' => DrT 3000 b k 9 l w e w' := by
  have hbw := h.lt
  have KM := Hid.mk' (l1Marked_any b k 9 l w h (by omega) (by decide) (by decide) hl)
  have f0 := fBS0
  clear h
  go_enter Try.func43, Try.ntmps43
  go_wp2_with fail
  refine KM.out.mono ?_
  rintro e w1 ⟨v, out, k', rfl, ol, hk', hD⟩
  obtain ⟨a1, c1, rfl, hba⟩ := own_bat hD.own
  have HU := Hid.mk' (bytOf hD.u8)
  have HS := Hid.mk' hD.src
  have HK := Hid.mk' hD.kept
  have KL := Hid.mk' (l5LexD_any out a1 c1 w1 hba (bytOf hD.u8) (by omega))
  clear hD hba KM
  go_wp2_with fail
  refine KL.out.mono ?_
  rintro e w2 ⟨v2, us2, rfl, hT, hb2⟩
  obtain ⟨a2, c2, rfl, htb⟩ := hT.tsBD
  have hf := lex_fitsD out
  have hw : weiD (lexX out) = (lexX out).length + tssz (lexX out) := rfl
  have HS := Hid.mk' (HS.out.below hb2)
  have HK := Hid.mk' (HK.out.trans (KeptIn.of_below hb2))
  have KB := Hid.mk' (l7Build_any (lexX out) a2 c2 w2 htb (by omega) (lexX_kd HU.out).at)
  have s2 : w.heap.size ≤ w2.heap.size := HK.out.size
  clear hT hb2 htb KL
  go_wp2_with fail
  refine KB.out.mono ?_
  rintro e w3 ⟨τ, pn, cn, po, mo, co, va, vt, us, rfl, hN, hb3⟩
  have hn := nS_fold (lexX out) noS
  have e0 : nS noS = 0 := rfl
  have e1 : nS (foldX noS (lexX out)) = (foldX noS (lexX out)).nd.length + nssz (foldX noS (lexX out)).nd := rfl
  have HN := Hid.mk' hN
  have HS := Hid.mk' (HS.out.below hb3)
  have HK := Hid.mk' (HK.out.trans (KeptIn.of_below hb3))
  have s3 : w2.heap.size ≤ w3.heap.size := hb3.size
  clear hN hb3 KB
  generalize foldX noS (lexX out) = s at *
  go_wp2
  go_ret
  exact ⟨s.nd, τ, pn, cn, va, vt, us, w2.heap.size, k', rfl, HN.out, s2, s3, by omega, hk', HS.out, HK.out⟩

end Go.Proofs.Ytlaeomnacgjcgaa
