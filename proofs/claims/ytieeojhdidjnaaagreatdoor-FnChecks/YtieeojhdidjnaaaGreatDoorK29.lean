/- (over Xz) Walks: marked texts that are drawn. -/
import Derived.Test.YtieeojhdidjnaaaGreatDoorK28
set_option linter.unusedVariables false
set_option linter.unusedSimpArgs false
namespace Go.Proofs.YtieeojhdidjnaaaGreatDoor
open Go.RowKit

theorem own_kept {w w' : World} {base lo hi : Nat} {e : TypeId} {size : Nat} {v : Value} {n : Nat} {xs : List Value} (h : w.ownsRow base e size v n xs) (hk : KeptIn lo hi w w') (hb : hi ≤ base) : w'.ownsRow base e size v n xs := by
  have hlt := h.lt
  obtain ⟨h0, h | ⟨g, cap, cur, rfl, hg, h1, h2, h3, h4, h5⟩⟩ := h
  · exact ⟨h0, .inl h⟩
  · exact ⟨h0, .inr ⟨g, cap, cur, rfl, hg, (hk.block g (hlt g rfl).2 (.inr (by omega))).trans h1, h2, h3, h4, h5⟩⟩

theorem own_form {w : World} {base : Nat} {e : TypeId} {size : Nat} {v : Value} {n : Nat} {xs : List Value} (h : w.ownsRow base e size v n xs) : ∃ a c, v = .slice a n c := by
  obtain ⟨_, ⟨rfl, rfl⟩ | ⟨g, cap, cur, rfl, _⟩⟩ := h
  · exact ⟨_, _, rfl⟩
  · exact ⟨_, _, rfl⟩

structure Drawn (w : World) (b : Nat) (l : List Int) (k : Nat) (v : Value) (out : List Int) (wr : World) : Prop where
  own : wr.ownsRow w.heap.size 5 1 v out.length (bcs out)
  u8 : ∀ x ∈ out, 0 ≤ x ∧ x ≤ 255
  src : Src b l k wr
  kept : KeptIn b (b + 1) w wr

theorem Drawn.alloc {w wr : World} {b k : Nat} {l out : List Int} {v : Value} (h : Drawn w b l k v out wr) (o : Obj) : Drawn w b l k v out (wr.alloc o) :=
  ⟨h.own.alloc o, h.u8, h.src.below (below_new _ _), h.kept.alloc o⟩

theorem Drawn.apps {w wr w1 : World} {b k : Nat} {l out more : List Int} {v v' : Value} {n : Nat} (h : Drawn w b l k v out wr) (hbw : b < w.heap.size) (hx : ∀ x ∈ more, 0 ≤ x ∧ x ≤ 255) (hn : more.length = n) (ho : w1.ownsRow w.heap.size 5 1 v' (out.length + n) (bcs out ++ bcs more)) (hg : wr.grownBy w1 v.ownBlock) : Drawn w b l k v' (out ++ more) w1 := by
  subst hn
  have hlo := own_lo h.own
  refine ⟨by rw [List.length_append, bcs_append]; exact ho, fun y hy => ?_, ?_, h.kept.grown hg hlo⟩
  · rcases List.mem_append.1 hy with hy | hy
    · exact h.u8 y hy
    · exact hx y hy
  · have hk : KeptIn w.heap.size wr.heap.size wr w1 := ⟨hg.os, hg.tape, hg.output, hg.size, fun j hj hc => hg.block j hj (fun e => by have := hlo j e.symm; omega)⟩
    exact h.src.kept hk hbw

theorem Drawn.below {w wr w' : World} {b k : Nat} {l out : List Int} {v : Value} (h : Drawn w b l k v out wr) (hb : Below wr.heap.size wr w') : Drawn w b l k v out w' :=
  ⟨own_keep h.own hb, h.u8, h.src.below hb, h.kept.trans (KeptIn.of_below hb)⟩

theorem iat_lit (w : World) (xs : List Int) : IAt (w.alloc (.cells (xs.map (Value.int .i64)).toArray 2)) w.heap.size xs := by
  refine ⟨by simp, fun i hi => ?_⟩
  rw [World.cell?_alloc_mark]
  simp [hi]

def sB (s : ByteArray) : List Int := s.data.toList.map fun c => (c.toNat : Int)
theorem sB_len (s : ByteArray) : (sB s).length = s.size := by unfold sB; rw [List.length_map, Array.length_toList]; rfl
theorem sB_u8 (s : ByteArray) : ∀ x ∈ sB s, 0 ≤ x ∧ x ≤ 255 := by
  intro x hx
  simp [sB] at hx
  obtain ⟨c, _, rfl⟩ := hx
  have := c.toNat_lt
  omega

theorem row_src (w : World) (s : ByteArray) (cap : Nat) (fz : Nat × Nat) : ∀ j u, (bcs (sB s))[j]? = some u → (w.alloc (.cells (bytesRow s cap) 5 fz)).cell? ((⟨w.heap.size, 0, none⟩ : Addr).add j) = some u := by
  intro j u hj
  have hlt : j < s.size := by
    have := (List.getElem?_eq_some_iff.1 hj).1
    rw [bcs_len, sB_len] at this; omega
  rw [Addr.add_mid, Nat.zero_add, World.cell?_alloc_mark, ← hj]
  have h2 : j < s.data.size := hlt
  unfold bytesRow
  rw [Array.getElem?_append_left (by simpa using h2)]
  simp [bcs, sB]
  rfl

abbrev words25 : Array Value := #[.string ⟨#[60, 112, 62]⟩, .string ⟨#[60, 47, 112, 62]⟩, .string ⟨#[60, 98, 62]⟩, .string ⟨#[60, 47, 98, 62]⟩, .string ⟨#[60, 105, 62]⟩, .string ⟨#[120]⟩, .string ⟨#[121, 60]⟩, .string ⟨#[38, 108, 116, 59]⟩, .string ⟨#[38, 97, 109, 112, 59]⟩, .string ⟨#[38, 35, 54, 53, 59]⟩, .string ⟨#[38, 98, 97, 100, 59]⟩, .string ⟨#[60, 98, 114, 62]⟩, .string ⟨#[60, 97, 32, 104, 114, 101, 102, 61, 34, 104, 116, 116, 112, 58, 120, 34, 62]⟩, .string ⟨#[60, 97, 32, 104, 114, 101, 102, 61, 34, 106, 115, 58, 120, 34, 62]⟩, .string ⟨#[60, 47, 97, 62]⟩, .string ⟨#[60, 115, 99, 114, 105, 112, 116, 62]⟩, .string ⟨#[60, 47, 115, 99, 114, 105, 112, 116, 62]⟩, .string ⟨#[60, 105, 109, 103, 32, 119, 105, 100, 116, 104, 61, 34, 49, 46, 53, 48, 34, 62]⟩, .string ⟨#[60, 117, 62]⟩, .string ⟨#[60, 47, 117, 62]⟩, .string ⟨#[60, 33, 45, 45, 32, 99, 32, 45, 45, 62]⟩, .string ⟨#[34]⟩, .string ⟨#[62]⟩, .string ⟨#[60, 98, 47, 62]⟩, .string ⟨#[38]⟩]

theorem words25_at (w : World) (i : Nat) (hi : i < 25) : ∃ t : ByteArray, (w.alloc (.cells words25 9)).cell? ⟨w.heap.size, i, none⟩ = some (.string t) ∧ t.size ≤ 18 := by
  have hi' : i = 0 ∨ i = 1 ∨ i = 2 ∨ i = 3 ∨ i = 4 ∨ i = 5 ∨ i = 6 ∨ i = 7 ∨ i = 8 ∨ i = 9 ∨ i = 10 ∨ i = 11 ∨ i = 12 ∨ i = 13 ∨ i = 14 ∨ i = 15 ∨ i = 16 ∨ i = 17 ∨ i = 18 ∨ i = 19 ∨ i = 20 ∨ i = 21 ∨ i = 22 ∨ i = 23 ∨ i = 24 := by omega
  rcases hi' with rfl | rfl | rfl | rfl | rfl | rfl | rfl | rfl | rfl | rfl | rfl | rfl | rfl | rfl | rfl | rfl | rfl | rfl | rfl | rfl | rfl | rfl | rfl | rfl | rfl <;> exact ⟨_, by simp [words25]; rfl, by decide⟩

set_option maxRecDepth 100000 in
set_option maxHeartbeats 2000000 in
theorem l1Marked_any (b k n : Nat) (l : List Int) (w : World) (h : Src b l k w) (hk : k ≤ 10000) (hn1 : 1 ≤ n) (hn : n ≤ 10) (hl : (l.length : Int) ≤ 1048576) :
    Calls Tryz.prog 60 #[.pointer (some ⟨b, 0, none⟩), .int .i64 (n : Int)] w fun e w' => ∃ v out k', e = .returned v ∧ out.length ≤ 18 * n ∧ k' ≤ k + n ∧ Drawn w b l k' v out w' := by
  have hbw := h.lt
  have K0 := Hid.mk' (l1Next_any b k l n _ (h.below (below_new w (.cells #[] 5))) (by omega) (by omega) (by omega) hl)
  clear h
  go_enter Tryz.func60, Tryz.ntmps60
  go_wp2_with fail
  refine K0.out.mono ?_
  rintro e w0 ⟨c, rfl, c0, c1, hS0, hK0⟩
  have D0 : Hid (Drawn w b l (k + 1) (.slice (some ⟨w.heap.size, 0, none⟩) 0 0) [] w0) := ⟨own_kept (World.ownsRow_lit w #[] 0 (Nat.le_refl _) (by decide) rfl) hK0 (by omega), fun x hx => by simp at hx, hS0, ((KeptIn.refl _ _ _).alloc _).trans hK0⟩
  clear K0 hS0 hK0
  go_wp2
  go_loopw [5, 6] (fun v i wr => ∃ (m k' : Nat) (out : List Int), m < n ∧ i = .int .i64 m ∧ out.length + 18 * m ≤ 18 * n ∧ k' + m ≤ k + n ∧ Drawn w b l k' v out wr) (fun _ i _ => (intOf i).toNat)
  case atStart => exact ⟨c.toNat, k + 1, [], by omega, by rw [Int.toNat_of_nonneg c0], by simp; omega, by omega, D0.out⟩
  case round =>
    obtain ⟨m, k', out, hm, rfl, hlen, hk', hD⟩ := hrel
    by_cases cm : 0 < m
    · have ci : (0 : Int) < (m : Int) := by omega
      have S1 := hD.src.below (below_new wr (.cells words25 9))
      have K := Hid.mk' (l1Next_any b k' l 25 _ S1 (by omega) (by decide) (by decide) hl)
      have hlt := hD.src.lt
      have hws := hD.kept.size
      have W25 := Hid.mk' (words25_at wr)
      have D1 := Hid.mk' (hD.alloc (.cells words25 9))
      obtain ⟨pv_, qv_, rfl⟩ := own_form hD.own
      clear S1 hD
      go_wp2_with fail
      refine K.out.mono ?_
      rintro e w1 ⟨x, rfl, x0, x1, hS1, hK1⟩
      obtain ⟨i, rfl⟩ : ∃ i : Nat, x = (i : Int) := ⟨x.toNat, by omega⟩
      have il : i < 25 := by omega
      obtain ⟨t, ht, htl⟩ := W25.out i il
      have hc : w1.cell? ⟨wr.heap.size, i, none⟩ = some (.string t) := (hK1.cell (p := ⟨wr.heap.size, i, none⟩) (by simp) (show wr.heap.size < b ∨ b + 1 ≤ wr.heap.size by omega)).trans ht
      have D2 : Hid (Drawn w b l (k' + 1) (.slice pv_ out.length qv_) out w1) := ⟨own_kept D1.out.own hK1 (by omega), D1.out.u8, hS1, D1.out.kept.trans hK1⟩
      have hcv := fun W : World => run_bytes_of_string (P := Tryz.prog) W 9 22 5 t Tryz.underlying9 Tryz.underlying22 Tryz.underlying5
      have l5 : (bcs (sB t)).length = t.size * 1 := by rw [bcs_len, sB_len]
      have ys := hK1.size
      simp at ys
      clear K hS1 hK1 ht W25 D1
      go_wp2_with (at_builtin; refine wpList_append_at _ rfl (.tmp 15) (.tmp 21) 22 rfl w.heap.size 5 (.int .u8 0) 1 1 Tryz.underlying22 Tryz.info5 rfl (by decide) (.slice pv_ out.length qv_) _ _ rfl (own_keep D2.out.own (((Below.refl w1.heap.size w1).alloc (Nat.le_refl _) _).drew)) _ _ _ (bcs (sB t)) rfl l5 (.inr ⟨_, rfl, fun j u hj => row_src w1 t _ _ j u hj⟩) (bcs_one _) (by unfold maxLen; omega) (by omega) (by simp; omega) ?_; intro v' w2 ho hgr hat; have D3 := Hid.mk' ((D2.out.below (((Below.refl w1.heap.size w1).alloc (Nat.le_refl _) _).drew)).apps hbw (sB_u8 t) (sB_len t) ho hgr); clear ho hgr hat)
      go_roundw
      case rel => exact ⟨m - 1, k' + 1, out ++ sB t, by omega, by go_num, by rw [List.length_append, sB_len]; omega, by omega, D3.out⟩
      case measure => simp [intOf]; omega
    · have e : m = 0 := by omega
      subst e
      have ci : ¬ (0 : Int) < ((0 : Nat) : Int) := by omega
      go_wp2
      go_ret
      exact ⟨_, rfl, out, by omega, k', by omega, hD⟩

end Go.Proofs.YtieeojhdidjnaaaGreatDoor
