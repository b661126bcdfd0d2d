/- Tokens in a row of one's own; bytes let go (the model's l5Go). -/
import Derived.Test.YtgkdplooocbonaaGreatDoorXZe
namespace Go.Proofs.YtgkdplooocbonaaGreatDoor
open Go.RowKit
set_option linter.unusedVariables false
set_option linter.unusedSimpArgs false

/-- The cells of tokens, five each; us: their attributes' slices. -/
def tcs : List TK → List Value → List Value
  | t :: l, u :: us => .int .i64 t.kd :: .int .i64 t.by_ :: .string t.nm :: u :: .bool t.sh :: tcs l us
  | _, _ => []

theorem tcs_len : ∀ (l : List TK) (us : List Value), us.length = l.length → (tcs l us).length = l.length * 5
  | [], us, h => by cases us <;> rfl
  | a :: l, [], h => by simp at h
  | a :: l, u :: us, h => by
    simp only [tcs, List.length_cons]
    rw [tcs_len l us (by simpa using h)]; omega

theorem tcs_app : ∀ (l : List TK) (us : List Value) (m : List TK) (vs : List Value), us.length = l.length → tcs (l ++ m) (us ++ vs) = tcs l us ++ tcs m vs
  | [], [], m, vs, _ => rfl
  | [], u :: us, _, _, h => by simp at h
  | b :: l, [], _, _, h => by simp at h
  | b :: l, v :: us, m, vs, h => by
    simp only [List.cons_append, tcs]
    rw [tcs_app l us m vs (by simpa using h)]

/-- Bytes as tokens. -/
def byteT (b : Int) : TK := ⟨1, b, ⟨#[]⟩, [], false⟩
def bytesT (l : List Int) : List TK := l.map byteT
/-- So many slices of nothing. -/
def nils (n : Nat) : List Value := List.replicate n (.slice none 0 0)

theorem nils_len (n : Nat) : (nils n).length = n := by simp [nils]
theorem bytesT_len (l : List Int) : (bytesT l).length = l.length := by simp [bytesT]

theorem tcs_one : ∀ (l : List TK) (us : List Value), (∀ u ∈ us, u.oneCell' = true) → ∀ u ∈ tcs l us, u.oneCell' = true
  | [], us, _, u, hu => by cases us <;> simp [tcs] at hu
  | a :: l, [], _, u, hu => by simp [tcs] at hu
  | a :: l, v :: us, h, u, hu => by
    simp only [tcs, List.mem_cons] at hu
    rcases hu with rfl | rfl | rfl | rfl | rfl | hu
    · rfl
    · rfl
    · rfl
    · exact h _ (by simp)
    · rfl
    · exact tcs_one l us (fun u hu => h u (by simp [hu])) u hu

theorem Tryz.infoTok : (Tryz.prog.info? 33).map (fun i => (i.zero, i.size, i.bytes)) = some (some (.agg #[.int .i64 0, .int .i64 0, .string ⟨#[]⟩, .slice none 0 0, .bool false]), 5, 64) := by kernel_rfl

theorem bytesT_snoc (l : List Int) (b : Int) : tcs (bytesT (l ++ [b])) (nils (l ++ [b]).length) = tcs (bytesT l) (nils l.length) ++ [.int .i64 1, .int .i64 b, .string ⟨#[]⟩, .slice none 0 0, .bool false] := by
  have e1 : bytesT (l ++ [b]) = bytesT l ++ [byteT b] := by simp [bytesT]
  have e2 : nils (l ++ [b]).length = nils l.length ++ [.slice none 0 0] := by simp [nils, List.replicate_succ']
  rw [e1, e2, tcs_app _ _ _ _ (by rw [nils_len, bytesT_len])]
  rfl

theorem new_cells' (w : World) (t : TypeId) (xs : List Value) (g : Nat) (hg : w.heap.size = g) : ∀ j u, xs[j]? = some u → (w.alloc (.cells xs.toArray t)).cell? ((⟨g, 0, none⟩ : Addr).add j) = some u := by
  intro j u h
  subst hg
  rw [Addr.add_mid, Nat.zero_add]
  have := Lib.cell_of_heap (w := w.alloc (.cells xs.toArray t)) (Deep.blk_alloc_new w (.cells xs.toArray t)) j
  rw [this]
  simpa using h

theorem take_snoc_int {l : List Int} {k : Nat} (h : k < l.length) : l.take (k + 1) = l.take k ++ [l.getD k 0] := by
  rw [List.take_succ_eq_append_getElem h]
  simp [h]

end Go.Proofs.YtgkdplooocbonaaGreatDoor
