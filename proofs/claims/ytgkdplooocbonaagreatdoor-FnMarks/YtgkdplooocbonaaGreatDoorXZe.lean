/- The model's l4Note, l4Read, ReadTag. -/
import Derived.Test.YtgkdplooocbonaaGreatDoorXZd
namespace Go.Proofs.YtgkdplooocbonaaGreatDoor
open Go.RowKit
set_option linter.unusedVariables false
set_option linter.unusedSimpArgs false

/-- A note. -/
def noteA (L : List UInt8) : Bool := decide (7 ≤ L.length) && (decide (L.take 4 = [60, 33, 45, 45]) && decide (L.drop (L.length - 3) = [45, 45, 62]))

theorem TagP.mk {r : Option TK} {w w' : World} (t : TK) (ok : Bool) (ht : t.at_ = []) (hr : r = (if ok = true then some t else none)) (hb : Below w.heap.size w w') : TagP r w (.returned (.tuple #[.agg #[.int .i64 t.kd, .int .i64 t.by_, .string t.nm, .slice none 0 0, .bool t.sh], .bool ok])) w' :=
  ⟨t, .slice none 0 0, [], ok, rfl, by rw [ht]; exact OA.nil _ _, hr, hb⟩

/-- A prefix of three, by its bytes. -/
theorem note_pre (L : List UInt8) (h : (L.getD 0 0).toNat = 60) : (decide (L.take 4 = [60, 33, 45, 45])) = Lib.hasPrefix (L.drop 1) [33, 45, 45] := by
  match L, h with
  | [], h => simp at h
  | a :: r, h =>
    have ha : a = 60 := UInt8.toNat_inj.1 (by simpa using h)
    subst ha
    rw [Bool.eq_iff_iff, decide_eq_true_eq]
    show (60 :: r).take 4 = [60, 33, 45, 45] ↔ Lib.hasPrefix r [33, 45, 45] = true
    rw [prefix_iff]
    constructor
    · intro h
      have h' : r.take 3 = [33, 45, 45] := by simpa using h
      exact ⟨r.drop 3, by rw [← h', List.take_append_drop]⟩
    · rintro ⟨S, rfl⟩
      simp

theorem tag_short (L : List UInt8) (h : L.length < 3) : tagA L = none := by
  unfold tagA
  by_cases c1 : (L.getD 0 0).toNat = 60
  · rw [if_pos c1]
    have hp : ¬ Lib.hasPrefix (L.drop 1) [33, 45, 45] = true := by
      rw [prefix_iff]
      rintro ⟨S, e⟩
      have := congrArg List.length e
      simp at this
      omega
    rw [if_neg hp]
    by_cases c2 : (L.getD 1 0).toNat = 47
    · rw [if_pos c2, if_neg]
      have : L.drop 2 = [] := List.drop_of_length_le (by omega)
      rw [this]
      rintro ⟨⟨a, _⟩, _⟩
      simp [spn] at a
    · rw [if_neg c2]
      by_cases c3 : 1 ≤ spn pL (L.drop 1) ∧ spn pL (L.drop 1) ≤ 8
      · rw [if_pos c3, show L.drop (1 + spn pL (L.drop 1)) = [] from List.drop_of_length_le (by omega)]
        have : insideA (L.length + 1) [] [] = none := by unfold insideA; simp [spn]
        rw [this]
      · rw [if_neg c3]
  · rw [if_neg c1]
theorem tag_other (L : List UInt8) (h : ¬ (L.getD 0 0).toNat = 60) : tagA L = none := by unfold tagA; rw [if_neg h]
theorem suf3 (M : List UInt8) : Lib.hasSuffix M [45, 45, 62] = true ↔ 3 ≤ M.length ∧ M.drop (M.length - 3) = [45, 45, 62] := by
  unfold Lib.hasSuffix
  rw [List.isSuffixOf_iff_suffix]
  constructor
  · rintro ⟨t, rfl⟩
    refine ⟨by simp, ?_⟩
    simp
  · rintro ⟨h1, h2⟩
    exact ⟨M.take (M.length - 3), by rw [← h2, List.take_append_drop]⟩
theorem tag_note (L : List UInt8) (h0 : (L.getD 0 0).toNat = 60) (h1 : (L.getD 1 0).toNat = 33) : tagA L = if noteA L = true then some ⟨4, 0, ⟨#[]⟩, [], false⟩ else none := by
  unfold tagA noteA
  rw [if_pos h0, note_pre L h0]
  by_cases c0 : Lib.hasPrefix (L.drop 1) [33, 45, 45] = true
  · rw [if_pos c0]
    have hs := suf3 (L.drop 4)
    rw [List.length_drop, List.drop_drop] at hs
    by_cases c1 : 7 ≤ L.length
    · rw [show 4 + (L.length - 4 - 3) = L.length - 3 from by omega] at hs
      by_cases c2 : L.drop (L.length - 3) = [45, 45, 62]
      · rw [if_pos (hs.2 ⟨by omega, c2⟩), if_pos (by rw [c0, decide_eq_true c1, decide_eq_true c2]; rfl)]
      · rw [if_neg (fun h => c2 (hs.1 h).2), if_neg (by simp [c2])]
    · rw [if_neg (fun h => by have := (hs.1 h).1; omega), if_neg (by simp; omega)]
  · rw [if_neg c0, if_neg (by omega)]
    have hz : spn pL (L.drop 1) = 0 := spn_zero_of (by rw [getD_drop]; unfold pL; rw [h1]; decide)
    rw [hz, if_neg (by omega), if_neg (by rw [Bool.not_eq_true] at c0; rw [c0]; simp)]
theorem tag_start (L : List UInt8) (h0 : (L.getD 0 0).toNat = 60) (h1 : ¬ (L.getD 1 0).toNat = 33) (h2 : ¬ (L.getD 1 0).toNat = 47) : tagA L = startA L := by
  unfold tagA startA
  have hp : ¬ Lib.hasPrefix (L.drop 1) [33, 45, 45] = true := by
    rw [prefix_iff]
    rintro ⟨S, e⟩
    have : (L.drop 1).getD 0 0 = 33 := by rw [e]; rfl
    rw [getD_drop] at this
    exact h1 (by rw [this]; rfl)
  rw [if_pos h0, if_neg hp, if_neg h2]
  by_cases c3 : 1 ≤ spn pL (L.drop 1) ∧ spn pL (L.drop 1) ≤ 8
  · rw [if_pos c3, if_pos c3]
    cases insideA (L.length + 1) (L.drop (1 + spn pL (L.drop 1))) [] with
    | none => rfl
    | some p => rfl
  · rw [if_neg c3, if_neg c3]
theorem tag_end (s : ByteArray) (hs : 3 ≤ s.size) (h0 : (s.data.toList.getD 0 0).toNat = 60) (h1 : (s.data.toList.getD 1 0).toNat = 47) : tagA s.data.toList = if nmB (s.extract 2 (s.size - 1)) = true ∧ (s.data.toList.getD (s.size - 1) 0).toNat = 62 then some ⟨3, 0, s.extract 2 (s.size - 1), [], false⟩ else none := by
  have hl := len_list s
  have hp : ¬ Lib.hasPrefix (s.data.toList.drop 1) [33, 45, 45] = true := by
    rw [prefix_iff]
    rintro ⟨S, e⟩
    have : (s.data.toList.drop 1).getD 0 0 = 33 := by rw [e]; rfl
    rw [getD_drop] at this
    have h2 : (s.data.toList.getD 1 0).toNat = 33 := by rw [this]; rfl
    omega
  unfold tagA
  rw [if_pos h0, if_neg hp, if_pos h1]
  by_cases hc : nmB (s.extract 2 (s.size - 1)) = true ∧ (s.data.toList.getD (s.size - 1) 0).toNat = 62
  · rw [if_pos hc]
    have hm := (nmB_iff _).1 hc.1
    have es : (s.extract 2 (s.size - 1)).size = s.size - 3 := by simp; omega
    have hn : spn pL (s.data.toList.drop 2) = s.size - 3 := by
      have := spn_from (p := pL) (L := s.data.toList) (k := 2) (m := s.size - 1) (by omega) (by omega) (fun j a b => by
          have h := hm.2.2 (j - 2) (by rw [es]; omega) (by rw [es]; omega)
          rw [get_list (ext_list s 2 (s.size - 1)) (j - 2) (by rw [es]; omega)] at h
          refine ltrB_true ?_
          have e : ((s.data.toList.drop 2).take (s.size - 1 - 2)).getD (j - 2) 0 = s.data.toList.getD j 0 := by
            rw [List.getD_eq_getElem?_getD, List.getElem?_take_of_lt (by omega), ← List.getD_eq_getElem?_getD, getD_drop, show 2 + (j - 2) = j from by omega]
          rw [e] at h
          exact h) (fun _ => by unfold pL; rw [hc.2]; decide)
      omega
    have hz := hm.1
    have hz2 := hm.2.1
    rw [es] at hz hz2
    rw [hn, if_pos ⟨by omega, (one_left _ _).2 ⟨by omega, by rw [show 2 + (s.size - 3) = s.size - 1 from by omega]; exact hc.2⟩⟩]
    rw [show (⟨((s.data.toList.drop 2).take (s.size - 3)).toArray⟩ : ByteArray) = s.extract 2 (s.size - 1) from ba_ext (by rw [ext_list, show s.size - 1 - 2 = s.size - 3 from by omega])]
  · rw [if_neg hc, if_neg]
    rintro ⟨ha, hb⟩
    have hb := (one_left _ _).1 hb
    refine hc ⟨?_, by rw [show s.size - 1 = 2 + spn pL (s.data.toList.drop 2) from by omega]; exact hb.2⟩
    rw [nmB_take _ (s.data.toList.drop 2) (by rw [ext_list, show s.size - 1 - 2 = spn pL (s.data.toList.drop 2) from by omega])]
    simp; omega

/-- The code, and the token, of a text. -/
def rtC (L : List UInt8) : Int := if 160 < L.length then 6 else (match tagA L with | none => 5 | some _ => 0)
def rtT (L : List UInt8) : TK := if 160 < L.length then ⟨0, 0, ⟨#[]⟩, [], false⟩ else (match tagA L with | none => ⟨0, 0, ⟨#[]⟩, [], false⟩ | some t => t)

/-- The six cells of a token with its code. -/
def r6 (c x y z u v : Value) (i : Nat) : Value := if i = 0 then c else r5 x y z u v (i - 1)
theorem row6 (w : World) (t : TypeId) (c x y z u v : Value) : (w.alloc (.cells #[c, x, y, z, u, v] t)).rowIs w.heap.size t 6 (r6 c x y z u v) :=
  ⟨_, Deep.blk_alloc_new _ _, rfl, fun i hi => by
    have : i = 0 ∨ i = 1 ∨ i = 2 ∨ i = 3 ∨ i = 4 ∨ i = 5 := by omega
    rcases this with rfl | rfl | rfl | rfl | rfl | rfl <;> rfl⟩
theorem cells6 {w : World} {g : Nat} {ty : TypeId} {c x y z u v : Value} (h : w.rowIs g ty 6 (r6 c x y z u v)) : w.cell? ⟨g, 0, none⟩ = some c ∧ w.cell? ⟨g, 1, none⟩ = some x ∧ w.cell? ⟨g, 2, none⟩ = some y ∧ w.cell? ⟨g, 3, none⟩ = some z ∧ w.cell? ⟨g, 4, none⟩ = some u ∧ w.cell? ⟨g, 5, none⟩ = some v ∧ g < w.heap.size :=
  ⟨h.cell (by omega), h.cell (by omega), h.cell (by omega), h.cell (by omega), h.cell (by omega), h.cell (by omega), h.lt⟩
/-- What a reader of a whole text answers. -/
def ResP (L : List UInt8) (w : World) (e : Ending) (w' : World) : Prop := ∃ v us, e = .returned (.agg #[.int .i64 (rtC L), .int .i64 (rtT L).kd, .int .i64 (rtT L).by_, .string (rtT L).nm, v, .bool (rtT L).sh]) ∧ OA w.heap.size w' v (rtT L).at_ us ∧ Below w.heap.size w w'

end Go.Proofs.YtgkdplooocbonaaGreatDoor
