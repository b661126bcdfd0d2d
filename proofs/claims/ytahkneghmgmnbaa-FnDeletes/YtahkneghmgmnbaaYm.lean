/- Plain mathematics: what is put into a text, or taken out of it, stands there, and all else as it was; and no fault comes of it. -/
import Derived.Test.YtahkneghmgmnbaaWn
namespace Go.Proofs.Ytahkneghmgmnbaa
open Go.RowKit
set_option linter.unusedVariables false

/-- All pieces lie in their stores. -/
def Right (t : TB) (l : List PC) : Prop := ∀ p ∈ l, lies t p = true

theorem lies_mk {t : TB} {p : PC} (h1 : 0 ≤ p.fr) (h2 : 1 ≤ p.sz) (h3 : p.sz ≤ room t p - p.fr) : lies t p = true := by
  unfold lies; simp; omega

theorem right_of_fault {t : TB} (h : fault t = 0) : Right t t.pcs := fun p hp => List.all_eq_true.1 (fault_zero h).2.2.2.1 p hp

theorem stepA_right {t : TB} {p : PC} (x : Int) (h : lies t p = true) : Right t (stepA p x) := by
  obtain ⟨h1, h2, h3⟩ := lies_bounds h
  intro q hq
  unfold stepA at hq
  split at hq
  · rw [List.mem_singleton.1 hq]; exact h
  · split at hq
    · simp at hq
    · rw [List.mem_singleton.1 hq]
      refine lies_mk h1 ?_ ?_
      · show 1 ≤ x; omega
      · show x ≤ room t p - p.fr; omega

theorem stepB_right {t : TB} {p : PC} (x : Int) (h : lies t p = true) : Right t (stepB p x) := by
  obtain ⟨h1, h2, h3⟩ := lies_bounds h
  intro q hq
  unfold stepB at hq
  split at hq
  · simp at hq
  · split at hq
    · rw [List.mem_singleton.1 hq]; exact h
    · rw [List.mem_singleton.1 hq]
      refine lies_mk ?_ ?_ ?_
      · show 0 ≤ p.fr + x; omega
      · show 1 ≤ p.sz - x; omega
      · show p.sz - x ≤ room t p - (p.fr + x); omega

theorem partA_right {t : TB} : ∀ (l : List PC) (x : Int), Right t l → Right t (partA l x)
  | [], x, _, q, hq => by simp [partA] at hq
  | p :: r, x, h, q, hq => by
    rcases List.mem_append.1 hq with hq | hq
    · exact stepA_right x (h p (by simp)) q hq
    · exact partA_right r _ (fun p' hp' => h p' (by simp [hp'])) q hq
theorem partB_right {t : TB} : ∀ (l : List PC) (x : Int), Right t l → Right t (partB l x)
  | [], x, _, q, hq => by simp [partB] at hq
  | p :: r, x, h, q, hq => by
    rcases List.mem_append.1 hq with hq | hq
    · exact stepB_right x (h p (by simp)) q hq
    · exact partB_right r _ (fun p' hp' => h p' (by simp [hp'])) q hq

theorem total_parts : ∀ (l : List PC) (x : Int), total (partA l x) + total (partB l x) = total l
  | [], x => rfl
  | p :: r, x => by
    have ih := total_parts r (x - p.sz)
    simp only [partA, partB, total_append, total]
    have : total (stepA p x) + total (stepB p x) = p.sz := by
      unfold stepA stepB
      split
      · simp [total]
      · split
        · simp [total]
        · simp [total]; omega
    omega

theorem total_nonneg {t : TB} : ∀ (l : List PC), Right t l → 0 ≤ total l
  | [], _ => Int.le_refl _
  | p :: r, h => by
    have h1 := lies_bounds (h p (by simp))
    have h2 := total_nonneg r (fun q hq => h q (by simp [hq]))
    simp only [total]; omega

theorem ptext_append (t : TB) (a b : List PC) : ptext t (a ++ b) = ptext t a ++ ptext t b := by unfold ptext; rw [List.flatMap_append]
theorem ptext_cons (t : TB) (p : PC) (r : List PC) : ptext t (p :: r) = pbytes t p ++ ptext t r := rfl
theorem ptext_one (t : TB) (p : PC) : ptext t [p] = pbytes t p := by simp [ptext]

theorem partA_low {t : TB} : ∀ (l : List PC) (x : Int), Right t l → x ≤ 0 → partA l x = []
  | [], x, _, _ => rfl
  | p :: r, x, h, hx => by
    have h1 := lies_bounds (h p (by simp))
    simp only [partA, stepA]
    rw [if_neg (by omega), if_pos hx, partA_low r _ (fun q hq => h q (by simp [hq])) (by omega)]
    rfl
theorem partB_low {t : TB} : ∀ (l : List PC) (x : Int), Right t l → x ≤ 0 → partB l x = l
  | [], x, _, _ => rfl
  | p :: r, x, h, hx => by
    have h1 := lies_bounds (h p (by simp))
    simp only [partB, stepB]
    rw [if_neg (by omega), if_pos hx, partB_low r _ (fun q hq => h q (by simp [hq])) (by omega)]
    rfl

theorem ptext_partA {t : TB} : ∀ (l : List PC) (x : Int), Right t l → ptext t (partA l x) = (ptext t l).take x.toNat
  | [], x, _ => by simp [partA, ptext]
  | p :: r, x, h => by
    have hp := h p (by simp)
    have hr : Right t r := fun q hq => h q (by simp [hq])
    obtain ⟨f, z, e1, e2, z1, e3, e4, e5⟩ := lies_nat hp
    by_cases c0 : x ≤ 0
    · rw [partA_low _ _ h c0, show x.toNat = 0 from by omega]; simp [ptext]
    rw [ptext_cons]
    simp only [partA, ptext_append]
    by_cases c1 : p.sz ≤ x
    · rw [show stepA p x = [p] from by unfold stepA; rw [if_pos c1], ptext_one, ptext_partA r _ hr, List.take_append, show (pbytes t p).take x.toNat = pbytes t p from List.take_of_length_le (by omega), show (x - p.sz).toNat = x.toNat - (pbytes t p).length from by omega]
    · rw [show stepA p x = [⟨p.ad, p.fr, x⟩] from by unfold stepA; rw [if_neg c1, if_neg c0], ptext_one, partA_low r _ hr (by omega), show ptext t [] = [] from rfl, List.append_nil, List.take_append_of_le_length (by omega), e4]
      unfold pbytes
      show ((store t p).drop p.fr.toNat).take x.toNat = _
      rw [e1, Int.toNat_natCast, List.take_take, Nat.min_eq_left (by omega)]

theorem ptext_partB {t : TB} : ∀ (l : List PC) (x : Int), Right t l → ptext t (partB l x) = (ptext t l).drop x.toNat
  | [], x, _ => by simp [partB, ptext]
  | p :: r, x, h => by
    have hp := h p (by simp)
    have hr : Right t r := fun q hq => h q (by simp [hq])
    obtain ⟨f, z, e1, e2, z1, e3, e4, e5⟩ := lies_nat hp
    by_cases c0 : x ≤ 0
    · rw [partB_low _ _ h c0, show x.toNat = 0 from by omega]; rfl
    rw [ptext_cons]
    simp only [partB, ptext_append]
    by_cases c1 : p.sz ≤ x
    · rw [show stepB p x = [] from by unfold stepB; rw [if_pos c1], show ptext t [] = [] from rfl, List.nil_append, ptext_partB r _ hr, List.drop_append, show (pbytes t p).drop x.toNat = [] from List.drop_eq_nil_of_le (by omega), List.nil_append, show (x - p.sz).toNat = x.toNat - (pbytes t p).length from by omega]
    · rw [show stepB p x = [⟨p.ad, p.fr + x, p.sz - x⟩] from by unfold stepB; rw [if_neg c1, if_neg c0], ptext_one, partB_low r _ hr (by omega), List.drop_append_of_le_length (by omega)]
      congr 1
      rw [e4]
      unfold pbytes
      show ((store t p).drop (p.fr + x).toNat).take (p.sz - x).toNat = _
      rw [e1, e2, List.drop_take, List.drop_drop, show ((f : Int) + x).toNat = f + x.toNat from by omega, show ((z : Int) - x).toNat = z - x.toNat from by omega]

/-- Behind bytes that are put into More the pieces have the bytes that they had. -/
theorem pbytes_more {t : TB} {p : PC} (d : List Int) (l : List PC) (h : lies t p = true) : pbytes ⟨t.base, t.more ++ d, l⟩ p = pbytes t p ∧ lies ⟨t.base, t.more ++ d, l⟩ p = true := by
  obtain ⟨f, z, e1, e2, z1, e3, e4, e5⟩ := lies_nat h
  obtain ⟨h1, h2, h3⟩ := lies_bounds h
  constructor
  · rw [e4]
    unfold pbytes
    rw [e1, e2, Int.toNat_natCast, Int.toNat_natCast]
    unfold store at e3 ⊢
    split
    · rename_i c
      rw [if_pos c] at e3
      show ((t.more ++ d).drop f).take z = _
      rw [List.drop_append_of_le_length (by omega), List.take_append_of_le_length (by rw [List.length_drop]; omega)]
    · rfl
  · refine lies_mk h1 h2 ?_
    unfold room at h3 ⊢
    split
    · rename_i c
      rw [if_pos c] at h3
      show p.sz ≤ ((t.more ++ d).length : Int) - p.fr
      rw [List.length_append]; omega
    · rename_i c
      rw [if_neg c] at h3
      exact h3

theorem ptext_more {t : TB} (d : List Int) (k : List PC) : ∀ (l : List PC), Right t l → ptext ⟨t.base, t.more ++ d, k⟩ l = ptext t l
  | [], _ => rfl
  | p :: r, h => by rw [ptext_cons, ptext_cons, (pbytes_more d k (h p (by simp))).1, ptext_more d k r (fun q hq => h q (by simp [hq]))]

theorem all_right {t : TB} {l : List PC} (h : Right t l) : l.all (lies t) = true := List.all_eq_true.2 h

/-- What InsertText comes to. -/
theorem ins_good {t : TB} {x : Int} {d : List Int} (h : insCode t x d = 0) : fault t = 0 ∧ 0 ≤ x ∧ x ≤ (text t).length ∧ fault (insT t x d) = 0 ∧ text (insT t x d) = ((text t).take x.toNat ++ d) ++ (text t).drop x.toNat := by
  have hf : insFault t x d = 0 := by
    unfold insCode at h
    split at h
    · assumption
    · exact h
  obtain ⟨hz, x0, x1, ht, hm⟩ := insFault_zero hf
  have tl := (text_len hz).1
  obtain ⟨f1, f2, f3, f4, f5⟩ := fault_zero hz
  have hR := right_of_fault hz
  refine ⟨hz, x0, by omega, ?_⟩
  unfold insCode at h
  unfold insT
  rw [if_pos hf] at h ⊢
  by_cases c : d.length = 0
  · rw [if_pos c]
    have := List.eq_nil_of_length_eq_zero c
    subst this
    exact ⟨hz, by rw [List.append_nil, List.take_append_drop]⟩
  · rw [if_neg c] at h ⊢
    have c40 : ¬ 40 < (insPcs t x d).length := by
      intro c4
      rw [if_pos c4] at h
      exact absurd h (by decide)
    rw [if_neg c40]
    have RA := partA_right t.pcs x hR
    have RB := partB_right t.pcs x hR
    have TP := total_parts t.pcs x
    have pn : pbytes ⟨t.base, t.more ++ d, insPcs t x d⟩ ⟨true, t.more.length, d.length⟩ = d := by
      unfold pbytes store
      simp
    constructor
    · refine fault_ok f1 ?_ c40 ?_ ?_
      · show ¬ 2000 < (t.more ++ d).length
        rw [List.length_append]; omega
      · refine all_right (fun q hq => ?_)
        unfold insPcs at hq
        rcases List.mem_append.1 hq with hq | hq
        · rcases List.mem_append.1 hq with hq | hq
          · exact (pbytes_more d _ (RA q hq)).2
          · rw [List.mem_singleton.1 hq]
            refine lies_mk (by simp) (by simp; omega) ?_
            unfold room
            simp
            omega
        · exact (pbytes_more d _ (RB q hq)).2
      · show ¬ 240 < total (insPcs t x d)
        unfold insPcs
        rw [total_append, total_append]
        simp only [total]
        omega
    · unfold text
      show ptext ⟨t.base, t.more ++ d, insPcs t x d⟩ (insPcs t x d) = _
      conv => lhs; rw [show insPcs t x d = (partA t.pcs x ++ [⟨true, t.more.length, d.length⟩]) ++ partB t.pcs x from rfl]
      rw [ptext_append, ptext_append, ptext_one, ← show insPcs t x d = (partA t.pcs x ++ [⟨true, t.more.length, d.length⟩]) ++ partB t.pcs x from rfl, pn, ptext_more d _ _ RA, ptext_more d _ _ RB, ptext_partA _ _ hR, ptext_partB _ _ hR]

/-- What DeleteText comes to. -/
theorem del_good {t : TB} {x n : Int} (h : delCode t x n = 0) : fault t = 0 ∧ 0 ≤ x ∧ 0 ≤ n ∧ x + n ≤ (text t).length ∧ fault (delT t x n) = 0 ∧ text (delT t x n) = (text t).take x.toNat ++ (text t).drop (x + n).toNat := by
  have hz : fault t = 0 := by
    unfold delCode at h
    split at h
    · assumption
    · exact h
  unfold delCode at h
  unfold delT
  rw [if_pos hz] at h ⊢
  have hr : delIn t x n = true := by
    cases e : delIn t x n with
    | true => rfl
    | false => rw [e] at h; simp at h
  rw [if_pos hr] at h
  rw [if_pos hr]
  obtain ⟨x0, n0, xn⟩ := (delIn_iff t x n hz).1 hr
  have tl := (text_len hz).1
  obtain ⟨f1, f2, f3, f4, f5⟩ := fault_zero hz
  have hR := right_of_fault hz
  refine ⟨hz, x0, n0, by omega, ?_⟩
  by_cases c : n = 0
  · rw [if_pos c]
    subst c
    exact ⟨hz, by rw [Int.add_zero, List.take_append_drop]⟩
  · rw [if_neg c] at h ⊢
    have c40 : ¬ 40 < (delPcs t.pcs x n).length := by
      intro c4
      rw [if_pos c4] at h
      exact absurd h (by decide)
    rw [if_neg c40]
    have RA := partA_right t.pcs x hR
    have RB := partB_right t.pcs x hR
    have RC := partB_right (partB t.pcs x) n RB
    have RD := partA_right (partB t.pcs x) n RB
    have TP := total_parts t.pcs x
    have TQ := total_parts (partB t.pcs x) n
    have TN := total_nonneg _ RD
    constructor
    · refine fault_ok f1 f2 c40 ?_ ?_
      · refine all_right (fun q hq => ?_)
        rcases List.mem_append.1 (show q ∈ partA t.pcs x ++ partB (partB t.pcs x) n from hq) with hq | hq
        · exact RA q hq
        · exact RC q hq
      · show ¬ 240 < total (delPcs t.pcs x n)
        unfold delPcs
        rw [total_append]
        omega
    · show ptext ⟨t.base, t.more, delPcs t.pcs x n⟩ (delPcs t.pcs x n) = _
      have e : ∀ l : List PC, ptext ⟨t.base, t.more, delPcs t.pcs x n⟩ l = ptext t l := fun l => rfl
      rw [e]
      unfold delPcs
      rw [ptext_append, ptext_partA _ _ hR, ptext_partB _ _ RB, ptext_partB _ _ hR, List.drop_drop]
      congr 2
      omega

end Go.Proofs.Ytahkneghmgmnbaa
