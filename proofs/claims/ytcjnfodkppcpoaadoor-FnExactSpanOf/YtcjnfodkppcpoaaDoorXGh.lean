/- The program's tree in memory. -/
import Derived.Test.YtcjnfodkppcpoaaDoorXGg
import Derived.Test.YtcjnfodkppcpoaaDoorXSpl
namespace Go.Proofs.YtcjnfodkppcpoaaDoor
open Go.RowKit
set_option linter.unusedVariables false
set_option linter.unusedSimpArgs false

/-- Numbers lie at an address. -/
def IAt (w : World) (a : Option Addr) (l : List Int) : Prop :=
  l = [] ∨ ∃ b o, a = some ⟨b, o, none⟩ ∧ b < w.heap.size ∧ ∀ k, k < l.length → w.cell? ⟨b, o + k, none⟩ = some (.int .i64 (wv l k))

theorem IAt.below {w w' : World} {a : Option Addr} {l : List Int} (h : IAt w a l) (hb : Below w.heap.size w w') : IAt w' a l := by
  rcases h with h | ⟨b, o, ha, hl, hc⟩
  · exact .inl h
  · exact .inr ⟨b, o, ha, Nat.lt_of_lt_of_le hl hb.size, fun k hk => (hb.cell hl).trans (hc k hk)⟩

/-- Where a number stands; -1: nowhere. -/
def ixI (l : List Int) (x : Int) : Int := if ixF l x < l.length then (ixF l x : Int) else -1

set_option maxHeartbeats 1600000 in
theorem indexI_any (a : Option Addr) (c : Nat) (l : List Int) (x : Int) (w : World) (ha : IAt w a l) (hl : (l.length : Int) ≤ 1048576) :
    Calls Tryd.prog 47 #[.slice a l.length c, .int .i64 x] w fun e w' => e = .returned (.int .i64 (ixI l x)) ∧ w' = w := by
  go_enter Tryd.func47, Tryd.ntmps47
  go_wp2
  go_loop [8] (fun i => ∃ k : Nat, k ≤ l.length ∧ i = .int .i64 k ∧ ∀ j, j < k → ¬ wv l j = x) (fun i => l.length - (intOf i).toNat)
  case atStart => exact ⟨0, Nat.zero_le _, rfl, fun j h => absurd h (Nat.not_lt_zero _)⟩
  case round =>
    obtain ⟨k, hk, rfl, hn⟩ := hrel
    have HN := Hid.mk' hn
    clear hn
    by_cases hlt : k < l.length
    · have ci : (k : Int) < (l.length : Int) := by omega
      rcases ha with ha | ⟨b, o, rfl, hbs, hc⟩
      · exact absurd hlt (by rw [ha]; exact Nat.not_lt_zero _)
      have h1 := hc k hlt
      clear hc
      by_cases e : wv l k = x
      · have E : Hid (ixI l x = (k : Int)) := Hid.mk' (by
          unfold ixI
          rw [ixF_found l x k hlt HN.out e, if_pos hlt])
        rw [e] at h1
        clear e
        go_wp2
        go_ret
        exact ⟨by rw [E.out]; rfl, rfl⟩
      · have e' : ¬ x = wv l k := fun h => e h.symm
        have EE := Hid.mk' e
        clear e
        go_wp2
        go_round
        case rel => exact ⟨k + 1, by omega, by go_num, fun j hj => by
          by_cases h : j = k
          · subst h; exact EE.out
          · exact HN.out j (by omega)⟩
        case measure => simp [intOf]; omega
    · have ci : ¬ (k : Int) < (l.length : Int) := by omega
      have e : k = l.length := by omega
      subst e
      have E : Hid (ixI l x = -1) := Hid.mk' (by
        unfold ixI
        rw [ixF_none l x HN.out, if_neg (Nat.lt_irrefl _)])
      go_wp2
      go_ret
      exact ⟨by rw [E.out]; rfl, rfl⟩

/-- The five cells of a node in its place. -/
def pcell (l : List ND) (va : Nat → Value) (j : Nat) : List Value := [.int .i64 (mkK (ndK l j)), .string (mkS (ndK l j)), mkV (ndK l j) (va j), .int .i64 (ndK l j).up, .int .i64 (depU (upF l) j : Int)]

/-- The cells of k of them. -/
def pcs5 (l : List ND) (va : Nat → Value) : Nat → List Value
  | 0 => []
  | k + 1 => pcs5 l va k ++ pcell l va k

theorem pcs5_len (l : List ND) (va : Nat → Value) : ∀ k, (pcs5 l va k).length = k * 5
  | 0 => rfl
  | k + 1 => by simp [pcs5, pcs5_len l va k, pcell]; omega

theorem pcs5_get (l : List ND) (va : Nat → Value) : ∀ (k j i : Nat), j < k → i < 5 → (pcs5 l va k)[j * 5 + i]? = (pcell l va j)[i]?
  | 0, _, _, h, _ => absurd h (Nat.not_lt_zero _)
  | k + 1, j, i, h, hi => by
    unfold pcs5
    by_cases e : j = k
    · subst e
      rw [List.getElem?_append_right (by rw [pcs5_len]; omega), pcs5_len, show j * 5 + i - j * 5 = i by omega]
    · rw [List.getElem?_append_left (by rw [pcs5_len]; omega)]
      exact pcs5_get l va k j i (by omega) hi

/-- The attributes of nodes, as slices. -/
def sv (l : List ND) (pa : Nat → Option Addr) (ca : Nat → Nat) (j : Nat) : Value := .slice (pa j) (ndK l j).at_.length (ca j)

theorem mkV_one (t : ND) (l : List ND) (pa : Nat → Option Addr) (ca : Nat → Nat) (j : Nat) : (mkV t (sv l pa ca j)).oneCell' = true := by
  unfold mkV sv; split <;> rfl

theorem pcell_one (l : List ND) (pa : Nat → Option Addr) (ca : Nat → Nat) (j : Nat) : ∀ u ∈ pcell l (sv l pa ca) j, u.oneCell' = true := by
  intro u hu
  simp only [pcell, List.mem_cons, List.not_mem_nil, or_false] at hu
  rcases hu with rfl | rfl | rfl | rfl | rfl
  · rfl
  · rfl
  · exact mkV_one _ _ _ _ _
  · rfl
  · rfl

/-- The cells of numbers. -/
def ics (l : List Int) : List Value := l.map (Value.int .i64)
theorem ics_len (l : List Int) : (ics l).length = l.length * 1 := by simp [ics]
theorem ics_one (l : List Int) : ∀ u ∈ ics l, u.oneCell' = true := by
  intro u hu; simp [ics] at hu; obtain ⟨x, _, rfl⟩ := hu; rfl
theorem ics_get (l : List Int) (j : Nat) (h : j < l.length) : (ics l)[j]? = some (.int .i64 (wv l j)) := by simp [ics, wv, h]

/-- The cells of a row of one's own. -/
theorem own_spot {w : World} {base : Nat} {e : TypeId} {size : Nat} {v : Value} {n : Nat} {xs : List Value} (h : w.ownsRow base e size v n xs) (hn : 0 < n) : ∃ g cap, v = .slice (some ⟨g, 0, none⟩) n cap ∧ base ≤ g ∧ g < w.heap.size ∧ n ≤ cap ∧ ∀ i, i < n * size → w.cell? ⟨g, i, none⟩ = xs[i]? := by
  rcases h.2 with ⟨rfl, h0⟩ | ⟨g, cap, cur, rfl, hg, hh, hc, hm, hs, ht⟩
  · omega
  · refine ⟨g, cap, rfl, hg, ?_, hc, fun i hi => ?_⟩
    · exact Nat.lt_of_not_le fun hn => by rw [Array.getElem?_eq_none hn] at hh; cases hh
    · have q : w.cell? ⟨g, i, none⟩ = cur[i]? := Lib.cell_of_heap hh i
      rw [q, ← ht, List.getElem?_take_of_lt hi]
      simp

/-- The first m of a row of one's own. -/
theorem own_take {w : World} {base g cap n m : Nat} {e : TypeId} {size : Nat} {xs : List Value} (h : w.ownsRow base e size (.slice (some ⟨g, 0, none⟩) n cap) n xs) (hm : m ≤ n) : w.ownsRow base e size (.slice (some ⟨g, 0, none⟩) m cap) m (xs.take (m * size)) := by
  have hle : m * size ≤ n * size := Nat.mul_le_mul_right _ hm
  refine ⟨by rw [List.length_take, h.1]; omega, .inr ?_⟩
  rcases h.2 with ⟨h0, _⟩ | ⟨g', cap', cur, hv, hg, hh, hc, hml, hs, ht⟩
  · cases h0
  · cases hv
    exact ⟨g, cap, cur, rfl, hg, hh, by omega, hml, hs, by rw [← ht, List.take_take, Nat.min_eq_left hle]⟩

theorem own_iat {w : World} {base : Nat} {v : Value} {l : List Int} (h : w.ownsRow base 2 1 v l.length (ics l)) (hn : 0 < l.length) : ∃ g cap, v = .slice (some ⟨g, 0, none⟩) l.length cap ∧ base ≤ g ∧ g < w.heap.size ∧ l.length ≤ cap ∧ IAt w (some ⟨g, 0, none⟩) l := by
  obtain ⟨g, cap, e, h1, h2, h3, h4⟩ := own_spot h hn
  exact ⟨g, cap, e, h1, h2, h3, .inr ⟨g, 0, rfl, h2, fun k hk => by rw [Nat.zero_add, h4 k (by omega)]; exact ics_get l k hk⟩⟩

/-- A tree of the program in its box at g: k nodes, and the way to the next one. -/
structure TT (w0 : World) (base g : Nat) (l : List ND) (pa : Nat → Option Addr) (ca : Nat → Nat) (k : Nat) (vn vw : Value) (w : World) : Prop where
  box : w.rowIs g 54 2 (p2 vn vw)
  on : w.ownsRow base 80 5 vn k (pcs5 l (sv l pa ca) k)
  ow : w.ownsRow base 2 1 vw (wayU (upF l) k).length (ics (wayU (upF l) k))
  ap : Ap vn vw
  an : ¬ vn.ownBlock = some g
  aw : ¬ vw.ownBlock = some g
  bl : Below base w0 w
  sz : base ≤ w.heap.size
  bg : base ≤ g

theorem TT.below {w0 w w' : World} {base g : Nat} {l : List ND} {pa : Nat → Option Addr} {ca : Nat → Nat} {k : Nat} {vn vw : Value} (h : TT w0 base g l pa ca k vn vw w) (hb : Below w.heap.size w w') : TT w0 base g l pa ca k vn vw w' :=
  ⟨rowB h.box hb, own_keep h.on hb, own_keep h.ow hb, h.ap, h.an, h.aw, h.bl.trans (hb.mono h.sz), Nat.le_trans h.sz hb.size, h.bg⟩

end Go.Proofs.YtcjnfodkppcpoaaDoor
