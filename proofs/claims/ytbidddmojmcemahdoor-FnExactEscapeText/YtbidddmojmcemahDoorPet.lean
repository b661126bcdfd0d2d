/- Proved: at every slice of bytes EscapeText answers as its model, field by field, and the table of names holds behind the call what it held. Condition: the table of names holds at the call what its own initialiser lays (the card ties that to the program's text). -/
import Derived.Test.YtbidddmojmcemahDoorVa
import Derived.Test.YtbidddmojmcemahDoorEt
import Derived.Test.YtbidddmojmcemahDoorOpen
import Derived.Test.YtbidddmojmcemahDoorCards
import Derived.Test.YtbidddmojmcemahDoorTie
import Derived.SevenTiedAt
namespace Go.Proofs.YtbidddmojmcemahDoor
open Go.ChangeShapes Go.WideShapes Go.ChangeAt Go.RowKit
set_option linter.unusedVariables false
namespace escapeText
set_option maxRecDepth 100000 in
theorem lifted (os : Os) (started : os.Started) (H : Type) (enc : TypeId × Value → H) :
    ReturnsInHanded {} Tryd.checked os 5 .any (fun w args => (Rows.fnExactEscapeTextSpec.pre enc Tryd.prog Tryd.f5 [] false w args ∧ laidMetH Tryd.prog laidR w) ∧ sizedMet enc Tryd.prog Tryd.f5 (OpenSpec.ofChange Rows.fnExactEscapeTextSpec) false w args)
      (Rows.fnExactEscapeTextSpec.post enc Tryd.prog Tryd.f5 false true false false) := by
  refine returnsInHanded_of_change_and (C := Tryd.checked) (X := fun w _ => laidMetH Tryd.prog laidR w) (fun _ _ _ hh h => h.of_heap hh) own started (by kernel_rfl) Tryd.func5
    (ChangeSpec.witness_shaped (enc := enc) (C := Tryd.checked) (os := os) (X := fun w _ => laidMetH Tryd.prog laidR w) false (World.doorLaid Tryd.prog 400 os) #[.slice none 0 0] 8 rfl (World.shaped_of_RefB (by kernel_rfl) (by kernel_rfl)) (by kernel_rfl) (by kernel_rfl) (by kernel_rfl) (door_met os _)) ?_
  intro W base args ds gs before hval0 hW _ _ hL _
  have hval : ∀ (j : Nat) t v, Tryd.f5.params[j]? = some t → args[j]? = some v → Value.okWide Tryd.prog W .any base t v := hval0
  have hW' := hW
  obtain ⟨p, q, hA0, hV0, rfl, hfz, hnd⟩ := hW
  have hA : DataW.TrodAll enc Tryd.prog W 0 (fun _ => true) true Tryd.f5.params.toList args.toList ds p := hA0
  have hV : DataW.TrodVars enc Tryd.prog W (fun _ => true) ["loop.example/g00606/impl.namedRefs"] gs q := hV0
  rw [Tryd.params5] at hA hval
  obtain ⟨v0, d0, rfl, rfl, h0⟩ := trodAll_one hA
  have k0 := h0
  have lt0 : ∀ x ∈ p, x.block < W.heap.size := by obtain ⟨m, hm⟩ := k0; exact DataW.trod_lt m _ _ _ hm
  obtain ⟨a0, c0, l0, rfl, hb0, mb0, hu0⟩ := open_bytesV (hval 0 32 v0 rfl rfl) h0
  rw [MakeChecks.laidMetH_plain _ _ _ (by kernel_rfl)] at hL
  have hvar := var_of_reads (Lib.laidMet.reads hL (List.mem_cons_self ..))
  obtain ⟨g, t, cs, fuel, d, p', rfl, hg, ht, hvar', hd, rfl⟩ := trodVars_one hV
  obtain rfl := Option.some.inj (gRef.symm.trans hg)
  obtain rfl := Option.some.inj (tRef.symm.trans ht)
  obtain rfl := Option.some.inj (hvar.symm.trans hvar')
  obtain ⟨rfl, rfl⟩ := DataW.Trod.unique (v := .agg cells8.toArray) ⟨fuel, hd⟩ ⟨4, reads_cells8 enc W _⟩
  clear hA0 hV0 hval0
  refine (lawET_any a0 c0 l0 W (refs_of_var hvar) hb0 hu0 mb0).mono fun e W' ⟨he, bel⟩ => ?_
  subst he
  have hvars : ∀ sp : Nat → Bool, DataW.TrodVars enc Tryd.prog W' sp ["loop.example/g00606/impl.namedRefs"] [Rows.laid_loop_example_g00606_impl_namedRefs] (MemPlace.row ⟨0, 0, none⟩ cells8.toArray.size ++ [] ++ []) := fun sp =>
    ⟨0, 63, cells8.toArray, 4, [], [], gRef, tRef, var_below hvar bel, reads_cells8 enc W' _, rfl, rfl⟩
  refine ⟨_, rfl, _, _, _, [], _, _, hW', trodAll_mk1 (shut_bool Tryd.underlying4 _), trodAll_mk1 (Below.trod laidOut (by kernel_rfl) (of_decide_eq_true (by kernel_rfl)) k0 bel lt0), hvars _, bel.frame _, fun h => by cases h⟩

theorem row_holds : Rows.FnExactEscapeTextSaid :=
  OpenClaim.holds_of_wide 5 Tryd.f5 rfl rfl rfl rfl rfl rfl rfl ⟨rfl, rfl, rfl, rfl, rfl⟩ rfl rfl rfl rfl rfl (by kernel_rfl) Tryd.func5 (by kernel_rfl)
    (of_decide_eq_true (by kernel_rfl)) (by unfold Func.isWrapper; first | (rw [if_pos (by decide +kernel)]; kernel_rfl) | (rw [if_neg (by decide +kernel)]; exact ⟨rfl, rfl⟩))
    (fun os started H enc _ => lifted os started H enc)

end escapeText

/-- THE STATEMENT. -/
theorem fnExactEscapeText_holds : Rows.FnExactEscapeTextCardSaid :=
  Claim7.holds_tied_plain_at .later [] [.data] true (true, "58df92f2809c21b013e114a23d63faf0640857f1b5dbdb64ba9223061e23fd93") true
    escapeText.row_holds (fun _ h => by cases h) (by kernel_rfl) (fun _ h => by cases h) fnExactEscapeText_row_tie rfl ⟨rfl, rfl⟩ (by kernel_rfl) rfl
    (fun f fn hf hfn => by
      obtain rfl : f = 5 := Option.some.inj ((show Tryd.prog.funcNamed "loop.example/g00606/laws.FnExactEscapeText" = some 5 by kernel_rfl).symm.trans hf) |>.symm
      obtain rfl : fn = Tryd.f5 := (Option.some.inj (Tryd.func5.symm.trans hfn)).symm
      exact ⟨by kernel_rfl, fun j t ht => by
        rw [Tryd.params5] at ht
        have hm : t ∈ [32] := by simpa using Array.mem_of_getElem? ht
        have hall : ([32].all fun u => !Tryd.prog.wantsStandIn u) = true := by kernel_rfl
        exact (show Tryd.prog.wantsStandIn t = false by simpa using List.all_eq_true.1 hall t hm)⟩)
    (by kernel_rfl)
#print axioms fnExactEscapeText_holds
end Go.Proofs.YtbidddmojmcemahDoor
