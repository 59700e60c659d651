/- Proved: for every table and every two lists of values the statement on Change (promise Ro3) answers true and leaves its arguments as they were; its condition: the variables that it lists, tables of the library and of the program, stand as their texts lay them. -/
import Derived.Test.YtgnedioggpgeeaaDoorCards
import Derived.Test.YtgnedioggpgeeaaDoorTie
import Derived.Test.YtgnedioggpgeeaaDoorGFLaid4
import Derived.Test.YtgnedioggpgeeaaDoorGLRChg
namespace Go.Proofs.YtgnedioggpgeeaaDoor
open Go.ChangeShapes Go.WideShapes Go.ChangeAt Go.RowKit Go.Joins
set_option maxRecDepth 100000
namespace RChanges

theorem lifted (os : Os) (started : os.Started) (H : Type) (enc : TypeId × Value → H) :
    ReturnsInHanded {} Tryd.checked os 5 .any (fun w args => (Rows.rowChangesSpec.pre enc Tryd.prog Tryd.f5 Rows.rowChangesRow.domain false w args ∧ laidMetH Tryd.prog laidR w) ∧ sizedMet enc Tryd.prog Tryd.f5 (OpenSpec.ofChange Rows.rowChangesSpec) false w args)
      (Rows.rowChangesSpec.post enc Tryd.prog Tryd.f5 false true false false) := by
  refine returnsInHanded_of_change_and (C := Tryd.checked) (X := fun w _ => laidMetH Tryd.prog laidR w) (fun _ _ _ hh h => h.of_heap hh) own started (by kernel_rfl) Tryd.func5
    (ChangeSpec.witness_shaped (enc := enc) (C := Tryd.checked) (os := os) (X := fun w _ => laidMetH Tryd.prog laidR w) false (World.laidAll Tryd.prog os laidR) #[.agg #[.string ⟨#[]⟩, .slice none 0 0, .slice none 0 0, .slice none 0 0, .slice none 0 0], .slice none 0 0, .slice none 0 0] 8 (World.laidAll_os _ _ _)
      (shapedR os _) (by kernel_rfl) (by kernel_rfl) (by kernel_rfl) (metR os _)) ?_
  intro W base args ds gs before hval0 hW _ hsz0 hL _
  have hval : ∀ (j : Nat) t v, Tryd.f5.params[j]? = some t → args[j]? = some v → Value.okWide Tryd.prog W .any base t v := hval0
  have hsz : (DataW.weightsEach Tryd.prog (Tryd.f5.params.toList ++ Rows.rowChangesSpec.plain.varTypes Tryd.prog) (ds ++ gs)).all (· ≤ reachBytes) = true := hsz0
  have hW' := hW
  obtain ⟨p, q, hA0, hV, rfl, _, _⟩ := hW
  have hA : DataW.TrodAll enc Tryd.prog W 0 (fun _ => true) true Tryd.f5.params.toList args.toList ds p := hA0
  rw [Tryd.params5] at hA hval hsz
  obtain ⟨v0, v1, v2, d0, d1, d2, p0, p1, p2, rfl, rfl, rfl, h0, h1, h2⟩ := trodAll_three hA
  obtain ⟨rfl, rfl⟩ := trodVars_none hV
  simp only [List.append_nil] at hW'
  have hk0 := h0
  obtain ⟨T0, a0, rfl, hok0, hV0, hbc0, hbx0⟩ := openTable (hval 0 27 v0 rfl rfl) h0 (Reach.of_each hsz (j := 0) (t := 27) rfl rfl)
  have hk1 := h1
  obtain ⟨L1, q1, c1, rfl, hR1, hok1, hcap1, hlen1, hq1⟩ := openVals (hval 1 28 v1 rfl rfl) h1 (Reach.of_each hsz (j := 1) (t := 28) rfl rfl)
  have hk2 := h2
  obtain ⟨L2, q2, c2, rfl, hR2, hok2, hcap2, hlen2, hq2⟩ := openVals (hval 2 28 v2 rfl rfl) h2 (Reach.of_each hsz (j := 2) (t := 28) rfl rfl)
  refine (lawRChg T0 a0 L1 L2 q1 q2 c1 c2 W hV0 hok0 hR1 hR2 hok1 hok2 hlen1 hlen2 hcap2 (env_of hL)).mono fun e W' ⟨he, hb⟩ => ?_
  subst he
  exact ⟨_, rfl, _, _, _, [], p0 ++ (p1 ++ p2), [], hW', trodAll_mk1 (shut_bool Tryd.underlying4 _), trodAll_mk3 (Below.trod laidOut (by kernel_rfl) (of_decide_eq_true (by kernel_rfl)) hk0 hb (fun x hx => by simpa using hW'.lt x (by simp [hx]))) (Below.trod laidOut (by kernel_rfl) (of_decide_eq_true (by kernel_rfl)) hk1 hb (fun x hx => by simpa using hW'.lt x (by simp [hx]))) (Below.trod laidOut (by kernel_rfl) (of_decide_eq_true (by kernel_rfl)) hk2 hb (fun x hx => by simpa using hW'.lt x (by simp [hx]))), rfl, hb.frame _, fun h => by cases h⟩

theorem said : Rows.RowChangesSaid :=
  OpenClaim.holds_of_wide 5 Tryd.f5 rfl rfl rfl rfl rfl rfl rfl ⟨rfl, rfl, rfl, rfl, rfl⟩ rfl rfl rfl rfl rfl (by kernel_rfl) Tryd.func5 (by kernel_rfl)
    (of_decide_eq_true (by kernel_rfl)) (by unfold Func.isWrapper; first | (rw [if_pos (by decide +kernel)]; kernel_rfl) | (rw [if_neg (by decide +kernel)]; exact ⟨rfl, rfl⟩))
    (fun os started H enc _ => lifted os started H enc)

theorem plain (f : FuncId) (fn : Func) (hf : Tryd.pinned.checked.prog.funcNamed Tryd.f5.name = some f) (hfn : Tryd.pinned.checked.prog.funcs[f]? = some fn) :
    false = Tryd.pinned.checked.prog.looks [] ∧ ∀ (j : Nat) t, fn.params[j]? = some t → Tryd.pinned.checked.prog.wantsStandIn t = false := by
  obtain rfl : f = 5 := Option.some.inj ((show Tryd.prog.funcNamed Tryd.f5.name = some 5 by kernel_rfl).symm.trans hf) |>.symm
  obtain rfl : fn = Tryd.f5 := (Option.some.inj (Tryd.func5.symm.trans hfn)).symm
  refine ⟨by kernel_rfl, fun j t ht => ?_⟩
  rw [Tryd.params5] at ht
  have hm : t ∈ [27, 28, 28] := by simpa using Array.mem_of_getElem? ht
  have hall : ([27, 28, 28].all fun u => !Tryd.prog.wantsStandIn u) = true := by kernel_rfl
  exact (show Tryd.prog.wantsStandIn t = false by simpa using List.all_eq_true.1 hall t hm)
end RChanges

/-- THE CARD. -/
theorem rchanges_holds : Rows.RowChangesCardSaid :=
  Claim7.holds_tied_plain_at .later [] _ _ _ _ RChanges.said (fun _ h => by cases h) (by kernel_rfl) (fun _ h => by cases h) rowChanges_row_tie rfl ⟨rfl, rfl⟩ (by kernel_rfl) rfl RChanges.plain (by kernel_rfl)
#print axioms rchanges_holds
end Go.Proofs.YtgnedioggpgeeaaDoor
