/- Proved: for every table, every list of numbers and every list of values the statement on Fill (promise Sc3) answers true and leaves its arguments as they were; its condition: the variables that it lists, tables of the library and of the program, stand as their texts lay them. -/
import Derived.Test.YtobgdjjicgiefaaGreatDoorCards
import Derived.Test.YtobgdjjicgiefaaGreatDoorTie
import Derived.Test.YtobgdjjicgiefaaGreatDoorFLaid
import Derived.Test.YtobgdjjicgiefaaGreatDoorLFills
namespace Go.Proofs.YtobgdjjicgiefaaGreatDoor
open Go.ChangeShapes Go.WideShapes Go.ChangeAt Go.RowKit Go.Joins
set_option maxRecDepth 100000
namespace FillsT

theorem lifted (os : Os) (started : os.Started) (H : Type) (enc : TypeId × Value → H) :
    ReturnsInHanded {} Tryz.checked os 7 .any (fun w args => (Rows.schemaFillsSpec.pre enc Tryz.prog Tryz.f7 Rows.schemaFillsRow.domain false w args ∧ laidMetH Tryz.prog laidS w) ∧ sizedMet enc Tryz.prog Tryz.f7 (OpenSpec.ofChange Rows.schemaFillsSpec) false w args)
      (Rows.schemaFillsSpec.post enc Tryz.prog Tryz.f7 false true false false) := by
  refine returnsInHanded_of_change_and (C := Tryz.checked) (X := fun w _ => laidMetH Tryz.prog laidS w) (fun _ _ _ hh h => h.of_heap hh) own started (by kernel_rfl) Tryz.func7
    (ChangeSpec.witness_shaped (enc := enc) (C := Tryz.checked) (os := os) (X := fun w _ => laidMetH Tryz.prog laidS w) false (World.laidAll Tryz.prog os laidS) #[.agg #[.string ⟨#[]⟩, .slice none 0 0, .slice none 0 0, .slice none 0 0, .slice none 0 0], .slice none 0 0, .slice none 0 0] 8 (World.laidAll_os _ _ _)
      (shapedS os _) (by kernel_rfl) (by kernel_rfl) (by kernel_rfl) (metS os _)) ?_
  intro W base args ds gs before hval0 hW _ hsz0 hL _
  have hval : ∀ (j : Nat) t v, Tryz.f7.params[j]? = some t → args[j]? = some v → Value.okWide Tryz.prog W .any base t v := hval0
  have hsz : (DataW.weightsEach Tryz.prog (Tryz.f7.params.toList ++ Rows.schemaFillsSpec.plain.varTypes Tryz.prog) (ds ++ gs)).all (· ≤ reachBytes) = true := hsz0
  have hW' := hW
  obtain ⟨p, q, hA0, hV, rfl, _, _⟩ := hW
  have hA : DataW.TrodAll enc Tryz.prog W 0 (fun _ => true) true Tryz.f7.params.toList args.toList ds p := hA0
  rw [Tryz.params7] at hA hval hsz
  obtain ⟨v0, v1, v2, d0, d1, d2, p0, p1, p2, rfl, rfl, rfl, h0, h1, h2⟩ := trodAll_three hA
  obtain ⟨rfl, rfl⟩ := trodVars_none hV
  simp only [List.append_nil] at hW'
  have hk0 := h0
  obtain ⟨T0, a0, rfl, hok0, hV0, hbc0, hbx0⟩ := openTable (hval 0 29 v0 rfl rfl) h0 (Reach.of_each hsz (j := 0) (t := 29) rfl rfl)
  have hk1 := h1
  obtain ⟨L1, q1, c1, rfl, hR1, hcap1, hlen1, hq1⟩ := openNums (hval 1 25 v1 rfl rfl) h1 (Reach.of_each hsz (j := 1) (t := 25) rfl rfl)
  have hk2 := h2
  obtain ⟨L2, q2, c2, rfl, hR2, hok2, hcap2, hlen2, hq2⟩ := openVals (hval 2 37 v2 rfl rfl) h2 (Reach.of_each hsz (j := 2) (t := 37) rfl rfl)
  refine (lawFills T0 a0 L1 q1 c1 L2 q2 c2 W hV0 hok0 hbc0 hbx0 hR1 hcap1 hq1 hlen1 hR2 hok2 hlen2 (env_of hL) (kw_of hL)).mono fun e W' ⟨he, hb⟩ => ?_
  subst he
  exact ⟨_, rfl, _, _, _, [], p0 ++ (p1 ++ p2), [], hW', trodAll_mk1 (shut_bool Tryz.underlying4 _), trodAll_mk3 (Below.trod laidOut (by kernel_rfl) (of_decide_eq_true (by kernel_rfl)) hk0 hb (fun x hx => by simpa using hW'.lt x (by simp [hx]))) (Below.trod laidOut (by kernel_rfl) (of_decide_eq_true (by kernel_rfl)) hk1 hb (fun x hx => by simpa using hW'.lt x (by simp [hx]))) (Below.trod laidOut (by kernel_rfl) (of_decide_eq_true (by kernel_rfl)) hk2 hb (fun x hx => by simpa using hW'.lt x (by simp [hx]))), rfl, hb.frame _, fun h => by cases h⟩

theorem said : Rows.SchemaFillsSaid :=
  OpenClaim.holds_of_wide 7 Tryz.f7 rfl rfl rfl rfl rfl rfl rfl ⟨rfl, rfl, rfl, rfl, rfl⟩ rfl rfl rfl rfl rfl (by kernel_rfl) Tryz.func7 (by kernel_rfl)
    (of_decide_eq_true (by kernel_rfl)) (by unfold Func.isWrapper; first | (rw [if_pos (by decide +kernel)]; kernel_rfl) | (rw [if_neg (by decide +kernel)]; exact ⟨rfl, rfl⟩))
    (fun os started H enc _ => lifted os started H enc)

theorem plain (f : FuncId) (fn : Func) (hf : Tryz.pinned.checked.prog.funcNamed Tryz.f7.name = some f) (hfn : Tryz.pinned.checked.prog.funcs[f]? = some fn) :
    false = Tryz.pinned.checked.prog.looks [] ∧ ∀ (j : Nat) t, fn.params[j]? = some t → Tryz.pinned.checked.prog.wantsStandIn t = false := by
  obtain rfl : f = 7 := Option.some.inj ((show Tryz.prog.funcNamed Tryz.f7.name = some 7 by kernel_rfl).symm.trans hf) |>.symm
  obtain rfl : fn = Tryz.f7 := (Option.some.inj (Tryz.func7.symm.trans hfn)).symm
  refine ⟨by kernel_rfl, fun j t ht => ?_⟩
  rw [Tryz.params7] at ht
  have hm : t ∈ [29, 25, 37] := by simpa using Array.mem_of_getElem? ht
  have hall : ([29, 25, 37].all fun u => !Tryz.prog.wantsStandIn u) = true := by kernel_rfl
  exact (show Tryz.prog.wantsStandIn t = false by simpa using List.all_eq_true.1 hall t hm)
end FillsT

/-- THE CARD. -/
theorem fills_holds : Rows.SchemaFillsCardSaid :=
  Claim7.holds_tied_plain_at .later [] _ _ _ _ FillsT.said (fun _ h => by cases h) (by kernel_rfl) (fun _ h => by cases h) schemaFills_row_tie rfl ⟨rfl, rfl⟩ (by kernel_rfl) rfl FillsT.plain (by kernel_rfl)
#print axioms fills_holds
end Go.Proofs.YtobgdjjicgiefaaGreatDoor
