/- Proved: for all feet the statement on what normal feet read, on Norm of Norm and on Merge in any grouping (promise Se4); it answers true and leaves its arguments as they were; it has no condition. -/
import Derived.Test.YtjeidpgkgjljcaaRows
import Derived.Test.YtjeidpgkgjljcaaFSj
import Derived.Test.YtjeidpgkgjljcaaLSets5
namespace Go.Proofs.Ytjeidpgkgjljcaa
open Go.ChangeShapes Go.WideShapes Go.ChangeAt Go.RowKit Go.Joins
set_option maxRecDepth 100000
namespace Say

theorem lifted (os : Os) (started : os.Started) (H : Type) (enc : TypeId × Value → H) :
    ReturnsInHanded {} Try.checked os 4 .any (Rows.setsSaySpec.pre6 enc Try.prog Try.f4 Rows.setsSayRow.domain false)
      (Rows.setsSaySpec.post enc Try.prog Try.f4 false true false false) := by
  refine returnsInHanded_of_change_sized (C := Try.checked) own started (by kernel_rfl) Try.func4
    (ChangeSpec.witness6 (enc := enc) (C := Try.checked) false ⟨#[], #[.agg #[.slice none 0 0, .slice none 0 0, .slice none 0 0], .agg #[.slice none 0 0, .slice none 0 0, .slice none 0 0], .agg #[.slice none 0 0, .slice none 0 0, .slice none 0 0]], []⟩ 8 (by kernel_rfl) (by kernel_rfl) (by kernel_rfl) (by kernel_rfl)) ?_
  intro W base args ds gs before hval0 hW _ hsz0 _
  have hval : ∀ (j : Nat) t v, Try.f4.params[j]? = some t → args[j]? = some v → Value.okWide Try.prog W .any base t v := hval0
  have hsz : (DataW.weightsEach Try.prog (Try.f4.params.toList ++ Rows.setsSaySpec.plain.varTypes Try.prog) (ds ++ gs)).all (· ≤ reachBytes) = true := hsz0
  have hW' := hW
  obtain ⟨p, q, hA0, hV, rfl, _, _⟩ := hW
  have hA : DataW.TrodAll enc Try.prog W 0 (fun _ => true) true Try.f4.params.toList args.toList ds p := hA0
  rw [Try.params4] at hA hval hsz
  obtain ⟨v0, v1, v2, d0, d1, d2, p0, p1, p2, rfl, rfl, rfl, h0, h1, h2⟩ := trodAll_three hA
  obtain ⟨rfl, rfl⟩ := trodVars_none hV
  simp only [List.append_nil] at hW'
  have hk0 := h0
  obtain ⟨a, va0, va1, va2, rfl, ha⟩ := openFoot (hval 0 25 v0 rfl rfl) h0 (Reach.of_each hsz (j := 0) (t := 25) rfl rfl)
  have hk1 := h1
  obtain ⟨b, vb0, vb1, vb2, rfl, hb⟩ := openFoot (hval 1 25 v1 rfl rfl) h1 (Reach.of_each hsz (j := 1) (t := 25) rfl rfl)
  have hk2 := h2
  obtain ⟨c, vc0, vc1, vc2, rfl, hc⟩ := openFoot (hval 2 25 v2 rfl rfl) h2 (Reach.of_each hsz (j := 2) (t := 25) rfl rfl)
  refine (lawSay a b c va0 va1 va2 vb0 vb1 vb2 vc0 vc1 vc2 W ha hb hc).mono fun e W' ⟨he, hb⟩ => ?_
  subst he
  exact ⟨_, rfl, _, _, _, [], p0 ++ (p1 ++ p2), [], hW', trodAll_mk1 (shut_bool Try.underlying4 _), trodAll_mk3 (Below.trod laidOut (by kernel_rfl) (of_decide_eq_true (by kernel_rfl)) hk0 hb (fun x hx => by simpa using hW'.lt x (by simp [hx]))) (Below.trod laidOut (by kernel_rfl) (of_decide_eq_true (by kernel_rfl)) hk1 hb (fun x hx => by simpa using hW'.lt x (by simp [hx]))) (Below.trod laidOut (by kernel_rfl) (of_decide_eq_true (by kernel_rfl)) hk2 hb (fun x hx => by simpa using hW'.lt x (by simp [hx]))), rfl, hb.frame _, fun h => by cases h⟩
end Say

/-- THE STATEMENT. -/
theorem setsSay_holds : Rows.SetsSaySaid :=
  OpenClaim.holds_of_wide 4 Try.f4 rfl rfl rfl rfl rfl rfl rfl ⟨rfl, rfl, rfl, rfl, rfl⟩ rfl rfl rfl rfl rfl (by kernel_rfl) Try.func4 (by kernel_rfl)
    (of_decide_eq_true (by kernel_rfl)) (by unfold Func.isWrapper; first | (rw [if_pos (by decide +kernel)]; kernel_rfl) | (rw [if_neg (by decide +kernel)]; exact ⟨rfl, rfl⟩))
    (fun os started H enc _ => Say.lifted os started H enc)
#print axioms setsSay_holds
end Go.Proofs.Ytjeidpgkgjljcaa
