/- Proved: for all commits, attempts and stamps the statement that a Log that New did not give keeps and tells nothing, and refuses Note and Try (the end of the chapter's promises); it answers true and leaves its arguments as they were; it has no condition. -/
import Derived.Test.YtcknhjabdjbjiabGreatRows
import Derived.Test.YtcknhjabdjbjiabGreatGFSets
import Derived.Test.YtcknhjabdjbjiabGreatGLVnob
namespace Go.Proofs.YtcknhjabdjbjiabGreat
open Go.ChangeShapes Go.WideShapes Go.ChangeAt Go.RowKit Go.Joins
set_option maxRecDepth 100000
namespace Nobody

theorem lifted (os : Os) (started : os.Started) (H : Type) (enc : TypeId × Value → H) :
    ReturnsInHanded {} Tryz.checked os 4 .any (Rows.validNobodySpec.pre6 enc Tryz.prog Tryz.f4 Rows.validNobodyRow.domain false)
      (Rows.validNobodySpec.post enc Tryz.prog Tryz.f4 false true false false) := by
  refine returnsInHanded_of_change_sized (C := Tryz.checked) own started (by kernel_rfl) Tryz.func4
    (ChangeSpec.witness6 (enc := enc) (C := Tryz.checked) false ⟨#[], #[.agg #[.int .u64 0, .slice none 0 0, .slice none 0 0, .slice none 0 0], .agg #[.int .u64 0, .slice none 0 0, .slice none 0 0, .slice none 0 0, .int .i64 0], .int .u64 0], []⟩ 8 (by kernel_rfl) (by kernel_rfl) (by kernel_rfl) (by kernel_rfl)) ?_
  intro W base args ds gs before hval0 hW _ hsz0 _
  have hval : ∀ (j : Nat) t v, Tryz.f4.params[j]? = some t → args[j]? = some v → Value.okWide Tryz.prog W .any base t v := hval0
  have hsz : (DataW.weightsEach Tryz.prog (Tryz.f4.params.toList ++ Rows.validNobodySpec.plain.varTypes Tryz.prog) (ds ++ gs)).all (· ≤ reachBytes) = true := hsz0
  have hW' := hW
  obtain ⟨p, q, hA0, hV, rfl, _, _⟩ := hW
  have hA : DataW.TrodAll enc Tryz.prog W 0 (fun _ => true) true Tryz.f4.params.toList args.toList ds p := hA0
  rw [Tryz.params4] at hA hval hsz
  obtain ⟨v0, v1, v2, d0, d1, d2, p0, p1, p2, rfl, rfl, rfl, h0, h1, h2⟩ := trodAll_three hA
  obtain ⟨rfl, rfl⟩ := trodVars_none hV
  simp only [List.append_nil] at hW'
  have hk0 := h0
  obtain ⟨cs, b, vb0, vb1, vb2, rfl, hcs, hb0⟩ := openCommit (hval 0 45 v0 rfl rfl) h0 (Reach.of_each hsz (j := 0) (t := 45) rfl rfl)
  have hk1 := h1
  obtain ⟨fr, a, lv, va0, va1, va2, rfl, hfr, ha0⟩ := openAttempt (hval 1 29 v1 rfl rfl) h1 (Reach.of_each hsz (j := 1) (t := 29) rfl rfl)
  have hk2 := h2
  obtain ⟨fl, rfl, hfl⟩ := okU64 (hval 2 23 v2 rfl rfl) h2
  obtain ⟨q0, d0', rfl, -⟩ := hb0.p.f
  obtain ⟨q1, d1', rfl, -⟩ := hb0.s.f
  obtain ⟨q2, d2', rfl, -⟩ := hb0.w.f
  obtain ⟨r0, e0', rfl, -⟩ := ha0.p.f
  obtain ⟨r1, e1', rfl, -⟩ := ha0.s.f
  obtain ⟨r2, e2', rfl, -⟩ := ha0.w.f
  refine (lawVNobody _ _ _ _ _ _ _ _ _ _ _ _ _ _ _ _ _ _ cs fr fl lv W).mono fun e W' ⟨he, hb⟩ => ?_
  subst he
  exact ⟨_, rfl, _, _, _, [], p0 ++ (p1 ++ p2), [], hW', trodAll_mk1 (shut_bool Tryz.underlying4 _), trodAll_mk3 (Below.trod laidOut (by kernel_rfl) (of_decide_eq_true (by kernel_rfl)) hk0 hb (fun x hx => by simpa using hW'.lt x (by simp [hx]))) (Below.trod laidOut (by kernel_rfl) (of_decide_eq_true (by kernel_rfl)) hk1 hb (fun x hx => by simpa using hW'.lt x (by simp [hx]))) (Below.trod laidOut (by kernel_rfl) (of_decide_eq_true (by kernel_rfl)) hk2 hb (fun x hx => by simpa using hW'.lt x (by simp [hx]))), rfl, hb.frame _, fun h => by cases h⟩
end Nobody

/-- THE STATEMENT. -/
theorem validNobody_holds : Rows.ValidNobodySaid :=
  OpenClaim.holds_of_wide 4 Tryz.f4 rfl rfl rfl rfl rfl rfl rfl ⟨rfl, rfl, rfl, rfl, rfl⟩ rfl rfl rfl rfl rfl (by kernel_rfl) Tryz.func4 (by kernel_rfl)
    (of_decide_eq_true (by kernel_rfl)) (by unfold Func.isWrapper; first | (rw [if_pos (by decide +kernel)]; kernel_rfl) | (rw [if_neg (by decide +kernel)]; exact ⟨rfl, rfl⟩))
    (fun os started H enc _ => Nobody.lifted os started H enc)
#print axioms validNobody_holds

end Go.Proofs.YtcknhjabdjbjiabGreat
