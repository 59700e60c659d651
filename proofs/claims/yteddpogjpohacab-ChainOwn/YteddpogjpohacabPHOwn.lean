/- Proved: for all versions, every version and intent the statement that what is handed in stays and what is told may be spoilt; it answers true and leaves its arguments as they were; it has no condition. -/
import Derived.Test.YteddpogjpohacabRows
import Derived.Test.YteddpogjpohacabFLev8
import Derived.Test.YteddpogjpohacabLOwn8
namespace Go.Proofs.Yteddpogjpohacab
open Go.ChangeShapes Go.WideShapes Go.ChangeAt Go.RowKit Go.Joins
set_option maxRecDepth 100000
namespace Own

theorem lifted (os : Os) (started : os.Started) (H : Type) (enc : TypeId × Value → H) :
    ReturnsInHanded {} Try.checked os 5 .any (Rows.chainOwnSpec.pre6 enc Try.prog Try.f5 Rows.chainOwnRow.domain false)
      (Rows.chainOwnSpec.post enc Try.prog Try.f5 false true false false) := by
  refine returnsInHanded_of_change_sized (C := Try.checked) own started (by kernel_rfl) Try.func5
    (ChangeSpec.witness6 (enc := enc) (C := Try.checked) false ⟨#[], #[.slice none 0 0, .agg #[.int .u64 0, .bool false, .slice none 0 0], .agg #[.int .i64 0, .slice none 0 0, .int .i64 0, .int .i64 0, .bool false, .slice none 0 0]], []⟩ 8 (by kernel_rfl) (by kernel_rfl) (by kernel_rfl) (by kernel_rfl)) ?_
  intro W base args ds gs before hval0 hW _ hsz0 _
  have hval : ∀ (j : Nat) t v, Try.f5.params[j]? = some t → args[j]? = some v → Value.okWide Try.prog W .any base t v := hval0
  have hsz : (DataW.weightsEach Try.prog (Try.f5.params.toList ++ Rows.chainOwnSpec.plain.varTypes Try.prog) (ds ++ gs)).all (· ≤ reachBytes) = true := hsz0
  have hW' := hW
  obtain ⟨p, q, hA0, hV, rfl, _, _⟩ := hW
  have hA : DataW.TrodAll enc Try.prog W 0 (fun _ => true) true Try.f5.params.toList args.toList ds p := hA0
  rw [Try.params5] at hA hval hsz
  obtain ⟨v0, v1, v2, d0, d1, d2, p0, p1, p2, rfl, rfl, rfl, h0, h1, h2⟩ := trodAll_three hA
  obtain ⟨rfl, rfl⟩ := trodVars_none hV
  simp only [List.append_nil] at hW'
  have hk0 := h0
  obtain ⟨L0, q0, c0, rfl, hR0, hs0, hlen0, hq0⟩ := openVers (hval 0 22 v0 rfl rfl) h0 (Reach.of_each hsz (j := 0) (t := 22) rfl rfl)
  have hk1 := h1
  obtain ⟨n1, g1, row1, q1, c1, rfl, hV1, hl1⟩ := openVer1 (hval 1 31 v1 rfl rfl) h1 (Reach.of_each hsz (j := 1) (t := 31) rfl rfl)
  have hk2 := h2
  obtain ⟨tx2, L2, q2, c2, lv2, n2, g2, row2, qr2, cr2, rfl, hR2, hs2, hlen2, hq2, hlv2, htx2, hlw2, hV2, hl2, hn2⟩ := openLevels (hval 2 50 v2 rfl rfl) h2 (Reach.of_each hsz (j := 2) (t := 50) rfl rfl)
  refine (lawOwn L0 q0 c0 n1 g1 row1 q1 c1 tx2 L2 q2 c2 lv2 n2 g2 row2 qr2 cr2 W hR0 hs0 hlen0 hV1 hl1 hR2 hs2 hlen2 hlw2.2 hV2 hl2).mono fun e W' ⟨he, hb⟩ => ?_
  subst he
  exact ⟨_, rfl, _, _, _, [], p0 ++ (p1 ++ p2), [], hW', trodAll_mk1 (shut_bool Try.underlying4 _), trodAll_mk3 (Below.trod laidOut (by kernel_rfl) (of_decide_eq_true (by kernel_rfl)) hk0 hb (fun x hx => by simpa using hW'.lt x (by simp [hx]))) (Below.trod laidOut (by kernel_rfl) (of_decide_eq_true (by kernel_rfl)) hk1 hb (fun x hx => by simpa using hW'.lt x (by simp [hx]))) (Below.trod laidOut (by kernel_rfl) (of_decide_eq_true (by kernel_rfl)) hk2 hb (fun x hx => by simpa using hW'.lt x (by simp [hx]))), rfl, hb.frame _, fun h => by cases h⟩
end Own

/-- THE STATEMENT. -/
theorem chainOwn_holds : Rows.ChainOwnSaid :=
  OpenClaim.holds_of_wide 5 Try.f5 rfl rfl rfl rfl rfl rfl rfl ⟨rfl, rfl, rfl, rfl, rfl⟩ rfl rfl rfl rfl rfl (by kernel_rfl) Try.func5 (by kernel_rfl)
    (of_decide_eq_true (by kernel_rfl)) (by unfold Func.isWrapper; first | (rw [if_pos (by decide +kernel)]; kernel_rfl) | (rw [if_neg (by decide +kernel)]; exact ⟨rfl, rfl⟩))
    (fun os started H enc _ => Own.lifted os started H enc)
#print axioms chainOwn_holds
end Go.Proofs.Yteddpogjpohacab
