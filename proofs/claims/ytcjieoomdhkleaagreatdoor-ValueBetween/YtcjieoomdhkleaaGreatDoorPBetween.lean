/- Proved: for every two ints the statement that an int, the float next to it and another int stand as numbers (promise Va2) answers true; its condition: the variables of the library that it lists stand as the library's text lays them. -/
import Derived.Test.YtcjieoomdhkleaaGreatDoorCards
import Derived.Test.YtcjieoomdhkleaaGreatDoorTie
import Derived.Test.YtcjieoomdhkleaaGreatDoorFrame
import Derived.Test.YtcjieoomdhkleaaGreatDoorLBetween
namespace Go.Proofs.YtcjieoomdhkleaaGreatDoor
open Go.ChangeShapes Go.WideShapes Go.ChangeAt Go.RowKit Go.Joins
set_option maxRecDepth 100000
namespace Between

abbrev laid15 : List (String × DataW Unit) := Rows.valueBetweenRow.laid
theorem shaped15 (os : Os) (args : Array Value) : ((World.laidAll Tryz.prog os laid15).forCall (fun _ _ => 0) ⟨#[], args, []⟩).Shaped Tryz.prog :=
  World.shaped_of_ZipB (by kernel_rfl) (by kernel_rfl)
theorem met15 (os : Os) (args : Array Value) : laidMetH Tryz.prog laid15 ((World.laidAll Tryz.prog os laid15).forCall (fun _ _ => 0) ⟨#[], args, []⟩).memory := by
  rw [MakeChecks.laidMetH_plain _ _ _ (by kernel_rfl)]
  exact laidMet_laidAll _ (by kernel_rfl) (by kernel_rfl)

theorem pow10_cell {W : World} (h : laidMetH Tryz.prog laid15 W) : 4 < W.heap.size ∧ W.cell? ⟨4, 0, none⟩ = some (.int .u64 1) := by
  rw [MakeChecks.laidMetH_plain _ _ _ (by kernel_rfl)] at h
  have h1 := laidMet.tail (laidMet.tail (laidMet.tail (laidMet.tail (laidMet.tail (laidMet.tail (laidMet.tail (laidMet.tail h)))))))
  have hT := Lib.tabIs_of_head (zs := [1, 10, 100, 1000, 10000, 100000, 1000000, 10000000, 100000000, 1000000000, 10000000000, 100000000000, 1000000000000, 10000000000000, 100000000000000, 1000000000000000, 10000000000000000, 100000000000000000, 1000000000000000000, 10000000000000000000])
    (g := 4) (t := 96) (e := 39) (n := 20) (by kernel_rfl) (by kernel_rfl) Tryz.underlying96 Tryz.underlying39 (by kernel_rfl) (by kernel_rfl) h1
  have hc := hT.cell (g := 4) (by kernel_rfl) 0 (by decide)
  refine ⟨?_, hc⟩
  apply Classical.byContradiction
  intro hn
  have : W.heap[4]? = none := Array.getElem?_eq_none (by omega)
  simp [World.cell?, this] at hc

theorem lifted (os : Os) (started : os.Started) (H : Type) (enc : TypeId × Value → H) :
    ReturnsInHanded {} Tryz.checked os 8 .any (fun w args => (Rows.valueBetweenSpec.pre enc Tryz.prog Tryz.f8 Rows.valueBetweenRow.domain false w args ∧ laidMetH Tryz.prog laid15 w) ∧ sizedMet enc Tryz.prog Tryz.f8 (OpenSpec.ofChange Rows.valueBetweenSpec) false w args)
      (Rows.valueBetweenSpec.post enc Tryz.prog Tryz.f8 false true false false) := by
  refine returnsInHanded_of_change_and (C := Tryz.checked) (X := fun w _ => laidMetH Tryz.prog laid15 w) (fun _ _ _ hh h => h.of_heap hh) own started (by kernel_rfl) Tryz.func8
    (ChangeSpec.witness_shaped (enc := enc) (C := Tryz.checked) (os := os) (X := fun w _ => laidMetH Tryz.prog laid15 w) false (World.laidAll Tryz.prog os laid15) #[.int .i64 0, .int .i64 0] 8 (World.laidAll_os _ _ _)
      (shaped15 os _) (by kernel_rfl) (by kernel_rfl) (by kernel_rfl) (met15 os _)) ?_
  intro W base args ds gs before hval0 hW _ _ hL _
  have hval : ∀ (j : Nat) t v, Tryz.f8.params[j]? = some t → args[j]? = some v → Value.okWide Tryz.prog W .any base t v := hval0
  have hW' := hW
  obtain ⟨p, q, hA0, hV, rfl, _, _⟩ := hW
  have hA : DataW.TrodAll enc Tryz.prog W 0 (fun _ => true) true Tryz.f8.params.toList args.toList ds p := hA0
  rw [Tryz.params8] at hA hval
  obtain ⟨v0, v1, d0, d1, p0, p1, rfl, rfl, rfl, h0, h1⟩ := trodAll_two hA
  obtain ⟨rfl, rfl⟩ := trodVars_none hV
  obtain ⟨n, rfl, rfl, rfl, wn⟩ := open_int Tryz.underlying2 (hval 0 2 v0 rfl rfl) h0
  obtain ⟨m, rfl, rfl, rfl, wm⟩ := open_int Tryz.underlying2 (hval 1 2 v1 rfl rfl) h1
  simp only [List.append_nil] at hW'
  obtain ⟨hg, hc⟩ := pow10_cell hL
  refine (lawBetween n m W hg hc).mono fun e W' ⟨he, hb⟩ => ?_
  subst he
  exact ⟨_, rfl, _, _, _, [], [], [], hW', trodAll_mk1 (shut_bool Tryz.underlying4 _), trodAll_mk2 (shut_int Tryz.underlying2 wn) (shut_int Tryz.underlying2 wm), rfl, hb.frame _, fun h => by cases h⟩

theorem said : Rows.ValueBetweenSaid :=
  OpenClaim.holds_of_wide 8 Tryz.f8 rfl rfl rfl rfl rfl rfl rfl ⟨rfl, rfl, rfl, rfl, rfl⟩ rfl rfl rfl rfl rfl (by kernel_rfl) Tryz.func8 (by kernel_rfl)
    (of_decide_eq_true (by kernel_rfl)) (by unfold Func.isWrapper; first | (rw [if_pos (by decide +kernel)]; kernel_rfl) | (rw [if_neg (by decide +kernel)]; exact ⟨rfl, rfl⟩))
    (fun os started H enc _ => lifted os started H enc)

theorem plain (f : FuncId) (fn : Func) (hf : Tryz.pinned.checked.prog.funcNamed Tryz.f8.name = some f) (hfn : Tryz.pinned.checked.prog.funcs[f]? = some fn) :
    true = Tryz.pinned.checked.prog.looks [] ∧ ∀ (j : Nat) t, fn.params[j]? = some t → Tryz.pinned.checked.prog.wantsStandIn t = false := by
  obtain rfl : f = 8 := Option.some.inj ((show Tryz.prog.funcNamed Tryz.f8.name = some 8 by kernel_rfl).symm.trans hf) |>.symm
  obtain rfl : fn = Tryz.f8 := (Option.some.inj (Tryz.func8.symm.trans hfn)).symm
  refine ⟨by kernel_rfl, fun j t ht => ?_⟩
  rw [Tryz.params8] at ht
  have hm : t ∈ [2, 2] := by simpa using Array.mem_of_getElem? ht
  have hall : ([2, 2].all fun u => !Tryz.prog.wantsStandIn u) = true := by kernel_rfl
  exact (show Tryz.prog.wantsStandIn t = false by simpa using List.all_eq_true.1 hall t hm)
end Between

/-- THE CARD. -/
theorem between_holds : Rows.ValueBetweenCardSaid :=
  Claim7.holds_tied_plain_at .later [] _ _ _ _ Between.said (fun _ h => by cases h) (by kernel_rfl) (fun _ h => by cases h) valueBetween_row_tie rfl ⟨rfl, rfl⟩ (by kernel_rfl) rfl Between.plain (by kernel_rfl)
#print axioms between_holds
end Go.Proofs.YtcjieoomdhkleaaGreatDoor
