/- The walk of the statement on Check: it answers true. -/
import Derived.Test.YtcjieoomdhkleaaGreatDoorWAwake2
import Derived.Test.YtcjieoomdhkleaaGreatDoorWChkR
import Derived.Test.YtcjieoomdhkleaaGreatDoorWValid
namespace Go.Proofs.YtcjieoomdhkleaaGreatDoor
open Go.RowKit
set_option maxRecDepth 100000

theorem tabs_keep {w w' : World} (hb : Below w.heap.size w w') (hg : 4 < w.heap.size) (h : Lib.Utf8Tabs 1 2 w) : Lib.Utf8Tabs 1 2 w' :=
  ⟨fun c hc => old_cell hb (by omega) (h.1 c hc), fun i hi => ⟨old_cell hb (by omega) (h.2 i hi).1, old_cell hb (by omega) (h.2 i hi).2⟩⟩

set_option maxHeartbeats 1000000 in
theorem str_any (k n : Int) (f : Nat) (s : ByteArray) (w : World)
    (hv : ∀ w1 : World, Below w.heap.size w w1 → Calls Tryz.prog 25 #[.string s] w1 fun e w' => e = .returned (.bool (Lib.validD s.data.toList)) ∧ Below w1.heap.size w1 w') :
    Calls Tryz.prog 23 #[.agg #[.int .i64 k, .int .i64 n, .float .f64 f, .string s]] w fun e w' => e = .returned (.bool (strB k s)) ∧ Below w.heap.size w w' := by
  have HV : Hid (∀ w1 : World, Below w.heap.size w w1 → _) := hv
  clear hv
  go_enter Tryz.func23, Tryz.ntmps23
  go_wp2_with (first | (go_at_call 25; refine (HV.out _ (by go_grown)).mono ?_; rintro e w' ⟨rfl, hb9⟩))
  all_goals go_ret
  all_goals (refine ⟨?_, by first | exact Below.trans (by go_grown) (hb9.mono (by simp)) | go_grown⟩)
  all_goals simp [strB, *]

theorem rcheck_any (k n : Int) (f : Nat) (s : ByteArray) (w : World) (hs : s.size ≤ maxLen)
    (hv : ∀ w1 : World, Below w.heap.size w w1 → Calls Tryz.prog 25 #[.string s] w1 fun e w' => e = .returned (.bool (Lib.validD s.data.toList)) ∧ Below w1.heap.size w1 w') :
    Calls Tryz.prog 10 #[.agg #[.int .i64 k, .int .i64 n, .float .f64 f, .string s]] w fun e w' => e = .returned (.int .i64 (chkV k n f s)) ∧ Below w.heap.size w w' := by
  by_cases h : k < 0 ∨ 5 < k
  · exact rcheck_out k n f s w h
  · have h6 : k = 0 ∨ k = 1 ∨ k = 2 ∨ k = 3 ∨ k = 4 ∨ k = 5 := by omega
    rcases h6 with rfl | rfl | rfl | rfl | rfl | rfl
    · exact rcheck_0 n f s w hs
    · exact rcheck_1 n f s w hs
    · exact rcheck_2 n f s w hs
    · exact rcheck_3 n f s w hs
    · exact rcheck_4 n f s w hs hv
    · exact rcheck_5 n f s w hs

/-- what is held while a law over one value is walked -/
abbrev S1 (w : World) (k n : Int) (f : Nat) (s : ByteArray) (w' : World) : Prop :=
  w'.cell? ⟨w.heap.size, 0, none⟩ = some (.int .i64 k) ∧ w'.cell? ⟨w.heap.size, 1, none⟩ = some (.int .i64 n) ∧ w'.cell? ⟨w.heap.size, 2, none⟩ = some (.float .f64 f) ∧ w'.cell? ⟨w.heap.size, 3, none⟩ = some (.string s) ∧
  w'.cell? ⟨4, 0, none⟩ = some (.int .u64 1) ∧ 4 < w.heap.size ∧ w.heap.size + 1 ≤ w'.heap.size ∧ Below w.heap.size w w'

theorem keepS1 {w : World} {k n : Int} {f : Nat} {s : ByteArray} {B : Nat} {wp w' : World} (hb : Below B wp w') (h : S1 w k n f s wp) (hB : B = wp.heap.size ∨ w.heap.size + 1 ≤ B) : S1 w k n f s w' := by
  obtain ⟨h1, h2, h3, h4, h9, hg, hz, hw⟩ := h
  have := hb.size
  have hk : w.heap.size + 1 ≤ B := by omega
  have o : ∀ {b o : Nat} {v : Option Value}, b < w.heap.size + 1 → wp.cell? ⟨b, o, none⟩ = v → w'.cell? ⟨b, o, none⟩ = v := fun {b o v} hb' hc => (hb.cell (p := ⟨b, o, none⟩) (by show b < B; omega)).trans hc
  exact ⟨o (by omega) h1, o (by omega) h2, o (by omega) h3, o (by omega) h4, o (by omega) h9, hg, by omega, hw.trans (hb.mono (by omega))⟩
theorem startS1 (w : World) (k n : Int) (f : Nat) (s : ByteArray) (hg : 4 < w.heap.size) (hc : w.cell? ⟨4, 0, none⟩ = some (.int .u64 1)) :
    S1 w k n f s (w.alloc (.cells #[.int .i64 k, .int .i64 n, .float .f64 f, .string s] 24)).drew := by
  refine ⟨?_, ?_, ?_, ?_, old_cell (by go_grown) hg hc, hg, by simp, by go_grown⟩
  all_goals simp [go_sem]
theorem endS1 {w : World} {k n : Int} {f : Nat} {s : ByteArray} {wp : World} (h : S1 w k n f s wp) : Below w.heap.size w wp := h.2.2.2.2.2.2.2
theorem awakeS1 (w : World) (k n : Int) (f : Nat) (s : ByteArray) (wp : World) (h : S1 w k n f s wp) :
    Calls Tryz.prog 11 #[] wp fun e w' => e = .returned (.bool true) ∧ Below wp.heap.size wp w' := by
  obtain ⟨h1, h2, h3, h4, h9, hg, hz, hw⟩ := h
  exact awake_any wp (by omega) h9

set_option maxHeartbeats 4000000 in
theorem lawChecks (k n : Int) (f : Nat) (s : ByteArray) (w : World) (hg : 4 < w.heap.size) (hc : w.cell? ⟨4, 0, none⟩ = some (.int .u64 1)) (hT : Lib.Utf8Tabs 1 2 w) (hs : s.size ≤ maxLen) :
    Calls Tryz.prog 3 #[.agg #[.int .i64 k, .int .i64 n, .float .f64 f, .string s]] w fun e w' => e = .returned (.bool true) ∧ Below w.heap.size w w' := by
  have hv : ∀ w1 : World, Below w.heap.size w w1 → Calls Tryz.prog 25 #[.string s] w1 fun e w' => e = .returned (.bool (Lib.validD s.data.toList)) ∧ Below w1.heap.size w1 w' :=
    fun w1 hb => valid_any s w1 (by unfold maxLen at hs; omega) (tabs_keep hb hg hT)
  have c9 : Hid (∀ w1 : World, Below w.heap.size w w1 → Calls Tryz.prog 9 #[.agg #[.int .i64 k, .int .i64 n, .float .f64 f, .string s]] w1 fun e w' => e = .returned (.int .i64 (chkV k n f s)) ∧ Below w1.heap.size w1 w') := fun w1 hb =>
    check_any k n f s w1 hs fun w2 h2 => str_any k n f s w2 fun w3 h3 => hv w3 ((hb.trans (h2.mono hb.size)).trans (h3.mono (Nat.le_trans hb.size h2.size)))
  have c10 : Hid (∀ w1 : World, Below w.heap.size w w1 → Calls Tryz.prog 10 #[.agg #[.int .i64 k, .int .i64 n, .float .f64 f, .string s]] w1 fun e w' => e = .returned (.int .i64 (chkV k n f s)) ∧ Below w1.heap.size w1 w') := fun w1 hb =>
    rcheck_any k n f s w1 hs fun w2 h2 => hv w2 (hb.trans (h2.mono hb.size))
  clear hv hT hs
  go_enter Tryz.func3, Tryz.ntmps3
  go_wp2_with fail
  go_region_held3 (fun w' => S1 w k n f s w') (first | exact startS1 w k n f s hg hc | (apply keepS1; assumption; assumption; first | exact Or.inl rfl | exact Or.inr (Nat.le_refl _) | exact Or.inr (by simp))) (first | (go_at_call 9; refine (c9.out _ (endS1 (by assumption))).mono ?_; rintro e w' ⟨rfl, hb⟩) | (go_at_call 10; refine (c10.out _ (endS1 (by assumption))).mono ?_; rintro e w' ⟨rfl, hb⟩) | (go_at_call 11; refine (awakeS1 w k n f s _ ?_).mono ?_; assumption; rintro e w' ⟨rfl, hb⟩))
  go_wp2
  go_ret
  exact ⟨rfl, endS1 (by assumption)⟩
end Go.Proofs.YtcjieoomdhkleaaGreatDoor
