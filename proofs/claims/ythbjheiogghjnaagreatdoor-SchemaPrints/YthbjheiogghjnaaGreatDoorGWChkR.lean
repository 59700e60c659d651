/- The walk of the document's answer for Check. -/
import Derived.Test.YthbjheiogghjnaaGreatDoorGWVal
namespace Go.Proofs.YthbjheiogghjnaaGreatDoor
open Go.RowKit Ieee
set_option maxRecDepth 100000

set_option maxHeartbeats 1000000 in
theorem rcheck_out (k n : Int) (f : Nat) (s : ByteArray) (w : World) (h : k < 0 ∨ 5 < k) :
    Calls Tryz.prog 35 #[.agg #[.int .i64 k, .int .i64 n, .float .f64 f, .string s]] w fun e w' => e = .returned (.int .i64 (chkV k n f s)) ∧ Below w.heap.size w w' := by
  have hk : kindB k = false := by unfold kindB; rcases h with h | h <;> simp <;> omega
  have hk' : chkV k n f s = 10 := by simp [chkV, hk]
  rw [hk']
  clear hk hk'
  rcases h with h | h
  · go_enter Tryz.func35, Tryz.ntmps35
    go_wp2
    go_ret
    exact ⟨rfl, by go_grown⟩
  · have h' : ¬ k < 0 := by omega
    go_enter Tryz.func35, Tryz.ntmps35
    go_wp2
    go_ret
    exact ⟨rfl, by go_grown⟩

set_option maxHeartbeats 4000000 in
theorem rcheck_0 (n : Int) (f : Nat) (s : ByteArray) (w : World) (_hs : s.size ≤ maxLen) :
    Calls Tryz.prog 35 #[.agg #[.int .i64 0, .int .i64 n, .float .f64 f, .string s]] w fun e w' => e = .returned (.int .i64 (chkV 0 n f s)) ∧ Below w.heap.size w w' := by
  have hb := run_fbits
  unfold maxLen at _hs
  go_enter Tryz.func35, Tryz.ntmps35
  go_wp2
  all_goals go_ret
  all_goals (refine ⟨?_, by go_grown⟩)
  all_goals clear hb _hs
  all_goals go_light
  all_goals simp_all [chkV, kindB, numB, floB, strB]

set_option maxHeartbeats 4000000 in
theorem rcheck_1 (n : Int) (f : Nat) (s : ByteArray) (w : World) (_hs : s.size ≤ maxLen) :
    Calls Tryz.prog 35 #[.agg #[.int .i64 1, .int .i64 n, .float .f64 f, .string s]] w fun e w' => e = .returned (.int .i64 (chkV 1 n f s)) ∧ Below w.heap.size w w' := by
  have hb := run_fbits
  unfold maxLen at _hs
  go_enter Tryz.func35, Tryz.ntmps35
  go_wp2
  all_goals go_ret
  all_goals (refine ⟨?_, by go_grown⟩)
  all_goals clear hb _hs
  all_goals go_light
  all_goals simp_all [chkV, kindB, numB, floB, strB]

set_option maxHeartbeats 4000000 in
theorem rcheck_2 (n : Int) (f : Nat) (s : ByteArray) (w : World) (_hs : s.size ≤ maxLen) :
    Calls Tryz.prog 35 #[.agg #[.int .i64 2, .int .i64 n, .float .f64 f, .string s]] w fun e w' => e = .returned (.int .i64 (chkV 2 n f s)) ∧ Below w.heap.size w w' := by
  have hb := run_fbits
  unfold maxLen at _hs
  go_enter Tryz.func35, Tryz.ntmps35
  go_wp2
  all_goals go_ret
  all_goals (refine ⟨?_, by go_grown⟩)
  all_goals clear hb _hs
  all_goals go_light
  all_goals simp_all [chkV, kindB, numB, floB, strB]

set_option maxHeartbeats 4000000 in
theorem rcheck_3 (n : Int) (f : Nat) (s : ByteArray) (w : World) (_hs : s.size ≤ maxLen) :
    Calls Tryz.prog 35 #[.agg #[.int .i64 3, .int .i64 n, .float .f64 f, .string s]] w fun e w' => e = .returned (.int .i64 (chkV 3 n f s)) ∧ Below w.heap.size w w' := by
  have hb := run_fbits
  unfold maxLen at _hs
  go_enter Tryz.func35, Tryz.ntmps35
  go_wp2
  all_goals go_ret
  all_goals (refine ⟨?_, by go_grown⟩)
  all_goals clear hb _hs
  all_goals go_light
  all_goals simp_all [chkV, kindB, numB, floB, strB]

set_option maxHeartbeats 4000000 in
theorem rcheck_4 (n : Int) (f : Nat) (s : ByteArray) (w : World) (_hs : s.size ≤ maxLen)
    (hv : ∀ w1 : World, Below w.heap.size w w1 → Calls Tryz.prog 52 #[.string s] w1 fun e w' => e = .returned (.bool (Lib.validD s.data.toList)) ∧ Below w1.heap.size w1 w') :
    Calls Tryz.prog 35 #[.agg #[.int .i64 4, .int .i64 n, .float .f64 f, .string s]] w fun e w' => e = .returned (.int .i64 (chkV 4 n f s)) ∧ Below w.heap.size w w' := by
  have hb := run_fbits
  unfold maxLen at _hs
  have HV : Hid (∀ w1 : World, Below w.heap.size w w1 → _) := hv
  clear hv
  cases hw : Lib.validD s.data.toList
  all_goals
    go_enter Tryz.func35, Tryz.ntmps35
    go_wp2_with (first | (go_at_call 52; refine (HV.out _ (by go_grown)).mono ?_; rintro e w' ⟨rfl, hb9⟩; obtain ⟨x1, x2, x3, x4⟩ := c1_keep hb9 (by simp) (c1_new w 4 n f s)))
  all_goals go_ret
  all_goals (refine ⟨?_, by first | exact Below.trans (by go_grown) (hb9.mono (by simp)) | go_grown⟩)
  all_goals clear hb _hs
  all_goals go_light
  all_goals simp_all [chkV, kindB, numB, floB, strB]

set_option maxHeartbeats 4000000 in
theorem rcheck_5 (n : Int) (f : Nat) (s : ByteArray) (w : World) (_hs : s.size ≤ maxLen) :
    Calls Tryz.prog 35 #[.agg #[.int .i64 5, .int .i64 n, .float .f64 f, .string s]] w fun e w' => e = .returned (.int .i64 (chkV 5 n f s)) ∧ Below w.heap.size w w' := by
  have hb := run_fbits
  unfold maxLen at _hs
  go_enter Tryz.func35, Tryz.ntmps35
  go_wp2
  all_goals go_ret
  all_goals (refine ⟨?_, by go_grown⟩)
  all_goals clear hb _hs
  all_goals go_light
  all_goals simp_all [chkV, kindB, numB, floB, strB]

set_option maxHeartbeats 1000000 in
theorem str_any (k n : Int) (f : Nat) (s : ByteArray) (w : World)
    (hv : ∀ w1 : World, Below w.heap.size w w1 → Calls Tryz.prog 52 #[.string s] w1 fun e w' => e = .returned (.bool (Lib.validD s.data.toList)) ∧ Below w1.heap.size w1 w') :
    Calls Tryz.prog 66 #[.agg #[.int .i64 k, .int .i64 n, .float .f64 f, .string s]] w fun e w' => e = .returned (.bool (strB k s)) ∧ Below w.heap.size w w' := by
  have HV : Hid (∀ w1 : World, Below w.heap.size w w1 → _) := hv
  clear hv
  go_enter Tryz.func66, Tryz.ntmps66
  go_wp2_with (first | (go_at_call 52; refine (HV.out _ (by go_grown)).mono ?_; rintro e w' ⟨rfl, hb9⟩))
  all_goals go_ret
  all_goals (refine ⟨?_, by first | exact Below.trans (by go_grown) (hb9.mono (by simp)) | go_grown⟩)
  all_goals simp [strB, *]

theorem rcheck_any (k n : Int) (f : Nat) (s : ByteArray) (w : World) (hs : s.size ≤ maxLen)
    (hv : ∀ w1 : World, Below w.heap.size w w1 → Calls Tryz.prog 52 #[.string s] w1 fun e w' => e = .returned (.bool (Lib.validD s.data.toList)) ∧ Below w1.heap.size w1 w') :
    Calls Tryz.prog 35 #[.agg #[.int .i64 k, .int .i64 n, .float .f64 f, .string s]] w fun e w' => e = .returned (.int .i64 (chkV k n f s)) ∧ Below w.heap.size w w' := by
  by_cases h : k < 0 ∨ 5 < k
  · exact rcheck_out k n f s w h
  · have h6 : k = 0 ∨ k = 1 ∨ k = 2 ∨ k = 3 ∨ k = 4 ∨ k = 5 := by omega
    rcases h6 with rfl | rfl | rfl | rfl | rfl | rfl
    · exact rcheck_0 n f s w hs
    · exact rcheck_1 n f s w hs
    · exact rcheck_2 n f s w hs
    · exact rcheck_3 n f s w hs
    · exact rcheck_4 n f s w hs hv
    · exact rcheck_5 n f s w hs

end Go.Proofs.YthbjheiogghjnaaGreatDoor
