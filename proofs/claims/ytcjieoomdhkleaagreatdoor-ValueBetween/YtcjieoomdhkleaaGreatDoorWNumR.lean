/- The walk of the document's answer for Numbers. -/
import Derived.Test.YtcjieoomdhkleaaGreatDoorWNumB
namespace Go.Proofs.YtcjieoomdhkleaaGreatDoor
open Go.RowKit Ieee
set_option maxRecDepth 100000

set_option maxHeartbeats 1000000 in
theorem rnums_no (k n k' n' : Int) (f f' : Nat) (s s' : ByteArray) (w : World) (a b c d : Bool) (h1 : (k == 2) = a) (h2 : (k == 3) = b) (h3 : (k' == 2) = c) (h4 : (k' == 3) = d) (h : ((a || b) && (c || d)) = false) :
    Calls Tryz.prog 17 #[.agg #[.int .i64 k, .int .i64 n, .float .f64 f, .string s], .agg #[.int .i64 k', .int .i64 n', .float .f64 f', .string s']] w fun e w' => e = .returned (.tuple #[.int .i64 0, .bool false]) ∧ Below w.heap.size w w' := by
  cases a <;> cases b <;> cases c <;> cases d <;> first | (cases h; done) | clear h
  all_goals
    go_enter Tryz.func17, Tryz.ntmps17
    go_wp2
    go_ret2
    exact ⟨rfl, by go_grown⟩

set_option maxHeartbeats 1000000 in
theorem rnums_22 (n n' : Int) (f f' : Nat) (s s' : ByteArray) (w : World) :
    Calls Tryz.prog 17 #[.agg #[.int .i64 2, .int .i64 n, .float .f64 f, .string s], .agg #[.int .i64 2, .int .i64 n', .float .f64 f', .string s']] w fun e w' => e = .returned (.tuple #[.int .i64 (cmpW 2 n 2 n' f f' s s'), .bool true]) ∧ Below w.heap.size w w' := by
  go_enter Tryz.func17, Tryz.ntmps17
  go_wp2_with fail
  refine (cmpW_any _ _ _ _ _ _ _ _ _ (by decide) (by decide) (by decide) (by decide)).mono ?_
  rintro e w3 ⟨rfl, hb3⟩
  go_wp2
  go_ret2
  exact ⟨rfl, Below.trans (by go_grown) (hb3.mono (by simp; omega))⟩

set_option maxHeartbeats 1000000 in
theorem rnums_23 (n n' : Int) (f f' : Nat) (s s' : ByteArray) (w : World) :
    Calls Tryz.prog 17 #[.agg #[.int .i64 2, .int .i64 n, .float .f64 f, .string s], .agg #[.int .i64 3, .int .i64 n', .float .f64 f', .string s']] w fun e w' => e = .returned (.tuple #[.int .i64 (cif n f'), .bool true]) ∧ Below w.heap.size w w' := by
  go_enter Tryz.func17, Tryz.ntmps17
  go_wp2_with fail
  refine (mix_any _ _ _).mono ?_
  rintro e w3 ⟨rfl, rfl⟩
  go_wp2
  go_ret2
  exact ⟨rfl, by go_grown⟩

set_option maxHeartbeats 1000000 in
theorem rnums_32 (n n' : Int) (f f' : Nat) (s s' : ByteArray) (w : World) :
    Calls Tryz.prog 17 #[.agg #[.int .i64 3, .int .i64 n, .float .f64 f, .string s], .agg #[.int .i64 2, .int .i64 n', .float .f64 f', .string s']] w fun e w' => e = .returned (.tuple #[.int .i64 (-cif n' f), .bool true]) ∧ Below w.heap.size w w' := by
  have hwr := wrap_small (cif_range n' f).1 (cif_range n' f).2
  go_enter Tryz.func17, Tryz.ntmps17
  go_wp2_with fail
  refine (mix_any _ _ _).mono ?_
  rintro e w3 ⟨rfl, rfl⟩
  go_wp2
  go_ret2
  exact ⟨rfl, by go_grown⟩

set_option maxHeartbeats 1000000 in
theorem rnums_33 (n n' : Int) (f f' : Nat) (s s' : ByteArray) (w : World) :
    Calls Tryz.prog 17 #[.agg #[.int .i64 3, .int .i64 n, .float .f64 f, .string s], .agg #[.int .i64 3, .int .i64 n', .float .f64 f', .string s']] w fun e w' => e = .returned (.tuple #[.int .i64 (cmpW 3 n 3 n' f f' s s'), .bool true]) ∧ Below w.heap.size w w' := by
  go_enter Tryz.func17, Tryz.ntmps17
  go_wp2_with fail
  refine (cmpW_any _ _ _ _ _ _ _ _ _ (by decide) (by decide) (by decide) (by decide)).mono ?_
  rintro e w3 ⟨rfl, hb3⟩
  go_wp2
  go_ret2
  exact ⟨rfl, Below.trans (by go_grown) (hb3.mono (by simp; omega))⟩

theorem rnums_any (k n k' n' : Int) (f f' : Nat) (s s' : ByteArray) (w : World) (hf : f < 18446744073709551616) (hf' : f' < 18446744073709551616) :
    Calls Tryz.prog 17 #[.agg #[.int .i64 k, .int .i64 n, .float .f64 f, .string s], .agg #[.int .i64 k', .int .i64 n', .float .f64 f', .string s']] w fun e w' => e = .returned (.tuple #[.int .i64 (numV k n k' n' f f' s s'), .bool (isNum k && isNum k')]) ∧ Below w.heap.size w w' := by
  cases h : (isNum k && isNum k')
  · have hv : numV k n k' n' f f' s s' = 0 := by simp [numV, h]
    rw [hv]
    exact rnums_no k n k' n' f f' s s' w _ _ _ _ rfl rfl rfl rfl h
  · have h1 : isNum k = true := by simp only [Bool.and_eq_true] at h; exact h.1
    have h2 : isNum k' = true := by simp only [Bool.and_eq_true] at h; exact h.2
    have h3 : k = 2 ∨ k = 3 := by simpa [isNum] using h1
    have h4 : k' = 2 ∨ k' = 3 := by simpa [isNum] using h2
    have e1 : ∀ K, cmpW K n K n' f f' s s' = cmpV K n K n' f f' s s' := fun K => cmpW_eq hf hf' K n K n' s s'
    rcases h3 with rfl | rfl <;> rcases h4 with rfl | rfl
    · have hv : numV 2 n 2 n' f f' s s' = cmpW 2 n 2 n' f f' s s' := by rw [e1]; simp [numV, isNum]
      rw [hv]; exact rnums_22 n n' f f' s s' w
    · have hv : numV 2 n 3 n' f f' s s' = cif n f' := by simp [numV, isNum]
      rw [hv]; exact rnums_23 n n' f f' s s' w
    · have hv : numV 3 n 2 n' f f' s s' = -cif n' f := by simp [numV, isNum]
      rw [hv]; exact rnums_32 n n' f f' s s' w
    · have hv : numV 3 n 3 n' f f' s s' = cmpW 3 n 3 n' f f' s s' := by rw [e1]; simp [numV, isNum]
      rw [hv]; exact rnums_33 n n' f f' s s' w
end Go.Proofs.YtcjieoomdhkleaaGreatDoor
