/- The walk of the statement on Numbers: it answers true. -/
import Derived.Test.YtcjieoomdhkleaaGreatDoorWNumR
namespace Go.Proofs.YtcjieoomdhkleaaGreatDoor
open Go.RowKit Ieee
set_option maxRecDepth 100000

theorem start2 (w : World) (k n k' n' : Int) (f f' : Nat) (s s' : ByteArray) (hg : 4 < w.heap.size) (hc : w.cell? ⟨4, 0, none⟩ = some (.int .u64 1)) :
    S2 w k n k' n' f f' s s' ((w.alloc (.cells #[.int .i64 k, .int .i64 n, .float .f64 f, .string s] 24)).alloc (.cells #[.int .i64 k', .int .i64 n', .float .f64 f', .string s'] 24)) := by
  refine ⟨?_, ?_, ?_, ?_, ?_, ?_, ?_, ?_, old_cell (by go_grown) hg hc, hg, by simp, by go_grown⟩
  all_goals simp [go_sem]
theorem cells2 {w : World} {k n k' n' : Int} {f f' : Nat} {s s' : ByteArray} {w' : World} (h : S2 w k n k' n' f f' s s' w') :
  w'.cell? ⟨w.heap.size, 0, none⟩ = some (.int .i64 k) ∧ w'.cell? ⟨w.heap.size, 1, none⟩ = some (.int .i64 n) ∧ w'.cell? ⟨w.heap.size, 2, none⟩ = some (.float .f64 f) ∧ w'.cell? ⟨w.heap.size, 3, none⟩ = some (.string s) ∧
  w'.cell? ⟨w.heap.size + 1, 0, none⟩ = some (.int .i64 k') ∧ w'.cell? ⟨w.heap.size + 1, 1, none⟩ = some (.int .i64 n') ∧ w'.cell? ⟨w.heap.size + 1, 2, none⟩ = some (.float .f64 f') ∧ w'.cell? ⟨w.heap.size + 1, 3, none⟩ = some (.string s') := by
  obtain ⟨h1, h2, h3, h4, h5, h6, h7, h8, _⟩ := h
  exact ⟨h1, h2, h3, h4, h5, h6, h7, h8⟩

theorem numV_swap {f f' : Nat} (hf : f < 18446744073709551616) (hf' : f' < 18446744073709551616) (k n k' n' : Int) (s s' : ByteArray) : numV k' n' k n f' f s' s = -numV k n k' n' f f' s s' := by
  unfold numV
  rw [Bool.and_comm (isNum k') (isNum k)]
  cases h : (isNum k && isNum k')
  · simp
  · simp only [if_true]
    have h1 : isNum k = true := by simp only [Bool.and_eq_true] at h; exact h.1
    have h2 : isNum k' = true := by simp only [Bool.and_eq_true] at h; exact h.2
    have h3 : k = 2 ∨ k = 3 := by simpa [isNum] using h1
    have h4 : k' = 2 ∨ k' = 3 := by simpa [isNum] using h2
    have sw := fun K => cmpV_swap hf hf' K n K n' s s'
    rcases h3 with rfl | rfl <;> rcases h4 with rfl | rfl <;> simp [sw]

theorem numV_range {f f' : Nat} (hf : f < 18446744073709551616) (hf' : f' < 18446744073709551616) (k n k' n' : Int) (s s' : ByteArray) : -1 ≤ numV k n k' n' f f' s s' ∧ numV k n k' n' f f' s s' ≤ 1 := by
  unfold numV
  split
  · split
    · rcases cmpV_range hf hf' k n k' n' s s' with h | h | h <;> rw [h] <;> omega
    · split
      · exact cif_range _ _
      · have := cif_range n' f; omega
  · omega

set_option maxHeartbeats 2000000 in
theorem lawNum_no (k n k' n' M : Int) (f f' : Nat) (s s' : ByteArray) (w : World) (hg : 4 < w.heap.size) (hc : w.cell? ⟨4, 0, none⟩ = some (.int .u64 1)) (b : Bool)
    (c1 : Hid (∀ w : World, Calls Tryz.prog 16 #[.agg #[.int .i64 k, .int .i64 n, .float .f64 f, .string s], .agg #[.int .i64 k', .int .i64 n', .float .f64 f', .string s']] w fun e w' => e = .returned (.tuple #[.int .i64 M, .bool b]) ∧ Below w.heap.size w w'))
    (c2 : Hid (∀ w : World, Calls Tryz.prog 17 #[.agg #[.int .i64 k, .int .i64 n, .float .f64 f, .string s], .agg #[.int .i64 k', .int .i64 n', .float .f64 f', .string s']] w fun e w' => e = .returned (.tuple #[.int .i64 M, .bool b]) ∧ Below w.heap.size w w'))
    (c3 : Hid (∀ w : World, Calls Tryz.prog 16 #[.agg #[.int .i64 k', .int .i64 n', .float .f64 f', .string s'], .agg #[.int .i64 k, .int .i64 n, .float .f64 f, .string s]] w fun e w' => e = .returned (.tuple #[.int .i64 (-M), .bool b]) ∧ Below w.heap.size w w'))
    (hwr : IntKind.i64.wrap (-M) = -M) (hb : b = false) :
    Calls Tryz.prog 7 #[.agg #[.int .i64 k, .int .i64 n, .float .f64 f, .string s], .agg #[.int .i64 k', .int .i64 n', .float .f64 f', .string s']] w fun e w' => e = .returned (.bool true) ∧ Below w.heap.size w w' := by
  subst hb
  have hs0 := start2 w k n k' n' f f' s s' hg hc
  clear hg hc
  go_enter Tryz.func7, Tryz.ntmps7
  go_wp2_with fail
  refine (c1.out _).mono ?_
  rintro e w1 ⟨rfl, hb1⟩
  have hs1 := keepS2 hb1 hs0 (.inl rfl)
  clear hb1 hs0
  obtain ⟨a1, a2, a3, a4, b1, b2, b3, b4⟩ := cells2 hs1
  go_wp2_with fail
  refine (c2.out _).mono ?_
  rintro e w2 ⟨rfl, hb2⟩
  have hs2 := keepS2 hb2 hs1 (.inl rfl)
  clear hb2 hs1 a1 a2 a3 a4 b1 b2 b3 b4
  obtain ⟨a1, a2, a3, a4, b1, b2, b3, b4⟩ := cells2 hs2
  go_wp2_with fail
  refine (c3.out _).mono ?_
  rintro e w3 ⟨rfl, hb3⟩
  have hs3 := keepS2 hb3 hs2 (.inl rfl)
  clear hb3 hs2 a1 a2 a3 a4 b1 b2 b3 b4
  obtain ⟨a1, a2, a3, a4, b1, b2, b3, b4⟩ := cells2 hs3
  go_wp2_with fail
  refine (awakeS2 w k n k' n' f f' s s' _ (by assumption)).mono ?_
  rintro e w8 ⟨rfl, hb8⟩
  have hs8 := keepS2 hb8 (by assumption) (.inl rfl)
  go_wp2
  go_ret
  exact ⟨rfl, endS2 hs8⟩

set_option maxHeartbeats 2000000 in
theorem lawNum_ne (k n k' n' M : Int) (f f' : Nat) (s s' : ByteArray) (w : World) (hg : 4 < w.heap.size) (hc : w.cell? ⟨4, 0, none⟩ = some (.int .u64 1)) (b : Bool)
    (c1 : Hid (∀ w : World, Calls Tryz.prog 16 #[.agg #[.int .i64 k, .int .i64 n, .float .f64 f, .string s], .agg #[.int .i64 k', .int .i64 n', .float .f64 f', .string s']] w fun e w' => e = .returned (.tuple #[.int .i64 M, .bool b]) ∧ Below w.heap.size w w'))
    (c2 : Hid (∀ w : World, Calls Tryz.prog 17 #[.agg #[.int .i64 k, .int .i64 n, .float .f64 f, .string s], .agg #[.int .i64 k', .int .i64 n', .float .f64 f', .string s']] w fun e w' => e = .returned (.tuple #[.int .i64 M, .bool b]) ∧ Below w.heap.size w w'))
    (c3 : Hid (∀ w : World, Calls Tryz.prog 16 #[.agg #[.int .i64 k', .int .i64 n', .float .f64 f', .string s'], .agg #[.int .i64 k, .int .i64 n, .float .f64 f, .string s]] w fun e w' => e = .returned (.tuple #[.int .i64 (-M), .bool b]) ∧ Below w.heap.size w w'))
    (hwr : IntKind.i64.wrap (-M) = -M) (hb : b = true) (hk : (k != k') = true) :
    Calls Tryz.prog 7 #[.agg #[.int .i64 k, .int .i64 n, .float .f64 f, .string s], .agg #[.int .i64 k', .int .i64 n', .float .f64 f', .string s']] w fun e w' => e = .returned (.bool true) ∧ Below w.heap.size w w' := by
  subst hb
  have hs0 := start2 w k n k' n' f f' s s' hg hc
  clear hg hc
  go_enter Tryz.func7, Tryz.ntmps7
  go_wp2_with fail
  refine (c1.out _).mono ?_
  rintro e w1 ⟨rfl, hb1⟩
  have hs1 := keepS2 hb1 hs0 (.inl rfl)
  clear hb1 hs0
  obtain ⟨a1, a2, a3, a4, b1, b2, b3, b4⟩ := cells2 hs1
  go_wp2_with fail
  refine (c2.out _).mono ?_
  rintro e w2 ⟨rfl, hb2⟩
  have hs2 := keepS2 hb2 hs1 (.inl rfl)
  clear hb2 hs1 a1 a2 a3 a4 b1 b2 b3 b4
  obtain ⟨a1, a2, a3, a4, b1, b2, b3, b4⟩ := cells2 hs2
  go_wp2_with fail
  refine (c3.out _).mono ?_
  rintro e w3 ⟨rfl, hb3⟩
  have hs3 := keepS2 hb3 hs2 (.inl rfl)
  clear hb3 hs2 a1 a2 a3 a4 b1 b2 b3 b4
  obtain ⟨a1, a2, a3, a4, b1, b2, b3, b4⟩ := cells2 hs3
  go_wp2_with fail
  refine (awakeS2 w k n k' n' f f' s s' _ (by assumption)).mono ?_
  rintro e w8 ⟨rfl, hb8⟩
  have hs8 := keepS2 hb8 (by assumption) (.inl rfl)
  go_wp2
  go_ret
  exact ⟨rfl, endS2 hs8⟩

set_option maxHeartbeats 2000000 in
theorem lawNum_eq (k n k' n' M : Int) (f f' : Nat) (s s' : ByteArray) (w : World) (hg : 4 < w.heap.size) (hc : w.cell? ⟨4, 0, none⟩ = some (.int .u64 1)) (b : Bool)
    (c1 : Hid (∀ w : World, Calls Tryz.prog 16 #[.agg #[.int .i64 k, .int .i64 n, .float .f64 f, .string s], .agg #[.int .i64 k', .int .i64 n', .float .f64 f', .string s']] w fun e w' => e = .returned (.tuple #[.int .i64 M, .bool b]) ∧ Below w.heap.size w w'))
    (c2 : Hid (∀ w : World, Calls Tryz.prog 17 #[.agg #[.int .i64 k, .int .i64 n, .float .f64 f, .string s], .agg #[.int .i64 k', .int .i64 n', .float .f64 f', .string s']] w fun e w' => e = .returned (.tuple #[.int .i64 M, .bool b]) ∧ Below w.heap.size w w'))
    (c3 : Hid (∀ w : World, Calls Tryz.prog 16 #[.agg #[.int .i64 k', .int .i64 n', .float .f64 f', .string s'], .agg #[.int .i64 k, .int .i64 n, .float .f64 f, .string s]] w fun e w' => e = .returned (.tuple #[.int .i64 (-M), .bool b]) ∧ Below w.heap.size w w'))
    (hwr : IntKind.i64.wrap (-M) = -M) (hb : b = true) (hk : (k != k') = false) (hM : cmpV k n k' n' f f' s s' = M) :
    Calls Tryz.prog 7 #[.agg #[.int .i64 k, .int .i64 n, .float .f64 f, .string s], .agg #[.int .i64 k', .int .i64 n', .float .f64 f', .string s']] w fun e w' => e = .returned (.bool true) ∧ Below w.heap.size w w' := by
  subst hb
  have hs0 := start2 w k n k' n' f f' s s' hg hc
  clear hg hc
  go_enter Tryz.func7, Tryz.ntmps7
  go_wp2_with fail
  refine (c1.out _).mono ?_
  rintro e w1 ⟨rfl, hb1⟩
  have hs1 := keepS2 hb1 hs0 (.inl rfl)
  clear hb1 hs0
  obtain ⟨a1, a2, a3, a4, b1, b2, b3, b4⟩ := cells2 hs1
  go_wp2_with fail
  refine (c2.out _).mono ?_
  rintro e w2 ⟨rfl, hb2⟩
  have hs2 := keepS2 hb2 hs1 (.inl rfl)
  clear hb2 hs1 a1 a2 a3 a4 b1 b2 b3 b4
  obtain ⟨a1, a2, a3, a4, b1, b2, b3, b4⟩ := cells2 hs2
  go_wp2_with fail
  refine (c3.out _).mono ?_
  rintro e w3 ⟨rfl, hb3⟩
  have hs3 := keepS2 hb3 hs2 (.inl rfl)
  clear hb3 hs2 a1 a2 a3 a4 b1 b2 b3 b4
  obtain ⟨a1, a2, a3, a4, b1, b2, b3, b4⟩ := cells2 hs3
  go_wp2_with fail
  refine (cmpV_any _ _ _ _ _ _ _ _ _).mono ?_
  rintro e w4 ⟨rfl, hb4⟩
  have hs4 := keepS2 hb4 hs3 (.inl rfl)
  clear hb4 hs3 a1 a2 a3 a4 b1 b2 b3 b4
  obtain ⟨a1, a2, a3, a4, b1, b2, b3, b4⟩ := cells2 hs4
  go_wp2_with fail
  refine (awakeS2 w k n k' n' f f' s s' _ (by assumption)).mono ?_
  rintro e w8 ⟨rfl, hb8⟩
  have hs8 := keepS2 hb8 (by assumption) (.inl rfl)
  go_wp2
  go_ret
  exact ⟨rfl, endS2 hs8⟩

theorem lawNumbers (k n k' n' : Int) (f f' : Nat) (s s' : ByteArray) (w : World) (hg : 4 < w.heap.size) (hc : w.cell? ⟨4, 0, none⟩ = some (.int .u64 1))
    (hf : f < 18446744073709551616) (hf' : f' < 18446744073709551616) :
    Calls Tryz.prog 7 #[.agg #[.int .i64 k, .int .i64 n, .float .f64 f, .string s], .agg #[.int .i64 k', .int .i64 n', .float .f64 f', .string s']] w fun e w' => e = .returned (.bool true) ∧ Below w.heap.size w w' := by
  have hr := numV_range hf hf' k n k' n' s s'
  have hwr := wrap_small hr.1 hr.2
  have c1 := fun w => nums_any k n k' n' f f' s s' w hf hf'
  have c2 := fun w => rnums_any k n k' n' f f' s s' w hf hf'
  have c3 := fun w => nums_any k' n' k n f' f s' s w hf' hf
  rw [numV_swap hf hf', Bool.and_comm] at c3
  cases hb : (isNum k && isNum k') with
  | false => exact lawNum_no k n k' n' _ f f' s s' w hg hc _ c1 c2 c3 hwr hb
  | true =>
    cases hk : (k != k') with
    | true => exact lawNum_ne k n k' n' _ f f' s s' w hg hc _ c1 c2 c3 hwr hb hk
    | false =>
      refine lawNum_eq k n k' n' _ f f' s s' w hg hc _ c1 c2 c3 hwr hb hk ?_
      have e : k = k' := by simpa using hk
      subst e
      unfold numV
      rw [if_pos hb]
      simp
end Go.Proofs.YtcjieoomdhkleaaGreatDoor
