/- The walk of the statement on Compare: it answers true. -/
import Derived.Test.YtcjieoomdhkleaaGreatDoorLSames
import Derived.Test.YtcjieoomdhkleaaGreatDoorMVal
namespace Go.Proofs.YtcjieoomdhkleaaGreatDoor
open Go.RowKit
set_option maxRecDepth 100000

theorem wrap_small {x : Int} (h1 : -1 ≤ x) (h2 : x ≤ 1) : IntKind.i64.wrap (-x) = -x := by
  have : x = -1 ∨ x = 0 ∨ x = 1 := by omega
  rcases this with rfl | rfl | rfl <;> decide

set_option maxHeartbeats 4000000 in
theorem lawOrders (k n k' n' : Int) (f f' : Nat) (s s' : ByteArray) (w : World) (hg : 4 < w.heap.size) (hc : w.cell? ⟨4, 0, none⟩ = some (.int .u64 1))
    (k1 : -9223372036854775808 ≤ k) (k2 : k ≤ 9223372036854775807) (k3 : -9223372036854775808 ≤ k') (k4 : k' ≤ 9223372036854775807) (hf : f < 18446744073709551616) (hf' : f' < 18446744073709551616) :
    Calls Tryz.prog 4 #[.agg #[.int .i64 k, .int .i64 n, .float .f64 f, .string s], .agg #[.int .i64 k', .int .i64 n', .float .f64 f', .string s']] w fun e w' => e = .returned (.bool true) ∧ Below w.heap.size w w' := by
  have hW := cmpW_eq hf hf' k n k' n' s s'
  have hS : cmpV k' n' k n f' f s' s = - cmpV k n k' n' f f' s s' := by rw [cmpV_swap hf hf']; omega
  have h0 := cmpV_self hf k n s
  have hr := cmpV_range hf hf' k n k' n' s s'
  have hlo : -1 ≤ cmpV k n k' n' f f' s s' := by omega
  have hhi : cmpV k n k' n' f f' s s' ≤ 1 := by omega
  have hwr := wrap_small hlo hhi
  clear hr hlo hhi
  have C13 : Hid (∀ w : World, _) := fun w => cmpW_any k n k' n' f f' s s' w k1 k2 k3 k4
  clear hf hf' k1 k2 k3 k4
  go_enter Tryz.func4, Tryz.ntmps4
  go_wp2_with fail
  go_region_held3 (fun w' => S2 w k n k' n' f f' s s' w') (first | exact startS2 w k n k' n' f f' s s' hg hc | (apply keepS2; assumption; assumption; first | exact Or.inl rfl | exact Or.inr (Nat.le_refl _) | exact Or.inr (by simp))) (first | (go_at_call 12; refine (cmpV_any _ _ _ _ _ _ _ _ _).mono ?_; rintro e w' ⟨rfl, hb⟩) | (go_at_call 13; refine (C13.out _).mono ?_; rintro e w' ⟨rfl, hb⟩) | (go_at_call 11; refine (awakeS2 w k n k' n' f f' s s' _ ?_).mono ?_; assumption; rintro e w' ⟨rfl, hb⟩))
  go_wp2
  go_ret
  exact ⟨rfl, endS2 (by assumption)⟩
end Go.Proofs.YtcjieoomdhkleaaGreatDoor
