/- The walks of the orders of values. -/
import Derived.Test.YtcjieoomdhkleabGreatDoorWCmp
namespace Go.Proofs.YtcjieoomdhkleabGreatDoor
open Go.RowKit
set_option maxRecDepth 100000

/-- value.Compare -/
def cmpV (k n k' n' : Int) (f f' : Nat) (s s' : ByteArray) : Int :=
  if k == k' then (if k == 1 || k == 2 then cmpI n n' else if k == 3 then cmpF f f' else if k == 4 || k == 5 then Lib.compareBytes s.data.toList s'.data.toList else 0) else cmpI k k'
/-- vellumref01.Compare -/
def cmpW (k n k' n' : Int) (f f' : Nat) (s s' : ByteArray) : Int :=
  if k == k' then (if k == 1 || k == 2 then cmpI n n' else if k == 3 then cmpR f f' else if k == 4 || k == 5 then cmpS s s' else 0) else cmpI k k'

theorem beqF {a b : Int} (h : ¬ a = b) : (a == b) = false := by simp [h]
theorem bneT {a b : Int} (h : ¬ a = b) : (a != b) = true := by simp [h]

set_option maxHeartbeats 1000000 in
theorem cmpV_any (k n k' n' : Int) (f f' : Nat) (s s' : ByteArray) (w : World) :
    Calls Tryz.prog 14 #[.agg #[.int .i64 k, .int .i64 n, .float .f64 f, .string s], .agg #[.int .i64 k', .int .i64 n', .float .f64 f', .string s']] w fun e w' => e = .returned (.int .i64 (cmpV k n k' n' f f' s s')) ∧ Below w.heap.size w w' := by
  by_cases hk : k = k'
  · subst hk
    go_enter Tryz.func14, Tryz.ntmps14
    go_wp2_with (first | (go_at_call 36; refine (cmpInt64_any _ _ _).mono ?_; rintro e w' ⟨rfl, rfl⟩) | (go_at_call 37; refine (cmpF_any _ _ _).mono ?_; rintro e w' ⟨rfl, rfl⟩) | (go_at_call 38; refine (strCmp_any _ _ _).mono ?_; rintro e w' ⟨rfl, rfl⟩))
    all_goals go_ret
    all_goals (refine ⟨?_, by go_grown⟩)
    all_goals (simp [cmpV, *])
  · have hne := bneT hk
    go_enter Tryz.func14, Tryz.ntmps14
    go_wp2_with (first | (go_at_call 35; refine (cmpInt_any _ _ _).mono ?_; rintro e w' ⟨rfl, rfl⟩))
    go_ret
    exact ⟨by simp [cmpV, hk], by go_grown⟩


end Go.Proofs.YtcjieoomdhkleabGreatDoor
