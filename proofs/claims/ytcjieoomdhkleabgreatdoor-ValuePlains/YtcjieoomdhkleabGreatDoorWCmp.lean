/- The walks of the functions that compare values. -/
import Derived.Test.YtcjieoomdhkleabGreatDoorWSame
import Derived.Lib.Bytealg
namespace Go.Proofs.YtcjieoomdhkleabGreatDoor
open Go.RowKit
set_option maxRecDepth 100000

/-- how two numbers stand -/
def cmpI (a b : Int) : Int := if a < b then -1 else if b < a then 1 else 0
/-- is a float a NaN, by its bits? -/
def nanB (f : Nat) : Bool := decide (bits .andNot .u64 (f : Int) 9223372036854775808 > 9218868437227405312)
/-- is a float a NaN, by its order? -/
def nanO (f : Nat) : Bool := FloatKind.f64.format.order f f != some .eq
def cmpO (a b : Nat) : Int := if FloatKind.f64.format.order a b == some .lt then -1 else if FloatKind.f64.format.order a b == some .gt then 1 else 0

set_option maxHeartbeats 400000 in
theorem cmpInt_any (a b : Int) (w : World) :
    Calls Tryz.prog 35 #[.int .i64 a, .int .i64 b] w fun e w' => e = .returned (.int .i64 (cmpI a b)) ∧ w' = w := by
  unfold cmpI
  go_enter Tryz.func35, Tryz.ntmps35
  go_wp2
  all_goals go_ret
  all_goals simp [*]

set_option maxHeartbeats 400000 in
theorem cmpInt64_any (a b : Int) (w : World) :
    Calls Tryz.prog 36 #[.int .i64 a, .int .i64 b] w fun e w' => e = .returned (.int .i64 (cmpI a b)) ∧ w' = w := by
  unfold cmpI
  go_enter Tryz.func36, Tryz.ntmps36
  go_wp2
  all_goals go_ret
  all_goals simp [*]



set_option maxHeartbeats 400000 in
theorem isNaN_any (f : Nat) (w : World) :
    Calls Tryz.prog 56 #[.float .f64 f] w fun e w' => e = .returned (.bool (nanB f)) ∧ w' = w := by
  have hb := run_fbits
  go_enter Tryz.func56, Tryz.ntmps56
  go_wp2
  go_ret
  exact ⟨rfl, rfl⟩

set_option maxHeartbeats 400000 in
theorem risNaN_any (f : Nat) (w : World) :
    Calls Tryz.prog 33 #[.float .f64 f] w fun e w' => e = .returned (.bool (nanO f)) ∧ w' = w := by
  go_enter Tryz.func33, Tryz.ntmps33
  go_wp2
  go_ret
  exact ⟨rfl, rfl⟩

set_option maxHeartbeats 400000 in
theorem gisNaN_any (f : Nat) (w : World) :
    Calls Tryz.prog 89 #[.float .f64 f] w fun e w' => e = .returned (.bool (nanO f)) ∧ w' = w := by
  go_enter Tryz.func89, Tryz.ntmps89
  go_wp2
  go_ret
  exact ⟨rfl, rfl⟩

/-- cmp.Compare of two floats -/
def cmpG (a b : Nat) : Int := if nanO a then (if nanO b then 0 else -1) else if nanO b then 1 else cmpO a b
/-- value.compareFloats -/
def cmpF (a b : Nat) : Int := if nanB a then (if nanB b then 0 else 1) else if nanB b then -1 else cmpG a b
/-- vellumref01.floats -/
def cmpR (a b : Nat) : Int := if nanO a then (if nanO b then 0 else 1) else if nanO b then -1 else cmpO a b

set_option maxHeartbeats 400000 in
theorem cmpG_any (a b : Nat) (w : World) :
    Calls Tryz.prog 61 #[.float .f64 a, .float .f64 b] w fun e w' => e = .returned (.int .i64 (cmpG a b)) ∧ w' = w := by
  unfold cmpG cmpO
  cases ha : nanO a <;> cases hb : nanO b
  all_goals
    go_enter Tryz.func61, Tryz.ntmps61
    go_wp2_with (first | (go_at_call 89; refine (gisNaN_any _ _).mono ?_; rintro e w' ⟨rfl, rfl⟩))
  all_goals go_ret
  all_goals simp [*]

set_option maxHeartbeats 400000 in
theorem cmpF_any (a b : Nat) (w : World) :
    Calls Tryz.prog 37 #[.float .f64 a, .float .f64 b] w fun e w' => e = .returned (.int .i64 (cmpF a b)) ∧ w' = w := by
  unfold cmpF
  cases ha : nanB a <;> cases hb : nanB b
  all_goals
    go_enter Tryz.func37, Tryz.ntmps37
    go_wp2_with (first | (go_at_call 56; refine (isNaN_any _ _).mono ?_; rintro e w' ⟨rfl, rfl⟩) | (go_at_call 61; refine (cmpG_any _ _ _).mono ?_; rintro e w' ⟨rfl, rfl⟩))
  all_goals go_ret
  all_goals simp



theorem run_cmps (a b : ByteArray) (w : World) : (callFunc 90 #[.string a, .string b]).run Tryz.prog w = .ok (.value (.int .i64 (Lib.compareBytes a.data.toList b.data.toList))) w := by
  rw [run_callFunc_extern (fn := Tryz.f90) (e := Extern.BytealgCompare.compare) Tryz.func90 (by kernel_rfl) (by kernel_rfl) (by kernel_rfl) (by kernel_rfl)]
  rw [Lib.run_compareString]
  rfl

set_option maxHeartbeats 400000 in
theorem strCmp_any (a b : ByteArray) (w : World) :
    Calls Tryz.prog 38 #[.string a, .string b] w fun e w' => e = .returned (.int .i64 (Lib.compareBytes a.data.toList b.data.toList)) ∧ w' = w := by
  have hb := run_cmps
  go_enter Tryz.func38, Tryz.ntmps38
  go_wp2
  go_ret
  exact ⟨rfl, rfl⟩

/-- vellumref01.Strings -/
def cmpS (a b : ByteArray) : Int := if Op.bytesLess a.toList b.toList then -1 else if (!Op.bytesLess a.toList b.toList && !(a.toList == b.toList)) then 1 else 0



end Go.Proofs.YtcjieoomdhkleabGreatDoor
