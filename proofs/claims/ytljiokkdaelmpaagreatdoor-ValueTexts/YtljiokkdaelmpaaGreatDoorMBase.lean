/- The words in which the orders of values are said. -/
import Derived.Laws.Cover2
import Derived.Laws.FloatArith
import Derived.Lib.Bytealg
import Derived.Laws.BitsAllLaws
import Derived.Lib.ValidU
namespace Go.Proofs.YtljiokkdaelmpaaGreatDoor
open Go Ieee

/-- how two numbers stand -/
def cmpI (a b : Int) : Int := if a < b then -1 else if b < a then 1 else 0
/-- is a float a NaN, by its bits? -/
def nanB (f : Nat) : Bool := decide (bits .andNot .u64 (f : Int) 9223372036854775808 > 9218868437227405312)
/-- is a float a NaN, by its order? -/
def nanO (f : Nat) : Bool := FloatKind.f64.format.order f f != some .eq
def cmpO (a b : Nat) : Int := if FloatKind.f64.format.order a b == some .lt then -1 else if FloatKind.f64.format.order a b == some .gt then 1 else 0
/-- cmp.Compare of two floats -/
def cmpG (a b : Nat) : Int := if nanO a then (if nanO b then 0 else -1) else if nanO b then 1 else cmpO a b
/-- value.compareFloats -/
def cmpF (a b : Nat) : Int := if nanB a then (if nanB b then 0 else 1) else if nanB b then -1 else cmpG a b
/-- vellumref01.floats -/
def cmpR (a b : Nat) : Int := if nanO a then (if nanO b then 0 else 1) else if nanO b then -1 else cmpO a b
/-- vellumref01.Strings -/
def cmpS (a b : ByteArray) : Int := if Op.bytesLess a.toList b.toList then -1 else if (!Op.bytesLess a.toList b.toList && !(a.toList == b.toList)) then 1 else 0
/-- value.Compare -/
def cmpV (k n k' n' : Int) (f f' : Nat) (s s' : ByteArray) : Int :=
  if k == k' then (if k == 1 || k == 2 then cmpI n n' else if k == 3 then cmpF f f' else if k == 4 || k == 5 then Lib.compareBytes s.data.toList s'.data.toList else 0) else cmpI k k'
/-- vellumref01.Compare -/
def cmpW (k n k' n' : Int) (f f' : Nat) (s s' : ByteArray) : Int :=
  if k == k' then (if k == 1 || k == 2 then cmpI n n' else if k == 3 then cmpR f f' else if k == 4 || k == 5 then cmpS s s' else 0) else cmpI k k'
theorem beqF {a b : Int} (h : ¬ a = b) : (a == b) = false := by simp [h]
theorem bneT {a b : Int} (h : ¬ a = b) : (a != b) = true := by simp [h]

/-- value.Check, and what it is held against -/
def kindB (k : Int) : Bool := decide (0 ≤ k) && decide (k ≤ 5)
def numB (k n : Int) : Bool := if k == 2 then true else if k == 1 then ((n == 0) || (n == 1)) else (n == 0)
def floB (k : Int) (f : Nat) : Bool := (k == 3) || ((f : Int) == 0)
def strB (k : Int) (s : ByteArray) : Bool := if k == 5 then true else if k == 4 then Lib.validD s.data.toList else s.toList.isEmpty
def chkV (k n : Int) (f : Nat) (s : ByteArray) : Int :=
  if kindB k && numB k n && floB k f && strB k s then (if (65536 : Int) < (s.size : Int) then 3 else 0) else 10
end Go.Proofs.YtljiokkdaelmpaaGreatDoor
