/- The walks of names. -/
import Derived.Test.YtgnedioggpgeeaaDoorMName
import Derived.Test.YtgnedioggpgeeaaDoorWShT
import Derived.Test.YtgnedioggpgeeaaDoorWVal
namespace Go.Proofs.YtgnedioggpgeeaaDoor
open Go.RowKit
set_option maxRecDepth 100000

theorem boolV {a b : Bool} (h : a = b) : Ending.returned (.bool a) = Ending.returned (.bool b) := by rw [h]
def letC (c : UInt8) : Bool := decide (97 ≤ c.toNat) && decide (c.toNat ≤ 122) || (decide (65 ≤ c.toNat) && decide (c.toNat ≤ 90))
theorem cls_let (c : UInt8) : clsC c = (letC c || digC c || decide (c.toNat = 95)) := by
  unfold clsC lowC upC digC letC
  rw [Bool.eq_iff_iff]
  simp
  omega
theorem idx_us (c : UInt8) : Lib.indexByte [95] c = if c.toNat = 95 then 0 else -1 := by
  unfold Lib.indexByte
  by_cases h : c.toNat = 95
  · have : c = 95 := UInt8.toNat_inj.1 h
    subst this
    rfl
  · have : ¬ (95 : UInt8) = c := fun e => h (by rw [← e]; rfl)
    rw [if_neg h]
    simp [this, Lib.indexByte]

set_option maxHeartbeats 1000000 in
theorem isDigit_any (c : UInt8) (w : World) : Calls Tryd.prog 77 #[.int .u8 (c.toNat : Int)] w fun e w' => e = .returned (.bool (digC c)) ∧ w' = w := by
  have HD : Hid (digC c = (decide (48 ≤ c.toNat) && decide (c.toNat ≤ 57))) := rfl
  generalize digC c = d at *
  generalize c.toNat = n at *
  rcases Nat.lt_or_ge n 48 with h1 | h1
  all_goals
    go_enter Tryd.func77, Tryd.ntmps77
    go_wp2
  all_goals
    go_ret
    exact ⟨boolV (by rw [HD.out, Bool.eq_iff_iff]; simp <;> omega), rfl⟩

set_option maxHeartbeats 1000000 in
theorem rdigit_any (c : UInt8) (w : World) : Calls Tryd.prog 72 #[.int .u8 (c.toNat : Int)] w fun e w' => e = .returned (.bool (digC c)) ∧ w' = w := by
  have HD : Hid (digC c = (decide (48 ≤ c.toNat) && decide (c.toNat ≤ 57))) := rfl
  generalize digC c = d at *
  generalize c.toNat = n at *
  rcases Nat.lt_or_ge n 48 with h1 | h1
  all_goals
    go_enter Tryd.func72, Tryd.ntmps72
    go_wp2
  all_goals
    go_ret
    exact ⟨boolV (by rw [HD.out, Bool.eq_iff_iff]; simp <;> omega), rfl⟩

set_option maxHeartbeats 1000000 in
theorem rsmall_any (c : UInt8) (w : World) : Calls Tryd.prog 69 #[.int .u8 (c.toNat : Int)] w fun e w' => e = .returned (.bool (lowC c)) ∧ w' = w := by
  have HD : Hid (lowC c = (decide (97 ≤ c.toNat) && decide (c.toNat ≤ 122) || decide (c.toNat = 95))) := rfl
  generalize lowC c = d at *
  generalize c.toNat = n at *
  rcases Nat.lt_or_ge n 97 with h1 | h1 <;> rcases Nat.lt_or_ge 122 n with h2 | h2
  all_goals
    go_enter Tryd.func69, Tryd.ntmps69
    go_wp2
  all_goals
    go_ret
    exact ⟨boolV (by rw [HD.out, Bool.eq_iff_iff]; simp <;> omega), rfl⟩

set_option maxHeartbeats 1000000 in
theorem isLetter_any (c : UInt8) (w : World) : Calls Tryd.prog 95 #[.int .u8 (c.toNat : Int)] w fun e w' => e = .returned (.bool (letC c)) ∧ w' = w := by
  have HD : Hid (letC c = (decide (97 ≤ c.toNat) && decide (c.toNat ≤ 122) || (decide (65 ≤ c.toNat) && decide (c.toNat ≤ 90)))) := rfl
  generalize letC c = d at *
  generalize c.toNat = n at *
  rcases Nat.lt_or_ge n 97 with h1 | h1 <;> rcases Nat.lt_or_ge 122 n with h2 | h2 <;> rcases Nat.lt_or_ge n 65 with h3 | h3
  all_goals
    go_enter Tryd.func95, Tryd.ntmps95
    go_wp2
  all_goals
    go_ret
    exact ⟨boolV (by rw [HD.out, Bool.eq_iff_iff]; simp <;> omega), rfl⟩

end Go.Proofs.YtgnedioggpgeeaaDoor
