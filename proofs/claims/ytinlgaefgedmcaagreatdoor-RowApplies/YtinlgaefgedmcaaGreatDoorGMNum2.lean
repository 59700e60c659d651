/- One byte of a number that is read. -/
import Derived.Test.YtinlgaefgedmcaaGreatDoorGMRow2
namespace Go.Proofs.YtinlgaefgedmcaaGreatDoor
open Go.RowKit
set_option maxRecDepth 100000

theorem num_x {n p j : Nat} (hn : n < 18446744073709551616) : n ||| p * 128 ^ j % 18446744073709551616 < 18446744073709551616 :=
  Nat.or_lt_two_pow (n := 64) hn (Nat.mod_lt _ (by decide))
theorem num_fit {n p j : Nat} (hp : p < 128) (hj : j ≤ 9) (hn : n < 128 ^ j) (h : j ≤ 8 ∨ p ≤ 1) : p * 128 ^ j % 18446744073709551616 = p * 128 ^ j ∧ n ||| p * 128 ^ j % 18446744073709551616 = n + p * 128 ^ j ∧ p * 128 ^ j % 18446744073709551616 / 128 ^ j = p ∧ n + p * 128 ^ j < 128 ^ (j + 1) := by
  have h9 := pow128_le hj
  have hpos : 0 < 128 ^ j := Nat.pow_pos (by decide)
  have hlt : p * 128 ^ j < 18446744073709551616 := by
    rcases h with h | h
    · have h8 : (128 : Nat) ^ j ≤ 128 ^ 8 := Nat.pow_le_pow_right (by decide) h
      have e8 : (128 : Nat) ^ 8 = 72057594037927936 := by decide
      have := Nat.mul_le_mul (Nat.le_of_lt hp) h8
      omega
    · have := Nat.mul_le_mul h h9
      omega
  have e1 := Nat.mod_eq_of_lt hlt
  refine ⟨e1, by rw [e1]; exact or_high hn, by rw [e1]; exact Nat.mul_div_cancel _ hpos, ?_⟩
  rw [Nat.pow_succ]
  have h2 : (p + 1) * 128 ^ j ≤ 128 * 128 ^ j := Nat.mul_le_mul_right _ hp
  rw [Nat.succ_mul] at h2
  omega
theorem num_unfit {p : Nat} (hp : p < 128) (h1 : 1 < p) : p * 128 ^ 9 % 18446744073709551616 / 128 ^ 9 ≠ p := by
  rw [show (128 : Nat) ^ 9 = 9223372036854775808 by decide]
  omega

end Go.Proofs.YtinlgaefgedmcaaGreatDoor
