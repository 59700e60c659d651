/- Reading a number: what readVarint and number answer. One byte of a number that is read. -/
import Derived.Laws.BitsAllLaws
import Derived.Test.YtgnedioggpgeeaaDoorGFLaid4
namespace Go.Proofs.YtgnedioggpgeeaaDoor
open Go.RowKit
set_option maxRecDepth 100000

/-- the number that some bytes begin with, from its byte i on, n being what the bytes before say, and how many bytes it has; 0: none -/
def rdK : List UInt8 → Nat → Nat → Nat × Nat
  | [], _, _ => (0, 0)
  | c :: r, i, n =>
    if 10 ≤ i then (0, 0)
    else if c.toNat < 128 then (if (i = 9 ∧ 1 < c.toNat) ∨ (0 < i ∧ c.toNat = 0) then (0, 0) else (n + c.toNat * 128 ^ i, i + 1))
    else rdK r (i + 1) (n + c.toNat % 128 * 128 ^ i)
def rdV (s : ByteArray) : Nat × Nat := rdK s.data.toList 0 0
theorem rdK_ten (l : List UInt8) (n : Nat) : rdK l 10 n = (0, 0) := by
  cases l with
  | nil => rfl
  | cons c r => rw [rdK, if_pos (Nat.le_refl _)]
theorem rdK_end {s : ByteArray} {j n : Nat} (h : j = s.size) : rdK (s.data.toList.drop j) j n = (0, 0) := by
  rw [List.drop_eq_nil_of_le (by subst h; exact Nat.le_refl _)]
  rfl
theorem rdK_at {s : ByteArray} {j n : Nat} (h : j < s.size) (h10 : j < 10) : rdK (s.data.toList.drop j) j n = if s[j].toNat < 128 then (if (j = 9 ∧ 1 < s[j].toNat) ∨ (0 < j ∧ s[j].toNat = 0) then (0, 0) else (n + s[j].toNat * 128 ^ j, j + 1)) else rdK (s.data.toList.drop (j + 1)) (j + 1) (n + s[j].toNat % 128 * 128 ^ j) := by
  have h' : j < s.data.toList.length := h
  rw [List.drop_eq_getElem_cons h', rdK, if_neg (by omega)]
  rfl
theorem pow128_le {j : Nat} (h : j ≤ 9) : (128 : Nat) ^ j ≤ 9223372036854775808 := by
  have : (128 : Nat) ^ j ≤ 128 ^ 9 := Nat.pow_le_pow_right (by decide) h
  have e : (128 : Nat) ^ 9 = 9223372036854775808 := by decide
  omega
theorem pow128_two (j : Nat) : (2 : Nat) ^ (7 * j) = 128 ^ j := by rw [show (128 : Nat) = 2 ^ 7 from rfl, ← Nat.pow_mul]
theorem or_high {n p j : Nat} (hn : n < 128 ^ j) : n ||| p * 128 ^ j = n + p * 128 ^ j := by
  have h := Nat.shiftLeft_add_eq_or_of_lt (i := 7 * j) (b := n) (by rw [pow128_two]; exact hn) p
  rw [Nat.shiftLeft_eq, pow128_two] at h
  rw [Nat.or_comm, ← h, Nat.add_comm]
theorem part_u8 (c : Nat) (h : c < 256) : bits .andNot .u8 (c : Int) 128 = ((c % 128 : Nat) : Int) := by
  have h1 := u8_andNot_nat c 128 h (by decide)
  rw [show ((128 : Nat) : Int) = 128 from rfl] at h1
  rw [h1]
  congr 1
  exact Nat.and_two_pow_sub_one_eq_mod c 7
end Go.Proofs.YtgnedioggpgeeaaDoor

namespace Go.Proofs.YtgnedioggpgeeaaDoor
open Go.RowKit
set_option maxRecDepth 100000

theorem num_x {n p j : Nat} (hn : n < 18446744073709551616) : n ||| p * 128 ^ j % 18446744073709551616 < 18446744073709551616 :=
  Nat.or_lt_two_pow (n := 64) hn (Nat.mod_lt _ (by decide))
theorem num_fit {n p j : Nat} (hp : p < 128) (hj : j ≤ 9) (hn : n < 128 ^ j) (h : j ≤ 8 ∨ p ≤ 1) : p * 128 ^ j % 18446744073709551616 = p * 128 ^ j ∧ n ||| p * 128 ^ j % 18446744073709551616 = n + p * 128 ^ j ∧ p * 128 ^ j % 18446744073709551616 / 128 ^ j = p ∧ n + p * 128 ^ j < 128 ^ (j + 1) := by
  have h9 := pow128_le hj
  have hpos : 0 < 128 ^ j := Nat.pow_pos (by decide)
  have hlt : p * 128 ^ j < 18446744073709551616 := by
    rcases h with h | h
    · have h8 : (128 : Nat) ^ j ≤ 128 ^ 8 := Nat.pow_le_pow_right (by decide) h
      have e8 : (128 : Nat) ^ 8 = 72057594037927936 := by decide
      have := Nat.mul_le_mul (Nat.le_of_lt hp) h8
      omega
    · have := Nat.mul_le_mul h h9
      omega
  have e1 := Nat.mod_eq_of_lt hlt
  refine ⟨e1, by rw [e1]; exact or_high hn, by rw [e1]; exact Nat.mul_div_cancel _ hpos, ?_⟩
  rw [Nat.pow_succ]
  have h2 : (p + 1) * 128 ^ j ≤ 128 * 128 ^ j := Nat.mul_le_mul_right _ hp
  rw [Nat.succ_mul] at h2
  omega
theorem num_unfit {p : Nat} (hp : p < 128) (h1 : 1 < p) : p * 128 ^ 9 % 18446744073709551616 / 128 ^ 9 ≠ p := by
  rw [show (128 : Nat) ^ 9 = 9223372036854775808 by decide]
  omega
end Go.Proofs.YtgnedioggpgeeaaDoor
