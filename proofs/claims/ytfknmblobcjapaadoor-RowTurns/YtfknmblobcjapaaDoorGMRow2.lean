/- Rows as bytes: what the machine's bits are. Reading a number: what readVarint and number answer. One byte of a number that is read. -/
import Derived.WalkKit
import Derived.Laws.BitsAllLaws
import Derived.Test.YtfknmblobcjapaaDoorGFLaid7
namespace Go.Proofs.YtfknmblobcjapaaDoor
open Go.RowKit
set_option maxRecDepth 100000

theorem or128 : ∀ x, x < 256 → x ||| 128 = x % 128 + 128 := by decide +kernel
theorem ofInt_nat8 (x : Nat) (h : x < 256) : (BitVec.ofInt 8 (x : Int)).toNat = x := by
  rw [BitVec.toNat_ofInt]
  omega
theorem ofInt_nat64 (x : Nat) (h : x < 18446744073709551616) : (BitVec.ofInt 64 (x : Int)).toNat = x := by
  rw [BitVec.toNat_ofInt]
  omega
theorem bits_or8 (x y : Nat) (hx : x < 256) (hy : y < 256) : bits .or .u8 (x : Int) (y : Int) = ((x ||| y : Nat) : Int) := by
  show IntKind.u8.wrap ((BitVec.ofInt 8 (x : Int) ||| BitVec.ofInt 8 (y : Int)).toNat : Int) = _
  rw [BitVec.toNat_or, ofInt_nat8 x hx, ofInt_nat8 y hy]
  have : x ||| y < 2 ^ 8 := Nat.or_lt_two_pow (by simpa using hx) (by simpa using hy)
  simp [IntKind.wrap, IntKind.bits, IntKind.signed]
  omega
theorem bits_or64 (x y : Nat) (hx : x < 18446744073709551616) (hy : y < 18446744073709551616) : bits .or .u64 (x : Int) (y : Int) = ((x ||| y : Nat) : Int) := by
  show IntKind.u64.wrap ((BitVec.ofInt 64 (x : Int) ||| BitVec.ofInt 64 (y : Int)).toNat : Int) = _
  rw [BitVec.toNat_or, ofInt_nat64 x hx, ofInt_nat64 y hy]
  have : x ||| y < 2 ^ 64 := Nat.or_lt_two_pow (by simpa using hx) (by simpa using hy)
  simp [IntKind.wrap, IntKind.bits, IntKind.signed]
  omega
theorem bits_and64 (x y : Nat) (hx : x < 18446744073709551616) (hy : y < 18446744073709551616) : bits .and .u64 (x : Int) (y : Int) = ((x &&& y : Nat) : Int) := by
  show IntKind.u64.wrap ((BitVec.ofInt 64 (x : Int) &&& BitVec.ofInt 64 (y : Int)).toNat : Int) = _
  rw [BitVec.toNat_and, ofInt_nat64 x hx, ofInt_nat64 y hy]
  have : x &&& y ≤ x := Nat.and_le_left
  simp [IntKind.wrap, IntKind.bits, IntKind.signed]
  omega
/-- 'byte(n) | 128' -/
theorem or_more (m : Nat) : bits .or .u8 ((m : Int) % 256) 128 = ((UInt8.ofNat (m % 128 + 128)).toNat : Int) := by
  have h := bits_or8 (m % 256) 128 (Nat.mod_lt _ (by decide)) (by decide)
  rw [or128 _ (Nat.mod_lt _ (by decide))] at h
  have e : ((m % 256 : Nat) : Int) = (m : Int) % 256 := by omega
  rw [e] at h
  have e2 : ((128 : Nat) : Int) = 128 := rfl
  rw [e2] at h
  rw [h]
  have : (UInt8.ofNat (m % 128 + 128)).toNat = (m % 128 + 128) % 256 := by simp
  rw [this]
  omega
/-- 'n & 127 | 128' -/
theorem and_more (m : Nat) (hm : m < 18446744073709551616) : bits .or .u64 (bits .and .u64 (m : Int) 127) 128 = ((m % 128 + 128 : Nat) : Int) := by
  have h := bits_and64 m 127 hm (by decide)
  have e : ((127 : Nat) : Int) = 127 := rfl
  rw [e] at h
  rw [h, show (127 : Nat) = 2 ^ 7 - 1 from rfl, Nat.and_two_pow_sub_one_eq_mod]
  have h2 := bits_or64 (m % 2 ^ 7) 128 (by omega) (by decide)
  have e2 : ((128 : Nat) : Int) = 128 := rfl
  rw [e2] at h2
  rw [h2, or128 _ (by omega)]
  omega
theorem pow4 (q : Nat) (hq : q < 4) : (4 : Nat) ^ q ≤ 64 := by
  have : q = 0 ∨ q = 1 ∨ q = 2 ∨ q = 3 := by omega
  rcases this with rfl | rfl | rfl | rfl <;> decide
/-- 'b | pair << shift' -/
theorem or_pack (b : UInt8) (p q : Nat) (hp : p < 3) (hq : q < 4) : bits .or .u8 (b.toNat : Int) ((p * 4 ^ q : Nat) : Int) = ((b ||| UInt8.ofNat (p * 4 ^ q)).toNat : Int) := by
  have h4 := pow4 q hq
  have hpq : p * 4 ^ q ≤ 128 := by
    have : p * 4 ^ q ≤ 2 * 64 := Nat.mul_le_mul (by omega) h4
    omega
  have hb : b.toNat < 256 := b.toNat_lt
  rw [bits_or8 b.toNat (p * 4 ^ q) hb (by omega), UInt8.toNat_or]
  have : (UInt8.ofNat (p * 4 ^ q)).toNat = p * 4 ^ q := by simp; omega
  rw [this]

end Go.Proofs.YtfknmblobcjapaaDoor

namespace Go.Proofs.YtfknmblobcjapaaDoor
open Go.RowKit
set_option maxRecDepth 100000

/-- the number that some bytes begin with, from its byte i on, n being what the bytes before say, and how many bytes it has; 0: none -/
def rdK : List UInt8 → Nat → Nat → Nat × Nat
  | [], _, _ => (0, 0)
  | c :: r, i, n =>
    if 10 ≤ i then (0, 0)
    else if c.toNat < 128 then (if (i = 9 ∧ 1 < c.toNat) ∨ (0 < i ∧ c.toNat = 0) then (0, 0) else (n + c.toNat * 128 ^ i, i + 1))
    else rdK r (i + 1) (n + c.toNat % 128 * 128 ^ i)
def rdV (s : ByteArray) : Nat × Nat := rdK s.data.toList 0 0
theorem rdK_ten (l : List UInt8) (n : Nat) : rdK l 10 n = (0, 0) := by
  cases l with
  | nil => rfl
  | cons c r => rw [rdK, if_pos (Nat.le_refl _)]
theorem rdK_end {s : ByteArray} {j n : Nat} (h : j = s.size) : rdK (s.data.toList.drop j) j n = (0, 0) := by
  rw [List.drop_eq_nil_of_le (by subst h; exact Nat.le_refl _)]
  rfl
theorem rdK_at {s : ByteArray} {j n : Nat} (h : j < s.size) (h10 : j < 10) : rdK (s.data.toList.drop j) j n = if s[j].toNat < 128 then (if (j = 9 ∧ 1 < s[j].toNat) ∨ (0 < j ∧ s[j].toNat = 0) then (0, 0) else (n + s[j].toNat * 128 ^ j, j + 1)) else rdK (s.data.toList.drop (j + 1)) (j + 1) (n + s[j].toNat % 128 * 128 ^ j) := by
  have h' : j < s.data.toList.length := h
  rw [List.drop_eq_getElem_cons h', rdK, if_neg (by omega)]
  rfl
theorem pow128_le {j : Nat} (h : j ≤ 9) : (128 : Nat) ^ j ≤ 9223372036854775808 := by
  have : (128 : Nat) ^ j ≤ 128 ^ 9 := Nat.pow_le_pow_right (by decide) h
  have e : (128 : Nat) ^ 9 = 9223372036854775808 := by decide
  omega
theorem pow128_two (j : Nat) : (2 : Nat) ^ (7 * j) = 128 ^ j := by rw [show (128 : Nat) = 2 ^ 7 from rfl, ← Nat.pow_mul]
theorem or_high {n p j : Nat} (hn : n < 128 ^ j) : n ||| p * 128 ^ j = n + p * 128 ^ j := by
  have h := Nat.shiftLeft_add_eq_or_of_lt (i := 7 * j) (b := n) (by rw [pow128_two]; exact hn) p
  rw [Nat.shiftLeft_eq, pow128_two] at h
  rw [Nat.or_comm, ← h, Nat.add_comm]
theorem part_u8 (c : Nat) (h : c < 256) : bits .andNot .u8 (c : Int) 128 = ((c % 128 : Nat) : Int) := by
  have h1 := u8_andNot_nat c 128 h (by decide)
  rw [show ((128 : Nat) : Int) = 128 from rfl] at h1
  rw [h1]
  congr 1
  exact Nat.and_two_pow_sub_one_eq_mod c 7

end Go.Proofs.YtfknmblobcjapaaDoor

namespace Go.Proofs.YtfknmblobcjapaaDoor
open Go.RowKit
set_option maxRecDepth 100000

theorem num_x {n p j : Nat} (hn : n < 18446744073709551616) : n ||| p * 128 ^ j % 18446744073709551616 < 18446744073709551616 :=
  Nat.or_lt_two_pow (n := 64) hn (Nat.mod_lt _ (by decide))
theorem num_fit {n p j : Nat} (hp : p < 128) (hj : j ≤ 9) (hn : n < 128 ^ j) (h : j ≤ 8 ∨ p ≤ 1) : p * 128 ^ j % 18446744073709551616 = p * 128 ^ j ∧ n ||| p * 128 ^ j % 18446744073709551616 = n + p * 128 ^ j ∧ p * 128 ^ j % 18446744073709551616 / 128 ^ j = p ∧ n + p * 128 ^ j < 128 ^ (j + 1) := by
  have h9 := pow128_le hj
  have hpos : 0 < 128 ^ j := Nat.pow_pos (by decide)
  have hlt : p * 128 ^ j < 18446744073709551616 := by
    rcases h with h | h
    · have h8 : (128 : Nat) ^ j ≤ 128 ^ 8 := Nat.pow_le_pow_right (by decide) h
      have e8 : (128 : Nat) ^ 8 = 72057594037927936 := by decide
      have := Nat.mul_le_mul (Nat.le_of_lt hp) h8
      omega
    · have := Nat.mul_le_mul h h9
      omega
  have e1 := Nat.mod_eq_of_lt hlt
  refine ⟨e1, by rw [e1]; exact or_high hn, by rw [e1]; exact Nat.mul_div_cancel _ hpos, ?_⟩
  rw [Nat.pow_succ]
  have h2 : (p + 1) * 128 ^ j ≤ 128 * 128 ^ j := Nat.mul_le_mul_right _ hp
  rw [Nat.succ_mul] at h2
  omega
theorem num_unfit {p : Nat} (hp : p < 128) (h1 : 1 < p) : p * 128 ^ 9 % 18446744073709551616 / 128 ^ 9 ≠ p := by
  rw [show (128 : Nat) ^ 9 = 9223372036854775808 by decide]
  omega

end Go.Proofs.YtfknmblobcjapaaDoor
