/- Rows as bytes: what the machine's bits are. -/
import Derived.WalkKit
import Derived.Test.YthbjheiogghjnaaGreatDoorGWApp
namespace Go.Proofs.YthbjheiogghjnaaGreatDoor
open Go.RowKit
set_option maxRecDepth 100000

theorem or128 : ∀ x, x < 256 → x ||| 128 = x % 128 + 128 := by decide +kernel
theorem ofInt_nat8 (x : Nat) (h : x < 256) : (BitVec.ofInt 8 (x : Int)).toNat = x := by
  rw [BitVec.toNat_ofInt]
  omega
theorem ofInt_nat64 (x : Nat) (h : x < 18446744073709551616) : (BitVec.ofInt 64 (x : Int)).toNat = x := by
  rw [BitVec.toNat_ofInt]
  omega
theorem bits_or8 (x y : Nat) (hx : x < 256) (hy : y < 256) : bits .or .u8 (x : Int) (y : Int) = ((x ||| y : Nat) : Int) := by
  show IntKind.u8.wrap ((BitVec.ofInt 8 (x : Int) ||| BitVec.ofInt 8 (y : Int)).toNat : Int) = _
  rw [BitVec.toNat_or, ofInt_nat8 x hx, ofInt_nat8 y hy]
  have : x ||| y < 2 ^ 8 := Nat.or_lt_two_pow (by simpa using hx) (by simpa using hy)
  simp [IntKind.wrap, IntKind.bits, IntKind.signed]
  omega
theorem bits_or64 (x y : Nat) (hx : x < 18446744073709551616) (hy : y < 18446744073709551616) : bits .or .u64 (x : Int) (y : Int) = ((x ||| y : Nat) : Int) := by
  show IntKind.u64.wrap ((BitVec.ofInt 64 (x : Int) ||| BitVec.ofInt 64 (y : Int)).toNat : Int) = _
  rw [BitVec.toNat_or, ofInt_nat64 x hx, ofInt_nat64 y hy]
  have : x ||| y < 2 ^ 64 := Nat.or_lt_two_pow (by simpa using hx) (by simpa using hy)
  simp [IntKind.wrap, IntKind.bits, IntKind.signed]
  omega
theorem bits_and64 (x y : Nat) (hx : x < 18446744073709551616) (hy : y < 18446744073709551616) : bits .and .u64 (x : Int) (y : Int) = ((x &&& y : Nat) : Int) := by
  show IntKind.u64.wrap ((BitVec.ofInt 64 (x : Int) &&& BitVec.ofInt 64 (y : Int)).toNat : Int) = _
  rw [BitVec.toNat_and, ofInt_nat64 x hx, ofInt_nat64 y hy]
  have : x &&& y ≤ x := Nat.and_le_left
  simp [IntKind.wrap, IntKind.bits, IntKind.signed]
  omega
/-- 'byte(n) | 128' -/
theorem or_more (m : Nat) : bits .or .u8 ((m : Int) % 256) 128 = ((UInt8.ofNat (m % 128 + 128)).toNat : Int) := by
  have h := bits_or8 (m % 256) 128 (Nat.mod_lt _ (by decide)) (by decide)
  rw [or128 _ (Nat.mod_lt _ (by decide))] at h
  have e : ((m % 256 : Nat) : Int) = (m : Int) % 256 := by omega
  rw [e] at h
  have e2 : ((128 : Nat) : Int) = 128 := rfl
  rw [e2] at h
  rw [h]
  have : (UInt8.ofNat (m % 128 + 128)).toNat = (m % 128 + 128) % 256 := by simp
  rw [this]
  omega
/-- 'n & 127 | 128' -/
theorem and_more (m : Nat) (hm : m < 18446744073709551616) : bits .or .u64 (bits .and .u64 (m : Int) 127) 128 = ((m % 128 + 128 : Nat) : Int) := by
  have h := bits_and64 m 127 hm (by decide)
  have e : ((127 : Nat) : Int) = 127 := rfl
  rw [e] at h
  rw [h, show (127 : Nat) = 2 ^ 7 - 1 from rfl, Nat.and_two_pow_sub_one_eq_mod]
  have h2 := bits_or64 (m % 2 ^ 7) 128 (by omega) (by decide)
  have e2 : ((128 : Nat) : Int) = 128 := rfl
  rw [e2] at h2
  rw [h2, or128 _ (by omega)]
  omega
theorem pow4 (q : Nat) (hq : q < 4) : (4 : Nat) ^ q ≤ 64 := by
  have : q = 0 ∨ q = 1 ∨ q = 2 ∨ q = 3 := by omega
  rcases this with rfl | rfl | rfl | rfl <;> decide
/-- 'b | pair << shift' -/
theorem or_pack (b : UInt8) (p q : Nat) (hp : p < 3) (hq : q < 4) : bits .or .u8 (b.toNat : Int) ((p * 4 ^ q : Nat) : Int) = ((b ||| UInt8.ofNat (p * 4 ^ q)).toNat : Int) := by
  have h4 := pow4 q hq
  have hpq : p * 4 ^ q ≤ 128 := by
    have : p * 4 ^ q ≤ 2 * 64 := Nat.mul_le_mul (by omega) h4
    omega
  have hb : b.toNat < 256 := b.toNat_lt
  rw [bits_or8 b.toNat (p * 4 ^ q) hb (by omega), UInt8.toNat_or]
  have : (UInt8.ofNat (p * 4 ^ q)).toNat = p * 4 ^ q := by simp; omega
  rw [this]

end Go.Proofs.YthbjheiogghjnaaGreatDoor
