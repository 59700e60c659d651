/- The walks of varints, zigzag, pairs, on both sides. -/
import Derived.Test.YthbjheiogghjnaaGreatDoorGWApp
import Derived.Test.YthbjheiogghjnaaGreatDoorGMRow2
import Derived.Test.YthbjheiogghjnaaGreatDoorGWVal
namespace Go.Proofs.YthbjheiogghjnaaGreatDoor
open Go.RowKit
set_option maxRecDepth 100000

theorem u64V {a b : Int} (h : a = b) : Ending.returned (.int .u64 a) = Ending.returned (.int .u64 b) := by rw [h]
theorem u8_small (m : Nat) (_h : m < 128) : ((m : Int) % 256) = ((UInt8.ofNat m).toNat : Int) := by
  have : (UInt8.ofNat m).toNat = m % 256 := by simp
  rw [this]
  omega
theorem pow128 (k m : Nat) (h : m < 128 ^ (k + 1 + 1)) : m / 128 < 128 ^ (k + 1) := by
  rw [Nat.div_lt_iff_lt_mul (by decide), ← Nat.pow_succ]
  exact h









end Go.Proofs.YthbjheiogghjnaaGreatDoor
