/- The walk of bits.Len64. -/
import Derived.Test.YtammkfilihlmhaaChecked
import Derived.Lib.Strings
import Derived.Lib.Slices
import Derived.Lib.Small
import Derived.Lib.Walk
import Derived.Lib.BitFns
namespace Go.Proofs.Ytammkfilihlmhaa
set_option maxRecDepth 100000

/-- the digits of a number, out of those of its upper part -/
theorem len_end (x y : Int) (k d : Nat) (h0 : 0 ≤ x) (h1 : x ≤ 18446744073709551615) (hd : d = 2 ^ k) (hy : y = x / (d : Int)) (hy1 : y ≤ 255) (hk : k = 0 ∨ (d : Int) ≤ x) : Lib.len8 y + (k : Int) = (Lib.bitLen x.toNat : Int) := by
  have hd0 : 0 < d := by rw [hd]; exact Nat.two_pow_pos k
  have hy0 : 0 ≤ y := by rw [hy]; exact Int.ediv_nonneg h0 (by omega)
  have e : y.toNat = x.toNat / d := by
    rw [hy]
    obtain ⟨n, rfl⟩ := Int.eq_ofNat_of_zero_le h0
    rfl
  rw [Lib.len8_of y hy0 hy1, e]
  rcases hk with rfl | hk
  · simp [hd]
  · rw [Lib.bitLen_shift k x.toNat (by rw [← hd]; omega) (by omega), hd]
    omega
theorem len_le (x : Int) (h1 : x ≤ 18446744073709551615) : Lib.bitLen x.toNat ≤ 64 := Lib.bitLen_le x.toNat 64 (Nat.le_refl _) (by omega)

set_option maxHeartbeats 4000000 in
theorem len64_any (x : Int) (w : World) (h0 : 0 ≤ x) (h1 : x ≤ 18446744073709551615) :
    Calls Try.prog 38 #[.int .u64 x] w fun e w' => e = .returned (.int .i64 (Lib.bitLen x.toNat : Nat)) ∧ w' = w := by
  have HL := len_le x h1
  go_enter Try.func38, Try.ntmps38
  go_wp2
  all_goals (go_ret; refine ⟨congrArg Ending.returned (congrArg (Value.int IntKind.i64) ?_), rfl⟩)
  all_goals first
    | (have h := len_end x (x / 4294967296 / 65536 / 256 % 256) 56 72057594037927936 h0 h1 (by decide) (by omega) (by omega) (by omega)
       omega)
    | (have h := len_end x (x / 4294967296 / 65536 % 256) 48 281474976710656 h0 h1 (by decide) (by omega) (by omega) (by omega)
       omega)
    | (have h := len_end x (x / 4294967296 / 256 % 256) 40 1099511627776 h0 h1 (by decide) (by omega) (by omega) (by omega)
       omega)
    | (have h := len_end x (x / 4294967296 % 256) 32 4294967296 h0 h1 (by decide) (by omega) (by omega) (by omega)
       omega)
    | (have h := len_end x (x / 65536 / 256 % 256) 24 16777216 h0 h1 (by decide) (by omega) (by omega) (by omega)
       omega)
    | (have h := len_end x (x / 65536 % 256) 16 65536 h0 h1 (by decide) (by omega) (by omega) (by omega)
       omega)
    | (have h := len_end x (x / 256 % 256) 8 256 h0 h1 (by decide) (by omega) (by omega) (by omega)
       omega)
    | (have h := len_end x (x % 256) 0 1 h0 h1 (by decide) (by omega) (by omega) (by omega)
       omega)
end Go.Proofs.Ytammkfilihlmhaa
