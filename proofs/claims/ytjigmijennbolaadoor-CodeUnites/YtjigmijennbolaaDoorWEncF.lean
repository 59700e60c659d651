/- The walk of the function that appends a float to a key. -/
import Derived.Test.YtjigmijennbolaaDoorWEnc
namespace Go.Proofs.YtjigmijennbolaaDoor
open Go.RowKit
set_option maxRecDepth 100000

theorem xor_top {x : Nat} (h : x < 2 ^ 63) : x ^^^ 2 ^ 63 = x + 2 ^ 63 := by
  apply Nat.eq_of_testBit_eq
  intro i
  rw [Nat.testBit_xor, Nat.testBit_two_pow, Nat.add_comm]
  rcases Nat.lt_trichotomy i 63 with h1 | h1 | h1
  · rw [Nat.testBit_two_pow_add_gt h1]
    have : ¬ 63 = i := by omega
    simp [this]
  · subst h1
    rw [Nat.testBit_two_pow_add_eq, Nat.testBit_lt_two_pow h]
    simp
  · have e1 : x < 2 ^ i := Nat.lt_of_lt_of_le h (Nat.pow_le_pow_right (by decide) (by omega))
    have e2 : 2 ^ 63 + x < 2 ^ i := Nat.lt_of_lt_of_le (show 2 ^ 63 + x < 2 ^ 64 by omega) (Nat.pow_le_pow_right (by decide) h1)
    rw [Nat.testBit_lt_two_pow e1, Nat.testBit_lt_two_pow e2]
    have : ¬ 63 = i := by omega
    simp [this]
theorem top_off {x : Nat} (h : x < 9223372036854775808) : bits .and .u64 (x : Int) 9223372036854775808 = 0 ∧ bits .xor .u64 (x : Int) 9223372036854775808 = ((x + 9223372036854775808 : Nat) : Int) := by
  constructor
  · have := u64_and_nat x 9223372036854775808 (by omega) (by decide)
    rw [show ((9223372036854775808 : Nat) : Int) = 9223372036854775808 from rfl] at this
    rw [this, show (9223372036854775808 : Nat) = 2 ^ 63 from rfl, nat_bit, show x / 2 ^ 63 = 0 by omega]
    rfl
  · have := u64_xor_nat x 9223372036854775808 (by omega) (by decide)
    rw [show ((9223372036854775808 : Nat) : Int) = 9223372036854775808 from rfl] at this
    rw [this, show (9223372036854775808 : Nat) = 2 ^ 63 from rfl, xor_top h]
theorem top_on {x : Nat} (h : 9223372036854775808 ≤ x) (h2 : x < 18446744073709551616) : bits .and .u64 (x : Int) 9223372036854775808 = 9223372036854775808 := by
  have := u64_and_nat x 9223372036854775808 (by omega) (by decide)
  rw [show ((9223372036854775808 : Nat) : Int) = 9223372036854775808 from rfl] at this
  rw [this, show (9223372036854775808 : Nat) = 2 ^ 63 from rfl, nat_bit, show x / 2 ^ 63 = 1 by omega]
  rfl

theorem run_fldF (k n : Int) (f : Nat) (s : ByteArray) (w : World) : (Instr.field 43 (.agg #[.int .i64 k, .int .i64 n, .float .f64 f, .string s]) 2).run Tryd.prog w = .ok (.float .f64 f) w := by kernel_rfl

set_option maxHeartbeats 1000000 in
theorem appendFloat_any (B : Nat) (v : Value) (bs : List UInt8) (n : Int) (f : Nat) (s : ByteArray) (w : World) (hB : B ≤ w.heap.size) (ho : OwnB w B v bs) (hf : f < 18446744073709551616) (hl : bs.length ≤ 1099511627775) :
    Calls Tryd.prog 38 #[v, .agg #[.int .i64 3, .int .i64 n, .float .f64 f, .string s]] w fun e w' => ∃ v', e = .returned v' ∧ OwnB w' B v' (bs ++ realC f) ∧ Keep5 B w w' := by
  have hb := run_fbits
  have hfd := run_fldF
  have hp := plainF_lt hf
  have hq : pf 3 f = plainF f := rfl
  have HO : Hid (OwnB w B v bs) := ho
  obtain ⟨g, hg⟩ : ∃ g, g = gK (plainF f) := ⟨_, rfl⟩
  have HR : Hid (realC f = hiB g 8) := by rw [hg]; rfl
  have hg2 : g < 18446744073709551616 := by rw [hg]; exact gK_lt _
  clear ho
  generalize plainF f = q at *
  have hgq : Hid (g = gK q) := hg
  clear hg
  have K1 : Keep5 B w (w.alloc (.cells #[.int .i64 3, .int .i64 n, .float .f64 f, .string s] 43)) := Keep5.alloc _ _ hB
  have K1 : Hid (Keep5 B w _) := K1
  have A1 : Hid (OwnB (w.alloc (.cells #[.int .i64 3, .int .i64 n, .float .f64 f, .string s] 43)) B v bs) := HO.out.kept ((Below.refl _ _).alloc (Nat.le_refl _) _)
  rcases Nat.lt_or_ge q 9223372036854775808 with hc | hc
  · obtain ⟨hb1, hb2⟩ := top_off hc
    have e : q + 9223372036854775808 = g := by rw [hgq.out]; unfold gK; rw [if_pos hc]
    rw [e] at hb2
    clear e
    go_enter Tryd.func38, Tryd.ntmps38
    go_wp2_with (first | (go_at_call 55; refine (plain_any _ _ _ _ _).mono ?_; rintro e w1 ⟨rfl, h1⟩) | (go_at_call 53; refine (appendHigh_any B v bs g 8 w1 (by have := h1.size; simp at this; omega) (A1.out.kept h1) (by decide) hg2 (by omega)).mono ?_; rintro e w2 ⟨v2, rfl, h3, h4⟩))
    go_ret
    refine ⟨_, rfl, ?_, (K1.out.trans (Keep5.of_below h1 (by simp; omega))).trans h4⟩
    rw [HR.out]
    exact h3
  · have hb1 := top_on hc hp
    have hb2 := not_u64 q hp IntKind.u64.max (by decide)
    have e : 18446744073709551615 - q = g := by rw [hgq.out]; unfold gK; rw [if_neg (Nat.not_lt.2 hc)]
    rw [e] at hb2
    have HB2 : Hid (_ = _) := hb2
    clear e hb2
    go_enter Tryd.func38, Tryd.ntmps38
    go_wp2_with (first | (go_at_call 55; refine (plain_any _ _ _ _ _).mono ?_; rintro e w1 ⟨rfl, h1⟩))
    rw [HB2.out]
    refine (appendHigh_any B v bs g 8 w1 (by have := h1.size; simp at this; omega) (A1.out.kept h1) (by decide) hg2 (by omega)).mono ?_
    rintro e w2 ⟨v2, rfl, h3, h4⟩
    go_wp2
    go_ret
    refine ⟨_, rfl, ?_, (K1.out.trans (Keep5.of_below h1 (by simp; omega))).trans h4⟩
    rw [HR.out]
    exact h3
end Go.Proofs.YtjigmijennbolaaDoor
