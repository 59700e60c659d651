/- The walks of the functions that append a value's code to a key. The walk of the function that appends a float to a key. -/
import Derived.Test.YteadniomgbhecaaGreatDoorGWCat
import Derived.Test.YteadniomgbhecaaGreatDoorGWVal
import Derived.Test.YteadniomgbhecaaGreatDoorGWLen
namespace Go.Proofs.YteadniomgbhecaaGreatDoor
open Go.RowKit
set_option maxRecDepth 100000

theorem ret_i64 {a b : Int} (h : a = b) : Ending.returned (.int .i64 a) = Ending.returned (.int .i64 b) := by rw [h]

set_option maxHeartbeats 400000 in
theorem widthOf_any (n : Nat) (w : World) (hn : n < 18446744073709551616) :
    Calls Tryz.prog 62 #[.int .u64 (n : Int)] w fun e w' => e = .returned (.int .i64 (sz n : Nat)) ∧ w' = w := by
  have h1 := Lib.bitLen_le n 64 (by decide) hn
  have h2 : Hid ((Lib.bitLen n + 7) / 8 = sz n) := sz_bitLen hn
  have HL : Hid (∀ w : World, _) := fun w => len64_any n w hn
  generalize Lib.bitLen n = b at *
  go_enter Tryz.func62, Tryz.ntmps62
  go_wp2_with (first | (go_at_call 83; refine (HL.out _).mono ?_; rintro e w' ⟨rfl, rfl⟩))
  go_ret
  have h3 := h2.out
  exact ⟨ret_i64 (by omega), rfl⟩

set_option maxHeartbeats 400000 in
theorem widthBelow_any (n : Nat) (w : World) (hn : n < 18446744073709551616) :
    Calls Tryz.prog 60 #[.int .u64 (n : Int)] w fun e w' => e = .returned (.int .i64 (max (sz n) 1 : Nat)) ∧ w' = w := by
  have h1 := sz_le n
  have HW : Hid (∀ w : World, _) := fun w => widthOf_any n w hn
  generalize sz n = b at *
  go_enter Tryz.func60, Tryz.ntmps60
  go_wp2_with (first | (go_at_call 62; refine (HW.out _).mono ?_; rintro e w' ⟨rfl, rfl⟩))
  all_goals go_ret
  all_goals exact ⟨ret_i64 (by omega), rfl⟩

theorem wholeC_pos (m : Nat) : wholeC (m : Int) = UInt8.ofNat (128 + sz m) :: hiB m (sz m) := by
  unfold wholeC
  rw [if_pos (by omega)]
  simp
theorem wholeC_neg (m : Nat) : wholeC (-(m : Int) - 1) = UInt8.ofNat (128 - max (sz m) 1) :: hiB (18446744073709551615 - m) (max (sz m) 1) := by
  unfold wholeC
  rw [if_neg (by omega)]
  have e : (-(-(m : Int) - 1 + 1)).toNat = m := by omega
  rw [e]

theorem not_i64 (m : Nat) (hm : m < 9223372036854775808) : bits .xor .i64 (-1) (-(m : Int) - 1) = (m : Int) := by
  show IntKind.i64.wrap ((BitVec.ofInt 64 (-1) ^^^ BitVec.ofInt 64 (-(m : Int) - 1)).toNat : Int) = _
  have h1 : BitVec.ofInt 64 (-1) = BitVec.allOnes 64 := by decide
  have h2 : (BitVec.ofInt 64 (-(m : Int) - 1)).toNat = 18446744073709551615 - m := by
    rw [BitVec.toNat_ofInt]
    omega
  rw [h1, BitVec.allOnes_xor, BitVec.toNat_not, h2]
  simp [IntKind.wrap, IntKind.bits, IntKind.signed]
  omega
theorem not_u64 (m : Nat) (hm : m < 18446744073709551616) (c : Int) (hc : BitVec.ofInt 64 c = BitVec.allOnes 64) : bits .xor .u64 c (m : Int) = ((18446744073709551615 - m : Nat) : Int) := by
  show IntKind.u64.wrap ((BitVec.ofInt 64 c ^^^ BitVec.ofInt 64 (m : Int)).toNat : Int) = _
  rw [hc, BitVec.allOnes_xor, BitVec.toNat_not, ofInt_u64 m hm]
  simp [IntKind.wrap, IntKind.bits, IntKind.signed]
  omega

set_option maxHeartbeats 1000000 in
theorem appendInt_pos (B : Nat) (v : Value) (bs : List UInt8) (m : Nat) (w : World) (hB : B ≤ w.heap.size) (ho : OwnB w B v bs) (hm : m < 9223372036854775808) (hl : bs.length ≤ 1099511627775) :
    Calls Tryz.prog 39 #[v, .int .i64 (m : Int)] w fun e w' => ∃ v', e = .returned v' ∧ OwnB w' B v' (bs ++ wholeC (m : Int)) ∧ Keep5 B w w' := by
  have h8 := sz_le m
  have HO : Hid (OwnB w B v bs) := ho
  obtain ⟨b, hb⟩ : ∃ b, b = UInt8.ofNat (128 + sz m) := ⟨_, rfl⟩
  have HB : Hid (b = _) := hb
  clear ho hb
  go_enter Tryz.func39, Tryz.ntmps39
  go_wp2_with (first | (go_at_call 62; refine (widthOf_any _ _ (by omega)).mono ?_; rintro e w' ⟨rfl, rfl⟩) | (at_builtin; refine wpList_app1 _ rfl _ _ rfl B _ _ rfl HO.out b _ ?zz rfl ?ll ?bb ?_))
  case zz => rw [HB.out, ofNat_toNat8]; omega
  case ll => omega
  case bb => omega
  intro v1 w1 h1 h2
  have hz := h2.below.size
  have HO1 : Hid (OwnB w1 B v1 (bs ++ [b]) ∧ Keep5 B _ w1) := ⟨h1, h2⟩
  clear h1 h2
  go_wp2_with (first | (go_at_call 61; refine (appendHigh_any B v1 _ m (sz m) w1 (by omega) HO1.out.1 h8 (by omega) (by simp; omega)).mono ?_; rintro e w2 ⟨v2, rfl, h3, h4⟩))
  go_ret
  refine ⟨_, rfl, ?_, HO1.out.2.trans h4⟩
  rw [wholeC_pos, ← HB.out]
  simpa using h3

set_option maxHeartbeats 1000000 in
theorem appendInt_neg (B : Nat) (v : Value) (bs : List UInt8) (m : Nat) (w : World) (hB : B ≤ w.heap.size) (ho : OwnB w B v bs) (hm : m < 9223372036854775808) (hl : bs.length ≤ 1099511627775) :
    Calls Tryz.prog 39 #[v, .int .i64 (-(m : Int) - 1)] w fun e w' => ∃ v', e = .returned v' ∧ OwnB w' B v' (bs ++ wholeC (-(m : Int) - 1)) ∧ Keep5 B w w' := by
  have h8 : max (sz m) 1 ≤ 8 := by have := sz_le m; omega
  have h81 : 1 ≤ max (sz m) 1 := by omega
  have HO : Hid (OwnB w B v bs) := ho
  obtain ⟨b, hb⟩ : ∃ b, b = UInt8.ofNat (128 - max (sz m) 1) := ⟨_, rfl⟩
  have HB : Hid (b = _) := hb
  have HW : Hid (∀ w : World, _) := fun w => widthBelow_any m w (by omega)
  have hx := not_i64 m hm
  have hwr : IntKind.u64.wrap (m : Int) = (m : Int) := by rw [IntKind.wrap_u64]; omega
  have hneg : -(m : Int) - 1 < 0 := by omega
  obtain ⟨t, ht⟩ : ∃ t, t = max (sz m) 1 := ⟨_, rfl⟩
  rw [← ht] at h8 h81
  have HT : Hid (t = max (sz m) 1) := ht
  rw [← ht] at HW HB
  clear ho hb ht
  go_enter Tryz.func39, Tryz.ntmps39
  go_wp2_with (first | (go_at_call 60; refine (HW.out _).mono ?_; rintro e w' ⟨rfl, rfl⟩) | (at_builtin; refine wpList_app1 _ rfl _ _ rfl B _ _ rfl HO.out b _ ?zz rfl ?ll ?bb ?_))
  case zz => rw [HB.out, ofNat_toNat8]; omega
  case ll => omega
  case bb => omega
  intro v1 w1 h1 h2
  have hz := h2.below.size
  have HO1 : Hid (OwnB w1 B v1 (bs ++ [b]) ∧ Keep5 B _ w1) := ⟨h1, h2⟩
  clear h1 h2
  go_wp2_with fail
  rw [not_u64 m (by omega) _ (by decide)]
  refine (appendHigh_any B v1 _ (18446744073709551615 - m) t w1 (by omega) HO1.out.1 h8 (by omega) (by simp; omega)).mono ?_
  rintro e w2 ⟨v2, rfl, h3, h4⟩
  go_wp2
  go_ret
  refine ⟨_, rfl, ?_, HO1.out.2.trans h4⟩
  rw [wholeC_neg, ← HT.out, ← HB.out]
  simpa using h3

theorem appendInt_any (B : Nat) (v : Value) (bs : List UInt8) (n : Int) (w : World) (hB : B ≤ w.heap.size) (ho : OwnB w B v bs) (h1 : -9223372036854775808 ≤ n) (h2 : n ≤ 9223372036854775807) (hl : bs.length ≤ 1099511627775) :
    Calls Tryz.prog 39 #[v, .int .i64 n] w fun e w' => ∃ v', e = .returned v' ∧ OwnB w' B v' (bs ++ wholeC n) ∧ Keep5 B w w' := by
  by_cases h : 0 ≤ n
  · obtain ⟨m, rfl⟩ : ∃ m : Nat, n = (m : Int) := ⟨n.toNat, by omega⟩
    exact appendInt_pos B v bs m w hB ho (by omega) hl
  · obtain ⟨m, rfl⟩ : ∃ m : Nat, n = -(m : Int) - 1 := ⟨(-n - 1).toNat, by omega⟩
    exact appendInt_neg B v bs m w hB ho (by omega) hl

end Go.Proofs.YteadniomgbhecaaGreatDoor

namespace Go.Proofs.YteadniomgbhecaaGreatDoor
open Go.RowKit
set_option maxRecDepth 100000

theorem xor_top {x : Nat} (h : x < 2 ^ 63) : x ^^^ 2 ^ 63 = x + 2 ^ 63 := by
  apply Nat.eq_of_testBit_eq
  intro i
  rw [Nat.testBit_xor, Nat.testBit_two_pow, Nat.add_comm]
  rcases Nat.lt_trichotomy i 63 with h1 | h1 | h1
  · rw [Nat.testBit_two_pow_add_gt h1]
    have : ¬ 63 = i := by omega
    simp [this]
  · subst h1
    rw [Nat.testBit_two_pow_add_eq, Nat.testBit_lt_two_pow h]
    simp
  · have e1 : x < 2 ^ i := Nat.lt_of_lt_of_le h (Nat.pow_le_pow_right (by decide) (by omega))
    have e2 : 2 ^ 63 + x < 2 ^ i := Nat.lt_of_lt_of_le (show 2 ^ 63 + x < 2 ^ 64 by omega) (Nat.pow_le_pow_right (by decide) h1)
    rw [Nat.testBit_lt_two_pow e1, Nat.testBit_lt_two_pow e2]
    have : ¬ 63 = i := by omega
    simp [this]
theorem top_off {x : Nat} (h : x < 9223372036854775808) : bits .and .u64 (x : Int) 9223372036854775808 = 0 ∧ bits .xor .u64 (x : Int) 9223372036854775808 = ((x + 9223372036854775808 : Nat) : Int) := by
  constructor
  · have := u64_and_nat x 9223372036854775808 (by omega) (by decide)
    rw [show ((9223372036854775808 : Nat) : Int) = 9223372036854775808 from rfl] at this
    rw [this, show (9223372036854775808 : Nat) = 2 ^ 63 from rfl, nat_bit, show x / 2 ^ 63 = 0 by omega]
    rfl
  · have := u64_xor_nat x 9223372036854775808 (by omega) (by decide)
    rw [show ((9223372036854775808 : Nat) : Int) = 9223372036854775808 from rfl] at this
    rw [this, show (9223372036854775808 : Nat) = 2 ^ 63 from rfl, xor_top h]
theorem top_on {x : Nat} (h : 9223372036854775808 ≤ x) (h2 : x < 18446744073709551616) : bits .and .u64 (x : Int) 9223372036854775808 = 9223372036854775808 := by
  have := u64_and_nat x 9223372036854775808 (by omega) (by decide)
  rw [show ((9223372036854775808 : Nat) : Int) = 9223372036854775808 from rfl] at this
  rw [this, show (9223372036854775808 : Nat) = 2 ^ 63 from rfl, nat_bit, show x / 2 ^ 63 = 1 by omega]
  rfl

theorem run_fldF (k n : Int) (f : Nat) (s : ByteArray) (w : World) : (Instr.field 45 (.agg #[.int .i64 k, .int .i64 n, .float .f64 f, .string s]) 2).run Tryz.prog w = .ok (.float .f64 f) w := by kernel_rfl

set_option maxHeartbeats 1000000 in
theorem appendFloat_any (B : Nat) (v : Value) (bs : List UInt8) (n : Int) (f : Nat) (s : ByteArray) (w : World) (hB : B ≤ w.heap.size) (ho : OwnB w B v bs) (hf : f < 18446744073709551616) (hl : bs.length ≤ 1099511627775) :
    Calls Tryz.prog 40 #[v, .agg #[.int .i64 3, .int .i64 n, .float .f64 f, .string s]] w fun e w' => ∃ v', e = .returned v' ∧ OwnB w' B v' (bs ++ realC f) ∧ Keep5 B w w' := by
  have hb := run_fbits
  have hfd := run_fldF
  have hp := plainF_lt hf
  have hq : pf 3 f = plainF f := rfl
  have HO : Hid (OwnB w B v bs) := ho
  obtain ⟨g, hg⟩ : ∃ g, g = gK (plainF f) := ⟨_, rfl⟩
  have HR : Hid (realC f = hiB g 8) := by rw [hg]; rfl
  have hg2 : g < 18446744073709551616 := by rw [hg]; exact gK_lt _
  clear ho
  generalize plainF f = q at *
  have hgq : Hid (g = gK q) := hg
  clear hg
  have K1 : Keep5 B w (w.alloc (.cells #[.int .i64 3, .int .i64 n, .float .f64 f, .string s] 45)) := Keep5.alloc _ _ hB
  have K1 : Hid (Keep5 B w _) := K1
  have A1 : Hid (OwnB (w.alloc (.cells #[.int .i64 3, .int .i64 n, .float .f64 f, .string s] 45)) B v bs) := HO.out.kept ((Below.refl _ _).alloc (Nat.le_refl _) _)
  rcases Nat.lt_or_ge q 9223372036854775808 with hc | hc
  · obtain ⟨hb1, hb2⟩ := top_off hc
    have e : q + 9223372036854775808 = g := by rw [hgq.out]; unfold gK; rw [if_pos hc]
    rw [e] at hb2
    clear e
    go_enter Tryz.func40, Tryz.ntmps40
    go_wp2_with (first | (go_at_call 63; refine (plain_any _ _ _ _ _).mono ?_; rintro e w1 ⟨rfl, h1⟩) | (go_at_call 61; refine (appendHigh_any B v bs g 8 w1 (by have := h1.size; simp at this; omega) (A1.out.kept h1) (by decide) hg2 (by omega)).mono ?_; rintro e w2 ⟨v2, rfl, h3, h4⟩))
    go_ret
    refine ⟨_, rfl, ?_, (K1.out.trans (Keep5.of_below h1 (by simp; omega))).trans h4⟩
    rw [HR.out]
    exact h3
  · have hb1 := top_on hc hp
    have hb2 := not_u64 q hp IntKind.u64.max (by decide)
    have e : 18446744073709551615 - q = g := by rw [hgq.out]; unfold gK; rw [if_neg (Nat.not_lt.2 hc)]
    rw [e] at hb2
    have HB2 : Hid (_ = _) := hb2
    clear e hb2
    go_enter Tryz.func40, Tryz.ntmps40
    go_wp2_with (first | (go_at_call 63; refine (plain_any _ _ _ _ _).mono ?_; rintro e w1 ⟨rfl, h1⟩))
    rw [HB2.out]
    refine (appendHigh_any B v bs g 8 w1 (by have := h1.size; simp at this; omega) (A1.out.kept h1) (by decide) hg2 (by omega)).mono ?_
    rintro e w2 ⟨v2, rfl, h3, h4⟩
    go_wp2
    go_ret
    refine ⟨_, rfl, ?_, (K1.out.trans (Keep5.of_below h1 (by simp; omega))).trans h4⟩
    rw [HR.out]
    exact h3

end Go.Proofs.YteadniomgbhecaaGreatDoor
