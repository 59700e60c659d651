/- The walks of the functions that append a value's code to a key. -/
import Derived.Test.YtjigmijennbolaaDoorWApp
import Derived.Test.YtjigmijennbolaaDoorWVal
import Derived.Test.YtjigmijennbolaaDoorWLen
namespace Go.Proofs.YtjigmijennbolaaDoor
open Go.RowKit
set_option maxRecDepth 100000

theorem ret_i64 {a b : Int} (h : a = b) : Ending.returned (.int .i64 a) = Ending.returned (.int .i64 b) := by rw [h]

set_option maxHeartbeats 400000 in
theorem widthOf_any (n : Nat) (w : World) (hn : n < 18446744073709551616) :
    Calls Tryd.prog 54 #[.int .u64 (n : Int)] w fun e w' => e = .returned (.int .i64 (sz n : Nat)) ∧ w' = w := by
  have h1 := Lib.bitLen_le n 64 (by decide) hn
  have h2 : Hid ((Lib.bitLen n + 7) / 8 = sz n) := sz_bitLen hn
  have HL : Hid (∀ w : World, _) := fun w => len64_any n w hn
  generalize Lib.bitLen n = b at *
  go_enter Tryd.func54, Tryd.ntmps54
  go_wp2_with (first | (go_at_call 72; refine (HL.out _).mono ?_; rintro e w' ⟨rfl, rfl⟩))
  go_ret
  have h3 := h2.out
  exact ⟨ret_i64 (by omega), rfl⟩

set_option maxHeartbeats 400000 in
theorem widthBelow_any (n : Nat) (w : World) (hn : n < 18446744073709551616) :
    Calls Tryd.prog 52 #[.int .u64 (n : Int)] w fun e w' => e = .returned (.int .i64 (max (sz n) 1 : Nat)) ∧ w' = w := by
  have h1 := sz_le n
  have HW : Hid (∀ w : World, _) := fun w => widthOf_any n w hn
  generalize sz n = b at *
  go_enter Tryd.func52, Tryd.ntmps52
  go_wp2_with (first | (go_at_call 54; refine (HW.out _).mono ?_; rintro e w' ⟨rfl, rfl⟩))
  all_goals go_ret
  all_goals exact ⟨ret_i64 (by omega), rfl⟩

theorem wholeC_pos (m : Nat) : wholeC (m : Int) = UInt8.ofNat (128 + sz m) :: hiB m (sz m) := by
  unfold wholeC
  rw [if_pos (by omega)]
  simp
theorem wholeC_neg (m : Nat) : wholeC (-(m : Int) - 1) = UInt8.ofNat (128 - max (sz m) 1) :: hiB (18446744073709551615 - m) (max (sz m) 1) := by
  unfold wholeC
  rw [if_neg (by omega)]
  have e : (-(-(m : Int) - 1 + 1)).toNat = m := by omega
  rw [e]

theorem not_i64 (m : Nat) (hm : m < 9223372036854775808) : bits .xor .i64 (-1) (-(m : Int) - 1) = (m : Int) := by
  show IntKind.i64.wrap ((BitVec.ofInt 64 (-1) ^^^ BitVec.ofInt 64 (-(m : Int) - 1)).toNat : Int) = _
  have h1 : BitVec.ofInt 64 (-1) = BitVec.allOnes 64 := by decide
  have h2 : (BitVec.ofInt 64 (-(m : Int) - 1)).toNat = 18446744073709551615 - m := by
    rw [BitVec.toNat_ofInt]
    omega
  rw [h1, BitVec.allOnes_xor, BitVec.toNat_not, h2]
  simp [IntKind.wrap, IntKind.bits, IntKind.signed]
  omega
theorem not_u64 (m : Nat) (hm : m < 18446744073709551616) (c : Int) (hc : BitVec.ofInt 64 c = BitVec.allOnes 64) : bits .xor .u64 c (m : Int) = ((18446744073709551615 - m : Nat) : Int) := by
  show IntKind.u64.wrap ((BitVec.ofInt 64 c ^^^ BitVec.ofInt 64 (m : Int)).toNat : Int) = _
  rw [hc, BitVec.allOnes_xor, BitVec.toNat_not, ofInt_u64 m hm]
  simp [IntKind.wrap, IntKind.bits, IntKind.signed]
  omega

set_option maxHeartbeats 1000000 in
theorem appendInt_pos (B : Nat) (v : Value) (bs : List UInt8) (m : Nat) (w : World) (hB : B ≤ w.heap.size) (ho : OwnB w B v bs) (hm : m < 9223372036854775808) (hl : bs.length ≤ 1099511627775) :
    Calls Tryd.prog 37 #[v, .int .i64 (m : Int)] w fun e w' => ∃ v', e = .returned v' ∧ OwnB w' B v' (bs ++ wholeC (m : Int)) ∧ Keep5 B w w' := by
  have h8 := sz_le m
  have HO : Hid (OwnB w B v bs) := ho
  obtain ⟨b, hb⟩ : ∃ b, b = UInt8.ofNat (128 + sz m) := ⟨_, rfl⟩
  have HB : Hid (b = _) := hb
  clear ho hb
  go_enter Tryd.func37, Tryd.ntmps37
  go_wp2_with (first | (go_at_call 54; refine (widthOf_any _ _ (by omega)).mono ?_; rintro e w' ⟨rfl, rfl⟩) | (at_builtin; refine wpList_app1 _ rfl _ _ rfl B _ _ rfl HO.out b _ ?zz rfl ?ll ?bb ?_))
  case zz => rw [HB.out, ofNat_toNat8]; omega
  case ll => omega
  case bb => omega
  intro v1 w1 h1 h2
  have hz := h2.below.size
  have HO1 : Hid (OwnB w1 B v1 (bs ++ [b]) ∧ Keep5 B _ w1) := ⟨h1, h2⟩
  clear h1 h2
  go_wp2_with (first | (go_at_call 53; refine (appendHigh_any B v1 _ m (sz m) w1 (by omega) HO1.out.1 h8 (by omega) (by simp; omega)).mono ?_; rintro e w2 ⟨v2, rfl, h3, h4⟩))
  go_ret
  refine ⟨_, rfl, ?_, HO1.out.2.trans h4⟩
  rw [wholeC_pos, ← HB.out]
  simpa using h3

set_option maxHeartbeats 1000000 in
theorem appendInt_neg (B : Nat) (v : Value) (bs : List UInt8) (m : Nat) (w : World) (hB : B ≤ w.heap.size) (ho : OwnB w B v bs) (hm : m < 9223372036854775808) (hl : bs.length ≤ 1099511627775) :
    Calls Tryd.prog 37 #[v, .int .i64 (-(m : Int) - 1)] w fun e w' => ∃ v', e = .returned v' ∧ OwnB w' B v' (bs ++ wholeC (-(m : Int) - 1)) ∧ Keep5 B w w' := by
  have h8 : max (sz m) 1 ≤ 8 := by have := sz_le m; omega
  have h81 : 1 ≤ max (sz m) 1 := by omega
  have HO : Hid (OwnB w B v bs) := ho
  obtain ⟨b, hb⟩ : ∃ b, b = UInt8.ofNat (128 - max (sz m) 1) := ⟨_, rfl⟩
  have HB : Hid (b = _) := hb
  have HW : Hid (∀ w : World, _) := fun w => widthBelow_any m w (by omega)
  have hx := not_i64 m hm
  have hwr : IntKind.u64.wrap (m : Int) = (m : Int) := by rw [IntKind.wrap_u64]; omega
  have hneg : -(m : Int) - 1 < 0 := by omega
  obtain ⟨t, ht⟩ : ∃ t, t = max (sz m) 1 := ⟨_, rfl⟩
  rw [← ht] at h8 h81
  have HT : Hid (t = max (sz m) 1) := ht
  rw [← ht] at HW HB
  clear ho hb ht
  go_enter Tryd.func37, Tryd.ntmps37
  go_wp2_with (first | (go_at_call 52; refine (HW.out _).mono ?_; rintro e w' ⟨rfl, rfl⟩) | (at_builtin; refine wpList_app1 _ rfl _ _ rfl B _ _ rfl HO.out b _ ?zz rfl ?ll ?bb ?_))
  case zz => rw [HB.out, ofNat_toNat8]; omega
  case ll => omega
  case bb => omega
  intro v1 w1 h1 h2
  have hz := h2.below.size
  have HO1 : Hid (OwnB w1 B v1 (bs ++ [b]) ∧ Keep5 B _ w1) := ⟨h1, h2⟩
  clear h1 h2
  go_wp2_with fail
  rw [not_u64 m (by omega) _ (by decide)]
  refine (appendHigh_any B v1 _ (18446744073709551615 - m) t w1 (by omega) HO1.out.1 h8 (by omega) (by simp; omega)).mono ?_
  rintro e w2 ⟨v2, rfl, h3, h4⟩
  go_wp2
  go_ret
  refine ⟨_, rfl, ?_, HO1.out.2.trans h4⟩
  rw [wholeC_neg, ← HT.out, ← HB.out]
  simpa using h3

theorem appendInt_any (B : Nat) (v : Value) (bs : List UInt8) (n : Int) (w : World) (hB : B ≤ w.heap.size) (ho : OwnB w B v bs) (h1 : -9223372036854775808 ≤ n) (h2 : n ≤ 9223372036854775807) (hl : bs.length ≤ 1099511627775) :
    Calls Tryd.prog 37 #[v, .int .i64 n] w fun e w' => ∃ v', e = .returned v' ∧ OwnB w' B v' (bs ++ wholeC n) ∧ Keep5 B w w' := by
  by_cases h : 0 ≤ n
  · obtain ⟨m, rfl⟩ : ∃ m : Nat, n = (m : Int) := ⟨n.toNat, by omega⟩
    exact appendInt_pos B v bs m w hB ho (by omega) hl
  · obtain ⟨m, rfl⟩ : ∃ m : Nat, n = -(m : Int) - 1 := ⟨(-n - 1).toNat, by omega⟩
    exact appendInt_neg B v bs m w hB ho (by omega) hl
end Go.Proofs.YtjigmijennbolaaDoor
