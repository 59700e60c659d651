/- The walks of varints, zigzag, pairs, on both sides. -/
import Derived.Test.YtfknmblobcjapaaDoorGWApp
import Derived.Test.YtfknmblobcjapaaDoorGMRow2
import Derived.Test.YtfknmblobcjapaaDoorGWVal
namespace Go.Proofs.YtfknmblobcjapaaDoor
open Go.RowKit
set_option maxRecDepth 100000

theorem u64V {a b : Int} (h : a = b) : Ending.returned (.int .u64 a) = Ending.returned (.int .u64 b) := by rw [h]
theorem u8_small (m : Nat) (_h : m < 128) : ((m : Int) % 256) = ((UInt8.ofNat m).toNat : Int) := by
  have : (UInt8.ofNat m).toNat = m % 256 := by simp
  rw [this]
  omega
theorem pow128 (k m : Nat) (h : m < 128 ^ (k + 1 + 1)) : m / 128 < 128 ^ (k + 1) := by
  rw [Nat.div_lt_iff_lt_mul (by decide), ← Nat.pow_succ]
  exact h

set_option maxHeartbeats 2000000 in
theorem appendVarint_any (B : Nat) (v : Value) (bs : List UInt8) (n : Nat) (w : World) (hB : B ≤ w.heap.size) (ho : OwnB w B v bs) (hn : n < 18446744073709551616) (hl : bs.length ≤ 1099511627776) :
    Calls Tryd.prog 10 #[v, .int .u64 (n : Int)] w fun e w' => ∃ v', e = .returned v' ∧ OwnB w' B v' (bs ++ varB n) ∧ Keep5 B w w' := by
  have HO : Hid (OwnB w B v bs) := ho
  clear ho
  go_enter Tryd.func10, Tryd.ntmps10
  go_wp2_with fail
  go_loopw [0, 1] (fun v' x wr => ∃ (k m : Nat) (pre : List UInt8), x = .int .u64 (m : Int) ∧ m < 18446744073709551616 ∧ pre.length + k ≤ 9 ∧ Hid (pre ++ varK k m = varB n ∧ m < 128 ^ (k + 1)) ∧ Hid (OwnB wr B v' (bs ++ pre) ∧ Keep5 B w wr)) (fun _ x _ => (intOf x).toNat)
  case atStart => exact ⟨9, n, [], by go_num, hn, by simp, ⟨rfl, Nat.lt_of_lt_of_le hn (by decide)⟩, ⟨by simpa using HO.out, Keep5.refl _ _⟩⟩
  case round =>
    clear HO
    obtain ⟨k, m, pre, rfl, hm, hpl, hV, HO⟩ := hrel
    have hz := HO.out.2.below.size
    have hbl : (bs ++ pre).length ≤ 1099511627776 + 9 := by rw [List.length_append]; omega
    rcases Nat.lt_or_ge m 128 with h | h
    · skip
      have hE : Hid (pre ++ [UInt8.ofNat m] = varB n) := by
        have := hV.out.1
        rw [varK_small h] at this
        exact this
      clear hV
      go_wp2_with (first | (at_builtin; refine wpList_app1 _ rfl _ _ rfl B _ _ rfl HO.out.1 (UInt8.ofNat m) _ (by rw [ofNat_toNat8]; omega) rfl (by omega) (by omega) ?_; intro v6 w6 h6 h7))
      go_ret
      exact ⟨_, rfl, by rw [← hE.out, ← List.append_assoc]; exact h6, HO.out.2.trans h7⟩
    · obtain ⟨j, rfl⟩ : ∃ j, k = j + 1 := by
        cases k with
        | zero => have := hV.out.2; simp at this; omega
        | succ j => exact ⟨j, rfl⟩
      have hb := or_more m
      have hE : Hid ((pre ++ [UInt8.ofNat (m % 128 + 128)]) ++ varK j (m / 128) = varB n ∧ m / 128 < 128 ^ (j + 1)) := by
        refine ⟨?_, pow128 j m hV.out.2⟩
        have := hV.out.1
        rw [varK_big (by omega)] at this
        rw [← this]
        simp
      have hd : (m : Int) / 2 ^ 7 = ((m / 128 : Nat) : Int) := by norm_cast
      clear hV
      go_wp2_with (first | (at_builtin; refine wpList_app1 _ rfl _ _ rfl B _ _ rfl HO.out.1 (UInt8.ofNat (m % 128 + 128)) _ (by rw [ofNat_toNat8]; omega) rfl (by omega) (by omega) ?_; intro v6 w6 h6 h7))
      have R : Hid (OwnB w6 B v6 (bs ++ (pre ++ [UInt8.ofNat (m % 128 + 128)])) ∧ Keep5 B w w6) := ⟨by rw [← List.append_assoc]; exact h6, HO.out.2.trans h7⟩
      clear h6 h7
      go_roundw
      case rel => exact ⟨j, m / 128, pre ++ [UInt8.ofNat (m % 128 + 128)], by go_num, by omega, by simp; omega, hE, R⟩
      case measure => simp [intOf]; omega



set_option maxHeartbeats 2000000 in
theorem zigzag_any (n : Int) (w : World) (h1 : -9223372036854775808 ≤ n) (h2 : n ≤ 9223372036854775807) :
    Calls Tryd.prog 35 #[.int .i64 n] w fun e w' => e = .returned (.int .u64 (zig n : Int)) ∧ Below w.heap.size w w' := by
  rcases Int.lt_or_le n 0 with h | h
  · obtain ⟨m, rfl⟩ : ∃ m : Nat, n = -(m : Int) - 1 := ⟨(-n - 1).toNat, by omega⟩
    have hz : Hid ((zig (-(m : Int) - 1) : Int) = 2 * (m : Int) + 1) := by
      show _ = _
      unfold zig
      rw [if_neg (by omega)]
      omega
    have hx : bits .xor .i64 (-1) (-(m : Int) - 1) = (m : Int) := by
      show IntKind.i64.wrap ((BitVec.ofInt 64 (-1) ^^^ BitVec.ofInt 64 (-(m : Int) - 1)).toNat : Int) = _
      have h1 : BitVec.ofInt 64 (-1) = BitVec.allOnes 64 := by decide
      have h2 : (BitVec.ofInt 64 (-(m : Int) - 1)).toNat = 18446744073709551615 - m := by
        rw [BitVec.toNat_ofInt]
        omega
      rw [h1, BitVec.allOnes_xor, BitVec.toNat_not, h2]
      simp [IntKind.wrap, IntKind.bits, IntKind.signed]
      omega
    have hm : (m : Int) ≤ 9223372036854775807 := by omega
    rw [hz.out]
    go_enter Tryd.func35, Tryd.ntmps35
    go_wp2
    go_ret
    exact ⟨u64V (by first | omega | (simp [IntKind.wrap, IntKind.bits, IntKind.signed]; omega) | rfl), by go_grown⟩
  · obtain ⟨m, rfl⟩ : ∃ m : Nat, n = (m : Int) := ⟨n.toNat, by omega⟩
    have hz : Hid ((zig (m : Int) : Int) = 2 * (m : Int)) := by
      show _ = _
      unfold zig
      rw [if_pos (by omega)]
      omega
    rw [hz.out]
    go_enter Tryd.func35, Tryd.ntmps35
    go_wp2
    go_ret
    exact ⟨u64V (by first | omega | (simp [IntKind.wrap, IntKind.bits, IntKind.signed]; omega) | rfl), by go_grown⟩



end Go.Proofs.YtfknmblobcjapaaDoor
