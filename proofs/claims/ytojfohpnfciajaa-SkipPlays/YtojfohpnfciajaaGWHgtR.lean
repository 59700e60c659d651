/- Layer 12: the document's Height. -/
import Derived.Lib.TrailingZeros
import Derived.Laws.Bits64
import Derived.IntWalk
import Derived.Test.YtojfohpnfciajaaGMBlk
namespace Go.Proofs.Ytojfohpnfciajaa
open Go.RowKit Go.Lib
set_option maxRecDepth 100000

/-- one byte more -/
def fnvS (h b : Nat) : Nat := (h ^^^ b) * 1099511628211 % 18446744073709551616
def fnv (k : List UInt8) : Nat := k.foldl (fun h b => fnvS h b.toNat) 14695981039346656037
theorem fnv_take {k : List UInt8} {i : Nat} (hi : i < k.length) : fnv (k.take (i + 1)) = fnvS (fnv (k.take i)) k[i].toNat := by
  unfold fnv
  rw [List.take_succ_eq_append_getElem hi, List.foldl_append, List.foldl_cons, List.foldl_nil]
theorem fnvS_lt (h b : Nat) : fnvS h b < 18446744073709551616 := Nat.mod_lt _ (by decide)
theorem fnv_lt (k : List UInt8) : fnv k < 18446744073709551616 := by
  unfold fnv
  have : ∀ (l : List UInt8) (h : Nat), h < 18446744073709551616 → l.foldl (fun h b => fnvS h b.toNat) h < 18446744073709551616 := by
    intro l
    induction l with
    | nil => exact fun h hh => hh
    | cons b l ih => exact fun h _ => ih _ (fnvS_lt h b.toNat)
  exact this k _ (by decide)
theorem fnv_walk (x b : Nat) (hx : x < 18446744073709551616) (hb : b < 256) : IntKind.u64.wrap (bits .xor .u64 (x : Int) (IntKind.u64.wrap (b : Int)) * 1099511628211) = ((fnvS x b : Nat) : Int) := by
  rw [IntWalk.u64_in (b : Int) (by omega), bits_xor_u64_nat x b hx (by omega), IntKind.wrap_u64]
  unfold fnvS
  generalize x ^^^ b = y
  omega
theorem byte_at (k : ByteArray) (i : Nat) (_h : i < k.size) (h2 : i < k.data.toList.length) : k.data.toList[i] = k[i] := rfl
/-- the lowest bit that is set -/
theorem ctz_bits {x : Nat} (hx : x < 18446744073709551616) : ctz 64 x ≤ 64 ∧ (∀ j, j < ctz 64 x → x.testBit j = false) ∧ (ctz 64 x < 64 → x.testBit (ctz 64 x) = true) := by
  unfold ctz
  by_cases h0 : x = 0
  · rw [if_pos h0, h0]
    exact ⟨Nat.le_refl _, fun j _ => Nat.zero_testBit j, fun h => absurd h (Nat.lt_irrefl _)⟩
  · rw [if_neg h0]
    obtain ⟨m, hm, hk⟩ := ctzFrom_spec 64 x (by omega) (by simpa using hx)
    generalize ctzFrom 64 x = k at *
    refine ⟨Nat.le_of_lt hk, ?_, ?_⟩
    · intro j hj
      rw [hm, Nat.testBit_two_pow_mul]
      simp
      omega
    · intro _
      rw [hm, Nat.testBit_two_pow_mul]
      simp
theorem bit_walk (x n : Nat) (hx : x < 18446744073709551616) : (bits BinOp.and IntKind.u64 ((x : Int) / 2 ^ n) 1 == 0) = !x.testBit n := by
  have h1 : (x : Int) / 2 ^ n = ((x / 2 ^ n : Nat) : Int) := by simp
  have h2 : x / 2 ^ n < 18446744073709551616 := Nat.lt_of_le_of_lt (Nat.div_le_self _ _) hx
  have h3 : bits BinOp.and IntKind.u64 ((x / 2 ^ n : Nat) : Int) 1 = ((x / 2 ^ n % 2 : Nat) : Int) := by
    have := bits_and_u64_nat (x / 2 ^ n) 1 h2 (by decide)
    rw [Nat.and_one_is_mod] at this
    exact this
  rw [h1, h3, Nat.testBit_eq_decide_div_mod_eq]
  rcases Nat.mod_two_eq_zero_or_one (x / 2 ^ n) with h | h <;> rw [h] <;> rfl
def hgtD (x : Nat) : Nat := if 16 < 1 + ctz 64 x / 2 then 16 else 1 + ctz 64 x / 2

set_option maxHeartbeats 4000000 in
theorem rheight_any (k : ByteArray) (w : World) (hk : k.size ≤ 140737488351232) :
    Calls Try.prog 24 #[.string k] w fun e w' => e = .returned (.int .i64 (hgtD (fnv k.data.toList) : Nat)) ∧ w' = w := by
  go_enter Try.func24, Try.ntmps24
  go_wp2_with fail
  go_loopw [3, 4] (fun sh si wq => ∃ i : Nat, i ≤ k.size ∧ si = .int .i64 (i : Int) ∧ sh = .int .u64 (fnv (k.data.toList.take i) : Nat) ∧ wq = w) (fun _ si _ => ((k.size : Int) - intOf si).toNat)
  case atStart => exact ⟨0, by omega, rfl, by simp [fnv], rfl⟩
  case round =>
    obtain ⟨i, hi, rfl, rfl, rfl⟩ := hrel
    rcases Nat.lt_or_eq_of_le hi with hlt | heq
    · have g1 : decide ((i : Int) < (k.size : Int)) = true := by simp; omega
      have hll : i < k.data.toList.length := by simpa using hlt
      have HF : Hid (fnv (k.data.toList.take (i + 1)) = fnvS (fnv (k.data.toList.take i)) k.data.toList[i].toNat) := fnv_take hll
      have hx := fnv_lt (k.data.toList.take i)
      generalize fnv (k.data.toList.take i) = x at *
      go_wp2_with fail
      go_roundw
      case rel => exact ⟨i + 1, by omega, by go_num, by rw [fnv_walk x k[i].toNat hx (UInt8.toNat_lt _), HF.out, byte_at k i hlt hll], trivial⟩
      case measure => simp [intOf]; omega
    · have g1 : decide ((i : Int) < (k.size : Int)) = false := by simp; omega
      have hfull : k.data.toList.take i = k.data.toList := by
        rw [heq]
        exact List.take_of_length_le (by simp)
      rw [hfull]
      have hx := fnv_lt k.data.toList
      have HC : Hid (ctz 64 (fnv k.data.toList) ≤ 64 ∧ (∀ j, j < ctz 64 (fnv k.data.toList) → (fnv k.data.toList).testBit j = false) ∧ (ctz 64 (fnv k.data.toList) < 64 → (fnv k.data.toList).testBit (ctz 64 (fnv k.data.toList)) = true)) := ctz_bits hx
      obtain ⟨x, hxx⟩ : ∃ x, fnv k.data.toList = x := ⟨_, rfl⟩
      rw [hxx] at hx HC ⊢
      have HXX : Hid (fnv k.data.toList = x) := hxx
      clear hfull hxx
      go_wp2_with fail
      go_loopw [5] (fun sn wq => ∃ n : Nat, n ≤ ctz 64 x ∧ sn = .int .i64 (n : Int) ∧ wq = wr) (fun sn _ => (64 - intOf sn).toNat)
      case atStart => exact ⟨0, by omega, rfl, rfl⟩
      case round =>
        obtain ⟨n, hn, rfl, rfl⟩ := hrel
        have h64 := HC.out.1
        rcases Nat.lt_or_eq_of_le hn with hlt | hne
        · have g2 : decide ((n : Int) < 64) = true := by simp; omega
          have g3 : (bits BinOp.and IntKind.u64 ((x : Int) / 2 ^ n) 1 == 0) = true := by
            rw [bit_walk x n hx, HC.out.2.1 n hlt]
            rfl
          go_wp2_with fail
          go_roundw
          case rel => exact ⟨n + 1, by omega, by go_num, trivial⟩
          case measure => simp [intOf]; omega
        · have HG : Hid (hgtD (fnv k.data.toList) = if 16 < 1 + n / 2 then 16 else 1 + n / 2) := by
            rw [HXX.out, hne]
            rfl
          by_cases h16 : 16 < 1 + n / 2
          · rw [if_pos h16] at HG
            have g4 : decide ((16 : Int) < 1 + (n : Int) / 2) = true := by simp; omega
            by_cases h6 : n < 64
            · have g2 : decide ((n : Int) < 64) = true := by simp; omega
              have g3 : (bits BinOp.and IntKind.u64 ((x : Int) / 2 ^ n) 1 == 0) = false := by
                rw [bit_walk x n hx, hne, HC.out.2.2 (by omega)]
                rfl
              clear hne
              go_wp2_with fail
              go_ret
              exact ⟨by rw [HG.out]; rfl, rfl⟩
            · have g2 : decide ((n : Int) < 64) = false := by simp; omega
              clear hne
              go_wp2_with fail
              go_ret
              exact ⟨by rw [HG.out]; rfl, rfl⟩
          · rw [if_neg h16] at HG
            have g4 : decide ((16 : Int) < 1 + (n : Int) / 2) = false := by simp; omega
            by_cases h6 : n < 64
            · have g2 : decide ((n : Int) < 64) = true := by simp; omega
              have g3 : (bits BinOp.and IntKind.u64 ((x : Int) / 2 ^ n) 1 == 0) = false := by
                rw [bit_walk x n hx, hne, HC.out.2.2 (by omega)]
                rfl
              clear hne
              go_wp2_with fail
              go_ret
              exact ⟨by rw [HG.out]; rfl, rfl⟩
            · have g2 : decide ((n : Int) < 64) = false := by simp; omega
              clear hne
              go_wp2_with fail
              go_ret
              exact ⟨by rw [HG.out]; rfl, rfl⟩

end Go.Proofs.Ytojfohpnfciajaa
