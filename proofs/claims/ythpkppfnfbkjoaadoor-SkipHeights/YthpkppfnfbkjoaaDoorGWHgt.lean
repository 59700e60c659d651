/- Layer 12: Height. -/
import Derived.Test.YthpkppfnfbkjoaaDoorGWSh12
import Derived.Test.YthpkppfnfbkjoaaDoorGWHgtR
namespace Go.Proofs.YthpkppfnfbkjoaaDoor
open Go.RowKit Go.Lib
set_option maxRecDepth 100000

abbrev Tab (w : World) : Prop := TabAt 0 Lib.deBruijn64tab w
theorem tz_any (x : Nat) (hx : x < 18446744073709551616) (w : World) (hT : Tab w) : Calls Tryd.prog 7 #[.int .u64 (x : Nat)] w fun e w' => e = .returned (.int .i64 (ctz 64 x : Nat)) ∧ w' = w :=
  Any7.bits_TrailingZeros64 Tryd.lays729 x hx w (fun _ => hT)

set_option maxHeartbeats 4000000 in
theorem height_any (k : ByteArray) (w : World) (hk : k.size ≤ 140737488351232) (hT : Tab w) :
    Calls Tryd.prog 4 #[.string k] w fun e w' => e = .returned (.int .i64 (hgtD (fnv k.data.toList) : Nat)) ∧ w' = w := by
  have HT : Hid (Tab w) := hT
  clear hT
  go_enter Tryd.func4, Tryd.ntmps4
  go_wp2_with fail
  go_loopw [3, 7] (fun sh si wq => ∃ i : Nat, i ≤ k.size ∧ si = .int .i64 (i : Int) ∧ sh = .int .u64 (fnv (k.data.toList.take i) : Nat) ∧ wq = w) (fun _ si _ => ((k.size : Int) - intOf si).toNat)
  case atStart => exact ⟨0, by omega, rfl, by simp [fnv], rfl⟩
  case round =>
    obtain ⟨i, hi, rfl, rfl, rfl⟩ := hrel
    rcases Nat.lt_or_eq_of_le hi with hlt | heq
    · have g1 : decide ((i : Int) < (k.size : Int)) = true := by simp; omega
      have hll : i < k.data.toList.length := by simpa using hlt
      have HF : Hid (fnv (k.data.toList.take (i + 1)) = fnvS (fnv (k.data.toList.take i)) k.data.toList[i].toNat) := fnv_take hll
      have hx := fnv_lt (k.data.toList.take i)
      generalize fnv (k.data.toList.take i) = x at *
      go_wp2_with fail
      go_roundw
      case rel => exact ⟨i + 1, by omega, by go_num, by rw [fnv_walk x k[i].toNat hx (UInt8.toNat_lt _), HF.out, byte_at k i hlt hll], trivial⟩
      case measure => simp [intOf]; omega
    · have g1 : decide ((i : Int) < (k.size : Int)) = false := by simp; omega
      have hfull : k.data.toList.take i = k.data.toList := by
        rw [heq]
        exact List.take_of_length_le (by simp)
      rw [hfull]
      have hx := fnv_lt k.data.toList
      have hc := (ctz_bits hx).1
      have C1 : Hid (Calls _ _ _ _ _) := tz_any _ hx wr HT.out
      obtain ⟨x, hxx⟩ : ∃ x, fnv k.data.toList = x := ⟨_, rfl⟩
      have HXX : Hid (fnv k.data.toList = x) := hxx
      rw [hxx] at hx hc C1 ⊢
      clear hfull hxx
      go_wp2_with fail
      refine C1.out.mono ?_
      rintro e w9 ⟨rfl, hw9⟩
      rw [hw9]
      clear hw9 C1
      obtain ⟨n, hn⟩ : ∃ n, ctz 64 x = n := ⟨_, rfl⟩
      have HG : Hid (hgtD (fnv k.data.toList) = if 16 < 1 + n / 2 then 16 else 1 + n / 2) := by
        rw [HXX.out, ← hn]
        rfl
      rw [hn] at hc ⊢
      clear hn
      by_cases h16 : 16 < 1 + n / 2
      · rw [if_pos h16] at HG
        go_wp2_with fail
        go_ret
        exact ⟨by rw [HG.out]; rfl, rfl⟩
      · rw [if_neg h16] at HG
        go_wp2_with fail
        go_ret
        exact ⟨by rw [HG.out]; rfl, rfl⟩

end Go.Proofs.YthpkppfnfbkjoaaDoor
