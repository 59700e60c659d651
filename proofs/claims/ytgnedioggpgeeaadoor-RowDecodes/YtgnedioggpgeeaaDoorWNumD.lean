/- The walk of the document's number. -/
import Derived.Test.YtgnedioggpgeeaaDoorWNum
namespace Go.Proofs.YtgnedioggpgeeaaDoor
open Go.RowKit
set_option maxRecDepth 100000

theorem part_and8 (c : Nat) (h : c < 256) : bits .and .u8 (c : Int) 127 = ((c % 128 : Nat) : Int) := by
  have h1 := u8_and_nat c 127 h (by decide)
  rw [show ((127 : Nat) : Int) = 127 from rfl] at h1
  rw [h1]
  congr 1
  exact Nat.and_two_pow_sub_one_eq_mod c 7
theorem numE {p q : Nat × Nat} (h : p = q) : Ending.returned (.tuple #[.int .u64 (p.1 : Int), .int .i64 (p.2 : Int)]) = Ending.returned (.tuple #[.int .u64 (q.1 : Int), .int .i64 (q.2 : Int)]) := by rw [h]

set_option maxHeartbeats 4000000 in
theorem rnumber_any (s : ByteArray) (w : World) (_hs : s.size ≤ 140737488351232) :
    Calls Tryd.prog 74 #[.string s] w fun e w' => e = .returned (.tuple #[.int .u64 ((rdV s).1 : Int), .int .i64 ((rdV s).2 : Int)]) ∧ w' = w := by
  have h00 : Hid (rdK (s.data.toList.drop 0) 0 0 = rdV s) := rfl
  go_enter Tryd.func74, Tryd.ntmps74
  go_wp2_with fail
  go_loopw [4, 5] (fun x k wr => ∃ j n : Nat, j ≤ s.size ∧ j ≤ 9 ∧ k = .int .i64 (j : Int) ∧ x = .int .u64 (n : Int) ∧ Hid (n < 128 ^ j ∧ rdK (s.data.toList.drop j) j n = rdV s) ∧ wr = w) (fun _ k _ => s.size - (intOf k).toNat)
  case atStart => exact ⟨0, 0, Nat.zero_le _, Nat.zero_le _, by go_num, by go_num, ⟨by decide, h00.out⟩, rfl⟩
  case round =>
    obtain ⟨j, n, hj, hj9, rfl, rfl, hI, rfl⟩ := hrel
    by_cases hj0 : j = s.size
    · have HZ : Hid (rdV s = (0, 0)) := by
        show _ = _
        rw [← hI.out.2]
        exact rdK_end hj0
      clear hI h00
      go_wp2
      go_ret2
      exact ⟨(numE HZ.out).symm, rfl⟩
    · have hj1 : j < s.size := by omega
      have hn : n < 18446744073709551616 := by
        have := hI.out.1
        have := pow128_le hj9
        omega
      have hix : ∀ w1 : World, (Instr.index 9 (.string s) (.int .i64 (j : Int))).run Tryd.prog w1 = .ok (.int .u8 (s[j].toNat : Int)) w1 := fun w1 => idx_at s j hj1 w1
      have HK : Hid (rdV s = if s[j].toNat < 128 then (if (j = 9 ∧ 1 < s[j].toNat) ∨ (0 < j ∧ s[j].toNat = 0) then (0, 0) else (n + s[j].toNat * 128 ^ j, j + 1)) else rdK (s.data.toList.drop (j + 1)) (j + 1) (n + s[j].toNat % 128 * 128 ^ j)) := by
        show _ = _
        rw [← hI.out.2]
        exact rdK_at hj1 (by omega)
      have HN := hI.out.1
      have hc : s[j].toNat < 256 := s[j].toNat_lt
      generalize s[j].toNat = c at *
      clear hI h00
      by_cases hbad : j = 9 ∧ 1 < c
      · have HZ : Hid (rdV s = (0, 0)) := by
          show _ = _
          rw [HK.out]
          split
          · rw [if_pos (.inl hbad)]
          · rw [hbad.1, rdK_ten]
        have hj9b : ((j : Int) == 9) = true := by rw [hbad.1]; rfl
        have hc1 : 1 < c := hbad.2
        clear HK HN hbad
        go_wp2
        go_ret2
        exact ⟨(numE HZ.out).symm, rfl⟩
      · have hp := part_and8 c hc
        have hp1 : c % 128 < 128 := Nat.mod_lt _ (by decide)
        have hple : c % 128 ≤ c := Nat.mod_le _ _
        obtain ⟨g1, g2, g3, g4⟩ := num_fit (n := n) hp1 hj9 HN (by omega)
        have hsh : IntKind.u64.wrap (((c % 128 : Nat) : Int) * 2 ^ (7 * (j : Int)).toNat) = ((c % 128 * 128 ^ j : Nat) : Int) := by
          have e : (7 * (j : Int)).toNat = 7 * j := by omega
          have e2 : ((c % 128 : Nat) : Int) * 2 ^ (7 * j) = ((c % 128 * 128 ^ j : Nat) : Int) := by
            rw [← pow128_two]
            norm_cast
          rw [e, e2]
          have : c % 128 * 128 ^ j < 18446744073709551616 := by rw [← g1]; exact Nat.mod_lt _ (by decide)
          generalize c % 128 * 128 ^ j = zz at this ⊢
          simp [IntKind.wrap, IntKind.bits, IntKind.signed]
          omega
        have hor := bits_or64 n (c % 128 * 128 ^ j % 18446744073709551616) hn (Nat.mod_lt _ (by decide))
        rw [g2, g1] at hor
        have hcp : c < 128 → c % 128 = c := fun h => Nat.mod_eq_of_lt h
        have hcp2 : c < 128 → n + c * 128 ^ j = n + c % 128 * 128 ^ j := fun h => by rw [hcp h]
        generalize hX : n + c % 128 * 128 ^ j = X at *
        generalize c % 128 * 128 ^ j = H at *
        generalize c % 128 = p at *
        clear g1 g2 g3 hX
        rcases Nat.lt_or_ge c 128 with hlo | hhi
        · rw [if_pos hlo, hcp2 hlo] at HK
          by_cases hzero : 0 < j ∧ c = 0
          · have HZ : Hid (rdV s = (0, 0)) := by
              show _ = _
              rw [HK.out, if_pos (.inr hzero)]
            have hz1 : 0 < j := hzero.1
            have hz2 : ((c : Int) == 0) = true := by rw [hzero.2]; rfl
            clear HK HN hbad hcp hcp2 g4
            by_cases h9 : j = 9
            · have hj9b : ((j : Int) == 9) = true := by rw [h9]; rfl
              have hc1 : c ≤ 1 := by omega
              clear h9 hzero
              go_wp2
              go_ret2
              exact ⟨(numE HZ.out).symm, rfl⟩
            · have hj9b : ((j : Int) == 9) = false := by simp; omega
              clear h9 hzero
              go_wp2
              go_ret2
              exact ⟨(numE HZ.out).symm, rfl⟩
          · have HZ : Hid (rdV s = (X, j + 1)) := by
              show _ = _
              rw [HK.out, if_neg (by omega)]
            clear HK HN hcp hcp2 g4
            by_cases hj00 : j = 0
            · have hj9b : ((j : Int) == 9) = false := by rw [hj00]; rfl
              have hjz : (j : Int) ≤ 0 := by omega
              clear hbad hzero hj00
              go_wp2
              go_ret2
              exact ⟨(numE HZ.out).symm, rfl⟩
            · have hjp : 0 < j := by omega
              have hcz : ((c : Int) == 0) = false := by simp; omega
              by_cases h9 : j = 9
              · have hj9b : ((j : Int) == 9) = true := by rw [h9]; rfl
                have hc1 : c ≤ 1 := by omega
                clear h9 hzero hbad hj00
                go_wp2
                go_ret2
                exact ⟨(numE HZ.out).symm, rfl⟩
              · have hj9b : ((j : Int) == 9) = false := by simp; omega
                clear h9 hzero hbad hj00
                go_wp2
                go_ret2
                exact ⟨(numE HZ.out).symm, rfl⟩
        · rw [if_neg (by omega)] at HK
          have hj8 : j ≤ 8 := by omega
          have hj9b : ((j : Int) == 9) = false := by simp; omega
          have R : Hid (X < 128 ^ (j + 1) ∧ rdK (s.data.toList.drop (j + 1)) (j + 1) X = rdV s) := ⟨g4, HK.out.symm⟩
          clear HK g4 HN hbad hcp hcp2
          go_wp2_with fail
          go_roundw
          case rel => exact ⟨j + 1, X, by omega, by omega, by go_num, by go_num, R, trivial⟩
          case measure => simp [intOf]; omega
end Go.Proofs.YtgnedioggpgeeaaDoor
