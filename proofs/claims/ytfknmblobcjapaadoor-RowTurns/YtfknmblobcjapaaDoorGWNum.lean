/- The walks of reading a number, on both sides. The walk of the document's number. The walk of unzigzag. -/
import Derived.OwnWalk
import Derived.Test.YtfknmblobcjapaaDoorGMRow2
import Derived.Test.YtfknmblobcjapaaDoorGWVarint
namespace Go.Proofs.YtfknmblobcjapaaDoor
open Go.RowKit
set_option maxRecDepth 100000

theorem idx_at (s : ByteArray) (j : Nat) (hj : j < s.size) (w : World) : (Instr.index 9 (.string s) (.int .i64 (j : Int))).run Tryd.prog w = .ok (.int .u8 (s[j].toNat : Int)) w := by
  rw [run_index_string w 9 s .i64 (j : Int) Tryd.underlying9, dif_pos (by omega)]
  simp

/-- how readVarint ends -/
def NumP (s : ByteArray) (w : World) (e : Ending) (w' : World) : Prop := ∃ (n k : Nat) (b : Bool), e = .returned (.tuple #[.int .u64 (n : Int), .int .i64 (k : Int), .bool b]) ∧ n < 18446744073709551616 ∧ ((b = true ∧ rdV s = (n, k) ∧ 0 < k) ∨ (b = false ∧ (rdV s).2 = 0)) ∧ w' = w
theorem NumP.yes {s : ByteArray} {w w' : World} {e : Ending} (n k : Nat) (he : e = .returned (.tuple #[.int .u64 (n : Int), .int .i64 (k : Int), .bool true])) (h : Hid (n < 18446744073709551616 ∧ rdV s = (n, k) ∧ 0 < k)) (hw : w' = w) : NumP s w e w' := ⟨n, k, true, he, h.out.1, .inl ⟨rfl, h.out.2⟩, hw⟩
theorem NumP.no {s : ByteArray} {w w' : World} {e : Ending} (n k : Nat) (he : e = .returned (.tuple #[.int .u64 (n : Int), .int .i64 (k : Int), .bool false])) (h : Hid (n < 18446744073709551616 ∧ (rdV s).2 = 0)) (hw : w' = w) : NumP s w e w' := ⟨n, k, false, he, h.out.1, .inr ⟨rfl, h.out.2⟩, hw⟩

set_option maxHeartbeats 4000000 in
theorem readVarint_any (s : ByteArray) (w : World) (hs : s.size ≤ 140737488351232) :
    Calls Tryd.prog 25 #[.string s] w (NumP s w) := by
  obtain ⟨m, hm⟩ : ∃ m, min s.size 10 = m := ⟨_, rfl⟩
  have hm10 : m ≤ 10 := by omega
  have hms : m ≤ s.size := by omega
  have hmi : (if (10 : Int) < (s.size : Int) then (10 : Int) else (s.size : Int)) = (m : Int) := by split <;> omega
  have HE : Hid (∀ n, rdK (s.data.toList.drop m) m n = (0, 0)) := fun n => by
    rcases Nat.lt_or_ge s.size 10 with h | h
    · exact rdK_end (by omega)
    · rw [show m = 10 by omega]
      exact rdK_ten _ _
  go_enter Tryd.func25, Tryd.ntmps25
  go_wp2_with fail
  have h00 : Hid (rdK (s.data.toList.drop 0) 0 0 = rdV s) := rfl
  clear hm
  go_loopw [5, 13] (fun x k wr => ∃ j n : Nat, j ≤ m ∧ k = .int .i64 (j : Int) ∧ x = .int .u64 (n : Int) ∧ n < 18446744073709551616 ∧ Hid ((j ≤ 9 → n < 128 ^ j ∧ rdK (s.data.toList.drop j) j n = rdV s) ∧ (j = 10 → (rdV s).2 = 0)) ∧ wr = w) (fun _ k _ => m - (intOf k).toNat)
  case atStart => exact ⟨0, 0, Nat.zero_le _, by go_num, by go_num, by omega, ⟨fun _ => ⟨by decide, h00.out⟩, fun h => by omega⟩, rfl⟩
  case round =>
    obtain ⟨j, n, hj, rfl, rfl, hn, hI, rfl⟩ := hrel
    by_cases hj0 : j = m
    · subst hj0
      have HZ : Hid ((rdV s).2 = 0) := by
        show _ = _
        rcases Nat.lt_or_ge j 10 with h | h
        · rw [← (hI.out.1 (by omega)).2, HE.out]
        · exact hI.out.2 (by omega)
      clear hI HE h00
      go_wp2
      go_ret3
      exact NumP.no 0 0 rfl ⟨by decide, HZ.out⟩ rfl
    · have hj1 : j < s.size := by omega
      have hj9 : j ≤ 9 := by omega
      have hix : ∀ w1 : World, (Instr.index 9 (.string s) (.int .i64 (j : Int))).run Tryd.prog w1 = .ok (.int .u8 (s[j].toNat : Int)) w1 := fun w1 => idx_at s j hj1 w1
      have HK : Hid (rdV s = if s[j].toNat < 128 then (if (j = 9 ∧ 1 < s[j].toNat) ∨ (0 < j ∧ s[j].toNat = 0) then (0, 0) else (n + s[j].toNat * 128 ^ j, j + 1)) else rdK (s.data.toList.drop (j + 1)) (j + 1) (n + s[j].toNat % 128 * 128 ^ j)) := by
        show _ = _
        rw [← (hI.out.1 hj9).2]
        exact rdK_at hj1 (by omega)
      have HN := (hI.out.1 hj9).1
      have hc : s[j].toNat < 256 := s[j].toNat_lt
      generalize s[j].toNat = c at *
      have hp := part_u8 c hc
      have hp1 : c % 128 < 128 := Nat.mod_lt _ (by decide)
      have hcp : c < 128 → c % 128 = c := fun h => Nat.mod_eq_of_lt h
      have HFit : Hid (j ≤ 8 ∨ c % 128 ≤ 1 → c % 128 * 128 ^ j % 18446744073709551616 = c % 128 * 128 ^ j ∧ n ||| c % 128 * 128 ^ j % 18446744073709551616 = n + c % 128 * 128 ^ j ∧ c % 128 * 128 ^ j % 18446744073709551616 / 128 ^ j = c % 128 ∧ n + c % 128 * 128 ^ j < 128 ^ (j + 1)) := fun h => num_fit hp1 hj9 HN h
      have HUn : Hid (j = 9 → 1 < c % 128 → c % 128 * 128 ^ j % 18446744073709551616 / 128 ^ j ≠ c % 128) := fun h h1 => by subst h; exact num_unfit hp1 h1
      have hsh : IntKind.u64.wrap (((c % 128 : Nat) : Int) * 2 ^ (7 * (j : Int)).toNat) = ((c % 128 * 128 ^ j % 18446744073709551616 : Nat) : Int) := by
        have e : (7 * (j : Int)).toNat = 7 * j := by omega
        have e2 : ((c % 128 : Nat) : Int) * 2 ^ (7 * j) = ((c % 128 * 128 ^ j : Nat) : Int) := by
          rw [← pow128_two]
          norm_cast
        rw [e, e2]
        generalize c % 128 * 128 ^ j = zz
        simp [IntKind.wrap, IntKind.bits, IntKind.signed]
      have hXl : n ||| c % 128 * 128 ^ j % 18446744073709551616 < 18446744073709551616 := num_x hn
      have hor := bits_or64 n (c % 128 * 128 ^ j % 18446744073709551616) hn (Nat.mod_lt _ (by decide))
      have hshr : ((c % 128 * 128 ^ j % 18446744073709551616 : Nat) : Int) / 2 ^ (7 * (j : Int)).toNat = ((c % 128 * 128 ^ j % 18446744073709551616 / 128 ^ j : Nat) : Int) := by
        have e : (7 * (j : Int)).toNat = 7 * j := by omega
        rw [e, ← pow128_two]
        norm_cast
      have hHl : c % 128 * 128 ^ j % 18446744073709551616 < 18446744073709551616 := Nat.mod_lt _ (by decide)
      generalize hH : c % 128 * 128 ^ j % 18446744073709551616 = H at *
      generalize hF : H / 128 ^ j = F at *
      generalize hX : n ||| H = X at *
      generalize c % 128 = p at *
      clear hI HE h00
      have hc7 : ∀ h : c < 128, (c : Int) < 128 := fun h => by omega
      clear hc7
      rcases Nat.lt_or_ge c 128 with hlo | hhi
      · rw [if_pos hlo] at HK
        have hpc := hcp hlo
        subst hpc
        by_cases hF2 : F = p
        · have hFb : ((F : Int) == (p : Int)) = true := by rw [hF2]; simp
          have hfit : j ≤ 8 ∨ p ≤ 1 := by
            apply Classical.byContradiction
            intro h
            exact HUn.out (by omega) (by omega) hF2
          obtain ⟨g1, g2, g3, g4⟩ := HFit.out hfit
          by_cases hp0 : p = 0
          · have hpb : ((p : Int) != 0) = false := by rw [hp0]; rfl
            by_cases hz : j = 0
            · have hzb : ((j : Int) == 0) = true := by rw [hz]; rfl
              have R : Hid (X < 18446744073709551616 ∧ rdV s = (X, j + 1) ∧ 0 < j + 1) := by
                refine ⟨hXl, ?_, by omega⟩
                rw [HK.out, if_neg (by omega), g2]
              clear HK HFit HUn g1 g2 g3 g4 hfit hF2 hp0 hz hX hH hF
              go_wp2
              go_ret3
              exact NumP.yes X (j + 1) (by simp) R rfl
            · have hzb : ((j : Int) == 0) = false := by simp; omega
              have R : Hid (X < 18446744073709551616 ∧ (rdV s).2 = 0) := by
                refine ⟨hXl, ?_⟩
                rw [HK.out, if_pos (by omega)]
              clear HK HFit HUn g1 g2 g3 g4 hfit hF2 hp0 hz hX hH hF
              go_wp2
              go_ret3
              exact NumP.no X (j + 1) (by simp) R rfl
          · have hpb : ((p : Int) != 0) = true := by simp; omega
            have R : Hid (X < 18446744073709551616 ∧ rdV s = (X, j + 1) ∧ 0 < j + 1) := by
              refine ⟨hXl, ?_, by omega⟩
              rw [HK.out, if_neg (by omega), g2]
            clear HK HFit HUn g1 g2 g3 g4 hfit hF2 hp0 hX hH hF
            go_wp2
            go_ret3
            exact NumP.yes X (j + 1) (by simp) R rfl
        · have hFb : ((F : Int) == (p : Int)) = false := by simp; omega
          have hun : j = 9 ∧ 1 < p := by
            apply Classical.byContradiction
            intro h
            exact hF2 (HFit.out (by omega)).2.2.1
          have R : Hid (X < 18446744073709551616 ∧ (rdV s).2 = 0) := by
            refine ⟨hXl, ?_⟩
            rw [HK.out, if_pos (.inl hun)]
          clear HK HFit HUn hF2 hX hH hF hun
          go_wp2
          go_ret3
          exact NumP.no X (j + 1) (by simp) R rfl
      · rw [if_neg (by omega)] at HK
        have R : Hid ((j + 1 ≤ 9 → X < 128 ^ (j + 1) ∧ rdK (s.data.toList.drop (j + 1)) (j + 1) X = rdV s) ∧ (j + 1 = 10 → (rdV s).2 = 0)) := by
          refine ⟨fun h => ?_, fun h => ?_⟩
          · obtain ⟨g1, g2, g3, g4⟩ := HFit.out (.inl (by omega))
            rw [g2]
            exact ⟨g4, HK.out.symm⟩
          · rw [HK.out, h, rdK_ten]
        have hjm : j + 1 ≤ m := by omega
        clear HK HFit HUn hX hH hF
        go_wp2_with fail
        go_roundw
        case rel => exact ⟨j + 1, X, hjm, by go_num, by go_num, hXl, R, trivial⟩
        case measure => simp [intOf]; omega

end Go.Proofs.YtfknmblobcjapaaDoor

namespace Go.Proofs.YtfknmblobcjapaaDoor
open Go.RowKit
set_option maxRecDepth 100000

theorem part_and8 (c : Nat) (h : c < 256) : bits .and .u8 (c : Int) 127 = ((c % 128 : Nat) : Int) := by
  have h1 := u8_and_nat c 127 h (by decide)
  rw [show ((127 : Nat) : Int) = 127 from rfl] at h1
  rw [h1]
  congr 1
  exact Nat.and_two_pow_sub_one_eq_mod c 7
theorem numE {p q : Nat × Nat} (h : p = q) : Ending.returned (.tuple #[.int .u64 (p.1 : Int), .int .i64 (p.2 : Int)]) = Ending.returned (.tuple #[.int .u64 (q.1 : Int), .int .i64 (q.2 : Int)]) := by rw [h]



end Go.Proofs.YtfknmblobcjapaaDoor

namespace Go.Proofs.YtfknmblobcjapaaDoor
open Go.RowKit
set_option maxRecDepth 100000

/-- the int of a zigzag -/
def unz (n : Nat) : Int := if n % 2 = 0 then ((n / 2 : Nat) : Int) else -((n / 2 : Nat) : Int) - 1
theorem i64V {a b : Int} (h : a = b) : Ending.returned (.int .i64 a) = Ending.returned (.int .i64 b) := by rw [h]

theorem xor_up (m : Nat) (hm : m < 9223372036854775808) : bits .xor .i64 (-1) (m : Int) = -(m : Int) - 1 := by
  show IntKind.i64.wrap ((BitVec.ofInt 64 (-1) ^^^ BitVec.ofInt 64 (m : Int)).toNat : Int) = _
  have h1 : BitVec.ofInt 64 (-1) = BitVec.allOnes 64 := by decide
  have h2 : (BitVec.ofInt 64 (m : Int)).toNat = m := ofInt_nat64 m (by omega)
  rw [h1, BitVec.allOnes_xor, BitVec.toNat_not, h2]
  simp [IntKind.wrap, IntKind.bits, IntKind.signed]
  omega

set_option maxHeartbeats 1000000 in
theorem unzigzag_any (n : Nat) (w : World) (hn : n < 18446744073709551616) :
    Calls Tryd.prog 64 #[.int .u64 (n : Int)] w fun e w' => e = .returned (.int .i64 (unz n)) ∧ w' = w := by
  have HU : Hid (unz n = if n % 2 = 0 then ((n / 2 : Nat) : Int) else -((n / 2 : Nat) : Int) - 1) := rfl
  generalize unz n = u at *
  by_cases h : n % 2 = 0
  · rw [if_pos h] at HU
    have hm : ((n : Int) % 2 == 0) = true := by simp; omega
    clear h
    go_enter Tryd.func64, Tryd.ntmps64
    go_wp2
    go_ret
    refine ⟨?_, rfl⟩
    rw [HU.out]
    exact i64V (by simp)
  · rw [if_neg h] at HU
    have hm : ((n : Int) % 2 == 0) = false := by simp; omega
    clear h
    go_enter Tryd.func64, Tryd.ntmps64
    go_wp2
    go_ret
    refine ⟨?_, rfl⟩
    rw [HU.out]
    have hx := xor_up (n / 2) (by omega)
    rw [show ((n / 2 : Nat) : Int) = (n : Int) / 2 by omega] at hx ⊢
    rw [← hx]
    exact i64V (by simp)

end Go.Proofs.YtfknmblobcjapaaDoor
