/- Below, on both sides. -/
import Derived.Test.YtammkfilihlmhaaWHis2
namespace Go.Proofs.Ytammkfilihlmhaa
open Go.RowKit
set_option maxRecDepth 100000

theorem sumU_nonneg (C : List Int) : 0 ≤ sumU C ∧ sumU C < 18446744073709551616 := by rw [sumU_eq]; omega
theorem pairI {a b c d : Int} (h : a = c) (h' : b = d) : Ending.returned (.tuple #[.int .i64 a, .int .i64 b]) = Ending.returned (.tuple #[.int .i64 c, .int .i64 d]) := by rw [h, h']

set_option maxHeartbeats 4000000 in
theorem below_any (C : List Int) (t : Int) (g : Nat) (w : World) (hR : RowN w g .u64 C) (hl : C.length = 65) (hne : ¬ sumU C = 0) (_t0 : 0 ≤ t) (_t1 : t ≤ 1000) (hin : ∀ x ∈ C, 0 ≤ x ∧ x < 18446744073709551616) :
    Calls Try.prog 40 #[.slice (some ⟨g, 0, none⟩) 65 65, .int .u64 t] w fun e w' => e = .returned (.tuple #[.int .i64 (bel C (sumU C * t % 18446744073709551616) 64 0 : Nat), .int .i64 0]) ∧ Below w.heap.size w w' := by
  have HR : Hid (RowN _ _ _ _) := hR
  clear hR
  generalize hA : bel C (sumU C * t % 18446744073709551616) 64 0 = A
  have HA : Hid _ := hA
  clear hA
  go_enter Try.func40, Try.ntmps40
  go_wp2_with fail
  go_loopw [6, 8, 13] (fun s _ i wr => ∃ j : Nat, j ≤ 65 ∧ i = .int .i64 (j : Int) ∧ s = .int .u64 (sumU (C.take j)) ∧ wr = w) (fun _ _ i _ => 65 - (intOf i).toNat)
  case atStart => exact ⟨0, Nat.zero_le _, by go_num, by simp [sumU], rfl⟩
  case round =>
    obtain ⟨j, hj, rfl, rfl, hw⟩ := hrel
    rw [hw]
    clear hw
    by_cases hj0 : j = 65
    · subst hj0
      have e : sumU (C.take 65) = sumU C := by rw [← hl, List.take_length]
      rw [e]
      obtain ⟨c1, _⟩ := HR.out.2 0 (by omega)
      have H1 : Hid (sumU (C.take (0 + 1)) = _) := sumU_take C 0 (by omega)
      have hy01 := hin C[0] (List.getElem_mem _)
      generalize C[0] = y at *
      generalize hq : sumU C = q at *
      have hb0 : bel C (q * t % 18446744073709551616) (64 - 0) 0 = A := HA.out
      have HB0 : Hid _ := hb0
      have e0 : sumU (C.take 1) = y := by
        have := H1.out
        have hy := (show 0 ≤ y ∧ y < 18446744073709551616 from hy01)
        rw [Nat.zero_add] at this
        rw [this]
        simp [sumU]
        omega
      have HY : Hid _ := e0
      clear hb0 HA H1 e0
      go_wp2_with fail
      go_region
      go_wp2_with fail
      go_loopw [9, 10] (fun z u wr => ∃ j : Nat, j ≤ 64 ∧ z = .int .i64 (j : Int) ∧ u = .int .u64 (sumU (C.take (j + 1))) ∧ Hid (bel C (q * t % 18446744073709551616) (64 - j) j = A) ∧ Hid (Below w.heap.size w wr)) (fun z _ _ => 64 - (intOf z).toNat)
      case atStart => exact ⟨0, Nat.zero_le _, by go_num, by rw [Nat.zero_add, HY.out], HB0, (Below.refl _ _).drew⟩
      case round =>
        obtain ⟨j, hj, rfl, rfl, hB, hn⟩ := hrel
        by_cases hj0 : j = 64
        · subst hj0
          have e : 64 = A := hB.out
          go_wp2_with fail
          go_ret2
          exact ⟨pairI (by omega) rfl, hn.out⟩
        · have hj1 : j < 64 := by omega
          have hj2 : (j : Int) < 64 := by omega
          obtain ⟨k, hk⟩ : ∃ k, 64 - j = k + 1 := ⟨63 - j, by omega⟩
          have hB' := hB.out
          rw [hk] at hB'
          unfold bel at hB'
          have HU : Hid (sumU (C.take (j + 1 + 1)) = _) := sumU_take C (j + 1) (by omega)
          obtain ⟨c2, _⟩ := HR.out.2 (j + 1) (by omega)
          have c3 := (hn.out.cell (p := ⟨g, j + 1, none⟩) HR.out.1).trans c2
          have hk' : k = 64 - (j + 1) := by omega
          have hc1 : ((j : Int) + 1) < 65 := by omega
          generalize C[j + 1]'(by omega) = z at *
          generalize sumU (C.take (j + 1)) = u at *
          by_cases hlt : u * 1000 % 18446744073709551616 < q * t % 18446744073709551616
          · rw [if_pos hlt, hk'] at hB'
            have HB' : Hid _ := hB'
            clear hB' hB c2
            have hlt' : IntKind.u64.wrap (u * 1000) < IntKind.u64.wrap (q * t) := by rw [IntKind.wrap_u64, IntKind.wrap_u64]; exact hlt
            go_wp2_with fail
            go_roundw
            case rel => exact ⟨j + 1, hj1, by go_num, by rw [HU.out, IntKind.wrap_u64], HB', hn⟩
            case measure => simp [intOf]; omega
          · rw [if_neg hlt] at hB'
            have HB' : Hid _ := hB'
            clear hB' hB c2 c3
            have hlt' : ¬ IntKind.u64.wrap (u * 1000) < IntKind.u64.wrap (q * t) := by rw [IntKind.wrap_u64, IntKind.wrap_u64]; exact hlt
            go_wp2_with fail
            go_ret2
            exact ⟨pairI (by have := HB'.out; omega) rfl, hn.out⟩
    · have hj1 : j < 65 := by omega
      have hj2 : j < C.length := by omega
      obtain ⟨c1, _⟩ := HR.out.2 j hj2
      have HS : Hid (sumU (C.take (j + 1)) = _) := sumU_take C j hj2
      generalize C[j] = x at *
      go_wp2_with fail
      go_roundw
      case rel => exact ⟨j + 1, hj1, by go_num, by rw [HS.out, IntKind.wrap_u64], trivial⟩
      case measure => simp [intOf]; omega
end Go.Proofs.Ytammkfilihlmhaa
