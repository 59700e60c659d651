/- The law of Ring. -/
import Derived.Test.YtckjgnjakkeodaaWClkE
import Derived.Test.YtckjgnjakkeodaaMClk2
namespace Go.Proofs.Ytckjgnjakkeodaa
open Go.RowKit
set_option maxRecDepth 100000

theorem ringT (n : Nat) (hn : n ≤ 4611686018427379712) (j b : Nat) (wr : World) (hj : j < 4096) (hC : ClkE wr b (n + j) (run n j)) : Calls Try.prog 13 #[.pointer (some ⟨b, 0, none⟩)] wr fun e w' => e = .returned (.tuple #[.int .u64 ((n : Int) + ((j : Int) + 1)), .int .i64 0]) ∧ ClkE w' b (n + (j + 1)) (run n (j + 1)) ∧ wr.grownBy w' (some b) := by
  have := takeE_ok b (n + j) (run n j) wr hC (by omega) (by rw [frO_run]; omega)
  rw [run_succ]
  rw [show ((n + j + 1 : Nat) : Int) = (n : Int) + ((j : Int) + 1) by omega] at this
  exact this
theorem ringF (n : Nat) (hn : n ≤ 4611686018427379712) (b : Nat) (wr : World) (hC : ClkE wr b (n + 4096) (run n 4096)) : Calls Try.prog 13 #[.pointer (some ⟨b, 0, none⟩)] wr fun e w' => e = .returned (.tuple #[.int .u64 0, .int .i64 2]) ∧ ClkE w' b (n + 4096) (run n 4096) ∧ wr.grownBy w' (some b) :=
  takeE_full b (n + 4096) (run n 4096) wr hC (by omega) (by rw [frO_run])

set_option maxHeartbeats 16000000 in
theorem lawRing (k sk : Nat) (w : World) (hk2 : k < 18446744073709551616) (hsk : sk < 65536) :
    Calls Try.prog 5 #[.int .u64 (k : Int), .int .u16 (sk : Int)] w fun e w' => e = .returned (.bool true) ∧ Below w.heap.size w w' := by
  obtain ⟨t, ht0⟩ : ∃ t : Nat, t = sk % 4096 := ⟨_, rfl⟩
  have htl : t < 4096 := by omega
  have HT : Hid (t = sk % 4096) := ht0
  clear ht0
  by_cases hk : k ≤ 4611686018427379712
  · generalize k = n at *
    have CT : Hid (∀ (j b : Nat) (wr : World), _) := fun j b wr => ringT n hk j b wr
    have CF : Hid (∀ (b : Nat) (wr : World), _) := fun b wr => ringF n hk b wr
    have C1 : Hid (Calls _ _ _ _ _) := newE n w (by omega)
    have a0 : ¬ (4611686018427379712 < (n : Int)) := by omega
    go_enter Try.func5, Try.ntmps5
    go_wp2_with fail
    refine C1.out.mono ?_
    rintro e w1 ⟨b, rfl, hC, hb, hB⟩
    have HC : Hid (ClkE w1 b (n + 0) (run n 0)) := hC
    have HB : Hid (Below _ _ _) := hB
    clear C1 hC hB
    go_wp2_with fail
    go_loopw [7, 8, 9] (fun i _ _ wr => ∃ j : Nat, j ≤ 4096 ∧ i = .int .u64 ((j : Int) + 1) ∧ Hid (ClkE wr b (n + j) (run n j)) ∧ Hid (Below w.heap.size w wr)) (fun i _ _ _ => 4097 - (intOf i).toNat)
    case atStart => exact ⟨0, Nat.zero_le _, by simp, HC, HB⟩
    case round =>
      obtain ⟨j, hj, rfl, hC, hB⟩ := hrel
      clear HC HB
      by_cases hj0 : j < 4096
      · have a1 : (j : Int) + 1 ≤ 4096 := by omega
        have C2 : Hid (True → Calls _ _ _ _ _) := fun _ => CT.out j b wr hj0 hC.out
        clear hj
        have hj2 : j ≤ 4611686018427379712 := by omega
        go_wp2_with fail
        refine (C2.out trivial).mono ?_
        rintro e w2 ⟨rfl, hC2, hG2⟩
        have HC2 : Hid (ClkE _ _ _ _) := hC2
        have HB2 : Hid (Below w.heap.size w w2) := below_own hB.out hG2 hb
        clear hC2 hG2 hC hB
        go_wp2_with fail
        go_roundw
        case rel => exact ⟨j + 1, by omega, by simp, HC2, HB2⟩
        case measure => simp [intOf]; omega
      · have hj4 : j = 4096 := by omega
        have a1 : ¬ ((j : Int) + 1 ≤ 4096) := by omega
        rw [hj4] at hC
        have C3 : Hid (True → Calls _ _ _ _ _) := fun _ => CF.out b wr hC.out
        clear hj hj0 hC
        have hj2 : j ≤ 4611686018427379712 := by omega
        clear hj4
        go_wp2_with fail
        refine (C3.out trivial).mono ?_
        rintro e w2 ⟨rfl, hC2, hG2⟩
        have HC2 : Hid (ClkE _ _ _ _) := hC2
        have HB2 : Hid (Below w.heap.size w w2) := below_own hB.out hG2 hb
        clear hC2 hG2 hB C3 a1 CT CF
        have ht : (sk : Int) % 4096 = (t : Int) := by rw [HT.out]; omega
        clear HT
        by_cases h0 : t = 0
        · have ht0 : (sk : Int) % 4096 = 0 := by omega
          clear ht h0 htl
          have C4 : Hid (True → Calls _ _ _ _ _) := fun _ => doneE_ok b (n + 4096) (run n 4096) (n + 1) w2 HC2.out (by rw [mem_run]; omega)
          rw [show ((n + 1 : Nat) : Int) = (n : Int) + 1 by omega] at C4
          go_wp2_with fail
          refine (C4.out trivial).mono ?_
          rintro e w3 ⟨rfl, hC3, hG3⟩
          have C5 : Hid (True → Calls _ _ _ _ _) := fun _ => takeE_ok b (n + 4096) (left (run n 4096) (n + 1)) w3 hC3 (by omega) (by rw [frO_run_first _ _ _ (by decide)]; omega)
          have HB3 : Hid (Below w.heap.size w w3) := below_own HB2.out hG3 hb
          clear hC3 hG3 HC2 HB2 C4
          go_wp2_with fail
          refine (C5.out trivial).mono ?_
          rintro e w4 ⟨rfl, hC4, hG4⟩
          have C6 : Hid (True → Calls _ _ _ _ _) := fun _ => frontE b (n + 4096 + 1) (left (run n 4096) (n + 1) ++ [n + 4096 + 1]) w4 hC4
          rw [frO_append, frO_run_first _ _ _ (by decide), show ((n + 1 : Nat) : Int) = (n : Int) + 1 by omega] at C6
          have HB4 : Hid (Below w.heap.size w w4) := below_own HB3.out hG4 hb
          clear hC4 hG4 HB3 C5
          go_wp2_with fail
          refine (C6.out trivial).mono ?_
          rintro e w5 ⟨rfl, _, hG5⟩
          have HB5 : Hid (Below w.heap.size w w5) := below_own HB4.out hG5 hb
          clear hG5 C6
          go_wp2_with fail
          go_ret
          exact ⟨rfl, HB5.out⟩
        · have C4 : Hid (True → Calls _ _ _ _ _) := fun _ => doneE_ok b (n + 4096) (run n 4096) (n + 1 + t) w2 HC2.out (by rw [mem_run]; omega)
          rw [show ((n + 1 + t : Nat) : Int) = (n : Int) + 1 + (t : Int) by omega] at C4
          have a2 : ¬ ((n : Int) + 1 + (t : Int) = (n : Int) + 1) := by omega
          have hne : n + 1 + t ≠ n + 1 := by omega
          have HNE : Hid _ := hne
          have HTL : Hid _ := htl
          have ht5 : t ≤ 65536 := by omega
          clear hne htl h0
          go_wp2_with fail
          refine (C4.out trivial).mono ?_
          rintro e w3 ⟨rfl, hC3, hG3⟩
          have C5 : Hid (True → Calls _ _ _ _ _) := fun _ => takeE_full b (n + 4096) (left (run n 4096) (n + 1 + t)) w3 hC3 (by omega) (by rw [frO_run_left _ _ _ _ (by decide) HNE.out])
          have HB3 : Hid (Below w.heap.size w w3) := below_own HB2.out hG3 hb
          clear hC3 hG3 HC2 HB2 C4
          go_wp2_with fail
          refine (C5.out trivial).mono ?_
          rintro e w4 ⟨rfl, hC4, hG4⟩
          have C6 : Hid (True → Calls _ _ _ _ _) := fun _ => frontE b (n + 4096) (left (run n 4096) (n + 1 + t)) w4 hC4
          rw [frO_run_left _ _ _ _ (by decide) HNE.out] at C6
          have HB4 : Hid (Below w.heap.size w w4) := below_own HB3.out hG4 hb
          clear hC4 hG4 HB3 C5
          go_wp2_with fail
          refine (C6.out trivial).mono ?_
          rintro e w5 ⟨rfl, hC5, hG5⟩
          have C7 : Hid (True → Calls _ _ _ _ _) := fun _ => doneE_ok b (n + 4096) (left (run n 4096) (n + 1 + t)) (n + 1) w5 hC5 (by rw [mem_left, mem_run]; exact ⟨by omega, fun e => HNE.out e.symm⟩)
          rw [show ((n + 1 : Nat) : Int) = (n : Int) + 1 by omega] at C7
          have HB5 : Hid (Below w.heap.size w w5) := below_own HB4.out hG5 hb
          clear hG5 hC5 C6 HB4
          go_wp2_with fail
          refine (C7.out trivial).mono ?_
          rintro e w6 ⟨rfl, _, hG6⟩
          have HB6 : Hid (Below w.heap.size w w6) := below_own HB5.out hG6 hb
          clear hG6 C7
          go_wp2_with fail
          go_ret
          exact ⟨rfl, HB6.out⟩
  · have CT : Hid (∀ (j b : Nat) (wr : World), j < 4096 → ClkE wr b (0 + j) (run 0 j) → Calls Try.prog 13 #[.pointer (some ⟨b, 0, none⟩)] wr fun e w' => e = .returned (.tuple #[.int .u64 ((j : Int) + 1), .int .i64 0]) ∧ ClkE w' b (0 + (j + 1)) (run 0 (j + 1)) ∧ wr.grownBy w' (some b)) := fun j b wr h1 h2 => by
      have := ringT 0 (by decide) j b wr h1 h2
      rw [show ((0 : Nat) : Int) + ((j : Int) + 1) = (j : Int) + 1 by omega] at this
      exact this
    have CF : Hid (∀ (b : Nat) (wr : World), _) := fun b wr => ringF 0 (by decide) b wr
    have C1 : Hid (Calls _ _ _ _ _) := newE 0 w (by omega)
    have a0 : 4611686018427379712 < (k : Int) := by omega
    clear hk
    go_enter Try.func5, Try.ntmps5
    go_wp2_with fail
    refine C1.out.mono ?_
    rintro e w1 ⟨b, rfl, hC, hb, hB⟩
    have HC : Hid (ClkE w1 b (0 + 0) (run 0 0)) := hC
    have HB : Hid (Below _ _ _) := hB
    clear C1 hC hB
    go_wp2_with fail
    go_loopw [7, 8, 9] (fun i _ _ wr => ∃ j : Nat, j ≤ 4096 ∧ i = .int .u64 ((j : Int) + 1) ∧ Hid (ClkE wr b (0 + j) (run 0 j)) ∧ Hid (Below w.heap.size w wr)) (fun i _ _ _ => 4097 - (intOf i).toNat)
    case atStart => exact ⟨0, Nat.zero_le _, by simp, HC, HB⟩
    case round =>
      obtain ⟨j, hj, rfl, hC, hB⟩ := hrel
      clear HC HB
      by_cases hj0 : j < 4096
      · have a1 : (j : Int) + 1 ≤ 4096 := by omega
        have C2 : Hid (True → Calls _ _ _ _ _) := fun _ => CT.out j b wr hj0 hC.out
        clear hj
        have hj2 : j ≤ 4611686018427379712 := by omega
        go_wp2_with fail
        refine (C2.out trivial).mono ?_
        rintro e w2 ⟨rfl, hC2, hG2⟩
        have HC2 : Hid (ClkE _ _ _ _) := hC2
        have HB2 : Hid (Below w.heap.size w w2) := below_own hB.out hG2 hb
        clear hC2 hG2 hC hB
        go_wp2_with fail
        go_roundw
        case rel => exact ⟨j + 1, by omega, by simp, HC2, HB2⟩
        case measure => simp [intOf]; omega
      · have hj4 : j = 4096 := by omega
        have a1 : ¬ ((j : Int) + 1 ≤ 4096) := by omega
        rw [hj4] at hC
        have C3 : Hid (True → Calls _ _ _ _ _) := fun _ => CF.out b wr hC.out
        clear hj hj0 hC
        have hj2 : j ≤ 4611686018427379712 := by omega
        clear hj4
        go_wp2_with fail
        refine (C3.out trivial).mono ?_
        rintro e w2 ⟨rfl, hC2, hG2⟩
        have HC2 : Hid (ClkE _ _ _ _) := hC2
        have HB2 : Hid (Below w.heap.size w w2) := below_own hB.out hG2 hb
        clear hC2 hG2 hB C3 a1 CT CF
        have ht : (sk : Int) % 4096 = (t : Int) := by rw [HT.out]; omega
        clear HT
        by_cases h0 : t = 0
        · have ht0 : (sk : Int) % 4096 = 0 := by omega
          clear ht h0 htl
          have C4 : Hid (True → Calls _ _ _ _ _) := fun _ => doneE_ok b (0 + 4096) (run 0 4096) (0 + 1) w2 HC2.out (by rw [mem_run]; omega)
          rw [show ((0 + 1 : Nat) : Int) = 1 by omega] at C4
          go_wp2_with fail
          refine (C4.out trivial).mono ?_
          rintro e w3 ⟨rfl, hC3, hG3⟩
          have C5 : Hid (True → Calls _ _ _ _ _) := fun _ => takeE_ok b (0 + 4096) (left (run 0 4096) (0 + 1)) w3 hC3 (by omega) (by rw [frO_run_first _ _ _ (by decide)]; omega)
          have HB3 : Hid (Below w.heap.size w w3) := below_own HB2.out hG3 hb
          clear hC3 hG3 HC2 HB2 C4
          go_wp2_with fail
          refine (C5.out trivial).mono ?_
          rintro e w4 ⟨rfl, hC4, hG4⟩
          have C6 : Hid (True → Calls _ _ _ _ _) := fun _ => frontE b (0 + 4096 + 1) (left (run 0 4096) (0 + 1) ++ [0 + 4096 + 1]) w4 hC4
          rw [frO_append, frO_run_first _ _ _ (by decide), show ((0 + 1 : Nat) : Int) = 1 by omega] at C6
          have HB4 : Hid (Below w.heap.size w w4) := below_own HB3.out hG4 hb
          clear hC4 hG4 HB3 C5
          go_wp2_with fail
          refine (C6.out trivial).mono ?_
          rintro e w5 ⟨rfl, _, hG5⟩
          have HB5 : Hid (Below w.heap.size w w5) := below_own HB4.out hG5 hb
          clear hG5 C6
          go_wp2_with fail
          go_ret
          exact ⟨rfl, HB5.out⟩
        · have C4 : Hid (True → Calls _ _ _ _ _) := fun _ => doneE_ok b (0 + 4096) (run 0 4096) (0 + 1 + t) w2 HC2.out (by rw [mem_run]; omega)
          rw [show ((0 + 1 + t : Nat) : Int) = 1 + (t : Int) by omega] at C4
          have a2 : ¬ (1 + (t : Int) = 1) := by omega
          have hne : 0 + 1 + t ≠ 0 + 1 := by omega
          have HNE : Hid _ := hne
          have HTL : Hid _ := htl
          have ht5 : t ≤ 65536 := by omega
          clear hne htl h0
          go_wp2_with fail
          refine (C4.out trivial).mono ?_
          rintro e w3 ⟨rfl, hC3, hG3⟩
          have C5 : Hid (True → Calls _ _ _ _ _) := fun _ => takeE_full b (0 + 4096) (left (run 0 4096) (0 + 1 + t)) w3 hC3 (by omega) (by rw [frO_run_left _ _ _ _ (by decide) HNE.out])
          have HB3 : Hid (Below w.heap.size w w3) := below_own HB2.out hG3 hb
          clear hC3 hG3 HC2 HB2 C4
          go_wp2_with fail
          refine (C5.out trivial).mono ?_
          rintro e w4 ⟨rfl, hC4, hG4⟩
          have C6 : Hid (True → Calls _ _ _ _ _) := fun _ => frontE b (0 + 4096) (left (run 0 4096) (0 + 1 + t)) w4 hC4
          rw [frO_run_left _ _ _ _ (by decide) HNE.out] at C6
          have HB4 : Hid (Below w.heap.size w w4) := below_own HB3.out hG4 hb
          clear hC4 hG4 HB3 C5
          go_wp2_with fail
          refine (C6.out trivial).mono ?_
          rintro e w5 ⟨rfl, hC5, hG5⟩
          have C7 : Hid (True → Calls _ _ _ _ _) := fun _ => doneE_ok b (0 + 4096) (left (run 0 4096) (0 + 1 + t)) (0 + 1) w5 hC5 (by rw [mem_left, mem_run]; exact ⟨by omega, fun e => HNE.out e.symm⟩)
          rw [show ((0 + 1 : Nat) : Int) = 1 by omega] at C7
          have HB5 : Hid (Below w.heap.size w w5) := below_own HB4.out hG5 hb
          clear hG5 hC5 C6 HB4
          go_wp2_with fail
          refine (C7.out trivial).mono ?_
          rintro e w6 ⟨rfl, _, hG6⟩
          have HB6 : Hid (Below w.heap.size w w6) := below_own HB5.out hG6 hb
          clear hG6 C7
          go_wp2_with fail
          go_ret
          exact ⟨rfl, HB6.out⟩
end Go.Proofs.Ytckjgnjakkeodaa
