/- The walks of Check and May. -/
import Derived.Test.YteddpogjpohacabWChn
namespace Go.Proofs.Yteddpogjpohacab
open Go.RowKit
set_option maxRecDepth 100000

set_option maxHeartbeats 4000000 in
theorem check_any (L : List Rw) (p : Option Addr) (c : Nat) (w : World) (hR : RdR .u64 w w.heap.size p L) (hlen : L.length ≤ 17592186043904) :
    Calls Try.prog 29 #[.slice p L.length c] w fun e w' => e = .returned (.int .i64 (chkL L)) ∧ Below w.heap.size w w' := by
  have HR : Hid (RdR _ _ _ _ _) := hR
  clear hR
  have HN : Hid ((∀ i, i < L.length → okAt L i = true) → chkL L = 0) := fun h => by unfold chkL; rw [mayL_true h]; rfl
  have HP : Hid (∀ j, j < L.length → okAt L j = false → chkL L = 80) := fun j hj h => by unfold chkL; rw [mayL_false hj h]; rfl
  generalize chkL L = r at *
  go_enter Try.func29, Try.ntmps29
  go_wp2_with fail
  go_loopw [7] (fun i wr => ∃ j : Nat, j ≤ L.length ∧ i = .int .i64 (j : Int) ∧ Hid (∀ i, i < j → okAt L i = true) ∧ Below w.heap.size w wr) (fun i _ => L.length - (intOf i).toNat)
  case atStart => exact ⟨0, Nat.zero_le _, by go_num, fun i h => absurd h (by omega), Below.refl _ _⟩
  case round =>
    obtain ⟨j, hj, rfl, hs, hn⟩ := hrel
    by_cases hj0 : j = L.length
    · subst hj0
      have HE := HN.out hs.out
      go_wp2
      go_ret
      exact ⟨intV HE.symm, hn⟩
    · have hj1 : j < L.length := by omega
      obtain ⟨b, o, q, d, rfl, hbB, c0, c1, c2, _⟩ := HR.out j hj1
      have a0 := (hn.cell (p := ⟨b, o + j * 3, none⟩) hbB).trans c0
      have a1 := (hn.cell (p := ⟨b, o + j * 3 + 1, none⟩) hbB).trans c1
      have a2 := (hn.cell (p := ⟨b, o + j * 3 + 2, none⟩) hbB).trans c2
      have hbw : b < wr.heap.size := Nat.lt_of_lt_of_le hbB hn.size
      have HF : Hid (okAt L j = false → r = 80) := HP.out j hj1
      have HT : Hid (okAt L j = true → ∀ i, i < j + 1 → okAt L i = true) := fun h i hi2 => by
        rcases Nat.lt_succ_iff_lt_or_eq.1 hi2 with h3 | rfl
        · exact hs.out i h3
        · exact h
      clear c0 c1 c2 hj0 hs
      have CG : Hid (∀ w1 : World, Calls Try.prog 25 #[.bool L[j].gn, .slice q L[j].row.length d] w1 fun e w' => e = .returned (.bool (L[j].gn && decide (0 < L[j].row.length))) ∧ w' = w1) := fun w1 => gone_any _ _ _ _ w1
      cases j with
      | zero =>
        have HK : Hid (okAt L 0 = (!(decide (L[0].n < 1)) && !(decide ((4611686018427387904 : Int) < L[0].n)) && !(L[0].gn && decide (0 < L[0].row.length)))) := okAt_zero hj1
        rw [show ((0 : Nat) : Int) = 0 from rfl] at *
        simp only [Nat.zero_mul, Nat.add_zero] at a0 a1 a2
        generalize L[0].n = xn at *
        generalize L[0].gn = xg at *
        generalize L[0].row.length = xl at *
        by_cases h1 : xn < 1
        · have he : Hid (r = 80) := HF.out (by rw [HK.out]; simp [*])
          clear HK HF HT
          go_wp2_with (first | (go_at_call 25; refine (CG.out _).mono ?_; rintro e w5 ⟨rfl, hw5⟩; obtain rfl := hw5.symm))
          go_ret
          have hsz := hn.size
          exact ⟨intV he.out.symm, by first | exact below_drewN (by go_grown) _ | go_grown⟩
        by_cases h2 : 4611686018427387904 < xn
        · have he : Hid (r = 80) := HF.out (by rw [HK.out]; simp [*])
          clear HK HF HT
          go_wp2_with (first | (go_at_call 25; refine (CG.out _).mono ?_; rintro e w5 ⟨rfl, hw5⟩; obtain rfl := hw5.symm))
          go_ret
          have hsz := hn.size
          exact ⟨intV he.out.symm, by first | exact below_drewN (by go_grown) _ | go_grown⟩
        by_cases h3 : (xg && decide (0 < xl)) = true
        · generalize (xg && decide (0 < xl)) = gg at *
          subst h3
          have he : Hid (r = 80) := HF.out (by rw [HK.out]; simp [*])
          clear HK HF HT
          go_wp2_with (first | (go_at_call 25; refine (CG.out _).mono ?_; rintro e w5 ⟨rfl, hw5⟩; obtain rfl := hw5.symm))
          go_ret
          have hsz := hn.size
          exact ⟨intV he.out.symm, by first | exact below_drewN (by go_grown) _ | go_grown⟩
        simp only [Bool.not_eq_true] at h3
        generalize (xg && decide (0 < xl)) = gg at *
        subst h3
        have HT2 : Hid (∀ i, i < 0 + 1 → okAt L i = true) := HT.out (by rw [HK.out]; simp [*])
        clear HK HF HT
        go_wp2_with (first | (go_at_call 25; refine (CG.out _).mono ?_; rintro e w5 ⟨rfl, hw5⟩; obtain rfl := hw5.symm))
        try go_quiet (fail)
        try go_wp2
        go_roundw
        case rel => have hsz := hn.size; exact ⟨0 + 1, by omega, by go_num, HT2, by first | exact below_drewN (by go_grown) _ | go_grown⟩
        case measure => simp [intOf]; omega
      | succ j =>
        have HK : Hid (okAt L (j + 1) = (!(decide (L[j + 1].n < 1)) && !(decide (4611686018427387904 < L[j + 1].n)) && !(L[j + 1].gn && decide (0 < L[j + 1].row.length)) && decide (L[j + 1].n < L[j].n))) := okAt_succ hj1
        obtain ⟨b2, o2, q2, d2, e2, _, p0, _⟩ := HR.out j (by omega)
        injection e2 with e2
        injection e2 with e3 e4
        subst e3 e4
        have p0 := (hn.cell (p := ⟨b, o + j * 3, none⟩) hbB).trans p0
        generalize L[j + 1].n = xn at *
        generalize L[j + 1].gn = xg at *
        generalize L[j + 1].row.length = xl at *
        generalize L[j].n = pn at *
        by_cases h1 : xn < 1
        · have he : Hid (r = 80) := HF.out (by rw [HK.out]; simp [*])
          clear HK HF HT
          go_wp2_with (first | (go_at_call 25; refine (CG.out _).mono ?_; rintro e w5 ⟨rfl, hw5⟩; obtain rfl := hw5.symm))
          go_ret
          have hsz := hn.size
          exact ⟨intV he.out.symm, by first | exact below_drewN (by go_grown) _ | go_grown⟩
        by_cases h2 : 4611686018427387904 < xn
        · have he : Hid (r = 80) := HF.out (by rw [HK.out]; simp [*])
          clear HK HF HT
          go_wp2_with (first | (go_at_call 25; refine (CG.out _).mono ?_; rintro e w5 ⟨rfl, hw5⟩; obtain rfl := hw5.symm))
          go_ret
          have hsz := hn.size
          exact ⟨intV he.out.symm, by first | exact below_drewN (by go_grown) _ | go_grown⟩
        by_cases h3 : (xg && decide (0 < xl)) = true
        · generalize (xg && decide (0 < xl)) = gg at *
          subst h3
          have he : Hid (r = 80) := HF.out (by rw [HK.out]; simp [*])
          clear HK HF HT
          go_wp2_with (first | (go_at_call 25; refine (CG.out _).mono ?_; rintro e w5 ⟨rfl, hw5⟩; obtain rfl := hw5.symm))
          go_ret
          have hsz := hn.size
          exact ⟨intV he.out.symm, by first | exact below_drewN (by go_grown) _ | go_grown⟩
        by_cases h6 : xn < pn
        · simp only [Bool.not_eq_true] at h3
          generalize (xg && decide (0 < xl)) = gg at *
          subst h3
          have HT2 : Hid (∀ i, i < j + 1 + 1 → okAt L i = true) := HT.out (by rw [HK.out]; simp [*])
          clear HK HF HT
          go_wp2_with (first | (go_at_call 25; refine (CG.out _).mono ?_; rintro e w5 ⟨rfl, hw5⟩; obtain rfl := hw5.symm))
          try go_quiet (fail)
          try go_wp2
          go_roundw
          case rel => have hsz := hn.size; exact ⟨j + 1 + 1, by omega, by go_num, HT2, by first | exact below_drewN (by go_grown) _ | go_grown⟩
          case measure => simp [intOf]; omega
        · simp only [Bool.not_eq_true] at h3
          generalize (xg && decide (0 < xl)) = gg at *
          subst h3
          have he : Hid (r = 80) := HF.out (by rw [HK.out]; simp [*])
          clear HK HF HT
          go_wp2_with (first | (go_at_call 25; refine (CG.out _).mono ?_; rintro e w5 ⟨rfl, hw5⟩; obtain rfl := hw5.symm))
          try go_quiet (fail)
          try go_wp2
          go_ret
          have hsz := hn.size
          exact ⟨intV he.out.symm, by first | exact below_drewN (by go_grown) _ | go_grown⟩
end Go.Proofs.Yteddpogjpohacab
