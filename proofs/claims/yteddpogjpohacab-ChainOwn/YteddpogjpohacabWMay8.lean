/- The walks of May, and of the document's Check. -/
import Derived.Test.YteddpogjpohacabWChn
namespace Go.Proofs.Yteddpogjpohacab
open Go.RowKit
set_option maxRecDepth 100000

set_option maxHeartbeats 4000000 in
theorem may_any (L : List Rw) (p : Option Addr) (c : Nat) (w : World) (hR : RdR .u64 w w.heap.size p L) (hlen : L.length ≤ 17592186043904) :
    Calls Try.prog 6 #[.slice p L.length c] w fun e w' => e = .returned (.bool (mayL L)) ∧ Below w.heap.size w w' := by
  have HR : Hid (RdR _ _ _ _ _) := hR
  clear hR
  have HN : Hid ((∀ i, i < L.length → okAt L i = true) → mayL L = true) := mayL_true
  have HP : Hid (∀ j, j < L.length → okAt L j = false → mayL L = false) := fun j hj h => mayL_false hj h
  generalize mayL L = r at *
  go_enter Try.func6, Try.ntmps6
  go_wp2_with fail
  go_loopw [3] (fun i wr => ∃ j : Nat, j ≤ L.length ∧ i = .int .i64 (j : Int) ∧ Hid (∀ i, i < j → okAt L i = true) ∧ Below w.heap.size w wr) (fun i _ => L.length - (intOf i).toNat)
  case atStart => exact ⟨0, Nat.zero_le _, by go_num, fun i h => absurd h (by omega), Below.refl _ _⟩
  case round =>
    obtain ⟨j, hj, rfl, hs, hn⟩ := hrel
    by_cases hj0 : j = L.length
    · subst hj0
      have HE := HN.out hs.out
      go_wp2
      go_ret
      exact ⟨boolV HE.symm, hn⟩
    · have hj1 : j < L.length := by omega
      obtain ⟨b, o, q, d, rfl, hbB, c0, c1, c2, _⟩ := HR.out j hj1
      have a0 := (hn.cell (p := ⟨b, o + j * 3, none⟩) hbB).trans c0
      have a1 := (hn.cell (p := ⟨b, o + j * 3 + 1, none⟩) hbB).trans c1
      have a2 := (hn.cell (p := ⟨b, o + j * 3 + 2, none⟩) hbB).trans c2
      have hbw : b < wr.heap.size := Nat.lt_of_lt_of_le hbB hn.size
      have HF : Hid (okAt L j = false → r = false) := HP.out j hj1
      have HT : Hid (okAt L j = true → ∀ i, i < j + 1 → okAt L i = true) := fun h i hi2 => by
        rcases Nat.lt_succ_iff_lt_or_eq.1 hi2 with h3 | rfl
        · exact hs.out i h3
        · exact h
      clear c0 c1 c2 hj0 hs
      cases j with
      | zero =>
        rw [show ((0 : Nat) : Int) = 0 from rfl] at *
        simp only [Nat.zero_mul, Nat.add_zero] at a0 a1 a2
        have HK : Hid (okAt L 0 = (!(decide (L[0].n < 1)) && !(decide ((4611686018427387904 : Int) < L[0].n)) && !(L[0].gn && decide (0 < L[0].row.length)))) := okAt_zero hj1
        generalize L[0].n = xn at *
        generalize L[0].gn = xg at *
        generalize L[0].row.length = xl at *
        cases h1 : decide (xn < 1) with
        | true =>
          have he : Hid (r = false) := HF.out (by rw [HK.out, h1]; rfl)
          clear HK HF HT
          have H1 : Hid (_ ∧ True) := ⟨h1, trivial⟩
          clear h1
          go_wp2_with fail
          have h1 := H1.out.1
          go_quiet (fail)
          go_wp2
          go_ret
          have hsz := hn.size
          exact ⟨boolV he.out.symm, below_drewN (by go_grown) _⟩
        | false =>
          cases h2 : decide (4611686018427387904 < xn) with
          | true =>
            have he : Hid (r = false) := HF.out (by rw [HK.out, h1, h2]; rfl)
            clear HK HF HT
            have H1 : Hid (_ ∧ True) := ⟨h1, trivial⟩
            clear h1
            have H2 : Hid (_ ∧ True) := ⟨h2, trivial⟩
            clear h2
            go_wp2_with fail
            have h1 := H1.out.1
            have h2 := H2.out.1
            go_quiet (fail)
            go_wp2
            go_ret
            have hsz := hn.size
            exact ⟨boolV he.out.symm, below_drewN (by go_grown) _⟩
          | false =>
            cases h3 : (xg && decide (0 < xl)) with
            | true =>
              obtain ⟨h4, h5⟩ : xg = true ∧ 0 < xl := by simpa using h3
              subst h4
              have he : Hid (r = false) := HF.out (by rw [HK.out, h1, h2, h3]; rfl)
              clear HK HF HT h3
              have H1 : Hid (_ ∧ True) := ⟨h1, trivial⟩
              clear h1
              have H2 : Hid (_ ∧ True) := ⟨h2, trivial⟩
              clear h2
              go_wp2_with fail
              have h1 := H1.out.1
              have h2 := H2.out.1
              go_quiet (fail)
              go_wp2
              go_ret
              have hsz := hn.size
              exact ⟨boolV he.out.symm, below_drewN (by go_grown) _⟩
            | false =>
              cases xg with
              | false =>
                have HT2 : Hid (∀ i, i < 0 + 1 → okAt L i = true) := HT.out (by rw [HK.out, h1, h2, h3]; rfl)
                clear HK HF HT h3
                have H1 : Hid (_ ∧ True) := ⟨h1, trivial⟩
                clear h1
                have H2 : Hid (_ ∧ True) := ⟨h2, trivial⟩
                clear h2
                go_wp2_with fail
                have h1 := H1.out.1
                have h2 := H2.out.1
                go_quiet (fail)
                go_wp2
                go_roundw
                case rel => have hsz := hn.size; exact ⟨0 + 1, by omega, by go_num, HT2, below_drewN (by go_grown) _⟩
                case measure => simp [intOf]; omega
              | true =>
                have h5 : xl = 0 := by simpa using h3
                subst h5
                have HT2 : Hid (∀ i, i < 0 + 1 → okAt L i = true) := HT.out (by rw [HK.out, h1, h2, h3]; rfl)
                clear HK HF HT h3
                have H1 : Hid (_ ∧ True) := ⟨h1, trivial⟩
                clear h1
                have H2 : Hid (_ ∧ True) := ⟨h2, trivial⟩
                clear h2
                go_wp2_with fail
                have h1 := H1.out.1
                have h2 := H2.out.1
                go_quiet (fail)
                go_wp2
                go_roundw
                case rel => have hsz := hn.size; exact ⟨0 + 1, by omega, by go_num, HT2, below_drewN (by go_grown) _⟩
                case measure => simp [intOf]; omega
      | succ j =>
        have HK : Hid (okAt L (j + 1) = (!(decide (L[j + 1].n < 1)) && !(decide (4611686018427387904 < L[j + 1].n)) && !(L[j + 1].gn && decide (0 < L[j + 1].row.length)) && decide (L[j + 1].n < L[j].n))) := okAt_succ hj1
        obtain ⟨b2, o2, q2, d2, e2, _, p0, _⟩ := HR.out j (by omega)
        injection e2 with e2
        injection e2 with e3 e4
        subst e3 e4
        have p0 := (hn.cell (p := ⟨b, o + j * 3, none⟩) hbB).trans p0
        generalize L[j + 1].n = xn at *
        generalize L[j + 1].gn = xg at *
        generalize L[j + 1].row.length = xl at *
        generalize L[j].n = pn at *
        cases h1 : decide (xn < 1) with
        | true =>
          have he : Hid (r = false) := HF.out (by rw [HK.out, h1]; rfl)
          clear HK HF HT
          have H1 : Hid (_ ∧ True) := ⟨h1, trivial⟩
          clear h1
          go_wp2_with fail
          have h1 := H1.out.1
          go_quiet (fail)
          go_wp2
          go_ret
          have hsz := hn.size
          exact ⟨boolV he.out.symm, below_drewN (by go_grown) _⟩
        | false =>
          cases h2 : decide (4611686018427387904 < xn) with
          | true =>
            have he : Hid (r = false) := HF.out (by rw [HK.out, h1, h2]; rfl)
            clear HK HF HT
            have H1 : Hid (_ ∧ True) := ⟨h1, trivial⟩
            clear h1
            have H2 : Hid (_ ∧ True) := ⟨h2, trivial⟩
            clear h2
            go_wp2_with fail
            have h1 := H1.out.1
            have h2 := H2.out.1
            go_quiet (fail)
            go_wp2
            go_ret
            have hsz := hn.size
            exact ⟨boolV he.out.symm, below_drewN (by go_grown) _⟩
          | false =>
            cases h3 : (xg && decide (0 < xl)) with
            | true =>
              obtain ⟨h4, h5⟩ : xg = true ∧ 0 < xl := by simpa using h3
              subst h4
              have he : Hid (r = false) := HF.out (by rw [HK.out, h1, h2, h3]; rfl)
              clear HK HF HT h3
              have H1 : Hid (_ ∧ True) := ⟨h1, trivial⟩
              clear h1
              have H2 : Hid (_ ∧ True) := ⟨h2, trivial⟩
              clear h2
              go_wp2_with fail
              have h1 := H1.out.1
              have h2 := H2.out.1
              go_quiet (fail)
              go_wp2
              go_ret
              have hsz := hn.size
              exact ⟨boolV he.out.symm, below_drewN (by go_grown) _⟩
            | false =>
              cases xg with
              | false =>
                cases h6 : decide (xn < pn) with
                | true =>
                  have HT2 : Hid (∀ i, i < j + 1 + 1 → okAt L i = true) := HT.out (by rw [HK.out, h1, h2, h3, h6]; rfl)
                  clear HK HF HT h3
                  have H1 : Hid (_ ∧ True) := ⟨h1, trivial⟩
                  clear h1
                  have H2 : Hid (_ ∧ True) := ⟨h2, trivial⟩
                  clear h2
                  have H6 : Hid (decide (pn ≤ xn) = false ∧ True) := ⟨by simp at h6 ⊢; omega, trivial⟩
                  clear h6
                  go_wp2_with fail
                  have h1 := H1.out.1
                  have h2 := H2.out.1
                  have h6 := H6.out.1
                  go_quiet (fail)
                  go_wp2
                  go_roundw
                  case rel => have hsz := hn.size; exact ⟨j + 1 + 1, by omega, by go_num, HT2, below_drewN (by go_grown) _⟩
                  case measure => simp [intOf]; omega
                | false =>
                  have he : Hid (r = false) := HF.out (by rw [HK.out, h1, h2, h3, h6]; rfl)
                  clear HK HF HT h3
                  have H1 : Hid (_ ∧ True) := ⟨h1, trivial⟩
                  clear h1
                  have H2 : Hid (_ ∧ True) := ⟨h2, trivial⟩
                  clear h2
                  have H6 : Hid (decide (pn ≤ xn) = true ∧ True) := ⟨by simp at h6 ⊢; omega, trivial⟩
                  clear h6
                  go_wp2_with fail
                  have h1 := H1.out.1
                  have h2 := H2.out.1
                  have h6 := H6.out.1
                  go_quiet (fail)
                  go_wp2
                  go_ret
                  have hsz := hn.size
                  exact ⟨boolV he.out.symm, below_drewN (by go_grown) _⟩
              | true =>
                have h5 : xl = 0 := by simpa using h3
                subst h5
                cases h6 : decide (xn < pn) with
                | true =>
                  have HT2 : Hid (∀ i, i < j + 1 + 1 → okAt L i = true) := HT.out (by rw [HK.out, h1, h2, h3, h6]; rfl)
                  clear HK HF HT h3
                  have H1 : Hid (_ ∧ True) := ⟨h1, trivial⟩
                  clear h1
                  have H2 : Hid (_ ∧ True) := ⟨h2, trivial⟩
                  clear h2
                  have H6 : Hid (decide (pn ≤ xn) = false ∧ True) := ⟨by simp at h6 ⊢; omega, trivial⟩
                  clear h6
                  go_wp2_with fail
                  have h1 := H1.out.1
                  have h2 := H2.out.1
                  have h6 := H6.out.1
                  go_quiet (fail)
                  go_wp2
                  go_roundw
                  case rel => have hsz := hn.size; exact ⟨j + 1 + 1, by omega, by go_num, HT2, below_drewN (by go_grown) _⟩
                  case measure => simp [intOf]; omega
                | false =>
                  have he : Hid (r = false) := HF.out (by rw [HK.out, h1, h2, h3, h6]; rfl)
                  clear HK HF HT h3
                  have H1 : Hid (_ ∧ True) := ⟨h1, trivial⟩
                  clear h1
                  have H2 : Hid (_ ∧ True) := ⟨h2, trivial⟩
                  clear h2
                  have H6 : Hid (decide (pn ≤ xn) = true ∧ True) := ⟨by simp at h6 ⊢; omega, trivial⟩
                  clear h6
                  go_wp2_with fail
                  have h1 := H1.out.1
                  have h2 := H2.out.1
                  have h6 := H6.out.1
                  go_quiet (fail)
                  go_wp2
                  go_ret
                  have hsz := hn.size
                  exact ⟨boolV he.out.symm, below_drewN (by go_grown) _⟩

