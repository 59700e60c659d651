/- The walk of MayIntent. -/
import Derived.Test.YteddpogjpohacabWOwV8
namespace Go.Proofs.Yteddpogjpohacab
open Go.RowKit
set_option maxRecDepth 100000

def okWt (L : List Rw) (i : Nat) : Bool := match L[i]? with
  | none => true
  | some v => !(decide (v.n < 0)) && !(v.gn && decide (0 < v.row.length)) && (match i with
    | 0 => true
    | j + 1 => match L[j]? with
      | none => true
      | some u => decide (u.n < v.n))
def mayW (L : List Rw) : Bool := (List.range L.length).all (okWt L)
def mayI (tx : Int) (L : List Rw) : Bool := !(decide (tx < 0)) && (decide (tx = 0) == decide (L.length = 0)) && mayW L
theorem okWt_zero {L : List Rw} (h : 0 < L.length) : okWt L 0 = (!(decide (L[0].n < (0 : Int))) && !(L[0].gn && decide (0 < L[0].row.length))) := by
  unfold okWt
  rw [List.getElem?_eq_getElem h]
  simp
theorem okWt_succ {L : List Rw} {j : Nat} (h : j + 1 < L.length) : okWt L (j + 1) = (!(decide (L[j + 1].n < (0 : Int))) && !(L[j + 1].gn && decide (0 < L[j + 1].row.length)) && decide ((L[j]'(by omega)).n < L[j + 1].n)) := by
  unfold okWt
  rw [List.getElem?_eq_getElem h]
  simp only [List.getElem?_eq_getElem (show j < L.length by omega)]
theorem mayW_true {L : List Rw} (h : ∀ i, i < L.length → okWt L i = true) : mayW L = true := by
  unfold mayW
  rw [List.all_eq_true]
  intro i hi
  exact h i (by simpa using hi)
theorem mayW_at {L : List Rw} (h : mayW L = true) {i : Nat} (hi : i < L.length) : okWt L i = true := by
  unfold mayW at h
  rw [List.all_eq_true] at h
  exact h i (by simpa using hi)
theorem mayW_false {L : List Rw} {i : Nat} (hi : i < L.length) (h : okWt L i = false) : mayW L = false := by
  cases hm : mayW L with
  | false => rfl
  | true => rw [mayW_at hm hi] at h; cases h

set_option maxHeartbeats 8000000 in
theorem mayI_any (L : List Rw) (p : Option Addr) (c : Nat) (tx : Int) (w : World) (hR : RdR .i64 w w.heap.size p L) (hlen : L.length ≤ 3518437208780) :
    Calls Try.prog 10 #[.agg #[.int .i64 tx, .slice p L.length c]] w fun e w' => e = .returned (.bool (mayI tx L)) ∧ Below w.heap.size w w' := by
  have HR : Hid (RdR .i64 w w.heap.size p L) := hR
  clear hR
  obtain ⟨n, hn⟩ : ∃ n, L.length = n := ⟨_, rfl⟩
  have HM : Hid (mayI tx L = (!(decide (tx < 0)) && (decide (tx = 0) == decide (n = 0)) && mayW L)) := by
    show _ = _
    rw [← hn]
    rfl
  have HN : Hid ((∀ i, i < L.length → okWt L i = true) → mayW L = true) := mayW_true
  have HP : Hid (∀ j, j < L.length → okWt L j = false → mayW L = false) := fun j hj h => mayW_false hj h
  generalize mayI tx L = R at *
  generalize mayW L = r at *
  rw [hn]
  have HLN : Hid (L.length = n ∧ True) := ⟨hn, trivial⟩
  rw [hn] at hlen
  clear hn
  have HLN : Hid (L.length = n) := HLN.out.1
  cases h1 : decide (tx < 0) with
  | true =>
    have he : Hid (R = false) := HM.out.trans (by rw [h1]; rfl)
    clear HM HN HP HR
    go_enter Try.func10, Try.ntmps10
    go_wp2
    go_ret
    exact ⟨boolV he.out.symm, by go_grown⟩
  | false =>
    have hb1 : (tx == 0) = decide (tx = 0) := rfl
    have hb2 : ((n : Int) == 0) = decide (n = 0) := by
      by_cases h : n = 0
      · subst h; rfl
      · rw [decide_eq_false h]; exact beq_eq_false_iff_ne.2 (by omega)
    cases h2 : (decide (tx = 0) == decide (n = 0)) with
    | false =>
      have he : Hid (R = false) := HM.out.trans (by rw [h1, h2]; rfl)
      clear HM HN HP HR
      generalize decide (tx = 0) = d1 at *
      generalize decide (n = 0) = d2 at *
      cases d1 <;> cases d2 <;> first | (exfalso; revert h2; decide) | skip
      all_goals
        clear h2
        go_enter Try.func10, Try.ntmps10
        go_wp2
        go_ret
        exact ⟨boolV he.out.symm, by go_grown⟩
    | true =>
      have he : Hid (R = r) := HM.out.trans (by rw [h1, h2]; rfl)
      rw [he.out]
      clear HM he
      generalize decide (tx = 0) = d1 at *
      generalize decide (n = 0) = d2 at *
      cases d1 <;> cases d2 <;> first | (exfalso; revert h2; decide) | skip
      all_goals
        clear h2
        go_enter Try.func10, Try.ntmps10
        have hx1 := Box.new w #[.int .i64 tx, .slice p n c] 36
        have hbw0 : Below w.heap.size w (w.alloc (.cells #[.int .i64 tx, .slice p n c] 36)) := by go_grown
        go_wp2_with fail
        have HBX : Hid (Box _ w.heap.size _ _) := hx1
        have HBW : Hid (Below w.heap.size w _) := hbw0
        have HR1 : Hid (RdR .i64 _ _ p L) := HR.out.on hbw0
        clear hx1 hbw0 HR
        generalize w.alloc (.cells #[.int .i64 tx, .slice p n c] 36) = wa at *
        go_loopw [3] (fun i wr => ∃ j : Nat, j ≤ n ∧ i = .int .i64 (j : Int) ∧ Hid (∀ i, i < j → okWt L i = true) ∧ Below wa.heap.size wa wr) (fun i _ => n - (intOf i).toNat)
        case atStart => exact ⟨0, Nat.zero_le _, by go_num, fun i h => absurd h (by omega), Below.refl _ _⟩
        case round =>
          obtain ⟨j, hj, rfl, hs, hn⟩ := hrel
          obtain ⟨y0, y1, y2, y3⟩ := box2 (HBX.out.on hn)
          have hbxl : w.heap.size < wr.heap.size := (HBX.out.on hn).lt
          by_cases hj0 : j = n
          · subst hj0
            have HE : Hid (r = true) := HN.out (by rw [HLN.out]; exact hs.out)
            go_wp2
            go_ret
            exact ⟨boolV HE.out.symm, HBW.out.trans (hn.mono HBW.out.size)⟩
          · have hj1 : j < n := by omega
            have hj1' : j < L.length := by rw [HLN.out]; exact hj1
            obtain ⟨b, o, q, d, rfl, hbB, c0, c1, c2, _⟩ := HR1.out j hj1'
            have a0 := (hn.cell (p := ⟨b, o + j * 3, none⟩) hbB).trans c0
            have a1 := (hn.cell (p := ⟨b, o + j * 3 + 1, none⟩) hbB).trans c1
            have a2 := (hn.cell (p := ⟨b, o + j * 3 + 2, none⟩) hbB).trans c2
            have hbw : b < wr.heap.size := Nat.lt_of_lt_of_le hbB hn.size
            have HF : Hid (okWt L j = false → r = false) := HP.out j hj1'
            have HT : Hid (okWt L j = true → ∀ i, i < j + 1 → okWt L i = true) := fun h i hi2 => by
              rcases Nat.lt_succ_iff_lt_or_eq.1 hi2 with h3 | rfl
              · exact hs.out i h3
              · exact h
            clear c0 c1 c2 hj0 hs
            cases j with
            | zero =>
              rw [show ((0 : Nat) : Int) = 0 from rfl] at *
              simp only [Nat.zero_mul, Nat.add_zero] at a0 a1 a2
              have HK : Hid (okWt L 0 = (!(decide (L[0].n < (0 : Int))) && !(L[0].gn && decide (0 < L[0].row.length)))) := okWt_zero hj1'
              generalize L[0].n = xn at *
              generalize L[0].gn = xg at *
              generalize L[0].row.length = xl at *
              cases h1 : decide (xn < 0) with
              | true =>
                have he : Hid (r = false) := HF.out (by rw [HK.out, h1]; rfl)
                clear HK HF HT
                have H1 : Hid (_ ∧ True) := ⟨h1, trivial⟩
                clear h1
                go_wp2_with fail
                have h1 := H1.out.1
                go_quiet (fail)
                go_wp2
                go_ret
                have hsz := hn.size
                exact ⟨boolV he.out.symm, HBW.out.trans ((show Below wa.heap.size wa _ from below_drewN (by go_grown) _).mono HBW.out.size)⟩
              | false =>
                cases h3 : (xg && decide (0 < xl)) with
                | true =>
                  obtain ⟨h4, h5⟩ : xg = true ∧ 0 < xl := by simpa using h3
                  subst h4
                  have he : Hid (r = false) := HF.out (by rw [HK.out, h1, h3]; rfl)
                  clear HK HF HT h3
                  have H1 : Hid (_ ∧ True) := ⟨h1, trivial⟩
                  clear h1
                  go_wp2_with fail
                  have h1 := H1.out.1
                  go_quiet (fail)
                  go_wp2
                  go_ret
                  have hsz := hn.size
                  exact ⟨boolV he.out.symm, HBW.out.trans ((show Below wa.heap.size wa _ from below_drewN (by go_grown) _).mono HBW.out.size)⟩
                | false =>
                  cases xg with
                  | false =>
                    have HT2 : Hid (∀ i, i < 0 + 1 → okWt L i = true) := HT.out (by rw [HK.out, h1, h3]; rfl)
                    clear HK HF HT h3
                    have H1 : Hid (_ ∧ True) := ⟨h1, trivial⟩
                    clear h1
                    go_wp2_with fail
                    have h1 := H1.out.1
                    go_quiet (fail)
                    go_wp2
                    go_roundw
                    case rel => have hsz := hn.size; exact ⟨0 + 1, by omega, by go_num, HT2, below_drewN (by go_grown) _⟩
                    case measure => simp [intOf]; omega
                  | true =>
                    have h5 : xl = 0 := by simpa using h3
                    subst h5
                    have HT2 : Hid (∀ i, i < 0 + 1 → okWt L i = true) := HT.out (by rw [HK.out, h1, h3]; rfl)
                    clear HK HF HT h3
                    have H1 : Hid (_ ∧ True) := ⟨h1, trivial⟩
                    clear h1
                    go_wp2_with fail
                    have h1 := H1.out.1
                    go_quiet (fail)
                    go_wp2
                    go_roundw
                    case rel => have hsz := hn.size; exact ⟨0 + 1, by omega, by go_num, HT2, below_drewN (by go_grown) _⟩
                    case measure => simp [intOf]; omega
            | succ j =>
              have HK : Hid (okWt L (j + 1) = (!(decide (L[j + 1].n < (0 : Int))) && !(L[j + 1].gn && decide (0 < L[j + 1].row.length)) && decide (L[j].n < L[j + 1].n))) := okWt_succ hj1'
              obtain ⟨b2, o2, q2, d2, e2, _, p0, _⟩ := HR1.out j (by omega)
              injection e2 with e2
              injection e2 with e3 e4
              subst e3 e4
              have p0 := (hn.cell (p := ⟨b, o + j * 3, none⟩) hbB).trans p0
              generalize L[j + 1].n = xn at *
              generalize L[j + 1].gn = xg at *
              generalize L[j + 1].row.length = xl at *
              generalize L[j].n = pn at *
              cases h1 : decide (xn < 0) with
              | true =>
                have he : Hid (r = false) := HF.out (by rw [HK.out, h1]; rfl)
                clear HK HF HT
                have H1 : Hid (_ ∧ True) := ⟨h1, trivial⟩
                clear h1
                go_wp2_with fail
                have h1 := H1.out.1
                go_quiet (fail)
                go_wp2
                go_ret
                have hsz := hn.size
                exact ⟨boolV he.out.symm, HBW.out.trans ((show Below wa.heap.size wa _ from below_drewN (by go_grown) _).mono HBW.out.size)⟩
              | false =>
                cases h3 : (xg && decide (0 < xl)) with
                | true =>
                  obtain ⟨h4, h5⟩ : xg = true ∧ 0 < xl := by simpa using h3
                  subst h4
                  have he : Hid (r = false) := HF.out (by rw [HK.out, h1, h3]; rfl)
                  clear HK HF HT h3
                  have H1 : Hid (_ ∧ True) := ⟨h1, trivial⟩
                  clear h1
                  go_wp2_with fail
                  have h1 := H1.out.1
                  go_quiet (fail)
                  go_wp2
                  go_ret
                  have hsz := hn.size
                  exact ⟨boolV he.out.symm, HBW.out.trans ((show Below wa.heap.size wa _ from below_drewN (by go_grown) _).mono HBW.out.size)⟩
                | false =>
                  cases xg with
                  | false =>
                    cases h6 : decide (pn < xn) with
                    | true =>
                      have HT2 : Hid (∀ i, i < j + 1 + 1 → okWt L i = true) := HT.out (by rw [HK.out, h1, h3, h6]; rfl)
                      clear HK HF HT h3
                      have H1 : Hid (_ ∧ True) := ⟨h1, trivial⟩
                      clear h1
                      have H6 : Hid (decide (xn ≤ pn) = false ∧ True) := ⟨by simp at h6 ⊢; omega, trivial⟩
                      clear h6
                      go_wp2_with fail
                      have h1 := H1.out.1
                      have h6 := H6.out.1
                      go_quiet (fail)
                      go_wp2
                      go_roundw
                      case rel => have hsz := hn.size; exact ⟨j + 1 + 1, by omega, by go_num, HT2, below_drewN (by go_grown) _⟩
                      case measure => simp [intOf]; omega
                    | false =>
                      have he : Hid (r = false) := HF.out (by rw [HK.out, h1, h3, h6]; rfl)
                      clear HK HF HT h3
                      have H1 : Hid (_ ∧ True) := ⟨h1, trivial⟩
                      clear h1
                      have H6 : Hid (decide (xn ≤ pn) = true ∧ True) := ⟨by simp at h6 ⊢; omega, trivial⟩
                      clear h6
                      go_wp2_with fail
                      have h1 := H1.out.1
                      have h6 := H6.out.1
                      go_quiet (fail)
                      go_wp2
                      go_ret
                      have hsz := hn.size
                      exact ⟨boolV he.out.symm, HBW.out.trans ((show Below wa.heap.size wa _ from below_drewN (by go_grown) _).mono HBW.out.size)⟩
                  | true =>
                    have h5 : xl = 0 := by simpa using h3
                    subst h5
                    cases h6 : decide (pn < xn) with
                    | true =>
                      have HT2 : Hid (∀ i, i < j + 1 + 1 → okWt L i = true) := HT.out (by rw [HK.out, h1, h3, h6]; rfl)
                      clear HK HF HT h3
                      have H1 : Hid (_ ∧ True) := ⟨h1, trivial⟩
                      clear h1
                      have H6 : Hid (decide (xn ≤ pn) = false ∧ True) := ⟨by simp at h6 ⊢; omega, trivial⟩
                      clear h6
                      go_wp2_with fail
                      have h1 := H1.out.1
                      have h6 := H6.out.1
                      go_quiet (fail)
                      go_wp2
                      go_roundw
                      case rel => have hsz := hn.size; exact ⟨j + 1 + 1, by omega, by go_num, HT2, below_drewN (by go_grown) _⟩
                      case measure => simp [intOf]; omega
                    | false =>
                      have he : Hid (r = false) := HF.out (by rw [HK.out, h1, h3, h6]; rfl)
                      clear HK HF HT h3
                      have H1 : Hid (_ ∧ True) := ⟨h1, trivial⟩
                      clear h1
                      have H6 : Hid (decide (xn ≤ pn) = true ∧ True) := ⟨by simp at h6 ⊢; omega, trivial⟩
                      clear h6
                      go_wp2_with fail
                      have h1 := H1.out.1
                      have h6 := H6.out.1
                      go_quiet (fail)
                      go_wp2
                      go_ret
                      have hsz := hn.size
                      exact ⟨boolV he.out.symm, HBW.out.trans ((show Below wa.heap.size wa _ from below_drewN (by go_grown) _).mono HBW.out.size)⟩
end Go.Proofs.Yteddpogjpohacab
