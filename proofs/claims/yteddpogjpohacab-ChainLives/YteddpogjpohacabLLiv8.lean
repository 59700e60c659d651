/- ChainLives: the law's walk. -/
import Derived.Test.YteddpogjpohacabWAwk8
import Derived.Test.YteddpogjpohacabWMay8
import Derived.Test.YteddpogjpohacabWLif8
namespace Go.Proofs.Yteddpogjpohacab
open Go.RowKit
set_option maxRecDepth 100000

def inJ (L : List Rw) (s : Int) (j : Nat) : Int := if atN L s < j then (atN L s : Int) else -1
def endJ (L : List Rw) : Nat → Int
  | 0 => 0
  | j + 1 => match L[j]? with | none => 0 | some v => v.n
theorem endJ_succ {L : List Rw} {j : Nat} (h : j < L.length) : endJ L (j + 1) = L[j].n := by
  show (match L[j]? with | none => 0 | some v => v.n) = _
  rw [List.getElem?_eq_getElem h]
theorem at_lt {L : List Rw} {s : Int} {j : Nat} (hj : j < L.length) (h : j < atN L s) : s < L[j].n := by
  have := List.not_of_lt_findIdx h
  simpa using this
theorem at_le {L : List Rw} {s : Int} (h : atN L s < L.length) : L[atN L s].n ≤ s := by
  have := List.findIdx_getElem (p := fun v : Rw => decide (v.n ≤ s)) (w := h)
  exact of_decide_eq_true this
theorem may_step {L : List Rw} (h : mayL L = true) {j : Nat} (hj : j + 1 < L.length) : L[j + 1].n < L[j].n := by
  have := mayL_at h hj
  rw [okAt_succ hj, Bool.and_eq_true] at this
  exact of_decide_eq_true this.2
theorem may_dec {L : List Rw} (h : mayL L = true) : ∀ (d i : Nat) (hj : i + d < L.length), L[i + d].n ≤ L[i].n
  | 0, _, _ => Int.le_refl _
  | d + 1, i, hj => Int.le_trans (Int.le_of_lt (may_step h (j := i + d) hj)) (may_dec h d i (by omega))
theorem may_one {L : List Rw} (h : mayL L = true) {j : Nat} (hj : j < L.length) : 1 ≤ L[j].n := by
  have := mayL_at h hj
  cases j with
  | zero =>
    rw [okAt_zero hj] at this
    simp only [Bool.and_eq_true, Bool.not_eq_true', decide_eq_false_iff_not] at this
    omega
  | succ j =>
    rw [okAt_succ hj] at this
    simp only [Bool.and_eq_true, Bool.not_eq_true', decide_eq_false_iff_not] at this
    omega
theorem life_at {L : List Rw} {j : Nat} (hj : j < L.length) : lifeA L (j : Int) = L[j].n ∧ lifeB L (j : Int) = endJ L j ∧ lifeE L (j : Int) = 0 := by
  cases j with
  | zero => exact life_zero hj
  | succ j =>
    rw [endJ_succ (by omega)]
    exact life_succ hj
theorem at_gt {L : List Rw} (h : mayL L = true) {s : Int} {j : Nat} (hj : j < L.length) (ha : atN L s ≤ j) : L[j].n ≤ s := by
  have h1 := at_le (show atN L s < L.length by omega)
  have h2 := may_dec h (j - atN L s) (atN L s) (by omega)
  have e : L[atN L s + (j - atN L s)] = L[j] := by congr 1; omega
  rw [e] at h2
  omega
theorem end_eq {L : List Rw} (h : mayL L = true) {s : Int} {j : Nat} (hj : j < L.length) (ha : j = atN L s) : endJ L j = 0 ∨ (¬ endJ L j = 0 ∧ s < endJ L j) := by
  cases j with
  | zero => exact Or.inl rfl
  | succ j =>
    rw [endJ_succ (by omega)]
    have h1 := may_one h (j := j) (by omega)
    have h2 := at_lt (L := L) (s := s) (j := j) (by omega) (by omega)
    exact Or.inr ⟨by omega, h2⟩
theorem end_gt {L : List Rw} (h : mayL L = true) {s : Int} {j : Nat} (hj : j < L.length) (ha : atN L s < j) : ¬ endJ L j = 0 ∧ endJ L j ≤ s := by
  cases j with
  | zero => omega
  | succ j =>
    rw [endJ_succ (by omega)]
    have h1 := may_one h (j := j) (by omega)
    exact ⟨by omega, at_gt h (by omega) (by omega)⟩

set_option maxHeartbeats 4000000 in
theorem lawLives (L : List Rw) (p : Option Addr) (c : Nat) (s : Int) (w : World) (hR : RdR .u64 w w.heap.size p L) (hlen : L.length ≤ 17592186043904) :
    Calls Try.prog 3 #[.slice p L.length c, .int .u64 s] w fun e w' => e = .returned (.bool true) ∧ Below w.heap.size w w' := by
  have HR : Hid (∀ w1, Below w.heap.size w w1 → RdR .u64 w1 w1.heap.size p L) := fun w1 h => hR.on h
  have C1 : Hid (Calls _ _ _ _ _) := may_any L p c w hR hlen
  have CA : Hid (∀ w1 : World, Calls Try.prog 7 #[] w1 fun e w' => e = .returned (.bool true) ∧ Below w1.heap.size w1 w') := awake_any
  have C3 : Hid (∀ w1, Below w.heap.size w w1 → Calls Try.prog 9 #[.slice p L.length c, .int .u64 s] w1 fun e w' => e = .returned (.int .i64 (atI L s)) ∧ Below w1.heap.size w1 w') := fun w1 h => at_any L p c s w1 (HR.out w1 h) hlen
  have C4 : Hid (∀ x w1, Below w.heap.size w w1 → Calls Try.prog 8 #[.slice p L.length c, .int .i64 x] w1 fun e w' => e = .returned (.tuple #[.int .u64 (lifeA L x), .int .u64 (lifeB L x), .int .i64 (lifeE L x)]) ∧ Below w1.heap.size w1 w') := fun x w1 h => life_any L p c x w1 (HR.out w1 h) hlen
  cases hm : mayL L with
  | false =>
    rw [hm] at C1
    clear hR HR hm
    go_enter Try.func3, Try.ntmps3
    go_wp2_with fail
    refine C1.out.mono ?_
    rintro e w1 ⟨rfl, hb1⟩
    go_wp2_with fail
    refine (CA.out _).mono ?_
    rintro e w2 ⟨rfl, hb2⟩
    go_wp2_with fail
    go_ret
    exact ⟨rfl, hb1.trans (hb2.mono hb1.size)⟩
  | true =>
    rw [hm] at C1
    have HM : Hid (mayL L = true) := hm
    clear hm hR
    go_enter Try.func3, Try.ntmps3
    go_wp2_with fail
    refine C1.out.mono ?_
    rintro e w1 ⟨rfl, hb1⟩
    have HB1 : Hid (Below w.heap.size w w1) := hb1
    clear hb1 C1
    go_wp2_with fail
    go_loopw [5, 6, 7] (fun n en i wr => ∃ j : Nat, j ≤ L.length ∧ i = .int .i64 (j : Int) ∧ n = .int .i64 (inJ L s j) ∧ en = .int .u64 (endJ L j) ∧ Below w.heap.size w wr) (fun _ _ i _ => L.length - (intOf i).toNat)
    case atStart => exact ⟨0, Nat.zero_le _, by go_num, rfl, rfl, HB1.out⟩
    case round =>
      obtain ⟨j, hj, rfl, rfl, rfl, hn⟩ := hrel
      by_cases hj0 : j = L.length
      · subst hj0
        have hin : Hid (inJ L s L.length = atI L s) := rfl
        generalize inJ L s L.length = ii at *
        go_wp2_with fail
        refine (C3.out _ hn).mono ?_
        rintro e w2 ⟨rfl, hb2⟩
        have HB2 : Hid (Below w.heap.size w w2) := hn.trans (hb2.mono hn.size)
        clear hb2 hn C3
        rw [← hin.out]
        go_wp2_with fail
        refine (CA.out _).mono ?_
        rintro e w3 ⟨rfl, hb3⟩
        have HB3 : Hid (Below w.heap.size w w3) := HB2.out.trans (hb3.mono HB2.out.size)
        clear hb3 HB2
        go_wp2_with fail
        go_ret
        exact ⟨rfl, HB3.out⟩
      · have hj1 : j < L.length := by omega
        obtain ⟨b, o, q, d, rfl, hbB, c0, c1, c2, _⟩ := HR.out w (Below.refl _ _) j hj1
        clear hj0
        clear c1 c2
        have HL : Hid (lifeA L (j : Int) = L[j].n ∧ lifeB L (j : Int) = endJ L j ∧ lifeE L (j : Int) = 0) := life_at hj1
        have HEn : Hid (endJ L (j + 1) = L[j].n) := endJ_succ hj1
        have hlt : j < atN L s → s < L[j].n := fun h => at_lt hj1 h
        have hge : atN L s ≤ j → L[j].n ≤ s := fun h => at_gt HM.out hj1 h
        have heq : j = atN L s → endJ L j = 0 ∨ (¬ endJ L j = 0 ∧ s < endJ L j) := fun h => end_eq HM.out hj1 h
        have hgt : atN L s < j → ¬ endJ L j = 0 ∧ endJ L j ≤ s := fun h => end_gt HM.out hj1 h
        go_wp2_with fail
        refine (C4.out _ _ hn).mono ?_
        rintro e w2 ⟨rfl, hb2⟩
        have HB3 : Hid (Below w.heap.size w w2) := hn.trans (hb2.mono hn.size)
        have a0 := (HB3.out.cell (p := ⟨b, o + j * 3, none⟩) hbB).trans c0
        clear hb2 hn c0
        rw [HL.out.1, HL.out.2.1, HL.out.2.2]
        clear HL
        generalize L[j].n = xn at *
        generalize endJ L j = en at *
        rcases Nat.lt_trichotomy j (atN L s) with hat | hat | hat
        · have hx := hlt hat
          clear hlt hge heq hgt
          have HI : Hid (inJ L s (j + 1) = inJ L s j) := by
            show _ = _
            unfold inJ
            rw [if_neg (by omega), if_neg (by omega)]
          clear hat
          generalize inJ L s j = ij at *
          go_wp2_with fail
          go_roundw
          case rel => exact ⟨j + 1, by omega, by go_num, (by rw [HI.out]), (by rw [HEn.out]), HB3.out⟩
          case measure => simp [intOf]; omega
        · have hx := hge (by omega)
          rcases heq hat with hy | ⟨hy, hz⟩
          · subst hy
            clear hlt hge heq hgt
            have HI : Hid (inJ L s (j + 1) = ((j : Nat) : Int) ∧ inJ L s j = -1) := by
              show _ ∧ _
              unfold inJ
              exact ⟨by rw [if_pos (by omega), ← hat], if_neg (by omega)⟩
            clear hat
            rw [HI.out.2]
            go_wp2_with fail
            go_roundw
            case rel => exact ⟨j + 1, by omega, by go_num, (by rw [HI.out.1]), (by rw [HEn.out]), HB3.out⟩
            case measure => simp [intOf]; omega
          · clear hlt hge heq hgt
            have HI : Hid (inJ L s (j + 1) = ((j : Nat) : Int) ∧ inJ L s j = -1) := by
              show _ ∧ _
              unfold inJ
              exact ⟨by rw [if_pos (by omega), ← hat], if_neg (by omega)⟩
            clear hat
            rw [HI.out.2]
            go_wp2_with fail
            go_roundw
            case rel => exact ⟨j + 1, by omega, by go_num, (by rw [HI.out.1]), (by rw [HEn.out]), HB3.out⟩
            case measure => simp [intOf]; omega
        · have hx := hge (by omega)
          obtain ⟨hy, hz⟩ := hgt hat
          have hy' : (en == 0) = false := beq_eq_false_iff_ne.2 hy
          have hz' : decide (s < en) = false := decide_eq_false (by omega)
          clear hlt hge heq hgt hy hz
          have HI : Hid (inJ L s (j + 1) = inJ L s j) := by
            show _ = _
            unfold inJ
            rw [if_pos (by omega), if_pos (by omega)]
          clear hat
          generalize inJ L s j = ij at *
          go_wp2_with fail
          go_roundw
          case rel => exact ⟨j + 1, by omega, by go_num, (by rw [HI.out]), (by rw [HEn.out]), HB3.out⟩
          case measure => simp [intOf]; omega
end Go.Proofs.Yteddpogjpohacab
