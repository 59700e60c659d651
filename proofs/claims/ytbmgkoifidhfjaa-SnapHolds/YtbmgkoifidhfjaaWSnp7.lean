/- slices.BinarySearchFunc of readers by their slots. -/
import Derived.Test.YtbmgkoifidhfjaaWSnp3
namespace Go.Proofs.Ytbmgkoifidhfjaa
open Go.RowKit
set_option maxRecDepth 100000

def cmpI (x y : Int) : Int := if x < y then -1 else if y < x then 1 else 0
theorem isNaN_any (x : Int) (w : World) : Calls Try.prog 87 #[.int .i64 x] w fun e w' => e = .returned (.bool false) ∧ w' = w := by
  go_enter Try.func87, Try.ntmps87
  go_wp2
  go_ret
  exact ⟨by simp, rfl⟩
theorem compare_any (x y : Int) (w : World) : Calls Try.prog 74 #[.int .i64 x, .int .i64 y] w fun e w' => e = .returned (.int .i64 (cmpI x y)) ∧ w' = w := by
  have C1 : Hid (∀ x w, Calls Try.prog 87 #[.int .i64 x] w fun e w' => e = .returned (.bool false) ∧ w' = w) := isNaN_any
  unfold cmpI
  by_cases h1 : x < y
  · rw [if_pos h1]
    go_enter Try.func74, Try.ntmps74
    go_wp2_with fail
    refine (C1.out _ _).mono ?_
    rintro e w2 ⟨rfl, rfl⟩
    go_wp2_with fail
    refine (C1.out _ _).mono ?_
    rintro e w2 ⟨rfl, rfl⟩
    go_wp2_with fail
    go_ret
    exact ⟨rfl, rfl⟩
  · rw [if_neg h1]
    by_cases h2 : y < x
    · rw [if_pos h2]
      go_enter Try.func74, Try.ntmps74
      go_wp2_with fail
      refine (C1.out _ _).mono ?_
      rintro e w2 ⟨rfl, rfl⟩
      go_wp2_with fail
      refine (C1.out _ _).mono ?_
      rintro e w2 ⟨rfl, rfl⟩
      go_wp2_with fail
      go_ret
      exact ⟨rfl, rfl⟩
    · rw [if_neg h2]
      have e : x = y := by omega
      subst e
      clear h1 h2
      go_enter Try.func74, Try.ntmps74
      go_wp2_with fail
      refine (C1.out _ _).mono ?_
      rintro e w2 ⟨rfl, rfl⟩
      go_wp2_with fail
      refine (C1.out _ _).mono ?_
      rintro e w2 ⟨rfl, rfl⟩
      go_wp2_with fail
      go_ret
      exact ⟨rfl, rfl⟩
theorem leavef_any (x y : Nat) (n : Int) (w : World) : Calls Try.prog 73 #[.agg #[.int .i64 (x : Nat), .int .u64 (y : Nat)], .int .i64 n] w fun e w' => e = .returned (.int .i64 (cmpI (x : Nat) n)) ∧ Below w.heap.size w w' := by
  have HB : Hid (Below w.heap.size w (w.alloc (.cells #[.int .i64 (x : Nat), .int .u64 (y : Nat)] 49))) := (Below.refl _ _).alloc (Nat.le_refl _) _
  have C1 : Hid (∀ w, Calls Try.prog 74 #[.int .i64 (x : Nat), .int .i64 n] w fun e w' => e = .returned (.int .i64 (cmpI (x : Nat) n)) ∧ w' = w) := compare_any _ _
  go_enter Try.func73, Try.ntmps73
  go_wp2_with fail
  refine (C1.out _).mono ?_
  rintro e w2 ⟨rfl, rfl⟩
  go_wp2_with fail
  go_ret
  exact ⟨rfl, HB.out⟩
theorem cmp_lt {x n : Int} : cmpI x n < 0 ↔ x < n := by
  unfold cmpI
  split
  · omega
  · split <;> omega
theorem cmp_eq {x n : Int} : cmpI x n = 0 ↔ x = n := by
  unfold cmpI
  split
  · omega
  · split <;> omega
theorem has_no {R : List Rd} {n : Int} (h : ∀ i (hi : i < R.length), ¬ (R[i].sl : Int) = n) : hasR R n = false := List.any_eq_false.2 fun r hr => by
  obtain ⟨i, hi, e⟩ := List.getElem_of_mem hr
  rw [← e]
  simpa using h i hi
theorem InvR.lt {R : List Rd} (h : InvR R) {i j : Nat} (hij : i < j) (hj : j < R.length) : R[i].sl < R[j].sl := (List.pairwise_iff_getElem.1 h.1) i j (by omega) hj hij
set_option maxHeartbeats 2000000 in
theorem bsearch_any (R : List Rd) (p : Option Addr) (c : Nat) (n : Int) (w : World) (hR : RdR w p R) (hI : InvR R) :
    Calls Try.prog 72 #[.slice p R.length c, .int .i64 n, .func (.func 73) #[] #[]] w fun e w' => (∃ i : Nat, e = .returned (.tuple #[.int .i64 (i : Nat), .bool (hasR R n)]) ∧ (hasR R n = true → ∃ hi : i < R.length, (R[i].sl : Int) = n)) ∧ Below w.heap.size w w' := by
  have HR : Hid (RdR w p R) := hR
  have HI : Hid (InvR R) := hI
  have hlen := hI.len
  clear hR hI
  have HC : Hid (∀ (x y : Nat) (w1 : World), Calls Try.prog 73 #[.agg #[.int .i64 (x : Nat), .int .u64 (y : Nat)], .int .i64 n] w1 fun e w' => e = .returned (.int .i64 (cmpI (x : Nat) n)) ∧ Below w1.heap.size w1 w') := fun x y w1 => leavef_any x y n w1
  go_enter Try.func72, Try.ntmps72
  go_wp2_with fail
  go_loopw [9, 10] (fun a b wr => ∃ i j : Nat, a = .int .i64 (i : Int) ∧ b = .int .i64 (j : Int) ∧ i ≤ j ∧ j ≤ R.length ∧ Hid (∀ k (hk : k < R.length), k < i → (R[k].sl : Int) < n) ∧ Hid (∀ k (hk : k < R.length), j ≤ k → n ≤ (R[k].sl : Int)) ∧ Hid (Below w.heap.size w wr)) (fun a b _ => (intOf b).toNat - (intOf a).toNat)
  case atStart => exact ⟨0, R.length, by go_num, rfl, Nat.zero_le _, Nat.le_refl _, fun k _ h => absurd h (by omega), fun k hk h => absurd h (by omega), Below.refl _ _⟩
  case round =>
    obtain ⟨i, j, rfl, rfl, hij, hj, hA, hB, hW⟩ := hrel
    by_cases h0 : i = j
    · subst h0
      clear hij
      by_cases hi : i < R.length
      · obtain ⟨b, o, rfl, hb, d0, d1⟩ := HR.out i hi
        have e0 := (hW.out.cell (p := ⟨b, o + i * 2, none⟩) hb).trans d0
        have e1 := (hW.out.cell (p := ⟨b, o + i * 2 + 1, none⟩) hb).trans d1
        have HH : Hid ((cmpI (R[i].sl : Nat) n == 0) = hasR R n ∧ (hasR R n = true → (R[i].sl : Int) = n)) := by
          by_cases hx : (R[i].sl : Int) = n
          · have h1 := has_at hi
            rw [hx] at h1
            rw [h1]
            exact ⟨by simpa using cmp_eq.2 hx, fun _ => hx⟩
          · have h1 : hasR R n = false := has_no fun k hk => by
              rcases Nat.lt_trichotomy k i with h | h | h
              · have := hA.out k hk h; omega
              · subst h; exact hx
              · have h2 := HI.out.lt h hk
                have h3 := hB.out i hi (Nat.le_refl _)
                omega
            rw [h1]
            refine ⟨?_, fun h => by cases h⟩
            have : ¬ cmpI (R[i].sl : Nat) n = 0 := fun h => hx (cmp_eq.1 h)
            simpa using this
        clear d0 d1 hb hA hB
        generalize R[i].st = y at *
        have CC : Hid (Calls _ _ _ _ _) := HC.out R[i].sl y wr
        have HX : Hid (hasR R n = true → (R[i].sl : Int) = n) := HH.out.2
        have hh := HH.out.1
        clear HH
        generalize R[i].sl = x at e0 CC hh
        generalize cmpI (x : Nat) n = cm at *
        go_wp2_with fail
        refine CC.out.mono ?_
        rintro e w2 ⟨rfl, hb2⟩
        have HB2 : Hid (Below w.heap.size w w2) := hW.out.trans (hb2.mono hW.out.size)
        clear hb2 CC
        go_wp2_with fail
        refine bodyPost_ret (results_tmp2 rfl _ _ _) rfl ?_
        refine ⟨⟨i, ?_, fun h => ⟨hi, HX.out h⟩⟩, HB2.out⟩
        rw [← hh]
        rfl
      · have h1 : hasR R n = false := has_no fun k hk => by
          have := hA.out k hk (by omega)
          omega
        have HNO : Hid (hasR R n = false) := h1
        have hi2 : i = R.length := by omega
        subst hi2
        clear hA hB h1 hi hj
        go_wp2_with fail
        refine bodyPost_ret (results_tmp2 rfl _ _ _) rfl ?_
        exact ⟨⟨R.length, by rw [HNO.out]; rfl, fun h => by rw [HNO.out] at h; cases h⟩, hW.out⟩
    · have hl : i < j := by omega
      obtain ⟨m, hm⟩ : ∃ m : Nat, m = (i + j) / 2 := ⟨_, rfl⟩
      have hmi : ((i : Int) + (j : Int)) / 2 = ((m : Nat) : Int) := by omega
      have hm1 : m < R.length := by omega
      have HM : Hid (i ≤ m ∧ m < j) := ⟨by omega, by omega⟩
      clear hm
      obtain ⟨b, o, rfl, hb, d0, d1⟩ := HR.out m hm1
      have e0 := (hW.out.cell (p := ⟨b, o + m * 2, none⟩) hb).trans d0
      have e1 := (hW.out.cell (p := ⟨b, o + m * 2 + 1, none⟩) hb).trans d1
      have CC : Hid (Calls _ _ _ _ _) := HC.out R[m].sl R[m].st wr
      clear d0 d1 hb
      by_cases hx : (R[m].sl : Int) < n
      · have HA2 : Hid (∀ k (hk : k < R.length), k < m + 1 → (R[k].sl : Int) < n) := fun k hk hkm => by
          rcases Nat.lt_or_eq_of_le (Nat.lt_succ_iff.1 hkm) with h | h
          · have := HI.out.lt h hm1; omega
          · subst h; exact hx
        have hc := cmp_lt.2 hx
        clear hx hA
        generalize R[m].st = y at *
        generalize R[m].sl = x at e0 CC hc
        generalize cmpI (x : Nat) n = cm at *
        go_wp2_with fail
        refine CC.out.mono ?_
        rintro e w2 ⟨rfl, hb2⟩
        have HB2 : Hid (Below w.heap.size w w2) := hW.out.trans (hb2.mono hW.out.size)
        clear hb2 CC hmi
        go_wp2_with fail
        go_roundw
        case rel => exact ⟨m + 1, j, by go_num, rfl, by have := HM.out; omega, hj, HA2, hB, HB2⟩
        case measure => simp [intOf]; have := HM.out; omega
      · have HB3 : Hid (∀ k (hk : k < R.length), m ≤ k → n ≤ (R[k].sl : Int)) := fun k hk hkm => by
          rcases Nat.lt_or_eq_of_le hkm with h | h
          · have := HI.out.lt h hk; omega
          · subst h; omega
        have hc : ¬ cmpI (R[m].sl : Nat) n < 0 := fun h => hx (cmp_lt.1 h)
        clear hx hB
        generalize R[m].st = y at *
        generalize R[m].sl = x at e0 CC hc
        generalize cmpI (x : Nat) n = cm at *
        go_wp2_with fail
        refine CC.out.mono ?_
        rintro e w2 ⟨rfl, hb2⟩
        have HB2 : Hid (Below w.heap.size w w2) := hW.out.trans (hb2.mono hW.out.size)
        clear hb2 CC hmi
        go_wp2_with fail
        go_roundw
        case rel => exact ⟨i, m, rfl, rfl, HM.out.1, by have := HM.out; omega, hA, HB3, HB2⟩
        case measure => simp [intOf]; have := HM.out; omega
end Go.Proofs.Ytbmgkoifidhfjaa
