/- Below of a histogram; the document's Below. -/
import Derived.Test.YtammkfilihlmhaaWBel
namespace Go.Proofs.Ytammkfilihlmhaa
open Go.RowKit
set_option maxRecDepth 100000

set_option maxHeartbeats 4000000 in
theorem below_none (C : List Int) (t : Int) (g : Nat) (w : World) (hR : RowN w g .u64 C) (hl : C.length = 65) (hne : sumU C = 0) :
    Calls Try.prog 40 #[.slice (some ⟨g, 0, none⟩) 65 65, .int .u64 t] w fun e w' => e = .returned (.tuple #[.int .i64 0, .int .i64 5]) ∧ w' = w := by
  have HR : Hid (RowN _ _ _ _) := hR
  clear hR
  go_enter Try.func40, Try.ntmps40
  go_wp2_with fail
  go_loopw [6, 8, 13] (fun s _ i wr => ∃ j : Nat, j ≤ 65 ∧ i = .int .i64 (j : Int) ∧ s = .int .u64 (sumU (C.take j)) ∧ wr = w) (fun _ _ i _ => 65 - (intOf i).toNat)
  case atStart => exact ⟨0, Nat.zero_le _, by go_num, by simp [sumU], rfl⟩
  case round =>
    obtain ⟨j, hj, rfl, rfl, hw⟩ := hrel
    rw [hw]
    clear hw
    by_cases hj0 : j = 65
    · subst hj0
      have e : sumU (C.take 65) = 0 := by rw [← hl, List.take_length]; exact hne
      rw [e]
      go_wp2_with fail
      go_ret2
      exact ⟨rfl, rfl⟩
    · have hj1 : j < 65 := by omega
      have hj2 : j < C.length := by omega
      obtain ⟨c1, _⟩ := HR.out.2 j hj2
      have HS : Hid (sumU (C.take (j + 1)) = _) := sumU_take C j hj2
      generalize C[j] = x at *
      go_wp2_with fail
      go_roundw
      case rel => exact ⟨j + 1, hj1, by go_num, by rw [HS.out, IntKind.wrap_u64], trivial⟩
      case measure => simp [intOf]; omega

/-- the least size, or why there is none -/
def belS (L : List Int) (t : Int) : Int × Int := if t < 0 ∨ 1000 < t then (0, 1) else if L.length = 0 then (0, 5) else ((bel (cntS L) ((L.length : Int) * t % 18446744073709551616) 64 0 : Nat), 0)

theorem inc_in (C : List Int) (k : Nat) (h : ∀ x ∈ C, 0 ≤ x ∧ x < 18446744073709551616) : ∀ x ∈ incS C k, 0 ≤ x ∧ x < 18446744073709551616 := by
  intro x hx
  rcases List.mem_or_eq_of_mem_set hx with h1 | rfl
  · exact h x h1
  · omega
theorem fold_in (L : List Int) : ∀ C : List Int, (∀ x ∈ C, 0 ≤ x ∧ x < 18446744073709551616) → ∀ x ∈ L.foldl (fun C x => incS C (Lib.bitLen x.toNat)) C, 0 ≤ x ∧ x < 18446744073709551616 := by
  induction L with
  | nil => intro C h; exact h
  | cons y L ih => intro C h; rw [List.foldl_cons]; exact ih _ (inc_in C _ h)
theorem cnt_in (L : List Int) : ∀ x ∈ cntS L, 0 ≤ x ∧ x < 18446744073709551616 := by
  apply fold_in
  intro x hx
  have : x = 0 := List.eq_of_mem_replicate hx
  omega

set_option maxHeartbeats 4000000 in
theorem hbelow_any (b : Nat) (L : List Int) (t : Int) (w : World) (hR : RowN w b .u64 (cntS L)) (hok : ∀ x ∈ L, 0 ≤ x ∧ x < 18446744073709551616) (hlen : L.length ≤ 17592186044416) :
    Calls Try.prog 22 #[.pointer (some ⟨b, 0, none⟩), .int .i64 t] w fun e w' => e = .returned (.tuple #[.int .i64 (belS L t).1, .int .i64 (belS L t).2]) ∧ Below w.heap.size w w' := by
  unfold belS
  by_cases h1 : t < 0
  · rw [if_pos (.inl h1)]
    go_enter Try.func22, Try.ntmps22
    go_wp2_with fail
    go_ret2
    exact ⟨rfl, Below.refl _ _⟩
  by_cases h2 : 1000 < t
  · rw [if_pos (.inr h2)]
    go_enter Try.func22, Try.ntmps22
    go_wp2_with fail
    go_ret2
    exact ⟨rfl, Below.refl _ _⟩
  rw [if_neg (by omega)]
  have C1 : Hid (Calls _ _ _ _ _) := counts_any b (cntS L) w hR (cntS_len L)
  have hs := sum_cnt L hok hlen
  have hw : IntKind.u64.wrap t = t := by rw [IntKind.wrap_u64]; omega
  by_cases h3 : L.length = 0
  · rw [if_pos h3]
    have C2 : Hid (∀ (h : Nat) (w1 : World), RowN w1 h .u64 (cntS L) → Calls _ _ _ _ _) := fun h w1 h1 => below_none (cntS L) t h w1 h1 (cntS_len L) (by omega)
    clear hR hs h3
    go_enter Try.func22, Try.ntmps22
    go_wp2_with fail
    refine C1.out.mono ?_
    rintro e w1 ⟨h, rfl, hN, hz, hb⟩
    have C2' : Hid (Calls _ _ _ _ _) := C2.out h w1 hN
    clear hN
    go_wp2_with fail
    refine C2'.out.mono ?_
    rintro e w2 ⟨rfl, hw2⟩
    rw [hw2]
    clear hw2
    go_wp2_with fail
    go_ret2
    exact ⟨rfl, hb⟩
  · rw [if_neg h3]
    have C2 : Hid (∀ (h : Nat) (w1 : World), RowN w1 h .u64 (cntS L) → Calls _ _ _ _ _) := fun h w1 hh => below_any (cntS L) t h w1 hh (cntS_len L) (by omega) (by omega) (by omega) (cnt_in L)
    rw [hs] at C2
    clear hR hs h3
    go_enter Try.func22, Try.ntmps22
    go_wp2_with fail
    refine C1.out.mono ?_
    rintro e w1 ⟨h, rfl, hN, hz, hb⟩
    have C2' : Hid (Calls _ _ _ _ _) := C2.out h w1 hN
    clear hN
    go_wp2_with fail
    refine C2'.out.mono ?_
    rintro e w2 ⟨rfl, hb2⟩
    go_wp2_with fail
    go_ret2
    exact ⟨rfl, hb.trans (hb2.mono hb.size)⟩

set_option maxHeartbeats 4000000 in
theorem rbelow_any (L : List Int) (p : Option Addr) (c : Nat) (t : Int) (w : World) (hR : RdN w w.heap.size p .u64 L) (hok : ∀ x ∈ L, 0 ≤ x ∧ x < 18446744073709551616) (hlen : L.length ≤ 17592186044416) :
    Calls Try.prog 23 #[.slice p L.length c, .int .i64 t] w fun e w' => e = .returned (.tuple #[.int .i64 (belS L t).1, .int .i64 (belS L t).2]) ∧ Below w.heap.size w w' := by
  unfold belS
  by_cases h1 : t < 0
  · rw [if_pos (.inl h1)]
    go_enter Try.func23, Try.ntmps23
    go_wp2_with fail
    go_ret2
    exact ⟨rfl, Below.refl _ _⟩
  by_cases h2 : 1000 < t
  · rw [if_pos (.inr h2)]
    go_enter Try.func23, Try.ntmps23
    go_wp2_with fail
    go_ret2
    exact ⟨rfl, Below.refl _ _⟩
  rw [if_neg (by omega)]
  by_cases h3 : L.length = 0
  · rw [if_pos h3]
    go_enter Try.func23, Try.ntmps23
    go_wp2_with fail
    go_ret2
    exact ⟨rfl, Below.refl _ _⟩
  rw [if_neg h3]
  have C1 : Hid (Calls _ _ _ _ _) := rcounts_any L p c w hR hok hlen
  have hw : IntKind.u64.wrap t = t := by rw [IntKind.wrap_u64]; omega
  have hw2 : IntKind.u64.wrap (L.length : Int) = (L.length : Int) := by rw [IntKind.wrap_u64]; omega
  have hl := cntS_len L
  generalize hC : cntS L = C at *
  generalize hA : bel C ((L.length : Int) * t % 18446744073709551616) 64 0 = A at *
  have HA : Hid _ := hA
  clear hR hok hC hA
  go_enter Try.func23, Try.ntmps23
  go_wp2_with fail
  refine C1.out.mono ?_
  rintro e w1 ⟨h, rfl, hN, hz, hb⟩
  have HN : Hid (RowN _ _ _ _) := hN
  have HB : Hid (Below _ _ _) := hb
  clear hN C1 hb
  go_wp2_with fail
  go_loopw [7, 8] (fun n i wr => ∃ j : Nat, j ≤ 65 ∧ i = .int .i64 (j : Int) ∧ n = .int .u64 (sumU (C.take j)) ∧ Hid ((j ≤ 64 → bel C ((L.length : Int) * t % 18446744073709551616) (64 - j) j = A) ∧ (j = 65 → A = 64)) ∧ wr = w1) (fun _ i _ => 65 - (intOf i).toNat)
  case atStart => exact ⟨0, Nat.zero_le _, by go_num, by simp [sumU], ⟨fun _ => HA.out, fun h => by omega⟩, rfl⟩
  case round =>
    obtain ⟨j, hj, rfl, rfl, hB, hw3⟩ := hrel
    rw [hw3]
    clear hw3
    by_cases hj0 : j = 65
    · subst hj0
      have e := hB.out.2 rfl
      subst e
      go_wp2_with fail
      go_ret2
      exact ⟨rfl, HB.out⟩
    · have hj1 : j < 65 := by omega
      have hj2 : j < C.length := by omega
      obtain ⟨c1, _⟩ := HN.out.2 j hj2
      have HS : Hid (sumU (C.take (j + 1)) = _) := sumU_take C j hj2
      have hE : ¬ (sumU (C.take (j + 1)) * 1000 % 18446744073709551616 < (L.length : Int) * t % 18446744073709551616) → A = j := by
        intro hn
        have h := hB.out.1 (by omega)
        by_cases hj3 : j = 64
        · subst hj3
          exact h.symm
        · obtain ⟨k, hk⟩ : ∃ k, 64 - j = k + 1 := ⟨63 - j, by omega⟩
          rw [hk] at h
          unfold bel at h
          rw [if_neg hn] at h
          exact h.symm
      have hE2 : (sumU (C.take (j + 1)) * 1000 % 18446744073709551616 < (L.length : Int) * t % 18446744073709551616) → (j + 1 ≤ 64 → bel C ((L.length : Int) * t % 18446744073709551616) (64 - (j + 1)) (j + 1) = A) ∧ (j + 1 = 65 → A = 64) := by
        intro hp
        have h := hB.out.1 (by omega)
        refine ⟨fun h4 => ?_, fun h4 => ?_⟩
        · obtain ⟨k, hk⟩ : ∃ k, 64 - j = k + 1 := ⟨63 - j, by omega⟩
          rw [hk] at h
          unfold bel at h
          rw [if_pos hp] at h
          have hk' : k = 64 - (j + 1) := by omega
          rw [← hk']
          exact h
        · have : j = 64 := by omega
          subst this
          exact h.symm
      have HE : Hid _ := hE
      have HE2 : Hid _ := hE2
      clear hE hE2 hB
      rw [HS.out] at HE HE2
      generalize C[j] = x at *
      generalize sumU (C.take j) = u at *
      by_cases hlt : (u + x) % 18446744073709551616 * 1000 % 18446744073709551616 < (L.length : Int) * t % 18446744073709551616
      · have hlt' : IntKind.u64.wrap (1000 * IntKind.u64.wrap (u + x)) < IntKind.u64.wrap (t * (L.length : Int)) := by
          rw [IntKind.wrap_u64, IntKind.wrap_u64, IntKind.wrap_u64, Int.mul_comm 1000, Int.mul_comm t]; exact hlt
        have hE2 : Hid _ := HE2.out hlt
        clear HE HE2 hlt
        go_wp2_with fail
        go_roundw
        case rel => exact ⟨j + 1, hj1, by go_num, by rw [HS.out, IntKind.wrap_u64], hE2, trivial⟩
        case measure => simp [intOf]; omega
      · have hlt' : ¬ IntKind.u64.wrap (1000 * IntKind.u64.wrap (u + x)) < IntKind.u64.wrap (t * (L.length : Int)) := by
          rw [IntKind.wrap_u64, IntKind.wrap_u64, IntKind.wrap_u64, Int.mul_comm 1000, Int.mul_comm t]; exact hlt
        have hlt2 : IntKind.u64.wrap (t * (L.length : Int)) ≤ IntKind.u64.wrap (1000 * IntKind.u64.wrap (u + x)) := by omega
        have hE := HE.out hlt
        subst hE
        clear HE HE2 hlt
        go_wp2_with fail
        go_ret2
        exact ⟨rfl, HB.out⟩
end Go.Proofs.Ytammkfilihlmhaa
