/- Slices searched: Contains, ContainsFunc. Layer 19: targets. -/
import Derived.Test.YtncfejndmlcidaaGreatGWEdS
namespace Go.Proofs.YtncfejndmlcidaaGreat
open Go.RowKit
set_option maxRecDepth 100000

theorem any_take {α : Type} (t : α → Bool) (L : List α) (k : Nat) (hk : k < L.length) : (L.take (k + 1)).any t = ((L.take k).any t || t L[k]) := by
  rw [List.take_succ_eq_append_getElem hk, List.any_append]
  simp
theorem any_at {α : Type} (t : α → Bool) (L : List α) (k : Nat) (hk : k < L.length) (h : t L[k] = true) : L.any t = true := List.any_eq_true.2 ⟨_, List.getElem_mem hk, h⟩
set_option maxHeartbeats 4000000 in
theorem containsN_any (v : Value) (L : List Nat) (x : Nat) (w : World) (hL : SlG encN 1 w.heap.size w v L) (hl : L.length ≤ 4398046511104) :
    Calls Tryz.prog 84 #[v, .int .i64 (x : Int)] w fun e w' => e = .returned (.bool (L.any (fun y => x == y))) ∧ w' = w := by
  have CI : Hid (Calls Tryz.prog 115 #[v, .int .i64 (x : Int)] w fun e w' => ∃ r : Int, e = .returned (.int .i64 r) ∧ decide (r ≥ 0) = L.any (fun y => x == y) ∧ w' = w) := by
    obtain ⟨p, c, rfl, hpc, hp0, hrow⟩ := hL.f
    have HRow : Hid (∀ i (hi : i < L.length), ∃ b o, p = some ⟨b, o, none⟩ ∧ w.cell? ⟨b, o + i, none⟩ = some (.int .i64 (L[i] : Nat))) := fun i hi => by
      obtain ⟨b, o, e, hb, hc⟩ := hrow i hi
      have hd := hc 0 _ rfl
      rw [Nat.mul_one, Nat.add_zero] at hd
      exact ⟨b, o, e, hd⟩
    obtain ⟨l, hll⟩ : ∃ l, L.length = l := ⟨_, rfl⟩
    have HLL : Hid (L.length = l) := hll
    rw [hll] at hpc hl ⊢
    clear hL hrow hll
    go_enter Tryz.func115, Tryz.ntmps115
    go_wp2_with fail
    go_loopw [8] (fun ix wr => ∃ k : Nat, ix = .int .i64 (k : Int) ∧ k ≤ l ∧ Hid ((L.take k).any (fun y => x == y) = false) ∧ wr = w) (fun ix _ => l - (intOf ix).toNat)
    case atStart => exact ⟨0, by go_num, Nat.zero_le _, rfl, rfl⟩
    case round =>
      obtain ⟨k, rfl, hk, HF, rfl⟩ := hrel
      by_cases hk0 : k = l
      · subst hk0
        go_wp2_with fail
        go_ret
        refine ⟨-1, rfl, ?_, rfl⟩
        have h1 := HF.out
        rw [← HLL.out, List.take_length] at h1
        rw [h1]
        rfl
      · have hk1 : k < l := by omega
        clear hk0
        have hki : k < L.length := by rw [HLL.out]; exact hk1
        obtain ⟨b, o, rfl, c0⟩ := HRow.out k hki
        by_cases hx : x = L[k]
        · have hq : ((x : Int) == ((L[k] : Nat) : Int)) = true := by rw [beq_iff_eq, ← hx]
          have HAny : Hid (L.any (fun y => x == y) = true) := any_at _ L k hki (beq_iff_eq.2 hx)
          generalize L[k] = y at *
          clear hx
          go_wp2_with fail
          go_ret
          exact ⟨k, rfl, by rw [HAny.out]; simp, rfl⟩
        · have hq : ((x : Int) == ((L[k] : Nat) : Int)) = false := by
            rw [beq_eq_false_iff_ne]
            omega
          have HF2 : Hid ((L.take (k + 1)).any (fun y => x == y) = false) := by
            show _ = _
            rw [any_take _ L k hki, HF.out]
            simpa using hx
          generalize L[k] = y at *
          clear hx HF
          go_wp2_with fail
          go_roundw
          case rel => exact ⟨k + 1, by go_num, hk1, HF2.out, by trivial⟩
          case measure => simp [intOf]; omega
  clear hL hl
  obtain ⟨R, hR⟩ : ∃ R, L.any (fun y => x == y) = R := ⟨_, rfl⟩
  rw [hR] at CI ⊢
  clear hR
  go_enter Tryz.func84, Tryz.ntmps84
  go_wp2_with fail
  refine CI.out.mono ?_
  rintro e w1 ⟨r, rfl, hr, rfl⟩
  have HRR : Hid (decide (r ≥ 0) = R) := hr
  clear hr
  go_wp2_with fail
  go_ret
  exact ⟨by rw [← HRR.out]; rfl, rfl⟩
set_option maxHeartbeats 4000000 in
theorem containsFN_any (fid : FuncId) (k1 k2 : Value) (t : Nat → Bool) (v : Value) (L : List Nat)  (w : World) (hin : ∀ args w, (callFunc fid args).run Tryz.prog w = .ok (.enter fid args) w) (hL : SlG encN 1 w.heap.size w v L) (hl : L.length ≤ 4398046511104)
    (HC : ∀ (x : Nat) (w1 : World), x ∈ L → Below w.heap.size w w1 → Calls Tryz.prog fid #[.int .i64 (x : Nat), k1, k2] w1 fun e w' => e = .returned (.bool (t x)) ∧ Below w1.heap.size w1 w') :
    Calls Tryz.prog 85 #[v, .func (.func fid) #[] #[k1, k2]] w fun e w' => e = .returned (.bool (L.any t)) ∧ Below w.heap.size w w' := by
  have CI : Hid (Calls Tryz.prog 116 #[v, .func (.func fid) #[] #[k1, k2]] w fun e w' => ∃ r : Int, e = .returned (.int .i64 r) ∧ decide (r ≥ 0) = L.any t ∧ Below w.heap.size w w') := by
    have HHC : Hid (∀ (x : Nat) (w1 : World), x ∈ L → Below w.heap.size w w1 → Calls Tryz.prog fid #[.int .i64 (x : Nat), k1, k2] w1 fun e w' => e = .returned (.bool (t x)) ∧ Below w1.heap.size w1 w') := HC
    obtain ⟨p, c, rfl, hpc, hp0, hrow⟩ := hL.f
    have HRow : Hid (∀ i (hi : i < L.length), ∃ b o, p = some ⟨b, o, none⟩ ∧ b < w.heap.size ∧ w.cell? ⟨b, o + i, none⟩ = some (.int .i64 (L[i] : Nat))) := fun i hi => by
      obtain ⟨b, o, e, hb, hc⟩ := hrow i hi
      have hd := hc 0 _ rfl
      rw [Nat.mul_one, Nat.add_zero] at hd
      exact ⟨b, o, e, hb, hd⟩
    obtain ⟨l, hll⟩ : ∃ l, L.length = l := ⟨_, rfl⟩
    have HLL : Hid (L.length = l) := hll
    rw [hll] at hpc hl ⊢
    clear hL hrow hll HC
    go_enter Tryz.func116, Tryz.ntmps116
    go_wp2_with fail
    go_loopw [8] (fun ix wr => ∃ k : Nat, ix = .int .i64 (k : Int) ∧ k ≤ l ∧ Hid ((L.take k).any t = false) ∧ Hid (Below w.heap.size w wr)) (fun ix _ => l - (intOf ix).toNat)
    case atStart => exact ⟨0, by go_num, Nat.zero_le _, rfl, Below.refl _ _⟩
    case round =>
      obtain ⟨k, rfl, hk, HF, HBl⟩ := hrel
      by_cases hk0 : k = l
      · subst hk0
        go_wp2_with fail
        go_ret
        refine ⟨-1, rfl, ?_, HBl.out⟩
        have h1 := HF.out
        rw [← HLL.out, List.take_length] at h1
        rw [h1]
        rfl
      · have hk1 : k < l := by omega
        clear hk0
        have hki : k < L.length := by rw [HLL.out]; exact hk1
        obtain ⟨b, o, rfl, hb, c0⟩ := HRow.out k hki
        have e0 : wr.cell? ⟨b, o + k, none⟩ = some (.int .i64 (L[k] : Nat)) := (HBl.out.cell (p := ⟨b, _, none⟩) hb).trans c0
        have CX : Hid (Calls Tryz.prog fid #[.int .i64 (L[k] : Nat), k1, k2] wr fun e w' => e = .returned (.bool (t L[k])) ∧ Below wr.heap.size wr w') := HHC.out L[k] wr (List.getElem_mem hki) HBl.out
        clear c0 hb
        cases hx : t L[k]
        · rw [hx] at CX
          have HF2 : Hid ((L.take (k + 1)).any t = false) := by
            show _ = _
            rw [any_take _ L k hki, HF.out, hx]
            rfl
          generalize L[k] = y at *
          clear hx HF hki
          go_wp2_with fail
          refine CX.out.mono ?_
          rintro e w5 ⟨rfl, hb5⟩
          have HB5 : Hid (Below w.heap.size w w5) := HBl.out.trans (hb5.mono HBl.out.size)
          clear hb5 CX
          go_wp2_with fail
          go_roundw
          case rel => exact ⟨k + 1, by go_num, hk1, HF2.out, HB5.out⟩
          case measure => simp [intOf]; omega
        · rw [hx] at CX
          have HAny : Hid (L.any t = true) := any_at _ L k hki hx
          generalize L[k] = y at *
          clear hx HF hki
          go_wp2_with fail
          refine CX.out.mono ?_
          rintro e w5 ⟨rfl, hb5⟩
          have HB5 : Hid (Below w.heap.size w w5) := HBl.out.trans (hb5.mono HBl.out.size)
          clear hb5 CX
          go_wp2_with fail
          go_ret
          exact ⟨k, rfl, by rw [HAny.out]; simp, HB5.out⟩
  clear hL hl HC
  obtain ⟨R, hR⟩ : ∃ R, L.any t = R := ⟨_, rfl⟩
  rw [hR] at CI ⊢
  clear hR
  go_enter Tryz.func85, Tryz.ntmps85
  go_wp2_with fail
  refine CI.out.mono ?_
  rintro e w1 ⟨r, rfl, hr, hb⟩
  have HRR : Hid (decide (r ≥ 0) = R ∧ Below w.heap.size w w1) := ⟨hr, hb⟩
  clear hr hb
  go_wp2_with fail
  go_ret
  exact ⟨by rw [← HRR.out.1]; rfl, HRR.out.2⟩
set_option maxHeartbeats 4000000 in
theorem containsFT_any (fid : FuncId) (k1 : Value) (t : Int → Bool) (v : Value) (L : List Int) (pt : Int → Nat) (w : World) (hin : ∀ args w, (callFunc fid args).run Tryz.prog w = .ok (.enter fid args) w) (hL : SlG (encT pt) 1 w.heap.size w v L) (hl : L.length ≤ 4398046511104)
    (HC : ∀ (x : Int) (w1 : World), x ∈ L → Below w.heap.size w w1 → Calls Tryz.prog fid #[.pointer (some ⟨pt x, 0, none⟩), k1] w1 fun e w' => e = .returned (.bool (t x)) ∧ Below w1.heap.size w1 w') :
    Calls Tryz.prog 117 #[v, .func (.func fid) #[] #[k1]] w fun e w' => e = .returned (.bool (L.any t)) ∧ Below w.heap.size w w' := by
  have CI : Hid (Calls Tryz.prog 156 #[v, .func (.func fid) #[] #[k1]] w fun e w' => ∃ r : Int, e = .returned (.int .i64 r) ∧ decide (r ≥ 0) = L.any t ∧ Below w.heap.size w w') := by
    have HHC : Hid (∀ (x : Int) (w1 : World), x ∈ L → Below w.heap.size w w1 → Calls Tryz.prog fid #[.pointer (some ⟨pt x, 0, none⟩), k1] w1 fun e w' => e = .returned (.bool (t x)) ∧ Below w1.heap.size w1 w') := HC
    obtain ⟨p, c, rfl, hpc, hp0, hrow⟩ := hL.f
    have HRow : Hid (∀ i (hi : i < L.length), ∃ b o, p = some ⟨b, o, none⟩ ∧ b < w.heap.size ∧ w.cell? ⟨b, o + i, none⟩ = some (.pointer (some ⟨pt L[i], 0, none⟩))) := fun i hi => by
      obtain ⟨b, o, e, hb, hc⟩ := hrow i hi
      have hd := hc 0 _ rfl
      rw [Nat.mul_one, Nat.add_zero] at hd
      exact ⟨b, o, e, hb, hd⟩
    obtain ⟨l, hll⟩ : ∃ l, L.length = l := ⟨_, rfl⟩
    have HLL : Hid (L.length = l) := hll
    rw [hll] at hpc hl ⊢
    clear hL hrow hll HC
    go_enter Tryz.func156, Tryz.ntmps156
    go_wp2_with fail
    go_loopw [8] (fun ix wr => ∃ k : Nat, ix = .int .i64 (k : Int) ∧ k ≤ l ∧ Hid ((L.take k).any t = false) ∧ Hid (Below w.heap.size w wr)) (fun ix _ => l - (intOf ix).toNat)
    case atStart => exact ⟨0, by go_num, Nat.zero_le _, rfl, Below.refl _ _⟩
    case round =>
      obtain ⟨k, rfl, hk, HF, HBl⟩ := hrel
      by_cases hk0 : k = l
      · subst hk0
        go_wp2_with fail
        go_ret
        refine ⟨-1, rfl, ?_, HBl.out⟩
        have h1 := HF.out
        rw [← HLL.out, List.take_length] at h1
        rw [h1]
        rfl
      · have hk1 : k < l := by omega
        clear hk0
        have hki : k < L.length := by rw [HLL.out]; exact hk1
        obtain ⟨b, o, rfl, hb, c0⟩ := HRow.out k hki
        have e0 : wr.cell? ⟨b, o + k, none⟩ = some (.pointer (some ⟨pt L[k], 0, none⟩)) := (HBl.out.cell (p := ⟨b, _, none⟩) hb).trans c0
        have CX : Hid (Calls Tryz.prog fid #[.pointer (some ⟨pt L[k], 0, none⟩), k1] wr fun e w' => e = .returned (.bool (t L[k])) ∧ Below wr.heap.size wr w') := HHC.out L[k] wr (List.getElem_mem hki) HBl.out
        clear c0 hb
        cases hx : t L[k]
        · rw [hx] at CX
          have HF2 : Hid ((L.take (k + 1)).any t = false) := by
            show _ = _
            rw [any_take _ L k hki, HF.out, hx]
            rfl
          generalize L[k] = y at *
          clear hx HF hki
          go_wp2_with fail
          refine CX.out.mono ?_
          rintro e w5 ⟨rfl, hb5⟩
          have HB5 : Hid (Below w.heap.size w w5) := HBl.out.trans (hb5.mono HBl.out.size)
          clear hb5 CX
          go_wp2_with fail
          go_roundw
          case rel => exact ⟨k + 1, by go_num, hk1, HF2.out, HB5.out⟩
          case measure => simp [intOf]; omega
        · rw [hx] at CX
          have HAny : Hid (L.any t = true) := any_at _ L k hki hx
          generalize L[k] = y at *
          clear hx HF hki
          go_wp2_with fail
          refine CX.out.mono ?_
          rintro e w5 ⟨rfl, hb5⟩
          have HB5 : Hid (Below w.heap.size w w5) := HBl.out.trans (hb5.mono HBl.out.size)
          clear hb5 CX
          go_wp2_with fail
          go_ret
          exact ⟨k, rfl, by rw [HAny.out]; simp, HB5.out⟩
  clear hL hl HC
  obtain ⟨R, hR⟩ : ∃ R, L.any t = R := ⟨_, rfl⟩
  rw [hR] at CI ⊢
  clear hR
  go_enter Tryz.func117, Tryz.ntmps117
  go_wp2_with fail
  refine CI.out.mono ?_
  rintro e w1 ⟨r, rfl, hr, hb⟩
  have HRR : Hid (decide (r ≥ 0) = R ∧ Below w.heap.size w w1) := ⟨hr, hb⟩
  clear hr hb
  go_wp2_with fail
  go_ret
  exact ⟨by rw [← HRR.out.1]; rfl, HRR.out.2⟩
set_option maxHeartbeats 4000000 in
theorem containsFS_any (fid : FuncId) (k1 k2 : Value) (t : Sw → Bool) (v : Value) (L : List Sw)  (w : World) (hin : ∀ args w, (callFunc fid args).run Tryz.prog w = .ok (.enter fid args) w) (hL : SlG encS 3 w.heap.size w v L) (hl : L.length ≤ 4398046511104)
    (HC : ∀ (x : Sw) (w1 : World), x ∈ L → Below w.heap.size w w1 → Calls Tryz.prog fid #[.agg #[.string (x).it, .int .i64 (x).fr, .int .i64 (x).nt], k1, k2] w1 fun e w' => e = .returned (.bool (t x)) ∧ Below w1.heap.size w1 w') :
    Calls Tryz.prog 119 #[v, .func (.func fid) #[] #[k1, k2]] w fun e w' => e = .returned (.bool (L.any t)) ∧ Below w.heap.size w w' := by
  have CI : Hid (Calls Tryz.prog 157 #[v, .func (.func fid) #[] #[k1, k2]] w fun e w' => ∃ r : Int, e = .returned (.int .i64 r) ∧ decide (r ≥ 0) = L.any t ∧ Below w.heap.size w w') := by
    have HHC : Hid (∀ (x : Sw) (w1 : World), x ∈ L → Below w.heap.size w w1 → Calls Tryz.prog fid #[.agg #[.string (x).it, .int .i64 (x).fr, .int .i64 (x).nt], k1, k2] w1 fun e w' => e = .returned (.bool (t x)) ∧ Below w1.heap.size w1 w') := HC
    obtain ⟨p, c, rfl, hpc, hp0, hrow⟩ := hL.f
    have HRow : Hid (∀ i (hi : i < L.length), ∃ b o, p = some ⟨b, o, none⟩ ∧ b < w.heap.size ∧ w.cell? ⟨b, o + i * 3, none⟩ = some (.string (L[i]).it) ∧ w.cell? ⟨b, o + i * 3 + 1, none⟩ = some (.int .i64 (L[i]).fr) ∧ w.cell? ⟨b, o + i * 3 + 2, none⟩ = some (.int .i64 (L[i]).nt)) := fun i hi => by
      obtain ⟨b, o, e, hb, hc⟩ := hrow i hi
      exact ⟨b, o, e, hb, hc 0 _ rfl, hc 1 _ rfl, hc 2 _ rfl⟩
    obtain ⟨l, hll⟩ : ∃ l, L.length = l := ⟨_, rfl⟩
    have HLL : Hid (L.length = l) := hll
    rw [hll] at hpc hl ⊢
    clear hL hrow hll HC
    go_enter Tryz.func157, Tryz.ntmps157
    go_wp2_with fail
    go_loopw [8] (fun ix wr => ∃ k : Nat, ix = .int .i64 (k : Int) ∧ k ≤ l ∧ Hid ((L.take k).any t = false) ∧ Hid (Below w.heap.size w wr)) (fun ix _ => l - (intOf ix).toNat)
    case atStart => exact ⟨0, by go_num, Nat.zero_le _, rfl, Below.refl _ _⟩
    case round =>
      obtain ⟨k, rfl, hk, HF, HBl⟩ := hrel
      by_cases hk0 : k = l
      · subst hk0
        go_wp2_with fail
        go_ret
        refine ⟨-1, rfl, ?_, HBl.out⟩
        have h1 := HF.out
        rw [← HLL.out, List.take_length] at h1
        rw [h1]
        rfl
      · have hk1 : k < l := by omega
        clear hk0
        have hki : k < L.length := by rw [HLL.out]; exact hk1
        obtain ⟨b, o, rfl, hb, c0, c1, c2⟩ := HRow.out k hki
        have e0 : wr.cell? ⟨b, o + k * 3, none⟩ = some (.string (L[k]).it) := (HBl.out.cell (p := ⟨b, _, none⟩) hb).trans c0
        have e1 : wr.cell? ⟨b, o + k * 3 + 1, none⟩ = some (.int .i64 (L[k]).fr) := (HBl.out.cell (p := ⟨b, _, none⟩) hb).trans c1
        have e2 : wr.cell? ⟨b, o + k * 3 + 2, none⟩ = some (.int .i64 (L[k]).nt) := (HBl.out.cell (p := ⟨b, _, none⟩) hb).trans c2
        have CX : Hid (Calls Tryz.prog fid #[.agg #[.string (L[k]).it, .int .i64 (L[k]).fr, .int .i64 (L[k]).nt], k1, k2] wr fun e w' => e = .returned (.bool (t L[k])) ∧ Below wr.heap.size wr w') := HHC.out L[k] wr (List.getElem_mem hki) HBl.out
        clear c0 c1 c2 hb
        cases hx : t L[k]
        · rw [hx] at CX
          have HF2 : Hid ((L.take (k + 1)).any t = false) := by
            show _ = _
            rw [any_take _ L k hki, HF.out, hx]
            rfl
          generalize L[k] = y at *
          clear hx HF hki
          go_wp2_with fail
          refine CX.out.mono ?_
          rintro e w5 ⟨rfl, hb5⟩
          have HB5 : Hid (Below w.heap.size w w5) := HBl.out.trans (hb5.mono HBl.out.size)
          clear hb5 CX
          go_wp2_with fail
          go_roundw
          case rel => exact ⟨k + 1, by go_num, hk1, HF2.out, HB5.out⟩
          case measure => simp [intOf]; omega
        · rw [hx] at CX
          have HAny : Hid (L.any t = true) := any_at _ L k hki hx
          generalize L[k] = y at *
          clear hx HF hki
          go_wp2_with fail
          refine CX.out.mono ?_
          rintro e w5 ⟨rfl, hb5⟩
          have HB5 : Hid (Below w.heap.size w w5) := HBl.out.trans (hb5.mono HBl.out.size)
          clear hb5 CX
          go_wp2_with fail
          go_ret
          exact ⟨k, rfl, by rw [HAny.out]; simp, HB5.out⟩
  clear hL hl HC
  obtain ⟨R, hR⟩ : ∃ R, L.any t = R := ⟨_, rfl⟩
  rw [hR] at CI ⊢
  clear hR
  go_enter Tryz.func119, Tryz.ntmps119
  go_wp2_with fail
  refine CI.out.mono ?_
  rintro e w1 ⟨r, rfl, hr, hb⟩
  have HRR : Hid (decide (r ≥ 0) = R ∧ Below w.heap.size w w1) := ⟨hr, hb⟩
  clear hr hb
  go_wp2_with fail
  go_ret
  exact ⟨by rw [← HRR.out.1]; rfl, HRR.out.2⟩

end Go.Proofs.YtncfejndmlcidaaGreat

namespace Go.Proofs.YtncfejndmlcidaaGreat
open Go.RowKit
set_option maxRecDepth 100000

/-- places, of each place those to which something leads -/
abbrev OutN (w : World) (C ob : Nat) (vs : Nat → Value) (NN : List (List Nat)) : Prop := OutG encN 1 3 38 w C ob vs NN
theorem encN_one (x : Nat) : ∀ u ∈ encN x, u.oneCell' = true := by intro u hu; simp [encN] at hu; rw [hu]; rfl
/-- the first i done -/
def tgT (ks : List Nat) (LL : List (List Ed)) (i : Nat) : List (List Nat) := (LL.take i).map (tgL ks) ++ List.replicate (LL.length - i) []
theorem tgT_len (ks : List Nat) (LL : List (List Ed)) (i : Nat) (hi : i ≤ LL.length) : (tgT ks LL i).length = LL.length := by
  unfold tgT
  rw [List.length_append, List.length_map, List.length_take, List.length_replicate]; omega
theorem tgT_zero (ks : List Nat) (LL : List (List Ed)) : tgT ks LL 0 = List.replicate LL.length [] := by simp [tgT]
theorem tgT_all (ks : List Nat) (LL : List (List Ed)) : tgT ks LL LL.length = tgs ks LL := by simp [tgT, tgs]
theorem tgT_set (ks : List Nat) (LL : List (List Ed)) (i : Nat) (hi : i < LL.length) : (tgT ks LL i).set i (tgL ks LL[i]) = tgT ks LL (i + 1) := by
  have hl : ((LL.take i).map (tgL ks)).length = i := by rw [List.length_map, List.length_take]; omega
  unfold tgT
  rw [List.set_append, if_neg (by omega), hl, Nat.sub_self, show LL.length - i = (LL.length - (i + 1)) + 1 by omega, List.replicate_succ, List.set_cons_zero, List.take_succ_eq_append_getElem hi, List.map_append, List.append_assoc]
  rfl
theorem tgT_nil (ks : List Nat) (LL : List (List Ed)) (i : Nat) (hi : i < LL.length) : (tgT ks LL i).set i [] = tgT ks LL i := by
  have hl : ((LL.take i).map (tgL ks)).length = i := by rw [List.length_map, List.length_take]; omega
  unfold tgT
  rw [List.set_append, if_neg (by omega), hl, Nat.sub_self, show LL.length - i = (LL.length - (i + 1)) + 1 by omega, List.replicate_succ, List.set_cons_zero]
theorem set_getD_at {α : Type} (L : List α) (i : Nat) (x z : α) (hi : i < L.length) : (L.set i x).getD i z = x := by simp [List.getD_eq_getElem?_getD, hi]
theorem tgF_len (ks : List Nat) : ∀ (l : List Ed) (s : Int × List Nat), (l.foldl (tgF ks) s).2.length ≤ s.2.length + l.length
  | [], s => Nat.le_refl _
  | e :: l, s => by
    rw [List.foldl_cons]
    refine Nat.le_trans (tgF_len ks l _) ?_
    unfold tgF
    split <;> simp <;> omega
set_option maxHeartbeats 8000000 in
theorem targets_any (C ob : Nat) (vs : Nat → Value) (LL : List (List Ed)) (n : Nat) (kv : Value) (ks : List Nat) (w : World) (hO : OutE w C ob vs LL) (hn : LL.length = n) (hn4 : n ≤ 4096) (hl : ∀ l ∈ LL, l.length ≤ 1099511627776) (hK : SlG encN 1 w.heap.size w kv ks) (hk8 : ks.length ≤ 8) :
    Calls Tryz.prog 54 #[.slice (some ⟨ob, 0, none⟩) n n, kv] w fun e w' => ∃ tb ts, e = .returned (.slice (some ⟨tb, 0, none⟩) n n) ∧ OutN w' w.heap.size tb ts (tgs ks LL) ∧ Below w.heap.size w w' := by
  have HA : Hid (LL.length = n ∧ n ≤ 4096 ∧ (∀ l ∈ LL, l.length ≤ 1099511627776) ∧ ks.length ≤ 8) := ⟨hn, hn4, hl, hk8⟩
  have HO : Hid (∀ w', Below w.heap.size w w' → OutE w' C ob vs LL) := fun w' h => hO.on h
  have HK : Hid (∀ w', Below w.heap.size w w' → SlG encN 1 w'.heap.size w' kv ks) := fun w' h => (hK.on h).mono h.size
  have hmk := run_mk1 92 38 nilS 24 info_isl rfl Tryz.underlying92 (by omega) n hn4
  clear hO hn hl hK hk8
  go_enter Tryz.func54, Tryz.ntmps54
  go_upto_region 2 with fail
  obtain ⟨w1, hw1⟩ : ∃ w1, w.alloc (.cells (Array.replicate n nilS) 38) = w1 := ⟨_, rfl⟩
  have HB1 : Hid (Below w.heap.size w w1) := by rw [← hw1]; exact (Below.refl _ _).alloc (Nat.le_refl _) _
  have HO1 : Hid (OutN w1 w.heap.size w.heap.size (fun _ => nilS) (tgT ks LL 0)) := by
    rw [tgT_zero, HA.out.1, ← hw1]
    exact OutG.new w n (Nat.le_refl _)
  rw [hw1]
  clear hw1 hmk
  obtain ⟨D, hD⟩ : ∃ D, w.heap.size = D := ⟨_, rfl⟩
  obtain ⟨tb, htb⟩ : ∃ tb, w.heap.size = tb := ⟨_, rfl⟩
  have HN : Hid (w.heap.size = D ∧ Below D w w1 ∧ OutN w1 D tb (fun _ => nilS) (tgT ks LL 0)) := ⟨hD, by rw [← hD]; exact HB1.out, by rw [← hD, ← htb]; exact HO1.out⟩
  rw [htb]
  clear hD htb HO1 HB1
  go_wp2_with fail
  go_loopw [16] (fun ix wr => ∃ i : Nat, ix = .int .i64 (i : Int) ∧ i ≤ n ∧ Hid (Below D w wr ∧ ∃ ts', OutN wr D tb ts' (tgT ks LL i))) (fun ix _ => n - (intOf ix).toNat)
  case atStart => exact ⟨0, by go_num, Nat.zero_le _, HN.out.2.1, _, HN.out.2.2⟩
  case round =>
    obtain ⟨i, rfl, hi, HI⟩ := hrel
    by_cases hi0 : i = n
    · subst hi0
      go_wp2_with fail
      go_ret
      obtain ⟨h1, ts', h2⟩ := HI.out
      have h3 : tgT ks LL i = tgs ks LL := by rw [← HA.out.1]; exact tgT_all ks LL
      rw [h3] at h2
      exact ⟨tb, ts', rfl, by rw [HN.out.1]; exact h2, by rw [HN.out.1]; exact h1⟩
    · have hi1 : i < n := by omega
      clear hi0
      have HI1 : Hid (i < n) := hi1
      have hil : i < LL.length := by rw [HA.out.1]; exact hi1
      have hOr := HO.out wr (by rw [HN.out.1]; exact HI.out.1)
      have hrow := hOr.row i
      rw [List.getD_eq_getElem?_getD, List.getElem?_eq_getElem hil, Option.getD_some] at hrow
      obtain ⟨q, dd, ev⟩ := hrow.slcL
      have x0 : wr.cell? ⟨ob, i, none⟩ = some (.slice q LL[i].length dd) := by rw [← ev]; exact hOr.cell i hil
      have hle := HA.out.2.2.1 _ (List.getElem_mem hil)
      have HS : Hid ((tgT ks LL i).set i (tgL ks LL[i]) = tgT ks LL (i + 1) ∧ (tgT ks LL i).set i [] = tgT ks LL i ∧ (tgT ks LL i).length = n) := ⟨tgT_set ks LL i hil, tgT_nil ks LL i hil, by rw [tgT_len ks LL i (by omega)]; exact HA.out.1⟩
      have HRow : Hid (∀ w', Below w.heap.size w w' → SlG encE 3 w'.heap.size w' (.slice q LL[i].length dd) LL[i]) := fun w' h => by
        have h1 := (HO.out w' h).row i
        rw [List.getD_eq_getElem?_getD, List.getElem?_eq_getElem hil, Option.getD_some, ev] at h1
        exact OwnG.sl (T := 85) (B := C) (fun _ => rfl) h1
      generalize LL[i] = row at *
      generalize tgT ks LL i = TT at *
      obtain ⟨rl, hrl⟩ : ∃ rl, row.length = rl := ⟨_, rfl⟩
      have HRL : Hid (row.length = rl) := hrl
      rw [hrl] at x0 hle HRow
      have HI2 : Hid (Below D w wr ∧ ∃ ts', OutN wr D tb ts' (TT.set i [])) := ⟨HI.out.1, by rw [HS.out.2.1]; exact HI.out.2⟩
      clear hOr hrow ev hrl hil HI
      rename World => wo
      go_wp2_with fail
      go_loopw [8, 23] (fun la jx wr => ∃ (j : Nat) (last : Int) (acc : List Nat), la = .int .i64 last ∧ jx = .int .i64 (j : Int) ∧ j ≤ rl ∧ Hid ((row.take j).foldl (tgF ks) (-1, []) = (last, acc)) ∧ Hid (Below D w wr ∧ ∃ ts', OutN wr D tb ts' (TT.set i acc))) (fun _ jx _ => rl - (intOf jx).toNat)
      case atStart => exact ⟨0, -1, [], rfl, by go_num, Nat.zero_le _, rfl, HI2.out⟩
      case round =>
        obtain ⟨j, last, acc, rfl, rfl, hj, HF, HJ⟩ := hrel
        clear HI2
        by_cases hj0 : j = rl
        · subst hj0
          have HT : Hid (tgL ks row = acc) := by
            have h1 := HF.out
            rw [← HRL.out, List.take_length] at h1
            show _ = _
            unfold tgL
            rw [h1]
          go_wp2_with fail
          go_roundw
          case rel => exact ⟨i + 1, by go_num, HI1.out, HJ.out.1, by rw [← HS.out.1, HT.out]; exact HJ.out.2⟩
          case measure => have h9 := HI1.out; simp [intOf]; omega
        · have hj1 : j < rl := by omega
          clear hj0
          have HJ1 : Hid (j < rl) := hj1
          have hji : j < row.length := by rw [HRL.out]; exact hj1
          have hsl := HRow.out wr (by rw [HN.out.1]; exact HJ.out.1)
          obtain ⟨p', c', e', _, _, h7⟩ := hsl.f
          obtain ⟨b, o, e2, hb, hc⟩ := h7 j hji
          rw [HRL.out] at e'
          obtain ⟨rfl, -, rfl⟩ := Value.slice.inj e'
          subst e2
          have x0 : wr.cell? ⟨b, o + j * 3, none⟩ = some (.int .i64 (row[j].to : Nat)) := hc 0 _ rfl
          have x1 : wr.cell? ⟨b, o + j * 3 + 1, none⟩ = some (.int .i64 (row[j].kd : Nat)) := hc 1 _ rfl
          have x2 : wr.cell? ⟨b, o + j * 3 + 2, none⟩ = some (.int .i64 (row[j].im : Nat)) := hc 2 _ rfl
          have HFn : Hid ((row.take (j + 1)).foldl (tgF ks) (-1, []) = tgF ks (last, acc) row[j]) := by
            have h1 := foldl_take (tgF ks) (-1, []) row j hji
            show _ = _
            rw [← HF.out]
            exact h1
          have hal : acc.length ≤ j := by
            have h1 := tgF_len ks (row.take j) (-1, [])
            rw [HF.out, List.length_take] at h1
            simp at h1
            omega
          have HAl : Hid (acc.length ≤ 1099511627776) := by show _ ≤ _; omega
          generalize row[j] = x at *
          clear hsl h7 hc hb hji hal e' HF
          rename World => w2
          go_upto_region 9 with fail
          obtain ⟨w3, hw3⟩ : ∃ w3, w2.alloc (.cells #[.int .i64 (x.to : Nat), .int .i64 (x.kd : Nat), .int .i64 (x.im : Nat)] 85) = w3 := ⟨_, rfl⟩
          have HB3 : Hid (Below w2.heap.size w2 w3) := by rw [← hw3]; exact (Below.refl _ _).alloc (Nat.le_refl _) _
          have HK3 : Hid (Blk w3 w2.heap.size #[.int .i64 (x.to : Nat), .int .i64 (x.kd : Nat), .int .i64 (x.im : Nat)] 85) := by rw [← hw3]; exact Blk.new w2 _ _
          rw [hw3]
          have z0 := HK3.out.cell (i := 0) rfl
          have z1 := HK3.out.cell (i := 1) rfl
          have z2 := HK3.out.cell (i := 2) rfl
          have HDw2 : Hid (D ≤ w2.heap.size) := by have h1 := HJ.out.1.size; have h2 := HN.out.1; show _ ≤ _; omega
          have HJ3 : Hid (Below D w w3 ∧ ∃ ts', OutN w3 D tb ts' (TT.set i acc)) := ⟨HJ.out.1.trans (HB3.out.mono HDw2.out), HJ.out.2.elim (fun v h => ⟨v, h.on HB3.out⟩)⟩
          clear hw3 x0 x1 x2 HJ
          have CC : Hid (Calls Tryz.prog 84 #[kv, .int .i64 (x.kd : Nat)] w3 fun e w' => e = .returned (.bool (ks.any (fun y => x.kd == y))) ∧ w' = w3) := containsN_any kv ks x.kd w3 (HK.out w3 (by rw [HN.out.1]; exact HJ3.out.1)) (by have := HA.out.2.2.2; omega)
          generalize hbz : w2.heap.size = bz at *
          clear hbz HB3
          by_cases hl0 : (x.to : Int) = last
          · have HFo : Hid (tgF ks (last, acc) x = (last, acc)) := by
              show _ = _
              unfold tgF
              rw [if_neg (fun h => h.1 hl0)]
            have q0 : ((x.to : Int) == last) = true := by rw [beq_iff_eq]; exact hl0
            subst hl0
            go_wp2_with fail
            go_roundw
            case rel => exact ⟨j + 1, _, acc, rfl, by go_num, HJ1.out, by rw [Hid, HFn.out, HFo.out], HJ3.out⟩
            case measure => have h9 := HJ1.out; simp [intOf]; omega
          · have q0 : ((x.to : Int) == last) = false := by rw [beq_eq_false_iff_ne]; exact hl0
            have HL0 : Hid ((x.to : Int) ≠ last) := hl0
            clear hl0
            have HMem : Hid ((ks.any (fun y => x.kd == y) = true) ↔ x.kd ∈ ks) := by
              show _ ↔ _
              rw [List.any_eq_true]
              exact ⟨fun ⟨y, hy, e⟩ => by rw [beq_iff_eq.1 e]; exact hy, fun h => ⟨_, h, by simp⟩⟩
            generalize ks.any (fun y => x.kd == y) = R at *
            cases R
            · have HFo : Hid (tgF ks (last, acc) x = (last, acc)) := by
                show _ = _
                unfold tgF
                rw [if_neg (fun h => by have h1 := HMem.out.2 h.2; cases h1)]
              go_wp2_with (first | (go_at_call 84; refine CC.out.mono ?_; rintro e w5 ⟨rfl, hw5⟩; obtain rfl := hw5.symm))
              go_roundw
              case rel => exact ⟨j + 1, last, acc, rfl, by go_num, HJ1.out, by rw [Hid, HFn.out, HFo.out], HJ3.out⟩
              case measure => have h9 := HJ1.out; simp [intOf]; omega
            · have HFo : Hid (tgF ks (last, acc) x = ((x.to : Int), acc ++ [x.to])) := by
                show _ = _
                unfold tgF
                rw [if_pos ⟨HL0.out, HMem.out.1 rfl⟩]
              go_upto_region 10 with (first | (go_at_call 84; refine CC.out.mono ?_; rintro e w5 ⟨rfl, hw5⟩; obtain rfl := hw5.symm))
              obtain ⟨hb5, ts5, ho5⟩ := HJ3.out
              have HIt : Hid (i < (TT.set i acc).length) := by show _ < _; rw [List.length_set, HS.out.2.2]; exact HI1.out
              obtain ⟨q0, d0, ev0⟩ := ho5.slr i
              rw [set_getD_at TT i acc [] (by rw [HS.out.2.2]; exact HI1.out)] at ev0
              have HRW : Hid ((TT.set i acc).getD i [] = acc ∧ (TT.set i acc).set i (acc ++ [x.to]) = TT.set i (acc ++ [x.to])) := ⟨set_getD_at TT i acc [] (by rw [HS.out.2.2]; exact HI1.out), by rw [List.set_set]⟩
              have HOd : Hid (OutN w3.drew D tb ts5 (TT.set i acc) ∧ Below D w w3.drew ∧ D ≤ w3.drew.heap.size) := ⟨ho5.on (Below.refl _ _).drew, hb5.drew, by have h1 := hb5.size; have h2 := HN.out.1; show D ≤ w3.heap.size; omega⟩
              have HV : Hid (ts5 i = .slice q0 acc.length d0) := ev0
              have HKd : Hid (Blk w3.drew bz #[.int .i64 (x.to : Nat), .int .i64 (x.kd : Nat), .int .i64 (x.im : Nat)] 85) := HK3.out.drew
              generalize hal : acc.length = al at *
              have HALn : Hid (acc.length = al) := hal
              clear hb5 ho5 ev0 z0 z1 z2 HJ3 HK3 CC hal
              refine wp_region_L (fun w' => w'.cell? ⟨tb, i, none⟩ = some (.slice q0 al d0) ∧ Blk w' bz #[.int .i64 (x.to : Nat), .int .i64 (x.kd : Nat), .int .i64 (x.im : Nat)] 85) 11 (by kernel_rfl) ?_
              generalize w3.drew = wd at *
              have HCd : Hid (wd.cell? ⟨tb, i, none⟩ = some (.slice q0 al d0)) := by rw [Hid, HOd.out.1.cell i HIt.out, HV.out]
              refine wpL_take (v := ?_) 0 rfl (by kernel_rfl) (fun _ _ _ h => h) (by rfl) ?_ ⟨HCd.out, HKd.out⟩ ?_
              rotate_left
              focus
                intro w9 hw9
                have a0 := hw9.1
                have b0 : w9.cell? ⟨bz, 0, none⟩ = some (.int .i64 (x.to : Nat)) := hw9.2.cell rfl
                go_simp
                try with_reducible rfl
              try simp only [Act.put, List.setIfInBounds_toArray, List.set_cons_zero, List.set_cons_succ]
              refine wpL_take (v := ?_) 1 rfl (by kernel_rfl) (fun _ _ _ h => h) (by rfl) ?_ ⟨HCd.out, HKd.out⟩ ?_
              rotate_left
              focus
                intro w9 hw9
                have a0 := hw9.1
                have b0 : w9.cell? ⟨bz, 0, none⟩ = some (.int .i64 (x.to : Nat)) := hw9.2.cell rfl
                go_simp
                try with_reducible rfl
              try simp only [Act.put, List.setIfInBounds_toArray, List.set_cons_zero, List.set_cons_succ]
              refine wpL_take (v := ?_) 2 rfl (by kernel_rfl) (fun _ _ _ h => h) (by rfl) ?_ ⟨HCd.out, HKd.out⟩ ?_
              rotate_left
              focus
                intro w9 hw9
                have a0 := hw9.1
                have b0 : w9.cell? ⟨bz, 0, none⟩ = some (.int .i64 (x.to : Nat)) := hw9.2.cell rfl
                go_simp
                try with_reducible rfl
              try simp only [Act.put, List.setIfInBounds_toArray, List.set_cons_zero, List.set_cons_succ]
              refine wpL_take (v := ?_) 3 rfl (by kernel_rfl) (fun _ _ _ h => h) (by rfl) ?_ ⟨HCd.out, HKd.out⟩ ?_
              rotate_left
              focus
                intro w9 hw9
                have a0 := hw9.1
                have b0 : w9.cell? ⟨bz, 0, none⟩ = some (.int .i64 (x.to : Nat)) := hw9.2.cell rfl
                go_simp
                try with_reducible rfl
              try simp only [Act.put, List.setIfInBounds_toArray, List.set_cons_zero, List.set_cons_succ]
              refine wpL_take (v := ?_) 4 rfl (by kernel_rfl) (fun _ _ _ h => h) (by rfl) ?_ ⟨HCd.out, HKd.out⟩ ?_
              rotate_left
              focus
                intro w9 hw9
                have a0 := hw9.1
                have b0 : w9.cell? ⟨bz, 0, none⟩ = some (.int .i64 (x.to : Nat)) := hw9.2.cell rfl
                go_simp
                try with_reducible rfl
              try simp only [Act.put, List.setIfInBounds_toArray, List.set_cons_zero, List.set_cons_succ]
              refine wpL_take (v := ?_) 5 rfl (by kernel_rfl) (fun _ _ _ h => h) (by rfl) ?_ ⟨HCd.out, HKd.out⟩ ?_
              rotate_left
              focus
                intro w9 hw9
                have a0 := hw9.1
                have b0 : w9.cell? ⟨bz, 0, none⟩ = some (.int .i64 (x.to : Nat)) := hw9.2.cell rfl
                go_simp
                try with_reducible rfl
              try simp only [Act.put, List.setIfInBounds_toArray, List.set_cons_zero, List.set_cons_succ]
              refine wpL_take (v := ?_) 6 rfl (by kernel_rfl) (fun _ _ _ h => h) (by rfl) ?_ ⟨HCd.out, HKd.out⟩ ?_
              rotate_left
              focus
                intro w9 hw9
                have a0 := hw9.1
                have b0 : w9.cell? ⟨bz, 0, none⟩ = some (.int .i64 (x.to : Nat)) := hw9.2.cell rfl
                go_simp
                try with_reducible rfl
              try simp only [Act.put, List.setIfInBounds_toArray, List.set_cons_zero, List.set_cons_succ]
              refine wpL_take (v := ?_) 7 rfl (by kernel_rfl) (fun _ _ _ h => h) (by rfl) ?_ ⟨HCd.out, HKd.out⟩ ?_
              rotate_left
              focus
                intro w9 hw9
                have a0 := hw9.1
                have b0 : w9.cell? ⟨bz, 0, none⟩ = some (.int .i64 (x.to : Nat)) := hw9.2.cell rfl
                go_simp
                try with_reducible rfl
              try simp only [Act.put, List.setIfInBounds_toArray, List.set_cons_zero, List.set_cons_succ]
              refine wpL_one 8 rfl (by kernel_rfl) (by rfl) ?_
              intro K hK
              go_simp
              have hal : Below wd.heap.size wd (wd.alloc (.cells #[.int .i64 (x.to : Nat)] 3)) := (Below.refl _ _).alloc (Nat.le_refl _) _
              have HC3 : Hid (Blk (wd.alloc (.cells #[.int .i64 (x.to : Nat)] 3)) wd.heap.size #[.int .i64 (x.to : Nat)] 3) := Blk.new wd _ _
              have HO3 : Hid (OutN (wd.alloc (.cells #[.int .i64 (x.to : Nat)] 3)) D tb ts5 (TT.set i acc) ∧ Below D w (wd.alloc (.cells #[.int .i64 (x.to : Nat)] 3)) ∧ D ≤ (wd.alloc (.cells #[.int .i64 (x.to : Nat)] 3)).heap.size) := ⟨HOd.out.1.on hal, HOd.out.2.1.trans (hal.mono HOd.out.2.2), Nat.le_trans HOd.out.2.2 hal.size⟩
              have HK3 : Hid (Blk (wd.alloc (.cells #[.int .i64 (x.to : Nat)] 3)) bz #[.int .i64 (x.to : Nat), .int .i64 (x.kd : Nat), .int .i64 (x.im : Nat)] 85) := HKd.out.on hal
              have HCc3 : Hid ((wd.alloc (.cells #[.int .i64 (x.to : Nat)] 3)).cell? ⟨tb, i, none⟩ = some (.slice q0 al d0)) := by rw [Hid, HO3.out.1.cell i HIt.out, HV.out]
              clear hal HOd HKd HCd
              refine hK.out _ _ (fun _ => ⟨HCc3.out, HK3.out⟩) ?_
              clear hK K
              try simp only [Act.put, List.setIfInBounds_toArray, List.set_cons_zero, List.set_cons_succ]
              generalize hgz : wd.heap.size = gz at *
              generalize (wd.alloc (.cells #[.int .i64 (x.to : Nat)] 3)) = w6 at *
              clear hgz
              refine wpL_one 9 rfl (by kernel_rfl) (by rfl) ?_
              intro K hK
              refine wp_appG w6 (.tmp 42) (.tmp 45) 3 38 (.int .i64 0) 8 rfl Tryz.underlying38 info_int9 rfl (by decide) (fun _ => rfl) D (.slice q0 al d0) acc x.to (encN_one _) (by rfl) (by have h1 := HO3.out.1.row i; rw [HRW.out.1, HV.out] at h1; exact h1) gz (by rfl) (fun j u hj => by
                have h0 : j = 0 := by have h9 := (List.getElem?_eq_some_iff.1 hj).1; simp [encN] at h9; omega
                subst h0
                cases hj
                exact HC3.out.cell rfl) (by have h8 := HAl.out; have h9 := HALn.out; omega) (by have h8 := HAl.out; have h9 := HALn.out; omega) HO3.out.2.2 ?_
              intro v4 w4 ho4 hg4 hat4
              have hne : ∀ {g : Nat} {cs : Array Value} {T : TypeId}, Blk w6 g cs T → 3 ≠ T → Blk w4 g cs T := fun hb hT => hb.grown hg4 (own_ne_blk (v := .slice q0 al d0) (by have h1 := HO3.out.1.row i; rw [HV.out] at h1; exact h1) hb hT)
              have HK4 : Hid (Blk w4 bz #[.int .i64 (x.to : Nat), .int .i64 (x.kd : Nat), .int .i64 (x.im : Nat)] 85) := hne HK3.out (by decide)
              have HO4b : Hid (Blk w4 tb ((List.range (TT.set i acc).length).map ts5).toArray 38) := hne HO3.out.1.blk (by decide)
              have HCc4 : Hid (w4.cell? ⟨tb, i, none⟩ = some (.slice q0 al d0)) := by rw [Hid, ← HV.out]; have h1 := HIt.out; exact HO4b.out.cell (by simp only [List.getElem?_toArray, List.getElem?_map, List.getElem?_range h1, Option.map_some])
              obtain ⟨q4, m4, d4, ev4⟩ := ho4.slc
              subst ev4
              have HO4 : Hid (OwnG encN 1 3 w4 D (.slice q4 m4 d4) (acc ++ [x.to]) ∧ Frm w6 w4 (fun k => (ts5 i).ownBlock = some k) ∧ ((Value.slice q4 m4 d4).ownBlock = (ts5 i).ownBlock ∨ (Value.slice q4 m4 d4).ownBlock = some w6.heap.size)) := ⟨ho4, Frm.of_grown hg4 (fun g e => .inl (by rw [HV.out]; exact e)), by rw [HV.out]; exact hat4⟩
              clear ho4 hg4 hat4 hne
              refine hK.out _ _ (fun _ => ⟨HCc4.out, HK4.out⟩) ?_
              clear hK K
              try simp only [Act.put, List.setIfInBounds_toArray, List.set_cons_zero, List.set_cons_succ]
              refine wpL_one 10 rfl (by kernel_rfl) (by rfl) ?_
              intro K hK
              go_simp
              refine hK.out _ _ (fun _ => ⟨HCc4.out, HK4.out⟩) ?_
              clear hK K
              try simp only [Act.put, List.setIfInBounds_toArray, List.set_cons_zero, List.set_cons_succ]
              refine wpL_one 11 rfl (by kernel_rfl) (by rfl) ?_
              intro K hK
              have z0 := HCc4.out
              have f0 := HO4b.out.frozen i
              go_simp
              refine hK.out _ _ (fun h => absurd rfl h) ?_
              clear hK K
              try simp only [Act.put, List.setIfInBounds_toArray, List.set_cons_zero, List.set_cons_succ]
              refine wpL_done (by kernel_rfl) ?_ _
              try simp only [NoPanic]
              have HP := HO3.out.1.put HO3.out.2.2 (by decide) i HIt.out HO4.out.1 HO4.out.2.1 (HO4.out.2.2.elim .inl (fun e => .inr (.inr ⟨_, e, Nat.le_refl _⟩)))
              rw [HRW.out.2] at HP
              have HPh : Hid (OutN (w4.setCell ⟨tb, i, none⟩ (.slice q4 m4 d4)) D tb (updF ts5 i (.slice q4 m4 d4)) (TT.set i (acc ++ [x.to])) ∧ Below D w (w4.setCell ⟨tb, i, none⟩ (.slice q4 m4 d4))) := ⟨HP.1, HO3.out.2.1.trans HP.2.1⟩
              have HK5 : Hid (Blk (w4.setCell ⟨tb, i, none⟩ (.slice q4 m4 d4)) bz #[.int .i64 (x.to : Nat), .int .i64 (x.kd : Nat), .int .i64 (x.im : Nat)] 85) := HK4.out.frm (frm_set w4 tb i _ (F := one1 tb) (.inl rfl)) (fun e => by
                have h1 : w4.heap[tb]? = _ := HO4b.out
                have h2 : w4.heap[bz]? = _ := HK4.out
                rw [show bz = tb from e, h1] at h2
                injection h2 with h2
                injection h2 with h3 h4
                exact absurd h4 (by decide))
              clear HP HK4 HO4b HCc4 HO4
              try clear z0
              try clear f0
              generalize w4.setCell ⟨tb, i, none⟩ (.slice q4 m4 d4) = w7 at *
              have z0 : w7.cell? ⟨bz, 0, none⟩ = some (.int .i64 (x.to : Nat)) := HK5.out.cell rfl
              go_wp2_with fail
              go_roundw
              case rel => exact ⟨j + 1, (x.to : Int), acc ++ [x.to], rfl, by go_num, HJ1.out, by rw [Hid, HFn.out, HFo.out], HPh.out.2, _, HPh.out.1⟩
              case measure => have h9 := HJ1.out; simp [intOf]; omega

end Go.Proofs.YtncfejndmlcidaaGreat
