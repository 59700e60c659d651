/- The walks towards the text of a float, more: the shortest digits at a power of two among the smallest floats. The shortest digits of any float: that they hang on the float alone. -/
import Derived.Test.YthbjheiogghjnaaGreatDoorGWFl1
import Derived.Test.YthbjheiogghjnaaGreatDoorGWFl3
namespace Go.Proofs.YthbjheiogghjnaaGreatDoor
open Go.RowKit
set_option maxRecDepth 100000

set_option maxHeartbeats 2000000 in
theorem short_b2 (T : Nat → Int × Int) (m e : Int) (h0 : (m == 9223372036854775808) = true) (h1 : -1085 ≤ e) (h2 : e ≤ -1085) : ∃ d p : Int, (U64 d ∧ -400 ≤ p ∧ p ≤ 400) ∧ ∀ w : World, 10 < w.heap.size → PT T w →
    Calls Tryz.prog 117 #[.int .u64 m, .int .i64 e] w fun e w' => e = .returned (.tuple #[.int .u64 d, .int .i64 p]) ∧ Below w.heap.size w w' := by
  obtain ⟨o1, o2⟩ := and1 (wrap64 (m / 2048))
  generalize hO : bits .and .i64 (wrap64 (m / 2048)) 1 = o at *
  have p1 : -((e + 11) * 78913 / 262144) ≤ 324 := by omega
  have p2 : -292 ≤ -((e + 11) * 78913 / 262144) := by omega
  have hpp : ∃ p, p = -((e + 11) * 78913 / 262144) := ⟨_, rfl⟩
  obtain ⟨p, hp⟩ := hpp
  obtain ⟨u1, hu1, U1⟩ := uscale_ex (IntKind.u64.wrap (m - 1024)) (T (p + 348).toNat).1 (T (p + 348).toNat).2 (-(e + p * 108853 / 32768 + 3))
  obtain ⟨u2, hu2, U2⟩ := uscale_ex (IntKind.u64.wrap (m + 1024)) (T (p + 348).toNat).1 (T (p + 348).toNat).2 (-(e + p * 108853 / 32768 + 3))
  obtain ⟨u3, hu3, U3⟩ := uscale_ex m (T (p + 348).toNat).1 (T (p + 348).toNat).2 (-(e + p * 108853 / 32768 + 3))
  obtain ⟨n1, hn1, N1⟩ := nudge_ex u1 o hu1
  obtain ⟨n2, hn2, N2⟩ := nudge_ex u2 (-o) hu2
  obtain ⟨d1, hd1, D1⟩ := ceil_ex n1 hn1
  obtain ⟨d2, hd2, D2⟩ := floor_ex n2 hn2
  obtain ⟨d3, hd3, D3⟩ := round_ex u3 hu3
  have U1' : Hid _ := U1
  have U2' : Hid _ := U2
  have U3' : Hid _ := U3
  have N1' : Hid _ := N1
  have N2' : Hid _ := N2
  have D1' : Hid _ := D1
  have D2' : Hid _ := D2
  have D3' : Hid _ := D3
  clear U1 U2 U3 N1 N2 D1 D2 D3
  have HP : Hid (p = -((e + 11) * 78913 / 262144)) := hp
  rw [← hp] at p1 p2
  clear hp
  have q1 : -1200 ≤ p * 108853 / 32768 := by omega
  have q2 : p * 108853 / 32768 ≤ 1200 := by omega
  by_cases tA : d1 ≤ IntKind.u64.wrap (IntKind.u64.wrap (d2.tdiv 10) * 10)
  · apply Exists.intro
    apply Exists.intro
    refine And.intro ?_ ?_
    rotate_left
    intro w hg hT
    have k1 := hT (p + 348).toNat (by omega)
    have c := prescale_any w.heap.size e p (p * 108853 / 32768) (T (p + 348).toNat).1 (T (p + 348).toNat).2 (w.alloc (.cells #[.int .u64 0, .int .u64 0, .int .i64 0] 159)) (by omega) (by omega) (by omega) (by omega) (by omega) (by omega) (by omega) (old_cell (by go_grown) hg k1.1) (old_cell (by go_grown) hg k1.2) (.int .u64 0) (.int .u64 0) (.int .i64 0) (by simp [go_sem]) (by simp [go_sem]) (by simp [go_sem]) (by simp [go_sem]) (by simp [go_sem]) (by simp [go_sem])
    have C : Hid (Calls _ _ _ _ _) := c
    clear c k1 hT
    go_enter Tryz.func117, Tryz.ntmps117
    go_wp2_with (first | (go_at_call 91; go_in) | (go_at_call 130; go_in) | (go_at_call 128; go_in))
    rw [← HP.out]
    refine Calls.mono C.out ?_
    rintro e1 w1 ⟨rfl, rfl⟩
    go_wp2_with fail
    refine Calls.mono (U1'.out _ _ (by simp [go_sem]) (by simp [go_sem]) (by simp [go_sem])) ?_
    rintro e1 w2 ⟨rfl, n2, rfl⟩
    go_wp2_with fail
    refine Calls.mono (N1'.out _) ?_
    rintro e1 w3 ⟨rfl, rfl⟩
    go_wp2_with fail
    refine Calls.mono (D1'.out _) ?_
    rintro e1 w4 ⟨rfl, rfl⟩
    go_wp2_with fail
    refine Calls.mono (U2'.out _ _ (by simp [go_sem]) (by simp [go_sem]) (by simp [go_sem])) ?_
    rintro e1 w5 ⟨rfl, n5, rfl⟩
    go_wp2_with fail
    refine Calls.mono (N2'.out _) ?_
    rintro e1 w6 ⟨rfl, rfl⟩
    go_wp2_with fail
    refine Calls.mono (D2'.out _) ?_
    rintro e1 w7 ⟨rfl, rfl⟩
    go_wp2_with fail
    go_ret2
    refine ⟨rfl, below_drewN ?_ _⟩
    exact (Below.refl _ _).alloc (Nat.le_refl _) _
    exact ⟨by first | assumption | exact u64_wrap _, by omega, by omega⟩
  have tA' : IntKind.u64.wrap (IntKind.u64.wrap (d2.tdiv 10) * 10) < d1 := Int.not_le.1 tA
  clear tA
  by_cases tB : d1 < d2
  · apply Exists.intro
    apply Exists.intro
    refine And.intro ?_ ?_
    rotate_left
    intro w hg hT
    have k1 := hT (p + 348).toNat (by omega)
    have c := prescale_any w.heap.size e p (p * 108853 / 32768) (T (p + 348).toNat).1 (T (p + 348).toNat).2 (w.alloc (.cells #[.int .u64 0, .int .u64 0, .int .i64 0] 159)) (by omega) (by omega) (by omega) (by omega) (by omega) (by omega) (by omega) (old_cell (by go_grown) hg k1.1) (old_cell (by go_grown) hg k1.2) (.int .u64 0) (.int .u64 0) (.int .i64 0) (by simp [go_sem]) (by simp [go_sem]) (by simp [go_sem]) (by simp [go_sem]) (by simp [go_sem]) (by simp [go_sem])
    have C : Hid (Calls _ _ _ _ _) := c
    clear c k1 hT
    go_enter Tryz.func117, Tryz.ntmps117
    go_wp2_with (first | (go_at_call 91; go_in) | (go_at_call 130; go_in) | (go_at_call 128; go_in))
    rw [← HP.out]
    refine Calls.mono C.out ?_
    rintro e1 w1 ⟨rfl, rfl⟩
    go_wp2_with fail
    refine Calls.mono (U1'.out _ _ (by simp [go_sem]) (by simp [go_sem]) (by simp [go_sem])) ?_
    rintro e1 w2 ⟨rfl, n2, rfl⟩
    go_wp2_with fail
    refine Calls.mono (N1'.out _) ?_
    rintro e1 w3 ⟨rfl, rfl⟩
    go_wp2_with fail
    refine Calls.mono (D1'.out _) ?_
    rintro e1 w4 ⟨rfl, rfl⟩
    go_wp2_with fail
    refine Calls.mono (U2'.out _ _ (by simp [go_sem]) (by simp [go_sem]) (by simp [go_sem])) ?_
    rintro e1 w5 ⟨rfl, n5, rfl⟩
    go_wp2_with fail
    refine Calls.mono (N2'.out _) ?_
    rintro e1 w6 ⟨rfl, rfl⟩
    go_wp2_with fail
    refine Calls.mono (D2'.out _) ?_
    rintro e1 w7 ⟨rfl, rfl⟩
    go_wp2_with fail
    refine Calls.mono (U3'.out _ _ (by simp [go_sem]) (by simp [go_sem]) (by simp [go_sem])) ?_
    rintro e1 w8 ⟨rfl, n8, rfl⟩
    go_wp2_with fail
    refine Calls.mono (D3'.out _) ?_
    rintro e1 w9 ⟨rfl, rfl⟩
    go_wp2_with fail
    go_ret2
    refine ⟨rfl, below_drewN ?_ _⟩
    exact (Below.refl _ _).alloc (Nat.le_refl _) _
    exact ⟨by first | assumption | exact u64_wrap _, by omega, by omega⟩
  have tB' : d2 ≤ d1 := Int.not_lt.1 tB
  clear tB
  · apply Exists.intro
    apply Exists.intro
    refine And.intro ?_ ?_
    rotate_left
    intro w hg hT
    have k1 := hT (p + 348).toNat (by omega)
    have c := prescale_any w.heap.size e p (p * 108853 / 32768) (T (p + 348).toNat).1 (T (p + 348).toNat).2 (w.alloc (.cells #[.int .u64 0, .int .u64 0, .int .i64 0] 159)) (by omega) (by omega) (by omega) (by omega) (by omega) (by omega) (by omega) (old_cell (by go_grown) hg k1.1) (old_cell (by go_grown) hg k1.2) (.int .u64 0) (.int .u64 0) (.int .i64 0) (by simp [go_sem]) (by simp [go_sem]) (by simp [go_sem]) (by simp [go_sem]) (by simp [go_sem]) (by simp [go_sem])
    have C : Hid (Calls _ _ _ _ _) := c
    clear c k1 hT
    go_enter Tryz.func117, Tryz.ntmps117
    go_wp2_with (first | (go_at_call 91; go_in) | (go_at_call 130; go_in) | (go_at_call 128; go_in))
    rw [← HP.out]
    refine Calls.mono C.out ?_
    rintro e1 w1 ⟨rfl, rfl⟩
    go_wp2_with fail
    refine Calls.mono (U1'.out _ _ (by simp [go_sem]) (by simp [go_sem]) (by simp [go_sem])) ?_
    rintro e1 w2 ⟨rfl, n2, rfl⟩
    go_wp2_with fail
    refine Calls.mono (N1'.out _) ?_
    rintro e1 w3 ⟨rfl, rfl⟩
    go_wp2_with fail
    refine Calls.mono (D1'.out _) ?_
    rintro e1 w4 ⟨rfl, rfl⟩
    go_wp2_with fail
    refine Calls.mono (U2'.out _ _ (by simp [go_sem]) (by simp [go_sem]) (by simp [go_sem])) ?_
    rintro e1 w5 ⟨rfl, n5, rfl⟩
    go_wp2_with fail
    refine Calls.mono (N2'.out _) ?_
    rintro e1 w6 ⟨rfl, rfl⟩
    go_wp2_with fail
    refine Calls.mono (D2'.out _) ?_
    rintro e1 w7 ⟨rfl, rfl⟩
    go_wp2_with fail
    go_ret2
    refine ⟨rfl, below_drewN ?_ _⟩
    exact (Below.refl _ _).alloc (Nat.le_refl _) _
    exact ⟨by first | assumption | exact u64_wrap _, by omega, by omega⟩
set_option maxHeartbeats 2000000 in
theorem short_c2 (T : Nat → Int × Int) (m e : Int) (h0 : (m == 9223372036854775808) = true) (h1 : -1137 ≤ e) (h2 : e < -1085) : ∃ d p : Int, (U64 d ∧ -400 ≤ p ∧ p ≤ 400) ∧ ∀ w : World, 10 < w.heap.size → PT T w →
    Calls Tryz.prog 117 #[.int .u64 m, .int .i64 e] w fun e w' => e = .returned (.tuple #[.int .u64 d, .int .i64 p]) ∧ Below w.heap.size w w' := by
  obtain ⟨o1, o2⟩ := and1 (wrap64 (m / 2 ^ (11 + (-1085 - e)).toNat))
  generalize hO : bits .and .i64 (wrap64 (m / 2 ^ (11 + (-1085 - e)).toNat)) 1 = o at *
  have p1 : -((e + (11 + (-1085 - e))) * 78913 / 262144) ≤ 324 := by omega
  have p2 : -292 ≤ -((e + (11 + (-1085 - e))) * 78913 / 262144) := by omega
  have hpp : ∃ p, p = -((e + (11 + (-1085 - e))) * 78913 / 262144) := ⟨_, rfl⟩
  obtain ⟨p, hp⟩ := hpp
  obtain ⟨u1, hu1, U1⟩ := uscale_ex (IntKind.u64.wrap (m - IntKind.u64.wrap (2 ^ ((11 + (-1085 - e)).toNat - 1)))) (T (p + 348).toNat).1 (T (p + 348).toNat).2 (-(e + p * 108853 / 32768 + 3))
  obtain ⟨u2, hu2, U2⟩ := uscale_ex (IntKind.u64.wrap (m + IntKind.u64.wrap (2 ^ ((11 + (-1085 - e)).toNat - 1)))) (T (p + 348).toNat).1 (T (p + 348).toNat).2 (-(e + p * 108853 / 32768 + 3))
  obtain ⟨u3, hu3, U3⟩ := uscale_ex m (T (p + 348).toNat).1 (T (p + 348).toNat).2 (-(e + p * 108853 / 32768 + 3))
  obtain ⟨n1, hn1, N1⟩ := nudge_ex u1 o hu1
  obtain ⟨n2, hn2, N2⟩ := nudge_ex u2 (-o) hu2
  obtain ⟨d1, hd1, D1⟩ := ceil_ex n1 hn1
  obtain ⟨d2, hd2, D2⟩ := floor_ex n2 hn2
  obtain ⟨d3, hd3, D3⟩ := round_ex u3 hu3
  have U1' : Hid _ := U1
  have U2' : Hid _ := U2
  have U3' : Hid _ := U3
  have N1' : Hid _ := N1
  have N2' : Hid _ := N2
  have D1' : Hid _ := D1
  have D2' : Hid _ := D2
  have D3' : Hid _ := D3
  clear U1 U2 U3 N1 N2 D1 D2 D3
  have HP : Hid (p = -((e + (11 + (-1085 - e))) * 78913 / 262144)) := hp
  rw [← hp] at p1 p2
  clear hp
  have q1 : -1200 ≤ p * 108853 / 32768 := by omega
  have q2 : p * 108853 / 32768 ≤ 1200 := by omega
  by_cases tA : d1 ≤ IntKind.u64.wrap (IntKind.u64.wrap (d2.tdiv 10) * 10)
  · apply Exists.intro
    apply Exists.intro
    refine And.intro ?_ ?_
    rotate_left
    intro w hg hT
    have k1 := hT (p + 348).toNat (by omega)
    have c := prescale_any w.heap.size e p (p * 108853 / 32768) (T (p + 348).toNat).1 (T (p + 348).toNat).2 (w.alloc (.cells #[.int .u64 0, .int .u64 0, .int .i64 0] 159)) (by omega) (by omega) (by omega) (by omega) (by omega) (by omega) (by omega) (old_cell (by go_grown) hg k1.1) (old_cell (by go_grown) hg k1.2) (.int .u64 0) (.int .u64 0) (.int .i64 0) (by simp [go_sem]) (by simp [go_sem]) (by simp [go_sem]) (by simp [go_sem]) (by simp [go_sem]) (by simp [go_sem])
    have C : Hid (Calls _ _ _ _ _) := c
    clear c k1 hT
    go_enter Tryz.func117, Tryz.ntmps117
    go_wp2_with (first | (go_at_call 91; go_in) | (go_at_call 130; go_in) | (go_at_call 128; go_in))
    rw [← HP.out]
    refine Calls.mono C.out ?_
    rintro e1 w1 ⟨rfl, rfl⟩
    go_wp2_with fail
    refine Calls.mono (U1'.out _ _ (by simp [go_sem]) (by simp [go_sem]) (by simp [go_sem])) ?_
    rintro e1 w2 ⟨rfl, n2, rfl⟩
    go_wp2_with fail
    refine Calls.mono (N1'.out _) ?_
    rintro e1 w3 ⟨rfl, rfl⟩
    go_wp2_with fail
    refine Calls.mono (D1'.out _) ?_
    rintro e1 w4 ⟨rfl, rfl⟩
    go_wp2_with fail
    refine Calls.mono (U2'.out _ _ (by simp [go_sem]) (by simp [go_sem]) (by simp [go_sem])) ?_
    rintro e1 w5 ⟨rfl, n5, rfl⟩
    go_wp2_with fail
    refine Calls.mono (N2'.out _) ?_
    rintro e1 w6 ⟨rfl, rfl⟩
    go_wp2_with fail
    refine Calls.mono (D2'.out _) ?_
    rintro e1 w7 ⟨rfl, rfl⟩
    go_wp2_with fail
    go_ret2
    refine ⟨rfl, below_drewN ?_ _⟩
    exact (Below.refl _ _).alloc (Nat.le_refl _) _
    exact ⟨by first | assumption | exact u64_wrap _, by omega, by omega⟩
  have tA' : IntKind.u64.wrap (IntKind.u64.wrap (d2.tdiv 10) * 10) < d1 := Int.not_le.1 tA
  clear tA
  by_cases tB : d1 < d2
  · apply Exists.intro
    apply Exists.intro
    refine And.intro ?_ ?_
    rotate_left
    intro w hg hT
    have k1 := hT (p + 348).toNat (by omega)
    have c := prescale_any w.heap.size e p (p * 108853 / 32768) (T (p + 348).toNat).1 (T (p + 348).toNat).2 (w.alloc (.cells #[.int .u64 0, .int .u64 0, .int .i64 0] 159)) (by omega) (by omega) (by omega) (by omega) (by omega) (by omega) (by omega) (old_cell (by go_grown) hg k1.1) (old_cell (by go_grown) hg k1.2) (.int .u64 0) (.int .u64 0) (.int .i64 0) (by simp [go_sem]) (by simp [go_sem]) (by simp [go_sem]) (by simp [go_sem]) (by simp [go_sem]) (by simp [go_sem])
    have C : Hid (Calls _ _ _ _ _) := c
    clear c k1 hT
    go_enter Tryz.func117, Tryz.ntmps117
    go_wp2_with (first | (go_at_call 91; go_in) | (go_at_call 130; go_in) | (go_at_call 128; go_in))
    rw [← HP.out]
    refine Calls.mono C.out ?_
    rintro e1 w1 ⟨rfl, rfl⟩
    go_wp2_with fail
    refine Calls.mono (U1'.out _ _ (by simp [go_sem]) (by simp [go_sem]) (by simp [go_sem])) ?_
    rintro e1 w2 ⟨rfl, n2, rfl⟩
    go_wp2_with fail
    refine Calls.mono (N1'.out _) ?_
    rintro e1 w3 ⟨rfl, rfl⟩
    go_wp2_with fail
    refine Calls.mono (D1'.out _) ?_
    rintro e1 w4 ⟨rfl, rfl⟩
    go_wp2_with fail
    refine Calls.mono (U2'.out _ _ (by simp [go_sem]) (by simp [go_sem]) (by simp [go_sem])) ?_
    rintro e1 w5 ⟨rfl, n5, rfl⟩
    go_wp2_with fail
    refine Calls.mono (N2'.out _) ?_
    rintro e1 w6 ⟨rfl, rfl⟩
    go_wp2_with fail
    refine Calls.mono (D2'.out _) ?_
    rintro e1 w7 ⟨rfl, rfl⟩
    go_wp2_with fail
    refine Calls.mono (U3'.out _ _ (by simp [go_sem]) (by simp [go_sem]) (by simp [go_sem])) ?_
    rintro e1 w8 ⟨rfl, n8, rfl⟩
    go_wp2_with fail
    refine Calls.mono (D3'.out _) ?_
    rintro e1 w9 ⟨rfl, rfl⟩
    go_wp2_with fail
    go_ret2
    refine ⟨rfl, below_drewN ?_ _⟩
    exact (Below.refl _ _).alloc (Nat.le_refl _) _
    exact ⟨by first | assumption | exact u64_wrap _, by omega, by omega⟩
  have tB' : d2 ≤ d1 := Int.not_lt.1 tB
  clear tB
  · apply Exists.intro
    apply Exists.intro
    refine And.intro ?_ ?_
    rotate_left
    intro w hg hT
    have k1 := hT (p + 348).toNat (by omega)
    have c := prescale_any w.heap.size e p (p * 108853 / 32768) (T (p + 348).toNat).1 (T (p + 348).toNat).2 (w.alloc (.cells #[.int .u64 0, .int .u64 0, .int .i64 0] 159)) (by omega) (by omega) (by omega) (by omega) (by omega) (by omega) (by omega) (old_cell (by go_grown) hg k1.1) (old_cell (by go_grown) hg k1.2) (.int .u64 0) (.int .u64 0) (.int .i64 0) (by simp [go_sem]) (by simp [go_sem]) (by simp [go_sem]) (by simp [go_sem]) (by simp [go_sem]) (by simp [go_sem])
    have C : Hid (Calls _ _ _ _ _) := c
    clear c k1 hT
    go_enter Tryz.func117, Tryz.ntmps117
    go_wp2_with (first | (go_at_call 91; go_in) | (go_at_call 130; go_in) | (go_at_call 128; go_in))
    rw [← HP.out]
    refine Calls.mono C.out ?_
    rintro e1 w1 ⟨rfl, rfl⟩
    go_wp2_with fail
    refine Calls.mono (U1'.out _ _ (by simp [go_sem]) (by simp [go_sem]) (by simp [go_sem])) ?_
    rintro e1 w2 ⟨rfl, n2, rfl⟩
    go_wp2_with fail
    refine Calls.mono (N1'.out _) ?_
    rintro e1 w3 ⟨rfl, rfl⟩
    go_wp2_with fail
    refine Calls.mono (D1'.out _) ?_
    rintro e1 w4 ⟨rfl, rfl⟩
    go_wp2_with fail
    refine Calls.mono (U2'.out _ _ (by simp [go_sem]) (by simp [go_sem]) (by simp [go_sem])) ?_
    rintro e1 w5 ⟨rfl, n5, rfl⟩
    go_wp2_with fail
    refine Calls.mono (N2'.out _) ?_
    rintro e1 w6 ⟨rfl, rfl⟩
    go_wp2_with fail
    refine Calls.mono (D2'.out _) ?_
    rintro e1 w7 ⟨rfl, rfl⟩
    go_wp2_with fail
    go_ret2
    refine ⟨rfl, below_drewN ?_ _⟩
    exact (Below.refl _ _).alloc (Nat.le_refl _) _
    exact ⟨by first | assumption | exact u64_wrap _, by omega, by omega⟩

end Go.Proofs.YthbjheiogghjnaaGreatDoor

namespace Go.Proofs.YthbjheiogghjnaaGreatDoor
open Go.RowKit
set_option maxRecDepth 100000

theorem short_any (T : Nat → Int × Int) (m e : Int) (h1 : -1137 ≤ e) (h2 : e ≤ 960) : ∃ d p : Int, (U64 d ∧ -400 ≤ p ∧ p ≤ 400) ∧ ∀ w : World, 10 < w.heap.size → PT T w →
    Calls Tryz.prog 117 #[.int .u64 m, .int .i64 e] w fun e w' => e = .returned (.tuple #[.int .u64 d, .int .i64 p]) ∧ Below w.heap.size w w' := by
  cases h0 : (m == 9223372036854775808)
  · by_cases h3 : -1085 ≤ e
    · exact short_b T m e h0 h3 h2
    · exact short_c T m e h0 h1 (by omega)
  · by_cases h3 : -1085 < e
    · have hm : m = 9223372036854775808 := by simpa using h0
      subst hm
      exact short_a T e h3 h2
    · by_cases h4 : -1085 ≤ e
      · exact short_b2 T m e h0 h4 (by omega)
      · exact short_c2 T m e h0 h1 (by omega)

end Go.Proofs.YthbjheiogghjnaaGreatDoor
