/- The walks towards the text of a float: that it hangs on the float alone. The walks towards the text of a float, more: the scaler that is laid for a power of ten; the shortest digits, where the mantissa is no power of two. -/
import Derived.Laws.ShiftsVarLaws
import Derived.Deep.QuietTactic
import Derived.BigQuiet
import Derived.Test.YthbjheiogghjnaaGreatDoorGWVal
namespace Go.Proofs.YthbjheiogghjnaaGreatDoor
open Go.RowKit
set_option maxRecDepth 100000

/-- a number of 64 bits -/
def U64 (x : Int) : Prop := 0 ≤ x ∧ x < 18446744073709551616
theorem u64_wrap (x : Int) : U64 (IntKind.u64.wrap x) := by
  unfold U64 IntKind.wrap
  simp [IntKind.bits, IntKind.signed]
  omega
theorem u64_or (a b : Int) : U64 (bits .or .u64 a b) := u64_wrap _
theorem u64_div {x : Int} (h : U64 x) {k : Int} (hk : 1 ≤ k) : U64 (x / k) := by
  obtain ⟨h1, h2⟩ := h
  exact ⟨Int.ediv_nonneg h1 (by omega), Int.lt_of_le_of_lt (Int.ediv_le_self _ h1) h2⟩

set_option maxHeartbeats 400000 in
theorem mul64_ex (x y : Int) : ∃ h l : Int, ∀ w : World, Calls Tryz.prog 147 #[.int .u64 x, .int .u64 y] w fun e w' => e = .returned (.tuple #[.int .u64 h, .int .u64 l]) ∧ w' = w := by
  apply Exists.intro
  apply Exists.intro
  intro w
  go_enter Tryz.func147, Tryz.ntmps147
  go_wp2
  go_ret2
  exact ⟨rfl, rfl⟩

set_option maxHeartbeats 400000 in
theorem nudge_ex (x n : Int) (_hx : U64 x) : ∃ r : Int, U64 r ∧ ∀ w : World, Calls Tryz.prog 132 #[.int .u64 x, .int .i64 n] w fun e w' => e = .returned (.int .u64 r) ∧ w' = w := by
  apply Exists.intro
  refine And.intro ?_ ?_
  rotate_left
  intro w
  go_enter Tryz.func132, Tryz.ntmps132
  go_wp2
  go_ret
  exact ⟨rfl, rfl⟩
  · exact u64_wrap _
set_option maxHeartbeats 400000 in
theorem ceil_ex (x : Int) (_hx : U64 x) : ∃ r : Int, U64 r ∧ ∀ w : World, Calls Tryz.prog 133 #[.int .u64 x] w fun e w' => e = .returned (.int .u64 r) ∧ w' = w := by
  apply Exists.intro
  refine And.intro ?_ ?_
  rotate_left
  intro w
  go_enter Tryz.func133, Tryz.ntmps133
  go_wp2
  go_ret
  exact ⟨rfl, rfl⟩
  · exact u64_div (u64_wrap _) (by decide)
set_option maxHeartbeats 400000 in
theorem floor_ex (x : Int) (_hx : U64 x) : ∃ r : Int, U64 r ∧ ∀ w : World, Calls Tryz.prog 134 #[.int .u64 x] w fun e w' => e = .returned (.int .u64 r) ∧ w' = w := by
  apply Exists.intro
  refine And.intro ?_ ?_
  rotate_left
  intro w
  go_enter Tryz.func134, Tryz.ntmps134
  go_wp2
  go_ret
  exact ⟨rfl, rfl⟩
  · exact u64_div (k := 4) (u64_wrap _) (by decide)
set_option maxHeartbeats 400000 in
theorem round_ex (x : Int) (_hx : U64 x) : ∃ r : Int, U64 r ∧ ∀ w : World, Calls Tryz.prog 135 #[.int .u64 x] w fun e w' => e = .returned (.int .u64 r) ∧ w' = w := by
  apply Exists.intro
  refine And.intro ?_ ?_
  rotate_left
  intro w
  go_enter Tryz.func135, Tryz.ntmps135
  go_wp2
  go_ret
  exact ⟨rfl, rfl⟩
  · exact u64_div (u64_wrap _) (by decide)

/-- 1 for true -/
def b2 (b : Bool) : Int := if b then 1 else 0
set_option maxHeartbeats 400000 in
theorem bool2_any (b : Bool) (w : World) : Calls Tryz.prog 148 #[.bool b] w fun e w' => e = .returned (.int .u64 (b2 b)) ∧ w' = w := by
  cases b
  all_goals
    go_enter Tryz.func148, Tryz.ntmps148
    go_wp2
    go_ret
    exact ⟨rfl, rfl⟩

theorem and63 (s : Int) : 0 ≤ bits .and .i64 s 63 ∧ bits .and .i64 s 63 ≤ 63 := by
  unfold bits
  have h : (BitVec.ofInt 64 s &&& BitVec.ofInt 64 63).toNat ≤ 63 := by
    rw [BitVec.toNat_and]
    exact Nat.and_le_right
  show 0 ≤ IntKind.i64.wrap ((BitVec.ofInt 64 s &&& BitVec.ofInt 64 63).toNat : Int) ∧ IntKind.i64.wrap ((BitVec.ofInt 64 s &&& BitVec.ofInt 64 63).toNat : Int) ≤ 63
  generalize (BitVec.ofInt 64 s &&& BitVec.ofInt 64 63).toNat = z at *
  rw [IntKind.wrap_i64]
  omega

set_option maxHeartbeats 4000000 in
theorem uscale_ex (x p1 p2 s : Int) : ∃ r : Int, U64 r ∧ ∀ (w : World) (b : Nat), w.cell? ⟨b, 0, none⟩ = some (.int .u64 p1) → w.cell? ⟨b, 1, none⟩ = some (.int .u64 p2) → w.cell? ⟨b, 2, none⟩ = some (.int .i64 s) →
    Calls Tryz.prog 131 #[.int .u64 x, .pointer (some ⟨b, 0, none⟩)] w fun e w' => e = .returned (.int .u64 r) ∧ ∃ n, w' = w.drewN n := by
  obtain ⟨h1, l1, H1⟩ := mul64_ex x p1
  obtain ⟨h2, l2, H2⟩ := mul64_ex x p2
  have C1 : Hid (∀ w : World, _) := H1
  have C2 : Hid (∀ w : World, _) := H2
  clear H1 H2
  obtain ⟨q0, q1⟩ := and63 s
  generalize hq : bits .and .i64 s 63 = q at *
  cases ht : (IntKind.u64.wrap (h1 / 2 ^ q.toNat * 2 ^ q.toNat) != h1)
  · rcases Bool.eq_false_or_eq_true (decide (l1 < h2)) with hl | hl
    all_goals
      apply Exists.intro
      refine And.intro ?_ ?_
      rotate_left
      intro w b k1 k2 k3
      go_enter Tryz.func131, Tryz.ntmps131
      go_wp2_with fail
      refine (C1.out _).mono ?_
      rintro e w1 ⟨rfl, rfl⟩
      go_wp2_with fail
      refine (C2.out _).mono ?_
      rintro e w1 ⟨rfl, rfl⟩
      go_wp2_with (first | (go_at_call 148; refine (bool2_any _ _).mono ?_; rintro e w' ⟨rfl, rfl⟩))
      go_quiet ((go_at_call 148; exact Calls.quiet_of_same (bool2_any _ _)))
      go_wp2
      go_ret
      exact ⟨rfl, _, rfl⟩
      exact u64_or _ _
  · apply Exists.intro
    refine And.intro ?_ ?_
    rotate_left
    intro w b k1 k2 k3
    go_enter Tryz.func131, Tryz.ntmps131
    go_wp2_with fail
    refine (C1.out _).mono ?_
    rintro e w1 ⟨rfl, rfl⟩
    go_wp2
    go_ret
    exact ⟨rfl, 0, rfl⟩
    exact u64_or _ _

end Go.Proofs.YthbjheiogghjnaaGreatDoor

namespace Go.Proofs.YthbjheiogghjnaaGreatDoor
open Go.RowKit
set_option maxRecDepth 100000

set_option maxHeartbeats 1000000 in
theorem prescale_any (b : Nat) (e p lp hi lo : Int) (w : World) (h1 : 0 ≤ p + 348) (h2 : p + 348 < 696) (e1 : -2000 ≤ e) (e2 : e ≤ 2000) (l1 : -2000 ≤ lp) (l2 : lp ≤ 2000) (_hb : b ≠ 10)
    (c1 : w.cell? ⟨10, (p + 348).toNat * 2, none⟩ = some (.int .u64 hi)) (c2 : w.cell? ⟨10, (p + 348).toNat * 2 + 1, none⟩ = some (.int .u64 lo))
    (x0 y0 z0 : Value) (a0 : w.cell? ⟨b, 0, none⟩ = some x0) (a1 : w.cell? ⟨b, 1, none⟩ = some y0) (a2 : w.cell? ⟨b, 2, none⟩ = some z0)
    (f0 : w.frozen? ⟨b, 0, none⟩ = false) (f1 : w.frozen? ⟨b, 1, none⟩ = false) (f2 : w.frozen? ⟨b, 2, none⟩ = false) :
    Calls Tryz.prog 129 #[.pointer (some ⟨b, 0, none⟩), .int .i64 e, .int .i64 p, .int .i64 lp] w fun e' w' => e' = .returned (.tuple #[]) ∧ w' = ((w.setCell ⟨b, 0, none⟩ (.int .u64 hi)).setCell ⟨b, 1, none⟩ (.int .u64 lo)).setCell ⟨b, 2, none⟩ (.int .i64 (-(e + lp + 3))) := by
  go_enter Tryz.func129, Tryz.ntmps129
  go_wp2
  go_end0
  exact ⟨rfl, rfl⟩

/-- the table of powers of ten -/
def PT (T : Nat → Int × Int) (w : World) : Prop := ∀ i, i < 696 → w.cell? ⟨10, i * 2, none⟩ = some (.int .u64 (T i).1) ∧ w.cell? ⟨10, i * 2 + 1, none⟩ = some (.int .u64 (T i).2)

theorem and1 (s : Int) : 0 ≤ bits .and .i64 s 1 ∧ bits .and .i64 s 1 ≤ 1 := by
  unfold bits
  have h : (BitVec.ofInt 64 s &&& BitVec.ofInt 64 1).toNat ≤ 1 := by
    rw [BitVec.toNat_and]
    exact Nat.and_le_right
  show 0 ≤ IntKind.i64.wrap ((BitVec.ofInt 64 s &&& BitVec.ofInt 64 1).toNat : Int) ∧ IntKind.i64.wrap ((BitVec.ofInt 64 s &&& BitVec.ofInt 64 1).toNat : Int) ≤ 1
  generalize (BitVec.ofInt 64 s &&& BitVec.ofInt 64 1).toNat = z at *
  rw [IntKind.wrap_i64]
  omega

set_option maxHeartbeats 2000000 in
theorem short_b (T : Nat → Int × Int) (m e : Int) (h0 : (m == 9223372036854775808) = false) (h1 : -1085 ≤ e) (h2 : e ≤ 960) : ∃ d p : Int, (U64 d ∧ -400 ≤ p ∧ p ≤ 400) ∧ ∀ w : World, 10 < w.heap.size → PT T w →
    Calls Tryz.prog 117 #[.int .u64 m, .int .i64 e] w fun e w' => e = .returned (.tuple #[.int .u64 d, .int .i64 p]) ∧ Below w.heap.size w w' := by
  obtain ⟨o1, o2⟩ := and1 (wrap64 (m / 2048))
  generalize hO : bits .and .i64 (wrap64 (m / 2048)) 1 = o at *
  have p1 : -((e + 11) * 78913 / 262144) ≤ 324 := by omega
  have p2 : -292 ≤ -((e + 11) * 78913 / 262144) := by omega
  have hpp : ∃ p, p = -((e + 11) * 78913 / 262144) := ⟨_, rfl⟩
  obtain ⟨p, hp⟩ := hpp
  obtain ⟨u1, hu1, U1⟩ := uscale_ex (IntKind.u64.wrap (m - 1024)) (T (p + 348).toNat).1 (T (p + 348).toNat).2 (-(e + p * 108853 / 32768 + 3))
  obtain ⟨u2, hu2, U2⟩ := uscale_ex (IntKind.u64.wrap (m + 1024)) (T (p + 348).toNat).1 (T (p + 348).toNat).2 (-(e + p * 108853 / 32768 + 3))
  obtain ⟨u3, hu3, U3⟩ := uscale_ex m (T (p + 348).toNat).1 (T (p + 348).toNat).2 (-(e + p * 108853 / 32768 + 3))
  obtain ⟨n1, hn1, N1⟩ := nudge_ex u1 o hu1
  obtain ⟨n2, hn2, N2⟩ := nudge_ex u2 (-o) hu2
  obtain ⟨d1, hd1, D1⟩ := ceil_ex n1 hn1
  obtain ⟨d2, hd2, D2⟩ := floor_ex n2 hn2
  obtain ⟨d3, hd3, D3⟩ := round_ex u3 hu3
  have U1' : Hid _ := U1
  have U2' : Hid _ := U2
  have U3' : Hid _ := U3
  have N1' : Hid _ := N1
  have N2' : Hid _ := N2
  have D1' : Hid _ := D1
  have D2' : Hid _ := D2
  have D3' : Hid _ := D3
  clear U1 U2 U3 N1 N2 D1 D2 D3
  have HP : Hid (p = -((e + 11) * 78913 / 262144)) := hp
  rw [← hp] at p1 p2
  clear hp
  have q1 : -1200 ≤ p * 108853 / 32768 := by omega
  have q2 : p * 108853 / 32768 ≤ 1200 := by omega
  by_cases tA : d1 ≤ IntKind.u64.wrap (IntKind.u64.wrap (d2.tdiv 10) * 10)
  · apply Exists.intro
    apply Exists.intro
    refine And.intro ?_ ?_
    rotate_left
    intro w hg hT
    have k1 := hT (p + 348).toNat (by omega)
    have c := prescale_any w.heap.size e p (p * 108853 / 32768) (T (p + 348).toNat).1 (T (p + 348).toNat).2 (w.alloc (.cells #[.int .u64 0, .int .u64 0, .int .i64 0] 159)) (by omega) (by omega) (by omega) (by omega) (by omega) (by omega) (by omega) (old_cell (by go_grown) hg k1.1) (old_cell (by go_grown) hg k1.2) (.int .u64 0) (.int .u64 0) (.int .i64 0) (by simp [go_sem]) (by simp [go_sem]) (by simp [go_sem]) (by simp [go_sem]) (by simp [go_sem]) (by simp [go_sem])
    have C : Hid (Calls _ _ _ _ _) := c
    clear c k1 hT
    go_enter Tryz.func117, Tryz.ntmps117
    go_wp2_with (first | (go_at_call 91; go_in) | (go_at_call 130; go_in) | (go_at_call 128; go_in))
    rw [← HP.out]
    refine Calls.mono C.out ?_
    rintro e1 w1 ⟨rfl, rfl⟩
    go_wp2_with fail
    refine Calls.mono (U1'.out _ _ (by simp [go_sem]) (by simp [go_sem]) (by simp [go_sem])) ?_
    rintro e1 w2 ⟨rfl, n2, rfl⟩
    go_wp2_with fail
    refine Calls.mono (N1'.out _) ?_
    rintro e1 w3 ⟨rfl, rfl⟩
    go_wp2_with fail
    refine Calls.mono (D1'.out _) ?_
    rintro e1 w4 ⟨rfl, rfl⟩
    go_wp2_with fail
    refine Calls.mono (U2'.out _ _ (by simp [go_sem]) (by simp [go_sem]) (by simp [go_sem])) ?_
    rintro e1 w5 ⟨rfl, n5, rfl⟩
    go_wp2_with fail
    refine Calls.mono (N2'.out _) ?_
    rintro e1 w6 ⟨rfl, rfl⟩
    go_wp2_with fail
    refine Calls.mono (D2'.out _) ?_
    rintro e1 w7 ⟨rfl, rfl⟩
    go_wp2_with fail
    go_ret2
    refine ⟨rfl, below_drewN ?_ _⟩
    exact (Below.refl _ _).alloc (Nat.le_refl _) _
    exact ⟨by first | assumption | exact u64_wrap _, by omega, by omega⟩
  have tA' : IntKind.u64.wrap (IntKind.u64.wrap (d2.tdiv 10) * 10) < d1 := Int.not_le.1 tA
  clear tA
  by_cases tB : d1 < d2
  · apply Exists.intro
    apply Exists.intro
    refine And.intro ?_ ?_
    rotate_left
    intro w hg hT
    have k1 := hT (p + 348).toNat (by omega)
    have c := prescale_any w.heap.size e p (p * 108853 / 32768) (T (p + 348).toNat).1 (T (p + 348).toNat).2 (w.alloc (.cells #[.int .u64 0, .int .u64 0, .int .i64 0] 159)) (by omega) (by omega) (by omega) (by omega) (by omega) (by omega) (by omega) (old_cell (by go_grown) hg k1.1) (old_cell (by go_grown) hg k1.2) (.int .u64 0) (.int .u64 0) (.int .i64 0) (by simp [go_sem]) (by simp [go_sem]) (by simp [go_sem]) (by simp [go_sem]) (by simp [go_sem]) (by simp [go_sem])
    have C : Hid (Calls _ _ _ _ _) := c
    clear c k1 hT
    go_enter Tryz.func117, Tryz.ntmps117
    go_wp2_with (first | (go_at_call 91; go_in) | (go_at_call 130; go_in) | (go_at_call 128; go_in))
    rw [← HP.out]
    refine Calls.mono C.out ?_
    rintro e1 w1 ⟨rfl, rfl⟩
    go_wp2_with fail
    refine Calls.mono (U1'.out _ _ (by simp [go_sem]) (by simp [go_sem]) (by simp [go_sem])) ?_
    rintro e1 w2 ⟨rfl, n2, rfl⟩
    go_wp2_with fail
    refine Calls.mono (N1'.out _) ?_
    rintro e1 w3 ⟨rfl, rfl⟩
    go_wp2_with fail
    refine Calls.mono (D1'.out _) ?_
    rintro e1 w4 ⟨rfl, rfl⟩
    go_wp2_with fail
    refine Calls.mono (U2'.out _ _ (by simp [go_sem]) (by simp [go_sem]) (by simp [go_sem])) ?_
    rintro e1 w5 ⟨rfl, n5, rfl⟩
    go_wp2_with fail
    refine Calls.mono (N2'.out _) ?_
    rintro e1 w6 ⟨rfl, rfl⟩
    go_wp2_with fail
    refine Calls.mono (D2'.out _) ?_
    rintro e1 w7 ⟨rfl, rfl⟩
    go_wp2_with fail
    refine Calls.mono (U3'.out _ _ (by simp [go_sem]) (by simp [go_sem]) (by simp [go_sem])) ?_
    rintro e1 w8 ⟨rfl, n8, rfl⟩
    go_wp2_with fail
    refine Calls.mono (D3'.out _) ?_
    rintro e1 w9 ⟨rfl, rfl⟩
    go_wp2_with fail
    go_ret2
    refine ⟨rfl, below_drewN ?_ _⟩
    exact (Below.refl _ _).alloc (Nat.le_refl _) _
    exact ⟨by first | assumption | exact u64_wrap _, by omega, by omega⟩
  have tB' : d2 ≤ d1 := Int.not_lt.1 tB
  clear tB
  · apply Exists.intro
    apply Exists.intro
    refine And.intro ?_ ?_
    rotate_left
    intro w hg hT
    have k1 := hT (p + 348).toNat (by omega)
    have c := prescale_any w.heap.size e p (p * 108853 / 32768) (T (p + 348).toNat).1 (T (p + 348).toNat).2 (w.alloc (.cells #[.int .u64 0, .int .u64 0, .int .i64 0] 159)) (by omega) (by omega) (by omega) (by omega) (by omega) (by omega) (by omega) (old_cell (by go_grown) hg k1.1) (old_cell (by go_grown) hg k1.2) (.int .u64 0) (.int .u64 0) (.int .i64 0) (by simp [go_sem]) (by simp [go_sem]) (by simp [go_sem]) (by simp [go_sem]) (by simp [go_sem]) (by simp [go_sem])
    have C : Hid (Calls _ _ _ _ _) := c
    clear c k1 hT
    go_enter Tryz.func117, Tryz.ntmps117
    go_wp2_with (first | (go_at_call 91; go_in) | (go_at_call 130; go_in) | (go_at_call 128; go_in))
    rw [← HP.out]
    refine Calls.mono C.out ?_
    rintro e1 w1 ⟨rfl, rfl⟩
    go_wp2_with fail
    refine Calls.mono (U1'.out _ _ (by simp [go_sem]) (by simp [go_sem]) (by simp [go_sem])) ?_
    rintro e1 w2 ⟨rfl, n2, rfl⟩
    go_wp2_with fail
    refine Calls.mono (N1'.out _) ?_
    rintro e1 w3 ⟨rfl, rfl⟩
    go_wp2_with fail
    refine Calls.mono (D1'.out _) ?_
    rintro e1 w4 ⟨rfl, rfl⟩
    go_wp2_with fail
    refine Calls.mono (U2'.out _ _ (by simp [go_sem]) (by simp [go_sem]) (by simp [go_sem])) ?_
    rintro e1 w5 ⟨rfl, n5, rfl⟩
    go_wp2_with fail
    refine Calls.mono (N2'.out _) ?_
    rintro e1 w6 ⟨rfl, rfl⟩
    go_wp2_with fail
    refine Calls.mono (D2'.out _) ?_
    rintro e1 w7 ⟨rfl, rfl⟩
    go_wp2_with fail
    go_ret2
    refine ⟨rfl, below_drewN ?_ _⟩
    exact (Below.refl _ _).alloc (Nat.le_refl _) _
    exact ⟨by first | assumption | exact u64_wrap _, by omega, by omega⟩

end Go.Proofs.YthbjheiogghjnaaGreatDoor
