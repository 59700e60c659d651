/- The walks towards the text of a float: that it hangs on the float alone. -/
import Derived.Test.YtljiokkdaelmpaaGreatDoorWVal
import Derived.Laws.ShiftsVarLaws
import Derived.Deep.QuietTactic
import Derived.BigQuiet
namespace Go.Proofs.YtljiokkdaelmpaaGreatDoor
open Go.RowKit
set_option maxRecDepth 100000

/-- a number of 64 bits -/
def U64 (x : Int) : Prop := 0 ≤ x ∧ x < 18446744073709551616
theorem u64_wrap (x : Int) : U64 (IntKind.u64.wrap x) := by
  unfold U64 IntKind.wrap
  simp [IntKind.bits, IntKind.signed]
  omega
theorem u64_or (a b : Int) : U64 (bits .or .u64 a b) := u64_wrap _
theorem u64_div {x : Int} (h : U64 x) {k : Int} (hk : 1 ≤ k) : U64 (x / k) := by
  obtain ⟨h1, h2⟩ := h
  exact ⟨Int.ediv_nonneg h1 (by omega), Int.lt_of_le_of_lt (Int.ediv_le_self _ h1) h2⟩

set_option maxHeartbeats 400000 in
theorem mul64_ex (x y : Int) : ∃ h l : Int, ∀ w : World, Calls Tryz.prog 144 #[.int .u64 x, .int .u64 y] w fun e w' => e = .returned (.tuple #[.int .u64 h, .int .u64 l]) ∧ w' = w := by
  apply Exists.intro
  apply Exists.intro
  intro w
  go_enter Tryz.func144, Tryz.ntmps144
  go_wp2
  go_ret2
  exact ⟨rfl, rfl⟩

set_option maxHeartbeats 400000 in
theorem nudge_ex (x n : Int) (_hx : U64 x) : ∃ r : Int, U64 r ∧ ∀ w : World, Calls Tryz.prog 121 #[.int .u64 x, .int .i64 n] w fun e w' => e = .returned (.int .u64 r) ∧ w' = w := by
  apply Exists.intro
  refine And.intro ?_ ?_
  rotate_left
  intro w
  go_enter Tryz.func121, Tryz.ntmps121
  go_wp2
  go_ret
  exact ⟨rfl, rfl⟩
  · exact u64_wrap _
set_option maxHeartbeats 400000 in
theorem ceil_ex (x : Int) (_hx : U64 x) : ∃ r : Int, U64 r ∧ ∀ w : World, Calls Tryz.prog 122 #[.int .u64 x] w fun e w' => e = .returned (.int .u64 r) ∧ w' = w := by
  apply Exists.intro
  refine And.intro ?_ ?_
  rotate_left
  intro w
  go_enter Tryz.func122, Tryz.ntmps122
  go_wp2
  go_ret
  exact ⟨rfl, rfl⟩
  · exact u64_div (u64_wrap _) (by decide)
set_option maxHeartbeats 400000 in
theorem floor_ex (x : Int) (_hx : U64 x) : ∃ r : Int, U64 r ∧ ∀ w : World, Calls Tryz.prog 123 #[.int .u64 x] w fun e w' => e = .returned (.int .u64 r) ∧ w' = w := by
  apply Exists.intro
  refine And.intro ?_ ?_
  rotate_left
  intro w
  go_enter Tryz.func123, Tryz.ntmps123
  go_wp2
  go_ret
  exact ⟨rfl, rfl⟩
  · exact u64_div (k := 4) (u64_wrap _) (by decide)
set_option maxHeartbeats 400000 in
theorem round_ex (x : Int) (_hx : U64 x) : ∃ r : Int, U64 r ∧ ∀ w : World, Calls Tryz.prog 124 #[.int .u64 x] w fun e w' => e = .returned (.int .u64 r) ∧ w' = w := by
  apply Exists.intro
  refine And.intro ?_ ?_
  rotate_left
  intro w
  go_enter Tryz.func124, Tryz.ntmps124
  go_wp2
  go_ret
  exact ⟨rfl, rfl⟩
  · exact u64_div (u64_wrap _) (by decide)

/-- 1 for true -/
def b2 (b : Bool) : Int := if b then 1 else 0
set_option maxHeartbeats 400000 in
theorem bool2_any (b : Bool) (w : World) : Calls Tryz.prog 145 #[.bool b] w fun e w' => e = .returned (.int .u64 (b2 b)) ∧ w' = w := by
  cases b
  all_goals
    go_enter Tryz.func145, Tryz.ntmps145
    go_wp2
    go_ret
    exact ⟨rfl, rfl⟩

theorem and63 (s : Int) : 0 ≤ bits .and .i64 s 63 ∧ bits .and .i64 s 63 ≤ 63 := by
  unfold bits
  have h : (BitVec.ofInt 64 s &&& BitVec.ofInt 64 63).toNat ≤ 63 := by
    rw [BitVec.toNat_and]
    exact Nat.and_le_right
  show 0 ≤ IntKind.i64.wrap ((BitVec.ofInt 64 s &&& BitVec.ofInt 64 63).toNat : Int) ∧ IntKind.i64.wrap ((BitVec.ofInt 64 s &&& BitVec.ofInt 64 63).toNat : Int) ≤ 63
  generalize (BitVec.ofInt 64 s &&& BitVec.ofInt 64 63).toNat = z at *
  rw [IntKind.wrap_i64]
  omega

set_option maxHeartbeats 4000000 in
theorem uscale_ex (x p1 p2 s : Int) : ∃ r : Int, U64 r ∧ ∀ (w : World) (b : Nat), w.cell? ⟨b, 0, none⟩ = some (.int .u64 p1) → w.cell? ⟨b, 1, none⟩ = some (.int .u64 p2) → w.cell? ⟨b, 2, none⟩ = some (.int .i64 s) →
    Calls Tryz.prog 120 #[.int .u64 x, .pointer (some ⟨b, 0, none⟩)] w fun e w' => e = .returned (.int .u64 r) ∧ ∃ n, w' = w.drewN n := by
  obtain ⟨h1, l1, H1⟩ := mul64_ex x p1
  obtain ⟨h2, l2, H2⟩ := mul64_ex x p2
  have C1 : Hid (∀ w : World, _) := H1
  have C2 : Hid (∀ w : World, _) := H2
  clear H1 H2
  obtain ⟨q0, q1⟩ := and63 s
  generalize hq : bits .and .i64 s 63 = q at *
  cases ht : (IntKind.u64.wrap (h1 / 2 ^ q.toNat * 2 ^ q.toNat) != h1)
  · rcases Bool.eq_false_or_eq_true (decide (l1 < h2)) with hl | hl
    all_goals
      apply Exists.intro
      refine And.intro ?_ ?_
      rotate_left
      intro w b k1 k2 k3
      go_enter Tryz.func120, Tryz.ntmps120
      go_wp2_with fail
      refine (C1.out _).mono ?_
      rintro e w1 ⟨rfl, rfl⟩
      go_wp2_with fail
      refine (C2.out _).mono ?_
      rintro e w1 ⟨rfl, rfl⟩
      go_wp2_with (first | (go_at_call 145; refine (bool2_any _ _).mono ?_; rintro e w' ⟨rfl, rfl⟩))
      go_quiet ((go_at_call 145; exact Calls.quiet_of_same (bool2_any _ _)))
      go_wp2
      go_ret
      exact ⟨rfl, _, rfl⟩
      exact u64_or _ _
  · apply Exists.intro
    refine And.intro ?_ ?_
    rotate_left
    intro w b k1 k2 k3
    go_enter Tryz.func120, Tryz.ntmps120
    go_wp2_with fail
    refine (C1.out _).mono ?_
    rintro e w1 ⟨rfl, rfl⟩
    go_wp2
    go_ret
    exact ⟨rfl, 0, rfl⟩
    exact u64_or _ _
end Go.Proofs.YtljiokkdaelmpaaGreatDoor
