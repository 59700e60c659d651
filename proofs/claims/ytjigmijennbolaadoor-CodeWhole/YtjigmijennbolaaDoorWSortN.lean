/- The walk of sorted at a nil slice. -/
import Derived.Test.YtjigmijennbolaaDoorWSorted
namespace Go.Proofs.YtjigmijennbolaaDoor
open Go.Shelf Go.RowKit Go.Lib Go.Sort
set_option maxRecDepth 100000

set_option maxHeartbeats 2000000 in
theorem insN_any (fv : Value) (w : World) : Calls Tryd.prog 63 #[.slice none 0 0, .int .i64 0, .int .i64 0, fv] w fun e w' => e = .returned (.tuple #[]) ∧ w' = w := by
  go_enter Tryd.func63, Tryd.ntmps63
  go_wp2
  refine wp_loop_rounds 1 ?_
  rw [rounds_succ]
  go_wp2
  go_end0
  exact ⟨rfl, rfl⟩

set_option maxHeartbeats 2000000 in
theorem pdqN_any (lim : Int) (fv : Value) (w : World) : Calls Tryd.prog 47 #[.slice none 0 0, .int .i64 0, .int .i64 0, .int .i64 lim, fv] w fun e w' => e = .returned (.tuple #[]) ∧ w' = w := by
  have hi := fun W => insN_any fv W
  go_enter Tryd.func47, Tryd.ntmps47
  go_wp2
  refine wp_loop_rounds 1 ?_
  rw [rounds_succ]
  go_wp2_with (go_at_call 63; refine (hi _).mono ?_; rintro e w' ⟨rfl, rfl⟩)
  (try simp only [Exit.inBlock, Exit.then]); refine bodyPost_ret (results_none rfl _ _ _) rfl ?_
  exact ⟨rfl, rfl⟩

set_option maxHeartbeats 2000000 in
theorem lenN_any (w : World) : Calls Tryd.prog 48 #[.int .u64 0] w fun e w' => e = .returned (.int .i64 0) ∧ w' = w := by
  have e0 : Lib.bitLen 0 = 0 := by decide
  have hl : ∀ W, Calls Tryd.prog 72 #[.int .u64 0] W fun e w' => e = .returned (.int .i64 0) ∧ w' = W := fun W => by
    have h := len64_any 0 W (by omega)
    rw [e0] at h
    exact h
  clear e0
  go_enter Tryd.func48, Tryd.ntmps48
  go_wp2_with (first | (go_at_call 72; refine (hl _).mono ?_; rintro e w' ⟨rfl, rfl⟩))
  go_ret
  exact ⟨rfl, rfl⟩

set_option maxHeartbeats 2000000 in
theorem sortN_any (fv : Value) (w : World) : Calls Tryd.prog 30 #[.slice none 0 0, fv] w fun e w' => e = .returned (.tuple #[]) ∧ w' = w := by
  have hp := fun lim W => pdqN_any lim fv W
  have hl := lenN_any
  go_enter Tryd.func30, Tryd.ntmps30
  go_wp2_with (first | (go_at_call 48; refine (hl _).mono ?_; rintro e w' ⟨rfl, rfl⟩) | (go_at_call 47; refine (hp _ _).mono ?_; rintro e w' ⟨rfl, rfl⟩))
  go_end0
  exact ⟨rfl, rfl⟩

set_option maxHeartbeats 2000000 in
theorem cloneN_any (w : World) : Calls Tryd.prog 29 #[.slice none 0 0] w fun e w' => e = .returned (.slice none 0 0) ∧ Below w.heap.size w w' := by
  go_enter Tryd.func29, Tryd.ntmps29
  have hnil := fun w1 : World => Lib.run_eql_slice_nil (P := Tryd.prog) w1 22 29 none 0 0 0 0 Tryd.underlying22
  simp only [Option.isNone_none] at hnil
  go_wp2
  go_ret
  exact ⟨rfl, by go_grown⟩

set_option maxHeartbeats 2000000 in
theorem deleteN_any (w : World) : Calls Tryd.prog 28 #[.slice none 0 0, .func (.func 13) #[] #[]] w fun e w' => e = .returned (.slice none 0 0) ∧ Below w.heap.size w w' := by
  have hi := fun W => indexF_any [] none 0 W (fun i hi => absurd hi (by simp)) (by simp)
  simp only [firstI, List.length_nil, if_true] at hi
  go_enter Tryd.func28, Tryd.ntmps28
  go_wp2_with (first | (go_at_call 46; refine (hi _).mono ?_; rintro e w5 ⟨rfl, hb5⟩))
  go_ret
  exact ⟨rfl, hb5⟩

set_option maxHeartbeats 2000000 in
theorem sortedN_any (w : World) : Calls Tryd.prog 18 #[.slice none 0 0] w fun e w' => e = .returned (.slice none 0 0) ∧ Below w.heap.size w w' := by
  go_enter Tryd.func18, Tryd.ntmps18
  go_wp2_with (first
    | (go_at_call 29; refine (cloneN_any _).mono ?_; rintro e w1 ⟨rfl, hb1⟩)
    | (go_at_call 28; refine (deleteN_any _).mono ?_; rintro e w2 ⟨rfl, hb2⟩)
    | (go_at_call 30; refine (sortN_any _ _).mono ?_; rintro e w3 ⟨rfl, rfl⟩))
  go_ret
  exact ⟨rfl, hb1.trans (hb2.mono hb1.size)⟩

/-- sorted, whatever it is given -/
theorem sorted_all (L : List Rg) (p : Option Addr) (c : Nat) (w : World) (hR : RowR w w.heap.size p L) (hlen : L.length ≤ 3518437208784) (hc : L.length ≤ c) (hp : p = none → c = 0) :
    Calls Tryd.prog 18 #[.slice p L.length c] w fun e w' => ∃ (p : Option Addr) (c' : Nat) (R : List Rg), e = .returned (.slice p R.length c') ∧ RowR w' w'.heap.size p R ∧ Rising R ∧ (∀ r, r ∈ R ↔ r ∈ keepL L) ∧ R.length ≤ L.length ∧ RowKit.Below w.heap.size w w' := by
  cases p with
  | some a => exact sorted_any L a c w hR hlen hc
  | none =>
    obtain rfl := hp rfl
    obtain rfl : L = [] := List.eq_nil_of_length_eq_zero (by omega)
    refine (sortedN_any w).mono ?_
    rintro e w' ⟨rfl, hb⟩
    exact ⟨none, 0, [], rfl, fun i hi => absurd hi (by simp), List.Pairwise.nil, fun r => by simp [keepL], Nat.le_refl _, hb⟩
end Go.Proofs.YtjigmijennbolaaDoor
