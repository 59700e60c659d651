/- Stamps one behind the other. -/
import Derived.Test.YtckjgnjakkeodaaMClk
namespace Go.Proofs.Ytckjgnjakkeodaa

/-- n stamps behind la -/
def run (la n : Nat) : List Nat := (List.range n).map (la + 1 + ·)
theorem run_succ (la n : Nat) : run la (n + 1) = run la n ++ [la + n + 1] := by
  unfold run
  rw [List.range_succ, List.map_append]
  simp
  omega
theorem run_zero (la : Nat) : run la 0 = [] := rfl
theorem mem_run (la n s : Nat) : s ∈ run la n ↔ la < s ∧ s ≤ la + n := by
  unfold run
  rw [List.mem_map]
  constructor
  · rintro ⟨i, hi, rfl⟩
    have := List.mem_range.1 hi
    omega
  · rintro ⟨h1, h2⟩
    exact ⟨s - la - 1, List.mem_range.2 (by omega), by omega⟩
theorem frO_run (la n : Nat) : frO (la + n) (run la n) = la := by
  cases n with
  | zero => rfl
  | succ n =>
    have e : run la (n + 1) = (la + 1) :: ((List.range n).map Nat.succ).map (la + 1 + ·) := by
      unfold run
      rw [List.range_succ_eq_map]
      simp
    rw [e]
    simp [frO]
theorem frO_of {la : Nat} {O : List Nat} {x : Nat} (h : x ∈ O) (hs : O.Pairwise (· < ·)) (hm : ∀ y ∈ O, x ≤ y) : frO la O = x - 1 := by
  cases O with
  | nil => cases h
  | cons y t =>
    simp only [frO]
    rcases List.mem_cons.1 h with rfl | h1
    · rfl
    · have h2 := (List.pairwise_cons.1 hs).1 x h1
      have h3 := hm y (by simp)
      omega
theorem run_sort (la n : Nat) : (run la n).Pairwise (· < ·) := by
  unfold run
  rw [List.pairwise_map]
  exact List.pairwise_lt_range.imp (fun {a b} hab => by omega)
theorem left_sort (O : List Nat) (s : Nat) (h : O.Pairwise (· < ·)) : (left O s).Pairwise (· < ·) := List.Pairwise.filter _ h
/-- one is done that is not the first: the frontier stays -/
theorem frO_run_left (la n s L : Nat) (hn : 0 < n) (h1 : s ≠ la + 1) : frO L (left (run la n) s) = la := by
  rw [frO_of (x := la + 1) (by rw [mem_left, mem_run]; omega) (left_sort _ _ (run_sort la n)) (fun y hy => by rw [mem_left, mem_run] at hy; omega)]
  omega
/-- the first is done: the frontier goes on by one -/
theorem frO_run_first (la n L : Nat) (hn : 1 < n) : frO L (left (run la n) (la + 1)) = la + 1 := by
  rw [frO_of (x := la + 2) (by rw [mem_left, mem_run]; omega) (left_sort _ _ (run_sort la n)) (fun y hy => by rw [mem_left, mem_run] at hy; omega)]
  omega
end Go.Proofs.Ytckjgnjakkeodaa
