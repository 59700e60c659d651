/- The walks of Life. -/
import Derived.Test.YteddpogjpohacabWChn
namespace Go.Proofs.Yteddpogjpohacab
open Go.RowKit
set_option maxRecDepth 100000

theorem life_none {L : List Rw} {p : Int} (h : p < 0 ∨ (L.length : Int) ≤ p) : lifeA L p = 0 ∧ lifeB L p = 0 ∧ lifeE L p = 5 := by
  refine ⟨?_, ?_, if_pos h⟩
  · unfold lifeA
    split
    · rfl
    · rw [List.getElem?_eq_none (by omega)]
  · unfold lifeB
    split
    · rfl
    · rw [List.getElem?_eq_none (by omega)]
theorem life_zero {L : List Rw} (h : 0 < L.length) : lifeA L 0 = L[0].n ∧ lifeB L 0 = 0 ∧ lifeE L 0 = 0 := by
  refine ⟨?_, rfl, if_neg (by omega)⟩
  unfold lifeA
  rw [if_neg (by omega)]
  simp [List.getElem?_eq_getElem h]
theorem life_succ {L : List Rw} {j : Nat} (h : j + 1 < L.length) : lifeA L ((j + 1 : Nat) : Int) = L[j + 1].n ∧ lifeB L ((j + 1 : Nat) : Int) = (L[j]'(by omega)).n ∧ lifeE L ((j + 1 : Nat) : Int) = 0 := by
  refine ⟨?_, ?_, if_neg (by omega)⟩
  · unfold lifeA
    rw [if_neg (by omega), Int.toNat_natCast, List.getElem?_eq_getElem h]
  · unfold lifeB
    rw [if_neg (by omega), Int.toNat_natCast, List.getElem?_eq_getElem h, Nat.add_sub_cancel, List.getElem?_eq_getElem (show j < L.length by omega)]

def LifeP (P : Program) (f : Nat) (L : List Rw) (p : Option Addr) (c : Nat) (x : Int) (w : World) : Prop :=
  Calls P f #[.slice p L.length c, .int .i64 x] w fun e w' => e = .returned (.tuple #[.int .u64 (lifeA L x), .int .u64 (lifeB L x), .int .i64 (lifeE L x)]) ∧ Below w.heap.size w w'

set_option maxHeartbeats 2000000 in
theorem life_any (L : List Rw) (p : Option Addr) (c : Nat) (x : Int) (w : World) (hR : RdR .u64 w w.heap.size p L) (hlen : L.length ≤ 17592186043904) : LifeP Try.prog 8 L p c x w := by
  unfold LifeP
  have HR : Hid (RdR _ _ _ _ _) := hR
  clear hR
  by_cases h1 : x < 0
  · obtain ⟨e1, e2, e3⟩ := life_none (L := L) (Or.inl h1)
    rw [e1, e2, e3]
    clear e1 e2 e3
    go_enter Try.func8, Try.ntmps8
    go_wp2
    go_ret3
    exact ⟨rfl, Below.refl _ _⟩
  by_cases h2 : (L.length : Int) ≤ x
  · obtain ⟨e1, e2, e3⟩ := life_none (L := L) (Or.inr h2)
    rw [e1, e2, e3]
    clear e1 e2 e3
    go_enter Try.func8, Try.ntmps8
    go_wp2
    go_ret3
    exact ⟨rfl, Below.refl _ _⟩
  obtain ⟨j, rfl⟩ := Int.eq_ofNat_of_zero_le (show 0 ≤ x by omega)
  have hj : j < L.length := by omega
  clear h1 h2
  obtain ⟨b, o, q, d, rfl, hbB, c0, _⟩ := HR.out j hj
  cases j with
  | zero =>
    rw [show ((0 : Nat) : Int) = 0 from rfl]
    obtain ⟨e1, e2, e3⟩ := life_zero hj
    rw [e1, e2, e3]
    clear e1 e2 e3
    simp only [Nat.zero_mul, Nat.add_zero] at c0
    generalize L[0].n = xn at *
    obtain ⟨m, hm⟩ : ∃ m, L.length = m + 1 := ⟨L.length - 1, by omega⟩
    rw [hm] at *
    clear hm
    go_enter Try.func8, Try.ntmps8
    go_wp2
    go_ret3
    exact ⟨rfl, Below.refl _ _⟩
  | succ j =>
    obtain ⟨e1, e2, e3⟩ := life_succ hj
    rw [e1, e2, e3]
    clear e1 e2 e3
    obtain ⟨b2, o2, q2, d2, e2, _, p0, _⟩ := HR.out j (by omega)
    injection e2 with e2
    injection e2 with e3 e4
    subst e3 e4
    generalize L[j + 1].n = xn at *
    generalize L[j].n = pn at *
    go_enter Try.func8, Try.ntmps8
    go_wp2
    go_ret3
    exact ⟨rfl, Below.refl _ _⟩

