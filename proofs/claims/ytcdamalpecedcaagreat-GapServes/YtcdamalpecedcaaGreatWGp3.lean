/- Layer 13: slices.Backward of tickets; grants: whether a taker has its ranges. -/
import Derived.Test.YtcdamalpecedcaaGreatWGp2
import Derived.RangeFuncNested
import Derived.RangeFuncBound
import Derived.RangeFuncCalls
import Derived.RangeFuncLeaves
import Derived.RangeFuncBox
import Derived.Shelf.Abstract
import Derived.Shelf.RegionOpen
import Derived.WalkKit
import Derived.OwnWalkIn
import Derived.TacticsInMore
import Derived.LoopNIn
import Derived.LoopIn
namespace Go.Proofs.YtcdamalpecedcaaGreat
open Go.RowKit Go.Shelf
set_option maxRecDepth 100000
attribute [local go_sem] Oper.semAt_some

/-- what has come behind k rounds: the last one first -/
def bckL (A : List Nat) (k : Nat) : List (Nat × Nat) := (List.range k).map (fun j => (A.length - 1 - j, A.getD (A.length - 1 - j) 0))
theorem bckL_succ (A : List Nat) (k : Nat) : bckL A (k + 1) = bckL A k ++ [(A.length - 1 - k, A.getD (A.length - 1 - k) 0)] := by simp [bckL, List.range_succ]
theorem bckL_length (A : List Nat) (k : Nat) : (bckL A k).length = k := by simp [bckL]

set_option maxHeartbeats 4000000 in
theorem back1_in (F : Fence) (n : Nat) (hf : F.fn 54) (hro : F.round = none) (hn : 1 ≤ n) (l Bs n₀ b cap : Nat) (A : List Nat) (hlen : A.length ≤ 256) (hb : b < n₀) (J Jx : List (Nat × Nat) → World → Prop)
    (hY : ∀ pre x W, J pre W → pre.length < A.length → YieldAt F (n - 1) Tryz.prog l #[.int .i64 (x.1 : Nat), .int .u64 (x.2 : Nat)] W fun e W' =>
      (e = .returned (.bool true) ∧ J (pre ++ [x]) W' ∧ Below n₀ W W') ∨ (e = .returned (.bool false) ∧ Jx (pre ++ [x]) W'))
    (W : World) (hBn : Bs < n₀) (hBs : W.cell? ⟨Bs, 0, none⟩ = some (.slice (some ⟨b, 0, none⟩) A.length cap)) (hc : ∀ j, j < A.length → W.cell? ⟨b, j, none⟩ = some (.int .u64 (A.getD j 0 : Nat))) (h0 : J [] W) :
    CallsIn F n Tryz.prog 54 #[.func (.yield l) #[] #[], .pointer (some ⟨Bs, 0, none⟩)] W fun e W' => (∃ v, e = .returned v) ∧
      ((∃ ys, ys = bckL A A.length ∧ J ys W') ∨ (∃ pre, (∃ k, k ≤ A.length ∧ pre = bckL A k) ∧ Jx pre W')) := by
  refine callsIn_of_wp Tryz.func54 rfl hf ?_ hro
  simp only [Tryz.ntmps54, List.size_toArray, List.length_cons, List.length_nil, Nat.reduceAdd, Nat.reduceSub, Array.replicate_succ, Array.replicate_zero, List.push_toArray, List.append_toArray, List.nil_append, List.cons_append]
  gi_wp2
  gi_loopw [3] (fun i wr => ∃ k : Nat, k ≤ A.length ∧ i = .int .i64 ((A.length : Int) - 1 - (k : Int)) ∧ J (bckL A k) wr ∧ Below n₀ W wr)
    (fun i _ => (intOf i + 1).toNat)
  case atStart => exact ⟨0, Nat.zero_le _, by go_num, h0, Below.refl _ _⟩
  case round =>
    obtain ⟨k, hk, rfl, hJs, hnx⟩ := hrel
    have hB2 := (hnx.cell (p := ⟨Bs, 0, none⟩) hBn).trans hBs
    by_cases hlt : k < A.length
    · obtain ⟨m, hm⟩ : ∃ m : Nat, A.length - 1 - k = m := ⟨_, rfl⟩
      have hmi : (A.length : Int) - 1 - (k : Int) = (m : Int) := by omega
      have hcx : wr.cell? ⟨b, m, none⟩ = some (.int .u64 (A.getD m 0 : Nat)) := (hnx.cell (p := ⟨b, m, none⟩) hb).trans (hc m (by omega))
      obtain ⟨fn, tmps, assign, body, hy, hR⟩ := hY _ (m, A.getD m 0) wr hJs (by rw [bckL_length]; exact hlt)
      dsimp only at hy
      rw [hmi]
      have hml : m < A.length := by omega
      have hm256 : m < 256 := by omega
      obtain ⟨x, hx⟩ : ∃ x, A.getD m 0 = x := ⟨_, rfl⟩
      rw [hx] at hcx hy hR
      have HX : Hid (A.getD m 0 = x ∧ A.length - 1 - k = m) := ⟨hx, hm⟩
      clear hx
      gi_wp2
      refine hR.mono ?_
      rintro e W3 (⟨rfl, hJ3, hk3⟩ | ⟨rfl, hJx3⟩)
      · gi_wp2
        go_roundw
        case rel => exact ⟨k + 1, by omega, by go_num, by rw [bckL_succ, HX.out.2, HX.out.1]; exact hJ3, hnx.trans hk3⟩
        case measure => simp [intOf]
      · gi_wp2
        refine bodyPost_ret (results_none rfl _ _ _) rfl ?_
        exact ⟨⟨_, rfl⟩, .inr ⟨_, ⟨k + 1, by omega, by rw [bckL_succ, HX.out.2, HX.out.1]⟩, hJx3⟩⟩
    · obtain rfl : k = A.length := by omega
      gi_wp2
      go_end0
      exact ⟨⟨_, rfl⟩, .inl ⟨_, rfl, hJs⟩⟩

set_option maxHeartbeats 1000000 in
theorem back1_nil_in (F : Fence) (n : Nat) (hf : F.fn 54) (hro : F.round = none) (l Bs : Nat) (J : List (Nat × Nat) → World → Prop) (W : World) (hBs : W.cell? ⟨Bs, 0, none⟩ = some (.slice none 0 0)) (h0 : J [] W) :
    CallsIn F n Tryz.prog 54 #[.func (.yield l) #[] #[], .pointer (some ⟨Bs, 0, none⟩)] W fun e W' => (∃ v, e = .returned v) ∧ J [] W' := by
  refine callsIn_of_wp Tryz.func54 rfl hf ?_ hro
  simp only [Tryz.ntmps54, List.size_toArray, List.length_cons, List.length_nil, Nat.reduceAdd, Nat.reduceSub, Array.replicate_succ, Array.replicate_zero, List.push_toArray, List.append_toArray, List.nil_append, List.cons_append]
  gi_wp2
  gi_loopw [3] (fun i wr => i = .int .i64 (-1) ∧ J [] wr) (fun _ _ => 0)
  case atStart => exact ⟨rfl, h0⟩
  case round =>
    obtain ⟨rfl, hJs⟩ := hrel
    gi_wp2
    go_end0
    exact ⟨⟨_, rfl⟩, hJs⟩

set_option maxHeartbeats 1000000 in
theorem backw_in (F : Fence) (n : Nat) (hf : F.fn 40) (hro : F.round = none) (a : Option Addr) (len cap : Nat) (w : World) :
    CallsIn F n Tryz.prog 40 #[.slice a len cap] w fun e w' => e = .returned (.func (.func 54) #[] #[.pointer (some ⟨w.heap.size, 0, none⟩)]) ∧ w' = w.alloc (.cells #[.slice a len cap] 37) := by
  refine callsIn_of_wp Tryz.func40 rfl hf ?_ hro
  simp only [Tryz.ntmps40, List.size_toArray, List.length_cons, List.length_nil, Nat.reduceAdd, Nat.reduceSub, Array.replicate_succ, Array.replicate_zero, List.push_toArray, List.append_toArray, List.nil_append, List.cons_append]
  gi_wp2
  go_ret
  exact ⟨rfl, rfl⟩
/-- tickets in a row -/
def RwU (n₀ : Nat) (W : World) (sv : Value) (A : List Nat) : Prop := (sv = .slice none 0 0 ∧ A = []) ∨ ∃ b cap, sv = .slice (some ⟨b, 0, none⟩) A.length cap ∧ b < n₀ ∧ ∀ j, j < A.length → W.cell? ⟨b, j, none⟩ = some (.int .u64 (A.getD j 0 : Nat))
theorem RwU.below {n₀ : Nat} {V W : World} (h : Below n₀ V W) {sv : Value} {A : List Nat} : RwU n₀ V sv A → RwU n₀ W sv A
  | .inl e => .inl e
  | .inr ⟨b, cap, e, hb, hc⟩ => .inr ⟨b, cap, e, hb, fun j hj => (h.cell (p := ⟨b, j, none⟩) hb).trans (hc j hj)⟩
theorem back_stops (F : Fence) (n : Nat) (hf : F.fn 54) (hro : F.round = none) (hn : 1 ≤ n) (Bs n₀ : Nat) (sv : Value) (A : List Nat) (hlen : A.length ≤ 256) (w : World) (hBn : Bs < n₀) (hn₀ : n₀ ≤ w.heap.size)
    (hc : w.cell? ⟨Bs, 0, none⟩ = some sv) (hI : RwU n₀ w sv A) :
    SeqStopsK F n Tryz.prog 54 #[.pointer (some ⟨Bs, 0, none⟩)] (fun x : Nat × Nat => #[Value.int .i64 (x.1 : Nat), Value.int .u64 (x.2 : Nat)]) (Below n₀) (fun ys => ys = bckL A A.length)
      (fun pre => ∃ k, k ≤ A.length ∧ pre = bckL A k) A.length w := fun l J Jx W hW _ _ hY h0 => by
  have hc' := (hW.cell (p := ⟨Bs, 0, none⟩) (Nat.lt_of_lt_of_le hBn hn₀)).trans hc
  rcases hI.below (hW.mono hn₀) with ⟨rfl, rfl⟩ | ⟨b, cap, rfl, hb, hcs⟩
  · exact (back1_nil_in F n hf hro l Bs J W hc' h0).mono fun e W' ⟨he, hj⟩ => ⟨he, .inl ⟨_, rfl, hj⟩⟩
  · exact back1_in F n hf hro hn l Bs n₀ b cap A hlen hb J Jx hY W hBn hc' hcs h0
end Go.Proofs.YtcdamalpecedcaaGreat
