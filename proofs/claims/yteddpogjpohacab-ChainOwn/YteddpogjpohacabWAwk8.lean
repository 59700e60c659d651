/- awake. -/
import Derived.Test.YteddpogjpohacabWChn
namespace Go.Proofs.Yteddpogjpohacab
open Go.RowKit
set_option maxRecDepth 100000

def awkL : List Rw := [⟨9, false, []⟩, ⟨4, false, []⟩]
theorem awk8 : atI awkL 8 = 1 := by decide
theorem awk9 : atI awkL 9 = 0 := by decide
theorem awk3 : atI awkL 3 = -1 := by decide
theorem awk_rd (w : World) : RdR .u64 (w.alloc (.cells #[.int .u64 9, .bool false, .slice none 0 0, .int .u64 4, .bool false, .slice none 0 0] 31)) (w.heap.size + 1) (some ⟨w.heap.size, 0, none⟩) awkL := by
  intro i hi
  refine ⟨w.heap.size, 0, none, 0, rfl, Nat.lt_succ_self _, ?_⟩
  have h2 : i = 0 ∨ i = 1 := by
    have : i < 2 := hi
    omega
  rcases h2 with rfl | rfl
  · refine ⟨by simp [go_sem, awkL], by simp [go_sem, awkL], by simp [go_sem, awkL], fun i hi => absurd hi (by simp [awkL]), fun _ => rfl⟩
  · refine ⟨by simp [go_sem, awkL], by simp [go_sem, awkL], by simp [go_sem, awkL], fun i hi => absurd hi (by simp [awkL]), fun _ => rfl⟩

set_option maxHeartbeats 2000000 in
theorem awake_any (w : World) : Calls Try.prog 7 #[] w fun e w' => e = .returned (.bool true) ∧ Below w.heap.size w w' := by
  have C1 : Hid (∀ s w1, RdR .u64 w1 w1.heap.size (some ⟨w.heap.size, 0, none⟩) awkL → Calls Try.prog 9 #[.slice (some ⟨w.heap.size, 0, none⟩) 2 2, .int .u64 s] w1 fun e w' => e = .returned (.int .i64 (atI awkL s)) ∧ Below w1.heap.size w1 w') := fun s w1 h => at_any awkL _ 2 s w1 h (by decide)
  go_enter Try.func7, Try.ntmps7
  have R0 : Hid (RdR _ _ _ _ _) := awk_rd w
  have hb0 : Hid (Below w.heap.size w (w.alloc (.cells #[.int .u64 9, .bool false, .slice none 0 0, .int .u64 4, .bool false, .slice none 0 0] 31))) := by
    show Below _ _ _
    go_grown
  go_wp2_with fail
  refine (C1.out _ _ (by simpa using R0.out)).mono ?_
  rintro e w1 ⟨rfl, hb1⟩
  have R1 : Hid (RdR .u64 w1 w1.heap.size _ awkL) := RdR.on (by simpa using R0.out) hb1
  have HB1 : Hid (Below w.heap.size w w1) := hb0.out.trans (hb1.mono hb0.out.size)
  clear R0 hb0 hb1
  rw [awk8]
  go_wp2_with fail
  refine (C1.out _ _ R1.out).mono ?_
  rintro e w2 ⟨rfl, hb2⟩
  have R2 : Hid (RdR .u64 w2 w2.heap.size _ awkL) := R1.out.on hb2
  have HB2 : Hid (Below w.heap.size w w2) := HB1.out.trans (hb2.mono HB1.out.size)
  clear R1 HB1 hb2
  rw [awk9]
  go_wp2_with fail
  refine (C1.out _ _ R2.out).mono ?_
  rintro e w3 ⟨rfl, hb3⟩
  have HB3 : Hid (Below w.heap.size w w3) := HB2.out.trans (hb3.mono HB2.out.size)
  clear R2 HB2 hb3
  rw [awk3]
  go_wp2_with fail
  go_ret
  exact ⟨rfl, HB3.out⟩
end Go.Proofs.Yteddpogjpohacab
