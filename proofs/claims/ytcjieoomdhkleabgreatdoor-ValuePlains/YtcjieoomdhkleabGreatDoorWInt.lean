/- The walk of the text of the number -7. -/
import Derived.Test.YtcjieoomdhkleabGreatDoorWSame
namespace Go.Proofs.YtcjieoomdhkleabGreatDoor
open Go.RowKit
set_option maxRecDepth 100000

theorem old_cell {w w1 : World} {b o : Nat} {v : Option Value} (hb : Below w.heap.size w w1) (hg : b < w.heap.size) (hc : w.cell? ⟨b, o, none⟩ = v) : w1.cell? ⟨b, o, none⟩ = v :=
  (hb.cell (p := ⟨b, o, none⟩) hg).trans hc

set_option maxHeartbeats 400000 in
theorem len64_7 (w : World) :
    Calls Tryz.prog 118 #[.int .u64 7] w fun e w' => e = .returned (.int .i64 3) ∧ w' = w := by
  go_enter Tryz.func118, Tryz.ntmps118
  go_wp2
  go_ret
  exact ⟨by kernel_rfl, rfl⟩

set_option maxHeartbeats 400000 in
theorem numDigits7 (w : World) (hc : w.cell? ⟨4, 0, none⟩ = some (.int .u64 1)) :
    Calls Tryz.prog 95 #[.int .u64 7] w fun e w' => e = .returned (.int .i64 1) ∧ w' = w := by
  go_enter Tryz.func95, Tryz.ntmps95
  go_wp2_with (first | (go_at_call 118; refine (len64_7 _).mono ?_; rintro e w' ⟨rfl, rfl⟩) | go_in)
  go_ret
  exact ⟨rfl, rfl⟩

set_option maxHeartbeats 400000 in
theorem base10_7 (b : Nat) (w : World) (v : Value) (c : Nat) (hc : w.cell? ⟨b, 1, none⟩ = some v) (hf : w.frozen? ⟨b, 1, none⟩ = false) :
    Calls Tryz.prog 96 #[.slice (some ⟨b, 1, none⟩) 1 c, .int .u64 7] w fun e w' => e = .returned (.tuple #[]) ∧ w' = w.setCell ⟨b, 1, none⟩ (.int .u8 55) := by
  go_enter Tryz.func96, Tryz.ntmps96
  go_wp2
  go_rounds 1
  go_end0
  exact ⟨rfl, rfl⟩

theorem conv2 (w : World) (b : Nat) (x y : UInt8) (c : Nat) (h0 : w.cell? ⟨b, 0, none⟩ = some (.int .u8 (x.toNat : Int))) (h1 : w.cell? ⟨b, 1, none⟩ = some (.int .u8 (y.toNat : Int))) :
    (convert 60 9 (.slice (some ⟨b, 0, none⟩) 2 c)).run Tryz.prog w = .ok (.string ⟨#[x, y]⟩) w :=
  run_convert_bytes_back w 60 9 5 ⟨b, 0, none⟩ c [x, y] Tryz.underlying60 Tryz.underlying5 Tryz.underlying9 (fun j hj => by
    match j, hj with
    | 0, _ => exact h0
    | 1, _ => exact h1
    | j + 2, h => simp at h; omega)

set_option maxHeartbeats 400000 in
theorem formatInt7 (w : World) (hg : 4 < w.heap.size) (hc : w.cell? ⟨4, 0, none⟩ = some (.int .u64 1)) :
    Calls Tryz.prog 67 #[.int .i64 (-7), .int .i64 10] w fun e w' => e = .returned (.string ⟨#[45, 55]⟩) ∧ Below w.heap.size w w' := by
  have h7 : IntKind.u64.wrap (-IntKind.u64.wrap (-7)) = 7 := by decide
  go_enter Tryz.func67, Tryz.ntmps67
  go_wp2_with fail
  refine (numDigits7 _ ?_).mono ?_
  · exact old_cell (by go_grown) hg hc
  rintro e w' ⟨rfl, rfl⟩
  go_wp2_with fail
  refine (base10_7 _ _ (.int .u8 0) _ (by simp [go_sem]) (by simp [go_sem])).mono ?_
  rintro e w' ⟨rfl, rfl⟩
  go_wp2
  rw [conv2 _ _ 45 55 _ (by simp [go_sem]) (by simp [go_sem])]
  go_wp2
  go_ret
  exact ⟨rfl, by go_grown⟩
end Go.Proofs.YtcjieoomdhkleabGreatDoor
