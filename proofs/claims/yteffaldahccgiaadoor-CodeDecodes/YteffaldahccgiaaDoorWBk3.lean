/- The walks of the document's reading of a float, and of what has no tag. -/
import Derived.Test.YteffaldahccgiaaDoorWBk
namespace Go.Proofs.YteffaldahccgiaaDoor
open Go.RowKit
set_option maxRecDepth 100000

set_option maxHeartbeats 1000000 in
theorem bk_flo_short (s : ByteArray) (w : World) (h0 : 0 < s.size) (ht : s[0] = 4) (h8 : (s.size : Int) ≤ 8) : Calls Tryd.prog 41 #[.string s] w fun e w' => e = .returned (.tuple #[(⟨3, 0, 0, ⟨#[]⟩⟩ : Vl).val, .int .i64 0]) ∧ Below w.heap.size w w' := by
  have hsf := run_store_float
  go_enter Tryd.func41, Tryd.ntmps41
  go_wp2
  go_returns
  exact ⟨rfl, by go_grown⟩

theorem slice_19 (s : ByteArray) (hl : 8 < (s.size : Int)) (w : World) : (Instr.slice 9 (.string s) (some (.int .i64 1)) (some (.int .i64 9)) none).run Tryd.prog w = .ok (.string (s.extract 1 9)) w := by
  rw [run_slice_string w 9 s .i64 .i64 1 9 Tryd.underlying9 (by omega) (by omega) (by omega)]
  rfl

set_option maxHeartbeats 1000000 in
theorem bk_flo_a (s : ByteArray) (b f : Nat) (w : World) (h0 : 0 < s.size) (ht : s[0] = 4) (h8 : 8 < (s.size : Int)) (hx : bits .xor .u64 (if IntKind.u64.signed = true then -1 else IntKind.u64.max) (b : Int) = (f : Int)) (hs : (b : Int) / 9223372036854775808 = 0)
    (hC : ∀ w1, Calls Tryd.prog 66 #[.string (s.extract 1 9)] w1 fun e w' => e = .returned (.int .u64 (b : Int)) ∧ w' = w1) :
    Calls Tryd.prog 41 #[.string s] w fun e w' => e = .returned (.tuple #[(vFlo f).val, .int .i64 9]) ∧ Below w.heap.size w w' := by
  have hsf := run_store_float
  have hfb := run_frombits
  have hsl := slice_19 s h8
  have C1 : Hid (∀ w1 : World, Calls _ _ _ _ _) := hC
  clear hC
  go_enter Tryd.func41, Tryd.ntmps41
  go_wp2_with (first | (go_at_call 66; refine (C1.out _).mono ?_; rintro e w1 ⟨rfl, hww⟩; obtain rfl := hww.symm))
  go_returns
  exact ⟨rfl, by go_grown⟩

set_option maxHeartbeats 1000000 in
theorem bk_flo_b (s : ByteArray) (b f : Nat) (w : World) (h0 : 0 < s.size) (ht : s[0] = 4) (h8 : 8 < (s.size : Int)) (hx : bits .xor .u64 (b : Int) 9223372036854775808 = (f : Int)) (hs : (b : Int) / 9223372036854775808 = 1)
    (hC : ∀ w1, Calls Tryd.prog 66 #[.string (s.extract 1 9)] w1 fun e w' => e = .returned (.int .u64 (b : Int)) ∧ w' = w1) :
    Calls Tryd.prog 41 #[.string s] w fun e w' => e = .returned (.tuple #[(vFlo f).val, .int .i64 9]) ∧ Below w.heap.size w w' := by
  have hsf := run_store_float
  have hfb := run_frombits
  have hsl := slice_19 s h8
  have C1 : Hid (∀ w1 : World, Calls _ _ _ _ _) := hC
  clear hC
  go_enter Tryd.func41, Tryd.ntmps41
  go_wp2_with (first | (go_at_call 66; refine (C1.out _).mono ?_; rintro e w1 ⟨rfl, hww⟩; obtain rfl := hww.symm))
  go_returns
  exact ⟨rfl, by go_grown⟩

set_option maxHeartbeats 1000000 in
theorem bk_x (s : ByteArray) (q : Int) (w : World) (h0 : 0 < s.size) (ht : (s[0].toNat : Int) - 1 = q) (_hlo : -1 ≤ q) (hhi : q ≤ 254) (q0 : (q == 0) = false) (q1 : (q == 1) = false) (q2 : (q == 2) = false) (q3 : (q == 3) = false) (q4 : (q == 4) = false) (q5 : (q == 5) = false) :
    Calls Tryd.prog 41 #[.string s] w fun e w' => e = .returned (.tuple #[(⟨q, 0, 0, ⟨#[]⟩⟩ : Vl).val, .int .i64 0]) ∧ Below w.heap.size w w' := by
  have hsf := run_store_float
  go_enter Tryd.func41, Tryd.ntmps41
  go_wp2
  go_returns
  exact ⟨rfl, by go_grown⟩
end Go.Proofs.YteffaldahccgiaaDoor
