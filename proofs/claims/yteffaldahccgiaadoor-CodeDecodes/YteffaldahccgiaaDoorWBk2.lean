/- The walks of the document's reading of an int. -/
import Derived.Test.YteffaldahccgiaaDoorWBk
namespace Go.Proofs.YteffaldahccgiaaDoor
open Go.RowKit
set_option maxRecDepth 100000

theorem slice_2 (s : ByteArray) (k : Nat) (hl : 2 + (k : Int) ≤ s.size) (w : World) : (Instr.slice 9 (.string s) (some (.int .i64 2)) (some (.int .i64 (2 + (k : Int)))) none).run Tryd.prog w = .ok (.string (s.extract 2 (2 + k))) w := by
  have e : (2 + (k : Int)).toNat = 2 + k := by omega
  rw [run_slice_string w 9 s .i64 .i64 2 (2 + (k : Int)) Tryd.underlying9 (by omega) (by omega) hl, e]
  rfl

set_option maxHeartbeats 1000000 in
theorem bk_int_short (s : ByteArray) (w : World) (ht : s.size = 1) (h : s[0] = 3) : Calls Tryd.prog 41 #[.string s] w fun e w' => e = .returned (.tuple #[(⟨2, 0, 0, ⟨#[]⟩⟩ : Vl).val, .int .i64 0]) ∧ Below w.heap.size w w' := by
  have hsf := run_store_float
  go_enter Tryd.func41, Tryd.ntmps41
  go_wp2
  go_returns
  exact ⟨rfl, by go_grown⟩

set_option maxHeartbeats 1000000 in
theorem bk_int_p8 (s : ByteArray) (k : Nat) (w : World) (h0 : 0 < s.size) (ht : s[0] = 3) (h1 : 1 < s.size) (hs : s.size ≤ 1024) (hk : (s[1].toNat : Int) - 128 = (k : Int)) (h8 : 8 < (k : Int)) :
    Calls Tryd.prog 41 #[.string s] w fun e w' => e = .returned (.tuple #[(⟨2, 0, 0, ⟨#[]⟩⟩ : Vl).val, .int .i64 0]) ∧ Below w.heap.size w w' := by
  have hsf := run_store_float
  have h1' : (1 : Int) < s.size := by omega
  have hlt : (s[1].toNat : Int) < 256 := by have := s[1].toNat_lt; omega
  go_enter Tryd.func41, Tryd.ntmps41
  go_wp2
  go_returns
  exact ⟨rfl, by go_grown⟩

set_option maxHeartbeats 1000000 in
theorem bk_int_pl (s : ByteArray) (k : Nat) (w : World) (h0 : 0 < s.size) (ht : s[0] = 3) (h1 : 1 < s.size) (hs : s.size ≤ 1024) (hk : (s[1].toNat : Int) - 128 = (k : Int)) (h8 : (k : Int) ≤ 8) (hl : (s.size : Int) < 2 + k) :
    Calls Tryd.prog 41 #[.string s] w fun e w' => e = .returned (.tuple #[(⟨2, 0, 0, ⟨#[]⟩⟩ : Vl).val, .int .i64 0]) ∧ Below w.heap.size w w' := by
  have hsf := run_store_float
  have h1' : (1 : Int) < s.size := by omega
  have hlt : (s[1].toNat : Int) < 256 := by have := s[1].toNat_lt; omega
  go_enter Tryd.func41, Tryd.ntmps41
  go_wp2
  go_returns
  exact ⟨rfl, by go_grown⟩

set_option maxHeartbeats 1000000 in
theorem bk_int_pbig (s : ByteArray) (k m : Nat) (w : World) (h0 : 0 < s.size) (ht : s[0] = 3) (h1 : 1 < s.size) (hs : s.size ≤ 1024) (hk : (s[1].toNat : Int) - 128 = (k : Int)) (h8 : (k : Int) ≤ 8) (hl : 2 + (k : Int) ≤ s.size)
    (hC : ∀ w1, Calls Tryd.prog 66 #[.string (s.extract 2 (2 + k))] w1 fun e w' => e = .returned (.int .u64 (m : Int)) ∧ w' = w1) (hm : (m : Int) / 9223372036854775808 = 1) :
    Calls Tryd.prog 41 #[.string s] w fun e w' => e = .returned (.tuple #[(⟨2, 0, 0, ⟨#[]⟩⟩ : Vl).val, .int .i64 0]) ∧ Below w.heap.size w w' := by
  have hsf := run_store_float
  have h1' : (1 : Int) < s.size := by omega
  have hlt : (s[1].toNat : Int) < 256 := by have := s[1].toNat_lt; omega
  have C1 : Hid (∀ w1 : World, Calls _ _ _ _ _) := hC
  have hsl := slice_2 s k hl
  clear hC
  go_enter Tryd.func41, Tryd.ntmps41
  go_wp2_with (first | (go_at_call 66; refine (C1.out _).mono ?_; rintro e w1 ⟨rfl, hww⟩; obtain rfl := hww.symm))
  go_returns
  exact ⟨rfl, by go_grown⟩

set_option maxHeartbeats 1000000 in
theorem bk_int_pok (s : ByteArray) (k m : Nat) (w : World) (h0 : 0 < s.size) (ht : s[0] = 3) (h1 : 1 < s.size) (hs : s.size ≤ 1024) (hk : (s[1].toNat : Int) - 128 = (k : Int)) (h8 : (k : Int) ≤ 8) (hl : 2 + (k : Int) ≤ s.size)
    (hC : ∀ w1, Calls Tryd.prog 66 #[.string (s.extract 2 (2 + k))] w1 fun e w' => e = .returned (.int .u64 (m : Int)) ∧ w' = w1) (hm : (m : Int) / 9223372036854775808 = 0) :
    Calls Tryd.prog 41 #[.string s] w fun e w' => e = .returned (.tuple #[(⟨2, (m : Int), 0, ⟨#[]⟩⟩ : Vl).val, .int .i64 (2 + (k : Int))]) ∧ Below w.heap.size w w' := by
  have hsf := run_store_float
  have h1' : (1 : Int) < s.size := by omega
  have hlt : (s[1].toNat : Int) < 256 := by have := s[1].toNat_lt; omega
  have C1 : Hid (∀ w1 : World, Calls _ _ _ _ _) := hC
  have hsl := slice_2 s k hl
  have hw64 : IntKind.i64.wrap (m : Int) = (m : Int) := by rw [IntKind.wrap_i64]; omega
  clear hC
  go_enter Tryd.func41, Tryd.ntmps41
  go_wp2_with (first | (go_at_call 66; refine (C1.out _).mono ?_; rintro e w1 ⟨rfl, hww⟩; obtain rfl := hww.symm))
  go_returns
  exact ⟨rfl, by go_grown⟩

set_option maxHeartbeats 1000000 in
theorem bk_int_n8 (s : ByteArray) (k : Nat) (w : World) (h0 : 0 < s.size) (ht : s[0] = 3) (h1 : 1 < s.size) (hs : s.size ≤ 1024) (hk : (s[1].toNat : Int) - 128 = -(k : Int)) (hk0 : 0 < k) (h8 : 8 < (k : Int)) :
    Calls Tryd.prog 41 #[.string s] w fun e w' => e = .returned (.tuple #[(⟨2, 0, 0, ⟨#[]⟩⟩ : Vl).val, .int .i64 0]) ∧ Below w.heap.size w w' := by
  have hsf := run_store_float
  have h1' : (1 : Int) < s.size := by omega
  have hlt : (s[1].toNat : Int) < 256 := by have := s[1].toNat_lt; omega
  go_enter Tryd.func41, Tryd.ntmps41
  go_wp2
  go_returns
  exact ⟨rfl, by go_grown⟩

set_option maxHeartbeats 1000000 in
theorem bk_int_nl (s : ByteArray) (k : Nat) (w : World) (h0 : 0 < s.size) (ht : s[0] = 3) (h1 : 1 < s.size) (hs : s.size ≤ 1024) (hk : (s[1].toNat : Int) - 128 = -(k : Int)) (hk0 : 0 < k) (h8 : (k : Int) ≤ 8) (hl : (s.size : Int) < 2 + k) :
    Calls Tryd.prog 41 #[.string s] w fun e w' => e = .returned (.tuple #[(⟨2, 0, 0, ⟨#[]⟩⟩ : Vl).val, .int .i64 0]) ∧ Below w.heap.size w w' := by
  have hsf := run_store_float
  have h1' : (1 : Int) < s.size := by omega
  have hlt : (s[1].toNat : Int) < 256 := by have := s[1].toNat_lt; omega
  go_enter Tryd.func41, Tryd.ntmps41
  go_wp2
  go_returns
  exact ⟨rfl, by go_grown⟩

set_option maxHeartbeats 1000000 in
theorem bk_int_nbig (s : ByteArray) (k m : Nat) (w : World) (h0 : 0 < s.size) (ht : s[0] = 3) (h1 : 1 < s.size) (hs : s.size ≤ 1024) (hk : (s[1].toNat : Int) - 128 = -(k : Int)) (hk0 : 0 < k) (h8 : (k : Int) ≤ 8) (hl : 2 + (k : Int) ≤ s.size) (t : Nat) (hx : bits .and .u64 (bits .xor .u64 (if IntKind.u64.signed = true then -1 else IntKind.u64.max) (t : Int)) (IntKind.u64.wrap (IntKind.u64.wrap (2 ^ (8 * k)) - 1)) = (m : Int))
    (hC : ∀ w1, Calls Tryd.prog 66 #[.string (s.extract 2 (2 + k))] w1 fun e w' => e = .returned (.int .u64 (t : Int)) ∧ w' = w1) (hm : (m : Int) / 9223372036854775808 = 1) :
    Calls Tryd.prog 41 #[.string s] w fun e w' => e = .returned (.tuple #[(⟨2, 0, 0, ⟨#[]⟩⟩ : Vl).val, .int .i64 0]) ∧ Below w.heap.size w w' := by
  have hsf := run_store_float
  have h1' : (1 : Int) < s.size := by omega
  have hlt : (s[1].toNat : Int) < 256 := by have := s[1].toNat_lt; omega
  have C1 : Hid (∀ w1 : World, Calls _ _ _ _ _) := hC
  have hsl := slice_2 s k hl
  clear hC
  go_enter Tryd.func41, Tryd.ntmps41
  go_wp2_with (first | (go_at_call 66; refine (C1.out _).mono ?_; rintro e w1 ⟨rfl, hww⟩; obtain rfl := hww.symm))
  go_returns
  exact ⟨rfl, by go_grown⟩

set_option maxHeartbeats 1000000 in
theorem bk_int_nok (s : ByteArray) (k m : Nat) (w : World) (h0 : 0 < s.size) (ht : s[0] = 3) (h1 : 1 < s.size) (hs : s.size ≤ 1024) (hk : (s[1].toNat : Int) - 128 = -(k : Int)) (hk0 : 0 < k) (h8 : (k : Int) ≤ 8) (hl : 2 + (k : Int) ≤ s.size) (t : Nat) (hx : bits .and .u64 (bits .xor .u64 (if IntKind.u64.signed = true then -1 else IntKind.u64.max) (t : Int)) (IntKind.u64.wrap (IntKind.u64.wrap (2 ^ (8 * k)) - 1)) = (m : Int))
    (hC : ∀ w1, Calls Tryd.prog 66 #[.string (s.extract 2 (2 + k))] w1 fun e w' => e = .returned (.int .u64 (t : Int)) ∧ w' = w1) (hm : (m : Int) / 9223372036854775808 = 0) :
    Calls Tryd.prog 41 #[.string s] w fun e w' => e = .returned (.tuple #[(⟨2, -(m : Int) - 1, 0, ⟨#[]⟩⟩ : Vl).val, .int .i64 (2 + (k : Int))]) ∧ Below w.heap.size w w' := by
  have hsf := run_store_float
  have h1' : (1 : Int) < s.size := by omega
  have hlt : (s[1].toNat : Int) < 256 := by have := s[1].toNat_lt; omega
  have C1 : Hid (∀ w1 : World, Calls _ _ _ _ _) := hC
  have hsl := slice_2 s k hl
  have hwn : wrap64 (wrap64 (-wrap64 (m : Int)) - 1) = -(m : Int) - 1 := by simp only [wrap64]; omega
  clear hC
  go_enter Tryd.func41, Tryd.ntmps41
  go_wp2_with (first | (go_at_call 66; refine (C1.out _).mono ?_; rintro e w1 ⟨rfl, hww⟩; obtain rfl := hww.symm))
  go_returns
  exact ⟨rfl, by go_grown⟩
end Go.Proofs.YteffaldahccgiaaDoor
