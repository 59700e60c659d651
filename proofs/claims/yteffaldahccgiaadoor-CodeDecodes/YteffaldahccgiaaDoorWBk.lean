/- The walks of the document's reading of numbers and of values: the short ways. -/
import Derived.Test.YteffaldahccgiaaDoorWDecE
namespace Go.Proofs.YteffaldahccgiaaDoor
open Go.RowKit
set_option maxRecDepth 100000

set_option maxHeartbeats 1000000 in
theorem number_any (s : ByteArray) (w : World) (hs : s.size ≤ 8) :
    Calls Tryd.prog 66 #[.string s] w fun e w' => e = .returned (.int .u64 (num s.data.toList : Nat)) ∧ w' = w := by
  obtain ⟨r, hr⟩ : ∃ r, r = num s.data.toList := ⟨_, rfl⟩
  rw [← hr]
  have HR : Hid (r = num (s.data.toList.take s.size)) := by rw [hr, List.take_of_length_le (by simp)]; exact rfl
  clear hr
  go_enter Tryd.func66, Tryd.ntmps66
  go_wp2_with fail
  go_loopw [3, 4] (fun x i wr => ∃ j : Nat, j ≤ s.size ∧ i = .int .i64 (j : Int) ∧ x = .int .u64 (num (s.data.toList.take j) : Nat) ∧ wr = w) (fun _ i _ => s.size - (intOf i).toNat)
  case atStart => exact ⟨0, Nat.zero_le _, by go_num, by simp [num], rfl⟩
  case round =>
    obtain ⟨j, hj, rfl, rfl, rfl⟩ := hrel
    by_cases hj0 : j = s.size
    · subst hj0
      rw [← HR.out]
      go_wp2
      go_ret
      exact ⟨rfl, rfl⟩
    · have hj1 : j < s.size := by omega
      have hn := num_lt (s.data.toList.take j)
      have hsn := num_snoc (s.data.toList.take j) s[j]
      rw [← take_snoc s j hj1] at hsn
      have HS : Hid (_ = _ ∧ _ < _) := ⟨hsn, hn⟩
      clear hn hsn hj0
      generalize num (s.data.toList.take j) = m at *
      go_wp2
      go_roundw
      case rel => exact ⟨j + 1, by omega, by go_num, by rw [or_byte m _ (by
        have h1 := HS.out.2
        have h2 : (List.take j s.data.toList).length ≤ 7 := by rw [List.length_take]; omega
        exact Nat.lt_of_lt_of_le h1 (Nat.pow_le_pow_right (by decide) h2)) s[j].toNat_lt, HS.out.1], by first | rfl | trivial⟩
      case measure => simp [intOf]; omega

set_option maxHeartbeats 1000000 in
theorem bk_null (s : ByteArray) (w : World) (h0 : 0 < s.size) (ht : s[0] = 1) : Calls Tryd.prog 41 #[.string s] w fun e w' => e = .returned (.tuple #[(vNull : Vl).val, .int .i64 1]) ∧ Below w.heap.size w w' := by
  have hsf := run_store_float
  go_enter Tryd.func41, Tryd.ntmps41
  go_wp2
  go_returns
  exact ⟨rfl, by go_grown⟩

set_option maxHeartbeats 1000000 in
theorem bk_bool (s : ByteArray) (w : World) (h0 : 0 < s.size) (ht : s[0] = 2) (h1 : 1 < s.size) (hb : (s[1].toNat : Int) < 2) : Calls Tryd.prog 41 #[.string s] w fun e w' => e = .returned (.tuple #[(⟨1, s[1].toNat, 0, ⟨#[]⟩⟩ : Vl).val, .int .i64 2]) ∧ Below w.heap.size w w' := by
  have hsf := run_store_float
  have h1' : (1 : Int) < s.size := by omega
  go_enter Tryd.func41, Tryd.ntmps41
  go_wp2
  go_returns
  exact ⟨rfl, by go_grown⟩

set_option maxHeartbeats 1000000 in
theorem bk_bool_no (s : ByteArray) (w : World) (h0 : 0 < s.size) (ht : s[0] = 2) (h1 : 1 < s.size) (hb : 2 ≤ (s[1].toNat : Int)) : Calls Tryd.prog 41 #[.string s] w fun e w' => e = .returned (.tuple #[(⟨1, 0, 0, ⟨#[]⟩⟩ : Vl).val, .int .i64 0]) ∧ Below w.heap.size w w' := by
  have hsf := run_store_float
  have h1' : (1 : Int) < s.size := by omega
  go_enter Tryd.func41, Tryd.ntmps41
  go_wp2
  go_returns
  exact ⟨rfl, by go_grown⟩

set_option maxHeartbeats 1000000 in
theorem bk_bool_short (s : ByteArray) (w : World) (ht : s.size = 1) (h : s[0] = 2) : Calls Tryd.prog 41 #[.string s] w fun e w' => e = .returned (.tuple #[(⟨1, 0, 0, ⟨#[]⟩⟩ : Vl).val, .int .i64 0]) ∧ Below w.heap.size w w' := by
  have hsf := run_store_float
  go_enter Tryd.func41, Tryd.ntmps41
  go_wp2
  go_returns
  exact ⟨rfl, by go_grown⟩
end Go.Proofs.YteffaldahccgiaaDoor
