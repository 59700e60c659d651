/- The walks of the functions that read numbers. -/
import Derived.Test.YtcjpindbplppgaaDoorGWEncE
import Derived.Test.YtcjpindbplppgaaDoorGMDec3
namespace Go.Proofs.YtcjpindbplppgaaDoor
open Go.RowKit
set_option maxRecDepth 100000

theorem take_snoc (s : ByteArray) (j : Nat) (hj : j < s.size) : s.data.toList.take (j + 1) = s.data.toList.take j ++ [s[j]] := by
  rw [← List.take_append_getElem (by simpa using hj)]; rfl

theorem or_byte (m b : Nat) (hm : m < 256 ^ 7) (hb : b < 256) : bits .or .u64 (IntKind.u64.wrap ((m : Int) * 256)) (IntKind.u64.wrap (b : Int)) = ((m * 256 + b : Nat) : Int) := by
  have h7 : (256 : Nat) ^ 7 = 72057594037927936 := by decide
  rw [h7] at hm
  have e1 : IntKind.u64.wrap ((m : Int) * 256) = ((m * 256 : Nat) : Int) := by rw [IntKind.wrap_u64]; omega
  have e2 : IntKind.u64.wrap (b : Int) = (b : Int) := by rw [IntKind.wrap_u64]; omega
  rw [e1, e2, u64_or_nat _ _ (by omega) (by omega), nat_join 8 (m * 256) b (by omega) (by omega)]

set_option maxHeartbeats 1000000 in
theorem readHigh_no (s : ByteArray) (k : Nat) (w : World) (_hs : s.size ≤ 1024) (hk : k ≤ 1024) (h : 8 < k ∨ s.size < k) :
    Calls Tryd.prog 46 #[.string s, .int .i64 (k : Int)] w fun e w' => e = .returned (.tuple #[.int .u64 0, .bool false]) ∧ w' = w := by
  by_cases h8 : 8 < k
  · have h9 : (8 : Int) < k := by omega
    clear h h8
    go_enter Tryd.func46, Tryd.ntmps46
    go_wp2
    go_ret2
    exact ⟨rfl, rfl⟩
  · have h9 : (k : Int) ≤ 8 := by omega
    have h10 : (s.size : Int) < k := by omega
    clear h h8
    go_enter Tryd.func46, Tryd.ntmps46
    go_wp2
    go_ret2
    exact ⟨rfl, rfl⟩

set_option maxHeartbeats 1000000 in
theorem readHigh_ok (s : ByteArray) (k : Nat) (w : World) (hs : s.size ≤ 1024) (hk : k ≤ 8) (hks : k ≤ s.size) :
    Calls Tryd.prog 46 #[.string s, .int .i64 (k : Int)] w fun e w' => e = .returned (.tuple #[.int .u64 (num (s.data.toList.take k) : Nat), .bool true]) ∧ w' = w := by
  obtain ⟨r, hr⟩ : ∃ r, r = num (s.data.toList.take k) := ⟨_, rfl⟩
  rw [← hr]
  have HR : Hid (r = _) := hr
  clear hr
  go_enter Tryd.func46, Tryd.ntmps46
  go_wp2_with fail
  go_loopw [6, 17] (fun x i wr => ∃ j : Nat, j ≤ k ∧ i = .int .i64 (j : Int) ∧ x = .int .u64 (num (s.data.toList.take j) : Nat) ∧ wr = w) (fun _ i _ => k - (intOf i).toNat)
  case atStart => exact ⟨0, Nat.zero_le _, by go_num, by simp [num], rfl⟩
  case round =>
    obtain ⟨j, hj, rfl, rfl, rfl⟩ := hrel
    by_cases hj0 : j = k
    · subst hj0
      rw [← HR.out]
      go_wp2
      go_ret2
      exact ⟨rfl, rfl⟩
    · have hj1 : j < k := by omega
      have hj2 : j < s.size := by omega
      have hn := num_lt (s.data.toList.take j)
      have hsn := num_snoc (s.data.toList.take j) s[j]
      rw [← take_snoc s j hj2] at hsn
      have HS : Hid (_ = _ ∧ _ < _) := ⟨hsn, hn⟩
      clear hn hsn hj0
      generalize num (s.data.toList.take j) = m at *
      go_wp2
      go_roundw
      case rel => exact ⟨j + 1, by omega, by go_num, by rw [or_byte m _ (by
        have h1 := HS.out.2
        have h2 : (List.take j s.data.toList).length ≤ 7 := by rw [List.length_take]; omega
        exact Nat.lt_of_lt_of_le h1 (Nat.pow_le_pow_right (by decide) h2)) s[j].toNat_lt, HS.out.1], by first | rfl | trivial⟩
      case measure => simp [intOf]; omega

theorem low_val (k : Nat) (hk : k ≤ 8) : IntKind.u64.wrap (IntKind.u64.wrap (2 ^ (8 * k)) - 1) = ((256 ^ k - 1 : Nat) : Int) := by
  have h : k = 0 ∨ k = 1 ∨ k = 2 ∨ k = 3 ∨ k = 4 ∨ k = 5 ∨ k = 6 ∨ k = 7 ∨ k = 8 := by omega
  rw [IntKind.wrap_u64, IntKind.wrap_u64]
  rcases h with rfl | rfl | rfl | rfl | rfl | rfl | rfl | rfl | rfl <;> decide

set_option maxHeartbeats 1000000 in
theorem lowBytes_any (k : Nat) (w : World) (hk : k ≤ 8) :
    Calls Tryd.prog 59 #[.int .i64 (k : Int)] w fun e w' => e = .returned (.int .u64 ((256 ^ k - 1 : Nat) : Int)) ∧ w' = w := by
  rw [← low_val k hk]
  go_enter Tryd.func59, Tryd.ntmps59
  go_wp2
  go_ret
  exact ⟨rfl, rfl⟩

theorem xor_low {t k : Nat} (hk : k ≤ 8) (ht : t < 256 ^ k) : bits .xor .u64 (t : Int) ((256 ^ k - 1 : Nat) : Int) = ((256 ^ k - 1 - t : Nat) : Int) := by
  have h8 : 256 ^ k ≤ 18446744073709551616 := by
    have : (256 : Nat) ^ k ≤ 256 ^ 8 := Nat.pow_le_pow_right (by decide) hk
    rw [pow256_8] at this
    exact this
  rw [u64_xor_nat _ _ (by omega) (by omega)]
  have e : (256 : Nat) ^ k = 2 ^ (8 * k) := by rw [Nat.pow_mul]
  rw [e] at ht ⊢
  congr 1
  apply Nat.eq_of_testBit_eq
  intro i
  have e1 : 2 ^ (8 * k) - 1 - t = 2 ^ (8 * k) - (t + 1) := by omega
  rw [Nat.testBit_xor, e1, Nat.testBit_two_pow_sub_succ ht, Nat.testBit_two_pow_sub_one]
  by_cases h : i < 8 * k
  · simp [h]
  · have : t.testBit i = false := Nat.testBit_lt_two_pow (Nat.lt_of_lt_of_le ht (Nat.pow_le_pow_right (by decide) (by omega)))
    simp [h, this]

/-- what a reader tells -/
def res3 (o : Option (Vl × Nat)) : Value := match o with
  | none => .tuple #[vNull.val, .int .i64 0, .bool false]
  | some x => .tuple #[x.1.val, .int .i64 (x.2 : Int), .bool true]

set_option maxHeartbeats 400000 in
theorem litInt_any (n : Int) (w : World) :
    Calls Tryd.prog 47 #[.int .i64 n] w fun e w' => e = .returned (vInt n).val ∧ Below w.heap.size w w' := by
  have hsf := run_store_float
  go_enter Tryd.func47, Tryd.ntmps47
  go_wp2
  go_returns
  exact ⟨rfl, by go_grown⟩

set_option maxHeartbeats 400000 in
theorem litNull_any (w : World) :
    Calls Tryd.prog 26 #[] w fun e w' => e = .returned vNull.val ∧ Below w.heap.size w w' := by
  have hsf := run_store_float
  go_enter Tryd.func26, Tryd.ntmps26
  go_wp2
  go_returns
  exact ⟨rfl, by go_grown⟩

set_option maxHeartbeats 400000 in
theorem litBool_any (b : Bool) (w : World) :
    Calls Tryd.prog 44 #[.bool b] w fun e w' => e = .returned (vBool b).val ∧ Below w.heap.size w w' := by
  have hsf := run_store_float
  cases b
  all_goals
    go_enter Tryd.func44, Tryd.ntmps44
    go_wp2
    go_returns
    exact ⟨rfl, by go_grown⟩

set_option maxHeartbeats 400000 in
theorem litFloat_any (f : Nat) (w : World) :
    Calls Tryd.prog 60 #[.float .f64 f] w fun e w' => e = .returned (vFlo f).val ∧ Below w.heap.size w w' := by
  have hsf := run_store_float
  go_enter Tryd.func60, Tryd.ntmps60
  go_wp2
  go_returns
  exact ⟨rfl, by go_grown⟩

theorem vz (w w1 : World) (o : Obj) (ho : o = .cells #[.int .i64 0, .int .i64 0, .float .f64 0, .string ⟨#[]⟩] 32) (hb : Below (w.alloc o).heap.size (w.alloc o) w1) :
    (w1.cell? ⟨w.heap.size, 0, none⟩ = some (.int .i64 0) ∧ w1.cell? ⟨w.heap.size, 1, none⟩ = some (.int .i64 0) ∧ w1.cell? ⟨w.heap.size, 2, none⟩ = some (.float .f64 0) ∧ w1.cell? ⟨w.heap.size, 3, none⟩ = some (.string ⟨#[]⟩)) ∧
    (w1.frozen? ⟨w.heap.size, 0, none⟩ = false ∧ w1.frozen? ⟨w.heap.size, 1, none⟩ = false ∧ w1.frozen? ⟨w.heap.size, 2, none⟩ = false ∧ w1.frozen? ⟨w.heap.size, 3, none⟩ = false) := by
  subst ho
  obtain ⟨h1, h2⟩ := bcell hb
  refine ⟨⟨?_, ?_, ?_, ?_⟩, ?_, ?_, ?_, ?_⟩
  · rw [h1 _ _ (by simp)]; simp [go_sem]
  · rw [h1 _ _ (by simp)]; simp [go_sem]
  · rw [h1 _ _ (by simp)]; simp [go_sem]
  · rw [h1 _ _ (by simp)]; simp [go_sem]
  · rw [h2 _ _ (by simp)]; simp [go_sem]
  · rw [h2 _ _ (by simp)]; simp [go_sem]
  · rw [h2 _ _ (by simp)]; simp [go_sem]
  · rw [h2 _ _ (by simp)]; simp [go_sem]

set_option maxHeartbeats 400000 in
theorem litBits_any (n : Nat) (w : World) :
    Calls Tryd.prog 48 #[.int .u64 (n : Int)] w fun e w' => e = .returned (vFlo n).val ∧ Below w.heap.size w w' := by
  have hfb := run_frombits
  have hsf := run_store_float
  go_enter Tryd.func48, Tryd.ntmps48
  go_wp2_with (first | (go_at_call 60; refine (litFloat_any _ _).mono ?_; rintro e w1 ⟨rfl, hb1⟩; obtain ⟨⟨z0, z1, z2, z3⟩, y0, y1, y2, y3⟩ := vz w w1 _ rfl hb1))
  refine bodyPost_ret (v := (vFlo n).val) (by simp [results, Tryd.results48, go_sem, z0, z1, z2, z3, vFlo]) rfl ⟨rfl, ((((((Below.refl _ _).alloc (Nat.le_refl _) _).trans (hb1.mono (by simp))).setCell (by simp) _).setCell (by simp) _).setCell (by simp) _).setCell (by simp) _⟩

set_option maxHeartbeats 1000000 in
theorem readBelow_no (s : ByteArray) (k : Nat) (w : World) (hs : s.size ≤ 1024) (hk : k ≤ 1024) (h : 8 < k ∨ s.size < k) :
    Calls Tryd.prog 45 #[.string s, .int .i64 (k : Int)] w fun e w' => e = .returned (res3 none) ∧ Below w.heap.size w w' := by
  have C1 : Hid (∀ w1 : World, Calls _ _ _ _ _) := fun w1 => readHigh_no s k w1 hs hk h
  have hsf := run_store_float
  clear h
  go_enter Tryd.func45, Tryd.ntmps45
  go_wp2_with (first | (go_at_call 46; refine (C1.out _).mono ?_; rintro e w1 ⟨rfl, rfl⟩))
  go_returns
  exact ⟨rfl, by go_grown⟩

end Go.Proofs.YtcjpindbplppgaaDoor
