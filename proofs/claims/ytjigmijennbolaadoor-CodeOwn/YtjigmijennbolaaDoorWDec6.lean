/- The walk of the function that reads a value behind its tag. -/
import Derived.Test.YtjigmijennbolaaDoorWDec5
namespace Go.Proofs.YtjigmijennbolaaDoor
open Go.RowKit
set_option maxRecDepth 100000

set_option maxHeartbeats 1000000 in
theorem readValue_1 (s : ByteArray) (w : World) :
    Calls Tryd.prog 26 #[.int .u8 1, .string s] w fun e w' => e = .returned (res3 (some (vNull, 0))) ∧ Below w.heap.size w w' := by
  have hsf := run_store_float
  go_enter Tryd.func26, Tryd.ntmps26
  go_wp2_with (first | (go_at_call 40; refine (litNull_any _).mono ?_; rintro e w1 ⟨rfl, hb1⟩; obtain ⟨⟨z0, z1, z2, z3⟩, y0, y1, y2, y3⟩ := vz w w1 _ rfl hb1))
  refine bodyPost_ret (v := res3 (some (vNull, 0))) (by simp [results, Tryd.results26, go_sem, z0, z1, z2, z3, res3, vNull]) rfl ⟨rfl, ((((((Below.refl _ _).alloc (Nat.le_refl _) _).trans (hb1.mono (by simp))).setCell (by simp) _).setCell (by simp) _).setCell (by simp) _).setCell (by simp) _⟩

set_option maxHeartbeats 1000000 in
theorem readValue_2 (s : ByteArray) (v : Vl) (n : Int) (b : Bool) (w : World) (hC : ∀ w1, Below w.heap.size w w1 → Calls Tryd.prog 41 #[.string s] w1 fun e w' => e = .returned (.tuple #[v.val, .int .i64 n, .bool b]) ∧ Below w1.heap.size w1 w') :
    Calls Tryd.prog 26 #[.int .u8 2, .string s] w fun e w' => e = .returned (.tuple #[v.val, .int .i64 n, .bool b]) ∧ Below w.heap.size w w' := by
  have C1 : Hid (∀ w1 : World, Below w.heap.size w w1 → Calls _ _ _ _ _) := hC
  have hsf := run_store_float
  clear hC
  go_enter Tryd.func26, Tryd.ntmps26
  go_wp2_with fail
  refine (C1.out _ ((Below.refl _ _).alloc (Nat.le_refl _) _)).mono ?_
  rintro e w1 ⟨rfl, hb1⟩
  obtain ⟨⟨z0, z1, z2, z3⟩, y0, y1, y2, y3⟩ := vz w w1 _ rfl hb1
  go_wp2
  refine bodyPost_ret (v := .tuple #[v.val, .int .i64 n, .bool b]) (by simp [results, Tryd.results26, go_sem, z0, z1, z2, z3]) rfl ⟨rfl, ((((((Below.refl _ _).alloc (Nat.le_refl _) _).trans (hb1.mono (by simp))).setCell (by simp) _).setCell (by simp) _).setCell (by simp) _).setCell (by simp) _⟩

set_option maxHeartbeats 1000000 in
theorem readValue_3 (s : ByteArray) (v : Vl) (n : Int) (b : Bool) (w : World) (hC : ∀ w1, Below w.heap.size w w1 → Calls Tryd.prog 42 #[.string s] w1 fun e w' => e = .returned (.tuple #[v.val, .int .i64 n, .bool b]) ∧ Below w1.heap.size w1 w') :
    Calls Tryd.prog 26 #[.int .u8 3, .string s] w fun e w' => e = .returned (.tuple #[v.val, .int .i64 n, .bool b]) ∧ Below w.heap.size w w' := by
  have C1 : Hid (∀ w1 : World, Below w.heap.size w w1 → Calls _ _ _ _ _) := hC
  have hsf := run_store_float
  clear hC
  go_enter Tryd.func26, Tryd.ntmps26
  go_wp2_with fail
  refine (C1.out _ ((Below.refl _ _).alloc (Nat.le_refl _) _)).mono ?_
  rintro e w1 ⟨rfl, hb1⟩
  obtain ⟨⟨z0, z1, z2, z3⟩, y0, y1, y2, y3⟩ := vz w w1 _ rfl hb1
  go_wp2
  refine bodyPost_ret (v := .tuple #[v.val, .int .i64 n, .bool b]) (by simp [results, Tryd.results26, go_sem, z0, z1, z2, z3]) rfl ⟨rfl, ((((((Below.refl _ _).alloc (Nat.le_refl _) _).trans (hb1.mono (by simp))).setCell (by simp) _).setCell (by simp) _).setCell (by simp) _).setCell (by simp) _⟩

set_option maxHeartbeats 1000000 in
theorem readValue_4 (s : ByteArray) (v : Vl) (n : Int) (b : Bool) (w : World) (hC : ∀ w1, Below w.heap.size w w1 → Calls Tryd.prog 43 #[.string s] w1 fun e w' => e = .returned (.tuple #[v.val, .int .i64 n, .bool b]) ∧ Below w1.heap.size w1 w') :
    Calls Tryd.prog 26 #[.int .u8 4, .string s] w fun e w' => e = .returned (.tuple #[v.val, .int .i64 n, .bool b]) ∧ Below w.heap.size w w' := by
  have C1 : Hid (∀ w1 : World, Below w.heap.size w w1 → Calls _ _ _ _ _) := hC
  have hsf := run_store_float
  clear hC
  go_enter Tryd.func26, Tryd.ntmps26
  go_wp2_with fail
  refine (C1.out _ ((Below.refl _ _).alloc (Nat.le_refl _) _)).mono ?_
  rintro e w1 ⟨rfl, hb1⟩
  obtain ⟨⟨z0, z1, z2, z3⟩, y0, y1, y2, y3⟩ := vz w w1 _ rfl hb1
  go_wp2
  refine bodyPost_ret (v := .tuple #[v.val, .int .i64 n, .bool b]) (by simp [results, Tryd.results26, go_sem, z0, z1, z2, z3]) rfl ⟨rfl, ((((((Below.refl _ _).alloc (Nat.le_refl _) _).trans (hb1.mono (by simp))).setCell (by simp) _).setCell (by simp) _).setCell (by simp) _).setCell (by simp) _⟩

set_option maxHeartbeats 1000000 in
theorem readValue_5 (s : ByteArray) (v : Vl) (n : Int) (b : Bool) (w : World) (hC : ∀ w1, Below w.heap.size w w1 → Calls Tryd.prog 44 #[.string s, .int .i64 4] w1 fun e w' => e = .returned (.tuple #[v.val, .int .i64 n, .bool b]) ∧ Below w1.heap.size w1 w') :
    Calls Tryd.prog 26 #[.int .u8 5, .string s] w fun e w' => e = .returned (.tuple #[v.val, .int .i64 n, .bool b]) ∧ Below w.heap.size w w' := by
  have C1 : Hid (∀ w1 : World, Below w.heap.size w w1 → Calls _ _ _ _ _) := hC
  have hsf := run_store_float
  clear hC
  go_enter Tryd.func26, Tryd.ntmps26
  go_wp2_with fail
  refine (C1.out _ ((Below.refl _ _).alloc (Nat.le_refl _) _)).mono ?_
  rintro e w1 ⟨rfl, hb1⟩
  obtain ⟨⟨z0, z1, z2, z3⟩, y0, y1, y2, y3⟩ := vz w w1 _ rfl hb1
  go_wp2
  refine bodyPost_ret (v := .tuple #[v.val, .int .i64 n, .bool b]) (by simp [results, Tryd.results26, go_sem, z0, z1, z2, z3]) rfl ⟨rfl, ((((((Below.refl _ _).alloc (Nat.le_refl _) _).trans (hb1.mono (by simp))).setCell (by simp) _).setCell (by simp) _).setCell (by simp) _).setCell (by simp) _⟩

set_option maxHeartbeats 1000000 in
theorem readValue_6 (s : ByteArray) (v : Vl) (n : Int) (b : Bool) (w : World) (hC : ∀ w1, Below w.heap.size w w1 → Calls Tryd.prog 44 #[.string s, .int .i64 5] w1 fun e w' => e = .returned (.tuple #[v.val, .int .i64 n, .bool b]) ∧ Below w1.heap.size w1 w') :
    Calls Tryd.prog 26 #[.int .u8 6, .string s] w fun e w' => e = .returned (.tuple #[v.val, .int .i64 n, .bool b]) ∧ Below w.heap.size w w' := by
  have C1 : Hid (∀ w1 : World, Below w.heap.size w w1 → Calls _ _ _ _ _) := hC
  have hsf := run_store_float
  clear hC
  go_enter Tryd.func26, Tryd.ntmps26
  go_wp2_with fail
  refine (C1.out _ ((Below.refl _ _).alloc (Nat.le_refl _) _)).mono ?_
  rintro e w1 ⟨rfl, hb1⟩
  obtain ⟨⟨z0, z1, z2, z3⟩, y0, y1, y2, y3⟩ := vz w w1 _ rfl hb1
  go_wp2
  refine bodyPost_ret (v := .tuple #[v.val, .int .i64 n, .bool b]) (by simp [results, Tryd.results26, go_sem, z0, z1, z2, z3]) rfl ⟨rfl, ((((((Below.refl _ _).alloc (Nat.le_refl _) _).trans (hb1.mono (by simp))).setCell (by simp) _).setCell (by simp) _).setCell (by simp) _).setCell (by simp) _⟩

set_option maxHeartbeats 1000000 in
theorem readValue_x (t : Nat) (s : ByteArray) (w : World) (h1 : ((t : Int) == 1) = false) (h2 : ((t : Int) == 2) = false) (h3 : ((t : Int) == 3) = false) (h4 : ((t : Int) == 4) = false) (h5 : ((t : Int) == 5) = false) (h6 : ((t : Int) == 6) = false) :
    Calls Tryd.prog 26 #[.int .u8 (t : Int), .string s] w fun e w' => e = .returned (res3 none) ∧ Below w.heap.size w w' := by
  have hsf := run_store_float
  go_enter Tryd.func26, Tryd.ntmps26
  go_wp2
  go_returns
  exact ⟨rfl, by go_grown⟩

theorem readValue_any (tag : UInt8) (s : ByteArray) (w : World) (hs : s.size ≤ 1024) (hg : 2 < w.heap.size) (hT : Lib.Utf8Tabs 1 2 w) :
    Calls Tryd.prog 26 #[.int .u8 (tag.toNat : Int), .string s] w fun e w' => e = .returned (res3 (rdV tag s.data.toList)) ∧ Below w.heap.size w w' := by
  unfold rdV
  by_cases h1 : tag = 1
  · subst h1; simp only [if_true]; exact readValue_1 s w
  by_cases h2 : tag = 2
  · subst h2
    rw [if_neg h1, if_pos rfl]
    obtain ⟨v, n, b, e⟩ := res3_form (rdBool s.data.toList)
    rw [e]
    exact readValue_2 s v n b w fun w1 _ => by rw [← e]; exact readBool_any s w1 hs
  by_cases h3 : tag = 3
  · subst h3
    rw [if_neg h1, if_neg h2, if_pos rfl]
    obtain ⟨v, n, b, e⟩ := res3_form (rdInt s.data.toList)
    rw [e]
    exact readValue_3 s v n b w fun w1 _ => by rw [← e]; exact readInt_any s w1 hs
  by_cases h4 : tag = 4
  · subst h4
    rw [if_neg h1, if_neg h2, if_neg h3, if_pos rfl]
    obtain ⟨v, n, b, e⟩ := res3_form (rdFlo s.data.toList)
    rw [e]
    exact readValue_4 s v n b w fun w1 _ => by rw [← e]; exact readFloat_any s w1 hs
  by_cases h5 : tag = 5
  · subst h5
    rw [if_neg h1, if_neg h2, if_neg h3, if_neg h4, if_pos rfl]
    obtain ⟨v, n, b, e⟩ := res3_form (rdTxt 4 s.data.toList)
    rw [e]
    exact readValue_5 s v n b w fun w1 hb => by rw [← e]; exact readString_any s 4 (.inl rfl) w1 hs (by have := hb.size; omega) (tabs_keep hb hg hT)
  by_cases h6 : tag = 6
  · subst h6
    rw [if_neg h1, if_neg h2, if_neg h3, if_neg h4, if_neg h5, if_pos rfl]
    obtain ⟨v, n, b, e⟩ := res3_form (rdTxt 5 s.data.toList)
    rw [e]
    exact readValue_6 s v n b w fun w1 hb => by rw [← e]; exact readString_any s 5 (.inr rfl) w1 hs (by have := hb.size; omega) (tabs_keep hb hg hT)
  rw [if_neg h1, if_neg h2, if_neg h3, if_neg h4, if_neg h5, if_neg h6]
  have ne : ∀ (k : UInt8) (z : Int), (k.toNat : Int) = z → ¬ tag = k → ((tag.toNat : Int) == z) = false := by
    intro k z hz h
    have : ¬ tag.toNat = k.toNat := fun e => h (UInt8.toNat_inj.1 e)
    simp; omega
  exact readValue_x tag.toNat s w (ne 1 1 rfl h1) (ne 2 2 rfl h2) (ne 3 3 rfl h3) (ne 4 4 rfl h4) (ne 5 5 rfl h5) (ne 6 6 rfl h6)
end Go.Proofs.YtjigmijennbolaaDoor
