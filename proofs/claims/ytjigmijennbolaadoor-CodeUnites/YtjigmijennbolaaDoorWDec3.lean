/- The walks of the functions that read a value. -/
import Derived.Test.YtjigmijennbolaaDoorWDec2
namespace Go.Proofs.YtjigmijennbolaaDoor
open Go.RowKit
set_option maxRecDepth 100000

theorem res3_form (o : Option (Vl × Nat)) : ∃ (v : Vl) (n : Int) (b : Bool), res3 o = .tuple #[v.val, .int .i64 n, .bool b] := by
  cases o with
  | none => exact ⟨vNull, 0, false, rfl⟩
  | some x => exact ⟨x.1, _, true, rfl⟩
theorem ext1 (s : ByteArray) : (s.extract 1 s.size).data.toList = s.data.toList.drop 1 := by
  rw [ByteArray.data_extract, Array.toList_extract]
  rw [List.extract_eq_take_drop, List.take_of_length_le (by simp)]
theorem ext_size (s : ByteArray) : (s.extract 1 s.size).size = s.size - 1 := by simp
theorem toList_cons {s : ByteArray} (h : 0 < s.size) : s.data.toList = s[0] :: s.data.toList.drop 1 := by
  have h' : 0 < s.data.toList.length := by simpa using h
  have := List.drop_eq_getElem_cons h'
  rw [List.drop_zero] at this
  exact this
theorem not_nil {s : ByteArray} (h : 0 < s.size) : (s.toList == []) = false := by
  rw [ByteArray.toList_eq, toList_cons h]; rfl
theorem bytes_eq0 {a : ByteArray} (h : a.data.toList = []) : a = ⟨#[]⟩ := by
  obtain ⟨⟨l⟩⟩ := a; simp at h; rw [h]
theorem is_nil {s : ByteArray} (h : s.size = 0) : s = ⟨#[]⟩ := by
  apply bytes_eq0
  have : s.data.toList.length = 0 := by simpa using h
  exact List.eq_nil_of_length_eq_zero this

set_option maxHeartbeats 1000000 in
theorem readInt_nil (w : World) :
    Calls Tryd.prog 42 #[.string ⟨#[]⟩] w fun e w' => e = .returned (res3 none) ∧ Below w.heap.size w w' := by
  have hsf := run_store_float
  go_enter Tryd.func42, Tryd.ntmps42
  go_wp2
  go_returns
  exact ⟨rfl, by go_grown⟩

set_option maxHeartbeats 1000000 in
theorem readInt_below (s : ByteArray) (k : Nat) (v : Vl) (n : Int) (b : Bool) (w : World) (hs : s.size ≤ 1024) (h0 : 0 < s.size) (hk0 : 0 < k) (hk : (s[0].toNat : Int) - 128 = -(k : Int))
    (hC : ∀ w1, Calls Tryd.prog 57 #[.string (s.extract 1 s.size), .int .i64 (k : Int)] w1 fun e w' => e = .returned (.tuple #[v.val, .int .i64 n, .bool b]) ∧ Below w1.heap.size w1 w') :
    Calls Tryd.prog 42 #[.string s] w fun e w' => e = .returned (.tuple #[v.val, .int .i64 n, .bool b]) ∧ Below w.heap.size w w' := by
  have hne := not_nil h0
  have hlt : (s[0].toNat : Int) < 256 := by have := s[0].toNat_lt; omega
  have C1 : Hid (∀ w1 : World, Calls _ _ _ _ _) := hC
  have hsf := run_store_float
  clear hC
  go_enter Tryd.func42, Tryd.ntmps42
  go_wp2_with (first | (go_at_call 57; refine (C1.out _).mono ?_; rintro e w1 ⟨rfl, hb1⟩; obtain ⟨⟨z0, z1, z2, z3⟩, y0, y1, y2, y3⟩ := vz w w1 _ rfl hb1))
  refine bodyPost_ret (v := .tuple #[v.val, .int .i64 n, .bool b]) (by simp [results, Tryd.results42, go_sem, z0, z1, z2, z3]) rfl ⟨rfl, ((((((Below.refl _ _).alloc (Nat.le_refl _) _).trans (hb1.mono (by simp))).setCell (by simp) _).setCell (by simp) _).setCell (by simp) _).setCell (by simp) _⟩

set_option maxHeartbeats 1000000 in
theorem readInt_no (s : ByteArray) (k : Nat) (w : World) (hs : s.size ≤ 1024) (h0 : 0 < s.size) (hk : (s[0].toNat : Int) - 128 = (k : Int))
    (hC : ∀ w1, Calls Tryd.prog 58 #[.string (s.extract 1 s.size), .int .i64 (k : Int)] w1 fun e w' => e = .returned (.tuple #[.int .u64 0, .bool false]) ∧ w' = w1) :
    Calls Tryd.prog 42 #[.string s] w fun e w' => e = .returned (res3 none) ∧ Below w.heap.size w w' := by
  have hne := not_nil h0
  have hlt : (s[0].toNat : Int) < 256 := by have := s[0].toNat_lt; omega
  have C1 : Hid (∀ w1 : World, Calls _ _ _ _ _) := hC
  have hsf := run_store_float
  clear hC
  go_enter Tryd.func42, Tryd.ntmps42
  go_wp2_with fail
  refine (C1.out _).mono ?_
  rintro e w1 ⟨rfl, hww⟩
  obtain rfl := hww.symm
  go_wp2
  go_returns
  exact ⟨rfl, by go_grown⟩

set_option maxHeartbeats 1000000 in
theorem readInt_big (s : ByteArray) (k : Nat) (w : World) (hs : s.size ≤ 1024) (h0 : 0 < s.size) (hk : (s[0].toNat : Int) - 128 = (k : Int)) (m : Nat) (hm : 9223372036854775807 < m)
    (hC : ∀ w1, Calls Tryd.prog 58 #[.string (s.extract 1 s.size), .int .i64 (k : Int)] w1 fun e w' => e = .returned (.tuple #[.int .u64 (m : Int), .bool true]) ∧ w' = w1) :
    Calls Tryd.prog 42 #[.string s] w fun e w' => e = .returned (res3 none) ∧ Below w.heap.size w w' := by
  have hne := not_nil h0
  have hlt : (s[0].toNat : Int) < 256 := by have := s[0].toNat_lt; omega
  have C1 : Hid (∀ w1 : World, Calls _ _ _ _ _) := hC
  have hsf := run_store_float
  have hm' : (9223372036854775807 : Int) < m := by omega
  clear hC
  go_enter Tryd.func42, Tryd.ntmps42
  go_wp2_with fail
  refine (C1.out _).mono ?_
  rintro e w1 ⟨rfl, hww⟩
  obtain rfl := hww.symm
  go_wp2
  go_returns
  exact ⟨rfl, by go_grown⟩

set_option maxHeartbeats 1000000 in
theorem readInt_w (s : ByteArray) (k : Nat) (w : World) (hs : s.size ≤ 1024) (h0 : 0 < s.size) (hk : (s[0].toNat : Int) - 128 = (k : Int)) (m : Nat) (hm : m ≤ 9223372036854775807) (hw : ¬ sz m = k)
    (hC : ∀ w1, Calls Tryd.prog 58 #[.string (s.extract 1 s.size), .int .i64 (k : Int)] w1 fun e w' => e = .returned (.tuple #[.int .u64 (m : Int), .bool true]) ∧ w' = w1) :
    Calls Tryd.prog 42 #[.string s] w fun e w' => e = .returned (res3 none) ∧ Below w.heap.size w w' := by
  have hne := not_nil h0
  have hlt : (s[0].toNat : Int) < 256 := by have := s[0].toNat_lt; omega
  have C1 : Hid (∀ w1 : World, Calls _ _ _ _ _) := hC
  have C2 : Hid (∀ w1 : World, Calls _ _ _ _ _) := fun w1 => widthOf_any m w1 (by omega)
  have hsf := run_store_float
  have hm' : (m : Int) ≤ 9223372036854775807 := by omega
  have hn2 := bneN hw
  clear hC hw
  generalize sz m = q at *
  go_enter Tryd.func42, Tryd.ntmps42
  go_wp2_with fail
  refine (C1.out _).mono ?_
  rintro e w1 ⟨rfl, hww⟩
  obtain rfl := hww.symm
  go_wp2_with (first | (go_at_call 54; refine (C2.out _).mono ?_; rintro e w2 ⟨rfl, hww⟩; obtain rfl := hww.symm))
  go_returns
  exact ⟨rfl, by go_grown⟩

set_option maxHeartbeats 1000000 in
theorem readInt_good (s : ByteArray) (k : Nat) (w : World) (hs : s.size ≤ 1024) (h0 : 0 < s.size) (hk : (s[0].toNat : Int) - 128 = (k : Int)) (m : Nat) (hm : m ≤ 9223372036854775807) (hw : sz m = k)
    (hC : ∀ w1, Calls Tryd.prog 58 #[.string (s.extract 1 s.size), .int .i64 (k : Int)] w1 fun e w' => e = .returned (.tuple #[.int .u64 (m : Int), .bool true]) ∧ w' = w1) :
    Calls Tryd.prog 42 #[.string s] w fun e w' => e = .returned (res3 (some (vInt (m : Int), 1 + k))) ∧ Below w.heap.size w w' := by
  have hne := not_nil h0
  have hlt : (s[0].toNat : Int) < 256 := by have := s[0].toNat_lt; omega
  have C1 : Hid (∀ w1 : World, Calls _ _ _ _ _) := hC
  have C2 : Hid (∀ w1 : World, Calls _ _ _ _ _) := fun w1 => widthOf_any m w1 (by omega)
  rw [hw] at C2
  have hsf := run_store_float
  have hm' : (m : Int) ≤ 9223372036854775807 := by omega
  have hk8 := sz_le m
  rw [hw] at hk8
  have hwr : IntKind.i64.wrap (m : Int) = (m : Int) := by rw [IntKind.wrap_i64]; omega
  have hr : res3 (some (vInt (m : Int), 1 + k)) = .tuple #[.agg #[.int .i64 2, .int .i64 (m : Int), .float .f64 0, .string ⟨#[]⟩], .int .i64 (1 + (k : Int)), .bool true] := by
    simp only [res3, vInt]
    congr 1
  rw [hr]
  clear hC hw hr
  go_enter Tryd.func42, Tryd.ntmps42
  go_wp2_with fail
  refine (C1.out _).mono ?_
  rintro e w1 ⟨rfl, hww⟩
  obtain rfl := hww.symm
  go_wp2_with (first | (go_at_call 54; refine (C2.out _).mono ?_; rintro e w2 ⟨rfl, hww⟩; obtain rfl := hww.symm) | (go_at_call 59; refine (litInt_any _ _).mono ?_; rintro e w1 ⟨rfl, hb1⟩; obtain ⟨⟨z0, z1, z2, z3⟩, y0, y1, y2, y3⟩ := vz w w1 _ rfl hb1))
  refine bodyPost_ret (v := .tuple #[.agg #[.int .i64 2, .int .i64 (m : Int), .float .f64 0, .string ⟨#[]⟩], .int .i64 (1 + (k : Int)), .bool true]) (by simp [results, Tryd.results42, go_sem, z0, z1, z2, z3, vInt]) rfl ⟨rfl, ((((((Below.refl _ _).alloc (Nat.le_refl _) _).trans (hb1.mono (by simp))).setCell (by simp) _).setCell (by simp) _).setCell (by simp) _).setCell (by simp) _⟩

theorem readInt_any (s : ByteArray) (w : World) (hs : s.size ≤ 1024) :
    Calls Tryd.prog 42 #[.string s] w fun e w' => e = .returned (res3 (rdInt s.data.toList)) ∧ Below w.heap.size w w' := by
  rcases Nat.eq_zero_or_pos s.size with h0 | h0
  · rw [is_nil h0]; exact readInt_nil w
  · rw [toList_cons h0]
    have hlt := s[0].toNat_lt
    have hx := ext1 s
    have hxs := ext_size s
    have hl : (s.data.toList.drop 1).length = s.size - 1 := by simp
    simp only [rdInt]
    by_cases h1 : 128 ≤ s[0].toNat
    · rw [if_pos h1, hl]
      generalize hk : s[0].toNat - 128 = k
      have hk' : (s[0].toNat : Int) - 128 = (k : Int) := by omega
      by_cases h2 : 8 < k ∨ s.size - 1 < k
      · rw [if_pos h2]
        exact readInt_no s k w hs h0 hk' fun w1 => readHigh_no _ k w1 (by omega) (by omega) (by rw [hxs]; exact h2)
      · rw [if_neg h2]
        have hC := fun w1 => readHigh_ok (s.extract 1 s.size) k w1 (by omega) (by omega) (by omega)
        rw [hx] at hC
        by_cases h3 : 9223372036854775807 < num ((s.data.toList.drop 1).take k)
        · rw [if_pos (.inl h3)]; exact readInt_big s k w hs h0 hk' _ h3 hC
        · by_cases h4 : sz (num ((s.data.toList.drop 1).take k)) = k
          · rw [if_neg (by omega)]; exact readInt_good s k w hs h0 hk' _ (by omega) h4 hC
          · rw [if_pos (.inr h4)]; exact readInt_w s k w hs h0 hk' _ (by omega) h4 hC
    · rw [if_neg h1]
      have hC := fun w1 => readBelow_any (s.extract 1 s.size) (128 - s[0].toNat) w1 (by omega) (by omega)
      rw [hx] at hC
      unfold rdBelow at hC
      obtain ⟨v, n, b, e⟩ := res3_form (if 8 < 128 - s[0].toNat ∨ (s.data.toList.drop 1).length < 128 - s[0].toNat then none
       else if 9223372036854775807 < 256 ^ (128 - s[0].toNat) - 1 - num ((s.data.toList.drop 1).take (128 - s[0].toNat)) ∨ max (sz (256 ^ (128 - s[0].toNat) - 1 - num ((s.data.toList.drop 1).take (128 - s[0].toNat)))) 1 ≠ 128 - s[0].toNat then none
       else some (vInt (-((256 ^ (128 - s[0].toNat) - 1 - num ((s.data.toList.drop 1).take (128 - s[0].toNat)) : Nat) : Int) - 1), 1 + (128 - s[0].toNat)))
      rw [e] at hC ⊢
      exact readInt_below s (128 - s[0].toNat) v n b w hs h0 (by omega) (by omega) hC
end Go.Proofs.YtjigmijennbolaaDoor
