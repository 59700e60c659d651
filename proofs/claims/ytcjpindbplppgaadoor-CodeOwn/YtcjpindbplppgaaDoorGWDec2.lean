/- The walks of the functions that read ints. The walks of the functions that read a value. The walks of the functions that read bools and floats, and of the check behind a text. -/
import Derived.Laws.DeepNot64
import Derived.Deep.RegionWith
import Derived.Test.YtcjpindbplppgaaDoorGWDec
namespace Go.Proofs.YtcjpindbplppgaaDoor
open Go.RowKit
set_option maxRecDepth 100000

theorem bneN {a b : Nat} (h : ¬ a = b) : ((a : Int) != (b : Int)) = true := by simp; omega

set_option maxHeartbeats 1000000 in
theorem readBelow_big (s : ByteArray) (k t m : Nat) (w : World) (hk : k ≤ 8) (h1 : ∀ w1, Calls Tryd.prog 46 #[.string s, .int .i64 (k : Int)] w1 fun e w' => e = .returned (.tuple #[.int .u64 (t : Int), .bool true]) ∧ w' = w1)
    (hx : bits .xor .u64 (t : Int) ((256 ^ k - 1 : Nat) : Int) = (m : Int)) (hm : 9223372036854775807 < m) :
    Calls Tryd.prog 45 #[.string s, .int .i64 (k : Int)] w fun e w' => e = .returned (res3 none) ∧ Below w.heap.size w w' := by
  have C1 : Hid (∀ w1 : World, Calls _ _ _ _ _) := h1
  have C2 : Hid (∀ w1 : World, Calls _ _ _ _ _) := fun w1 => lowBytes_any k w1 hk
  have hm' : (9223372036854775807 : Int) < m := by omega
  have hsf := run_store_float
  clear h1
  generalize ((256 ^ k - 1 : Nat) : Int) = lb at *
  go_enter Tryd.func45, Tryd.ntmps45
  go_wp2_with (first | (go_at_call 46; refine (C1.out _).mono ?_; rintro e w1 ⟨rfl, hww⟩; obtain rfl := hww.symm) | (go_at_call 59; refine (C2.out _).mono ?_; rintro e w2 ⟨rfl, hww⟩; obtain rfl := hww.symm))
  go_returns
  exact ⟨rfl, by go_grown⟩

set_option maxHeartbeats 1000000 in
theorem readBelow_w (s : ByteArray) (k t m : Nat) (w : World) (hk : k ≤ 8) (h1 : ∀ w1, Calls Tryd.prog 46 #[.string s, .int .i64 (k : Int)] w1 fun e w' => e = .returned (.tuple #[.int .u64 (t : Int), .bool true]) ∧ w' = w1)
    (hx : bits .xor .u64 (t : Int) ((256 ^ k - 1 : Nat) : Int) = (m : Int)) (hm : m ≤ 9223372036854775807) (hw : ¬ max (sz m) 1 = k) :
    Calls Tryd.prog 45 #[.string s, .int .i64 (k : Int)] w fun e w' => e = .returned (res3 none) ∧ Below w.heap.size w w' := by
  have C1 : Hid (∀ w1 : World, Calls _ _ _ _ _) := h1
  have C2 : Hid (∀ w1 : World, Calls _ _ _ _ _) := fun w1 => lowBytes_any k w1 hk
  have C3 : Hid (∀ w1 : World, Calls _ _ _ _ _) := fun w1 => widthBelow_any m w1 (by omega)
  have hm' : (m : Int) ≤ 9223372036854775807 := by omega
  have hsf := run_store_float
  have hne := bneN hw
  clear h1 hw
  generalize max (sz m) 1 = q at *
  generalize ((256 ^ k - 1 : Nat) : Int) = lb at *
  go_enter Tryd.func45, Tryd.ntmps45
  go_wp2_with (first | (go_at_call 46; refine (C1.out _).mono ?_; rintro e w1 ⟨rfl, hww⟩; obtain rfl := hww.symm) | (go_at_call 59; refine (C2.out _).mono ?_; rintro e w2 ⟨rfl, hww⟩; obtain rfl := hww.symm) | (go_at_call 40; refine (C3.out _).mono ?_; rintro e w3 ⟨rfl, hww⟩; obtain rfl := hww.symm))
  go_returns
  exact ⟨rfl, by go_grown⟩

set_option maxHeartbeats 1000000 in
theorem readBelow_good (s : ByteArray) (k t m : Nat) (w : World) (hk : k ≤ 8) (h1 : ∀ w1, Calls Tryd.prog 46 #[.string s, .int .i64 (k : Int)] w1 fun e w' => e = .returned (.tuple #[.int .u64 (t : Int), .bool true]) ∧ w' = w1)
    (hx : bits .xor .u64 (t : Int) ((256 ^ k - 1 : Nat) : Int) = (m : Int)) (hm : m ≤ 9223372036854775807) (hw : max (sz m) 1 = k) :
    Calls Tryd.prog 45 #[.string s, .int .i64 (k : Int)] w fun e w' => e = .returned (res3 (some (vInt (-(m : Int) - 1), 1 + k))) ∧ Below w.heap.size w w' := by
  have C1 : Hid (∀ w1 : World, Calls _ _ _ _ _) := h1
  have C2 : Hid (∀ w1 : World, Calls _ _ _ _ _) := fun w1 => lowBytes_any k w1 hk
  have C3 : Hid (∀ w1 : World, Calls _ _ _ _ _) := fun w1 => widthBelow_any m w1 (by omega)
  rw [hw] at C3
  have hm' : (m : Int) ≤ 9223372036854775807 := by omega
  have hwr : IntKind.i64.wrap (m : Int) = (m : Int) := by rw [IntKind.wrap_i64]; omega
  have hnot := i64_not m (by omega)
  have hsf := run_store_float
  have hr : res3 (some (vInt (-(m : Int) - 1), 1 + k)) = .tuple #[.agg #[.int .i64 2, .int .i64 (-1 - (m : Int)), .float .f64 0, .string ⟨#[]⟩], .int .i64 (1 + (k : Int)), .bool true] := by
    have e : -(m : Int) - 1 = -1 - (m : Int) := by omega
    simp only [res3, vInt, e]
    congr 1
  rw [hr]
  clear h1 hw hr
  generalize ((256 ^ k - 1 : Nat) : Int) = lb at *
  go_enter Tryd.func45, Tryd.ntmps45
  go_wp2_with (first | (go_at_call 46; refine (C1.out _).mono ?_; rintro e w1 ⟨rfl, hww⟩; obtain rfl := hww.symm) | (go_at_call 59; refine (C2.out _).mono ?_; rintro e w2 ⟨rfl, hww⟩; obtain rfl := hww.symm) | (go_at_call 40; refine (C3.out _).mono ?_; rintro e w3 ⟨rfl, hww⟩; obtain rfl := hww.symm) | (go_at_call 47; refine (litInt_any _ _).mono ?_; rintro e w1 ⟨rfl, hb1⟩; obtain ⟨⟨z0, z1, z2, z3⟩, y0, y1, y2, y3⟩ := vz w w1 _ rfl hb1))
  refine bodyPost_ret (v := .tuple #[.agg #[.int .i64 2, .int .i64 (-1 - (m : Int)), .float .f64 0, .string ⟨#[]⟩], .int .i64 (1 + (k : Int)), .bool true]) (by simp [results, Tryd.results45, go_sem, z0, z1, z2, z3, vInt]) rfl ⟨rfl, ((((((Below.refl _ _).alloc (Nat.le_refl _) _).trans (hb1.mono (by simp))).setCell (by simp) _).setCell (by simp) _).setCell (by simp) _).setCell (by simp) _⟩

/-- an int below 0 -/
def rdBelow (l : List UInt8) (k : Nat) : Option (Vl × Nat) :=
  if 8 < k ∨ l.length < k then none
  else if 9223372036854775807 < 256 ^ k - 1 - num (l.take k) ∨ max (sz (256 ^ k - 1 - num (l.take k))) 1 ≠ k then none
  else some (vInt (-((256 ^ k - 1 - num (l.take k) : Nat) : Int) - 1), 1 + k)
theorem readBelow_any (s : ByteArray) (k : Nat) (w : World) (hs : s.size ≤ 1024) (hk : k ≤ 1024) :
    Calls Tryd.prog 45 #[.string s, .int .i64 (k : Int)] w fun e w' => e = .returned (res3 (rdBelow s.data.toList k)) ∧ Below w.heap.size w w' := by
  unfold rdBelow
  have hsz : s.data.toList.length = s.size := by simp
  rw [hsz]
  by_cases h : 8 < k ∨ s.size < k
  · rw [if_pos h]; exact readBelow_no s k w hs hk h
  · rw [if_neg h]
    have hl : (s.data.toList.take k).length = k := by rw [List.length_take, hsz]; omega
    have ht := num_lt (s.data.toList.take k)
    rw [hl] at ht
    have hx := xor_low (k := k) (by omega) ht
    have h1 : ∀ w1, Calls Tryd.prog 46 #[.string s, .int .i64 (k : Int)] w1 fun e w' => e = .returned (.tuple #[.int .u64 ((num (s.data.toList.take k) : Nat) : Int), .bool true]) ∧ w' = w1 := fun w1 => readHigh_ok s k w1 hs (by omega) (by omega)
    by_cases h2 : 9223372036854775807 < 256 ^ k - 1 - num (s.data.toList.take k)
    · rw [if_pos (.inl h2)]; exact readBelow_big s k _ _ w (by omega) h1 hx h2
    · by_cases h3 : max (sz (256 ^ k - 1 - num (s.data.toList.take k))) 1 = k
      · rw [if_neg (by omega)]; exact readBelow_good s k _ _ w (by omega) h1 hx (by omega) h3
      · rw [if_pos (.inr h3)]; exact readBelow_w s k _ _ w (by omega) h1 hx (by omega) h3

end Go.Proofs.YtcjpindbplppgaaDoor

namespace Go.Proofs.YtcjpindbplppgaaDoor
open Go.RowKit
set_option maxRecDepth 100000

theorem res3_form (o : Option (Vl × Nat)) : ∃ (v : Vl) (n : Int) (b : Bool), res3 o = .tuple #[v.val, .int .i64 n, .bool b] := by
  cases o with
  | none => exact ⟨vNull, 0, false, rfl⟩
  | some x => exact ⟨x.1, _, true, rfl⟩
theorem ext1 (s : ByteArray) : (s.extract 1 s.size).data.toList = s.data.toList.drop 1 := by
  rw [ByteArray.data_extract, Array.toList_extract]
  rw [List.extract_eq_take_drop, List.take_of_length_le (by simp)]
theorem ext_size (s : ByteArray) : (s.extract 1 s.size).size = s.size - 1 := by simp
theorem toList_cons {s : ByteArray} (h : 0 < s.size) : s.data.toList = s[0] :: s.data.toList.drop 1 := by
  have h' : 0 < s.data.toList.length := by simpa using h
  have := List.drop_eq_getElem_cons h'
  rw [List.drop_zero] at this
  exact this
theorem not_nil {s : ByteArray} (h : 0 < s.size) : (s.toList == []) = false := by
  rw [ByteArray.toList_eq, toList_cons h]; rfl
theorem bytes_eq0 {a : ByteArray} (h : a.data.toList = []) : a = ⟨#[]⟩ := by
  obtain ⟨⟨l⟩⟩ := a; simp at h; rw [h]
theorem is_nil {s : ByteArray} (h : s.size = 0) : s = ⟨#[]⟩ := by
  apply bytes_eq0
  have : s.data.toList.length = 0 := by simpa using h
  exact List.eq_nil_of_length_eq_zero this

set_option maxHeartbeats 1000000 in
theorem readInt_nil (w : World) :
    Calls Tryd.prog 28 #[.string ⟨#[]⟩] w fun e w' => e = .returned (res3 none) ∧ Below w.heap.size w w' := by
  have hsf := run_store_float
  go_enter Tryd.func28, Tryd.ntmps28
  go_wp2
  go_returns
  exact ⟨rfl, by go_grown⟩

set_option maxHeartbeats 1000000 in
theorem readInt_below (s : ByteArray) (k : Nat) (v : Vl) (n : Int) (b : Bool) (w : World) (hs : s.size ≤ 1024) (h0 : 0 < s.size) (hk0 : 0 < k) (hk : (s[0].toNat : Int) - 128 = -(k : Int))
    (hC : ∀ w1, Calls Tryd.prog 45 #[.string (s.extract 1 s.size), .int .i64 (k : Int)] w1 fun e w' => e = .returned (.tuple #[v.val, .int .i64 n, .bool b]) ∧ Below w1.heap.size w1 w') :
    Calls Tryd.prog 28 #[.string s] w fun e w' => e = .returned (.tuple #[v.val, .int .i64 n, .bool b]) ∧ Below w.heap.size w w' := by
  have hne := not_nil h0
  have hlt : (s[0].toNat : Int) < 256 := by have := s[0].toNat_lt; omega
  have C1 : Hid (∀ w1 : World, Calls _ _ _ _ _) := hC
  have hsf := run_store_float
  clear hC
  go_enter Tryd.func28, Tryd.ntmps28
  go_wp2_with (first | (go_at_call 45; refine (C1.out _).mono ?_; rintro e w1 ⟨rfl, hb1⟩; obtain ⟨⟨z0, z1, z2, z3⟩, y0, y1, y2, y3⟩ := vz w w1 _ rfl hb1))
  refine bodyPost_ret (v := .tuple #[v.val, .int .i64 n, .bool b]) (by simp [results, Tryd.results28, go_sem, z0, z1, z2, z3]) rfl ⟨rfl, ((((((Below.refl _ _).alloc (Nat.le_refl _) _).trans (hb1.mono (by simp))).setCell (by simp) _).setCell (by simp) _).setCell (by simp) _).setCell (by simp) _⟩

set_option maxHeartbeats 1000000 in
theorem readInt_no (s : ByteArray) (k : Nat) (w : World) (hs : s.size ≤ 1024) (h0 : 0 < s.size) (hk : (s[0].toNat : Int) - 128 = (k : Int))
    (hC : ∀ w1, Calls Tryd.prog 46 #[.string (s.extract 1 s.size), .int .i64 (k : Int)] w1 fun e w' => e = .returned (.tuple #[.int .u64 0, .bool false]) ∧ w' = w1) :
    Calls Tryd.prog 28 #[.string s] w fun e w' => e = .returned (res3 none) ∧ Below w.heap.size w w' := by
  have hne := not_nil h0
  have hlt : (s[0].toNat : Int) < 256 := by have := s[0].toNat_lt; omega
  have C1 : Hid (∀ w1 : World, Calls _ _ _ _ _) := hC
  have hsf := run_store_float
  clear hC
  go_enter Tryd.func28, Tryd.ntmps28
  go_wp2_with fail
  refine (C1.out _).mono ?_
  rintro e w1 ⟨rfl, hww⟩
  obtain rfl := hww.symm
  go_wp2
  go_returns
  exact ⟨rfl, by go_grown⟩

set_option maxHeartbeats 1000000 in
theorem readInt_big (s : ByteArray) (k : Nat) (w : World) (hs : s.size ≤ 1024) (h0 : 0 < s.size) (hk : (s[0].toNat : Int) - 128 = (k : Int)) (m : Nat) (hm : 9223372036854775807 < m)
    (hC : ∀ w1, Calls Tryd.prog 46 #[.string (s.extract 1 s.size), .int .i64 (k : Int)] w1 fun e w' => e = .returned (.tuple #[.int .u64 (m : Int), .bool true]) ∧ w' = w1) :
    Calls Tryd.prog 28 #[.string s] w fun e w' => e = .returned (res3 none) ∧ Below w.heap.size w w' := by
  have hne := not_nil h0
  have hlt : (s[0].toNat : Int) < 256 := by have := s[0].toNat_lt; omega
  have C1 : Hid (∀ w1 : World, Calls _ _ _ _ _) := hC
  have hsf := run_store_float
  have hm' : (9223372036854775807 : Int) < m := by omega
  clear hC
  go_enter Tryd.func28, Tryd.ntmps28
  go_wp2_with fail
  refine (C1.out _).mono ?_
  rintro e w1 ⟨rfl, hww⟩
  obtain rfl := hww.symm
  go_wp2
  go_returns
  exact ⟨rfl, by go_grown⟩

set_option maxHeartbeats 1000000 in
theorem readInt_w (s : ByteArray) (k : Nat) (w : World) (hs : s.size ≤ 1024) (h0 : 0 < s.size) (hk : (s[0].toNat : Int) - 128 = (k : Int)) (m : Nat) (hm : m ≤ 9223372036854775807) (hw : ¬ sz m = k)
    (hC : ∀ w1, Calls Tryd.prog 46 #[.string (s.extract 1 s.size), .int .i64 (k : Int)] w1 fun e w' => e = .returned (.tuple #[.int .u64 (m : Int), .bool true]) ∧ w' = w1) :
    Calls Tryd.prog 28 #[.string s] w fun e w' => e = .returned (res3 none) ∧ Below w.heap.size w w' := by
  have hne := not_nil h0
  have hlt : (s[0].toNat : Int) < 256 := by have := s[0].toNat_lt; omega
  have C1 : Hid (∀ w1 : World, Calls _ _ _ _ _) := hC
  have C2 : Hid (∀ w1 : World, Calls _ _ _ _ _) := fun w1 => widthOf_any m w1 (by omega)
  have hsf := run_store_float
  have hm' : (m : Int) ≤ 9223372036854775807 := by omega
  have hn2 := bneN hw
  clear hC hw
  generalize sz m = q at *
  go_enter Tryd.func28, Tryd.ntmps28
  go_wp2_with fail
  refine (C1.out _).mono ?_
  rintro e w1 ⟨rfl, hww⟩
  obtain rfl := hww.symm
  go_wp2_with (first | (go_at_call 42; refine (C2.out _).mono ?_; rintro e w2 ⟨rfl, hww⟩; obtain rfl := hww.symm))
  go_returns
  exact ⟨rfl, by go_grown⟩

set_option maxHeartbeats 1000000 in
theorem readInt_good (s : ByteArray) (k : Nat) (w : World) (hs : s.size ≤ 1024) (h0 : 0 < s.size) (hk : (s[0].toNat : Int) - 128 = (k : Int)) (m : Nat) (hm : m ≤ 9223372036854775807) (hw : sz m = k)
    (hC : ∀ w1, Calls Tryd.prog 46 #[.string (s.extract 1 s.size), .int .i64 (k : Int)] w1 fun e w' => e = .returned (.tuple #[.int .u64 (m : Int), .bool true]) ∧ w' = w1) :
    Calls Tryd.prog 28 #[.string s] w fun e w' => e = .returned (res3 (some (vInt (m : Int), 1 + k))) ∧ Below w.heap.size w w' := by
  have hne := not_nil h0
  have hlt : (s[0].toNat : Int) < 256 := by have := s[0].toNat_lt; omega
  have C1 : Hid (∀ w1 : World, Calls _ _ _ _ _) := hC
  have C2 : Hid (∀ w1 : World, Calls _ _ _ _ _) := fun w1 => widthOf_any m w1 (by omega)
  rw [hw] at C2
  have hsf := run_store_float
  have hm' : (m : Int) ≤ 9223372036854775807 := by omega
  have hk8 := sz_le m
  rw [hw] at hk8
  have hwr : IntKind.i64.wrap (m : Int) = (m : Int) := by rw [IntKind.wrap_i64]; omega
  have hr : res3 (some (vInt (m : Int), 1 + k)) = .tuple #[.agg #[.int .i64 2, .int .i64 (m : Int), .float .f64 0, .string ⟨#[]⟩], .int .i64 (1 + (k : Int)), .bool true] := by
    simp only [res3, vInt]
    congr 1
  rw [hr]
  clear hC hw hr
  go_enter Tryd.func28, Tryd.ntmps28
  go_wp2_with fail
  refine (C1.out _).mono ?_
  rintro e w1 ⟨rfl, hww⟩
  obtain rfl := hww.symm
  go_wp2_with (first | (go_at_call 42; refine (C2.out _).mono ?_; rintro e w2 ⟨rfl, hww⟩; obtain rfl := hww.symm) | (go_at_call 47; refine (litInt_any _ _).mono ?_; rintro e w1 ⟨rfl, hb1⟩; obtain ⟨⟨z0, z1, z2, z3⟩, y0, y1, y2, y3⟩ := vz w w1 _ rfl hb1))
  refine bodyPost_ret (v := .tuple #[.agg #[.int .i64 2, .int .i64 (m : Int), .float .f64 0, .string ⟨#[]⟩], .int .i64 (1 + (k : Int)), .bool true]) (by simp [results, Tryd.results28, go_sem, z0, z1, z2, z3, vInt]) rfl ⟨rfl, ((((((Below.refl _ _).alloc (Nat.le_refl _) _).trans (hb1.mono (by simp))).setCell (by simp) _).setCell (by simp) _).setCell (by simp) _).setCell (by simp) _⟩

theorem readInt_any (s : ByteArray) (w : World) (hs : s.size ≤ 1024) :
    Calls Tryd.prog 28 #[.string s] w fun e w' => e = .returned (res3 (rdInt s.data.toList)) ∧ Below w.heap.size w w' := by
  rcases Nat.eq_zero_or_pos s.size with h0 | h0
  · rw [is_nil h0]; exact readInt_nil w
  · rw [toList_cons h0]
    have hlt := s[0].toNat_lt
    have hx := ext1 s
    have hxs := ext_size s
    have hl : (s.data.toList.drop 1).length = s.size - 1 := by simp
    simp only [rdInt]
    by_cases h1 : 128 ≤ s[0].toNat
    · rw [if_pos h1, hl]
      generalize hk : s[0].toNat - 128 = k
      have hk' : (s[0].toNat : Int) - 128 = (k : Int) := by omega
      by_cases h2 : 8 < k ∨ s.size - 1 < k
      · rw [if_pos h2]
        exact readInt_no s k w hs h0 hk' fun w1 => readHigh_no _ k w1 (by omega) (by omega) (by rw [hxs]; exact h2)
      · rw [if_neg h2]
        have hC := fun w1 => readHigh_ok (s.extract 1 s.size) k w1 (by omega) (by omega) (by omega)
        rw [hx] at hC
        by_cases h3 : 9223372036854775807 < num ((s.data.toList.drop 1).take k)
        · rw [if_pos (.inl h3)]; exact readInt_big s k w hs h0 hk' _ h3 hC
        · by_cases h4 : sz (num ((s.data.toList.drop 1).take k)) = k
          · rw [if_neg (by omega)]; exact readInt_good s k w hs h0 hk' _ (by omega) h4 hC
          · rw [if_pos (.inr h4)]; exact readInt_w s k w hs h0 hk' _ (by omega) h4 hC
    · rw [if_neg h1]
      have hC := fun w1 => readBelow_any (s.extract 1 s.size) (128 - s[0].toNat) w1 (by omega) (by omega)
      rw [hx] at hC
      unfold rdBelow at hC
      obtain ⟨v, n, b, e⟩ := res3_form (if 8 < 128 - s[0].toNat ∨ (s.data.toList.drop 1).length < 128 - s[0].toNat then none
       else if 9223372036854775807 < 256 ^ (128 - s[0].toNat) - 1 - num ((s.data.toList.drop 1).take (128 - s[0].toNat)) ∨ max (sz (256 ^ (128 - s[0].toNat) - 1 - num ((s.data.toList.drop 1).take (128 - s[0].toNat)))) 1 ≠ 128 - s[0].toNat then none
       else some (vInt (-((256 ^ (128 - s[0].toNat) - 1 - num ((s.data.toList.drop 1).take (128 - s[0].toNat)) : Nat) : Int) - 1), 1 + (128 - s[0].toNat)))
      rw [e] at hC ⊢
      exact readInt_below s (128 - s[0].toNat) v n b w hs h0 (by omega) (by omega) hC

end Go.Proofs.YtcjpindbplppgaaDoor

namespace Go.Proofs.YtcjpindbplppgaaDoor
open Go.RowKit
set_option maxRecDepth 100000

set_option maxHeartbeats 1000000 in
theorem readBool_nil (w : World) :
    Calls Tryd.prog 27 #[.string ⟨#[]⟩] w fun e w' => e = .returned (res3 none) ∧ Below w.heap.size w w' := by
  have hsf := run_store_float
  go_enter Tryd.func27, Tryd.ntmps27
  go_wp2
  go_returns
  exact ⟨rfl, by go_grown⟩

set_option maxHeartbeats 1000000 in
theorem readBool_big (s : ByteArray) (w : World) (_hs : s.size ≤ 1024) (h0 : 0 < s.size) (h1 : (1 : Int) < s[0].toNat) :
    Calls Tryd.prog 27 #[.string s] w fun e w' => e = .returned (res3 none) ∧ Below w.heap.size w w' := by
  have hne := not_nil h0
  have hsf := run_store_float
  go_enter Tryd.func27, Tryd.ntmps27
  go_wp2
  go_returns
  exact ⟨rfl, by go_grown⟩

set_option maxHeartbeats 1000000 in
theorem readBool_good (s : ByteArray) (b : Bool) (w : World) (_hs : s.size ≤ 1024) (h0 : 0 < s.size) (h1 : (s[0].toNat : Int) ≤ 1) (hb : ((s[0].toNat : Int) == 1) = b) :
    Calls Tryd.prog 27 #[.string s] w fun e w' => e = .returned (.tuple #[(vBool b).val, .int .i64 1, .bool true]) ∧ Below w.heap.size w w' := by
  have hne := not_nil h0
  have hsf := run_store_float
  go_enter Tryd.func27, Tryd.ntmps27
  go_wp2_with (first | (go_at_call 44; refine (litBool_any _ _).mono ?_; rintro e w1 ⟨rfl, hb1⟩; obtain ⟨⟨z0, z1, z2, z3⟩, y0, y1, y2, y3⟩ := vz w w1 _ rfl hb1))
  refine bodyPost_ret (v := .tuple #[(vBool b).val, .int .i64 1, .bool true]) (by simp [results, Tryd.results27, go_sem, z0, z1, z2, z3]) rfl ⟨rfl, ((((((Below.refl _ _).alloc (Nat.le_refl _) _).trans (hb1.mono (by simp))).setCell (by simp) _).setCell (by simp) _).setCell (by simp) _).setCell (by simp) _⟩

theorem readBool_any (s : ByteArray) (w : World) (hs : s.size ≤ 1024) :
    Calls Tryd.prog 27 #[.string s] w fun e w' => e = .returned (res3 (rdBool s.data.toList)) ∧ Below w.heap.size w w' := by
  rcases Nat.eq_zero_or_pos s.size with h0 | h0
  · rw [is_nil h0]; exact readBool_nil w
  · rw [toList_cons h0]
    simp only [rdBool]
    by_cases h1 : 1 < s[0].toNat
    · rw [if_pos h1]; exact readBool_big s w hs h0 (by omega)
    · rw [if_neg h1]
      refine readBool_good s _ w hs h0 (by omega) ?_
      rw [Bool.eq_iff_iff]
      simp only [beq_iff_eq]
      constructor
      · intro h; exact UInt8.toNat_inj.1 (show s[0].toNat = (1 : UInt8).toNat by have : (1 : UInt8).toNat = 1 := rfl; omega)
      · intro h; rw [h]; rfl

set_option maxHeartbeats 1000000 in
theorem readFloat_no (s : ByteArray) (w : World) (hC : ∀ w1, Calls Tryd.prog 46 #[.string s, .int .i64 8] w1 fun e w' => e = .returned (.tuple #[.int .u64 0, .bool false]) ∧ w' = w1) :
    Calls Tryd.prog 29 #[.string s] w fun e w' => e = .returned (res3 none) ∧ Below w.heap.size w w' := by
  have C1 : Hid (∀ w1 : World, Calls _ _ _ _ _) := hC
  have hsf := run_store_float
  clear hC
  go_enter Tryd.func29, Tryd.ntmps29
  go_wp2_with fail
  refine (C1.out _).mono ?_
  rintro e w1 ⟨rfl, hww⟩
  obtain rfl := hww.symm
  go_wp2
  go_returns
  exact ⟨rfl, by go_grown⟩

/-- the world behind two blocks and a call keeps both -/
theorem vz2 (w w1 : World) (f : Nat) (hb : Below ((w.alloc (.cells #[.int .i64 0, .int .i64 0, .float .f64 0, .string ⟨#[]⟩] 32))).heap.size (w.alloc (.cells #[.int .i64 0, .int .i64 0, .float .f64 0, .string ⟨#[]⟩] 32)) w1) :
    Below w.heap.size w (w1.alloc (.cells #[.int .i64 3, .int .i64 0, .float .f64 f, .string ⟨#[]⟩] 32)) :=
  (((Below.refl _ _).alloc (Nat.le_refl _) _).trans (hb.mono (by simp))).alloc (by have := hb.size; simp at this; omega) _

set_option maxHeartbeats 2000000 in
theorem readFloat_ok (s : ByteArray) (b f : Nat) (w : World) (hb : b < 18446744073709551616) (hf : f = unG b) (ok : Bool) (hok : ok = decide (plainF f = f)) (hC : ∀ w1, Calls Tryd.prog 46 #[.string s, .int .i64 8] w1 fun e w' => e = .returned (.tuple #[.int .u64 (b : Int), .bool true]) ∧ w' = w1) :
    Calls Tryd.prog 29 #[.string s] w fun e w' => e = .returned (if ok then .tuple #[(vFlo f).val, .int .i64 8, .bool true] else res3 none) ∧ Below w.heap.size w w' := by
  have C1 : Hid (∀ w1 : World, Calls _ _ _ _ _) := hC
  have hsf := run_store_float
  have C2 : Hid (∀ w1 : World, Calls Tryd.prog 43 #[.agg #[.int .i64 3, .int .i64 0, .float .f64 f, .string ⟨#[]⟩]] w1 fun e w' => e = .returned (.agg #[.int .i64 3, .int .i64 0, .float .f64 (plainF f), .string ⟨#[]⟩]) ∧ Below w1.heap.size w1 w') := fun w1 => plain_any 3 0 f ⟨#[]⟩ w1
  have C3 : Hid (∀ w1 : World, Calls Tryd.prog 49 #[.agg #[.int .i64 3, .int .i64 0, .float .f64 f, .string ⟨#[]⟩], .agg #[.int .i64 3, .int .i64 0, .float .f64 (plainF f), .string ⟨#[]⟩]] w1 fun e w' => e = .returned (.bool ok) ∧ Below w1.heap.size w1 w') := fun w1 => by
    have h := same_any 3 0 3 0 f (plainF f) ⟨#[]⟩ ⟨#[]⟩ w1
    have e : sameB 3 0 3 0 f (plainF f) ⟨#[]⟩ ⟨#[]⟩ = ok := by
      rw [hok, Bool.eq_iff_iff]
      simp only [sameB, beq_self_eq_true, Bool.true_and, Bool.and_true, beq_iff_eq, decide_eq_true_eq]
      omega
    rw [e] at h
    exact h
  have hlf : (vFlo f).val = .agg #[.int .i64 3, .int .i64 0, .float .f64 f, .string ⟨#[]⟩] := rfl
  have C4 : Hid (∀ w1 : World, Calls _ _ _ _ _) := fun w1 => litBits_any f w1
  rw [hlf] at C4 ⊢
  clear hok hC hlf
  generalize plainF f = pf' at *
  have fin : Hid (∀ w1 w2 : World, Below ((w.alloc (.cells #[.int .i64 0, .int .i64 0, .float .f64 0, .string ⟨#[]⟩] 32))).heap.size (w.alloc (.cells #[.int .i64 0, .int .i64 0, .float .f64 0, .string ⟨#[]⟩] 32)) w1 → Below (w1.alloc (.cells #[.int .i64 3, .int .i64 0, .float .f64 f, .string ⟨#[]⟩] 32)).heap.size (w1.alloc (.cells #[.int .i64 3, .int .i64 0, .float .f64 f, .string ⟨#[]⟩] 32)).drew w2 → Below ((w.alloc (.cells #[.int .i64 0, .int .i64 0, .float .f64 0, .string ⟨#[]⟩] 32))).heap.size (w.alloc (.cells #[.int .i64 0, .int .i64 0, .float .f64 0, .string ⟨#[]⟩] 32)) w2) := fun w1 w2 h1 h2 => by
    have := h1.size
    exact (h1.alloc this _).drew.trans (h2.mono (by simp; simp at this; omega))
  rcases Nat.lt_or_ge b 9223372036854775808 with hc | hc
  · have hb1 := (top_off hc).1
    have hx := not_u64 b hb IntKind.u64.max (by decide)
    have e : 18446744073709551615 - b = f := by rw [hf]; unfold unG; rw [if_pos hc]
    rw [e] at hx
    have HX : Hid (_ = _) := hx
    clear e hx hf
    go_enter Tryd.func29, Tryd.ntmps29
    go_wp2_with fail
    refine (C1.out _).mono ?_
    rintro e w1 ⟨rfl, hww⟩
    obtain rfl := hww.symm
    go_wp2_with fail
    rw [HX.out]
    refine (C4.out _).mono ?_
    rintro e w1 ⟨rfl, hbA⟩
    have hz := hbA.size
    simp at hz
    obtain ⟨⟨z0, z1, z2, z3⟩, y0, y1, y2, y3⟩ := vz w w1 _ rfl hbA
    go_wp2_with fail
    go_region_with (first | (go_at_call 43; refine (C2.out _).mono ?_; rintro e w2 ⟨rfl, hbB⟩; obtain ⟨u1, u2, u3, u4⟩ := c1_keep (wp := (w1.alloc (.cells #[.int .i64 3, .int .i64 0, .float .f64 f, .string ⟨#[]⟩] 32)).drew) hbB (by simp) (c1_new w1 3 0 f ⟨#[]⟩)) | (go_at_call 49; refine (C3.out _).mono ?_; rintro e w3 ⟨rfl, hbC⟩))
    all_goals
      have hD := fin.out w1 w3 hbA (hbB.trans (hbC.mono hbB.size))
      obtain ⟨⟨q0, q1, q2, q3⟩, r0, r1, r2, r3⟩ := vz w w3 _ rfl hD
      obtain ⟨v1, v2, v3, v4⟩ := c1_keep hbC (by have := hbB.size; simp at this; omega) ⟨u1, u2, u3, u4⟩
      have hE : Below w.heap.size w w3 := ((Below.refl _ _).alloc (Nat.le_refl _) _).trans (hD.mono (by simp))
      clear hbA hbB hbC hD z0 z1 z2 z3 y0 y1 y2 y3 u1 u2 u3 u4
      cases ok
      · go_wp2
        refine bodyPost_ret (v := res3 none) (by simp [results, Tryd.results29, go_sem, q0, q1, q2, q3, res3, vNull]) rfl ⟨rfl, (((hE.setCell (by simp) _).setCell (by simp) _).setCell (by simp) _).setCell (by simp) _⟩
      · go_wp2
        refine bodyPost_ret (v := .tuple #[.agg #[.int .i64 3, .int .i64 0, .float .f64 f, .string ⟨#[]⟩], .int .i64 8, .bool true]) (by simp [results, Tryd.results29, go_sem, q0, q1, q2, q3]) rfl ⟨rfl, (((hE.setCell (by simp) _).setCell (by simp) _).setCell (by simp) _).setCell (by simp) _⟩
  · have hb1 := top_on hc hb
    have hx : bits .xor .u64 (b : Int) 9223372036854775808 = (f : Int) := by
      have h := u64_xor_nat b 9223372036854775808 hb (by decide)
      rw [show ((9223372036854775808 : Nat) : Int) = 9223372036854775808 from rfl] at h
      have e : f + 2 ^ 63 = b := by rw [hf]; unfold unG; rw [if_neg (by omega)]; omega
      have e2 : f < 2 ^ 63 := by omega
      rw [h, ← e, show (9223372036854775808 : Nat) = 2 ^ 63 from rfl, ← xor_top e2, Nat.xor_assoc, Nat.xor_self, Nat.xor_zero]
    have HX : Hid (_ = _) := hx
    clear hx hf
    go_enter Tryd.func29, Tryd.ntmps29
    go_wp2_with fail
    refine (C1.out _).mono ?_
    rintro e w1 ⟨rfl, hww⟩
    obtain rfl := hww.symm
    go_wp2_with fail
    rw [HX.out]
    refine (C4.out _).mono ?_
    rintro e w1 ⟨rfl, hbA⟩
    have hz := hbA.size
    simp at hz
    obtain ⟨⟨z0, z1, z2, z3⟩, y0, y1, y2, y3⟩ := vz w w1 _ rfl hbA
    go_wp2_with fail
    go_region_with (first | (go_at_call 43; refine (C2.out _).mono ?_; rintro e w2 ⟨rfl, hbB⟩; obtain ⟨u1, u2, u3, u4⟩ := c1_keep (wp := (w1.alloc (.cells #[.int .i64 3, .int .i64 0, .float .f64 f, .string ⟨#[]⟩] 32)).drew) hbB (by simp) (c1_new w1 3 0 f ⟨#[]⟩)) | (go_at_call 49; refine (C3.out _).mono ?_; rintro e w3 ⟨rfl, hbC⟩))
    all_goals
      have hD := fin.out w1 w3 hbA (hbB.trans (hbC.mono hbB.size))
      obtain ⟨⟨q0, q1, q2, q3⟩, r0, r1, r2, r3⟩ := vz w w3 _ rfl hD
      obtain ⟨v1, v2, v3, v4⟩ := c1_keep hbC (by have := hbB.size; simp at this; omega) ⟨u1, u2, u3, u4⟩
      have hE : Below w.heap.size w w3 := ((Below.refl _ _).alloc (Nat.le_refl _) _).trans (hD.mono (by simp))
      clear hbA hbB hbC hD z0 z1 z2 z3 y0 y1 y2 y3 u1 u2 u3 u4
      cases ok
      · go_wp2
        refine bodyPost_ret (v := res3 none) (by simp [results, Tryd.results29, go_sem, q0, q1, q2, q3, res3, vNull]) rfl ⟨rfl, (((hE.setCell (by simp) _).setCell (by simp) _).setCell (by simp) _).setCell (by simp) _⟩
      · go_wp2
        refine bodyPost_ret (v := .tuple #[.agg #[.int .i64 3, .int .i64 0, .float .f64 f, .string ⟨#[]⟩], .int .i64 8, .bool true]) (by simp [results, Tryd.results29, go_sem, q0, q1, q2, q3]) rfl ⟨rfl, (((hE.setCell (by simp) _).setCell (by simp) _).setCell (by simp) _).setCell (by simp) _⟩

theorem readFloat_any (s : ByteArray) (w : World) (hs : s.size ≤ 1024) :
    Calls Tryd.prog 29 #[.string s] w fun e w' => e = .returned (res3 (rdFlo s.data.toList)) ∧ Below w.heap.size w w' := by
  unfold rdFlo
  have hsz : s.data.toList.length = s.size := by simp
  rw [hsz]
  by_cases h : s.size < 8
  · rw [if_pos h]; exact readFloat_no s w fun w1 => readHigh_no s 8 w1 hs (by decide) (.inr h)
  · rw [if_neg h]
    have hl : (s.data.toList.take 8).length = 8 := by rw [List.length_take, hsz]; omega
    have ht := num_lt (s.data.toList.take 8)
    rw [hl, pow256_8] at ht
    have h1 := readFloat_ok s (num (s.data.toList.take 8)) _ w ht rfl _ rfl fun w1 => readHigh_ok s 8 w1 hs (by decide) (by omega)
    by_cases h2 : plainF (unG (num (s.data.toList.take 8))) = unG (num (s.data.toList.take 8))
    · rw [if_pos h2]
      simp only [h2, decide_true, if_true] at h1
      exact h1
    · rw [if_neg h2]
      simp only [h2, decide_false, Bool.false_eq_true, if_false] at h1
      exact h1

set_option maxHeartbeats 1000000 in
theorem checked_any (v : Vl) (n : Nat) (w : World) (hv : v.ok) (hg : 2 < w.heap.size) (hT : Lib.Utf8Tabs 1 2 w) :
    Calls Tryd.prog 50 #[v.val, .int .i64 (n : Int)] w fun e w' => e = .returned (if v.chk = 0 then res3 (some (v, n)) else res3 none) ∧ Below w.heap.size w w' := by
  have hbx : Below w.heap.size w ((w.alloc (.cells #[.int .i64 v.k, .int .i64 v.n, .float .f64 v.f, .string v.s] 32)).alloc (.cells #[.int .i64 0, .int .i64 0, .float .f64 0, .string ⟨#[]⟩] 32)) := ((Below.refl _ _).alloc (Nat.le_refl _) _).alloc (by simp) _
  have C1 : Hid (∀ w1 : World, Below w.heap.size w w1 → Calls _ _ _ _ _) := fun w1 hb => check_ok v w1 hv (by have := hb.size; omega) (tabs_keep hb hg hT)
  have HB : Hid (Below _ _ _) := hbx
  have hsf := run_store_float
  clear hbx hT
  by_cases hc : v.chk = 0
  · rw [if_pos hc]
    rw [hc] at C1
    have hr : res3 (some (v, n)) = .tuple #[v.val, .int .i64 (n : Int), .bool true] := rfl
    rw [hr]
    clear hr hc
    go_enter Tryd.func50, Tryd.ntmps50
    go_wp2_with fail
    refine (C1.out _ HB.out).mono ?_
    rintro e w1 ⟨rfl, hb1⟩
    obtain ⟨⟨z0, z1, z2, z3⟩, y0, y1, y2, y3⟩ := vz (w.alloc (.cells #[.int .i64 v.k, .int .i64 v.n, .float .f64 v.f, .string v.s] 32)) w1 _ rfl hb1
    obtain ⟨u1, u2, u3, u4⟩ := c1_keep hb1 (by simp; omega) (c1_keep ((Below.refl _ _).alloc (Nat.le_refl _) _) (by simp) (c1_new w v.k v.n v.f v.s))
    simp at z0 z1 z2 z3 y0 y1 y2 y3
    have hE : Below w.heap.size w w1 := HB.out.trans (hb1.mono (by simp; omega))
    clear hb1
    go_wp2
    refine bodyPost_ret (v := .tuple #[v.val, .int .i64 (n : Int), .bool true]) (by simp [results, Tryd.results50, go_sem, z0, z1, z2, z3]) rfl ⟨rfl, (((hE.setCell (by simp) _).setCell (by simp) _).setCell (by simp) _).setCell (by simp) _⟩
  · rw [if_neg hc]
    obtain ⟨ck, hck⟩ : ∃ ck, ck = v.chk := ⟨_, rfl⟩
    rw [← hck] at C1 hc
    have hne := bneT hc
    clear hc hck
    go_enter Tryd.func50, Tryd.ntmps50
    go_wp2_with fail
    refine (C1.out _ HB.out).mono ?_
    rintro e w1 ⟨rfl, hb1⟩
    obtain ⟨⟨z0, z1, z2, z3⟩, y0, y1, y2, y3⟩ := vz (w.alloc (.cells #[.int .i64 v.k, .int .i64 v.n, .float .f64 v.f, .string v.s] 32)) w1 _ rfl hb1
    simp at z0 z1 z2 z3 y0 y1 y2 y3
    have hE : Below w.heap.size w w1 := HB.out.trans (hb1.mono (by simp; omega))
    clear hb1
    go_wp2
    refine bodyPost_ret (v := res3 none) (by simp [results, Tryd.results50, go_sem, z0, z1, z2, z3, res3, vNull]) rfl ⟨rfl, (((hE.setCell (by simp) _).setCell (by simp) _).setCell (by simp) _).setCell (by simp) _⟩

end Go.Proofs.YtcjpindbplppgaaDoor
