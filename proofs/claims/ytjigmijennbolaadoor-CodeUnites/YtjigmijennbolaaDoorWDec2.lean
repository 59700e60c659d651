/- The walks of the functions that read ints. -/
import Derived.Test.YtjigmijennbolaaDoorWDec
import Derived.Laws.DeepNot64
namespace Go.Proofs.YtjigmijennbolaaDoor
open Go.RowKit
set_option maxRecDepth 100000

theorem bneN {a b : Nat} (h : ¬ a = b) : ((a : Int) != (b : Int)) = true := by simp; omega

set_option maxHeartbeats 1000000 in
theorem readBelow_big (s : ByteArray) (k t m : Nat) (w : World) (hk : k ≤ 8) (h1 : ∀ w1, Calls Tryd.prog 58 #[.string s, .int .i64 (k : Int)] w1 fun e w' => e = .returned (.tuple #[.int .u64 (t : Int), .bool true]) ∧ w' = w1)
    (hx : bits .xor .u64 (t : Int) ((256 ^ k - 1 : Nat) : Int) = (m : Int)) (hm : 9223372036854775807 < m) :
    Calls Tryd.prog 57 #[.string s, .int .i64 (k : Int)] w fun e w' => e = .returned (res3 none) ∧ Below w.heap.size w w' := by
  have C1 : Hid (∀ w1 : World, Calls _ _ _ _ _) := h1
  have C2 : Hid (∀ w1 : World, Calls _ _ _ _ _) := fun w1 => lowBytes_any k w1 hk
  have hm' : (9223372036854775807 : Int) < m := by omega
  have hsf := run_store_float
  clear h1
  generalize ((256 ^ k - 1 : Nat) : Int) = lb at *
  go_enter Tryd.func57, Tryd.ntmps57
  go_wp2_with (first | (go_at_call 58; refine (C1.out _).mono ?_; rintro e w1 ⟨rfl, hww⟩; obtain rfl := hww.symm) | (go_at_call 75; refine (C2.out _).mono ?_; rintro e w2 ⟨rfl, hww⟩; obtain rfl := hww.symm))
  go_returns
  exact ⟨rfl, by go_grown⟩

set_option maxHeartbeats 1000000 in
theorem readBelow_w (s : ByteArray) (k t m : Nat) (w : World) (hk : k ≤ 8) (h1 : ∀ w1, Calls Tryd.prog 58 #[.string s, .int .i64 (k : Int)] w1 fun e w' => e = .returned (.tuple #[.int .u64 (t : Int), .bool true]) ∧ w' = w1)
    (hx : bits .xor .u64 (t : Int) ((256 ^ k - 1 : Nat) : Int) = (m : Int)) (hm : m ≤ 9223372036854775807) (hw : ¬ max (sz m) 1 = k) :
    Calls Tryd.prog 57 #[.string s, .int .i64 (k : Int)] w fun e w' => e = .returned (res3 none) ∧ Below w.heap.size w w' := by
  have C1 : Hid (∀ w1 : World, Calls _ _ _ _ _) := h1
  have C2 : Hid (∀ w1 : World, Calls _ _ _ _ _) := fun w1 => lowBytes_any k w1 hk
  have C3 : Hid (∀ w1 : World, Calls _ _ _ _ _) := fun w1 => widthBelow_any m w1 (by omega)
  have hm' : (m : Int) ≤ 9223372036854775807 := by omega
  have hsf := run_store_float
  have hne := bneN hw
  clear h1 hw
  generalize max (sz m) 1 = q at *
  generalize ((256 ^ k - 1 : Nat) : Int) = lb at *
  go_enter Tryd.func57, Tryd.ntmps57
  go_wp2_with (first | (go_at_call 58; refine (C1.out _).mono ?_; rintro e w1 ⟨rfl, hww⟩; obtain rfl := hww.symm) | (go_at_call 75; refine (C2.out _).mono ?_; rintro e w2 ⟨rfl, hww⟩; obtain rfl := hww.symm) | (go_at_call 52; refine (C3.out _).mono ?_; rintro e w3 ⟨rfl, hww⟩; obtain rfl := hww.symm))
  go_returns
  exact ⟨rfl, by go_grown⟩

set_option maxHeartbeats 1000000 in
theorem readBelow_good (s : ByteArray) (k t m : Nat) (w : World) (hk : k ≤ 8) (h1 : ∀ w1, Calls Tryd.prog 58 #[.string s, .int .i64 (k : Int)] w1 fun e w' => e = .returned (.tuple #[.int .u64 (t : Int), .bool true]) ∧ w' = w1)
    (hx : bits .xor .u64 (t : Int) ((256 ^ k - 1 : Nat) : Int) = (m : Int)) (hm : m ≤ 9223372036854775807) (hw : max (sz m) 1 = k) :
    Calls Tryd.prog 57 #[.string s, .int .i64 (k : Int)] w fun e w' => e = .returned (res3 (some (vInt (-(m : Int) - 1), 1 + k))) ∧ Below w.heap.size w w' := by
  have C1 : Hid (∀ w1 : World, Calls _ _ _ _ _) := h1
  have C2 : Hid (∀ w1 : World, Calls _ _ _ _ _) := fun w1 => lowBytes_any k w1 hk
  have C3 : Hid (∀ w1 : World, Calls _ _ _ _ _) := fun w1 => widthBelow_any m w1 (by omega)
  rw [hw] at C3
  have hm' : (m : Int) ≤ 9223372036854775807 := by omega
  have hwr : IntKind.i64.wrap (m : Int) = (m : Int) := by rw [IntKind.wrap_i64]; omega
  have hnot := i64_not m (by omega)
  have hsf := run_store_float
  have hr : res3 (some (vInt (-(m : Int) - 1), 1 + k)) = .tuple #[.agg #[.int .i64 2, .int .i64 (-1 - (m : Int)), .float .f64 0, .string ⟨#[]⟩], .int .i64 (1 + (k : Int)), .bool true] := by
    have e : -(m : Int) - 1 = -1 - (m : Int) := by omega
    simp only [res3, vInt, e]
    congr 1
  rw [hr]
  clear h1 hw hr
  generalize ((256 ^ k - 1 : Nat) : Int) = lb at *
  go_enter Tryd.func57, Tryd.ntmps57
  go_wp2_with (first | (go_at_call 58; refine (C1.out _).mono ?_; rintro e w1 ⟨rfl, hww⟩; obtain rfl := hww.symm) | (go_at_call 75; refine (C2.out _).mono ?_; rintro e w2 ⟨rfl, hww⟩; obtain rfl := hww.symm) | (go_at_call 52; refine (C3.out _).mono ?_; rintro e w3 ⟨rfl, hww⟩; obtain rfl := hww.symm) | (go_at_call 59; refine (litInt_any _ _).mono ?_; rintro e w1 ⟨rfl, hb1⟩; obtain ⟨⟨z0, z1, z2, z3⟩, y0, y1, y2, y3⟩ := vz w w1 _ rfl hb1))
  refine bodyPost_ret (v := .tuple #[.agg #[.int .i64 2, .int .i64 (-1 - (m : Int)), .float .f64 0, .string ⟨#[]⟩], .int .i64 (1 + (k : Int)), .bool true]) (by simp [results, Tryd.results57, go_sem, z0, z1, z2, z3, vInt]) rfl ⟨rfl, ((((((Below.refl _ _).alloc (Nat.le_refl _) _).trans (hb1.mono (by simp))).setCell (by simp) _).setCell (by simp) _).setCell (by simp) _).setCell (by simp) _⟩

/-- an int below 0 -/
def rdBelow (l : List UInt8) (k : Nat) : Option (Vl × Nat) :=
  if 8 < k ∨ l.length < k then none
  else if 9223372036854775807 < 256 ^ k - 1 - num (l.take k) ∨ max (sz (256 ^ k - 1 - num (l.take k))) 1 ≠ k then none
  else some (vInt (-((256 ^ k - 1 - num (l.take k) : Nat) : Int) - 1), 1 + k)
theorem readBelow_any (s : ByteArray) (k : Nat) (w : World) (hs : s.size ≤ 1024) (hk : k ≤ 1024) :
    Calls Tryd.prog 57 #[.string s, .int .i64 (k : Int)] w fun e w' => e = .returned (res3 (rdBelow s.data.toList k)) ∧ Below w.heap.size w w' := by
  unfold rdBelow
  have hsz : s.data.toList.length = s.size := by simp
  rw [hsz]
  by_cases h : 8 < k ∨ s.size < k
  · rw [if_pos h]; exact readBelow_no s k w hs hk h
  · rw [if_neg h]
    have hl : (s.data.toList.take k).length = k := by rw [List.length_take, hsz]; omega
    have ht := num_lt (s.data.toList.take k)
    rw [hl] at ht
    have hx := xor_low (k := k) (by omega) ht
    have h1 : ∀ w1, Calls Tryd.prog 58 #[.string s, .int .i64 (k : Int)] w1 fun e w' => e = .returned (.tuple #[.int .u64 ((num (s.data.toList.take k) : Nat) : Int), .bool true]) ∧ w' = w1 := fun w1 => readHigh_ok s k w1 hs (by omega) (by omega)
    by_cases h2 : 9223372036854775807 < 256 ^ k - 1 - num (s.data.toList.take k)
    · rw [if_pos (.inl h2)]; exact readBelow_big s k _ _ w (by omega) h1 hx h2
    · by_cases h3 : max (sz (256 ^ k - 1 - num (s.data.toList.take k))) 1 = k
      · rw [if_neg (by omega)]; exact readBelow_good s k _ _ w (by omega) h1 hx (by omega) h3
      · rw [if_pos (.inr h3)]; exact readBelow_w s k _ _ w (by omega) h1 hx (by omega) h3
end Go.Proofs.YtjigmijennbolaaDoor
