/- The walks of value.Check and of what it calls. -/
import Derived.Test.YtljiokkdaelmpaaGreatDoorWVal
namespace Go.Proofs.YtljiokkdaelmpaaGreatDoor
open Go.RowKit Ieee
set_option maxRecDepth 100000

set_option maxHeartbeats 400000 in
theorem kind_any (k : Int) (w : World) :
    Calls Tryz.prog 11 #[.int .i64 k] w fun e w' => e = .returned (.bool (kindB k)) ∧ w' = w := by
  go_enter Tryz.func11, Tryz.ntmps11
  go_wp2
  all_goals go_ret
  all_goals (refine ⟨?_, rfl⟩)
  all_goals (first | (simp [kindB, *]; done) | (simp [kindB]; omega))

set_option maxHeartbeats 400000 in
theorem num_any (k n : Int) (f : Nat) (s : ByteArray) (w : World) :
    Calls Tryz.prog 22 #[.agg #[.int .i64 k, .int .i64 n, .float .f64 f, .string s]] w fun e w' => e = .returned (.bool (numB k n)) ∧ Below w.heap.size w w' := by
  go_enter Tryz.func22, Tryz.ntmps22
  go_wp2
  all_goals go_ret
  all_goals (refine ⟨?_, by go_grown⟩)
  all_goals (simp [numB, *])

set_option maxHeartbeats 400000 in
theorem flo_any (k n : Int) (f : Nat) (s : ByteArray) (w : World) :
    Calls Tryz.prog 23 #[.agg #[.int .i64 k, .int .i64 n, .float .f64 f, .string s]] w fun e w' => e = .returned (.bool (floB k f)) ∧ Below w.heap.size w w' := by
  go_enter Tryz.func23, Tryz.ntmps23
  go_wp2_with (first | (go_at_call 45; refine (sameBits_any _ _ _).mono ?_; rintro e w' ⟨rfl, rfl⟩))
  all_goals go_ret
  all_goals (refine ⟨?_, by go_grown⟩)
  all_goals (simp [floB, *])

/-- one value's box -/
abbrev C1 (b : Nat) (k n : Int) (f : Nat) (s : ByteArray) (w' : World) : Prop :=
  w'.cell? ⟨b, 0, none⟩ = some (.int .i64 k) ∧ w'.cell? ⟨b, 1, none⟩ = some (.int .i64 n) ∧ w'.cell? ⟨b, 2, none⟩ = some (.float .f64 f) ∧ w'.cell? ⟨b, 3, none⟩ = some (.string s)
theorem c1_keep {b : Nat} {k n : Int} {f : Nat} {s : ByteArray} {B : Nat} {wp w' : World} (hb : Below B wp w') (hB : b < B) (h : C1 b k n f s wp) : C1 b k n f s w' := by
  obtain ⟨h1, h2, h3, h4⟩ := h
  have o : ∀ {o : Nat} {v : Option Value}, wp.cell? ⟨b, o, none⟩ = v → w'.cell? ⟨b, o, none⟩ = v := fun {o v} hc => (hb.cell (p := ⟨b, o, none⟩) hB).trans hc
  exact ⟨o h1, o h2, o h3, o h4⟩
theorem c1_new (w : World) (k n : Int) (f : Nat) (s : ByteArray) : C1 w.heap.size k n f s (w.alloc (.cells #[.int .i64 k, .int .i64 n, .float .f64 f, .string s] 24)) := by
  refine ⟨?_, ?_, ?_, ?_⟩ <;> simp [go_sem]

set_option maxHeartbeats 1000000 in
theorem check_any (k n : Int) (f : Nat) (s : ByteArray) (w : World) (hs : s.size ≤ maxLen)
    (hv : ∀ w1 : World, Below w.heap.size w w1 → Calls Tryz.prog 24 #[.agg #[.int .i64 k, .int .i64 n, .float .f64 f, .string s]] w1 fun e w' => e = .returned (.bool (strB k s)) ∧ Below w1.heap.size w1 w') :
    Calls Tryz.prog 12 #[.agg #[.int .i64 k, .int .i64 n, .float .f64 f, .string s]] w fun e w' => e = .returned (.int .i64 (chkV k n f s)) ∧ Below w.heap.size w w' := by
  unfold maxLen at hs
  have HV : Hid (∀ w1 : World, Below w.heap.size w w1 → _) := hv
  clear hv
  cases h1 : kindB k
  · go_enter Tryz.func12, Tryz.ntmps12
    go_wp2_with (first | (go_at_call 11; refine (kind_any _ _).mono ?_; rintro e w' ⟨rfl, rfl⟩))
    go_ret
    exact ⟨by simp [chkV, h1], by go_grown⟩
  cases h2 : numB k n
  · go_enter Tryz.func12, Tryz.ntmps12
    go_wp2_with (first | (go_at_call 11; refine (kind_any _ _).mono ?_; rintro e w' ⟨rfl, rfl⟩))
    refine (num_any _ _ _ _ _).mono ?_
    rintro e w1 ⟨rfl, hb1⟩
    have hz1 := hb1.size
    simp at hz1
    go_wp2
    go_ret
    exact ⟨by simp [chkV, h2], Below.trans (by go_grown) (hb1.mono (by simp))⟩
  cases h3 : floB k f
  · go_enter Tryz.func12, Tryz.ntmps12
    go_wp2_with (first | (go_at_call 11; refine (kind_any _ _).mono ?_; rintro e w' ⟨rfl, rfl⟩))
    refine (num_any _ _ _ _ _).mono ?_
    rintro e w1 ⟨rfl, hb1⟩
    have hz1 := hb1.size
    simp at hz1
    have C := c1_keep hb1 (by simp) (c1_new w k n f s)
    obtain ⟨x1, x2, x3, x4⟩ := C
    go_wp2_with fail
    refine (flo_any _ _ _ _ _).mono ?_
    rintro e w2 ⟨rfl, hb2⟩
    have hz2 := hb2.size
    have B2 : Hid (Below w.heap.size w w2) := Below.trans (Below.trans (by go_grown) (hb1.mono (by simp))) (hb2.mono (by omega))
    go_wp2
    go_ret
    exact ⟨by simp [chkV, h3], B2.out⟩
  cases h4 : strB k s
  · go_enter Tryz.func12, Tryz.ntmps12
    go_wp2_with (first | (go_at_call 11; refine (kind_any _ _).mono ?_; rintro e w' ⟨rfl, rfl⟩))
    refine (num_any _ _ _ _ _).mono ?_
    rintro e w1 ⟨rfl, hb1⟩
    have hz1 := hb1.size
    simp at hz1
    have C := c1_keep hb1 (by simp) (c1_new w k n f s)
    obtain ⟨x1, x2, x3, x4⟩ := C
    go_wp2_with fail
    refine (flo_any _ _ _ _ _).mono ?_
    rintro e w2 ⟨rfl, hb2⟩
    have hz2 := hb2.size
    have B2 : Hid (Below w.heap.size w w2) := Below.trans (Below.trans (by go_grown) (hb1.mono (by simp))) (hb2.mono (by omega))
    obtain ⟨x1, x2, x3, x4⟩ := c1_keep hb2 (by omega) ⟨x1, x2, x3, x4⟩
    go_wp2_with fail
    refine (HV.out _ B2.out).mono ?_
    rintro e w3 ⟨rfl, hb3⟩
    have hz3 := hb3.size
    obtain ⟨x1, x2, x3, x4⟩ := c1_keep hb3 (by omega) ⟨x1, x2, x3, x4⟩
    have B3 : Hid (Below w.heap.size w w3) := B2.out.trans (hb3.mono (by omega))
    go_wp2
    go_ret
    exact ⟨by simp [chkV, h4], B3.out⟩
  by_cases h5 : (65536 : Int) < (s.size : Int)
  · go_enter Tryz.func12, Tryz.ntmps12
    go_wp2_with (first | (go_at_call 11; refine (kind_any _ _).mono ?_; rintro e w' ⟨rfl, rfl⟩))
    refine (num_any _ _ _ _ _).mono ?_
    rintro e w1 ⟨rfl, hb1⟩
    have hz1 := hb1.size
    simp at hz1
    have C := c1_keep hb1 (by simp) (c1_new w k n f s)
    obtain ⟨x1, x2, x3, x4⟩ := C
    go_wp2_with fail
    refine (flo_any _ _ _ _ _).mono ?_
    rintro e w2 ⟨rfl, hb2⟩
    have hz2 := hb2.size
    have B2 : Hid (Below w.heap.size w w2) := Below.trans (Below.trans (by go_grown) (hb1.mono (by simp))) (hb2.mono (by omega))
    obtain ⟨x1, x2, x3, x4⟩ := c1_keep hb2 (by omega) ⟨x1, x2, x3, x4⟩
    go_wp2_with fail
    refine (HV.out _ B2.out).mono ?_
    rintro e w3 ⟨rfl, hb3⟩
    have hz3 := hb3.size
    obtain ⟨x1, x2, x3, x4⟩ := c1_keep hb3 (by omega) ⟨x1, x2, x3, x4⟩
    have B3 : Hid (Below w.heap.size w w3) := B2.out.trans (hb3.mono (by omega))
    go_wp2
    go_ret
    exact ⟨by simp [chkV, h1, h2, h3, h4, h5], B3.out⟩
  · go_enter Tryz.func12, Tryz.ntmps12
    go_wp2_with (first | (go_at_call 11; refine (kind_any _ _).mono ?_; rintro e w' ⟨rfl, rfl⟩))
    refine (num_any _ _ _ _ _).mono ?_
    rintro e w1 ⟨rfl, hb1⟩
    have hz1 := hb1.size
    simp at hz1
    have C := c1_keep hb1 (by simp) (c1_new w k n f s)
    obtain ⟨x1, x2, x3, x4⟩ := C
    go_wp2_with fail
    refine (flo_any _ _ _ _ _).mono ?_
    rintro e w2 ⟨rfl, hb2⟩
    have hz2 := hb2.size
    have B2 : Hid (Below w.heap.size w w2) := Below.trans (Below.trans (by go_grown) (hb1.mono (by simp))) (hb2.mono (by omega))
    obtain ⟨x1, x2, x3, x4⟩ := c1_keep hb2 (by omega) ⟨x1, x2, x3, x4⟩
    go_wp2_with fail
    refine (HV.out _ B2.out).mono ?_
    rintro e w3 ⟨rfl, hb3⟩
    have hz3 := hb3.size
    obtain ⟨x1, x2, x3, x4⟩ := c1_keep hb3 (by omega) ⟨x1, x2, x3, x4⟩
    have B3 : Hid (Below w.heap.size w w3) := B2.out.trans (hb3.mono (by omega))
    go_wp2
    go_ret
    exact ⟨by simp [chkV, h1, h2, h3, h4, h5], B3.out⟩

end Go.Proofs.YtljiokkdaelmpaaGreatDoor
