/- The walk of the look whether layer 1 answers at all; and of the statement on Text. -/
import Derived.Test.YtljiokkdaelmpaaGreatDoorWFt5
namespace Go.Proofs.YtljiokkdaelmpaaGreatDoor
open Go.RowKit
set_option maxRecDepth 100000

set_option maxHeartbeats 400000 in
theorem vint_any (n : Int) (w : World) :
    Calls Tryz.prog 5 #[.int .i64 n] w fun e w' => e = .returned (.agg #[.int .i64 2, .int .i64 n, .float .f64 0, .string ⟨#[]⟩]) ∧ Below w.heap.size w w' := by
  have hsf := run_store_float
  go_enter Tryz.func5, Tryz.ntmps5
  go_wp2
  go_returns
  exact ⟨rfl, by go_grown⟩

set_option maxHeartbeats 400000 in
theorem vflo_any (f : Nat) (w : World) :
    Calls Tryz.prog 17 #[.float .f64 f] w fun e w' => e = .returned (.agg #[.int .i64 3, .int .i64 0, .float .f64 f, .string ⟨#[]⟩]) ∧ Below w.heap.size w w' := by
  have hsf := run_store_float
  go_enter Tryz.func17, Tryz.ntmps17
  go_wp2
  go_returns
  exact ⟨rfl, by go_grown⟩

set_option maxHeartbeats 1000000 in
theorem cmp21 (w : World) :
    Calls Tryz.prog 15 #[.agg #[.int .i64 2, .int .i64 2, .float .f64 0, .string ⟨#[]⟩], .agg #[.int .i64 2, .int .i64 1, .float .f64 0, .string ⟨#[]⟩]] w fun e w' => e = .returned (.int .i64 1) ∧ Below w.heap.size w w' := by
  go_enter Tryz.func15, Tryz.ntmps15
  go_wp2_with (first | (go_at_call 31; go_in) | (go_at_call 53; go_in))
  go_ret
  exact ⟨rfl, by go_grown⟩

theorem isNum2 (n : Int) (w : World) :
    Calls Tryz.prog 14 #[.agg #[.int .i64 2, .int .i64 n, .float .f64 0, .string ⟨#[]⟩]] w fun e w' => e = .returned (.bool true) ∧ Below w.heap.size w w' := by
  go_enter Tryz.func14, Tryz.ntmps14
  go_wp2
  go_ret
  exact ⟨rfl, by go_grown⟩
theorem isNum3 (f : Nat) (w : World) :
    Calls Tryz.prog 14 #[.agg #[.int .i64 3, .int .i64 0, .float .f64 f, .string ⟨#[]⟩]] w fun e w' => e = .returned (.bool true) ∧ Below w.heap.size w w' := by
  go_enter Tryz.func14, Tryz.ntmps14
  go_wp2
  go_ret
  exact ⟨rfl, by go_grown⟩

set_option maxHeartbeats 1000000 in
theorem cmpF1 (w : World) :
    Calls Tryz.prog 35 #[.float .f64 4607182418800017408, .float .f64 4609434218613702656] w fun e w' => e = .returned (.int .i64 (-1)) ∧ w' = w := by
  have h1 : (FloatKind.f64.format.order 4607182418800017408 4607182418800017408 != some .eq) = false := by kernel_rfl
  have h2 : (FloatKind.f64.format.order 4609434218613702656 4609434218613702656 != some .eq) = false := by kernel_rfl
  have h3 : (FloatKind.f64.format.order 4607182418800017408 4609434218613702656 == some .lt) = true := by kernel_rfl
  go_enter Tryz.func35, Tryz.ntmps35
  go_wp2_with (first | (go_at_call 55; go_in))
  go_ret
  exact ⟨rfl, rfl⟩

set_option maxHeartbeats 1000000 in
theorem cif1 (w : World) :
    Calls Tryz.prog 16 #[.int .i64 1, .float .f64 4609434218613702656] w fun e w' => e = .returned (.int .i64 (-1)) ∧ w' = w := by
  have hc := fun w : World => run_convert_float_int (P := Tryz.prog) w 22 2 .f64 .i64 4609434218613702656 1 (by kernel_rfl) Tryz.underlying2 (by kernel_rfl)
  have hf : floatOfInt .f64 1 = 4607182418800017408 := by kernel_rfl
  have hn : nanB 4609434218613702656 = false := by kernel_rfl
  have h2 : (FloatKind.f64.format.order 4609434218613702656 4890909195324358656) = some .lt := by kernel_rfl
  have h3 : (FloatKind.f64.format.order 4609434218613702656 14114281232179134464 == some .lt) = false := by kernel_rfl
  have C1 : Hid (∀ w1 : World, Calls Tryz.prog 34 #[.float .f64 4609434218613702656] w1 fun e w' => e = .returned (.bool false) ∧ w' = w1) := fun w1 => by
    have h9 := isNaN_any 4609434218613702656 w1
    rw [hn] at h9
    exact h9
  clear hn
  go_enter Tryz.func16, Tryz.ntmps16
  go_wp2_with (first | (go_at_call 34; refine (C1.out _).mono ?_; rintro e w' ⟨rfl, rfl⟩) | (go_at_call 35; refine (cmpF1 _).mono ?_; rintro e w' ⟨rfl, rfl⟩))
  go_ret
  exact ⟨rfl, rfl⟩

set_option maxHeartbeats 1000000 in
theorem numbers1 (w : World) :
    Calls Tryz.prog 7 #[.agg #[.int .i64 2, .int .i64 1, .float .f64 0, .string ⟨#[]⟩], .agg #[.int .i64 3, .int .i64 0, .float .f64 4609434218613702656, .string ⟨#[]⟩]] w fun e w' => e = .returned (.tuple #[.int .i64 (-1), .bool true]) ∧ Below w.heap.size w w' := by
  go_enter Tryz.func7, Tryz.ntmps7
  go_wp2_with (first | (go_at_call 14; go_in) | (go_at_call 16; refine (cif1 _).mono ?_; rintro e w' ⟨rfl, rfl⟩))
  go_ret2
  exact ⟨rfl, by go_grown⟩

set_option maxHeartbeats 1000000 in
theorem awake_any (T : Nat → Int × Int) (w : World) (hE : TxE T w) :
    Calls Tryz.prog 8 #[] w fun e w' => e = .returned (.bool true) ∧ Below w.heap.size w w' := by
  obtain ⟨F, hF⟩ := floatText_any T 0 (by decide)
  have C2 : Hid (∀ w1, TxE T w1 → Calls Tryz.prog 9 #[.agg #[.int .i64 2, .int .i64 (-7), .float .f64 0, .string ⟨#[]⟩]] w1 fun e w' => e = .returned (.tuple #[.string ⟨#[45, 55]⟩, .int .i64 0]) ∧ Below w1.heap.size w1 w') := fun w1 h1 => by
    have h9 := text_any T F 2 (-7) 0 ⟨#[]⟩ w1 (by decide) (by decide) (by decide) h1 hF
    have e1 : chkV 2 (-7) 0 ⟨#[]⟩ = 0 := by kernel_rfl
    have e2 : txtO F 2 (-7) 0 ⟨#[]⟩ = ⟨#[45, 55]⟩ := by
      unfold txtO
      rw [e1, if_pos rfl]
      show (⟨(Lib.itoa (-7)).toArray⟩ : ByteArray) = _
      kernel_rfl
    rw [e1, e2] at h9
    exact h9
  have HE : Hid (TxE T w) := hE
  clear hF hE
  go_enter Tryz.func8, Tryz.ntmps8
  go_wp2_with fail
  refine (vint_any _ _).mono ?_
  rintro e w1 ⟨rfl, hb1⟩
  have hz1 := hb1.size
  go_wp2_with fail
  refine (C2.out _ (HE.out.on hb1)).mono ?_
  rintro e w2 ⟨rfl, hb2⟩
  have hz2 := hb2.size
  go_wp2_with fail
  refine (vint_any _ _).mono ?_
  rintro e w3 ⟨rfl, hb3⟩
  have hz3 := hb3.size
  go_wp2_with fail
  refine (vflo_any _ _).mono ?_
  rintro e w4 ⟨rfl, hb4⟩
  have hz4 := hb4.size
  go_wp2_with fail
  refine (numbers1 _).mono ?_
  rintro e w5 ⟨rfl, hb5⟩
  have hz5 := hb5.size
  go_wp2_with fail
  refine (vint_any _ _).mono ?_
  rintro e w6 ⟨rfl, hb6⟩
  have hz6 := hb6.size
  go_wp2_with fail
  refine (vint_any _ _).mono ?_
  rintro e w7 ⟨rfl, hb7⟩
  have hz7 := hb7.size
  go_wp2_with fail
  refine (cmp21 _).mono ?_
  rintro e w8 ⟨rfl, hb8⟩
  go_wp2
  go_ret
  refine ⟨rfl, ?_⟩
  exact ((((((hb1.trans (hb2.mono (by omega))).trans (hb3.mono (by omega))).trans (hb4.mono (by omega))).trans (hb5.mono (by omega))).trans (hb6.mono (by omega))).trans (hb7.mono (by omega))).trans (hb8.mono (by omega))

set_option maxHeartbeats 4000000 in
theorem lawTexts (T : Nat → Int × Int) (k n : Int) (f : Nat) (s : ByteArray) (w : World) (hf : f < 18446744073709551616) (hn0 : -9223372036854775808 ≤ n) (hn1 : n ≤ 9223372036854775807) (hs : s.size ≤ maxLen) (hE : TxE T w) :
    Calls Tryz.prog 4 #[.agg #[.int .i64 k, .int .i64 n, .float .f64 f, .string s]] w fun e w' => e = .returned (.bool true) ∧ Below w.heap.size w w' := by
  obtain ⟨F, hF⟩ := floatText_any T f hf
  have hal : Below w.heap.size w (w.alloc (.cells #[.int .i64 k, .int .i64 n, .float .f64 f, .string s] 24)) := (Below.refl _ _).alloc (Nat.le_refl _) _
  have hz : (w.alloc (.cells #[.int .i64 k, .int .i64 n, .float .f64 f, .string s] 24)).heap.size = w.heap.size + 1 := by simp
  have HX : Hid (C1 w.heap.size k n f s (w.alloc (.cells #[.int .i64 k, .int .i64 n, .float .f64 f, .string s] 24)) ∧ Below w.heap.size w (w.alloc (.cells #[.int .i64 k, .int .i64 n, .float .f64 f, .string s] 24)) ∧ (w.alloc (.cells #[.int .i64 k, .int .i64 n, .float .f64 f, .string s] 24)).heap.size = w.heap.size + 1 ∧ TxE T (w.alloc (.cells #[.int .i64 k, .int .i64 n, .float .f64 f, .string s] 24))) := ⟨c1_new w k n f s, hal, hz, hE.on hal⟩
  have CA : Hid (∀ w1, TxE T w1 → _) := fun w1 (h1 : TxE T w1) => text_any T F k n f s w1 hn0 hn1 hs h1 hF
  have CB : Hid (∀ w1, TxE T w1 → _) := fun w1 (h1 : TxE T w1) => rtext_any T F k n f s w1 hn0 hn1 hs h1 hF
  clear hF hE hal hz hn0 hn1 hs hf
  generalize txtO F k n f s = r at *
  generalize chkV k n f s = e0 at *
  go_enter Tryz.func4, Tryz.ntmps4
  go_wp2_with fail
  generalize w.alloc (.cells #[.int .i64 k, .int .i64 n, .float .f64 f, .string s] 24) = w1 at *
  refine (CA.out _ HX.out.2.2.2).mono ?_
  rintro e w2 ⟨rfl, hb2⟩
  have HX2 : Hid (C1 w.heap.size k n f s w2 ∧ Below w.heap.size w w2 ∧ w.heap.size + 1 ≤ w2.heap.size ∧ TxE T w2) := ⟨c1_keep hb2 (by have := HX.out.2.2.1; omega) HX.out.1, HX.out.2.1.trans (hb2.mono HX.out.2.1.size), by have := HX.out.2.2.1; have := hb2.size; omega, HX.out.2.2.2.on hb2⟩
  obtain ⟨x0, x1, x2, x3⟩ := HX2.out.1
  clear hb2 CA HX
  go_wp2_with fail
  refine (CB.out _ HX2.out.2.2.2).mono ?_
  rintro e w3 ⟨rfl, hb3⟩
  have HX3 : Hid (Below w.heap.size w w3 ∧ TxE T w3) := ⟨HX2.out.2.1.trans (hb3.mono HX2.out.2.1.size), HX2.out.2.2.2.on hb3⟩
  clear hb3 CB x0 x1 x2 x3
  have hr : (r.toList == r.toList) = true := by simp
  go_wp2_with fail
  refine (awake_any T _ HX3.out.2).mono ?_
  rintro e w4 ⟨rfl, hb4⟩
  have HB : Hid (Below w.heap.size w w4) := HX3.out.1.trans (hb4.mono HX3.out.1.size)
  clear hb4
  go_wp2_with fail
  go_ret
  exact ⟨rfl, HB.out⟩
end Go.Proofs.YtljiokkdaelmpaaGreatDoor
