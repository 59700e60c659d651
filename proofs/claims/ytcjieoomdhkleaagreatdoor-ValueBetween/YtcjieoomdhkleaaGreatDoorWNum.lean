/- The walks of the comparisons of an int and a float. -/
import Derived.Test.YtcjieoomdhkleaaGreatDoorWAwake
import Derived.Test.YtcjieoomdhkleaaGreatDoorMVal
import Derived.Test.YtcjieoomdhkleaaGreatDoorMNum
namespace Go.Proofs.YtcjieoomdhkleaaGreatDoor
open Go.RowKit Ieee
set_option maxRecDepth 100000

theorem ofInt_num (n : Int) : isN (floatOfInt .f64 n) = false := by
  show isN (double.nearest (decide (n < 0)) n.natAbs 0) = false
  by_cases h : n.natAbs = 0
  · rw [h]
    exact (fK_zero _).1
  · obtain ⟨r, r1, r2, hr⟩ := nearest_pos (decide (n < 0)) n.natAbs 0 h (by omega)
    rw [hr]
    exact (fK_word _ r r1 r2).1

/-- an int against a float, by keys -/
def cif (n : Int) (f : Nat) : Int :=
  if isN f then -1 else if fK f < fK 4890909195324358656 then (if fK f < fK 14114281232179134464 then 1 else
    match floatToIntVal .f64 f .i64 with
    | some m => if n != m then cmpI n m else cmpI (fK (floatOfInt .f64 m)) (fK f)
    | none => 0) else -1

theorem cmpG_num {a b : Nat} (ha : isN a = false) (hb : isN b = false) : cmpG a b = cmpI (fK a) (fK b) := by
  unfold cmpG
  rw [nanO_eq, nanO_eq, ha, hb]
  simp [cmpO_eq ha hb]

theorem isN_hi : isN 4890909195324358656 = false := by decide +kernel
theorem isN_lo : isN 14114281232179134464 = false := by decide +kernel

theorem ord_lt {a b : Nat} (ha : isN a = false) (hb : isN b = false) (h : fK a < fK b) : FloatKind.f64.format.order a b = some .lt := by
  rw [order_fK ha hb]; simp [compare, compareOfLessAndEq, h]
theorem ord_gt {a b : Nat} (ha : isN a = false) (hb : isN b = false) (h : fK b < fK a) : FloatKind.f64.format.order a b = some .gt := by
  have h1 : ¬ fK a < fK b := by omega
  have h2 : ¬ fK a = fK b := by omega
  rw [order_fK ha hb]; simp [compare, compareOfLessAndEq, h1, h2]
theorem ord_eq {a b : Nat} (ha : isN a = false) (hb : isN b = false) (h : fK a = fK b) : FloatKind.f64.format.order a b = some .eq := by
  rw [order_fK ha hb]; simp [compare, compareOfLessAndEq, h]

set_option maxHeartbeats 1000000 in
theorem cif_nan (n : Int) (f : Nat) (w : World) (h1 : nanB f = true) :
    Calls Tryz.prog 37 #[.int .i64 n, .float .f64 f] w fun e w' => e = .returned (.int .i64 (-1)) ∧ w' = w := by
  go_enter Tryz.func37, Tryz.ntmps37
  go_wp2_with (first | (go_at_call 44; refine (isNaN_any _ _).mono ?_; rintro e w' ⟨rfl, rfl⟩))
  go_ret
  exact ⟨rfl, rfl⟩
set_option maxHeartbeats 1000000 in
theorem cif_hi (n : Int) (f : Nat) (w : World) (h1 : nanB f = false) (o : Ordering) (h2 : FloatKind.f64.format.order f 4890909195324358656 = some o) (h3 : o = .gt ∨ o = .eq) :
    Calls Tryz.prog 37 #[.int .i64 n, .float .f64 f] w fun e w' => e = .returned (.int .i64 (-1)) ∧ w' = w := by
  rcases h3 with rfl | rfl
  all_goals
    go_enter Tryz.func37, Tryz.ntmps37
    go_wp2_with (first | (go_at_call 44; refine (isNaN_any _ _).mono ?_; rintro e w' ⟨rfl, rfl⟩))
    go_ret
    exact ⟨rfl, rfl⟩
set_option maxHeartbeats 1000000 in
theorem cif_lo (n : Int) (f : Nat) (w : World) (h1 : nanB f = false) (h2 : FloatKind.f64.format.order f 4890909195324358656 = some .lt) (h3 : FloatKind.f64.format.order f 14114281232179134464 = some .lt) :
    Calls Tryz.prog 37 #[.int .i64 n, .float .f64 f] w fun e w' => e = .returned (.int .i64 1) ∧ w' = w := by
  go_enter Tryz.func37, Tryz.ntmps37
  go_wp2_with (first | (go_at_call 44; refine (isNaN_any _ _).mono ?_; rintro e w' ⟨rfl, rfl⟩))
  go_ret
  exact ⟨rfl, rfl⟩

theorem cif_any (n : Int) (f : Nat) (w : World) (hf : f < 18446744073709551616) :
    Calls Tryz.prog 37 #[.int .i64 n, .float .f64 f] w fun e w' => e = .returned (.int .i64 (cif n f)) ∧ w' = w := by
  have hB := nanB_eq hf
  unfold cif
  cases hn : isN f
  · rw [hn] at hB
    simp only [Bool.false_eq_true, if_false]
    by_cases h1 : fK f < fK 4890909195324358656
    · rw [if_pos h1]
      have o1 := ord_lt hn isN_hi h1
      by_cases h2 : fK f < fK 14114281232179134464
      · rw [if_pos h2]
        exact cif_lo n f w hB o1 (ord_lt hn isN_lo h2)
      · rw [if_neg h2]
        obtain ⟨m, hm⟩ := mid_int hn h1 (by omega)
        rw [hm]
        have h3 : (FloatKind.f64.format.order f 14114281232179134464 == some .lt) = false := by
          by_cases e : fK f = fK 14114281232179134464
          · rw [ord_eq hn isN_lo e]; rfl
          · rw [ord_gt hn isN_lo (by omega)]; rfl
        have := cif_mid n m f w hB o1 h3 hm
        unfold cifM at this
        rw [cmpG_num (ofInt_num m) hn] at this
        exact this
    · rw [if_neg h1]
      by_cases e : fK f = fK 4890909195324358656
      · exact cif_hi n f w hB _ (ord_eq hn isN_hi e) (.inr rfl)
      · exact cif_hi n f w hB _ (ord_gt hn isN_hi (by omega)) (.inl rfl)
  · rw [hn] at hB
    exact cif_nan n f w hB

/-! the document's answer -/
set_option maxHeartbeats 1000000 in
theorem mix_nan (n : Int) (f : Nat) (w : World) (h1 : nanO f = true) :
    Calls Tryz.prog 38 #[.int .i64 n, .float .f64 f] w fun e w' => e = .returned (.int .i64 (-1)) ∧ w' = w := by
  go_enter Tryz.func38, Tryz.ntmps38
  go_wp2_with (first | (go_at_call 47; refine (risNaN_any _ _).mono ?_; rintro e w' ⟨rfl, rfl⟩))
  go_ret
  exact ⟨rfl, rfl⟩
set_option maxHeartbeats 1000000 in
theorem mix_hi (n : Int) (f : Nat) (w : World) (h1 : nanO f = false) (o : Ordering) (h2 : FloatKind.f64.format.order f 4890909195324358656 = some o) (h3 : o = .gt ∨ o = .eq) :
    Calls Tryz.prog 38 #[.int .i64 n, .float .f64 f] w fun e w' => e = .returned (.int .i64 (-1)) ∧ w' = w := by
  rcases h3 with rfl | rfl
  all_goals
    go_enter Tryz.func38, Tryz.ntmps38
    go_wp2_with (first | (go_at_call 47; refine (risNaN_any _ _).mono ?_; rintro e w' ⟨rfl, rfl⟩))
    go_ret
    exact ⟨rfl, rfl⟩
set_option maxHeartbeats 1000000 in
theorem mix_lo (n : Int) (f : Nat) (w : World) (h1 : nanO f = false) (h2 : FloatKind.f64.format.order f 4890909195324358656 = some .lt) (h3 : FloatKind.f64.format.order f 14114281232179134464 = some .lt) :
    Calls Tryz.prog 38 #[.int .i64 n, .float .f64 f] w fun e w' => e = .returned (.int .i64 1) ∧ w' = w := by
  go_enter Tryz.func38, Tryz.ntmps38
  go_wp2_with (first | (go_at_call 47; refine (risNaN_any _ _).mono ?_; rintro e w' ⟨rfl, rfl⟩))
  go_ret
  exact ⟨rfl, rfl⟩
set_option maxHeartbeats 1000000 in
theorem mix_ne (n m : Int) (f : Nat) (w : World) (h1 : nanO f = false) (h2 : FloatKind.f64.format.order f 4890909195324358656 = some .lt) (h3 : (FloatKind.f64.format.order f 14114281232179134464 == some .lt) = false) (h4 : floatToIntVal .f64 f .i64 = some m) (h5 : (n != m) = true) :
    Calls Tryz.prog 38 #[.int .i64 n, .float .f64 f] w fun e w' => e = .returned (.int .i64 (cmpI n m)) ∧ w' = w := by
  have hc := fun w : World => run_convert_float_int (P := Tryz.prog) w 22 2 .f64 .i64 f m (by kernel_rfl) Tryz.underlying2 h4
  clear h4
  go_enter Tryz.func38, Tryz.ntmps38
  go_wp2_with (first | (go_at_call 47; refine (risNaN_any _ _).mono ?_; rintro e w' ⟨rfl, rfl⟩) | (go_at_call 32; refine (ints_any _ _ _).mono ?_; rintro e w' ⟨rfl, rfl⟩))
  go_ret
  exact ⟨rfl, rfl⟩
set_option maxHeartbeats 1000000 in
theorem mix_eq (n : Int) (f r : Nat) (w : World) (h1 : nanO f = false) (h2 : FloatKind.f64.format.order f 4890909195324358656 = some .lt) (h3 : (FloatKind.f64.format.order f 14114281232179134464 == some .lt) = false) (h4 : floatToIntVal .f64 f .i64 = some n) (h5 : double.sub f (floatOfInt .f64 n) = some r)
    (o : Ordering) (h6 : FloatKind.f64.format.order r 0 = some o) :
    Calls Tryz.prog 38 #[.int .i64 n, .float .f64 f] w fun e w' => e = .returned (.int .i64 (match o with | .gt => -1 | .lt => 1 | .eq => 0)) ∧ w' = w := by
  have hc := fun w : World => run_convert_float_int (P := Tryz.prog) w 22 2 .f64 .i64 f n (by kernel_rfl) Tryz.underlying2 h4
  have hd := fun w : World => run_float_arith (P := Tryz.prog) w .sub 22 .f64 f (floatOfInt .f64 n) r h5
  clear h4 h5
  cases o
  all_goals
    go_enter Tryz.func38, Tryz.ntmps38
    go_wp2_with (first | (go_at_call 47; refine (risNaN_any _ _).mono ?_; rintro e w' ⟨rfl, rfl⟩) | (go_at_call 32; refine (ints_any _ _ _).mono ?_; rintro e w' ⟨rfl, rfl⟩))
    go_ret
    exact ⟨rfl, rfl⟩
end Go.Proofs.YtcjieoomdhkleaaGreatDoor
